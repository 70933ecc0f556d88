/-
  The walk of the exact law of JoinedOf.
-/
import Derived.Test.YtnehbpihljbjdaaZA
import Derived.Test.YtnehbpihljbjdaaZI
import Derived.Test.YtnehbpihljbjdaaG2
import Derived.Test.YtnehbpihljbjdaaT7
import Derived.Test.YtnehbpihljbjdaaT8
import Derived.Test.YtnehbpihljbjdaaW0
namespace Go.Proofs.Ytnehbpihljbjdaa
open Go.RowKit Go.Shelf

theorem own_intsN_U4 {W : World} {base c n : Nat} {a : Option Addr} {xs : List Int} (hn : xs.length = n) (h : W.ownsRow base 3 1 (.slice a n c) n (xs.map (Value.int .i64))) : Ints W.heap.size W a xs := by
  subst hn; exact own_intsQ h

set_option maxRecDepth 100000 in
set_option maxHeartbeats 8000000 in
theorem exJoinedOf_any (a0 : Option Addr) (c0 : Nat) (x0 : List (List Int)) (a1 : Option Addr) (c1 : Nat) (x1 : List (List Int)) (a2 : Option Addr) (c2 : Nat) (x2 : List (List Int)) (a3 : Option Addr) (c3 : Nat) (x3 : List Int) (a4 : Option Addr) (c4 : Nat) (x4 : List Int) (w : World) (hM0 : Mat w.heap.size w a0 x0) (hl0 : x0.length ≤ 9223372036854775807) (hr0 : ∀ xs ∈ x0, xs.length ≤ 9223372036854775807) (hM1 : Mat w.heap.size w a1 x1) (hl1 : x1.length ≤ 9223372036854775807) (hr1 : ∀ xs ∈ x1, xs.length ≤ 9223372036854775807) (hM2 : Mat w.heap.size w a2 x2) (hl2 : x2.length ≤ 9223372036854775807) (hr2 : ∀ xs ∈ x2, xs.length ≤ 9223372036854775807) (hM3 : Ints w.heap.size w a3 x3) (hl3 : x3.length ≤ 9223372036854775807) (hM4 : Ints w.heap.size w a4 x4) (hl4 : x4.length ≤ 9223372036854775807) :
    Calls Try.prog 11 #[.slice a0 x0.length c0, .slice a1 x1.length c1, .slice a2 x2.length c2, .slice a3 x3.length c3, .slice a4 x4.length c4] w (Ans (.bool true) w) := by
  have Hr0 : Hid (∀ xs ∈ x0, xs.length ≤ 9223372036854775807) := hr0
  clear hr0
  have Hr1 : Hid (∀ xs ∈ x1, xs.length ≤ 9223372036854775807) := hr1
  clear hr1
  have Hr2 : Hid (∀ xs ∈ x2, xs.length ≤ 9223372036854775807) := hr2
  clear hr2
  by_cases hbig3 : 1048576 < x3.length
  · go_enter Try.func11, Try.ntmps11
    go_wp2_with fail
    go_ret
    exact ⟨rfl, Below.refl _ _⟩
  have HF3 : Hid (x3.length ≤ 1048576) := Lib.hid (by omega)
  have hly3 := HF3.out
  by_cases hbig4 : 1048576 < x4.length
  · go_enter Try.func11, Try.ntmps11
    go_wp2_with fail
    go_ret
    exact ⟨rfl, Below.refl _ _⟩
  have HF4 : Hid (x4.length ≤ 1048576) := Lib.hid (by omega)
  have hly4 := HF4.out
  obtain ⟨zs, HZ, HZL⟩ : ∃ zs, Hid (joiI x0 x1 x2 x3 x4 = zs) ∧ Hid (zs.length ≤ 1048576) := ⟨_, rfl, joiI_le HF3.out HF4.out⟩
  have hzl := HZL.out
  go_enter Try.func11, Try.ntmps11
  go_wp2_with fail
  refine (szSS_le _ _ _ _ _ _ (by omega) (by omega) hM0 hl0 Hr0.out).mono ?_
  rintro e wq ⟨r0, ⟨rfl, rfl⟩, hrr0, hfit0⟩
  by_cases hrn0 : r0 < 0
  · go_wp2_with fail
    go_ret
    exact ⟨rfl, Below.refl _ _⟩
  have HF0 := Lib.hid (hfit0 (by omega))
  have hlf0 := HF0.out.1
  clear hfit0
  go_wp2_with fail
  refine (szSS_le _ _ _ _ _ _ (by omega) (by omega) hM1 hl1 Hr1.out).mono ?_
  rintro e wq ⟨r1, ⟨rfl, rfl⟩, hrr1, hfit1⟩
  by_cases hrn1 : r1 < 0
  · go_wp2_with fail
    go_ret
    exact ⟨rfl, Below.refl _ _⟩
  have HF1 := Lib.hid (hfit1 (by omega))
  have hlf1 := HF1.out.1
  clear hfit1
  go_wp2_with fail
  refine (szSS_le _ _ _ _ _ _ (by omega) (by omega) hM2 hl2 Hr2.out).mono ?_
  rintro e wq ⟨r2, ⟨rfl, rfl⟩, hrr2, hfit2⟩
  by_cases hrn2 : r2 < 0
  · go_wp2_with fail
    go_ret
    exact ⟨rfl, Below.refl _ _⟩
  have HF2 := Lib.hid (hfit2 (by omega))
  have hlf2 := HF2.out.1
  clear hfit2
  have HB0 := Lib.hid (Below.refl w.heap.size w)
  have M0_0 := hM0
  have M1_0 := hM1
  have M2_0 := hM2
  have M3_0 := hM3
  have M4_0 := hM4
  clear hM0 hM1 hM2 hM3 hM4
  -- the model's answer
  go_wp2_with fail
  refine (toSS_any _ _ _ _ _ M0_0 HF0.out (by omega)).mono ?_
  rintro e w1 ⟨rfl, hB1, -, S0_1⟩
  have hz1 := hB1.size
  have M0_1 := M0_0.below (hB1.mono (by omega))
  have M1_1 := M1_0.below (hB1.mono (by omega))
  have M2_1 := M2_0.below (hB1.mono (by omega))
  have M3_1 := M3_0.below (hB1.mono (by omega))
  have M4_1 := M4_0.below (hB1.mono (by omega))
  have HB1 := Lib.hid (HB0.out.trans (hB1.mono HB0.out.size))
  clear hB1 HB0 M0_0 M1_0 M2_0 M3_0 M4_0
  go_wp2_with fail
  refine (toSS_any _ _ _ _ _ M1_1 HF1.out (by omega)).mono ?_
  rintro e w2 ⟨rfl, hB2, -, S1_2⟩
  have hz2 := hB2.size
  have M0_2 := M0_1.below (hB2.mono (by omega))
  have M1_2 := M1_1.below (hB2.mono (by omega))
  have M2_2 := M2_1.below (hB2.mono (by omega))
  have M3_2 := M3_1.below (hB2.mono (by omega))
  have M4_2 := M4_1.below (hB2.mono (by omega))
  have S0_2 := S0_1.below hB2 S0_1.len.1 S0_1.len.2
  have HB2 := Lib.hid (HB1.out.trans (hB2.mono HB1.out.size))
  clear hB2 HB1 M0_1 M1_1 M2_1 M3_1 M4_1 S0_1
  go_wp2_with fail
  refine (toSS_any _ _ _ _ _ M2_2 HF2.out (by omega)).mono ?_
  rintro e w3 ⟨rfl, hB3, -, S2_3⟩
  have hz3 := hB3.size
  have M0_3 := M0_2.below (hB3.mono (by omega))
  have M1_3 := M1_2.below (hB3.mono (by omega))
  have M2_3 := M2_2.below (hB3.mono (by omega))
  have M3_3 := M3_2.below (hB3.mono (by omega))
  have M4_3 := M4_2.below (hB3.mono (by omega))
  have S0_3 := S0_2.below hB3 S0_2.len.1 S0_2.len.2
  have S1_3 := S1_2.below hB3 S1_2.len.1 S1_2.len.2
  have HB3 := Lib.hid (HB2.out.trans (hB3.mono HB2.out.size))
  clear hB3 HB2 M0_2 M1_2 M2_2 M3_2 M4_2 S0_2 S1_2
  go_wp2_with fail
  refine (toS_any _ _ _ _ _ M3_3 HF3.out (by omega)).mono ?_
  rintro e w4 ⟨rfl, hB4, -, S3_4⟩
  have hz4 := hB4.size
  have M0_4 := M0_3.below (hB4.mono (by omega))
  have M1_4 := M1_3.below (hB4.mono (by omega))
  have M2_4 := M2_3.below (hB4.mono (by omega))
  have M3_4 := M3_3.below (hB4.mono (by omega))
  have M4_4 := M4_3.below (hB4.mono (by omega))
  have S0_4 := S0_3.below hB4 S0_3.len.1 S0_3.len.2
  have S1_4 := S1_3.below hB4 S1_3.len.1 S1_3.len.2
  have S2_4 := S2_3.below hB4 S2_3.len.1 S2_3.len.2
  have HB4 := Lib.hid (HB3.out.trans (hB4.mono HB3.out.size))
  clear hB4 HB3 M0_3 M1_3 M2_3 M3_3 M4_3 S0_3 S1_3 S2_3
  go_wp2_with fail
  refine (toS_any _ _ _ _ _ M4_4 HF4.out (by omega)).mono ?_
  rintro e w5 ⟨rfl, hB5, -, S4_5⟩
  have hz5 := hB5.size
  have M0_5 := M0_4.below (hB5.mono (by omega))
  have M1_5 := M1_4.below (hB5.mono (by omega))
  have M2_5 := M2_4.below (hB5.mono (by omega))
  have M3_5 := M3_4.below (hB5.mono (by omega))
  have M4_5 := M4_4.below (hB5.mono (by omega))
  have S0_5 := S0_4.below hB5 S0_4.len.1 S0_4.len.2
  have S1_5 := S1_4.below hB5 S1_4.len.1 S1_4.len.2
  have S2_5 := S2_4.below hB5 S2_4.len.1 S2_4.len.2
  have S3_5 := S3_4.below hB5 S3_4.lt
  have HB5 := Lib.hid (HB4.out.trans (hB5.mono HB4.out.size))
  clear hB5 HB4 M0_4 M1_4 M2_4 M3_4 M4_4 S0_4 S1_4 S2_4 S3_4
  go_wp2_with fail
  refine (specJoined _ _ _ _ _ _ _ _ _ _ _ _ _ _ _ _ _ S0_5.size S1_5.size S2_5.size (S3_5.ints (n₀ := w5.heap.size) S3_5.lt) (S4_5.ints (n₀ := w5.heap.size) S4_5.lt) (Nat.le_refl _) HF0.out HF1.out HF2.out HF3.out HF4.out).mono ?_
  rintro e w6 h6
  rw [HZ.out] at h6
  obtain ⟨b0, db0, ⟨rfl, hB6⟩, W_6⟩ := h6
  have hz6 := hB6.size
  have M0_6 := M0_5.below (hB6.mono (by omega))
  have M1_6 := M1_5.below (hB6.mono (by omega))
  have M2_6 := M2_5.below (hB6.mono (by omega))
  have M3_6 := M3_5.below (hB6.mono (by omega))
  have M4_6 := M4_5.below (hB6.mono (by omega))
  have HB6 := Lib.hid (HB5.out.trans (hB6.mono HB5.out.size))
  clear hB6 HB5 M0_5 M1_5 M2_5 M3_5 M4_5 S0_5 S1_5 S2_5 S3_5 S4_5
  -- the program's answer
  go_wp2_with fail
  refine (toSS_any _ _ _ _ _ M0_6 HF0.out (by omega)).mono ?_
  rintro e w7 ⟨rfl, hB7, hs7, X0_7⟩
  have hs7' : w6.heap.size + 1 + x0.length ≤ w7.heap.size := by omega
  clear hs7
  have hz7 := hB7.size
  have M0_7 := M0_6.below (hB7.mono (by omega))
  have M1_7 := M1_6.below (hB7.mono (by omega))
  have M2_7 := M2_6.below (hB7.mono (by omega))
  have M3_7 := M3_6.below (hB7.mono (by omega))
  have M4_7 := M4_6.below (hB7.mono (by omega))
  have W_7 := W_6.below (hB7.mono (by omega))
  have HB7 := Lib.hid (HB6.out.trans (hB7.mono HB6.out.size))
  clear hB7 HB6 M0_6 M1_6 M2_6 M3_6 M4_6 W_6
  go_wp2_with fail
  refine (toSS_any _ _ _ _ _ M1_7 HF1.out (by omega)).mono ?_
  rintro e w8 ⟨rfl, hB8, hs8, X1_8⟩
  have hs8' : w7.heap.size + 1 + x1.length ≤ w8.heap.size := by omega
  clear hs8
  have hz8 := hB8.size
  have M0_8 := M0_7.below (hB8.mono (by omega))
  have M1_8 := M1_7.below (hB8.mono (by omega))
  have M2_8 := M2_7.below (hB8.mono (by omega))
  have M3_8 := M3_7.below (hB8.mono (by omega))
  have M4_8 := M4_7.below (hB8.mono (by omega))
  have W_8 := W_7.below (hB8.mono (by omega))
  have X0_8 := X0_7.below hB8 X0_7.len.1 X0_7.len.2
  have HB8 := Lib.hid (HB7.out.trans (hB8.mono HB7.out.size))
  clear hB8 HB7 M0_7 M1_7 M2_7 M3_7 M4_7 W_7 X0_7
  go_wp2_with fail
  refine (toSS_any _ _ _ _ _ M2_8 HF2.out (by omega)).mono ?_
  rintro e w9 ⟨rfl, hB9, hs9, X2_9⟩
  have hs9' : w8.heap.size + 1 + x2.length ≤ w9.heap.size := by omega
  clear hs9
  have hz9 := hB9.size
  have M0_9 := M0_8.below (hB9.mono (by omega))
  have M1_9 := M1_8.below (hB9.mono (by omega))
  have M2_9 := M2_8.below (hB9.mono (by omega))
  have M3_9 := M3_8.below (hB9.mono (by omega))
  have M4_9 := M4_8.below (hB9.mono (by omega))
  have W_9 := W_8.below (hB9.mono (by omega))
  have X0_9 := X0_8.below hB9 X0_8.len.1 X0_8.len.2
  have X1_9 := X1_8.below hB9 X1_8.len.1 X1_8.len.2
  have HB9 := Lib.hid (HB8.out.trans (hB9.mono HB8.out.size))
  clear hB9 HB8 M0_8 M1_8 M2_8 M3_8 M4_8 W_8 X0_8 X1_8
  go_wp2_with fail
  refine (toS_any _ _ _ _ _ M3_9 HF3.out (by omega)).mono ?_
  rintro e w10 ⟨rfl, hB10, hs10, X3_10⟩
  have hs10' : w9.heap.size + 1 ≤ w10.heap.size := by omega
  clear hs10
  have hz10 := hB10.size
  have M0_10 := M0_9.below (hB10.mono (by omega))
  have M1_10 := M1_9.below (hB10.mono (by omega))
  have M2_10 := M2_9.below (hB10.mono (by omega))
  have M3_10 := M3_9.below (hB10.mono (by omega))
  have M4_10 := M4_9.below (hB10.mono (by omega))
  have W_10 := W_9.below (hB10.mono (by omega))
  have X0_10 := X0_9.below hB10 X0_9.len.1 X0_9.len.2
  have X1_10 := X1_9.below hB10 X1_9.len.1 X1_9.len.2
  have X2_10 := X2_9.below hB10 X2_9.len.1 X2_9.len.2
  have HB10 := Lib.hid (HB9.out.trans (hB10.mono HB9.out.size))
  clear hB10 HB9 M0_9 M1_9 M2_9 M3_9 M4_9 W_9 X0_9 X1_9 X2_9
  go_wp2_with fail
  refine (toS_any _ _ _ _ _ M4_10 HF4.out (by omega)).mono ?_
  rintro e w11 ⟨rfl, hB11, hs11, X4_11⟩
  have hs11' : w10.heap.size + 1 ≤ w11.heap.size := by omega
  clear hs11
  have hz11 := hB11.size
  have M0_11 := M0_10.below (hB11.mono (by omega))
  have M1_11 := M1_10.below (hB11.mono (by omega))
  have M2_11 := M2_10.below (hB11.mono (by omega))
  have M3_11 := M3_10.below (hB11.mono (by omega))
  have M4_11 := M4_10.below (hB11.mono (by omega))
  have W_11 := W_10.below (hB11.mono (by omega))
  have X0_11 := X0_10.below hB11 X0_10.len.1 X0_10.len.2
  have X1_11 := X1_10.below hB11 X1_10.len.1 X1_10.len.2
  have X2_11 := X2_10.below hB11 X2_10.len.1 X2_10.len.2
  have X3_11 := X3_10.below hB11 X3_10.lt
  have HB11 := Lib.hid (HB10.out.trans (hB11.mono HB10.out.size))
  clear hB11 HB10 M0_10 M1_10 M2_10 M3_10 M4_10 W_10 X0_10 X1_10 X2_10 X3_10
  go_wp2_with fail
  refine (implJoined _ _ _ _ _ _ _ _ _ _ _ _ _ _ _ _ X0_11.size X1_11.size X2_11.size (X3_11.ints (n₀ := w11.heap.size) X3_11.lt) (X4_11.ints (n₀ := w11.heap.size) X4_11.lt) HF0.out HF1.out HF2.out HF3.out HF4.out).mono ?_
  rintro e w12 h12
  rw [HZ.out] at h12
  obtain ⟨b1, db1, ⟨rfl, hB12⟩, V_12⟩ := h12
  have hz12 := hB12.size
  have M0_12 := M0_11.below (hB12.mono (by omega))
  have M1_12 := M1_11.below (hB12.mono (by omega))
  have M2_12 := M2_11.below (hB12.mono (by omega))
  have M3_12 := M3_11.below (hB12.mono (by omega))
  have M4_12 := M4_11.below (hB12.mono (by omega))
  have W_12 := W_11.below (hB12.mono (by omega))
  have X0_12 := X0_11.below hB12 X0_11.len.1 X0_11.len.2
  have X1_12 := X1_11.below hB12 X1_11.len.1 X1_11.len.2
  have X2_12 := X2_11.below hB12 X2_11.len.1 X2_11.len.2
  have X3_12 := X3_11.below hB12 X3_11.lt
  have X4_12 := X4_11.below hB12 X4_11.lt
  have HB12 := Lib.hid (HB11.out.trans (hB12.mono HB11.out.size))
  clear hB12 HB11 M0_11 M1_11 M2_11 M3_11 M4_11 W_11 X0_11 X1_11 X2_11 X3_11 X4_11
  go_wp2_with fail
  refine (eqS_same _ _ _ _ _ _ _ (own_intsQ V_12) (W_12.more (by omega)) HZL.out).mono ?_
  rintro e w13 h13
  obtain ⟨rfl, hB13⟩ := h13.below
  clear h13
  have hz13 := hB13.size
  have M0_13 := M0_12.below (hB13.mono (by omega))
  have M1_13 := M1_12.below (hB13.mono (by omega))
  have M2_13 := M2_12.below (hB13.mono (by omega))
  have M3_13 := M3_12.below (hB13.mono (by omega))
  have M4_13 := M4_12.below (hB13.mono (by omega))
  have W_13 := W_12.below (hB13.mono (by omega))
  have X0_13 := X0_12.below hB13 X0_12.len.1 X0_12.len.2
  have X1_13 := X1_12.below hB13 X1_12.len.1 X1_12.len.2
  have X2_13 := X2_12.below hB13 X2_12.len.1 X2_12.len.2
  have X3_13 := X3_12.below hB13 X3_12.lt
  have X4_13 := X4_12.below hB13 X4_12.lt
  have V_13 := ownsRow_below V_12 hB13
  have HB13 := Lib.hid (HB12.out.trans (hB13.mono HB12.out.size))
  clear hB13 HB12 M0_12 M1_12 M2_12 M3_12 M4_12 W_12 X0_12 X1_12 X2_12 X3_12 X4_12 V_12
  -- the arguments are as they were
  go_wp2_with fail
  refine (toSS_any _ _ _ _ _ M0_13 HF0.out (by omega)).mono ?_
  rintro e w14 ⟨rfl, hB14, -, Y0_14⟩
  have hz14 := hB14.size
  have M0_14 := M0_13.below (hB14.mono (by omega))
  have M1_14 := M1_13.below (hB14.mono (by omega))
  have M2_14 := M2_13.below (hB14.mono (by omega))
  have M3_14 := M3_13.below (hB14.mono (by omega))
  have M4_14 := M4_13.below (hB14.mono (by omega))
  have W_14 := W_13.below (hB14.mono (by omega))
  have X0_14 := X0_13.below hB14 X0_13.len.1 X0_13.len.2
  have X1_14 := X1_13.below hB14 X1_13.len.1 X1_13.len.2
  have X2_14 := X2_13.below hB14 X2_13.len.1 X2_13.len.2
  have X3_14 := X3_13.below hB14 X3_13.lt
  have X4_14 := X4_13.below hB14 X4_13.lt
  have V_14 := ownsRow_below V_13 hB14
  have HB14 := Lib.hid (HB13.out.trans (hB14.mono HB13.out.size))
  clear hB14 HB13 M0_13 M1_13 M2_13 M3_13 M4_13 W_13 X0_13 X1_13 X2_13 X3_13 X4_13 V_13
  go_wp2_with fail
  refine (eqSS_same _ _ _ _ _ _ _ X0_14.size Y0_14.size HF0.out).mono ?_
  rintro e w15 h15
  obtain ⟨rfl, hB15⟩ := h15.below
  clear h15
  have hz15 := hB15.size
  have M0_15 := M0_14.below (hB15.mono (by omega))
  have M1_15 := M1_14.below (hB15.mono (by omega))
  have M2_15 := M2_14.below (hB15.mono (by omega))
  have M3_15 := M3_14.below (hB15.mono (by omega))
  have M4_15 := M4_14.below (hB15.mono (by omega))
  have W_15 := W_14.below (hB15.mono (by omega))
  have X0_15 := X0_14.below hB15 X0_14.len.1 X0_14.len.2
  have X1_15 := X1_14.below hB15 X1_14.len.1 X1_14.len.2
  have X2_15 := X2_14.below hB15 X2_14.len.1 X2_14.len.2
  have X3_15 := X3_14.below hB15 X3_14.lt
  have X4_15 := X4_14.below hB15 X4_14.lt
  have V_15 := ownsRow_below V_14 hB15
  have HB15 := Lib.hid (HB14.out.trans (hB15.mono HB14.out.size))
  clear hB15 HB14 M0_14 M1_14 M2_14 M3_14 M4_14 W_14 X0_14 X1_14 X2_14 X3_14 X4_14 V_14 Y0_14
  go_wp2_with fail
  refine (toSS_any _ _ _ _ _ M1_15 HF1.out (by omega)).mono ?_
  rintro e w16 ⟨rfl, hB16, -, Y1_16⟩
  have hz16 := hB16.size
  have M0_16 := M0_15.below (hB16.mono (by omega))
  have M1_16 := M1_15.below (hB16.mono (by omega))
  have M2_16 := M2_15.below (hB16.mono (by omega))
  have M3_16 := M3_15.below (hB16.mono (by omega))
  have M4_16 := M4_15.below (hB16.mono (by omega))
  have W_16 := W_15.below (hB16.mono (by omega))
  have X0_16 := X0_15.below hB16 X0_15.len.1 X0_15.len.2
  have X1_16 := X1_15.below hB16 X1_15.len.1 X1_15.len.2
  have X2_16 := X2_15.below hB16 X2_15.len.1 X2_15.len.2
  have X3_16 := X3_15.below hB16 X3_15.lt
  have X4_16 := X4_15.below hB16 X4_15.lt
  have V_16 := ownsRow_below V_15 hB16
  have HB16 := Lib.hid (HB15.out.trans (hB16.mono HB15.out.size))
  clear hB16 HB15 M0_15 M1_15 M2_15 M3_15 M4_15 W_15 X0_15 X1_15 X2_15 X3_15 X4_15 V_15
  go_wp2_with fail
  refine (eqSS_same _ _ _ _ _ _ _ X1_16.size Y1_16.size HF1.out).mono ?_
  rintro e w17 h17
  obtain ⟨rfl, hB17⟩ := h17.below
  clear h17
  have hz17 := hB17.size
  have M0_17 := M0_16.below (hB17.mono (by omega))
  have M1_17 := M1_16.below (hB17.mono (by omega))
  have M2_17 := M2_16.below (hB17.mono (by omega))
  have M3_17 := M3_16.below (hB17.mono (by omega))
  have M4_17 := M4_16.below (hB17.mono (by omega))
  have W_17 := W_16.below (hB17.mono (by omega))
  have X0_17 := X0_16.below hB17 X0_16.len.1 X0_16.len.2
  have X1_17 := X1_16.below hB17 X1_16.len.1 X1_16.len.2
  have X2_17 := X2_16.below hB17 X2_16.len.1 X2_16.len.2
  have X3_17 := X3_16.below hB17 X3_16.lt
  have X4_17 := X4_16.below hB17 X4_16.lt
  have V_17 := ownsRow_below V_16 hB17
  have HB17 := Lib.hid (HB16.out.trans (hB17.mono HB16.out.size))
  clear hB17 HB16 M0_16 M1_16 M2_16 M3_16 M4_16 W_16 X0_16 X1_16 X2_16 X3_16 X4_16 V_16 Y1_16
  go_wp2_with fail
  refine (toSS_any _ _ _ _ _ M2_17 HF2.out (by omega)).mono ?_
  rintro e w18 ⟨rfl, hB18, -, Y2_18⟩
  have hz18 := hB18.size
  have M0_18 := M0_17.below (hB18.mono (by omega))
  have M1_18 := M1_17.below (hB18.mono (by omega))
  have M2_18 := M2_17.below (hB18.mono (by omega))
  have M3_18 := M3_17.below (hB18.mono (by omega))
  have M4_18 := M4_17.below (hB18.mono (by omega))
  have W_18 := W_17.below (hB18.mono (by omega))
  have X0_18 := X0_17.below hB18 X0_17.len.1 X0_17.len.2
  have X1_18 := X1_17.below hB18 X1_17.len.1 X1_17.len.2
  have X2_18 := X2_17.below hB18 X2_17.len.1 X2_17.len.2
  have X3_18 := X3_17.below hB18 X3_17.lt
  have X4_18 := X4_17.below hB18 X4_17.lt
  have V_18 := ownsRow_below V_17 hB18
  have HB18 := Lib.hid (HB17.out.trans (hB18.mono HB17.out.size))
  clear hB18 HB17 M0_17 M1_17 M2_17 M3_17 M4_17 W_17 X0_17 X1_17 X2_17 X3_17 X4_17 V_17
  go_wp2_with fail
  refine (eqSS_same _ _ _ _ _ _ _ X2_18.size Y2_18.size HF2.out).mono ?_
  rintro e w19 h19
  obtain ⟨rfl, hB19⟩ := h19.below
  clear h19
  have hz19 := hB19.size
  have M0_19 := M0_18.below (hB19.mono (by omega))
  have M1_19 := M1_18.below (hB19.mono (by omega))
  have M2_19 := M2_18.below (hB19.mono (by omega))
  have M3_19 := M3_18.below (hB19.mono (by omega))
  have M4_19 := M4_18.below (hB19.mono (by omega))
  have W_19 := W_18.below (hB19.mono (by omega))
  have X0_19 := X0_18.below hB19 X0_18.len.1 X0_18.len.2
  have X1_19 := X1_18.below hB19 X1_18.len.1 X1_18.len.2
  have X2_19 := X2_18.below hB19 X2_18.len.1 X2_18.len.2
  have X3_19 := X3_18.below hB19 X3_18.lt
  have X4_19 := X4_18.below hB19 X4_18.lt
  have V_19 := ownsRow_below V_18 hB19
  have HB19 := Lib.hid (HB18.out.trans (hB19.mono HB18.out.size))
  clear hB19 HB18 M0_18 M1_18 M2_18 M3_18 M4_18 W_18 X0_18 X1_18 X2_18 X3_18 X4_18 V_18 Y2_18
  go_wp2_with fail
  refine (toS_any _ _ _ _ _ M3_19 HF3.out (by omega)).mono ?_
  rintro e w20 ⟨rfl, hB20, -, Y3_20⟩
  have hz20 := hB20.size
  have M0_20 := M0_19.below (hB20.mono (by omega))
  have M1_20 := M1_19.below (hB20.mono (by omega))
  have M2_20 := M2_19.below (hB20.mono (by omega))
  have M3_20 := M3_19.below (hB20.mono (by omega))
  have M4_20 := M4_19.below (hB20.mono (by omega))
  have W_20 := W_19.below (hB20.mono (by omega))
  have X0_20 := X0_19.below hB20 X0_19.len.1 X0_19.len.2
  have X1_20 := X1_19.below hB20 X1_19.len.1 X1_19.len.2
  have X2_20 := X2_19.below hB20 X2_19.len.1 X2_19.len.2
  have X3_20 := X3_19.below hB20 X3_19.lt
  have X4_20 := X4_19.below hB20 X4_19.lt
  have V_20 := ownsRow_below V_19 hB20
  have HB20 := Lib.hid (HB19.out.trans (hB20.mono HB19.out.size))
  clear hB20 HB19 M0_19 M1_19 M2_19 M3_19 M4_19 W_19 X0_19 X1_19 X2_19 X3_19 X4_19 V_19
  go_wp2_with fail
  refine (eqS_same _ _ _ _ _ _ _ (X3_20.ints (n₀ := w20.heap.size) X3_20.lt) (Y3_20.ints (n₀ := w20.heap.size) Y3_20.lt) HF3.out).mono ?_
  rintro e w21 h21
  obtain ⟨rfl, hB21⟩ := h21.below
  clear h21
  have hz21 := hB21.size
  have M0_21 := M0_20.below (hB21.mono (by omega))
  have M1_21 := M1_20.below (hB21.mono (by omega))
  have M2_21 := M2_20.below (hB21.mono (by omega))
  have M3_21 := M3_20.below (hB21.mono (by omega))
  have M4_21 := M4_20.below (hB21.mono (by omega))
  have W_21 := W_20.below (hB21.mono (by omega))
  have X0_21 := X0_20.below hB21 X0_20.len.1 X0_20.len.2
  have X1_21 := X1_20.below hB21 X1_20.len.1 X1_20.len.2
  have X2_21 := X2_20.below hB21 X2_20.len.1 X2_20.len.2
  have X3_21 := X3_20.below hB21 X3_20.lt
  have X4_21 := X4_20.below hB21 X4_20.lt
  have V_21 := ownsRow_below V_20 hB21
  have HB21 := Lib.hid (HB20.out.trans (hB21.mono HB20.out.size))
  clear hB21 HB20 M0_20 M1_20 M2_20 M3_20 M4_20 W_20 X0_20 X1_20 X2_20 X3_20 X4_20 V_20 Y3_20
  go_wp2_with fail
  refine (toS_any _ _ _ _ _ M4_21 HF4.out (by omega)).mono ?_
  rintro e w22 ⟨rfl, hB22, -, Y4_22⟩
  have hz22 := hB22.size
  have M0_22 := M0_21.below (hB22.mono (by omega))
  have M1_22 := M1_21.below (hB22.mono (by omega))
  have M2_22 := M2_21.below (hB22.mono (by omega))
  have M3_22 := M3_21.below (hB22.mono (by omega))
  have M4_22 := M4_21.below (hB22.mono (by omega))
  have W_22 := W_21.below (hB22.mono (by omega))
  have X0_22 := X0_21.below hB22 X0_21.len.1 X0_21.len.2
  have X1_22 := X1_21.below hB22 X1_21.len.1 X1_21.len.2
  have X2_22 := X2_21.below hB22 X2_21.len.1 X2_21.len.2
  have X3_22 := X3_21.below hB22 X3_21.lt
  have X4_22 := X4_21.below hB22 X4_21.lt
  have V_22 := ownsRow_below V_21 hB22
  have HB22 := Lib.hid (HB21.out.trans (hB22.mono HB21.out.size))
  clear hB22 HB21 M0_21 M1_21 M2_21 M3_21 M4_21 W_21 X0_21 X1_21 X2_21 X3_21 X4_21 V_21
  go_wp2_with fail
  refine (eqS_same _ _ _ _ _ _ _ (X4_22.ints (n₀ := w22.heap.size) X4_22.lt) (Y4_22.ints (n₀ := w22.heap.size) Y4_22.lt) HF4.out).mono ?_
  rintro e w23 h23
  obtain ⟨rfl, hB23⟩ := h23.below
  clear h23
  have hz23 := hB23.size
  have M0_23 := M0_22.below (hB23.mono (by omega))
  have M1_23 := M1_22.below (hB23.mono (by omega))
  have M2_23 := M2_22.below (hB23.mono (by omega))
  have M3_23 := M3_22.below (hB23.mono (by omega))
  have M4_23 := M4_22.below (hB23.mono (by omega))
  have W_23 := W_22.below (hB23.mono (by omega))
  have X0_23 := X0_22.below hB23 X0_22.len.1 X0_22.len.2
  have X1_23 := X1_22.below hB23 X1_22.len.1 X1_22.len.2
  have X2_23 := X2_22.below hB23 X2_22.len.1 X2_22.len.2
  have X3_23 := X3_22.below hB23 X3_22.lt
  have X4_23 := X4_22.below hB23 X4_22.lt
  have V_23 := ownsRow_below V_22 hB23
  have HB23 := Lib.hid (HB22.out.trans (hB23.mono HB22.out.size))
  clear hB23 HB22 M0_22 M1_22 M2_22 M3_22 M4_22 W_22 X0_22 X1_22 X2_22 X3_22 X4_22 V_22 Y4_22
  -- the arguments' copies are marked: the answer stays
  have htt0 := tot_le HF0.out x0.length (Nat.le_refl _)
  rw [tot_all] at htt0
  have htm0 : x0.length * 1048576 ≤ 1048576 * 1048576 := Nat.mul_le_mul hlf0 (Nat.le_refl _)
  go_wp2_with fail
  refine (markSS_huge _ _ 1 _ _ _ X0_23 HF0.out (fun i j h => by have h' : w6.heap.size + 1 + i = w6.heap.size + 1 + j := h; omega) (by omega)).mono ?_
  rintro e w24 ⟨he24, -, ht24⟩
  obtain ⟨k0, hk0⟩ : ∃ k0, k0 = 1 + tot x0 := ⟨_, rfl⟩
  rw [← hk0] at he24
  subst he24
  have hqk0 : k0 ≤ 1099511627777 := by omega
  clear hk0
  have hS24 : ∀ B, (∃ i, i < x0.length ∧ B = w6.heap.size + 1 + i) → w6.heap.size ≤ B ∧ B < w7.heap.size := fun B s => by obtain ⟨i, hi, rfl⟩ := s; constructor <;> omega
  have M0_24 := ht24.mat M0_23 fun B s => by have := hS24 B s; omega
  have M1_24 := ht24.mat M1_23 fun B s => by have := hS24 B s; omega
  have M2_24 := ht24.mat M2_23 fun B s => by have := hS24 B s; omega
  have M3_24 := ht24.ints M3_23 fun B s => by have := hS24 B s; omega
  have M4_24 := ht24.ints M4_23 fun B s => by have := hS24 B s; omega
  have W_24 := ht24.ints W_23 fun B s => by have := hS24 B s; omega
  have X1_24 := ht24.own X1_23 (fun s => by have := hS24 _ s; omega) (fun i hi s => by have h' := hS24 (w7.heap.size + 1 + i) s; omega)
  have X2_24 := ht24.own X2_23 (fun s => by have := hS24 _ s; omega) (fun i hi s => by have h' := hS24 (w8.heap.size + 1 + i) s; omega)
  have X3_24 := ht24.rowI' X3_23 fun s => by have := hS24 _ s; omega
  have X4_24 := ht24.rowI' X4_23 fun s => by have := hS24 _ s; omega
  have V_24 := own_blockQ V_23 (fun g hg => ht24.block g (fun s => by have h1 := (V_23.lt g hg).1; have h2 := hS24 g s; omega))
  have hz24 : w23.heap.size ≤ w24.heap.size := by rw [ht24.size]; exact Nat.le_refl _
  have HB24 := Lib.hid (HB23.out.trans (ht24.below (n := w.heap.size) fun B s => by have := hS24 B s; omega))
  clear ht24 hS24 HB23 M0_23 M1_23 M2_23 M3_23 M4_23 W_23 X0_23 X1_23 X2_23 X3_23 X4_23 V_23
  clear htt0 htm0
  have htt1 := tot_le HF1.out x1.length (Nat.le_refl _)
  rw [tot_all] at htt1
  have htm1 : x1.length * 1048576 ≤ 1048576 * 1048576 := Nat.mul_le_mul hlf1 (Nat.le_refl _)
  go_wp2_with fail
  refine (markSS_huge _ _ k0 _ _ _ X1_24 HF1.out (fun i j h => by have h' : w7.heap.size + 1 + i = w7.heap.size + 1 + j := h; omega) (by omega)).mono ?_
  rintro e w25 ⟨he25, -, ht25⟩
  obtain ⟨k1, hk1⟩ : ∃ k1, k1 = k0 + tot x1 := ⟨_, rfl⟩
  rw [← hk1] at he25
  subst he25
  have hqk1 : k1 ≤ 2199023255553 := by omega
  clear hk1
  have hS25 : ∀ B, (∃ i, i < x1.length ∧ B = w7.heap.size + 1 + i) → w7.heap.size ≤ B ∧ B < w8.heap.size := fun B s => by obtain ⟨i, hi, rfl⟩ := s; constructor <;> omega
  have M0_25 := ht25.mat M0_24 fun B s => by have := hS25 B s; omega
  have M1_25 := ht25.mat M1_24 fun B s => by have := hS25 B s; omega
  have M2_25 := ht25.mat M2_24 fun B s => by have := hS25 B s; omega
  have M3_25 := ht25.ints M3_24 fun B s => by have := hS25 B s; omega
  have M4_25 := ht25.ints M4_24 fun B s => by have := hS25 B s; omega
  have W_25 := ht25.ints W_24 fun B s => by have := hS25 B s; omega
  have X2_25 := ht25.own X2_24 (fun s => by have := hS25 _ s; omega) (fun i hi s => by have h' := hS25 (w8.heap.size + 1 + i) s; omega)
  have X3_25 := ht25.rowI' X3_24 fun s => by have := hS25 _ s; omega
  have X4_25 := ht25.rowI' X4_24 fun s => by have := hS25 _ s; omega
  have V_25 := own_blockQ V_24 (fun g hg => ht25.block g (fun s => by have h1 := (V_24.lt g hg).1; have h2 := hS25 g s; omega))
  have hz25 : w24.heap.size ≤ w25.heap.size := by rw [ht25.size]; exact Nat.le_refl _
  have HB25 := Lib.hid (HB24.out.trans (ht25.below (n := w.heap.size) fun B s => by have := hS25 B s; omega))
  clear ht25 hS25 HB24 M0_24 M1_24 M2_24 M3_24 M4_24 W_24 X1_24 X2_24 X3_24 X4_24 V_24
  clear htt1 htm1
  have htt2 := tot_le HF2.out x2.length (Nat.le_refl _)
  rw [tot_all] at htt2
  have htm2 : x2.length * 1048576 ≤ 1048576 * 1048576 := Nat.mul_le_mul hlf2 (Nat.le_refl _)
  go_wp2_with fail
  refine (markSS_huge _ _ k1 _ _ _ X2_25 HF2.out (fun i j h => by have h' : w8.heap.size + 1 + i = w8.heap.size + 1 + j := h; omega) (by omega)).mono ?_
  rintro e w26 ⟨he26, -, ht26⟩
  obtain ⟨k2, hk2⟩ : ∃ k2, k2 = k1 + tot x2 := ⟨_, rfl⟩
  rw [← hk2] at he26
  subst he26
  have hqk2 : k2 ≤ 3298534883329 := by omega
  clear hk2
  have hS26 : ∀ B, (∃ i, i < x2.length ∧ B = w8.heap.size + 1 + i) → w8.heap.size ≤ B ∧ B < w9.heap.size := fun B s => by obtain ⟨i, hi, rfl⟩ := s; constructor <;> omega
  have M0_26 := ht26.mat M0_25 fun B s => by have := hS26 B s; omega
  have M1_26 := ht26.mat M1_25 fun B s => by have := hS26 B s; omega
  have M2_26 := ht26.mat M2_25 fun B s => by have := hS26 B s; omega
  have M3_26 := ht26.ints M3_25 fun B s => by have := hS26 B s; omega
  have M4_26 := ht26.ints M4_25 fun B s => by have := hS26 B s; omega
  have W_26 := ht26.ints W_25 fun B s => by have := hS26 B s; omega
  have X3_26 := ht26.rowI' X3_25 fun s => by have := hS26 _ s; omega
  have X4_26 := ht26.rowI' X4_25 fun s => by have := hS26 _ s; omega
  have V_26 := own_blockQ V_25 (fun g hg => ht26.block g (fun s => by have h1 := (V_25.lt g hg).1; have h2 := hS26 g s; omega))
  have hz26 : w25.heap.size ≤ w26.heap.size := by rw [ht26.size]; exact Nat.le_refl _
  have HB26 := Lib.hid (HB25.out.trans (ht26.below (n := w.heap.size) fun B s => by have := hS26 B s; omega))
  clear ht26 hS26 HB25 M0_25 M1_25 M2_25 M3_25 M4_25 W_25 X2_25 X3_25 X4_25 V_25
  clear htt2 htm2
  go_wp2_with fail
  refine (markS_any _ _ k2 _ _ X3_26 HF3.out (by omega)).mono ?_
  rintro e w27 ⟨he27, -, ht27⟩
  obtain ⟨k3, hk3⟩ : ∃ k3, k3 = k2 + x3.length := ⟨_, rfl⟩
  rw [← hk3] at he27
  subst he27
  have hqk3 : k3 ≤ 3298535931905 := by omega
  clear hk3
  have hS27 : ∀ B, B = w9.heap.size → w9.heap.size ≤ B ∧ B < w10.heap.size := fun B s => by subst s; constructor <;> omega
  have M0_27 := ht27.mat M0_26 fun B s => by have := hS27 B s; omega
  have M1_27 := ht27.mat M1_26 fun B s => by have := hS27 B s; omega
  have M2_27 := ht27.mat M2_26 fun B s => by have := hS27 B s; omega
  have M3_27 := ht27.ints M3_26 fun B s => by have := hS27 B s; omega
  have M4_27 := ht27.ints M4_26 fun B s => by have := hS27 B s; omega
  have W_27 := ht27.ints W_26 fun B s => by have := hS27 B s; omega
  have X4_27 := ht27.rowI' X4_26 fun s => by have := hS27 _ s; omega
  have V_27 := own_blockQ V_26 (fun g hg => ht27.block g (fun s => by have h1 := (V_26.lt g hg).1; have h2 := hS27 g s; omega))
  have hz27 : w26.heap.size ≤ w27.heap.size := by rw [ht27.size]; exact Nat.le_refl _
  have HB27 := Lib.hid (HB26.out.trans (ht27.below (n := w.heap.size) fun B s => by have := hS27 B s; omega))
  clear ht27 hS27 HB26 M0_26 M1_26 M2_26 M3_26 M4_26 W_26 X3_26 X4_26 V_26
  go_wp2_with fail
  refine (markS_any _ _ k3 _ _ X4_27 HF4.out (by omega)).mono ?_
  rintro e w28 ⟨he28, -, ht28⟩
  obtain ⟨k4, hk4⟩ : ∃ k4, k4 = k3 + x4.length := ⟨_, rfl⟩
  rw [← hk4] at he28
  subst he28
  have hqk4 : k4 ≤ 3298536980481 := by omega
  clear hk4
  have hS28 : ∀ B, B = w10.heap.size → w10.heap.size ≤ B ∧ B < w11.heap.size := fun B s => by subst s; constructor <;> omega
  have M0_28 := ht28.mat M0_27 fun B s => by have := hS28 B s; omega
  have M1_28 := ht28.mat M1_27 fun B s => by have := hS28 B s; omega
  have M2_28 := ht28.mat M2_27 fun B s => by have := hS28 B s; omega
  have M3_28 := ht28.ints M3_27 fun B s => by have := hS28 B s; omega
  have M4_28 := ht28.ints M4_27 fun B s => by have := hS28 B s; omega
  have W_28 := ht28.ints W_27 fun B s => by have := hS28 B s; omega
  have V_28 := own_blockQ V_27 (fun g hg => ht28.block g (fun s => by have h1 := (V_27.lt g hg).1; have h2 := hS28 g s; omega))
  have hz28 : w27.heap.size ≤ w28.heap.size := by rw [ht28.size]; exact Nat.le_refl _
  have HB28 := Lib.hid (HB27.out.trans (ht28.below (n := w.heap.size) fun B s => by have := hS28 B s; omega))
  clear ht28 hS28 HB27 M0_27 M1_27 M2_27 M3_27 M4_27 W_27 X4_27 V_27
  go_wp2_with fail
  refine (eqS_same _ _ _ _ _ _ _ (own_intsQ V_28) (W_28.more (by omega)) HZL.out).mono ?_
  rintro e w29 h29
  obtain ⟨rfl, hB29⟩ := h29.below
  clear h29
  have hz29 := hB29.size
  have M0_29 := M0_28.below (hB29.mono (by omega))
  have M1_29 := M1_28.below (hB29.mono (by omega))
  have M2_29 := M2_28.below (hB29.mono (by omega))
  have M3_29 := M3_28.below (hB29.mono (by omega))
  have M4_29 := M4_28.below (hB29.mono (by omega))
  have W_29 := W_28.below (hB29.mono (by omega))
  have V_29 := ownsRow_below V_28 hB29
  have HB29 := Lib.hid (HB28.out.trans (hB29.mono HB28.out.size))
  clear hB29 HB28 M0_28 M1_28 M2_28 M3_28 M4_28 W_28 V_28
  -- the answer is marked, and held
  go_wp2_with fail
  refine (markO_anyQ _ _ 1 _ _ V_29 HZL.out (by omega)).mono ?_
  rintro e w30 ⟨he30, U_30, ht30⟩
  obtain ⟨q9, hq9⟩ : ∃ q9, q9 = 1 + zs.length := ⟨_, rfl⟩
  rw [← hq9] at he30
  subst he30
  have HQ9 := Lib.hid hq9
  clear hq9
  have hS30 : ∀ B, (Value.slice b1 zs.length db1).ownBlock = some B → w11.heap.size ≤ B := fun B s => (V_29.lt B s).1
  have M0_30 := ht30.mat M0_29 fun B s => by have := hS30 B s; omega
  have M1_30 := ht30.mat M1_29 fun B s => by have := hS30 B s; omega
  have M2_30 := ht30.mat M2_29 fun B s => by have := hS30 B s; omega
  have M3_30 := ht30.ints M3_29 fun B s => by have := hS30 B s; omega
  have M4_30 := ht30.ints M4_29 fun B s => by have := hS30 B s; omega
  have W_30 := ht30.ints W_29 fun B s => by have := hS30 B s; omega
  have hz30 : w29.heap.size ≤ w30.heap.size := by rw [ht30.size]; exact Nat.le_refl _
  have HB30 := Lib.hid (HB29.out.trans (ht30.below (n := w.heap.size) fun B s => by have := hS30 B s; omega))
  clear ht30 hS30 HB29 M0_29 M1_29 M2_29 M3_29 M4_29 W_29 V_29
  have hqq : ((q9 : Int) != (q9 : Int)) = false := by simp
  go_wp2_with fail
  refine (heldS_any _ _ 1 _ _ _ (own_intsN_U4 (seqL_length 1 zs.length) U_30) HZL.out (by omega)).mono ?_
  rw [← HQ9.out]
  rintro e wq ⟨rfl, rfl⟩
  -- another call's answer does not share it
  go_wp2_with fail
  refine (toSS_any _ _ _ _ _ M0_30 HF0.out (by omega)).mono ?_
  rintro e w31 ⟨rfl, hB31, -, A0_31⟩
  have hz31 := hB31.size
  have M0_31 := M0_30.below (hB31.mono (by omega))
  have M1_31 := M1_30.below (hB31.mono (by omega))
  have M2_31 := M2_30.below (hB31.mono (by omega))
  have M3_31 := M3_30.below (hB31.mono (by omega))
  have M4_31 := M4_30.below (hB31.mono (by omega))
  have W_31 := W_30.below (hB31.mono (by omega))
  have U_31 := ownsRow_below U_30 hB31
  have HB31 := Lib.hid (HB30.out.trans (hB31.mono HB30.out.size))
  clear hB31 HB30 M0_30 M1_30 M2_30 M3_30 M4_30 W_30 U_30
  go_wp2_with fail
  refine (toSS_any _ _ _ _ _ M1_31 HF1.out (by omega)).mono ?_
  rintro e w32 ⟨rfl, hB32, -, A1_32⟩
  have hz32 := hB32.size
  have M0_32 := M0_31.below (hB32.mono (by omega))
  have M1_32 := M1_31.below (hB32.mono (by omega))
  have M2_32 := M2_31.below (hB32.mono (by omega))
  have M3_32 := M3_31.below (hB32.mono (by omega))
  have M4_32 := M4_31.below (hB32.mono (by omega))
  have W_32 := W_31.below (hB32.mono (by omega))
  have U_32 := ownsRow_below U_31 hB32
  have A0_32 := A0_31.below hB32 A0_31.len.1 A0_31.len.2
  have HB32 := Lib.hid (HB31.out.trans (hB32.mono HB31.out.size))
  clear hB32 HB31 M0_31 M1_31 M2_31 M3_31 M4_31 W_31 U_31 A0_31
  go_wp2_with fail
  refine (toSS_any _ _ _ _ _ M2_32 HF2.out (by omega)).mono ?_
  rintro e w33 ⟨rfl, hB33, -, A2_33⟩
  have hz33 := hB33.size
  have M0_33 := M0_32.below (hB33.mono (by omega))
  have M1_33 := M1_32.below (hB33.mono (by omega))
  have M2_33 := M2_32.below (hB33.mono (by omega))
  have M3_33 := M3_32.below (hB33.mono (by omega))
  have M4_33 := M4_32.below (hB33.mono (by omega))
  have W_33 := W_32.below (hB33.mono (by omega))
  have U_33 := ownsRow_below U_32 hB33
  have A0_33 := A0_32.below hB33 A0_32.len.1 A0_32.len.2
  have A1_33 := A1_32.below hB33 A1_32.len.1 A1_32.len.2
  have HB33 := Lib.hid (HB32.out.trans (hB33.mono HB32.out.size))
  clear hB33 HB32 M0_32 M1_32 M2_32 M3_32 M4_32 W_32 U_32 A0_32 A1_32
  go_wp2_with fail
  refine (toS_any _ _ _ _ _ M3_33 HF3.out (by omega)).mono ?_
  rintro e w34 ⟨rfl, hB34, -, A3_34⟩
  have hz34 := hB34.size
  have M0_34 := M0_33.below (hB34.mono (by omega))
  have M1_34 := M1_33.below (hB34.mono (by omega))
  have M2_34 := M2_33.below (hB34.mono (by omega))
  have M3_34 := M3_33.below (hB34.mono (by omega))
  have M4_34 := M4_33.below (hB34.mono (by omega))
  have W_34 := W_33.below (hB34.mono (by omega))
  have U_34 := ownsRow_below U_33 hB34
  have A0_34 := A0_33.below hB34 A0_33.len.1 A0_33.len.2
  have A1_34 := A1_33.below hB34 A1_33.len.1 A1_33.len.2
  have A2_34 := A2_33.below hB34 A2_33.len.1 A2_33.len.2
  have HB34 := Lib.hid (HB33.out.trans (hB34.mono HB33.out.size))
  clear hB34 HB33 M0_33 M1_33 M2_33 M3_33 M4_33 W_33 U_33 A0_33 A1_33 A2_33
  go_wp2_with fail
  refine (toS_any _ _ _ _ _ M4_34 HF4.out (by omega)).mono ?_
  rintro e w35 ⟨rfl, hB35, -, A4_35⟩
  have hz35 := hB35.size
  have M0_35 := M0_34.below (hB35.mono (by omega))
  have M1_35 := M1_34.below (hB35.mono (by omega))
  have M2_35 := M2_34.below (hB35.mono (by omega))
  have M3_35 := M3_34.below (hB35.mono (by omega))
  have M4_35 := M4_34.below (hB35.mono (by omega))
  have W_35 := W_34.below (hB35.mono (by omega))
  have U_35 := ownsRow_below U_34 hB35
  have A0_35 := A0_34.below hB35 A0_34.len.1 A0_34.len.2
  have A1_35 := A1_34.below hB35 A1_34.len.1 A1_34.len.2
  have A2_35 := A2_34.below hB35 A2_34.len.1 A2_34.len.2
  have A3_35 := A3_34.below hB35 A3_34.lt
  have HB35 := Lib.hid (HB34.out.trans (hB35.mono HB34.out.size))
  clear hB35 HB34 M0_34 M1_34 M2_34 M3_34 M4_34 W_34 U_34 A0_34 A1_34 A2_34 A3_34
  go_wp2_with fail
  refine (implJoined _ _ _ _ _ _ _ _ _ _ _ _ _ _ _ _ A0_35.size A1_35.size A2_35.size (A3_35.ints (n₀ := w35.heap.size) A3_35.lt) (A4_35.ints (n₀ := w35.heap.size) A4_35.lt) HF0.out HF1.out HF2.out HF3.out HF4.out).mono ?_
  rintro e w36 h36
  rw [HZ.out] at h36
  obtain ⟨b2, db2, ⟨rfl, hB36⟩, Z_36⟩ := h36
  have hz36 := hB36.size
  have W_36 := W_35.below (hB36.mono (by omega))
  have U_36 := ownsRow_below U_35 hB36
  have HB36 := Lib.hid (HB35.out.trans (hB36.mono HB35.out.size))
  clear hB36 HB35 M0_35 M1_35 M2_35 M3_35 M4_35 W_35 U_35 A0_35 A1_35 A2_35 A3_35 A4_35
  go_wp2_with fail
  refine (eqS_same _ _ _ _ _ _ _ (own_intsQ Z_36) (W_36.more (by omega)) HZL.out).mono ?_
  rintro e w37 h37
  obtain ⟨rfl, hB37⟩ := h37.below
  clear h37
  have hz37 := hB37.size
  have W_37 := W_36.below (hB37.mono (by omega))
  have U_37 := ownsRow_below U_36 hB37
  have Z_37 := ownsRow_below Z_36 hB37
  have HB37 := Lib.hid (HB36.out.trans (hB37.mono HB36.out.size))
  clear hB37 HB36 W_36 U_36 Z_36
  go_wp2_with fail
  refine (heldS_any _ _ 1 _ _ _ (own_intsN_U4 (seqL_length 1 zs.length) U_37) HZL.out (by omega)).mono ?_
  rw [← HQ9.out]
  rintro e wq ⟨rfl, rfl⟩
  go_wp2_with fail
  go_ret
  exact ⟨rfl, HB37.out⟩

end Go.Proofs.Ytnehbpihljbjdaa
