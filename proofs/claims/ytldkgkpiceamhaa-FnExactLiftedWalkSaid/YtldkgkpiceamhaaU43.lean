/-
  The walk of the exact law of LiftedWalk.
-/
import Derived.Test.YtldkgkpiceamhaaZA
import Derived.Test.YtldkgkpiceamhaaZI
import Derived.Test.YtldkgkpiceamhaaZB
import Derived.Test.YtldkgkpiceamhaaXF
import Derived.Test.YtldkgkpiceamhaaXC
import Derived.Test.YtldkgkpiceamhaaW0
namespace Go.Proofs.Ytldkgkpiceamhaa
open Go.RowKit Go.Shelf

theorem own_intsN_U43 {W : World} {base c n : Nat} {a : Option Addr} {xs : List Int} (hn : xs.length = n) (h : W.ownsRow base 3 1 (.slice a n c) n (xs.map (Value.int .i64))) : Ints W.heap.size W a xs := by
  subst hn; exact own_intsQ h

set_option maxRecDepth 100000 in
set_option maxHeartbeats 8000000 in
theorem exLiftedWalk_any (a0 : Option Addr) (c0 : Nat) (x0 : List (List Int)) (a1 : Option Addr) (c1 : Nat) (x1 : List (List Int)) (a2 : Option Addr) (c2 : Nat) (x2 : List Int) (a3 : Option Addr) (c3 : Nat) (x3 : List Int) (x4 : Int) (w : World) (hM0 : Mat w.heap.size w a0 x0) (hl0 : x0.length ≤ 9223372036854775807) (hr0 : ∀ xs ∈ x0, xs.length ≤ 9223372036854775807) (hM1 : Mat w.heap.size w a1 x1) (hl1 : x1.length ≤ 9223372036854775807) (hr1 : ∀ xs ∈ x1, xs.length ≤ 9223372036854775807) (hM2 : Ints w.heap.size w a2 x2) (hl2 : x2.length ≤ 9223372036854775807) (hM3 : Ints w.heap.size w a3 x3) (hl3 : x3.length ≤ 9223372036854775807) :
    Calls Try.prog 11 #[.slice a0 x0.length c0, .slice a1 x1.length c1, .slice a2 x2.length c2, .slice a3 x3.length c3, .int .i64 x4] w (Ans (.bool true) w) := by
  have Hr0 : Hid (∀ xs ∈ x0, xs.length ≤ 9223372036854775807) := hr0
  clear hr0
  have Hr1 : Hid (∀ xs ∈ x1, xs.length ≤ 9223372036854775807) := hr1
  clear hr1
  by_cases hbig2 : 1048576 < x2.length
  · go_enter Try.func11, Try.ntmps11
    go_wp2_with fail
    go_ret
    exact ⟨rfl, Below.refl _ _⟩
  have HF2 : Hid (x2.length ≤ 1048576) := Lib.hid (by omega)
  have hly2 := HF2.out
  by_cases hbig3 : 1048576 < x3.length
  · go_enter Try.func11, Try.ntmps11
    go_wp2_with fail
    go_ret
    exact ⟨rfl, Below.refl _ _⟩
  have HF3 : Hid (x3.length ≤ 1048576) := Lib.hid (by omega)
  have hly3 := HF3.out
  obtain ⟨zs, HZ, HZL⟩ : ∃ zs, Hid (liwI x0 x1 x2 x3 x4 = zs) ∧ Hid (zs.length ≤ 1048576) := ⟨_, rfl, liwI_le⟩
  obtain ⟨yes, HY⟩ : ∃ yes, Hid (lifK x0 x1 x2 x3 x4 = yes) := ⟨_, rfl⟩
  have hyy : (yes != yes) = false := by simp
  have hzl := HZL.out
  go_enter Try.func11, Try.ntmps11
  go_wp2_with fail
  refine (szSS_le _ _ _ _ _ _ (by omega) (by omega) hM0 hl0 Hr0.out).mono ?_
  rintro e wq ⟨r0, ⟨rfl, rfl⟩, hrr0, hfit0⟩
  by_cases hrn0 : r0 < 0
  · go_wp2_with fail
    go_ret
    exact ⟨rfl, Below.refl _ _⟩
  have HF0 := Lib.hid (hfit0 (by omega))
  have hlf0 := HF0.out.1
  clear hfit0
  go_wp2_with fail
  refine (szSS_le _ _ _ _ _ _ (by omega) (by omega) hM1 hl1 Hr1.out).mono ?_
  rintro e wq ⟨r1, ⟨rfl, rfl⟩, hrr1, hfit1⟩
  by_cases hrn1 : r1 < 0
  · go_wp2_with fail
    go_ret
    exact ⟨rfl, Below.refl _ _⟩
  have HF1 := Lib.hid (hfit1 (by omega))
  have hlf1 := HF1.out.1
  clear hfit1
  have HB0 := Lib.hid (Below.refl w.heap.size w)
  have M0_0 := hM0
  have M1_0 := hM1
  have M2_0 := hM2
  have M3_0 := hM3
  clear hM0 hM1 hM2 hM3
  -- the model's answer
  go_wp2_with fail
  refine (toSS_any _ _ _ _ _ M0_0 HF0.out (by omega)).mono ?_
  rintro e w1 ⟨rfl, hB1, -, S0_1⟩
  have hz1 := hB1.size
  have M0_1 := M0_0.below (hB1.mono (by omega))
  have M1_1 := M1_0.below (hB1.mono (by omega))
  have M2_1 := M2_0.below (hB1.mono (by omega))
  have M3_1 := M3_0.below (hB1.mono (by omega))
  have HB1 := Lib.hid (HB0.out.trans (hB1.mono HB0.out.size))
  clear hB1 HB0 M0_0 M1_0 M2_0 M3_0
  go_wp2_with fail
  refine (toSS_any _ _ _ _ _ M1_1 HF1.out (by omega)).mono ?_
  rintro e w2 ⟨rfl, hB2, -, S1_2⟩
  have hz2 := hB2.size
  have M0_2 := M0_1.below (hB2.mono (by omega))
  have M1_2 := M1_1.below (hB2.mono (by omega))
  have M2_2 := M2_1.below (hB2.mono (by omega))
  have M3_2 := M3_1.below (hB2.mono (by omega))
  have S0_2 := S0_1.below hB2 S0_1.len.1 S0_1.len.2
  have HB2 := Lib.hid (HB1.out.trans (hB2.mono HB1.out.size))
  clear hB2 HB1 M0_1 M1_1 M2_1 M3_1 S0_1
  go_wp2_with fail
  refine (toS_any _ _ _ _ _ M2_2 HF2.out (by omega)).mono ?_
  rintro e w3 ⟨rfl, hB3, -, S2_3⟩
  have hz3 := hB3.size
  have M0_3 := M0_2.below (hB3.mono (by omega))
  have M1_3 := M1_2.below (hB3.mono (by omega))
  have M2_3 := M2_2.below (hB3.mono (by omega))
  have M3_3 := M3_2.below (hB3.mono (by omega))
  have S0_3 := S0_2.below hB3 S0_2.len.1 S0_2.len.2
  have S1_3 := S1_2.below hB3 S1_2.len.1 S1_2.len.2
  have HB3 := Lib.hid (HB2.out.trans (hB3.mono HB2.out.size))
  clear hB3 HB2 M0_2 M1_2 M2_2 M3_2 S0_2 S1_2
  go_wp2_with fail
  refine (toS_any _ _ _ _ _ M3_3 HF3.out (by omega)).mono ?_
  rintro e w4 ⟨rfl, hB4, -, S3_4⟩
  have hz4 := hB4.size
  have M0_4 := M0_3.below (hB4.mono (by omega))
  have M1_4 := M1_3.below (hB4.mono (by omega))
  have M2_4 := M2_3.below (hB4.mono (by omega))
  have M3_4 := M3_3.below (hB4.mono (by omega))
  have S0_4 := S0_3.below hB4 S0_3.len.1 S0_3.len.2
  have S1_4 := S1_3.below hB4 S1_3.len.1 S1_3.len.2
  have S2_4 := S2_3.below hB4 S2_3.lt
  have HB4 := Lib.hid (HB3.out.trans (hB4.mono HB3.out.size))
  clear hB4 HB3 M0_3 M1_3 M2_3 M3_3 S0_3 S1_3 S2_3
  go_wp2_with fail
  refine (specLif _ _ _ _ _ _ _ _ _ _ _ _ x4 _ _ S0_4.size S1_4.size (S2_4.ints (n₀ := w4.heap.size) S2_4.lt) (S3_4.ints (n₀ := w4.heap.size) S3_4.lt) (Nat.le_refl _) HF0.out HF1.out HF2.out HF3.out).mono ?_
  rintro e w5 h5
  rw [HZ.out, HY.out] at h5
  obtain ⟨b0, db0, ⟨rfl, hB5⟩, W_5⟩ := h5
  have hz5 := hB5.size
  have M0_5 := M0_4.below (hB5.mono (by omega))
  have M1_5 := M1_4.below (hB5.mono (by omega))
  have M2_5 := M2_4.below (hB5.mono (by omega))
  have M3_5 := M3_4.below (hB5.mono (by omega))
  have HB5 := Lib.hid (HB4.out.trans (hB5.mono HB4.out.size))
  clear hB5 HB4 M0_4 M1_4 M2_4 M3_4 S0_4 S1_4 S2_4 S3_4
  -- the program's answer
  go_wp2_with fail
  refine (toSS_any _ _ _ _ _ M0_5 HF0.out (by omega)).mono ?_
  rintro e w6 ⟨rfl, hB6, hs6, X0_6⟩
  have hs6' : w5.heap.size + 1 + x0.length ≤ w6.heap.size := by omega
  clear hs6
  have hz6 := hB6.size
  have M0_6 := M0_5.below (hB6.mono (by omega))
  have M1_6 := M1_5.below (hB6.mono (by omega))
  have M2_6 := M2_5.below (hB6.mono (by omega))
  have M3_6 := M3_5.below (hB6.mono (by omega))
  have W_6 := W_5.below (hB6.mono (by omega))
  have HB6 := Lib.hid (HB5.out.trans (hB6.mono HB5.out.size))
  clear hB6 HB5 M0_5 M1_5 M2_5 M3_5 W_5
  go_wp2_with fail
  refine (toSS_any _ _ _ _ _ M1_6 HF1.out (by omega)).mono ?_
  rintro e w7 ⟨rfl, hB7, hs7, X1_7⟩
  have hs7' : w6.heap.size + 1 + x1.length ≤ w7.heap.size := by omega
  clear hs7
  have hz7 := hB7.size
  have M0_7 := M0_6.below (hB7.mono (by omega))
  have M1_7 := M1_6.below (hB7.mono (by omega))
  have M2_7 := M2_6.below (hB7.mono (by omega))
  have M3_7 := M3_6.below (hB7.mono (by omega))
  have W_7 := W_6.below (hB7.mono (by omega))
  have X0_7 := X0_6.below hB7 X0_6.len.1 X0_6.len.2
  have HB7 := Lib.hid (HB6.out.trans (hB7.mono HB6.out.size))
  clear hB7 HB6 M0_6 M1_6 M2_6 M3_6 W_6 X0_6
  go_wp2_with fail
  refine (toS_any _ _ _ _ _ M2_7 HF2.out (by omega)).mono ?_
  rintro e w8 ⟨rfl, hB8, hs8, X2_8⟩
  have hs8' : w7.heap.size + 1 ≤ w8.heap.size := by omega
  clear hs8
  have hz8 := hB8.size
  have M0_8 := M0_7.below (hB8.mono (by omega))
  have M1_8 := M1_7.below (hB8.mono (by omega))
  have M2_8 := M2_7.below (hB8.mono (by omega))
  have M3_8 := M3_7.below (hB8.mono (by omega))
  have W_8 := W_7.below (hB8.mono (by omega))
  have X0_8 := X0_7.below hB8 X0_7.len.1 X0_7.len.2
  have X1_8 := X1_7.below hB8 X1_7.len.1 X1_7.len.2
  have HB8 := Lib.hid (HB7.out.trans (hB8.mono HB7.out.size))
  clear hB8 HB7 M0_7 M1_7 M2_7 M3_7 W_7 X0_7 X1_7
  go_wp2_with fail
  refine (toS_any _ _ _ _ _ M3_8 HF3.out (by omega)).mono ?_
  rintro e w9 ⟨rfl, hB9, hs9, X3_9⟩
  have hs9' : w8.heap.size + 1 ≤ w9.heap.size := by omega
  clear hs9
  have hz9 := hB9.size
  have M0_9 := M0_8.below (hB9.mono (by omega))
  have M1_9 := M1_8.below (hB9.mono (by omega))
  have M2_9 := M2_8.below (hB9.mono (by omega))
  have M3_9 := M3_8.below (hB9.mono (by omega))
  have W_9 := W_8.below (hB9.mono (by omega))
  have X0_9 := X0_8.below hB9 X0_8.len.1 X0_8.len.2
  have X1_9 := X1_8.below hB9 X1_8.len.1 X1_8.len.2
  have X2_9 := X2_8.below hB9 X2_8.lt
  have HB9 := Lib.hid (HB8.out.trans (hB9.mono HB8.out.size))
  clear hB9 HB8 M0_8 M1_8 M2_8 M3_8 W_8 X0_8 X1_8 X2_8
  go_wp2_with fail
  refine (implLif _ _ _ _ _ _ _ _ _ _ _ _ x4 _ X0_9.size X1_9.size (X2_9.ints (n₀ := w9.heap.size) X2_9.lt) (X3_9.ints (n₀ := w9.heap.size) X3_9.lt) HF0.out HF1.out HF2.out HF3.out (Nat.le_refl _)).mono ?_
  rintro e w10 h10
  rw [HZ.out, HY.out] at h10
  obtain ⟨b1, db1, ⟨rfl, hB10⟩, V_10⟩ := h10
  have hz10 := hB10.size
  have M0_10 := M0_9.below (hB10.mono (by omega))
  have M1_10 := M1_9.below (hB10.mono (by omega))
  have M2_10 := M2_9.below (hB10.mono (by omega))
  have M3_10 := M3_9.below (hB10.mono (by omega))
  have W_10 := W_9.below (hB10.mono (by omega))
  have X0_10 := X0_9.below hB10 X0_9.len.1 X0_9.len.2
  have X1_10 := X1_9.below hB10 X1_9.len.1 X1_9.len.2
  have X2_10 := X2_9.below hB10 X2_9.lt
  have X3_10 := X3_9.below hB10 X3_9.lt
  have HB10 := Lib.hid (HB9.out.trans (hB10.mono HB9.out.size))
  clear hB10 HB9 M0_9 M1_9 M2_9 M3_9 W_9 X0_9 X1_9 X2_9 X3_9
  go_wp2_with fail
  refine (eqS_same _ _ _ _ _ _ _ (own_intsQ V_10) (W_10.more (by omega)) HZL.out).mono ?_
  rintro e w11 h11
  obtain ⟨rfl, hB11⟩ := h11.below
  clear h11
  have hz11 := hB11.size
  have M0_11 := M0_10.below (hB11.mono (by omega))
  have M1_11 := M1_10.below (hB11.mono (by omega))
  have M2_11 := M2_10.below (hB11.mono (by omega))
  have M3_11 := M3_10.below (hB11.mono (by omega))
  have W_11 := W_10.below (hB11.mono (by omega))
  have X0_11 := X0_10.below hB11 X0_10.len.1 X0_10.len.2
  have X1_11 := X1_10.below hB11 X1_10.len.1 X1_10.len.2
  have X2_11 := X2_10.below hB11 X2_10.lt
  have X3_11 := X3_10.below hB11 X3_10.lt
  have V_11 := ownsRow_below V_10 hB11
  have HB11 := Lib.hid (HB10.out.trans (hB11.mono HB10.out.size))
  clear hB11 HB10 M0_10 M1_10 M2_10 M3_10 W_10 X0_10 X1_10 X2_10 X3_10 V_10
  -- the arguments are as they were
  go_wp2_with fail
  refine (toSS_any _ _ _ _ _ M0_11 HF0.out (by omega)).mono ?_
  rintro e w12 ⟨rfl, hB12, -, Y0_12⟩
  have hz12 := hB12.size
  have M0_12 := M0_11.below (hB12.mono (by omega))
  have M1_12 := M1_11.below (hB12.mono (by omega))
  have M2_12 := M2_11.below (hB12.mono (by omega))
  have M3_12 := M3_11.below (hB12.mono (by omega))
  have W_12 := W_11.below (hB12.mono (by omega))
  have X0_12 := X0_11.below hB12 X0_11.len.1 X0_11.len.2
  have X1_12 := X1_11.below hB12 X1_11.len.1 X1_11.len.2
  have X2_12 := X2_11.below hB12 X2_11.lt
  have X3_12 := X3_11.below hB12 X3_11.lt
  have V_12 := ownsRow_below V_11 hB12
  have HB12 := Lib.hid (HB11.out.trans (hB12.mono HB11.out.size))
  clear hB12 HB11 M0_11 M1_11 M2_11 M3_11 W_11 X0_11 X1_11 X2_11 X3_11 V_11
  go_wp2_with fail
  refine (eqSS_same _ _ _ _ _ _ _ X0_12.size Y0_12.size HF0.out).mono ?_
  rintro e w13 h13
  obtain ⟨rfl, hB13⟩ := h13.below
  clear h13
  have hz13 := hB13.size
  have M0_13 := M0_12.below (hB13.mono (by omega))
  have M1_13 := M1_12.below (hB13.mono (by omega))
  have M2_13 := M2_12.below (hB13.mono (by omega))
  have M3_13 := M3_12.below (hB13.mono (by omega))
  have W_13 := W_12.below (hB13.mono (by omega))
  have X0_13 := X0_12.below hB13 X0_12.len.1 X0_12.len.2
  have X1_13 := X1_12.below hB13 X1_12.len.1 X1_12.len.2
  have X2_13 := X2_12.below hB13 X2_12.lt
  have X3_13 := X3_12.below hB13 X3_12.lt
  have V_13 := ownsRow_below V_12 hB13
  have HB13 := Lib.hid (HB12.out.trans (hB13.mono HB12.out.size))
  clear hB13 HB12 M0_12 M1_12 M2_12 M3_12 W_12 X0_12 X1_12 X2_12 X3_12 V_12 Y0_12
  go_wp2_with fail
  refine (toSS_any _ _ _ _ _ M1_13 HF1.out (by omega)).mono ?_
  rintro e w14 ⟨rfl, hB14, -, Y1_14⟩
  have hz14 := hB14.size
  have M0_14 := M0_13.below (hB14.mono (by omega))
  have M1_14 := M1_13.below (hB14.mono (by omega))
  have M2_14 := M2_13.below (hB14.mono (by omega))
  have M3_14 := M3_13.below (hB14.mono (by omega))
  have W_14 := W_13.below (hB14.mono (by omega))
  have X0_14 := X0_13.below hB14 X0_13.len.1 X0_13.len.2
  have X1_14 := X1_13.below hB14 X1_13.len.1 X1_13.len.2
  have X2_14 := X2_13.below hB14 X2_13.lt
  have X3_14 := X3_13.below hB14 X3_13.lt
  have V_14 := ownsRow_below V_13 hB14
  have HB14 := Lib.hid (HB13.out.trans (hB14.mono HB13.out.size))
  clear hB14 HB13 M0_13 M1_13 M2_13 M3_13 W_13 X0_13 X1_13 X2_13 X3_13 V_13
  go_wp2_with fail
  refine (eqSS_same _ _ _ _ _ _ _ X1_14.size Y1_14.size HF1.out).mono ?_
  rintro e w15 h15
  obtain ⟨rfl, hB15⟩ := h15.below
  clear h15
  have hz15 := hB15.size
  have M0_15 := M0_14.below (hB15.mono (by omega))
  have M1_15 := M1_14.below (hB15.mono (by omega))
  have M2_15 := M2_14.below (hB15.mono (by omega))
  have M3_15 := M3_14.below (hB15.mono (by omega))
  have W_15 := W_14.below (hB15.mono (by omega))
  have X0_15 := X0_14.below hB15 X0_14.len.1 X0_14.len.2
  have X1_15 := X1_14.below hB15 X1_14.len.1 X1_14.len.2
  have X2_15 := X2_14.below hB15 X2_14.lt
  have X3_15 := X3_14.below hB15 X3_14.lt
  have V_15 := ownsRow_below V_14 hB15
  have HB15 := Lib.hid (HB14.out.trans (hB15.mono HB14.out.size))
  clear hB15 HB14 M0_14 M1_14 M2_14 M3_14 W_14 X0_14 X1_14 X2_14 X3_14 V_14 Y1_14
  go_wp2_with fail
  refine (toS_any _ _ _ _ _ M2_15 HF2.out (by omega)).mono ?_
  rintro e w16 ⟨rfl, hB16, -, Y2_16⟩
  have hz16 := hB16.size
  have M0_16 := M0_15.below (hB16.mono (by omega))
  have M1_16 := M1_15.below (hB16.mono (by omega))
  have M2_16 := M2_15.below (hB16.mono (by omega))
  have M3_16 := M3_15.below (hB16.mono (by omega))
  have W_16 := W_15.below (hB16.mono (by omega))
  have X0_16 := X0_15.below hB16 X0_15.len.1 X0_15.len.2
  have X1_16 := X1_15.below hB16 X1_15.len.1 X1_15.len.2
  have X2_16 := X2_15.below hB16 X2_15.lt
  have X3_16 := X3_15.below hB16 X3_15.lt
  have V_16 := ownsRow_below V_15 hB16
  have HB16 := Lib.hid (HB15.out.trans (hB16.mono HB15.out.size))
  clear hB16 HB15 M0_15 M1_15 M2_15 M3_15 W_15 X0_15 X1_15 X2_15 X3_15 V_15
  go_wp2_with fail
  refine (eqS_same _ _ _ _ _ _ _ (X2_16.ints (n₀ := w16.heap.size) X2_16.lt) (Y2_16.ints (n₀ := w16.heap.size) Y2_16.lt) HF2.out).mono ?_
  rintro e w17 h17
  obtain ⟨rfl, hB17⟩ := h17.below
  clear h17
  have hz17 := hB17.size
  have M0_17 := M0_16.below (hB17.mono (by omega))
  have M1_17 := M1_16.below (hB17.mono (by omega))
  have M2_17 := M2_16.below (hB17.mono (by omega))
  have M3_17 := M3_16.below (hB17.mono (by omega))
  have W_17 := W_16.below (hB17.mono (by omega))
  have X0_17 := X0_16.below hB17 X0_16.len.1 X0_16.len.2
  have X1_17 := X1_16.below hB17 X1_16.len.1 X1_16.len.2
  have X2_17 := X2_16.below hB17 X2_16.lt
  have X3_17 := X3_16.below hB17 X3_16.lt
  have V_17 := ownsRow_below V_16 hB17
  have HB17 := Lib.hid (HB16.out.trans (hB17.mono HB16.out.size))
  clear hB17 HB16 M0_16 M1_16 M2_16 M3_16 W_16 X0_16 X1_16 X2_16 X3_16 V_16 Y2_16
  go_wp2_with fail
  refine (toS_any _ _ _ _ _ M3_17 HF3.out (by omega)).mono ?_
  rintro e w18 ⟨rfl, hB18, -, Y3_18⟩
  have hz18 := hB18.size
  have M0_18 := M0_17.below (hB18.mono (by omega))
  have M1_18 := M1_17.below (hB18.mono (by omega))
  have M2_18 := M2_17.below (hB18.mono (by omega))
  have M3_18 := M3_17.below (hB18.mono (by omega))
  have W_18 := W_17.below (hB18.mono (by omega))
  have X0_18 := X0_17.below hB18 X0_17.len.1 X0_17.len.2
  have X1_18 := X1_17.below hB18 X1_17.len.1 X1_17.len.2
  have X2_18 := X2_17.below hB18 X2_17.lt
  have X3_18 := X3_17.below hB18 X3_17.lt
  have V_18 := ownsRow_below V_17 hB18
  have HB18 := Lib.hid (HB17.out.trans (hB18.mono HB17.out.size))
  clear hB18 HB17 M0_17 M1_17 M2_17 M3_17 W_17 X0_17 X1_17 X2_17 X3_17 V_17
  go_wp2_with fail
  refine (eqS_same _ _ _ _ _ _ _ (X3_18.ints (n₀ := w18.heap.size) X3_18.lt) (Y3_18.ints (n₀ := w18.heap.size) Y3_18.lt) HF3.out).mono ?_
  rintro e w19 h19
  obtain ⟨rfl, hB19⟩ := h19.below
  clear h19
  have hz19 := hB19.size
  have M0_19 := M0_18.below (hB19.mono (by omega))
  have M1_19 := M1_18.below (hB19.mono (by omega))
  have M2_19 := M2_18.below (hB19.mono (by omega))
  have M3_19 := M3_18.below (hB19.mono (by omega))
  have W_19 := W_18.below (hB19.mono (by omega))
  have X0_19 := X0_18.below hB19 X0_18.len.1 X0_18.len.2
  have X1_19 := X1_18.below hB19 X1_18.len.1 X1_18.len.2
  have X2_19 := X2_18.below hB19 X2_18.lt
  have X3_19 := X3_18.below hB19 X3_18.lt
  have V_19 := ownsRow_below V_18 hB19
  have HB19 := Lib.hid (HB18.out.trans (hB19.mono HB18.out.size))
  clear hB19 HB18 M0_18 M1_18 M2_18 M3_18 W_18 X0_18 X1_18 X2_18 X3_18 V_18 Y3_18
  -- the arguments' copies are marked: the answer stays
  have htt0 := tot_le HF0.out x0.length (Nat.le_refl _)
  rw [tot_all] at htt0
  have htm0 : x0.length * 1048576 ≤ 1048576 * 1048576 := Nat.mul_le_mul hlf0 (Nat.le_refl _)
  go_wp2_with fail
  refine (markSS_huge _ _ 1 _ _ _ X0_19 HF0.out (fun i j h => by have h' : w5.heap.size + 1 + i = w5.heap.size + 1 + j := h; omega) (by omega)).mono ?_
  rintro e w20 ⟨he20, -, ht20⟩
  obtain ⟨k0, hk0⟩ : ∃ k0, k0 = 1 + tot x0 := ⟨_, rfl⟩
  rw [← hk0] at he20
  subst he20
  have hqk0 : k0 ≤ 1099511627777 := by omega
  clear hk0
  have hS20 : ∀ B, (∃ i, i < x0.length ∧ B = w5.heap.size + 1 + i) → w5.heap.size ≤ B ∧ B < w6.heap.size := fun B s => by obtain ⟨i, hi, rfl⟩ := s; constructor <;> omega
  have M0_20 := ht20.mat M0_19 fun B s => by have := hS20 B s; omega
  have M1_20 := ht20.mat M1_19 fun B s => by have := hS20 B s; omega
  have M2_20 := ht20.ints M2_19 fun B s => by have := hS20 B s; omega
  have M3_20 := ht20.ints M3_19 fun B s => by have := hS20 B s; omega
  have W_20 := ht20.ints W_19 fun B s => by have := hS20 B s; omega
  have X1_20 := ht20.own X1_19 (fun s => by have := hS20 _ s; omega) (fun i hi s => by have h' := hS20 (w6.heap.size + 1 + i) s; omega)
  have X2_20 := ht20.rowI' X2_19 fun s => by have := hS20 _ s; omega
  have X3_20 := ht20.rowI' X3_19 fun s => by have := hS20 _ s; omega
  have V_20 := own_blockQ V_19 (fun g hg => ht20.block g (fun s => by have h1 := (V_19.lt g hg).1; have h2 := hS20 g s; omega))
  have hz20 : w19.heap.size ≤ w20.heap.size := by rw [ht20.size]; exact Nat.le_refl _
  have HB20 := Lib.hid (HB19.out.trans (ht20.below (n := w.heap.size) fun B s => by have := hS20 B s; omega))
  clear ht20 hS20 HB19 M0_19 M1_19 M2_19 M3_19 W_19 X0_19 X1_19 X2_19 X3_19 V_19
  clear htt0 htm0
  have htt1 := tot_le HF1.out x1.length (Nat.le_refl _)
  rw [tot_all] at htt1
  have htm1 : x1.length * 1048576 ≤ 1048576 * 1048576 := Nat.mul_le_mul hlf1 (Nat.le_refl _)
  go_wp2_with fail
  refine (markSS_huge _ _ k0 _ _ _ X1_20 HF1.out (fun i j h => by have h' : w6.heap.size + 1 + i = w6.heap.size + 1 + j := h; omega) (by omega)).mono ?_
  rintro e w21 ⟨he21, -, ht21⟩
  obtain ⟨k1, hk1⟩ : ∃ k1, k1 = k0 + tot x1 := ⟨_, rfl⟩
  rw [← hk1] at he21
  subst he21
  have hqk1 : k1 ≤ 2199023255553 := by omega
  clear hk1
  have hS21 : ∀ B, (∃ i, i < x1.length ∧ B = w6.heap.size + 1 + i) → w6.heap.size ≤ B ∧ B < w7.heap.size := fun B s => by obtain ⟨i, hi, rfl⟩ := s; constructor <;> omega
  have M0_21 := ht21.mat M0_20 fun B s => by have := hS21 B s; omega
  have M1_21 := ht21.mat M1_20 fun B s => by have := hS21 B s; omega
  have M2_21 := ht21.ints M2_20 fun B s => by have := hS21 B s; omega
  have M3_21 := ht21.ints M3_20 fun B s => by have := hS21 B s; omega
  have W_21 := ht21.ints W_20 fun B s => by have := hS21 B s; omega
  have X2_21 := ht21.rowI' X2_20 fun s => by have := hS21 _ s; omega
  have X3_21 := ht21.rowI' X3_20 fun s => by have := hS21 _ s; omega
  have V_21 := own_blockQ V_20 (fun g hg => ht21.block g (fun s => by have h1 := (V_20.lt g hg).1; have h2 := hS21 g s; omega))
  have hz21 : w20.heap.size ≤ w21.heap.size := by rw [ht21.size]; exact Nat.le_refl _
  have HB21 := Lib.hid (HB20.out.trans (ht21.below (n := w.heap.size) fun B s => by have := hS21 B s; omega))
  clear ht21 hS21 HB20 M0_20 M1_20 M2_20 M3_20 W_20 X1_20 X2_20 X3_20 V_20
  clear htt1 htm1
  go_wp2_with fail
  refine (markS_any _ _ k1 _ _ X2_21 HF2.out (by omega)).mono ?_
  rintro e w22 ⟨he22, -, ht22⟩
  obtain ⟨k2, hk2⟩ : ∃ k2, k2 = k1 + x2.length := ⟨_, rfl⟩
  rw [← hk2] at he22
  subst he22
  have hqk2 : k2 ≤ 3298534883329 := by omega
  clear hk2
  have hS22 : ∀ B, B = w7.heap.size → w7.heap.size ≤ B ∧ B < w8.heap.size := fun B s => by subst s; constructor <;> omega
  have M0_22 := ht22.mat M0_21 fun B s => by have := hS22 B s; omega
  have M1_22 := ht22.mat M1_21 fun B s => by have := hS22 B s; omega
  have M2_22 := ht22.ints M2_21 fun B s => by have := hS22 B s; omega
  have M3_22 := ht22.ints M3_21 fun B s => by have := hS22 B s; omega
  have W_22 := ht22.ints W_21 fun B s => by have := hS22 B s; omega
  have X3_22 := ht22.rowI' X3_21 fun s => by have := hS22 _ s; omega
  have V_22 := own_blockQ V_21 (fun g hg => ht22.block g (fun s => by have h1 := (V_21.lt g hg).1; have h2 := hS22 g s; omega))
  have hz22 : w21.heap.size ≤ w22.heap.size := by rw [ht22.size]; exact Nat.le_refl _
  have HB22 := Lib.hid (HB21.out.trans (ht22.below (n := w.heap.size) fun B s => by have := hS22 B s; omega))
  clear ht22 hS22 HB21 M0_21 M1_21 M2_21 M3_21 W_21 X2_21 X3_21 V_21
  go_wp2_with fail
  refine (markS_any _ _ k2 _ _ X3_22 HF3.out (by omega)).mono ?_
  rintro e w23 ⟨he23, -, ht23⟩
  obtain ⟨k3, hk3⟩ : ∃ k3, k3 = k2 + x3.length := ⟨_, rfl⟩
  rw [← hk3] at he23
  subst he23
  have hqk3 : k3 ≤ 3298535931905 := by omega
  clear hk3
  have hS23 : ∀ B, B = w8.heap.size → w8.heap.size ≤ B ∧ B < w9.heap.size := fun B s => by subst s; constructor <;> omega
  have M0_23 := ht23.mat M0_22 fun B s => by have := hS23 B s; omega
  have M1_23 := ht23.mat M1_22 fun B s => by have := hS23 B s; omega
  have M2_23 := ht23.ints M2_22 fun B s => by have := hS23 B s; omega
  have M3_23 := ht23.ints M3_22 fun B s => by have := hS23 B s; omega
  have W_23 := ht23.ints W_22 fun B s => by have := hS23 B s; omega
  have V_23 := own_blockQ V_22 (fun g hg => ht23.block g (fun s => by have h1 := (V_22.lt g hg).1; have h2 := hS23 g s; omega))
  have hz23 : w22.heap.size ≤ w23.heap.size := by rw [ht23.size]; exact Nat.le_refl _
  have HB23 := Lib.hid (HB22.out.trans (ht23.below (n := w.heap.size) fun B s => by have := hS23 B s; omega))
  clear ht23 hS23 HB22 M0_22 M1_22 M2_22 M3_22 W_22 X3_22 V_22
  go_wp2_with fail
  refine (eqS_same _ _ _ _ _ _ _ (own_intsQ V_23) (W_23.more (by omega)) HZL.out).mono ?_
  rintro e w24 h24
  obtain ⟨rfl, hB24⟩ := h24.below
  clear h24
  have hz24 := hB24.size
  have M0_24 := M0_23.below (hB24.mono (by omega))
  have M1_24 := M1_23.below (hB24.mono (by omega))
  have M2_24 := M2_23.below (hB24.mono (by omega))
  have M3_24 := M3_23.below (hB24.mono (by omega))
  have W_24 := W_23.below (hB24.mono (by omega))
  have V_24 := ownsRow_below V_23 hB24
  have HB24 := Lib.hid (HB23.out.trans (hB24.mono HB23.out.size))
  clear hB24 HB23 M0_23 M1_23 M2_23 M3_23 W_23 V_23
  -- the answer is marked, and held
  go_wp2_with fail
  refine (markO_anyQ _ _ 1 _ _ V_24 HZL.out (by omega)).mono ?_
  rintro e w25 ⟨he25, U_25, ht25⟩
  obtain ⟨q9, hq9⟩ : ∃ q9, q9 = 1 + zs.length := ⟨_, rfl⟩
  rw [← hq9] at he25
  subst he25
  have HQ9 := Lib.hid hq9
  clear hq9
  have hS25 : ∀ B, (Value.slice b1 zs.length db1).ownBlock = some B → w9.heap.size ≤ B := fun B s => (V_24.lt B s).1
  have M0_25 := ht25.mat M0_24 fun B s => by have := hS25 B s; omega
  have M1_25 := ht25.mat M1_24 fun B s => by have := hS25 B s; omega
  have M2_25 := ht25.ints M2_24 fun B s => by have := hS25 B s; omega
  have M3_25 := ht25.ints M3_24 fun B s => by have := hS25 B s; omega
  have W_25 := ht25.ints W_24 fun B s => by have := hS25 B s; omega
  have hz25 : w24.heap.size ≤ w25.heap.size := by rw [ht25.size]; exact Nat.le_refl _
  have HB25 := Lib.hid (HB24.out.trans (ht25.below (n := w.heap.size) fun B s => by have := hS25 B s; omega))
  clear ht25 hS25 HB24 M0_24 M1_24 M2_24 M3_24 W_24 V_24
  have hqq : ((q9 : Int) != (q9 : Int)) = false := by simp
  go_wp2_with fail
  refine (heldS_any _ _ 1 _ _ _ (own_intsN_U43 (seqL_length 1 zs.length) U_25) HZL.out (by omega)).mono ?_
  rw [← HQ9.out]
  rintro e wq ⟨rfl, rfl⟩
  -- another call's answer does not share it
  go_wp2_with fail
  refine (toSS_any _ _ _ _ _ M0_25 HF0.out (by omega)).mono ?_
  rintro e w26 ⟨rfl, hB26, -, A0_26⟩
  have hz26 := hB26.size
  have M0_26 := M0_25.below (hB26.mono (by omega))
  have M1_26 := M1_25.below (hB26.mono (by omega))
  have M2_26 := M2_25.below (hB26.mono (by omega))
  have M3_26 := M3_25.below (hB26.mono (by omega))
  have W_26 := W_25.below (hB26.mono (by omega))
  have U_26 := ownsRow_below U_25 hB26
  have HB26 := Lib.hid (HB25.out.trans (hB26.mono HB25.out.size))
  clear hB26 HB25 M0_25 M1_25 M2_25 M3_25 W_25 U_25
  go_wp2_with fail
  refine (toSS_any _ _ _ _ _ M1_26 HF1.out (by omega)).mono ?_
  rintro e w27 ⟨rfl, hB27, -, A1_27⟩
  have hz27 := hB27.size
  have M0_27 := M0_26.below (hB27.mono (by omega))
  have M1_27 := M1_26.below (hB27.mono (by omega))
  have M2_27 := M2_26.below (hB27.mono (by omega))
  have M3_27 := M3_26.below (hB27.mono (by omega))
  have W_27 := W_26.below (hB27.mono (by omega))
  have U_27 := ownsRow_below U_26 hB27
  have A0_27 := A0_26.below hB27 A0_26.len.1 A0_26.len.2
  have HB27 := Lib.hid (HB26.out.trans (hB27.mono HB26.out.size))
  clear hB27 HB26 M0_26 M1_26 M2_26 M3_26 W_26 U_26 A0_26
  go_wp2_with fail
  refine (toS_any _ _ _ _ _ M2_27 HF2.out (by omega)).mono ?_
  rintro e w28 ⟨rfl, hB28, -, A2_28⟩
  have hz28 := hB28.size
  have M0_28 := M0_27.below (hB28.mono (by omega))
  have M1_28 := M1_27.below (hB28.mono (by omega))
  have M2_28 := M2_27.below (hB28.mono (by omega))
  have M3_28 := M3_27.below (hB28.mono (by omega))
  have W_28 := W_27.below (hB28.mono (by omega))
  have U_28 := ownsRow_below U_27 hB28
  have A0_28 := A0_27.below hB28 A0_27.len.1 A0_27.len.2
  have A1_28 := A1_27.below hB28 A1_27.len.1 A1_27.len.2
  have HB28 := Lib.hid (HB27.out.trans (hB28.mono HB27.out.size))
  clear hB28 HB27 M0_27 M1_27 M2_27 M3_27 W_27 U_27 A0_27 A1_27
  go_wp2_with fail
  refine (toS_any _ _ _ _ _ M3_28 HF3.out (by omega)).mono ?_
  rintro e w29 ⟨rfl, hB29, -, A3_29⟩
  have hz29 := hB29.size
  have M0_29 := M0_28.below (hB29.mono (by omega))
  have M1_29 := M1_28.below (hB29.mono (by omega))
  have M2_29 := M2_28.below (hB29.mono (by omega))
  have M3_29 := M3_28.below (hB29.mono (by omega))
  have W_29 := W_28.below (hB29.mono (by omega))
  have U_29 := ownsRow_below U_28 hB29
  have A0_29 := A0_28.below hB29 A0_28.len.1 A0_28.len.2
  have A1_29 := A1_28.below hB29 A1_28.len.1 A1_28.len.2
  have A2_29 := A2_28.below hB29 A2_28.lt
  have HB29 := Lib.hid (HB28.out.trans (hB29.mono HB28.out.size))
  clear hB29 HB28 M0_28 M1_28 M2_28 M3_28 W_28 U_28 A0_28 A1_28 A2_28
  go_wp2_with fail
  refine (implLif _ _ _ _ _ _ _ _ _ _ _ _ x4 _ A0_29.size A1_29.size (A2_29.ints (n₀ := w29.heap.size) A2_29.lt) (A3_29.ints (n₀ := w29.heap.size) A3_29.lt) HF0.out HF1.out HF2.out HF3.out (Nat.le_refl _)).mono ?_
  rintro e w30 h30
  rw [HZ.out, HY.out] at h30
  obtain ⟨b2, db2, ⟨rfl, hB30⟩, Z_30⟩ := h30
  have hz30 := hB30.size
  have W_30 := W_29.below (hB30.mono (by omega))
  have U_30 := ownsRow_below U_29 hB30
  have HB30 := Lib.hid (HB29.out.trans (hB30.mono HB29.out.size))
  clear hB30 HB29 M0_29 M1_29 M2_29 M3_29 W_29 U_29 A0_29 A1_29 A2_29 A3_29
  go_wp2_with fail
  refine (eqS_same _ _ _ _ _ _ _ (own_intsQ Z_30) (W_30.more (by omega)) HZL.out).mono ?_
  rintro e w31 h31
  obtain ⟨rfl, hB31⟩ := h31.below
  clear h31
  have hz31 := hB31.size
  have W_31 := W_30.below (hB31.mono (by omega))
  have U_31 := ownsRow_below U_30 hB31
  have Z_31 := ownsRow_below Z_30 hB31
  have HB31 := Lib.hid (HB30.out.trans (hB31.mono HB30.out.size))
  clear hB31 HB30 W_30 U_30 Z_30
  go_wp2_with fail
  refine (heldS_any _ _ 1 _ _ _ (own_intsN_U43 (seqL_length 1 zs.length) U_31) HZL.out (by omega)).mono ?_
  rw [← HQ9.out]
  rintro e wq ⟨rfl, rfl⟩
  go_wp2_with fail
  go_ret
  exact ⟨rfl, HB31.out⟩

end Go.Proofs.Ytldkgkpiceamhaa
