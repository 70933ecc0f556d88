/-
  The walk of the exact law of SheetsOf.
-/
import Derived.Test.YtldkgkpiceamhaaZA
import Derived.Test.YtldkgkpiceamhaaZI
import Derived.Test.YtldkgkpiceamhaaXF
import Derived.Test.YtldkgkpiceamhaaXB
namespace Go.Proofs.Ytldkgkpiceamhaa
open Go.RowKit Go.Shelf

set_option maxRecDepth 100000 in
set_option maxHeartbeats 4000000 in
theorem exSheetsOf_any (a0 : Option Addr) (c0 : Nat) (x0 : List (List Int)) (a1 : Option Addr) (c1 : Nat) (x1 : List (List Int)) (a2 : Option Addr) (c2 : Nat) (x2 : List Int) (w : World) (hM0 : Mat w.heap.size w a0 x0) (hl0 : x0.length ≤ 9223372036854775807) (hr0 : ∀ xs ∈ x0, xs.length ≤ 9223372036854775807) (hM1 : Mat w.heap.size w a1 x1) (hl1 : x1.length ≤ 9223372036854775807) (hr1 : ∀ xs ∈ x1, xs.length ≤ 9223372036854775807) (hM2 : Ints w.heap.size w a2 x2) (hl2 : x2.length ≤ 9223372036854775807) :
    Calls Try.prog 12 #[.slice a0 x0.length c0, .slice a1 x1.length c1, .slice a2 x2.length c2] w (Ans (.bool true) w) := by
  have Hr0 : Hid (∀ xs ∈ x0, xs.length ≤ 9223372036854775807) := hr0
  clear hr0
  have Hr1 : Hid (∀ xs ∈ x1, xs.length ≤ 9223372036854775807) := hr1
  clear hr1
  obtain ⟨zv, HZ⟩ : ∃ zv, Hid (sheI x0 x1 x2 = zv) := ⟨_, rfl⟩
  have hzz : (zv != zv) = false := by simp
  by_cases hbig2 : 1048576 < x2.length
  · go_enter Try.func12, Try.ntmps12
    go_wp2_with fail
    go_ret
    exact ⟨rfl, Below.refl _ _⟩
  have HF2 : Hid (x2.length ≤ 1048576) := Lib.hid (by omega)
  have hly2 := HF2.out
  go_enter Try.func12, Try.ntmps12
  go_wp2_with fail
  refine (szSS_le _ _ _ _ _ _ (by omega) (by omega) hM0 hl0 Hr0.out).mono ?_
  rintro e wq ⟨r0, ⟨rfl, rfl⟩, hrr0, hfit0⟩
  by_cases hrn0 : r0 < 0
  · go_wp2_with fail
    go_ret
    exact ⟨rfl, Below.refl _ _⟩
  have HF0 := Lib.hid (hfit0 (by omega))
  have hlf0 := HF0.out.1
  clear hfit0
  go_wp2_with fail
  refine (szSS_le _ _ _ _ _ _ (by omega) (by omega) hM1 hl1 Hr1.out).mono ?_
  rintro e wq ⟨r1, ⟨rfl, rfl⟩, hrr1, hfit1⟩
  by_cases hrn1 : r1 < 0
  · go_wp2_with fail
    go_ret
    exact ⟨rfl, Below.refl _ _⟩
  have HF1 := Lib.hid (hfit1 (by omega))
  have hlf1 := HF1.out.1
  clear hfit1
  have HB0 := Lib.hid (Below.refl w.heap.size w)
  have M0_0 := hM0
  have M1_0 := hM1
  have M2_0 := hM2
  clear hM0 hM1 hM2
  go_wp2_with fail
  refine (toSS_any _ _ _ _ _ M0_0 HF0.out (by omega)).mono ?_
  rintro e w1 ⟨rfl, hB1, -, S0_1⟩
  have hz1 := hB1.size
  have M0_1 := M0_0.below (hB1.mono (by omega))
  have M1_1 := M1_0.below (hB1.mono (by omega))
  have M2_1 := M2_0.below (hB1.mono (by omega))
  have HB1 := Lib.hid (HB0.out.trans (hB1.mono HB0.out.size))
  clear hB1 HB0 M0_0 M1_0 M2_0
  go_wp2_with fail
  refine (toSS_any _ _ _ _ _ M1_1 HF1.out (by omega)).mono ?_
  rintro e w2 ⟨rfl, hB2, -, S1_2⟩
  have hz2 := hB2.size
  have M0_2 := M0_1.below (hB2.mono (by omega))
  have M1_2 := M1_1.below (hB2.mono (by omega))
  have M2_2 := M2_1.below (hB2.mono (by omega))
  have S0_2 := S0_1.below hB2 S0_1.len.1 S0_1.len.2
  have HB2 := Lib.hid (HB1.out.trans (hB2.mono HB1.out.size))
  clear hB2 HB1 M0_1 M1_1 M2_1 S0_1
  go_wp2_with fail
  refine (toS_any _ _ _ _ _ M2_2 HF2.out (by omega)).mono ?_
  rintro e w3 ⟨rfl, hB3, -, S2_3⟩
  have hz3 := hB3.size
  have M0_3 := M0_2.below (hB3.mono (by omega))
  have M1_3 := M1_2.below (hB3.mono (by omega))
  have M2_3 := M2_2.below (hB3.mono (by omega))
  have S0_3 := S0_2.below hB3 S0_2.len.1 S0_2.len.2
  have S1_3 := S1_2.below hB3 S1_2.len.1 S1_2.len.2
  have HB3 := Lib.hid (HB2.out.trans (hB3.mono HB2.out.size))
  clear hB3 HB2 M0_2 M1_2 M2_2 S0_2 S1_2
  -- the model's answer
  go_wp2_with fail
  refine (specShe _ _ _ _ _ _ _ _ _ _ _ S0_3.size S1_3.size (S2_3.ints (n₀ := w3.heap.size) S2_3.lt) HF0.out HF1.out HF2.out).mono ?_
  rintro e w4 h4
  rw [HZ.out] at h4
  obtain ⟨rfl, hB4⟩ := h4.below
  clear h4
  have hz4 := hB4.size
  have M0_4 := M0_3.below (hB4.mono (by omega))
  have M1_4 := M1_3.below (hB4.mono (by omega))
  have M2_4 := M2_3.below (hB4.mono (by omega))
  have HB4 := Lib.hid (HB3.out.trans (hB4.mono HB3.out.size))
  clear hB4 HB3 M0_3 M1_3 M2_3 S0_3 S1_3 S2_3
  go_wp2_with fail
  refine (toSS_any _ _ _ _ _ M0_4 HF0.out (by omega)).mono ?_
  rintro e w5 ⟨rfl, hB5, -, X0_5⟩
  have hz5 := hB5.size
  have M0_5 := M0_4.below (hB5.mono (by omega))
  have M1_5 := M1_4.below (hB5.mono (by omega))
  have M2_5 := M2_4.below (hB5.mono (by omega))
  have HB5 := Lib.hid (HB4.out.trans (hB5.mono HB4.out.size))
  clear hB5 HB4 M0_4 M1_4 M2_4
  go_wp2_with fail
  refine (toSS_any _ _ _ _ _ M1_5 HF1.out (by omega)).mono ?_
  rintro e w6 ⟨rfl, hB6, -, X1_6⟩
  have hz6 := hB6.size
  have M0_6 := M0_5.below (hB6.mono (by omega))
  have M1_6 := M1_5.below (hB6.mono (by omega))
  have M2_6 := M2_5.below (hB6.mono (by omega))
  have X0_6 := X0_5.below hB6 X0_5.len.1 X0_5.len.2
  have HB6 := Lib.hid (HB5.out.trans (hB6.mono HB5.out.size))
  clear hB6 HB5 M0_5 M1_5 M2_5 X0_5
  go_wp2_with fail
  refine (toS_any _ _ _ _ _ M2_6 HF2.out (by omega)).mono ?_
  rintro e w7 ⟨rfl, hB7, -, X2_7⟩
  have hz7 := hB7.size
  have M0_7 := M0_6.below (hB7.mono (by omega))
  have M1_7 := M1_6.below (hB7.mono (by omega))
  have M2_7 := M2_6.below (hB7.mono (by omega))
  have X0_7 := X0_6.below hB7 X0_6.len.1 X0_6.len.2
  have X1_7 := X1_6.below hB7 X1_6.len.1 X1_6.len.2
  have HB7 := Lib.hid (HB6.out.trans (hB7.mono HB6.out.size))
  clear hB7 HB6 M0_6 M1_6 M2_6 X0_6 X1_6
  -- the program's answer
  go_wp2_with fail
  refine (implShe _ _ _ _ _ _ _ _ _ _ X0_7.size X1_7.size (X2_7.ints (n₀ := w7.heap.size) X2_7.lt) HF0.out HF1.out HF2.out).mono ?_
  rintro e w8 h8
  rw [HZ.out] at h8
  obtain ⟨rfl, hB8⟩ := h8
  have hz8 := hB8.size
  have M0_8 := M0_7.below (hB8.mono (by omega))
  have M1_8 := M1_7.below (hB8.mono (by omega))
  have M2_8 := M2_7.below (hB8.mono (by omega))
  have X0_8 := X0_7.below hB8 X0_7.len.1 X0_7.len.2
  have X1_8 := X1_7.below hB8 X1_7.len.1 X1_7.len.2
  have X2_8 := X2_7.below hB8 X2_7.lt
  have HB8 := Lib.hid (HB7.out.trans (hB8.mono HB7.out.size))
  clear hB8 HB7 M0_7 M1_7 M2_7 X0_7 X1_7 X2_7
  go_wp2_with fail
  refine (toSS_any _ _ _ _ _ M0_8 HF0.out (by omega)).mono ?_
  rintro e w9 ⟨rfl, hB9, -, Y0_9⟩
  have hz9 := hB9.size
  have M0_9 := M0_8.below (hB9.mono (by omega))
  have M1_9 := M1_8.below (hB9.mono (by omega))
  have M2_9 := M2_8.below (hB9.mono (by omega))
  have X0_9 := X0_8.below hB9 X0_8.len.1 X0_8.len.2
  have X1_9 := X1_8.below hB9 X1_8.len.1 X1_8.len.2
  have X2_9 := X2_8.below hB9 X2_8.lt
  have HB9 := Lib.hid (HB8.out.trans (hB9.mono HB8.out.size))
  clear hB9 HB8 M0_8 M1_8 M2_8 X0_8 X1_8 X2_8
  go_wp2_with fail
  refine (eqSS_same _ _ _ _ _ _ _ X0_9.size Y0_9.size HF0.out).mono ?_
  rintro e w10 h10
  obtain ⟨rfl, hB10⟩ := h10.below
  clear h10
  have hz10 := hB10.size
  have M1_10 := M1_9.below (hB10.mono (by omega))
  have M2_10 := M2_9.below (hB10.mono (by omega))
  have X1_10 := X1_9.below hB10 X1_9.len.1 X1_9.len.2
  have X2_10 := X2_9.below hB10 X2_9.lt
  have HB10 := Lib.hid (HB9.out.trans (hB10.mono HB9.out.size))
  clear hB10 HB9 M0_9 M1_9 M2_9 X0_9 X1_9 X2_9 Y0_9
  go_wp2_with fail
  refine (toSS_any _ _ _ _ _ M1_10 HF1.out (by omega)).mono ?_
  rintro e w11 ⟨rfl, hB11, -, Y1_11⟩
  have hz11 := hB11.size
  have M1_11 := M1_10.below (hB11.mono (by omega))
  have M2_11 := M2_10.below (hB11.mono (by omega))
  have X1_11 := X1_10.below hB11 X1_10.len.1 X1_10.len.2
  have X2_11 := X2_10.below hB11 X2_10.lt
  have HB11 := Lib.hid (HB10.out.trans (hB11.mono HB10.out.size))
  clear hB11 HB10 M1_10 M2_10 X1_10 X2_10
  go_wp2_with fail
  refine (eqSS_same _ _ _ _ _ _ _ X1_11.size Y1_11.size HF1.out).mono ?_
  rintro e w12 h12
  obtain ⟨rfl, hB12⟩ := h12.below
  clear h12
  have hz12 := hB12.size
  have M2_12 := M2_11.below (hB12.mono (by omega))
  have X2_12 := X2_11.below hB12 X2_11.lt
  have HB12 := Lib.hid (HB11.out.trans (hB12.mono HB11.out.size))
  clear hB12 HB11 M1_11 M2_11 X1_11 X2_11 Y1_11
  go_wp2_with fail
  refine (toS_any _ _ _ _ _ M2_12 HF2.out (by omega)).mono ?_
  rintro e w13 ⟨rfl, hB13, -, Y2_13⟩
  have hz13 := hB13.size
  have M2_13 := M2_12.below (hB13.mono (by omega))
  have X2_13 := X2_12.below hB13 X2_12.lt
  have HB13 := Lib.hid (HB12.out.trans (hB13.mono HB12.out.size))
  clear hB13 HB12 M2_12 X2_12
  go_wp2_with fail
  refine (eqS_same _ _ _ _ _ _ _ (X2_13.ints (n₀ := w13.heap.size) X2_13.lt) (Y2_13.ints (n₀ := w13.heap.size) Y2_13.lt) HF2.out).mono ?_
  rintro e w14 h14
  obtain ⟨rfl, hB14⟩ := h14.below
  clear h14
  have hz14 := hB14.size
  have HB14 := Lib.hid (HB13.out.trans (hB14.mono HB13.out.size))
  clear hB14 HB13 M2_13 X2_13 Y2_13
  go_wp2_with fail
  go_ret
  exact ⟨rfl, HB14.out⟩

end Go.Proofs.Ytldkgkpiceamhaa
