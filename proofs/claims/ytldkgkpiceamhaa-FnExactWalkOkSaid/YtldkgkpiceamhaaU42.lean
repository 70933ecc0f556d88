/-
  The walk of the exact law of WalkOk.
-/
import Derived.Test.YtldkgkpiceamhaaZA
import Derived.Test.YtldkgkpiceamhaaZI
import Derived.Test.YtldkgkpiceamhaaXF
import Derived.Test.YtldkgkpiceamhaaXB
namespace Go.Proofs.Ytldkgkpiceamhaa
open Go.RowKit Go.Shelf

set_option maxRecDepth 100000 in
set_option maxHeartbeats 4000000 in
theorem exWalkOk_any (a0 : Option Addr) (c0 : Nat) (x0 : List (List Int)) (a1 : Option Addr) (c1 : Nat) (x1 : List Int) (w : World) (hM0 : Mat w.heap.size w a0 x0) (hl0 : x0.length ≤ 9223372036854775807) (hr0 : ∀ xs ∈ x0, xs.length ≤ 9223372036854775807) (hM1 : Ints w.heap.size w a1 x1) (hl1 : x1.length ≤ 9223372036854775807) :
    Calls Try.prog 10 #[.slice a0 x0.length c0, .slice a1 x1.length c1] w (Ans (.bool true) w) := by
  have Hr0 : Hid (∀ xs ∈ x0, xs.length ≤ 9223372036854775807) := hr0
  clear hr0
  obtain ⟨zv, HZ⟩ : ∃ zv, Hid (walkI x0 x1 = zv) := ⟨_, rfl⟩
  have hzz : (zv != zv) = false := by simp
  by_cases hbig1 : 1048576 < x1.length
  · go_enter Try.func10, Try.ntmps10
    go_wp2_with fail
    go_ret
    exact ⟨rfl, Below.refl _ _⟩
  have HF1 : Hid (x1.length ≤ 1048576) := Lib.hid (by omega)
  have hly1 := HF1.out
  go_enter Try.func10, Try.ntmps10
  go_wp2_with fail
  refine (szSS_le _ _ _ _ _ _ (by omega) (by omega) hM0 hl0 Hr0.out).mono ?_
  rintro e wq ⟨r0, ⟨rfl, rfl⟩, hrr0, hfit0⟩
  by_cases hrn0 : r0 < 0
  · go_wp2_with fail
    go_ret
    exact ⟨rfl, Below.refl _ _⟩
  have HF0 := Lib.hid (hfit0 (by omega))
  have hlf0 := HF0.out.1
  clear hfit0
  have HB0 := Lib.hid (Below.refl w.heap.size w)
  have M0_0 := hM0
  have M1_0 := hM1
  clear hM0 hM1
  go_wp2_with fail
  refine (toSS_any _ _ _ _ _ M0_0 HF0.out (by omega)).mono ?_
  rintro e w1 ⟨rfl, hB1, -, S0_1⟩
  have hz1 := hB1.size
  have M0_1 := M0_0.below (hB1.mono (by omega))
  have M1_1 := M1_0.below (hB1.mono (by omega))
  have HB1 := Lib.hid (HB0.out.trans (hB1.mono HB0.out.size))
  clear hB1 HB0 M0_0 M1_0
  go_wp2_with fail
  refine (toS_any _ _ _ _ _ M1_1 HF1.out (by omega)).mono ?_
  rintro e w2 ⟨rfl, hB2, -, S1_2⟩
  have hz2 := hB2.size
  have M0_2 := M0_1.below (hB2.mono (by omega))
  have M1_2 := M1_1.below (hB2.mono (by omega))
  have S0_2 := S0_1.below hB2 S0_1.len.1 S0_1.len.2
  have HB2 := Lib.hid (HB1.out.trans (hB2.mono HB1.out.size))
  clear hB2 HB1 M0_1 M1_1 S0_1
  -- the model's answer
  go_wp2_with fail
  refine (specWalk _ _ _ _ _ _ _ _ S0_2.size (S1_2.ints (n₀ := w2.heap.size) S1_2.lt) HF0.out HF1.out).mono ?_
  rintro e w3 h3
  rw [HZ.out] at h3
  obtain ⟨rfl, hB3⟩ := h3.below
  clear h3
  have hz3 := hB3.size
  have M0_3 := M0_2.below (hB3.mono (by omega))
  have M1_3 := M1_2.below (hB3.mono (by omega))
  have HB3 := Lib.hid (HB2.out.trans (hB3.mono HB2.out.size))
  clear hB3 HB2 M0_2 M1_2 S0_2 S1_2
  go_wp2_with fail
  refine (toSS_any _ _ _ _ _ M0_3 HF0.out (by omega)).mono ?_
  rintro e w4 ⟨rfl, hB4, -, X0_4⟩
  have hz4 := hB4.size
  have M0_4 := M0_3.below (hB4.mono (by omega))
  have M1_4 := M1_3.below (hB4.mono (by omega))
  have HB4 := Lib.hid (HB3.out.trans (hB4.mono HB3.out.size))
  clear hB4 HB3 M0_3 M1_3
  go_wp2_with fail
  refine (toS_any _ _ _ _ _ M1_4 HF1.out (by omega)).mono ?_
  rintro e w5 ⟨rfl, hB5, -, X1_5⟩
  have hz5 := hB5.size
  have M0_5 := M0_4.below (hB5.mono (by omega))
  have M1_5 := M1_4.below (hB5.mono (by omega))
  have X0_5 := X0_4.below hB5 X0_4.len.1 X0_4.len.2
  have HB5 := Lib.hid (HB4.out.trans (hB5.mono HB4.out.size))
  clear hB5 HB4 M0_4 M1_4 X0_4
  -- the program's answer
  go_wp2_with fail
  refine (implWlk _ _ _ _ _ _ _ X0_5.size (X1_5.ints (n₀ := w5.heap.size) X1_5.lt) HF0.out HF1.out).mono ?_
  rintro e w6 h6
  rw [HZ.out] at h6
  obtain ⟨rfl, hB6⟩ := h6
  have hz6 := hB6.size
  have M0_6 := M0_5.below (hB6.mono (by omega))
  have M1_6 := M1_5.below (hB6.mono (by omega))
  have X0_6 := X0_5.below hB6 X0_5.len.1 X0_5.len.2
  have X1_6 := X1_5.below hB6 X1_5.lt
  have HB6 := Lib.hid (HB5.out.trans (hB6.mono HB5.out.size))
  clear hB6 HB5 M0_5 M1_5 X0_5 X1_5
  go_wp2_with fail
  refine (toSS_any _ _ _ _ _ M0_6 HF0.out (by omega)).mono ?_
  rintro e w7 ⟨rfl, hB7, -, Y0_7⟩
  have hz7 := hB7.size
  have M0_7 := M0_6.below (hB7.mono (by omega))
  have M1_7 := M1_6.below (hB7.mono (by omega))
  have X0_7 := X0_6.below hB7 X0_6.len.1 X0_6.len.2
  have X1_7 := X1_6.below hB7 X1_6.lt
  have HB7 := Lib.hid (HB6.out.trans (hB7.mono HB6.out.size))
  clear hB7 HB6 M0_6 M1_6 X0_6 X1_6
  go_wp2_with fail
  refine (eqSS_same _ _ _ _ _ _ _ X0_7.size Y0_7.size HF0.out).mono ?_
  rintro e w8 h8
  obtain ⟨rfl, hB8⟩ := h8.below
  clear h8
  have hz8 := hB8.size
  have M1_8 := M1_7.below (hB8.mono (by omega))
  have X1_8 := X1_7.below hB8 X1_7.lt
  have HB8 := Lib.hid (HB7.out.trans (hB8.mono HB7.out.size))
  clear hB8 HB7 M0_7 M1_7 X0_7 X1_7 Y0_7
  go_wp2_with fail
  refine (toS_any _ _ _ _ _ M1_8 HF1.out (by omega)).mono ?_
  rintro e w9 ⟨rfl, hB9, -, Y1_9⟩
  have hz9 := hB9.size
  have M1_9 := M1_8.below (hB9.mono (by omega))
  have X1_9 := X1_8.below hB9 X1_8.lt
  have HB9 := Lib.hid (HB8.out.trans (hB9.mono HB8.out.size))
  clear hB9 HB8 M1_8 X1_8
  go_wp2_with fail
  refine (eqS_same _ _ _ _ _ _ _ (X1_9.ints (n₀ := w9.heap.size) X1_9.lt) (Y1_9.ints (n₀ := w9.heap.size) Y1_9.lt) HF1.out).mono ?_
  rintro e w10 h10
  obtain ⟨rfl, hB10⟩ := h10.below
  clear h10
  have hz10 := hB10.size
  have HB10 := Lib.hid (HB9.out.trans (hB10.mono HB9.out.size))
  clear hB10 HB9 M1_9 X1_9 Y1_9
  go_wp2_with fail
  go_ret
  exact ⟨rfl, HB10.out⟩

end Go.Proofs.Ytldkgkpiceamhaa
