/-
  The walk of the exact law of OnePartOk.
-/
import Derived.Test.YtdaoifpmmgfpbaaZA
import Derived.Test.YtdaoifpmmgfpbaaZI
import Derived.Test.YtdaoifpmmgfpbaaXE
import Derived.Test.YtdaoifpmmgfpbaaXB
namespace Go.Proofs.Ytdaoifpmmgfpbaa
open Go.RowKit Go.Shelf

set_option maxRecDepth 100000 in
set_option maxHeartbeats 4000000 in
theorem exOnePartOk_any (a0 : Option Addr) (c0 : Nat) (x0 : List (List Int)) (w : World) (hM0 : Mat w.heap.size w a0 x0) (hl0 : x0.length ≤ 9223372036854775807) (hr0 : ∀ xs ∈ x0, xs.length ≤ 9223372036854775807) :
    Calls Try.prog 11 #[.slice a0 x0.length c0] w (Ans (.bool true) w) := by
  have Hr0 : Hid (∀ xs ∈ x0, xs.length ≤ 9223372036854775807) := hr0
  clear hr0
  obtain ⟨zv, HZ⟩ : ∃ zv, Hid (oneI x0 = zv) := ⟨_, rfl⟩
  have hzz : (zv != zv) = false := by simp
  go_enter Try.func11, Try.ntmps11
  go_wp2_with fail
  refine (szSS_le _ _ _ _ _ _ (by omega) (by omega) hM0 hl0 Hr0.out).mono ?_
  rintro e wq ⟨r0, ⟨rfl, rfl⟩, hrr0, hfit0⟩
  by_cases hrn0 : r0 < 0
  · go_wp2_with fail
    go_ret
    exact ⟨rfl, Below.refl _ _⟩
  have HF0 := Lib.hid (hfit0 (by omega))
  have hlf0 := HF0.out.1
  clear hfit0
  have HB0 := Lib.hid (Below.refl w.heap.size w)
  have M0_0 := hM0
  clear hM0
  go_wp2_with fail
  refine (toSS_any _ _ _ _ _ M0_0 HF0.out (by omega)).mono ?_
  rintro e w1 ⟨rfl, hB1, -, S0_1⟩
  have hz1 := hB1.size
  have M0_1 := M0_0.below (hB1.mono (by omega))
  have HB1 := Lib.hid (HB0.out.trans (hB1.mono HB0.out.size))
  clear hB1 HB0 M0_0
  -- the model's answer
  go_wp2_with fail
  refine (specOne _ _ _ _ _ S0_1.size HF0.out).mono ?_
  rintro e w2 h2
  rw [HZ.out] at h2
  obtain ⟨rfl, hB2⟩ := h2.below
  clear h2
  have hz2 := hB2.size
  have M0_2 := M0_1.below (hB2.mono (by omega))
  have HB2 := Lib.hid (HB1.out.trans (hB2.mono HB1.out.size))
  clear hB2 HB1 M0_1 S0_1
  go_wp2_with fail
  refine (toSS_any _ _ _ _ _ M0_2 HF0.out (by omega)).mono ?_
  rintro e w3 ⟨rfl, hB3, -, X0_3⟩
  have hz3 := hB3.size
  have M0_3 := M0_2.below (hB3.mono (by omega))
  have HB3 := Lib.hid (HB2.out.trans (hB3.mono HB2.out.size))
  clear hB3 HB2 M0_2
  -- the program's answer
  go_wp2_with fail
  refine (implOnp _ _ _ _ X0_3.size HF0.out).mono ?_
  rintro e w4 h4
  rw [HZ.out] at h4
  obtain ⟨rfl, hB4⟩ := h4
  have hz4 := hB4.size
  have M0_4 := M0_3.below (hB4.mono (by omega))
  have X0_4 := X0_3.below hB4 X0_3.len.1 X0_3.len.2
  have HB4 := Lib.hid (HB3.out.trans (hB4.mono HB3.out.size))
  clear hB4 HB3 M0_3 X0_3
  go_wp2_with fail
  refine (toSS_any _ _ _ _ _ M0_4 HF0.out (by omega)).mono ?_
  rintro e w5 ⟨rfl, hB5, -, Y0_5⟩
  have hz5 := hB5.size
  have M0_5 := M0_4.below (hB5.mono (by omega))
  have X0_5 := X0_4.below hB5 X0_4.len.1 X0_4.len.2
  have HB5 := Lib.hid (HB4.out.trans (hB5.mono HB4.out.size))
  clear hB5 HB4 M0_4 X0_4
  go_wp2_with fail
  refine (eqSS_same _ _ _ _ _ _ _ X0_5.size Y0_5.size HF0.out).mono ?_
  rintro e w6 h6
  obtain ⟨rfl, hB6⟩ := h6.below
  clear h6
  have hz6 := hB6.size
  have HB6 := Lib.hid (HB5.out.trans (hB6.mono HB5.out.size))
  clear hB6 HB5 M0_5 X0_5 Y0_5
  go_wp2_with fail
  go_ret
  exact ⟨rfl, HB6.out⟩

end Go.Proofs.Ytdaoifpmmgfpbaa
