/-
  The walk of the exact law of ArrowsIn.
-/
import Derived.Test.YtdhpkmijbgcdpaaA1
import Derived.Test.YtdhpkmijbgcdpaaA2
import Derived.Test.YtdhpkmijbgcdpaaE3
namespace Go.Proofs.Ytdhpkmijbgcdpaa
open Go.RowKit Go.Shelf

set_option maxRecDepth 100000 in
set_option maxHeartbeats 2000000 in
theorem exArrowsIn_any (a : Option Addr) (c : Nat) (xss : List (List Int)) (w : World) (hM : Mat w.heap.size w a xss) (hl : xss.length ≤ 9223372036854775807) (hr : ∀ xs ∈ xss, xs.length ≤ 9223372036854775807) :
    Calls Try.prog 10 #[.slice a xss.length c] w (Ans (.bool true) w) := by
  have Hr : Hid (∀ xs ∈ xss, xs.length ≤ 9223372036854775807) := hr
  clear hr
  have h00 : ((arrowsI xss) != (arrowsI xss)) = false := by simp
  go_enter Try.func10, Try.ntmps10
  go_wp2_with fail
  refine (szSS_any _ _ _ _ _ hM hl Hr.out).mono ?_
  rintro e w1 ⟨r, ⟨rfl, rfl⟩, hfit⟩
  by_cases hr0 : r < 0
  · go_wp2_with fail
    go_ret
    exact ⟨rfl, Below.refl _ _⟩
  have hF := hfit (by omega)
  have HF := Lib.hid hF
  have hl2 := hF.1
  clear hF hfit
  go_wp2_with fail
  refine (toSS_any _ _ _ _ _ hM HF.out (Nat.le_refl _)).mono ?_
  rintro e w1 ⟨rfl, hB1, hz1, hO1⟩
  have hM1 := hO1.size
  clear hO1
  go_wp2_with fail
  refine (specArrows _ _ _ _ _ hM1 HF.out).mono ?_
  rintro e w2 ⟨rfl, rfl⟩
  have hMw1 : Mat w.heap.size w1 a xss := hM.below hB1
  have hz1' : w.heap.size ≤ w1.heap.size := hB1.size
  clear hM1 hz1
  go_wp2_with fail
  refine (toSS_any _ _ _ _ _ hMw1 HF.out hz1').mono ?_
  rintro e w2 ⟨rfl, hB2, hz2, hO2⟩
  have hM2 := hO2.size
  clear hO2 hz2
  go_wp2_with fail
  refine (implArrows _ _ _ _ hM2 HF.out).mono ?_
  rintro e w3 ⟨rfl, hB3⟩
  have hB13 : Below w.heap.size w w3 := (hB1.trans (hB2.mono hz1')).trans (hB3.mono (Nat.le_trans hz1' hB2.size))
  have hMw3 : Mat w.heap.size w3 a xss := hM.below hB13
  have hM3 : Mat w2.heap.size w3 (some ⟨w1.heap.size, 0, none⟩) xss := hM2.below hB3
  clear hMw1
  have hz3 : w.heap.size ≤ w3.heap.size := hB13.size
  have hz23 : w2.heap.size ≤ w3.heap.size := hB3.size
  clear hB1 hB2 hB3 hM2
  go_wp2_with fail
  refine (toSS_any _ _ _ _ _ hMw3 HF.out hz3).mono ?_
  rintro e w4 ⟨rfl, hB4, hz4, hO4⟩
  have hM4 := hO4.size
  have hM5 : Mat w4.heap.size w4 (some ⟨w1.heap.size, 0, none⟩) xss := (hM3.below (hB4.mono hz23)).more (Nat.le_trans hz23 hB4.size)
  clear hO4 hz4
  go_wp2_with fail
  refine (eqSS_same _ _ _ _ _ _ _ hM5 hM4 HF.out).mono ?_
  rintro e w5 h5
  obtain ⟨rfl, hB5⟩ := h5.below
  go_wp2_with fail
  go_ret
  exact ⟨rfl, hB13.trans ((hB4.mono hz3).trans (hB5.mono (Nat.le_trans hz3 hB4.size)))⟩

end Go.Proofs.Ytdhpkmijbgcdpaa
