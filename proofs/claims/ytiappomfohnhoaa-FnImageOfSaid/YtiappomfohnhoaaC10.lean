/-
  The walk of the exact law of PartOf.
-/
import Derived.Test.YtiappomfohnhoaaZA
import Derived.Test.YtiappomfohnhoaaG1
import Derived.Test.YtiappomfohnhoaaG2
import Derived.Test.YtiappomfohnhoaaI3
namespace Go.Proofs.Ytiappomfohnhoaa
open Go.RowKit Go.Shelf

theorem part_fit {xss : List (List Int)} {ys : List Int} : Fit (partL xss ys) := by
  by_cases h : gOk xss = true ∧ 1 ≤ ys.length ∧ Nodes xss.length ys
  · rw [partL_yes h.1 h.2.1 h.2.2]
    have := nodes_le h.2.2
    have := (good_of h.1).2.1
    exact (rowsP_good _ h.2.1 (by omega)).fit
  · rw [partL_no h]
    exact ⟨by simp, fun xs hx => by cases hx⟩
theorem Touch.rowI {S : Nat → Prop} {W W' : World} {b : Nat} {xs : List Int} (h : Touch S W W') (hr : RowI W b xs) (hb : ¬ S b) : RowI W' b xs := World.rowIs.of_block hr (h.block b hb)

end Go.Proofs.Ytiappomfohnhoaa
