/-
  impl.leadsLast: the arrows of the last node of a begun row.
-/
import Derived.Test.YtmohmecdhabapacM3
import Derived.Test.YtmohmecdhabapacM0b
import Derived.Test.YtmohmecdhabapacM0
namespace Go.Proofs.Ytmohmecdhabapac
open Go.RowKit Go.Shelf Go.Deep

attribute [local irreducible] wpStill

/-- What is asked of one node of a begun row. -/
def leadAt (G H : List (List Int)) (r : List Int) (j : Nat) : Bool :=
  (!arw G j (r.length - 1) || arw H (nd r j) (nd r (r.length - 1))) && (!arw G (r.length - 1) j || arw H (nd r (r.length - 1)) (nd r j))
theorem lead_all {G H : List (List Int)} {r : List Int} (h : ∀ j, j < r.length → leadAt G H r j = true) : lead G H r = true := List.all_eq_true.2 fun j hj => h j (List.mem_range.1 hj)
theorem lead_not {G H : List (List Int)} {r : List Int} {j : Nat} (hj : j < r.length) (h : leadAt G H r j = false) : lead G H r = false :=
  Bool.eq_false_iff.2 fun e => by
    have := List.all_eq_true.1 e j (List.mem_range.2 hj)
    have h' : leadAt G H r j = true := this
    rw [h] at h'; cases h'

end Go.Proofs.Ytmohmecdhabapac
