/-
  Sizes and marks of a second slice of rows.
-/
import Derived.Test.YtmohmecdhabapabA1
import Derived.Test.YtmohmecdhabapabG2
namespace Go.Proofs.Ytmohmecdhabapab
open Go.RowKit Go.Shelf

/-- WHAT szIntSS SAYS: where it is not negative, all is short, and what is left is no more than it was at most. -/
def SzLe (xss : List (List Int)) (w : World) (e : Ending) (w' : World) : Prop := ∃ r : Int, (e = .returned (.int .i64 r) ∧ w = w') ∧ r ≤ 1048576 ∧ (0 ≤ r → Fit xss)

end Go.Proofs.Ytmohmecdhabapab
