/-
  The laws' own helpers: how large an argument is (szIntS, szIntSS).
-/
import Derived.Test.YtmohmecdhabapabBase
namespace Go.Proofs.Ytmohmecdhabapab
open Go.RowKit Go.Shelf

/-- WHAT szIntSS SAYS: where it is not negative, all is short. -/
def SzPost (xss : List (List Int)) (w : World) (e : Ending) (w' : World) : Prop := ∃ r : Int, (e = .returned (.int .i64 r) ∧ w = w') ∧ (0 ≤ r → Fit xss)

end Go.Proofs.Ytmohmecdhabapab
