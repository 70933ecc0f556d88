/-
  Two graphs drawn: DrawBesideOf.
-/
import Derived.Test.YtimjijbjadkfnaaC2
namespace Go.Proofs.Ytimjijbjadkfnaa
open Go.RowKit Go.Shelf

/-- TWO GRAPHS, or what are none, ARE DRAWN. -/
def DrawnMM (w : World) (e : Ending) (w' : World) : Prop :=
  ∃ (a : Option Addr) (c : Nat) (xss : List (List Int)) (a' : Option Addr) (c' : Nat) (yss : List (List Int)), e = .returned (.tuple #[.slice a xss.length c, .slice a' yss.length c']) ∧ (Fit xss ∧ Mat w'.heap.size w' a xss) ∧ (Fit yss ∧ Mat w'.heap.size w' a' yss) ∧ Below w.heap.size w w'

end Go.Proofs.Ytimjijbjadkfnaa
