/-
  Two graphs of at most four nodes drawn: DrawBelowOk, DrawSameLevel, DrawMapsOf, DrawCountOf.
-/
import Derived.Test.YtkkifphpogfjfaaC2
import Derived.Test.YtkkifphpogfjfaaZK
namespace Go.Proofs.Ytkkifphpogfjfaa
open Go.RowKit Go.Shelf

/-- TWO GRAPHS OF AT MOST FOUR NODES, or what are none, ARE DRAWN. -/
def DrawnP4 (w : World) (e : Ending) (w' : World) : Prop :=
  ∃ (a : Option Addr) (c : Nat) (xss : List (List Int)) (a' : Option Addr) (c' : Nat) (yss : List (List Int)), e = .returned (.tuple #[.slice a xss.length c, .slice a' yss.length c']) ∧ (Fit xss ∧ Mat w'.heap.size w' a xss ∧ xss.length ≤ 4) ∧ (Fit yss ∧ Mat w'.heap.size w' a' yss ∧ yss.length ≤ 4) ∧ Below w.heap.size w w'

end Go.Proofs.Ytkkifphpogfjfaa
