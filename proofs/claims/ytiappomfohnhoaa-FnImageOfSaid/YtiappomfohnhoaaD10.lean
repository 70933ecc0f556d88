/-
  Two graphs drawn, often the same but for the order: DrawSameGraph.
-/
import Derived.Test.YtiappomfohnhoaaD9
import Derived.Test.YtiappomfohnhoaaI3
import Derived.Test.YtiappomfohnhoaaC10
namespace Go.Proofs.Ytiappomfohnhoaa
open Go.RowKit Go.Shelf

def DrawnTwo (w : World) (e : Ending) (w' : World) : Prop :=
  ∃ (a : Option Addr) (c : Nat) (xss : List (List Int)) (a' : Option Addr) (c' : Nat) (yss : List (List Int)), e = .returned (.tuple #[.slice a xss.length c, .slice a' yss.length c']) ∧ (Fit xss ∧ Mat w'.heap.size w' a xss) ∧ (Fit yss ∧ Mat w'.heap.size w' a' yss) ∧ Below w.heap.size w w'

end Go.Proofs.Ytiappomfohnhoaa
