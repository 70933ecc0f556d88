/-
  The model's maps, node by node: spec.l2Maps.
-/
import Derived.Test.YtofpjepndhpciaaDoorM8a
import Derived.Test.YtofpjepndhpciaaDoorZM
import Derived.StillTactics
namespace Go.Proofs.YtofpjepndhpciaaDoor
open Go.RowKit Go.Shelf Go.Deep

attribute [local irreducible] wpStill

/-- Rows of one's own, no cell of which lies below. -/
def MadeO (xss : List (List Int)) (w : World) (e : Ending) (w' : World) : Prop := ∃ (a : Option Addr) (c : Nat), (e = .returned (.slice a xss.length c) ∧ Below w.heap.size w w') ∧ OwnMat w.heap.size w' (.slice a xss.length c) xss

end Go.Proofs.YtofpjepndhpciaaDoor
