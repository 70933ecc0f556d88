/-
  A new list, and whether there is one.
-/
import Derived.Test.YtkkifphpogfjfaaW0
namespace Go.Proofs.Ytkkifphpogfjfaa
open Go.RowKit Go.Shelf Go.Deep

/-- A new list, and whether there is one. -/
def MadeLB (zs : List Int) (yes : Bool) (w : World) (e : Ending) (w' : World) : Prop := ∃ (a : Option Addr) (c : Nat), (e = .returned (.tuple #[.slice a zs.length c, .bool yes]) ∧ Below w.heap.size w w') ∧ w'.ownsRow w.heap.size 3 1 (.slice a zs.length c) zs.length (zs.map (Value.int .i64))

end Go.Proofs.Ytkkifphpogfjfaa
