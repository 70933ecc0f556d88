/-
  An order drawn: l20Order (what it holds is never asked: a list of so many numbers).
-/
import Derived.Test.YtiappomfohnhoaaD8
namespace Go.Proofs.Ytiappomfohnhoaa
open Go.RowKit Go.Shelf

def DrawnO (n₀ B n N : Nat) (w : World) (e : Ending) (w' : World) : Prop :=
  ∃ (g cap : Nat), e = .returned (.slice (some ⟨g, 0, none⟩) n cap) ∧ Hid (IOut n₀ B w w' (.slice (some ⟨g, 0, none⟩) n cap) n N)

end Go.Proofs.Ytiappomfohnhoaa
