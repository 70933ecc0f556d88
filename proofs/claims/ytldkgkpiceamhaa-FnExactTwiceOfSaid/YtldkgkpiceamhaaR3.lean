/-
  A call that returns alone is a call at whose return the others, if any, only leave.
-/
import Derived.Handed
import Derived.Conc.LeavingOf
import Derived.Test.YtldkgkpiceamhaaProg
namespace Go.Proofs.Ytldkgkpiceamhaa
open Go.RowKit

theorem leaving_of_handed {a : Assume} {C : Checked} {os : Os} {f : FuncId} {Pre : World → Array Value → Prop} {Post : World → Array Value → Value → World → Prop}
    (h : ReturnsInHanded a C os f .any Pre Post) : ReturnsInLeavingWide a C os f .any Pre Post := fun enter => by
  obtain ⟨h1, h2, h3, h4, h5⟩ := h enter
  refine ⟨h1, h2, h3, h4, fun w tape i hf => ?_⟩
  obtain ⟨n, v, w', b1, b2, b3, b4, ⟨j, last, c1, c2, hq, hho, heh⟩, b6⟩ := h5 w tape i hf
  refine ⟨n, v, w', b1, b2, b3, b4, ⟨j, last, c1, c2, hho, ⟨fun g hg => ⟨0, ?_⟩, hq.2⟩, heh⟩, b6⟩
  have h9 := List.all_eq_true.1 hq.1 g hg
  exact eq_of_beq h9

end Go.Proofs.Ytldkgkpiceamhaa
