/-
  The walk of the law of P4 (SameGraph).
-/
import Derived.Test.YtiappomfohnhoaaC10
import Derived.Test.YtiappomfohnhoaaD10
import Derived.Test.YtiappomfohnhoaaZX
import Derived.Test.YtiappomfohnhoaaG1
namespace Go.Proofs.Ytiappomfohnhoaa
open Go.RowKit Go.Shelf

theorem own_capQ {W : World} {base k c : Nat} {a : Option Addr} {vs : List Value} (h : W.ownsRow base 3 1 (.slice a k c) k vs) : k ≤ c := by
  rcases h.2 with ⟨e, h0⟩ | ⟨g', cap, cur, e, _, _, hn, _⟩
  · omega
  · simp only [Value.slice.injEq] at e
    omega

end Go.Proofs.Ytiappomfohnhoaa
