/-
  impl.MapsOf.
-/
import Derived.Test.YtkkifphpogfjfaaZM
import Derived.Test.YtkkifphpogfjfaaM6e
import Derived.Test.YtkkifphpogfjfaaM7
import Derived.Test.YtkkifphpogfjfaaM11a
import Derived.Stop.RegionWithIn
namespace Go.Proofs.Ytkkifphpogfjfaa
open Go.RowKit Go.Shelf Go.Deep

attribute [local go_sem] Oper.semAt_some

/-- Rows of one's own, each apart from the others, no cell of which lies below. -/
def MadeS (xss : List (List Int)) (w : World) (e : Ending) (w' : World) : Prop := ∃ (a : Option Addr) (c : Nat), (e = .returned (.slice a xss.length c) ∧ Below w.heap.size w w') ∧ OwnSep w.heap.size w' (.slice a xss.length c) xss
theorem own_form {W : World} {base e n : Nat} {v : Value} {xs : List Value} (h : W.ownsRow base e 1 v n xs) : ∃ (a : Option Addr) (c : Nat), v = .slice a n c := by
  rcases h.2 with ⟨rfl, rfl⟩ | ⟨g, cap, cur, rfl, _⟩
  · exact ⟨none, 0, rfl⟩
  · exact ⟨_, cap, rfl⟩
theorem great_of {W : World} {base e n g cap : Nat} {xs : List Value} (h : W.ownsRow base e 1 (.slice (some ⟨g, 0, none⟩) n cap) n xs) (hn : 1 ≤ n) (hlt : n < cap) (he : e = 36) : base ≤ g ∧ ∃ o, W.heap[g]? = some o ∧ Great o := by
  rcases h.2 with ⟨e1, _⟩ | ⟨g', cap', cur, e1, hb, hg, _, _, hcs, _⟩
  · cases e1
  · cases e1
    subst he
    exact ⟨hb, _, hg, cur, (0, 0), rfl, by omega⟩

/-- append as the one step that may come up, in a region that draws. -/
theorem appendAny {P : Program} {fuel k : Nat} {ops : Array Oper} {Q : Exit → Act → World → Prop} {listed : Array Bool} {a : Act} {w w' : World} {o : Oper} {s x : Operand} {t : TypeId} {v v' u : Value}
    (hr : Region.ready .any ops listed = [k]) (hk : ops[k]? = some o) (hg : o.guard = none) (hop : o.op = Op.call { callee := Callee.builtin Builtin.append, args := #[s, x], argTypes := #[t, t] })
    (hs : a.eval s = v) (hx : a.eval x = u) (hrun : (Builtin.append_ #[t, t] o.type #[v, u]).run P w = .ok v' w') (h : wpAny P .any ops Q fuel (listed.setIfInBounds k true) (a.put o.dst v') w') :
    wpAny P .any ops Q (fuel + 1) listed a w := by
  refine ⟨fun e => (by rw [hr] at e; cases e), fun i hi => ?_⟩
  rw [hr] at hi
  obtain rfl := List.mem_singleton.1 hi
  have hw : Region.wanted o (yielded ops a.tmps) = true := by simp [Region.wanted, hg]
  unfold wpOp
  simp only [hk]
  rw [if_pos hw]
  refine .inl ?_
  unfold Oper.wp
  simp [execOp, hop, resolve, invoke, builtin, hs, hx, hrun, Result.andThen]
  exact h

end Go.Proofs.Ytkkifphpogfjfaa
