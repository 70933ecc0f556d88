/-
  The laws' own helpers: two slices that read alike are found equal (eqIntS, eqIntSS).
-/
import Derived.Test.YtmohmecdhabapabBase
namespace Go.Proofs.Ytmohmecdhabapab
open Go.RowKit Go.Shelf

/-- THE ANSWER IS v; THE WORLD HAS DRAWN, NO MORE. -/
def Still (v : Value) (w : World) (e : Ending) (w' : World) : Prop := e = .returned v ∧ ∃ n, w' = w.drewN n
theorem Still.below {v : Value} {w w' : World} {e : Ending} (h : Still v w e w') : e = .returned v ∧ Below w.heap.size w w' := by
  obtain ⟨he, n, rfl⟩ := h
  exact ⟨he, ⟨rfl, rfl, rfl, Nat.le_refl _, fun _ _ => rfl⟩⟩
theorem below_drewN {B : Nat} {a w : World} (h : Below B a w) (n : Nat) : Below B a (w.drewN n) := ⟨h.os, h.tape, h.output, h.size, h.block⟩
theorem Ints.drewN {n₀ : Nat} {W : World} {a : Option Addr} {xs : List Int} (h : Ints n₀ W a xs) (n : Nat) : Ints n₀ (W.drewN n) a xs := h
theorem Mat.drewN {n₀ : Nat} {W : World} {a : Option Addr} {xss : List (List Int)} (h : Mat n₀ W a xss) (n : Nat) : Mat n₀ (W.drewN n) a xss := h

theorem Calls_quiet_add {P : Program} {f : FuncId} {args : Array Value} {w : World} {a n : Nat} {v : Value}
    (h : Calls P f args (w.drewN (a + n)) (Still v (w.drewN (a + n)))) :
    Calls P f args (w.drewN (a + n)) fun e w'' => e = .returned v ∧ ∃ m, w'' = w.drewN (a + m) :=
  h.mono fun _ _ ⟨he, m, hm⟩ => ⟨he, n + m, by rw [hm, World.drewN_drewN, Nat.add_assoc]⟩

end Go.Proofs.Ytmohmecdhabapab
