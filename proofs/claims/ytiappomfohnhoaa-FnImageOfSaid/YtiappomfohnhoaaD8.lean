/-
  A graph and nodes of it drawn: DrawPartOf.
-/
import Derived.Test.YtiappomfohnhoaaC2
import Derived.Test.YtiappomfohnhoaaZK
namespace Go.Proofs.Ytiappomfohnhoaa
open Go.RowKit Go.Shelf

theorem IOut.alloc {n₀ B k N : Nat} {w W : World} {v : Value} (h : IOut n₀ B w W v k N) (o : Obj) : IOut n₀ B w (W.alloc o) v k N := by
  obtain ⟨h1, h2, h3, ys, hl, ho⟩ := h
  exact ⟨h1.keep (World.grownBy_alloc W o none) (fun r e => by cases e), grow_B h2 (World.grownBy_alloc W o none) (fun r e => by cases e), h3, ys, hl, ho.alloc o⟩
theorem IOut.cell {n₀ B k N g c : Nat} {w W : World} (h : IOut n₀ B w W (.slice (some ⟨g, 0, none⟩) k c) k N) {i : Nat} (hi : i < k) : ∃ y : Int, W.cell? ⟨g, i, none⟩ = some (.int .i64 y) := by
  obtain ⟨_, _, _, ys, hl, ho⟩ := h
  refine ⟨ys[i]'(by omega), ?_⟩
  rw [ho.cellAt i (by omega), List.getElem?_map, List.getElem?_eq_getElem (by omega)]; rfl
theorem IOut.frozen {n₀ B k N g c : Nat} {w W : World} (h : IOut n₀ B w W (.slice (some ⟨g, 0, none⟩) k c) k N) (i : Nat) : W.frozen? ⟨g, i, none⟩ = false := by
  obtain ⟨_, _, _, ys, _, ho⟩ := h
  exact ho.frozenAt i
theorem IOut.store {n₀ B k N g c : Nat} {w W : World} (h : IOut n₀ B w W (.slice (some ⟨g, 0, none⟩) k c) k N) (j : Nat) (y : Int) : IOut n₀ B w (W.setCell ⟨g, j, none⟩ (.int .i64 y)) (.slice (some ⟨g, 0, none⟩) k c) k N := by
  obtain ⟨h1, h2, h3, ys, hl, ho⟩ := h
  have hg := grownBy_set W g j (.int .i64 y)
  have hb := (ho.lt g (by simp [Value.ownBlock])).1
  refine ⟨h1.keep hg (fun r e => by cases e; omega), grow_B h2 hg (fun r e => by cases e; exact .inl hb), h3, ys.set j y, by simp [hl], ?_⟩
  have := (ho.stored j (.int .i64 y)).1
  rwa [List.map_set]
theorem IOut.cap {n₀ B k N c : Nat} {w W : World} {a : Option Addr} (h : IOut n₀ B w W (.slice a k c) k N) : k ≤ c := by
  obtain ⟨_, _, _, ys, _, ho⟩ := h
  rcases ho.2 with ⟨e, h0⟩ | ⟨g, cap, cur, e, _, _, hn, _⟩
  · omega
  · simp only [Value.slice.injEq] at e
    omega

theorem lit_cell (w : World) (cs : Array Value) (t : TypeId) (i : Nat) (v : Value) (h : cs[i]? = some v) : (w.alloc (.cells cs t)).cell? ⟨w.heap.size, i, none⟩ = some v := by
  have h1 := World.alloc_heap_new w (.cells cs t)
  unfold World.cell?
  simp only [h1]
  exact h

/-- A GRAPH, or what is none, AND A LIST ARE DRAWN. -/
def DrawnMI (w : World) (e : Ending) (w' : World) : Prop :=
  ∃ (a : Option Addr) (c : Nat) (xss : List (List Int)) (a' : Option Addr) (c' : Nat) (ys : List Int), e = .returned (.tuple #[.slice a xss.length c, .slice a' ys.length c']) ∧ (Fit xss ∧ Mat w'.heap.size w' a xss) ∧ (ys.length ≤ 10 ∧ ys.length ≤ c' ∧ Ints w'.heap.size w' a' ys) ∧ Below w.heap.size w w'

end Go.Proofs.Ytiappomfohnhoaa
