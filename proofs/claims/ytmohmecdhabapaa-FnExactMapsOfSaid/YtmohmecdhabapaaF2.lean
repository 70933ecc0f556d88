/-
  impl.rowsBy: the walk.
-/
import Derived.Test.YtmohmecdhabapaaF1
namespace Go.Proofs.Ytmohmecdhabapaa
open Go.RowKit Go.Shelf Go.Deep

attribute [local go_sem] Oper.semAt_some

/-- ROWS OF NOUGHTS AND ONES LIE IN NEW BLOCKS. -/
def MadeM (w : World) (m : Nat) (p : Nat → Nat → Bool) (e : Ending) (w' : World) : Prop :=
  e = .returned (.slice (some ⟨w.heap.size + 1, 0, none⟩) m m) ∧ Below w.heap.size w w' ∧ OwnM w' (w.heap.size + 1) (fun i => w.heap.size + 3 + i) (rowsP m p)

theorem cellP_start (p : Nat → Nat → Bool) {m : Nat} (i j : Nat) : cellP p ([] : List (Fin m × Fin m)) i j = .int .i64 0 := by simp [cellP]
theorem inP_snoc {m : Nat} {pre : List (Fin m × Fin m)} {i j : Nat} (hi : i < m) (hj : j < m) (k l : Nat) :
    (∃ x ∈ pre ++ [((⟨i, hi⟩ : Fin m), (⟨j, hj⟩ : Fin m))], x.1.1 = k ∧ x.2.1 = l) ↔ (∃ x ∈ pre, x.1.1 = k ∧ x.2.1 = l) ∨ (i = k ∧ j = l) := by
  constructor
  · rintro ⟨x, hx, h⟩
    rcases List.mem_append.1 hx with hx | hx
    · exact .inl ⟨x, hx, h⟩
    · simp only [List.mem_singleton] at hx; subst hx; exact .inr h
  · rintro (⟨x, hx, h⟩ | h)
    · exact ⟨x, List.mem_append.2 (.inl hx), h⟩
    · exact ⟨_, List.mem_append.2 (.inr (List.mem_singleton.2 rfl)), h⟩
theorem cellP_yes (p : Nat → Nat → Bool) {m : Nat} {pre : List (Fin m × Fin m)} {i j : Nat} (hi : i < m) (hj : j < m) (hp : p i j = true) (k l : Nat) :
    cellP p (pre ++ [((⟨i, hi⟩ : Fin m), (⟨j, hj⟩ : Fin m))]) k l = if k = i ∧ l = j then .int .i64 1 else cellP p pre k l := by
  unfold cellP
  simp only [inP_snoc hi hj]
  by_cases e : k = i ∧ l = j
  · obtain ⟨rfl, rfl⟩ := e
    simp [hp]
  · have e' : ¬ (i = k ∧ j = l) := fun h => e ⟨h.1.symm, h.2.symm⟩
    simp only [e', or_false, if_neg e]
theorem cellP_no (p : Nat → Nat → Bool) {m : Nat} {pre : List (Fin m × Fin m)} {i j : Nat} (hi : i < m) (hj : j < m) (hp : p i j = false) (k l : Nat) :
    cellP p (pre ++ [((⟨i, hi⟩ : Fin m), (⟨j, hj⟩ : Fin m))]) k l = cellP p pre k l := by
  unfold cellP
  simp only [inP_snoc hi hj]
  by_cases e : i = k ∧ j = l
  · obtain ⟨rfl, rfl⟩ := e
    simp [hp]
  · simp only [e, or_false]
theorem cellP_all (p : Nat → Nat → Bool) {m : Nat} {i j : Nat} (hi : i < m) (hj : j < m) : cellP p (PL m) i j = .int .i64 (if p i j = true then 1 else 0) := by
  unfold cellP
  congr 1
  by_cases h : p i j = true
  · rw [if_pos h, if_pos ⟨⟨(⟨i, hi⟩, ⟨j, hj⟩), PL_all _, rfl, rfl⟩, h⟩]
  · rw [if_neg h, if_neg fun h' => h h'.2]

/-- WHAT HOLDS BETWEEN TWO ROUNDS. -/
structure RMid (w W : World) (fv : Value) (m : Nat) (p : Nat → Nat → Bool) (pre : List (Fin m × Fin m)) : Prop where
  below : Below w.heap.size w W
  fn : Boxed W w.heap.size 48 fv
  var : Boxed W (w.heap.size + 2) 22 (.slice (some ⟨w.heap.size + 1, 0, none⟩) m m)
  top : W.rowIs (w.heap.size + 1) 26 m (fun i => .slice (some ⟨w.heap.size + 3 + i, 0, none⟩) m m)
  rows : ∀ i, i < m → W.rowIs (w.heap.size + 3 + i) 3 m (cellP p pre i)
theorem RMid.own {w : World} {fv : Value} {m : Nat} {p : Nat → Nat → Bool} {B : Nat} (hB : w.heap.size ≤ B) : OwnFrom B (fun pre W => RMid w W fv m p pre) := fun s A C row h hg hr => by
  have hr2 : ∀ r, row = some r → ∃ o : Obj, A.heap[r]? = some o ∧ o.isCells = false := fun r e => (hr r e).2
  exact ⟨ownFrom_below (β := Unit) (Nat.le_refl _) hB () A C row h.below hg hr,
    boxed_own _ _ (fun (_ : Unit) => fv) () A C row h.fn hg hr2, boxed_own _ _ (fun (_ : Unit) => .slice (some ⟨w.heap.size + 1, 0, none⟩) m m) () A C row h.var hg hr2,
    rowIs_own _ _ _ (fun (_ : Unit) => _) () A C row h.top hg hr2, fun i hi => rowIs_own _ _ _ (fun (_ : Unit) => _) () A C row (h.rows i hi) hg hr2⟩
theorem RMid.grown {w W W' : World} {fv : Value} {m : Nat} {p : Nat → Nat → Bool} {pre : List (Fin m × Fin m)} (h : RMid w W fv m p pre) (hb : Below W.heap.size W W') : RMid w W' fv m p pre :=
  ⟨h.below.trans (hb.mono h.below.size), (hb.block _ h.fn.lt).trans h.fn, (hb.block _ h.var.lt).trans h.var, World.rowIs.of_block h.top (hb.block _ (World.rowIs.lt h.top)), fun i hi => World.rowIs.of_block (h.rows i hi) (hb.block _ (World.rowIs.lt (h.rows i hi)))⟩
theorem RMid.no {w W : World} {fv : Value} {m : Nat} {p : Nat → Nat → Bool} {pre : List (Fin m × Fin m)} (h : RMid w W fv m p pre) {i j : Nat} (hi : i < m) (hj : j < m) (hp : p i j = false) : RMid w W fv m p (pre ++ [((⟨i, hi⟩ : Fin m), (⟨j, hj⟩ : Fin m))]) :=
  ⟨h.below, h.fn, h.var, h.top, fun k hk => (h.rows k hk).congr fun l _ => (cellP_no p hi hj hp k l).symm⟩
theorem RMid.yes {w W : World} {fv : Value} {m : Nat} {p : Nat → Nat → Bool} {pre : List (Fin m × Fin m)} (h : RMid w W fv m p pre) {i j : Nat} (hi : i < m) (hj : j < m) (hp : p i j = true) :
    RMid w (W.setCell ⟨w.heap.size + 3 + i, j, none⟩ (.int .i64 1)) fv m p (pre ++ [((⟨i, hi⟩ : Fin m), (⟨j, hj⟩ : Fin m))]) := by
  refine ⟨h.below.setCell (p := ⟨w.heap.size + 3 + i, j, none⟩) (by show w.heap.size ≤ w.heap.size + 3 + i; omega) _,
    (Below.heap_setCell _ ⟨w.heap.size + 3 + i, j, none⟩ _ w.heap.size (by show w.heap.size ≠ w.heap.size + 3 + i; omega)).trans h.fn,
    (Below.heap_setCell _ ⟨w.heap.size + 3 + i, j, none⟩ _ (w.heap.size + 2) (by show w.heap.size + 2 ≠ w.heap.size + 3 + i; omega)).trans h.var,
    World.rowIs.setOther h.top (by show w.heap.size + 1 ≠ w.heap.size + 3 + i; omega) _, fun k hk => ?_⟩
  by_cases e : k = i
  · subst e
    refine ((h.rows k hk).set j _).congr fun l _ => ?_
    rw [cellP_yes p hi hj hp]
    by_cases el : l = j
    · simp [el]
    · simp [el]
  · refine (World.rowIs.setOther (h.rows k hk) (by show w.heap.size + 3 + k ≠ w.heap.size + 3 + i; omega) _).congr fun l _ => ?_
    rw [cellP_yes p hi hj hp, if_neg fun h' => e h'.1]
theorem RMid.own_m {w W : World} {fv : Value} {m : Nat} {p : Nat → Nat → Bool} (h : RMid w W fv m p (PL m)) : OwnM W (w.heap.size + 1) (fun i => w.heap.size + 3 + i) (rowsP m p) := by
  refine ⟨?_, fun i xs hx => ?_⟩
  · rw [rowsP_length]
    refine h.top.congr fun i hi => ?_
    rw [rowsP_get hi]; simp
  · obtain ⟨hi, rfl⟩ := rowsP_row hx
    unfold RowI
    rw [List.length_map, List.length_range]
    refine (h.rows i hi).congr fun j hj => ?_
    rw [cellP_all p hi hj]; simp [hj]

end Go.Proofs.Ytmohmecdhabapaa
