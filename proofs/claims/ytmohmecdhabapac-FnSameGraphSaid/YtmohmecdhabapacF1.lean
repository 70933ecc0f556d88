/-
  impl.rowsBy: rows of noughts and ones in new memory, made after a function of two nodes.
-/
import Derived.Test.YtmohmecdhabapacA2
import Derived.Test.YtmohmecdhabapacE3
namespace Go.Proofs.Ytmohmecdhabapac
open Go.RowKit Go.Shelf Go.Deep

attribute [local go_sem] Oper.semAt_some

/-- THE ROWS that a test of two nodes makes. -/
def rowsP (m : Nat) (p : Nat → Nat → Bool) : List (List Int) := (List.range m).map fun i => (List.range m).map fun j => if p i j = true then 1 else 0
theorem rowsP_length (m : Nat) (p : Nat → Nat → Bool) : (rowsP m p).length = m := by simp [rowsP]
theorem rowsP_get {m : Nat} {p : Nat → Nat → Bool} {i : Nat} (hi : i < m) : (rowsP m p)[i]? = some ((List.range m).map fun j => if p i j = true then 1 else 0) := by simp [rowsP, hi]
theorem rowsP_row {m : Nat} {p : Nat → Nat → Bool} {i : Nat} {xs : List Int} (h : (rowsP m p)[i]? = some xs) : i < m ∧ xs = (List.range m).map fun j => if p i j = true then 1 else 0 := by
  have hi : i < m := by have := (List.getElem?_eq_some_iff.1 h).1; rwa [rowsP_length] at this
  rw [rowsP_get hi] at h
  exact ⟨hi, (Option.some.inj h).symm⟩
theorem rowsP_ent {m : Nat} {p : Nat → Nat → Bool} {i j : Nat} (hi : i < m) (hj : j < m) : ent (rowsP m p) i j = if p i j = true then 1 else 0 := by
  simp [ent, rowsP_get hi, hj]
theorem rowsP_good {m : Nat} (p : Nat → Nat → Bool) (h1 : 1 ≤ m) (h9 : m ≤ 9) : Good (rowsP m p) := by
  refine ⟨by rw [rowsP_length]; exact h1, by rw [rowsP_length]; exact h9, fun xs hx => ?_⟩
  obtain ⟨i, hi, rfl⟩ := List.mem_map.1 hx
  refine ⟨by rw [rowsP_length]; simp, fun x hx => ?_⟩
  obtain ⟨j, _, rfl⟩ := List.mem_map.1 hx
  split <;> simp
theorem Good.fit {xss : List (List Int)} (h : Good xss) : Fit xss := ⟨by have := h.2.1; omega, fun xs hx => by have := (h.2.2 xs hx).1; have := h.2.1; omega⟩
/-- A graph is the rows of its own arrows. -/
theorem good_rowsP {xss : List (List Int)} (h : Good xss) : xss = rowsP xss.length (arw xss) := by
  apply List.ext_getElem?
  intro i
  by_cases hi : i < xss.length
  · rw [rowsP_get hi, List.getElem?_eq_getElem hi]
    congr 1
    have e1 := List.getElem?_eq_getElem hi
    have hl := h.len e1
    apply List.ext_getElem?
    intro j
    by_cases hj : j < xss.length
    · have e2 := List.getElem?_eq_getElem (l := xss[i]) (i := j) (by omega)
      rw [e2]
      simp only [List.getElem?_map, List.getElem?_range hj, Option.map_some]
      have he := ent_eq e1 e2
      have hv := (good_iff_ent h.1 h.2.1 (fun i xs hx => h.len hx)).1 h (⟨i, hi⟩, ⟨j, hj⟩)
      simp only at hv
      unfold arw
      rw [he] at hv ⊢
      rcases hv with e | e <;> simp [e]
    · rw [List.getElem?_eq_none (by omega), List.getElem?_eq_none (by simp; omega)]
  · rw [List.getElem?_eq_none (by omega), List.getElem?_eq_none (by rw [rowsP_length]; omega)]
theorem rowsP_congr {m : Nat} {p q : Nat → Nat → Bool} (h : ∀ i j, i < m → j < m → p i j = q i j) : rowsP m p = rowsP m q := by
  unfold rowsP
  refine List.map_congr_left fun i hi => List.map_congr_left fun j hj => ?_
  rw [h i j (List.mem_range.1 hi) (List.mem_range.1 hj)]
theorem arw_rowsP {m : Nat} {p : Nat → Nat → Bool} {i j : Nat} (hi : i < m) (hj : j < m) : arw (rowsP m p) i j = p i j := by
  unfold arw; rw [rowsP_ent hi hj]; cases p i j <;> simp

/-- k rows are made, all noughts. -/
structure RPart (w wr : World) (fv : Value) (m k : Nat) : Prop where
  below : Below w.heap.size w wr
  size : wr.heap.size = w.heap.size + 3 + k
  fn : Boxed wr w.heap.size 51 fv
  var : Boxed wr (w.heap.size + 2) 23 (.slice (some ⟨w.heap.size + 1, 0, none⟩) m m)
  top : wr.rowIs (w.heap.size + 1) 24 m (fun i => if i < k then .slice (some ⟨w.heap.size + 3 + i, 0, none⟩) m m else .slice none 0 0)
  done : ∀ i, i < k → wr.rowIs (w.heap.size + 3 + i) 3 m (fun _ => .int .i64 0)
theorem RPart.start (w : World) (fv : Value) (m : Nat) : RPart w (((w.alloc (.cells #[fv] 51)).alloc (.cells (madeCells #[.slice none 0 0] m) 24)).alloc (.cells #[.slice (some ⟨w.heap.size + 1, 0, none⟩) m m] 23)) fv m 0 := by
  refine ⟨(((Below.refl _ _).alloc (Nat.le_refl _) _).alloc (by simp) _).alloc (by simp; omega) _, by simp, ((Boxed.new w _ fv).alloc _).alloc _, ?_, ?_, fun i h => absurd h (Nat.not_lt_zero _)⟩
  · have := Boxed.new ((w.alloc (.cells #[fv] 51)).alloc (.cells (madeCells #[.slice none 0 0] m) 24)) 23 (.slice (some ⟨w.heap.size + 1, 0, none⟩) m m)
    simp only [World.size_alloc] at this; exact this
  · have := (World.rowIs_made (w.alloc (.cells #[fv] 51)) (.slice none 0 0) m 24).alloc (.cells #[.slice (some ⟨w.heap.size + 1, 0, none⟩) m m] 23)
    simp only [World.size_alloc] at this
    exact this.congr fun i _ => by simp
theorem RPart.step {w wr : World} {fv : Value} {m k : Nat} (h : RPart w wr fv m k) :
    RPart w ((wr.alloc (.cells (madeCells #[.int .i64 0] m) 3)).setCell ⟨w.heap.size + 1, k, none⟩ (.slice (some ⟨w.heap.size + 3 + k, 0, none⟩) m m)).drew fv m (k + 1) := by
  have hs := h.size
  have hn := World.rowIs_made wr (.int .i64 0) m 3
  rw [hs] at hn
  refine ⟨((h.below.alloc (by omega) _).setCell (p := ⟨w.heap.size + 1, k, none⟩) (Nat.le_succ _) _).drew, by simp [hs]; omega,
    ?_, ?_, ((h.top.alloc _).set k _).congr fun i hi => ?_, fun i hi => ?_⟩
  · exact (Below.heap_setCell _ ⟨w.heap.size + 1, k, none⟩ _ w.heap.size (by show w.heap.size ≠ w.heap.size + 1; omega)).trans (h.fn.alloc _)
  · exact (Below.heap_setCell _ ⟨w.heap.size + 1, k, none⟩ _ (w.heap.size + 2) (by show w.heap.size + 2 ≠ w.heap.size + 1; omega)).trans (h.var.alloc _)
  · by_cases e : i = k
    · subst e; simp
    · by_cases hlt : i < k
      · simp [e, hlt, show i < k + 1 by omega]
      · simp [e, hlt, show ¬ i < k + 1 by omega]
  · by_cases e : i = k
    · subst e; exact (hn.setOther (by show w.heap.size + 3 + i ≠ w.heap.size + 1; omega) _).drew
    · exact (((h.done i (by omega)).alloc _).setOther (by show w.heap.size + 3 + i ≠ w.heap.size + 1; omega) _).drew

/-- 'Block b is a row' speaks of cells alone. -/
theorem rowIs_own {β : Type} (b : Nat) (t : TypeId) (n : Nat) (f : β → Nat → Value) : Own (fun s W => W.rowIs b t n (f s)) := fun s A B row h hg hr =>
  World.rowIs.of_block h (hg.block b (World.rowIs.lt h) (fun e => by
    obtain ⟨o, ho, hc⟩ := hr b e.symm
    obtain ⟨c, hb, _⟩ := h
    rw [hb] at ho; cases ho; cases hc))

/-- Row i when the pairs pre have come. -/
def cellP (p : Nat → Nat → Bool) {m : Nat} (pre : List (Fin m × Fin m)) (i j : Nat) : Value := .int .i64 (if (∃ x ∈ pre, x.1.1 = i ∧ x.2.1 = j) ∧ p i j = true then 1 else 0)

end Go.Proofs.Ytmohmecdhabapac
