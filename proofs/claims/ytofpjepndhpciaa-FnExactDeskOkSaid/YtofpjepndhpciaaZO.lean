/-
  Several texts in one.
  impl.leadsLast: the arrows of the last node of a begun row.
  The begun row in its block; a function that leaves with a mark for each range that it has gone through.
-/
import Derived.Test.YtofpjepndhpciaaZN
import Derived.Test.YtofpjepndhpciaaZM
namespace Go.Proofs.Ytofpjepndhpciaa
open Go.RowKit Go.Shelf Go.Deep

attribute [local irreducible] wpStill

/-- What is asked of one node of a begun row. -/
def leadAt (G H : List (List Int)) (r : List Int) (j : Nat) : Bool :=
  (!arw G j (r.length - 1) || arw H (nd r j) (nd r (r.length - 1))) && (!arw G (r.length - 1) j || arw H (nd r (r.length - 1)) (nd r j))
theorem lead_all {G H : List (List Int)} {r : List Int} (h : ∀ j, j < r.length → leadAt G H r j = true) : lead G H r = true := List.all_eq_true.2 fun j hj => h j (List.mem_range.1 hj)
theorem lead_not {G H : List (List Int)} {r : List Int} {j : Nat} (hj : j < r.length) (h : leadAt G H r j = false) : lead G H r = false :=
  Bool.eq_false_iff.2 fun e => by
    have := List.all_eq_true.1 e j (List.mem_range.2 hj)
    have h' : leadAt G H r j = true := this
    rw [h] at h'; cases h'

end Go.Proofs.Ytofpjepndhpciaa

namespace Go.Proofs.Ytofpjepndhpciaa
open Go.RowKit Go.Shelf Go.Deep

/-- THE BLOCK b, of N cells, BEGINS WITH THE ROW p. -/
def Hold (b N : Nat) (p : List Int) (W : World) : Prop := W.ownsRow b 3 1 (.slice (some ⟨b, 0, none⟩) p.length N) p.length (p.map (Value.int .i64))
theorem Hold.lt {b N : Nat} {p : List Int} {W : World} (h : Hold b N p W) : b < W.heap.size := (World.ownsRow.lt h b rfl).2
theorem Hold.shut {b N : Nat} {p : List Int} {W : World} (h : Hold b N p W) : p.length ≤ N := by
  rcases h.2 with ⟨h0, _⟩ | ⟨g, cap, cur, e0, _, _, hnc, _⟩
  · cases h0
  · cases e0; exact hnc
theorem Hold.trunc {b N : Nat} {p : List Int} {x : Int} {W : World} (h : Hold b N (p ++ [x]) W) : Hold b N p W := by
  obtain ⟨h1, h2⟩ := h
  rcases h2 with ⟨h0, _⟩ | ⟨g, cap, cur, e0, hb, hg, hnc, hcm, hs, ht⟩
  · cases h0
  · cases e0
    refine ⟨by simp, .inr ⟨b, N, cur, rfl, hb, hg, by rw [List.length_append, List.length_singleton] at hnc; omega, hcm, hs, ?_⟩⟩
    have h3 := congrArg (List.take p.length) ht
    rw [List.take_take] at h3
    simp only [List.length_append, List.length_singleton, Nat.mul_one, List.map_append] at h3
    rw [show min p.length (p.length + 1) = p.length by omega, List.take_append_of_le_length (by simp)] at h3
    rw [Nat.mul_one, h3]
    exact List.take_of_length_le (by simp)
theorem Hold.kept {b N : Nat} {p : List Int} {A C : World} {row : Option Nat} (h : Hold b N p A) (hg : A.grownBy C row) (hne : some b ≠ row) : Hold b N p C := World.ownsRow.kept h hg (.inr hne)
theorem Hold.below {b N n : Nat} {p : List Int} {A C : World} (h : Hold b N p A) (hb : Below n A C) (hn : b < n) : Hold b N p C := by
  obtain ⟨h1, h2⟩ := h
  refine ⟨h1, ?_⟩
  rcases h2 with h0 | ⟨g, cap, cur, e0, hb', hg, hr⟩
  · exact .inl h0
  · have e1 := e0
    cases e1
    exact .inr ⟨b, N, cur, e0, hb', (hb.block b hn).trans hg, hr⟩
theorem Hold.alloc {b N : Nat} {p : List Int} {W : World} (h : Hold b N p W) (o : Obj) : Hold b N p (W.alloc o) := World.ownsRow.alloc h o
theorem Hold.keepC {b N T : Nat} {S : Nat → Prop} {p : List Int} {A C : World} (h : Hold b N p A) (hk : KeepC S T A C) (hS : ¬ S b) : Hold b N p C := by
  obtain ⟨h1, h2⟩ := h
  refine ⟨h1, ?_⟩
  rcases h2 with h0 | ⟨g, cap, cur, e0, hb', hg, hr⟩
  · exact .inl h0
  · have e1 := e0
    cases e1
    exact .inr ⟨b, N, cur, e0, hb', hk.2 b _ hS hg (.inl rfl), hr⟩
theorem hold_own {β : Type} (b N : Nat) (p : β → List Int) : Own (fun s W => Hold b N (p s) W) := fun s A C row h hg hr => h.kept hg fun e => by
  obtain ⟨o, ho, hc⟩ := hr b e.symm
  rcases h.2 with ⟨h0, _⟩ | ⟨g, cap, cur, e0, hb', hgg, _⟩
  · cases h0
  · cases e0; rw [hgg] at ho; cases ho; cases hc
theorem Hold.ints {b N : Nat} {p : List Int} {W : World} (h : Hold b N p W) : Ints W.heap.size W (some ⟨b, 0, none⟩) p := by
  obtain ⟨aa, cc, e, hI⟩ := own_ints (xs := p) (x := .slice (some ⟨b, 0, none⟩) p.length N) h
  cases e
  exact hI

/-- THE MARKS of the ranges that are through, the last one first. -/
def marks (Ds : List Nat) : List Deferred := Ds.map fun D => { target := .collected D, args := #[] }
def Marked (T : Nat) (Ds : List Nat) (W : World) : Prop := Ds.Pairwise (· > ·) ∧ ∀ D ∈ Ds, T ≤ D ∧ D < W.heap.size ∧ W.heap[D]? = some (.deferred (some []))
theorem Marked.nil (T : Nat) (W : World) : Marked T [] W := ⟨List.Pairwise.nil, fun D h => by cases h⟩
theorem Marked.cons {T D : Nat} {Ds : List Nat} {W : World} (h : Marked T Ds W) (hT : T ≤ D) (hk : W.heap[D]? = some (.deferred (some []))) (hD : ∀ x ∈ Ds, x < D) : Marked T (D :: Ds) W :=
  ⟨List.Pairwise.cons (fun x hx => hD x hx) h.1, fun x hx => by
    rcases List.mem_cons.1 hx with rfl | hx
    · exact ⟨hT, (Array.getElem?_eq_some_iff.1 hk).1, hk⟩
    · exact h.2 x hx⟩
theorem Marked.keep {T : Nat} {Ds : List Nat} {A C : World} (h : Marked T Ds A) (hs : A.heap.size ≤ C.heap.size) (hk : ∀ (D : Nat) (o : Obj), T ≤ D → A.heap[D]? = some o → o.isCells = false → C.heap[D]? = some o) : Marked T Ds C :=
  ⟨h.1, fun D hD => ⟨(h.2 D hD).1, Nat.lt_of_lt_of_le (h.2 D hD).2.1 hs, hk D _ (h.2 D hD).1 (h.2 D hD).2.2 rfl⟩⟩
theorem Marked.keepC {T : Nat} {S : Nat → Prop} {Ds : List Nat} {A C : World} (h : Marked T Ds A) (hk : KeepC S T A C) (hS : ∀ B, S B → B < T) : Marked T Ds C :=
  h.keep hk.1 fun D o hD ho _ => hk.2 D o (fun s => by have := hS D s; omega) ho (.inr hD)
theorem Marked.grown {T : Nat} {Ds : List Nat} {A C : World} {row : Option Nat} (h : Marked T Ds A) (hg : A.grownBy C row) (hr : ∀ r, row = some r → ∃ o : Obj, A.heap[r]? = some o ∧ (o.isCells = true ∨ A.heap.size ≤ r)) : Marked T Ds C :=
  h.keep hg.size fun D o _ ho hc => (hg.block D (Array.getElem?_eq_some_iff.1 ho).1 (fun e => by
    obtain ⟨o', ho', h'⟩ := hr D e.symm
    rw [ho] at ho'; cases ho'
    rcases h' with h' | h'
    · rw [hc] at h'; cases h'
    · have := (Array.getElem?_eq_some_iff.1 ho).1; omega)).trans ho
theorem Marked.below {T n : Nat} {Ds : List Nat} {A C : World} (h : Marked T Ds A) (hb : Below n A C) (hn : A.heap.size ≤ n) : Marked T Ds C :=
  h.keep hb.size fun D _ _ ho _ => (hb.block D (by have := (Array.getElem?_eq_some_iff.1 ho).1; omega)).trans ho

theorem Marked.from {T B : Nat} {Ds : List Nat} {A C : World} {row : Option Nat} (h : Marked T Ds A) (hlt : ∀ D ∈ Ds, D < B) (hg : A.grownBy C row) (hr : ∀ r, row = some r → B ≤ r) : Marked T Ds C :=
  ⟨h.1, fun D hD => ⟨(h.2 D hD).1, Nat.lt_of_lt_of_le (h.2 D hD).2.1 hg.size, (hg.block D (h.2 D hD).2.1 (fun e => by have := hr D e.symm; have := hlt D hD; omega)).trans (h.2 D hD).2.2⟩⟩
theorem Marked.row {T b N : Nat} {p : List Int} {Ds : List Nat} {A C : World} (h : Marked T Ds A) (hH : Hold b N p A) (hg : A.grownBy C (some b)) : Marked T Ds C :=
  h.grown hg fun r e => by
    cases e
    rcases hH.2 with ⟨h0, _⟩ | ⟨g, cap, cur, e0, _, hgg, _⟩
    · cases h0
    · cases e0; exact ⟨_, hgg, .inl rfl⟩
theorem Marked.other {T b : Nat} {Ds : List Nat} {A C : World} (h : Marked T Ds A) (hb : b < T) (hg : A.grownBy C (some b)) : Marked T Ds C :=
  ⟨h.1, fun D hD => ⟨(h.2 D hD).1, Nat.lt_of_lt_of_le (h.2 D hD).2.1 hg.size, (hg.block D (h.2 D hD).2.1 (fun e => by have e' := Option.some.inj e; have := (h.2 D hD).1; omega)).trans (h.2 D hD).2.2⟩⟩
theorem tells_snoc {m' : Nat} {p : List Int} {k : Nat} (h : Tells p.length m' p) (hk : k < m') : Tells (p ++ [(k : Int)]).length m' (p ++ [(k : Int)]) := by
  refine ⟨rfl, fun j y hy => ?_⟩
  by_cases hj : j < p.length
  · rw [List.getElem?_append_left hj] at hy; exact h.2 j y hy
  · rw [List.getElem?_append_right (by omega)] at hy
    have e : j - p.length = 0 := by have := (List.getElem?_eq_some_iff.1 hy).1; simp at this; omega
    rw [e] at hy
    simp at hy
    omega

/-- IT LEAVES: the marks are taken, one after the other. -/
theorem leaves_marks {P : Program} {F : Fence} {n T : Nat} {fn : Func} {tmps : Array Value} {R : Ending → World → Prop} (Z : World → Prop) (hZ : ∀ (W : World) (D : Nat), T ≤ D → W.heap[D]? = some (.deferred (some [])) → Z W → Z (W.putObj D (.deferred none)))
    (hR : ∀ W, Z W → LeavesInM F n P fn tmps R [] .returning W) : ∀ (Ds : List Nat) (W : World), Marked T Ds W → Z W → LeavesInM F n P fn tmps R (marks Ds) .returning W := by
  intro Ds
  induction Ds with
  | nil => exact fun W _ hz => hR W hz
  | cons D Ds ih =>
    intro W h hz
    obtain ⟨h1, h2, h3⟩ := h.2 D (List.mem_cons_self ..)
    refine ⟨by simp, .inl ⟨D, _, rfl, run_takeDeferred h3, ih _ ⟨(List.pairwise_cons.1 h.1).2, fun x hx => ?_⟩ (hZ W D h1 h3 hz)⟩⟩
    obtain ⟨x1, x2, x3⟩ := h.2 x (List.mem_cons_of_mem _ hx)
    have hlt := (List.pairwise_cons.1 h.1).1 x hx
    exact ⟨x1, by simpa using x2, (World.putObj_heap_other (by omega)).trans x3⟩

end Go.Proofs.Ytofpjepndhpciaa
