/-
  Orders, and the graphs that they make: what holds of the lists alone.
-/
import Derived.Test.YtmohmecdhabapacL4
import Derived.Test.YtmohmecdhabapacQ4
import Derived.Test.YtmohmecdhabapacQ3
namespace Go.Proofs.Ytmohmecdhabapac
open Go.RowKit Go.Shelf Go.Deep

theorem olvl_ord (n k : Nat) : ∀ m, (olvl n k).flatMap (ordL n m) = ordL n (k + m) [] := by
  induction k with
  | zero => intro m; simp [olvl]
  | succ k ih =>
    intro m
    rw [olvl, List.flatMap_assoc, show k + 1 + m = k + (m + 1) by omega, ← ih (m + 1)]
    rfl
theorem ord_olvl (n : Nat) : ordL n n [] = olvl n n := by
  have h := olvl_ord n n 0
  rw [Nat.add_zero] at h
  rw [← h]
  have e : ordL n 0 = fun p => [p] := rfl
  rw [e, List.flatMap_singleton']
theorem Nodes.more {m : Nat} {ys : List Int} {x : Nat} (h : Nodes m ys) (hx : x < m) (hc : ys.contains (x : Int) = false) : Nodes m (ys ++ [(x : Int)]) := by
  have key : ∀ k (t : Int), (ys ++ [(x : Int)])[k]? = some t → (k < ys.length ∧ ys[k]? = some t) ∨ (k = ys.length ∧ t = x) := fun k t ht => by
    by_cases hk : k < ys.length
    · exact .inl ⟨hk, by rwa [List.getElem?_append_left hk] at ht⟩
    · refine .inr ?_
      rw [List.getElem?_append_right (by omega)] at ht
      have h0 : k - ys.length = 0 := by have := (List.getElem?_eq_some_iff.1 ht).1; simp at this; omega
      rw [h0] at ht
      exact ⟨by omega, by simpa using ht.symm⟩
  refine ⟨fun j y hy => ?_, fun i j y hij hy e => ?_⟩
  · rcases key j y hy with ⟨_, h2⟩ | ⟨_, rfl⟩
    · exact h.1 j y h2
    · omega
  · rcases key i y hy with ⟨h1, h2⟩ | ⟨h1, rfl⟩ <;> rcases key j _ e with ⟨h3, h4⟩ | ⟨h3, h4⟩
    · exact h.2 i j y hij h2 h4
    · subst h4
      have := List.contains_iff_mem.2 (List.mem_of_getElem? h2)
      rw [hc] at this; cases this
    · omega
    · omega
theorem olvl_nodes {n : Nat} : ∀ {k : Nat} {p : List Int}, p ∈ olvl n k → Nodes n p
  | 0, p, h => by
    rw [olvl, List.mem_singleton] at h
    subst h
    exact ⟨fun j y hy => by simp at hy, fun i j y _ hy => by simp at hy⟩
  | k + 1, p, h => by
    rw [olvl, List.mem_flatMap] at h
    obtain ⟨q, hq, hp⟩ := h
    unfold oexts at hp
    obtain ⟨x, hx, rfl⟩ := List.mem_map.1 hp
    obtain ⟨hx1, hx2⟩ := List.mem_filter.1 hx
    exact (olvl_nodes hq).more (List.mem_range.1 hx1) (by simpa using hx2)
theorem nodes_tells {m n : Nat} {p : List Int} (hl : p.length = m) (h : Nodes n p) : Tells m n p := ⟨hl, h.1⟩
/-- The order makes the second graph of the first one: the part in that order is the second graph. -/
theorem same_part {G H : List (List Int)} {f : List Int} (hG : gOk G = true) (hH : gOk H = true) (hl : f.length = H.length) (hN : Nodes G.length f) : sameBy G H f = true ↔ partL G f = H := by
  have hg := good_of hH
  have hY := partL_yes hG (show 1 ≤ f.length by rw [hl]; exact hg.1) hN
  unfold sameBy
  rw [List.all_eq_true]
  constructor
  · intro h
    rw [hY, hl]
    conv => rhs; rw [good_rowsP hg]
    refine rowsP_congr fun i j hi hj => ?_
    have := h (⟨i, hi⟩, ⟨j, hj⟩) (PL_all _)
    simpa using this
  · intro h x _
    have e : arw (partL G f) x.1 x.2 = arw G (nd f x.1) (nd f x.2) := by rw [hY, hl]; exact arw_rowsP x.1.2 x.2.2
    rw [h] at e
    rw [e]
    simp
/-- The first order in which the nodes of a graph make another one. -/
def sameGI (G H : List (List Int)) : Option (List Int) := if gOk G && gOk H && G.length == H.length && decide (G.length ≤ 5) then (olvl G.length G.length).find? (sameBy G H) else none

end Go.Proofs.Ytmohmecdhabapac
