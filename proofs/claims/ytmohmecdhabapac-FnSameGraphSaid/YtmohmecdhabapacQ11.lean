/-
  The same both ways: what holds of SameGraph's answer (P4), lists alone.
-/
import Derived.Test.YtmohmecdhabapacQ10
import Derived.Test.YtmohmecdhabapacL4
namespace Go.Proofs.Ytmohmecdhabapac
open Go.RowKit Go.Shelf Go.Deep

theorem Nodes.less {m : Nat} {ys : List Int} {x : Int} (h : Nodes m (ys ++ [x])) : Nodes m ys ∧ (0 ≤ x ∧ x < m) ∧ ys.contains x = false := by
  have hx : (ys ++ [x])[ys.length]? = some x := by simp
  have low : ∀ (j : Nat) (y : Int), ys[j]? = some y → (ys ++ [x])[j]? = some y := fun j y hy => by
    rw [List.getElem?_append_left (List.getElem?_eq_some_iff.1 hy).1]; exact hy
  refine ⟨⟨fun j y hy => h.1 j y (low j y hy), fun i j y hij hy hy2 => h.2 i j y hij (low i y hy) (low j y hy2)⟩, h.1 _ _ hx, ?_⟩
  refine Bool.eq_false_iff.2 fun hc => ?_
  obtain ⟨i, hi, e⟩ := List.mem_iff_getElem.1 (List.contains_iff_mem.1 hc)
  exact h.2 i ys.length x hi (low i x (by rw [List.getElem?_eq_getElem hi, e])) hx
theorem nodes_olvl {n : Nat} : ∀ (k : Nat) (p : List Int), p.length = k → Nodes n p → p ∈ olvl n k
  | 0, p, hl, _ => by rw [List.length_eq_zero_iff.1 hl, olvl]; simp
  | k + 1, p, hl, h => by
    have hne : p ≠ [] := fun e => by rw [e] at hl; simp at hl
    have e := List.dropLast_concat_getLast hne
    rw [← e] at h
    obtain ⟨h1, ⟨h2, h3⟩, h4⟩ := h.less
    have hq := nodes_olvl k p.dropLast (by rw [List.length_dropLast]; omega) h1
    rw [olvl, List.mem_flatMap]
    refine ⟨p.dropLast, hq, ?_⟩
    unfold oexts
    have hx : ((p.getLast hne).toNat : Int) = p.getLast hne := Int.toNat_of_nonneg h2
    refine List.mem_map.2 ⟨(p.getLast hne).toNat, List.mem_filter.2 ⟨List.mem_range.2 (by omega), ?_⟩, ?_⟩
    · rw [hx, h4]; rfl
    · rw [hx]; exact e
theorem nodes_onto {n : Nat} {f : List Int} (hl : f.length = n) (h : Nodes n f) {j : Nat} (hj : j < n) : ∃ i, i < n ∧ nd f i = j := by
  by_cases hc : f.contains (j : Int) = true
  · obtain ⟨i, hi, e⟩ := List.mem_iff_getElem.1 (List.contains_iff_mem.1 hc)
    refine ⟨i, by omega, ?_⟩
    have := (nodes_nd h hi).1
    rw [List.getElem?_eq_getElem hi, e] at this
    have := Option.some.inj this
    omega
  · have := nodes_le (h.more hj (by simpa using hc))
    rw [List.length_append, List.length_singleton] at this
    omega
/-- The order that undoes one. -/
theorem nodes_undo {n : Nat} {f : List Int} (hl : f.length = n) (h : Nodes n f) : ∃ g : List Int, g.length = n ∧ Nodes n g ∧ ∀ i, i < n → nd f (nd g i) = i := by
  obtain ⟨F, hF⟩ : ∃ F : Nat → Nat, ∀ j, j < n → F j < n ∧ nd f (F j) = j := by
    refine ⟨fun j => if hj : j < n then Classical.choose (nodes_onto hl h hj) else 0, fun j hj => ?_⟩
    simp only [dif_pos hj]
    exact Classical.choose_spec (nodes_onto hl h hj)
  have get : ∀ j, j < n → ((List.range n).map fun j => ((F j : Nat) : Int))[j]? = some (F j : Int) := fun j hj => by simp [hj]
  have hlen : ((List.range n).map fun j => ((F j : Nat) : Int)).length = n := by simp
  have lt : ∀ (j : Nat) (y : Int), ((List.range n).map fun j => ((F j : Nat) : Int))[j]? = some y → j < n ∧ y = F j := fun j y hy => by
    have hj : j < n := by have := (List.getElem?_eq_some_iff.1 hy).1; rw [hlen] at this; exact this
    rw [get j hj] at hy
    exact ⟨hj, (Option.some.inj hy).symm⟩
  refine ⟨_, hlen, ⟨fun j y hy => ?_, fun i j y hij hy hy2 => ?_⟩, fun i hi => ?_⟩
  · obtain ⟨hj, rfl⟩ := lt j y hy
    have := (hF j hj).1
    omega
  · obtain ⟨hi, e1⟩ := lt i y hy
    obtain ⟨hj, e2⟩ := lt j y hy2
    have e : F i = F j := by omega
    have h1 := (hF i hi).2
    rw [e, (hF j hj).2] at h1
    omega
  · have e : nd ((List.range n).map fun j => ((F j : Nat) : Int)) i = F i := by unfold nd; rw [get i hi]; simp
    rw [e]; exact (hF i hi).2
theorem same_iff {G H : List (List Int)} {f : List Int} : sameBy G H f = true ↔ ∀ i j, i < H.length → j < H.length → arw G (nd f i) (nd f j) = arw H i j := by
  unfold sameBy
  rw [List.all_eq_true]
  exact ⟨fun h i j hi hj => by simpa using h (⟨i, hi⟩, ⟨j, hj⟩) (PL_all _), fun h x _ => by rw [h x.1 x.2 x.1.2 x.2.2]; simp⟩
theorem same_undo {G H : List (List Int)} {f g : List Int} {n : Nat} (hG : G.length = n) (hH : H.length = n) (hlg : g.length = n) (hg : Nodes n g) (h : ∀ i, i < n → nd f (nd g i) = i) (hs : sameBy G H f = true) : sameBy H G g = true := by
  rw [same_iff] at hs ⊢
  intro i j hi hj
  have := hs (nd g i) (nd g j) (by rw [hH]; exact (nodes_nd hg (by omega)).2) (by rw [hH]; exact (nodes_nd hg (by omega)).2)
  rw [h i (by omega), h j (by omega)] at this
  exact this.symm
theorem same_some {G H : List (List Int)} : (sameGI G H).isSome = true ↔ (gOk G = true ∧ gOk H = true ∧ G.length = H.length ∧ G.length ≤ 5) ∧ ∃ f, f.length = H.length ∧ Nodes H.length f ∧ sameBy G H f = true := by
  by_cases h : gOk G = true ∧ gOk H = true ∧ G.length = H.length ∧ G.length ≤ 5
  · rw [sameGI_yes h, List.find?_isSome]
    exact ⟨fun ⟨f, hf, hs⟩ => ⟨h, f, olvl_len hf, olvl_nodes hf, hs⟩, fun ⟨_, f, hl, hN, hs⟩ => ⟨f, nodes_olvl _ f hl hN, hs⟩⟩
  · rw [sameGI_no h]
    exact ⟨fun e => (by cases e), fun e => absurd e.1 h⟩
/-- It is told for both exchanged exactly if it is. -/
theorem same_back (G H : List (List Int)) : (sameGI H G).isSome = (sameGI G H).isSome := by
  have key : ∀ G H : List (List Int), (sameGI G H).isSome = true → (sameGI H G).isSome = true := fun G H h => by
    obtain ⟨⟨h1, h2, h3, h4⟩, f, hl, hN, hs⟩ := same_some.1 h
    obtain ⟨g, hg1, hg2, hg3⟩ := nodes_undo hl hN
    exact same_some.2 ⟨⟨h2, h1, h3.symm, by omega⟩, g, by omega, by rw [h3]; exact hg2, same_undo h3 rfl hg1 hg2 hg3 hs⟩
  exact Bool.eq_iff_iff.2 ⟨key H G, key G H⟩
theorem find_congr {α : Type} {p q : α → Bool} : ∀ {l : List α}, (∀ x ∈ l, p x = q x) → l.find? p = l.find? q
  | [], _ => rfl
  | a :: l, h => by
    rw [List.find?_cons, List.find?_cons, h a (by simp), find_congr fun x hx => h x (by simp [hx])]
theorem same_turned {G H : List (List Int)} {f : List Int} (hG : gOk G = true) (hH : gOk H = true) (hN : Nodes G.length f) (hl : f.length = H.length) : sameBy (turnedL G) (turnedL H) f = sameBy G H f := by
  have lH : (turnedL H).length = H.length := by rw [turnedL_yes hH]; exact rowsP_length _ _
  have eG : ∀ i j, i < H.length → j < H.length → arw (turnedL G) (nd f i) (nd f j) = arw G (nd f j) (nd f i) := fun i j hi hj => by
    rw [turnedL_yes hG]; exact arw_rowsP (nodes_nd hN (by omega)).2 (nodes_nd hN (by omega)).2
  have eH : ∀ i j, i < H.length → j < H.length → arw (turnedL H) i j = arw H j i := fun i j hi hj => by
    rw [turnedL_yes hH]; exact arw_rowsP hi hj
  rw [Bool.eq_iff_iff, same_iff, same_iff, lH]
  exact ⟨fun h i j hi hj => by have := h j i hj hi; rw [eG j i hj hi, eH j i hj hi] at this; exact this, fun h i j hi hj => by rw [eG i j hi hj, eH i j hi hj]; exact h j i hj hi⟩
/-- Of both turned round it is the same order. -/
theorem sameGI_turned {G H : List (List Int)} (h : (sameGI G H).isSome = true) : sameGI (turnedL G) (turnedL H) = sameGI G H := by
  obtain ⟨⟨h1, h2, h3, h4⟩, _⟩ := same_some.1 h
  have lG : (turnedL G).length = G.length := by rw [turnedL_yes h1]; exact rowsP_length _ _
  have lH : (turnedL H).length = H.length := by rw [turnedL_yes h2]; exact rowsP_length _ _
  have o1 : gOk (turnedL G) = true := by rw [turnedL_yes h1]; exact gOk_true (rowsP_good _ (good_of h1).1 (good_of h1).2.1)
  have o2 : gOk (turnedL H) = true := by rw [turnedL_yes h2]; exact gOk_true (rowsP_good _ (good_of h2).1 (good_of h2).2.1)
  rw [sameGI_yes ⟨h1, h2, h3, h4⟩, sameGI_yes ⟨o1, o2, by rw [lG, lH, h3], by rw [lG]; exact h4⟩, lH]
  exact find_congr fun f hf => same_turned h1 h2 (by rw [h3]; exact olvl_nodes hf) (olvl_len hf)
theorem sameGI_found {G H : List (List Int)} {f : List Int} (h : sameGI G H = some f) : partL G f = H := by
  obtain ⟨⟨h1, h2, h3, h4⟩, _⟩ := same_some.1 (by rw [h]; rfl)
  rw [sameGI_yes ⟨h1, h2, h3, h4⟩] at h
  have hf := List.mem_of_find?_eq_some h
  exact (same_part h1 h2 (olvl_len hf) (by rw [h3]; exact olvl_nodes hf)).1 (List.find?_some h)

end Go.Proofs.Ytmohmecdhabapac
