/-
  A part has no more arrows; of all nodes, in their order, it is the graph.
-/
import Derived.Test.YtkkifphpogfjfaaK2
namespace Go.Proofs.Ytkkifphpogfjfaa
open Go.RowKit Go.Shelf

theorem sumN_le {n : Nat} {f g : Nat → Nat} (h : ∀ i, i < n → f i ≤ g i) : sumN n f ≤ sumN n g := by
  induction n with
  | zero => exact Nat.le_refl _
  | succ n ih =>
    have h1 := ih fun i hi => h i (by omega)
    have h2 := h n (by omega)
    simp only [sumN]; omega
theorem sumN_single {m b : Nat} (f : Nat → Nat) (hb : b < m) : sumN m (fun a => if b = a then f a else 0) = f b := by
  induction m with
  | zero => omega
  | succ m ih =>
    simp only [sumN]
    by_cases e : b = m
    · subst e
      rw [sumN_none fun i hi => if_neg (by omega), if_pos rfl]; omega
    · rw [ih (by omega), if_neg e]; omega
theorem sumN_once {n a : Nat} {y : Nat → Nat} (c : Nat) (h : ∀ i j, i < j → j < n → y i ≠ y j) : sumN n (fun i => if y i = a then c else 0) ≤ c := by
  induction n with
  | zero => exact Nat.zero_le _
  | succ n ih =>
    simp only [sumN]
    by_cases e : y n = a
    · rw [if_pos e, sumN_none fun i hi => if_neg fun e2 => h i n hi (by omega) (e2.trans e.symm)]; omega
    · rw [if_neg e]; have := ih fun i j hij hj => h i j hij (by omega); omega
theorem sumN_inj {n m : Nat} {y : Nat → Nat} (f : Nat → Nat) (hy : ∀ i, i < n → y i < m) (h : ∀ i j, i < j → j < n → y i ≠ y j) : sumN n (fun i => f (y i)) ≤ sumN m f := by
  have e1 : sumN n (fun i => f (y i)) = sumN n (fun i => sumN m (fun a => if y i = a then f a else 0)) := sumN_congr fun i hi => (sumN_single f (hy i hi)).symm
  rw [e1, sumN_swap]
  exact sumN_le fun a _ => sumN_once (f a) h
theorem nodes_nd {m : Nat} {ys : List Int} (h : Nodes m ys) {i : Nat} (hi : i < ys.length) : ys[i]? = some (nd ys i : Int) ∧ nd ys i < m := by
  have e := List.getElem?_eq_getElem hi
  have h1 := h.1 i _ e
  rw [nd_eq e]
  exact ⟨by rw [e]; congr 1; omega, by omega⟩
theorem nodes_inj {m : Nat} {ys : List Int} (h : Nodes m ys) (i j : Nat) (hij : i < j) (hj : j < ys.length) : nd ys i ≠ nd ys j := fun e => by
  obtain ⟨h1, _⟩ := nodes_nd h (show i < ys.length by omega)
  obtain ⟨h2, _⟩ := nodes_nd h hj
  rw [← e] at h2
  exact h.2 i j _ hij h1 h2
theorem part_good {xss : List (List Int)} {ys : List Int} (h : gOk xss = true) (h1 : 1 ≤ ys.length) (hN : Nodes xss.length ys) : Good (partL xss ys) := by
  rw [partL_yes h h1 hN]; exact rowsP_good _ h1 (Nat.le_trans (nodes_le hN) (good_of h).2.1)
theorem part_arrows {xss : List (List Int)} {ys : List Int} (h : gOk xss = true) (h1 : 1 ≤ ys.length) (hN : Nodes xss.length ys) : arrowsI (partL xss ys) ≤ arrowsI xss := by
  rw [arrowsI_yes (gOk_true (part_good h h1 hN)), arrowsI_yes h, partL_yes h h1 hN, AL_rowsP, AL_cnt, cnt_sum, cnt_sum]
  have e2 : sumN ys.length (fun k => sumN ys.length (fun l => bN (arw xss (nd ys k) (nd ys l)))) ≤ sumN xss.length (fun k => sumN xss.length (fun l => bN (arw xss k l))) := by
    refine Nat.le_trans (sumN_le (g := fun k => sumN xss.length (fun l => bN (arw xss (nd ys k) l))) fun i _ => sumN_inj (fun l => bN (arw xss (nd ys i) l)) (fun j hj => (nodes_nd hN hj).2) (nodes_inj hN)) ?_
    exact sumN_inj (fun k => sumN xss.length (fun l => bN (arw xss k l))) (fun j hj => (nodes_nd hN hj).2) (nodes_inj hN)
  omega
theorem part_own {xss : List (List Int)} (h : gOk xss = true) : partL xss (seqL 0 xss.length) = xss := by
  have hg := good_of h
  rw [partL_yes h (by rw [seqL_length]; exact hg.1) (nodes_seq (by omega)), seqL_length]
  conv => rhs; rw [good_rowsP hg]
  exact rowsP_congr fun i j hi hj => by rw [nd_seq hi, nd_seq hj, Nat.zero_add, Nat.zero_add]
theorem part_some {xss : List (List Int)} {ys : List Int} (h : (partL xss ys).length ≠ 0) : gOk xss = true ∧ 1 ≤ ys.length ∧ Nodes xss.length ys := by
  by_cases hh : gOk xss = true ∧ 1 ≤ ys.length ∧ Nodes xss.length ys
  · exact hh
  · exact absurd (by rw [partL_no hh]; rfl) h
theorem seqL_snoc (k m : Nat) : seqL k (m + 1) = seqL k m ++ [((k + m : Nat) : Int)] := by simp [seqL, List.range_succ]

end Go.Proofs.Ytkkifphpogfjfaa
