/-
  Two graphs side by side: their parts, and how many arrows.
-/
import Derived.Test.YtkkifphpogfjfaaZJ
import Derived.Test.YtkkifphpogfjfaaG1
import Derived.Test.YtkkifphpogfjfaaG2
namespace Go.Proofs.Ytkkifphpogfjfaa
open Go.RowKit Go.Shelf

theorem sumN_split (m : Nat) (f : Nat → Nat) : ∀ n, sumN (m + n) f = sumN m f + sumN n (fun k => f (m + k))
  | 0 => by simp [sumN]
  | n + 1 => by
    have h := sumN_split m f n
    rw [← Nat.add_assoc]
    simp only [sumN]
    omega
theorem sumN_none {f : Nat → Nat} : ∀ {m : Nat}, (∀ i, i < m → f i = 0) → sumN m f = 0
  | 0, _ => rfl
  | m + 1, h => by
    simp only [sumN]
    rw [sumN_none fun i hi => h i (by omega), h m (by omega)]
theorem sumN_same {f g : Nat → Nat} : ∀ {m : Nat}, (∀ i, i < m → f i = g i) → sumN m f = sumN m g
  | 0, _ => rfl
  | m + 1, h => by
    simp only [sumN]
    rw [sumN_same fun i hi => h i (by omega), h m (by omega)]

theorem besOk_of {xss yss : List (List Int)} (h : besOk xss yss = true) : Good xss ∧ Good yss ∧ xss.length + yss.length ≤ 9 := by
  unfold besOk at h
  simp only [Bool.and_eq_true, decide_eq_true_eq] at h
  exact ⟨good_of h.1.1, good_of h.1.2, h.2⟩
theorem bes_good {xss yss : List (List Int)} (h : besOk xss yss = true) : Good (besL xss yss) := by
  obtain ⟨h1, h2, h3⟩ := besOk_of h
  rw [besL_yes h]
  exact rowsP_good _ (by have := h1.1; omega) h3
theorem bes_length {xss yss : List (List Int)} (h : besOk xss yss = true) : (besL xss yss).length = xss.length + yss.length := by rw [besL_yes h, rowsP_length]
theorem besP_first {xss yss : List (List Int)} {i j : Nat} (hi : i < xss.length) (hj : j < xss.length) : besP xss yss i j = arw xss i j := if_pos ⟨hi, hj⟩
theorem besP_last (xss yss : List (List Int)) (i j : Nat) : besP xss yss (xss.length + i) (xss.length + j) = arw yss i j := by
  unfold besP
  rw [if_neg (by omega), decide_eq_true (by omega), Nat.add_sub_cancel_left, Nat.add_sub_cancel_left]
  rfl
theorem besP_no1 {xss yss : List (List Int)} {i : Nat} (j : Nat) (hi : i < xss.length) : besP xss yss i (xss.length + j) = false := by
  unfold besP
  rw [if_neg (by omega), decide_eq_false (by omega)]
  rfl
theorem besP_no2 {xss yss : List (List Int)} (i : Nat) {j : Nat} (hj : j < xss.length) : besP xss yss (xss.length + i) j = false := by
  unfold besP
  rw [if_neg (by omega), decide_eq_false (by omega)]
  rfl

theorem arrows_bes {xss yss : List (List Int)} (h : besOk xss yss = true) : arrowsI (besL xss yss) = arrowsI xss + arrowsI yss := by
  obtain ⟨h1, h2, h3⟩ := besOk_of h
  rw [arrowsI_yes (gOk_true (bes_good h)), arrowsI_yes (gOk_true h1), arrowsI_yes (gOk_true h2), besL_yes h, AL_rowsP, AL_cnt, AL_cnt, cnt_sum, cnt_sum, cnt_sum, sumN_split]
  have e1 : sumN xss.length (fun k => sumN (xss.length + yss.length) (fun l => bN (besP xss yss k l))) = sumN xss.length (fun k => sumN xss.length (fun l => bN (arw xss k l))) := sumN_same fun i hi => by
    rw [sumN_split, sumN_same (g := fun l => bN (arw xss i l)) fun j hj => by rw [besP_first hi hj], sumN_none (m := yss.length) fun j _ => by rw [besP_no1 j hi]; rfl]
    rfl
  have e2 : sumN yss.length (fun k => sumN (xss.length + yss.length) (fun l => bN (besP xss yss (xss.length + k) l))) = sumN yss.length (fun k => sumN yss.length (fun l => bN (arw yss k l))) := sumN_same fun i _ => by
    rw [sumN_split, sumN_none (m := xss.length) fun j hj => by rw [besP_no2 i hj]; rfl, sumN_same (g := fun l => bN (arw yss i l)) fun j _ => by rw [besP_last], Nat.zero_add]
  rw [e1, e2]
  omega

theorem nodes_seq {N s m : Nat} (h : s + m ≤ N) : Nodes N (seqL s m) := by
  have key : ∀ (j : Nat) (y : Int), (seqL s m)[j]? = some y → j < m ∧ y = ((s + j : Nat) : Int) := fun j y hy => by
    have hj : j < m := by have := (List.getElem?_eq_some_iff.1 hy).1; rwa [seqL_length] at this
    rw [seqL_get hj] at hy
    exact ⟨hj, (Option.some.inj hy).symm⟩
  refine ⟨fun j y hy => ?_, fun i j y hij hi hj => ?_⟩
  · obtain ⟨h1, rfl⟩ := key j y hy; omega
  · obtain ⟨_, e1⟩ := key i y hi
    obtain ⟨_, e2⟩ := key j y hj
    omega
theorem nd_seq {s m i : Nat} (hi : i < m) : nd (seqL s m) i = s + i := by rw [nd_eq (seqL_get hi)]; omega
theorem part_first {xss yss : List (List Int)} (h : besOk xss yss = true) : partL (besL xss yss) (seqL 0 xss.length) = xss := by
  obtain ⟨h1, h2, h3⟩ := besOk_of h
  rw [partL_yes (gOk_true (bes_good h)) (by rw [seqL_length]; exact h1.1) (nodes_seq (by rw [bes_length h]; omega)), seqL_length]
  conv => rhs; rw [good_rowsP h1]
  refine rowsP_congr fun i j hi hj => ?_
  rw [nd_seq hi, nd_seq hj, Nat.zero_add, Nat.zero_add, besL_yes h, arw_rowsP (by omega) (by omega), besP_first hi hj]
theorem part_last {xss yss : List (List Int)} (h : besOk xss yss = true) : partL (besL xss yss) (seqL xss.length yss.length) = yss := by
  obtain ⟨h1, h2, h3⟩ := besOk_of h
  rw [partL_yes (gOk_true (bes_good h)) (by rw [seqL_length]; exact h2.1) (nodes_seq (by rw [bes_length h]; omega)), seqL_length]
  conv => rhs; rw [good_rowsP h2]
  refine rowsP_congr fun i j hi hj => ?_
  rw [nd_seq hi, nd_seq hj, besL_yes h, arw_rowsP (by omega) (by omega), besP_last]

end Go.Proofs.Ytkkifphpogfjfaa
