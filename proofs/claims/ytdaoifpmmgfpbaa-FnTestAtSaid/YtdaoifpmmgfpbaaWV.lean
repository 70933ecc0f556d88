/-
  Several texts in one.
  spec.BesideOf, walked.
  Two graphs side by side: their parts, and how many arrows.
  A part has no more arrows; of all nodes, in their order, it is the graph.
-/
import Derived.Test.YtdaoifpmmgfpbaaZJ
import Derived.Deep.AppendLies
import Derived.Deep.RegionHeld3
import Derived.Test.YtdaoifpmmgfpbaaZB
namespace Go.Proofs.Ytdaoifpmmgfpbaa
open Go.RowKit Go.Shelf Go.Deep

/-- Rows, beside a yes or no. -/
def ReadB (zss : List (List Int)) (yes : Bool) (w : World) (e : Ending) (w' : World) : Prop := ∃ (a : Option Addr) (c : Nat), (e = .returned (.tuple #[.slice a zss.length c, .bool yes]) ∧ Below w.heap.size w w') ∧ Mat w'.heap.size w' a zss

/-- As ReadB; its rows are its own. -/
def ReadBO (zss : List (List Int)) (yes : Bool) (w : World) (e : Ending) (w' : World) : Prop := ∃ (a : Option Addr) (c : Nat), (e = .returned (.tuple #[.slice a zss.length c, .bool yes]) ∧ Below w.heap.size w w') ∧ OwnMat w.heap.size w' (.slice a zss.length c) zss
theorem ReadBO.read {zss : List (List Int)} {yes : Bool} {w w' : World} {e : Ending} (h : ReadBO zss yes w e w') : ReadB zss yes w e w' := by
  obtain ⟨a, c, h1, h2⟩ := h
  exact ⟨a, c, h1, h2.mat⟩

theorem ints_news {n₀ : Nat} {W : World} {b o : Nat} {xs : List Int} (h : Ints n₀ W (some ⟨b, o, none⟩) xs) : ∀ j u, (xs.map (Value.int .i64))[j]? = some u → W.cell? ((⟨b, o, none⟩ : Addr).add j) = some u := fun j u hu => by
  rw [List.getElem?_map] at hu
  have hj : j < xs.length := by
    rcases Nat.lt_or_ge j xs.length with h | h
    · exact h
    · rw [List.getElem?_eq_none h] at hu; cases hu
  obtain ⟨b', o', x, e, _, hc, HX⟩ := h.at_ hj
  cases e
  rw [HX.out] at hu
  cases hu
  rw [Addr.add_lit]
  exact hc

theorem made_list (m : Nat) : (madeCells #[Value.int .i64 0] m).toList = List.replicate m (Value.int .i64 0) := by
  apply List.ext_getElem
  · simp [madeCells]
  · intro k h1 h2
    simp [madeCells, Nat.mod_one]

end Go.Proofs.Ytdaoifpmmgfpbaa

namespace Go.Proofs.Ytdaoifpmmgfpbaa
open Go.RowKit Go.Shelf

theorem sumN_split (m : Nat) (f : Nat → Nat) : ∀ n, sumN (m + n) f = sumN m f + sumN n (fun k => f (m + k))
  | 0 => by simp [sumN]
  | n + 1 => by
    have h := sumN_split m f n
    rw [← Nat.add_assoc]
    simp only [sumN]
    omega
theorem sumN_none {f : Nat → Nat} : ∀ {m : Nat}, (∀ i, i < m → f i = 0) → sumN m f = 0
  | 0, _ => rfl
  | m + 1, h => by
    simp only [sumN]
    rw [sumN_none fun i hi => h i (by omega), h m (by omega)]
theorem sumN_same {f g : Nat → Nat} : ∀ {m : Nat}, (∀ i, i < m → f i = g i) → sumN m f = sumN m g
  | 0, _ => rfl
  | m + 1, h => by
    simp only [sumN]
    rw [sumN_same fun i hi => h i (by omega), h m (by omega)]

theorem besOk_of {xss yss : List (List Int)} (h : besOk xss yss = true) : Good xss ∧ Good yss ∧ xss.length + yss.length ≤ 9 := by
  unfold besOk at h
  simp only [Bool.and_eq_true, decide_eq_true_eq] at h
  exact ⟨good_of h.1.1, good_of h.1.2, h.2⟩
theorem bes_good {xss yss : List (List Int)} (h : besOk xss yss = true) : Good (besL xss yss) := by
  obtain ⟨h1, h2, h3⟩ := besOk_of h
  rw [besL_yes h]
  exact rowsP_good _ (by have := h1.1; omega) h3
theorem bes_length {xss yss : List (List Int)} (h : besOk xss yss = true) : (besL xss yss).length = xss.length + yss.length := by rw [besL_yes h, rowsP_length]
theorem besP_first {xss yss : List (List Int)} {i j : Nat} (hi : i < xss.length) (hj : j < xss.length) : besP xss yss i j = arw xss i j := if_pos ⟨hi, hj⟩
theorem besP_last (xss yss : List (List Int)) (i j : Nat) : besP xss yss (xss.length + i) (xss.length + j) = arw yss i j := by
  unfold besP
  rw [if_neg (by omega), decide_eq_true (by omega), Nat.add_sub_cancel_left, Nat.add_sub_cancel_left]
  rfl
theorem besP_no1 {xss yss : List (List Int)} {i : Nat} (j : Nat) (hi : i < xss.length) : besP xss yss i (xss.length + j) = false := by
  unfold besP
  rw [if_neg (by omega), decide_eq_false (by omega)]
  rfl
theorem besP_no2 {xss yss : List (List Int)} (i : Nat) {j : Nat} (hj : j < xss.length) : besP xss yss (xss.length + i) j = false := by
  unfold besP
  rw [if_neg (by omega), decide_eq_false (by omega)]
  rfl

theorem arrows_bes {xss yss : List (List Int)} (h : besOk xss yss = true) : arrowsI (besL xss yss) = arrowsI xss + arrowsI yss := by
  obtain ⟨h1, h2, h3⟩ := besOk_of h
  rw [arrowsI_yes (gOk_true (bes_good h)), arrowsI_yes (gOk_true h1), arrowsI_yes (gOk_true h2), besL_yes h, AL_rowsP, AL_cnt, AL_cnt, cnt_sum, cnt_sum, cnt_sum, sumN_split]
  have e1 : sumN xss.length (fun k => sumN (xss.length + yss.length) (fun l => bN (besP xss yss k l))) = sumN xss.length (fun k => sumN xss.length (fun l => bN (arw xss k l))) := sumN_same fun i hi => by
    rw [sumN_split, sumN_same (g := fun l => bN (arw xss i l)) fun j hj => by rw [besP_first hi hj], sumN_none (m := yss.length) fun j _ => by rw [besP_no1 j hi]; rfl]
    rfl
  have e2 : sumN yss.length (fun k => sumN (xss.length + yss.length) (fun l => bN (besP xss yss (xss.length + k) l))) = sumN yss.length (fun k => sumN yss.length (fun l => bN (arw yss k l))) := sumN_same fun i _ => by
    rw [sumN_split, sumN_none (m := xss.length) fun j hj => by rw [besP_no2 i hj]; rfl, sumN_same (g := fun l => bN (arw yss i l)) fun j _ => by rw [besP_last], Nat.zero_add]
  rw [e1, e2]
  omega

theorem nodes_seq {N s m : Nat} (h : s + m ≤ N) : Nodes N (seqL s m) := by
  have key : ∀ (j : Nat) (y : Int), (seqL s m)[j]? = some y → j < m ∧ y = ((s + j : Nat) : Int) := fun j y hy => by
    have hj : j < m := by have := (List.getElem?_eq_some_iff.1 hy).1; rwa [seqL_length] at this
    rw [seqL_get hj] at hy
    exact ⟨hj, (Option.some.inj hy).symm⟩
  refine ⟨fun j y hy => ?_, fun i j y hij hi hj => ?_⟩
  · obtain ⟨h1, rfl⟩ := key j y hy; omega
  · obtain ⟨_, e1⟩ := key i y hi
    obtain ⟨_, e2⟩ := key j y hj
    omega
theorem nd_seq {s m i : Nat} (hi : i < m) : nd (seqL s m) i = s + i := by rw [nd_eq (seqL_get hi)]; omega
theorem part_first {xss yss : List (List Int)} (h : besOk xss yss = true) : partL (besL xss yss) (seqL 0 xss.length) = xss := by
  obtain ⟨h1, h2, h3⟩ := besOk_of h
  rw [partL_yes (gOk_true (bes_good h)) (by rw [seqL_length]; exact h1.1) (nodes_seq (by rw [bes_length h]; omega)), seqL_length]
  conv => rhs; rw [good_rowsP h1]
  refine rowsP_congr fun i j hi hj => ?_
  rw [nd_seq hi, nd_seq hj, Nat.zero_add, Nat.zero_add, besL_yes h, arw_rowsP (by omega) (by omega), besP_first hi hj]
theorem part_last {xss yss : List (List Int)} (h : besOk xss yss = true) : partL (besL xss yss) (seqL xss.length yss.length) = yss := by
  obtain ⟨h1, h2, h3⟩ := besOk_of h
  rw [partL_yes (gOk_true (bes_good h)) (by rw [seqL_length]; exact h2.1) (nodes_seq (by rw [bes_length h]; omega)), seqL_length]
  conv => rhs; rw [good_rowsP h2]
  refine rowsP_congr fun i j hi hj => ?_
  rw [nd_seq hi, nd_seq hj, besL_yes h, arw_rowsP (by omega) (by omega), besP_last]

end Go.Proofs.Ytdaoifpmmgfpbaa

namespace Go.Proofs.Ytdaoifpmmgfpbaa
open Go.RowKit Go.Shelf

theorem sumN_le {n : Nat} {f g : Nat → Nat} (h : ∀ i, i < n → f i ≤ g i) : sumN n f ≤ sumN n g := by
  induction n with
  | zero => exact Nat.le_refl _
  | succ n ih =>
    have h1 := ih fun i hi => h i (by omega)
    have h2 := h n (by omega)
    simp only [sumN]; omega
theorem sumN_single {m b : Nat} (f : Nat → Nat) (hb : b < m) : sumN m (fun a => if b = a then f a else 0) = f b := by
  induction m with
  | zero => omega
  | succ m ih =>
    simp only [sumN]
    by_cases e : b = m
    · subst e
      rw [sumN_none fun i hi => if_neg (by omega), if_pos rfl]; omega
    · rw [ih (by omega), if_neg e]; omega
theorem sumN_once {n a : Nat} {y : Nat → Nat} (c : Nat) (h : ∀ i j, i < j → j < n → y i ≠ y j) : sumN n (fun i => if y i = a then c else 0) ≤ c := by
  induction n with
  | zero => exact Nat.zero_le _
  | succ n ih =>
    simp only [sumN]
    by_cases e : y n = a
    · rw [if_pos e, sumN_none fun i hi => if_neg fun e2 => h i n hi (by omega) (e2.trans e.symm)]; omega
    · rw [if_neg e]; have := ih fun i j hij hj => h i j hij (by omega); omega
theorem sumN_inj {n m : Nat} {y : Nat → Nat} (f : Nat → Nat) (hy : ∀ i, i < n → y i < m) (h : ∀ i j, i < j → j < n → y i ≠ y j) : sumN n (fun i => f (y i)) ≤ sumN m f := by
  have e1 : sumN n (fun i => f (y i)) = sumN n (fun i => sumN m (fun a => if y i = a then f a else 0)) := sumN_congr fun i hi => (sumN_single f (hy i hi)).symm
  rw [e1, sumN_swap]
  exact sumN_le fun a _ => sumN_once (f a) h
theorem nodes_nd {m : Nat} {ys : List Int} (h : Nodes m ys) {i : Nat} (hi : i < ys.length) : ys[i]? = some (nd ys i : Int) ∧ nd ys i < m := by
  have e := List.getElem?_eq_getElem hi
  have h1 := h.1 i _ e
  rw [nd_eq e]
  exact ⟨by rw [e]; congr 1; omega, by omega⟩
theorem nodes_inj {m : Nat} {ys : List Int} (h : Nodes m ys) (i j : Nat) (hij : i < j) (hj : j < ys.length) : nd ys i ≠ nd ys j := fun e => by
  obtain ⟨h1, _⟩ := nodes_nd h (show i < ys.length by omega)
  obtain ⟨h2, _⟩ := nodes_nd h hj
  rw [← e] at h2
  exact h.2 i j _ hij h1 h2
theorem part_good {xss : List (List Int)} {ys : List Int} (h : gOk xss = true) (h1 : 1 ≤ ys.length) (hN : Nodes xss.length ys) : Good (partL xss ys) := by
  rw [partL_yes h h1 hN]; exact rowsP_good _ h1 (Nat.le_trans (nodes_le hN) (good_of h).2.1)
theorem part_arrows {xss : List (List Int)} {ys : List Int} (h : gOk xss = true) (h1 : 1 ≤ ys.length) (hN : Nodes xss.length ys) : arrowsI (partL xss ys) ≤ arrowsI xss := by
  rw [arrowsI_yes (gOk_true (part_good h h1 hN)), arrowsI_yes h, partL_yes h h1 hN, AL_rowsP, AL_cnt, cnt_sum, cnt_sum]
  have e2 : sumN ys.length (fun k => sumN ys.length (fun l => bN (arw xss (nd ys k) (nd ys l)))) ≤ sumN xss.length (fun k => sumN xss.length (fun l => bN (arw xss k l))) := by
    refine Nat.le_trans (sumN_le (g := fun k => sumN xss.length (fun l => bN (arw xss (nd ys k) l))) fun i _ => sumN_inj (fun l => bN (arw xss (nd ys i) l)) (fun j hj => (nodes_nd hN hj).2) (nodes_inj hN)) ?_
    exact sumN_inj (fun k => sumN xss.length (fun l => bN (arw xss k l))) (fun j hj => (nodes_nd hN hj).2) (nodes_inj hN)
  omega
theorem part_own {xss : List (List Int)} (h : gOk xss = true) : partL xss (seqL 0 xss.length) = xss := by
  have hg := good_of h
  rw [partL_yes h (by rw [seqL_length]; exact hg.1) (nodes_seq (by omega)), seqL_length]
  conv => rhs; rw [good_rowsP hg]
  exact rowsP_congr fun i j hi hj => by rw [nd_seq hi, nd_seq hj, Nat.zero_add, Nat.zero_add]
theorem part_some {xss : List (List Int)} {ys : List Int} (h : (partL xss ys).length ≠ 0) : gOk xss = true ∧ 1 ≤ ys.length ∧ Nodes xss.length ys := by
  by_cases hh : gOk xss = true ∧ 1 ≤ ys.length ∧ Nodes xss.length ys
  · exact hh
  · exact absurd (by rw [partL_no hh]; rfl) h
theorem seqL_snoc (k m : Nat) : seqL k (m + 1) = seqL k m ++ [((k + m : Nat) : Int)] := by simp [seqL, List.range_succ]

end Go.Proofs.Ytdaoifpmmgfpbaa
