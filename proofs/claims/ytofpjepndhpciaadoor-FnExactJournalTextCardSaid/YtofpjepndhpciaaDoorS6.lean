/-
  Which texts are those of graphs, and of which: in plain words.
-/
import Derived.Test.YtofpjepndhpciaaDoorS5
import Derived.Test.YtofpjepndhpciaaDoorZF
namespace Go.Proofs.YtofpjepndhpciaaDoor
open Go.RowKit Go.Shelf

def rdOk (s : List UInt8) : Bool := decide ((cutL s).length ≤ 9) && (cutL s).all (ascF 0 (cutL s).length)
def rdP (s : List UInt8) (i j : Nat) : Bool := ((cutL s)[i]?.getD []).contains (dgB j)
/-- THE GRAPH THAT A TEXT TELLS; nothing for others. -/
def rdL (s : List UInt8) : List (List Int) := if rdOk s = true then rowsP (cutL s).length (rdP s) else []
theorem rdL_yes {s : List UInt8} (h : rdOk s = true) : rdL s = rowsP (cutL s).length (rdP s) := if_pos h
theorem rdL_no {s : List UInt8} (h : rdOk s = false) : rdL s = [] := if_neg (by rw [h]; decide)
theorem cutL_pos (s : List UInt8) : 1 ≤ (cutL s).length := by rw [cutL_length]; omega
theorem rdOk_iff {s : List UInt8} : rdOk s = true ↔ (cutL s).length ≤ 9 ∧ ∀ p ∈ cutL s, ascF 0 (cutL s).length p = true := by
  unfold rdOk; rw [Bool.and_eq_true, decide_eq_true_eq, List.all_eq_true]
theorem rd_good {s : List UInt8} (h : rdOk s = true) : Good (rdL s) := by
  rw [rdL_yes h]; exact rowsP_good _ (cutL_pos s) (rdOk_iff.1 h).1
theorem rd_fit {s : List UInt8} : Fit (rdL s) := by
  cases h : rdOk s with
  | true => exact (rd_good h).fit
  | false => rw [rdL_no h]; exact ⟨by simp, fun xs hx => by cases hx⟩
theorem digB_list (k : Nat) : (digB k).data.toList = [dgB k] := rfl
theorem rowB_list {G : List (List Int)} {k : Nat} : ∀ m, (rowB G k ⟨#[]⟩ m).data.toList = rowQ (arw G k) m
  | 0 => rfl
  | m + 1 => by
    have ih := rowB_list (G := G) (k := k) m
    unfold rowQ
    by_cases ha : arw G k m = true
    · rw [rowB_yes ha, if_pos ha, ByteArray.data_append, Array.toList_append, ih, digB_list]
    · rw [rowB_no (by simpa using ha), if_neg ha, ih, List.append_nil]
theorem rowQ_congr {q q' : Nat → Bool} : ∀ {m : Nat}, (∀ j, j < m → q j = q' j) → rowQ q m = rowQ q' m
  | 0, _ => rfl
  | m + 1, h => by
    unfold rowQ
    rw [rowQ_congr (m := m) (fun j hj => h j (by omega)), h m (by omega)]
theorem rowQ_noslash {q : Nat → Bool} {m : Nat} (hm : m ≤ 10) : (47 : UInt8) ∉ rowQ q m := fun h => by
  have := (ascF_all (rowQ_asc (q := q) hm (Nat.le_refl m)) 47 h).1
  simp at this
def rowsQ (G : List (List Int)) : List (List UInt8) := (List.range G.length).map fun i => rowQ (arw G i) G.length
theorem rowsT_list (G : List (List Int)) : (rowsT G G.length).map (·.data.toList) = rowsQ G := by
  simp only [rowsT, rowsQ, List.map_map]
  exact List.map_congr_left fun i _ => rowB_list _
theorem text_list {G : List (List Int)} (hG : Good G) : (gTextB G).data.toList = Lib.join (rowsQ G) [47] := by
  unfold gTextB
  rw [if_pos (gOk_true hG), textB_join, rowsT_list]
theorem cut_text {G : List (List Int)} (hG : Good G) : cutL (gTextB G).data.toList = rowsQ G := by
  have h1 := hG.1
  have h9 := hG.2.1
  rw [text_list hG]
  refine join_cut (fun e => ?_) fun x hx => ?_
  · have := congrArg List.length e
    simp [rowsQ] at this
    rw [this] at h1; simp at h1
  · obtain ⟨i, _, rfl⟩ := List.mem_map.1 hx
    exact rowQ_noslash (by omega)
theorem rowsQ_length (G : List (List Int)) : (rowsQ G).length = G.length := by simp [rowsQ]
theorem rowsQ_get {G : List (List Int)} {i : Nat} (hi : i < G.length) : (rowsQ G)[i]? = some (rowQ (arw G i) G.length) := by simp [rowsQ, hi]
/-- Texts of graphs are read. -/
theorem rd_graph {G : List (List Int)} (hG : Good G) : rdOk (gTextB G).data.toList = true ∧ rdL (gTextB G).data.toList = G := by
  have h9 := hG.2.1
  have hc := cut_text hG
  have hok : rdOk (gTextB G).data.toList = true := rdOk_iff.2 (by
    rw [hc, rowsQ_length]
    refine ⟨h9, fun p hp => ?_⟩
    obtain ⟨i, _, rfl⟩ := List.mem_map.1 hp
    exact rowQ_asc (by omega) (Nat.le_refl _))
  refine ⟨hok, ?_⟩
  rw [rdL_yes hok, hc, rowsQ_length]
  conv => rhs; rw [good_rowsP hG]
  refine rowsP_congr fun i j hi hj => ?_
  unfold rdP
  rw [hc, rowsQ_get hi, Option.getD_some, rowQ_mem (by omega) (by omega), decide_eq_true hj]
  simp
theorem list_get {α : Type} (l : List α) (d : α) : (List.range l.length).map (fun i => l[i]?.getD d) = l := by
  refine List.ext_getElem (by simp) fun i h1 h2 => ?_
  simp at h1
  simp [h1]
/-- Read texts are canonical. -/
theorem rd_text {s : List UInt8} (h : rdOk s = true) : gTextB (rdL s) = ⟨s.toArray⟩ := by
  have hG := rd_good h
  obtain ⟨h9, ha⟩ := rdOk_iff.1 h
  have hl : (rdL s).length = (cutL s).length := by rw [rdL_yes h, rowsP_length]
  have e : rowsQ (rdL s) = cutL s := by
    unfold rowsQ
    rw [hl]
    conv => rhs; rw [← list_get (cutL s) []]
    refine List.map_congr_left fun i hi => ?_
    have hi' : i < (cutL s).length := by simpa using hi
    have hp := ha ((cutL s)[i]'hi') (List.getElem_mem hi')
    have e1 : (cutL s)[i]?.getD [] = (cutL s)[i]'hi' := by simp [hi']
    rw [e1]
    conv => rhs; rw [← asc_rowQ h9 hp]
    refine rowQ_congr fun j hj => ?_
    rw [rdL_yes h, arw_rowsP hi' hj]
    unfold rdP
    rw [e1]
  have e2 := text_list hG
  rw [e, cut_join] at e2
  exact ByteArray.ext (Array.toList_inj.1 (by rw [e2]))

end Go.Proofs.YtofpjepndhpciaaDoor
