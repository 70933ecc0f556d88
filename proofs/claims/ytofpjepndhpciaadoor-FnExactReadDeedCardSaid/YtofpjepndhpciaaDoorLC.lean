/-
  Which deed a text tells: the few that it may be, by its words; pure facts.
-/
import Derived.Test.YtofpjepndhpciaaDoorLB
namespace Go.Proofs.YtofpjepndhpciaaDoor
open Go.RowKit Go.Shelf Go.Deep

/-- The number of a text of one digit; -1 for others. -/
def dgV : List UInt8 → Int
  | [b] => if 48 ≤ b.toNat ∧ b.toNat ≤ 57 then ((b.toNat - 48 : Nat) : Int) else -1
  | _ => -1
theorem dgV_range (p : List UInt8) : -1 ≤ dgV p ∧ dgV p ≤ 9 := by
  unfold dgV
  split
  · split <;> omega
  · omega
/-- THE DEEDS THAT A TEXT OF SUCH WORDS MAY BE. -/
def candL (ws : List (List UInt8)) : List Dd := [⟨1, 0, 0⟩, ⟨3, 0, 0⟩, ⟨4, 0, 0⟩, ⟨5, 0, 0⟩] ++ ((if ws.length = 2 then [⟨2, dgV (ws[1]?.getD []), 0⟩] else []) ++ (if ws.length = 3 then [⟨0, dgV (ws[1]?.getD []), dgV (ws[2]?.getD [])⟩] else []))
theorem cand_has : ∀ d ∈ ddAll, d ∈ candL (cutS (ddT d)) := by decide +kernel
theorem cand_len (ws : List (List UInt8)) : 4 ≤ (candL ws).length ∧ (candL ws).length ≤ 5 := by
  unfold candL
  by_cases h2 : ws.length = 2
  · rw [if_pos h2, if_neg (by omega)]; simp
  · rw [if_neg h2]
    by_cases h3 : ws.length = 3
    · rw [if_pos h3]; simp
    · rw [if_neg h3]; simp
theorem rdD_cand (s : List UInt8) : rdD s = if s = [] then none else (candL (cutS s)).find? fun d => decide (ddT d = s) := by
  by_cases hs : s = []
  · subst hs; rw [if_pos rfl, rdD_empty]
  · rw [if_neg hs]
    cases h : rdD s with
    | none =>
      symm
      rw [List.find?_eq_none]
      intro d _ hd
      rw [decide_eq_true_eq] at hd
      exact rdD_none.1 h d (ddT_all (by rw [hd]; exact hs)) hd
    | some d =>
      obtain ⟨hd, he⟩ := rdD_some.1 h
      cases k : (candL (cutS s)).find? fun d => decide (ddT d = s) with
      | none =>
        rw [List.find?_eq_none] at k
        have := k d (by rw [← he]; exact cand_has d hd)
        rw [decide_eq_true_eq] at this
        exact absurd he this
      | some e =>
        have h1 := List.find?_some k
        rw [decide_eq_true_eq] at h1
        rw [ddT_inj hd (ddT_all (by rw [h1]; exact hs)) (by rw [he, h1])]
/-- The first one that is, if none ahead of it is. -/
theorem find_at {l : List Dd} {p : Dd → Bool} {k : Nat} {d : Dd} (hd : l[k]? = some d) (hp : p d = true) (hl : ∀ j e, j < k → l[j]? = some e → p e = false) : l.find? p = some d := by
  rw [List.find?_eq_some_iff_getElem]
  obtain ⟨h1, h2⟩ := List.getElem?_eq_some_iff.1 hd
  exact ⟨hp, k, h1, h2, fun j hj => by rw [hl j _ hj (List.getElem?_eq_getElem (by omega))]; rfl⟩
theorem find_not {l : List Dd} {p : Dd → Bool} (hl : ∀ (j : Nat) (e : Dd), j < l.length → l[j]? = some e → p e = false) : l.find? p = none := by
  rw [List.find?_eq_none]
  intro d hd
  obtain ⟨j, hj⟩ := List.getElem?_of_mem hd
  rw [hl j d (List.getElem?_eq_some_iff.1 hj).1 hj]
  decide
/-- The text of a deed, case by case. -/
theorem ddT_arrow {d : Dd} (h : d.k = 0 ∧ (0 ≤ d.a ∧ d.a ≤ 9) ∧ (0 ≤ d.b ∧ d.b ≤ 9)) : ddT d = tArrow ++ dgI d.a :: 32 :: [dgI d.b] := by
  unfold ddT; rw [if_pos h]
end Go.Proofs.YtofpjepndhpciaaDoor
