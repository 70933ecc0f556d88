/-
  Deeds and their texts; journals: the pure facts of chapter 11, the first part.
-/
import Derived.Test.YtofpjepndhpciaaS5
namespace Go.Proofs.Ytofpjepndhpciaa
open Go.RowKit Go.Shelf

/-- A DEED: its kind and two numbers. -/
structure Dd where
  k : Int
  a : Int
  b : Int
deriving DecidableEq
def tArrow : List UInt8 := [97, 114, 114, 111, 119, 32]
def tDrop : List UInt8 := [100, 114, 111, 112, 32]
def tNode : List UInt8 := [110, 111, 100, 101]
def tCore : List UInt8 := [99, 111, 114, 101]
def tTurn : List UInt8 := [116, 117, 114, 110]
def tBack : List UInt8 := [98, 97, 99, 107]
def dgI (z : Int) : UInt8 := UInt8.ofNat (48 + z.toNat)
/-- ITS TEXT, if it has one. -/
def ddT (d : Dd) : List UInt8 :=
  if d.k = 0 ∧ (0 ≤ d.a ∧ d.a ≤ 9) ∧ (0 ≤ d.b ∧ d.b ≤ 9) then tArrow ++ [dgI d.a, 32, dgI d.b]
  else if d.k = 2 ∧ (0 ≤ d.a ∧ d.a ≤ 9) ∧ d.b = 0 then tDrop ++ [dgI d.a]
  else if d = ⟨1, 0, 0⟩ then tNode
  else if d = ⟨3, 0, 0⟩ then tCore
  else if d = ⟨4, 0, 0⟩ then tTurn
  else if d = ⟨5, 0, 0⟩ then tBack
  else []
/-- ALL DEEDS WITH A TEXT. -/
def ddAll : List Dd := [⟨1, 0, 0⟩, ⟨3, 0, 0⟩, ⟨4, 0, 0⟩, ⟨5, 0, 0⟩] ++ (List.range 10).map (fun (i : Nat) => (⟨2, (i : Int), 0⟩ : Dd)) ++ (List.range 100).map fun (t : Nat) => (⟨0, ((t / 10 : Nat) : Int), ((t % 10 : Nat) : Int)⟩ : Dd)
theorem ddAll_arrow {i j : Nat} (hi : i < 10) (hj : j < 10) : (⟨0, (i : Int), (j : Int)⟩ : Dd) ∈ ddAll := by
  unfold ddAll
  refine List.mem_append_right _ (List.mem_map.2 ⟨i * 10 + j, List.mem_range.2 (by omega), ?_⟩)
  rw [show (i * 10 + j) / 10 = i by omega, show (i * 10 + j) % 10 = j by omega]
theorem ddAll_drop {i : Nat} (hi : i < 10) : (⟨2, (i : Int), 0⟩ : Dd) ∈ ddAll := by
  unfold ddAll
  refine List.mem_append_left _ (List.mem_append_right _ (List.mem_map.2 ⟨i, List.mem_range.2 (by omega), rfl⟩))
theorem ddT_all {d : Dd} (h : ddT d ≠ []) : d ∈ ddAll := by
  obtain ⟨k, a, b⟩ := d
  unfold ddT at h
  simp only at h
  split at h
  · rename_i h1
    obtain ⟨rfl, ha, hb⟩ := h1
    have := ddAll_arrow (i := a.toNat) (j := b.toNat) (by omega) (by omega)
    rwa [show ((a.toNat : Nat) : Int) = a by omega, show ((b.toNat : Nat) : Int) = b by omega] at this
  · split at h
    · rename_i h1
      obtain ⟨rfl, ha, rfl⟩ := h1
      have := ddAll_drop (i := a.toNat) (by omega)
      rwa [show ((a.toNat : Nat) : Int) = a by omega] at this
    · split at h
      · rename_i h1; rw [h1]; decide
      · split at h
        · rename_i h1; rw [h1]; decide
        · split at h
          · rename_i h1; rw [h1]; decide
          · split at h
            · rename_i h1; rw [h1]; decide
            · exact absurd rfl h
set_option maxRecDepth 100000 in
theorem ddT_some : ∀ d ∈ ddAll, ddT d ≠ [] ∧ (ddT d).length ≤ 9 ∧ (ddT d).getLast? ≠ some 32 ∧ (10 : UInt8) ∉ ddT d := by decide +kernel
set_option maxRecDepth 100000 in
theorem ddT_inj0 : ∀ i, i < 114 → ∀ j, j < 114 → (ddAll[i]?.map ddT = ddAll[j]?.map ddT → i = j) := by decide +kernel
theorem ddAll_len : ddAll.length = 114 := by decide +kernel
theorem ddT_inj {d e : Dd} (hd : d ∈ ddAll) (he : e ∈ ddAll) (h : ddT d = ddT e) : d = e := by
  obtain ⟨i, hi⟩ := List.mem_iff_getElem?.1 hd
  obtain ⟨j, hj⟩ := List.mem_iff_getElem?.1 he
  have hil : i < 114 := by have := (List.getElem?_eq_some_iff.1 hi).1; rwa [ddAll_len] at this
  have hjl : j < 114 := by have := (List.getElem?_eq_some_iff.1 hj).1; rwa [ddAll_len] at this
  have := ddT_inj0 i hil j hjl (by rw [hi, hj]; simp [h])
  subst this
  rw [hi] at hj
  exact Option.some.inj hj
/-- THE DEED OF A TEXT. -/
def rdD (s : List UInt8) : Option Dd := ddAll.find? fun d => decide (ddT d = s)
theorem rdD_some {s : List UInt8} {d : Dd} : rdD s = some d ↔ d ∈ ddAll ∧ ddT d = s := by
  constructor
  · intro h
    have h1 := List.find?_some h
    have h2 := List.mem_of_find?_eq_some h
    exact ⟨h2, by simpa using h1⟩
  · rintro ⟨h1, h2⟩
    unfold rdD
    cases h : ddAll.find? (fun d => decide (ddT d = s)) with
    | none =>
      have := List.find?_eq_none.1 h d h1
      exact absurd h2 (by simpa using this)
    | some e =>
      have h3 := List.find?_some h
      have h4 := List.mem_of_find?_eq_some h
      have h5 : ddT e = s := by simpa using h3
      rw [ddT_inj h4 h1 (h5.trans h2.symm)]
theorem rdD_none {s : List UInt8} : rdD s = none ↔ ∀ d ∈ ddAll, ddT d ≠ s := by
  unfold rdD
  rw [List.find?_eq_none]
  simp
theorem rdD_text {d : Dd} (h : ddT d ≠ []) : rdD (ddT d) = some d := rdD_some.2 ⟨ddT_all h, rfl⟩
theorem rdD_empty : rdD [] = none := rdD_none.2 fun d hd => (ddT_some d hd).1
theorem rdD_space {s : List UInt8} : rdD (s ++ [32]) = none := rdD_none.2 fun d hd e => by
  have := (ddT_some d hd).2.2.1
  rw [e] at this
  simp at this
theorem rdD_line {s : List UInt8} {d : Dd} (h : rdD s = some d) : (10 : UInt8) ∉ s ∧ 1 ≤ s.length ∧ s.length ≤ 9 := by
  obtain ⟨h1, rfl⟩ := rdD_some.1 h
  obtain ⟨h2, h3, _, h4⟩ := ddT_some d h1
  exact ⟨h4, List.length_pos_iff.2 h2, h3⟩

/-- A JOURNAL: each deed's text and a newline. -/
def jrT : List Dd → List UInt8
  | [] => []
  | d :: r => ddT d ++ 10 :: jrT r
theorem jrT_app : ∀ (l r : List Dd), jrT (l ++ r) = jrT l ++ jrT r
  | [], _ => rfl
  | d :: l, r => by simp [jrT, jrT_app l r]
def jrI (l : List Dd) : List UInt8 := if (l.all fun d => decide (ddT d ≠ [])) = true then jrT l else []
/-- WHAT IS READ: the deeds of the lines, and how many bytes; cur: the line that is begun. -/
def rdJ (cur : List UInt8) : List UInt8 → List Dd × Nat
  | [] => ([], 0)
  | b :: r => if b = 10 then (match rdD cur with | some d => (d :: (rdJ [] r).1, cur.length + 1 + (rdJ [] r).2) | none => ([], 0)) else rdJ (cur ++ [b]) r
theorem rdJ_line : ∀ {l cur : List UInt8} (r : List UInt8), (10 : UInt8) ∉ l → rdJ cur (l ++ 10 :: r) = match rdD (cur ++ l) with | some d => (d :: (rdJ [] r).1, (cur ++ l).length + 1 + (rdJ [] r).2) | none => ([], 0)
  | [], cur, r, _ => by simp [rdJ]
  | b :: l, cur, r, h => by
    have hb : b ≠ 10 := fun e => h (by rw [e]; exact List.mem_cons_self)
    have ih := rdJ_line (l := l) (cur := cur ++ [b]) r (fun e => h (List.mem_cons_of_mem _ e))
    rw [List.cons_append]
    conv => lhs; unfold rdJ
    rw [if_neg hb, ih, List.append_assoc]
    rfl
theorem rdJ_none : ∀ {l cur : List UInt8}, (10 : UInt8) ∉ l → rdJ cur l = ([], 0)
  | [], _, _ => rfl
  | b :: l, cur, h => by
    have hb : b ≠ 10 := fun e => h (by rw [e]; exact List.mem_cons_self)
    unfold rdJ
    rw [if_neg hb]
    exact rdJ_none (fun e => h (List.mem_cons_of_mem _ e))
/-- Journals are read. -/
theorem rdJ_text : ∀ {l : List Dd}, (∀ d ∈ l, ddT d ≠ []) → rdJ [] (jrT l) = (l, (jrT l).length)
  | [], _ => rfl
  | d :: l, h => by
    have hd := h d (List.mem_cons_self)
    have ih := rdJ_text (l := l) fun e he => h e (List.mem_cons_of_mem _ he)
    unfold jrT
    rw [rdJ_line _ (ddT_some d (ddT_all hd)).2.2.2, List.nil_append, rdD_text hd, ih]
    simp
    omega
theorem line_or : ∀ l : List UInt8, (10 : UInt8) ∉ l ∨ ∃ p r, l = p ++ 10 :: r ∧ (10 : UInt8) ∉ p
  | [] => .inl (by simp)
  | b :: l => by
    by_cases hb : b = 10
    · subst hb; exact .inr ⟨[], l, rfl, by simp⟩
    · rcases line_or l with h | ⟨p, r, rfl, h⟩
      · exact .inl (by simp; exact ⟨Ne.symm hb, h⟩)
      · exact .inr ⟨b :: p, r, rfl, by simp; exact ⟨Ne.symm hb, h⟩⟩
/-- What was read is the text's beginning. -/
theorem rdJ_take : ∀ (n : Nat) (s : List UInt8), s.length ≤ n → (rdJ [] s).2 ≤ s.length ∧ jrT (rdJ [] s).1 = s.take (rdJ [] s).2 ∧ ∀ d ∈ (rdJ [] s).1, ddT d ≠ []
  | 0, s, h => by
    have : s = [] := List.length_eq_zero_iff.1 (by omega)
    subst this
    exact ⟨Nat.le_refl _, rfl, fun d hd => by cases hd⟩
  | n + 1, s, h => by
    rcases line_or s with hl | ⟨p, r, rfl, hp⟩
    · rw [rdJ_none hl]
      exact ⟨Nat.zero_le _, rfl, fun d hd => by cases hd⟩
    · rw [rdJ_line r hp, List.nil_append]
      cases hd : rdD p with
      | none => exact ⟨Nat.zero_le _, rfl, fun d hd => by cases hd⟩
      | some d =>
        obtain ⟨h1, h2⟩ := rdD_some.1 hd
        simp only [List.length_append, List.length_cons] at h
        obtain ⟨i1, i2, i3⟩ := rdJ_take n r (by omega)
        refine ⟨by show p.length + 1 + (rdJ [] r).2 ≤ _; rw [List.length_append, List.length_cons]; omega, ?_, fun e he => ?_⟩
        · show ddT d ++ 10 :: jrT (rdJ [] r).1 = _
          rw [h2, i2, show p.length + 1 + (rdJ [] r).2 = p.length + ((rdJ [] r).2 + 1) by omega, List.take_append, List.take_of_length_le (l := p) (i := p.length + ((rdJ [] r).2 + 1)) (Nat.le_add_right _ _)]
          simp
        · rcases List.mem_cons.1 he with rfl | he
          · exact (ddT_some _ h1).1
          · exact i3 e he
/-- Wherever it is cut, the first ones are read. -/
theorem rdJ_cut : ∀ (n : Nat) (s : List UInt8) (k : Nat), s.length ≤ n → (rdJ [] (s.take k)).1 <+: (rdJ [] s).1 ∧ (rdJ [] (s.take k)).2 ≤ k
  | 0, s, k, h => by
    have : s = [] := List.length_eq_zero_iff.1 (by omega)
    subst this
    simp [rdJ]
  | n + 1, s, k, h => by
    rcases line_or s with hl | ⟨p, r, rfl, hp⟩
    · rw [rdJ_none (fun e => hl (List.mem_of_mem_take e))]
      exact ⟨List.nil_prefix, Nat.zero_le _⟩
    · by_cases hk : k ≤ p.length
      · rw [List.take_append_of_le_length hk, rdJ_none (fun e => hp (List.mem_of_mem_take e))]
        exact ⟨List.nil_prefix, Nat.zero_le _⟩
      · obtain ⟨q, rfl⟩ : ∃ q, k = p.length + (q + 1) := ⟨k - p.length - 1, by omega⟩
        have e : (p ++ 10 :: r).take (p.length + (q + 1)) = p ++ 10 :: r.take q := by
          rw [List.take_append, List.take_of_length_le (by omega)]; simp
        rw [e, rdJ_line r hp, rdJ_line _ hp, List.nil_append]
        cases hd : rdD p with
        | none => exact ⟨List.nil_prefix, Nat.zero_le _⟩
        | some d =>
          simp only [List.length_append, List.length_cons] at h
          obtain ⟨i1, i2⟩ := rdJ_cut n r q (by omega)
          exact ⟨(List.prefix_cons_inj d).2 i1, by show p.length + 1 + _ ≤ _; omega⟩
theorem jrI_text {l : List Dd} (h : jrI l ≠ []) : rdJ [] (jrI l) = (l, (jrI l).length) := by
  unfold jrI at h ⊢
  by_cases ha : (l.all fun d => decide (ddT d ≠ [])) = true
  · rw [if_pos ha]
    exact rdJ_text fun d hd => by
      have := List.all_eq_true.1 ha d hd
      simpa using this
  · rw [if_neg ha] at h; exact absurd rfl h

end Go.Proofs.Ytofpjepndhpciaa
