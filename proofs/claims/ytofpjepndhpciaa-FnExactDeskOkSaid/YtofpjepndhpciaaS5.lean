/-
  Texts cut at slashes; ascending digits; which texts are those of graphs: in plain words.
-/
import Derived.Test.YtofpjepndhpciaaS3
import Derived.Lib.SplitLaws
import Derived.Lib.IndexBytes
namespace Go.Proofs.Ytofpjepndhpciaa
open Go.RowKit Go.Shelf

/-- What stands between the slashes. -/
def cutL : List UInt8 → List (List UInt8)
  | [] => [[]]
  | b :: r => if b = 47 then [] :: cutL r else (match cutL r with | [] => [[b]] | h :: t => (b :: h) :: t)
theorem cutL_ne : ∀ l, cutL l ≠ []
  | [] => by simp [cutL]
  | b :: r => by
    unfold cutL
    split
    · simp
    · split <;> simp
theorem cutL_last : ∀ {p : List UInt8}, (47 : UInt8) ∉ p → cutL p = [p]
  | [], _ => rfl
  | b :: r, h => by
    have hb : b ≠ 47 := fun e => h (by rw [e]; exact List.mem_cons_self)
    have hr := cutL_last (p := r) (fun e => h (List.mem_cons_of_mem _ e))
    unfold cutL
    rw [if_neg hb, hr]
theorem cutL_first : ∀ {p : List UInt8} (r : List UInt8), (47 : UInt8) ∉ p → cutL (p ++ 47 :: r) = p :: cutL r
  | [], r, _ => by
    rw [List.nil_append]
    conv => lhs; unfold cutL
    rw [if_pos rfl]
  | b :: p, r, h => by
    have hb : b ≠ 47 := fun e => h (by rw [e]; exact List.mem_cons_self)
    have hr := cutL_first (p := p) r (fun e => h (List.mem_cons_of_mem _ e))
    rw [List.cons_append]
    conv => lhs; unfold cutL
    rw [if_neg hb, hr]
theorem slash_or : ∀ l : List UInt8, (47 : UInt8) ∉ l ∨ ∃ p r, l = p ++ 47 :: r ∧ (47 : UInt8) ∉ p
  | [] => .inl (by simp)
  | b :: l => by
    by_cases hb : b = 47
    · subst hb; exact .inr ⟨[], l, rfl, by simp⟩
    · rcases slash_or l with h | ⟨p, r, rfl, h⟩
      · exact .inl (by simp; exact ⟨Ne.symm hb, h⟩)
      · exact .inr ⟨b :: p, r, rfl, by simp; exact ⟨Ne.symm hb, h⟩⟩
theorem cutL_length : ∀ l : List UInt8, (cutL l).length = l.count 47 + 1
  | [] => rfl
  | b :: r => by
    have ih := cutL_length r
    conv => lhs; unfold cutL
    by_cases hb : b = 47
    · subst hb; rw [if_pos rfl, List.length_cons, ih, List.count_cons_self]
    · rw [if_neg hb, List.count_cons_of_ne (by simpa using hb), ← ih]
      cases h : cutL r with
      | nil => exact absurd h (cutL_ne r)
      | cons x t => rfl
theorem idx_none : ∀ {p : List UInt8}, (47 : UInt8) ∉ p → Lib.indexByte p 47 = -1
  | [], _ => rfl
  | b :: r, h => by
    have hb : b ≠ 47 := fun e => h (by rw [e]; exact List.mem_cons_self)
    have hr := idx_none (p := r) (fun e => h (List.mem_cons_of_mem _ e))
    unfold Lib.indexByte
    rw [if_neg (by simpa using hb), hr]
    rfl
theorem idx_first : ∀ {p : List UInt8} (r : List UInt8), (47 : UInt8) ∉ p → Lib.indexByte (p ++ 47 :: r) 47 = (p.length : Int)
  | [], r, _ => by simp [Lib.indexByte]
  | b :: p, r, h => by
    have hb : b ≠ 47 := fun e => h (by rw [e]; exact List.mem_cons_self)
    have hr := idx_first (p := p) r (fun e => h (List.mem_cons_of_mem _ e))
    rw [List.cons_append]
    unfold Lib.indexByte
    rw [if_neg (by simpa using hb), hr, if_neg (by simp)]
    simp
theorem splitK_cut : ∀ (k : Nat) (l : List UInt8), l.count 47 = k → Lib.splitK [47] 0 k l = cutL l
  | 0, l, h => by
    have hn : (47 : UInt8) ∉ l := List.count_eq_zero.1 h
    rw [cutL_last hn]; rfl
  | k + 1, l, h => by
    rcases slash_or l with hn | ⟨p, r, rfl, hp⟩
    · rw [List.count_eq_zero.2 hn] at h; omega
    · have hc : (p ++ 47 :: r).count 47 = r.count 47 + 1 := by rw [List.count_append, List.count_eq_zero.2 hp, List.count_cons_self]; omega
      have hi : Lib.index (p ++ 47 :: r) [47] = (p.length : Int) := by rw [Lib.index_one, idx_first r hp]
      unfold Lib.splitK
      have e : (p ++ 47 :: r).drop (p.length + 1) = r := by rw [List.drop_append]; simp
      rw [hi, if_neg (by simp), cutL_first r hp]
      simp only [Int.toNat_natCast, Nat.add_zero, List.length_singleton]
      rw [List.take_left, e, splitK_cut k r (by omega)]
theorem join_cut : ∀ {xs : List (List UInt8)}, xs ≠ [] → (∀ x ∈ xs, (47 : UInt8) ∉ x) → cutL (Lib.join xs [47]) = xs
  | [], h, _ => absurd rfl h
  | [x], _, h => by rw [Lib.join_one]; exact cutL_last (h x (by simp))
  | x :: y :: r, _, h => by
    have ih := join_cut (xs := y :: r) (by simp) (fun z hz => h z (List.mem_cons_of_mem _ hz))
    have e : Lib.join (x :: y :: r) [47] = x ++ 47 :: Lib.join (y :: r) [47] := by
      rw [Lib.join_cons, Lib.join_cons]; simp [Lib.joinTail]
    rw [e, cutL_first _ (h x (by simp)), ih]
theorem cut_join : ∀ l : List UInt8, Lib.join (cutL l) [47] = l := by
  intro l
  obtain ⟨n, hn⟩ : ∃ n, l.length = n := ⟨_, rfl⟩
  induction n using Nat.strongRecOn generalizing l with
  | _ n ih =>
    rcases slash_or l with h | ⟨p, r, rfl, hp⟩
    · rw [cutL_last h, Lib.join_one]
    · rw [cutL_first r hp]
      have e := ih r.length (by rw [← hn]; simp; omega) r rfl
      cases hc : cutL r with
      | nil => exact absurd hc (cutL_ne r)
      | cons y t =>
        rw [hc] at e
        have e2 : Lib.join (p :: y :: t) [47] = p ++ 47 :: Lib.join (y :: t) [47] := by
          rw [Lib.join_cons, Lib.join_cons]; simp [Lib.joinTail]
        rw [e2, e]

theorem split_cut (s : ByteArray) : (Lib.splitB ⟨#[47]⟩ 0 (Lib.countB s ⟨#[47]⟩) s).map (·.data.toList) = cutL s.data.toList ∧ Lib.countB s ⟨#[47]⟩ + 1 = (cutL s.data.toList).length := by
  have hc : Lib.countB s ⟨#[47]⟩ = s.data.toList.count 47 := Lib.count_one 47 s.data.toList
  refine ⟨?_, by rw [cutL_length, hc]⟩
  rw [Lib.splitB_data, hc]
  exact splitK_cut _ _ rfl

/-- Numbers of nodes from l on and below N, ascending. -/
def ascF : Nat → Nat → List UInt8 → Bool
  | _, _, [] => true
  | l, N, b :: r => decide (48 + l ≤ b.toNat ∧ b.toNat < 48 + N) && ascF (b.toNat - 48 + 1) N r
theorem ascF_cons {l N : Nat} {b : UInt8} {r : List UInt8} : ascF l N (b :: r) = true ↔ (48 + l ≤ b.toNat ∧ b.toNat < 48 + N) ∧ ascF (b.toNat - 48 + 1) N r = true := by
  rw [ascF, Bool.and_eq_true, decide_eq_true_eq]
theorem ascF_all : ∀ {l N : Nat} {p : List UInt8}, ascF l N p = true → ∀ x ∈ p, 48 + l ≤ x.toNat ∧ x.toNat < 48 + N
  | l, N, [], _, x, hx => by cases hx
  | l, N, b :: r, h, x, hx => by
    obtain ⟨h1, h2⟩ := ascF_cons.1 h
    rcases List.mem_cons.1 hx with rfl | hx
    · exact h1
    · have := ascF_all h2 x hx; omega
theorem ascF_less : ∀ {l l' N : Nat} {p : List UInt8}, l' ≤ l → ascF l N p = true → ascF l' N p = true
  | _, _, _, [], _, _ => rfl
  | _, _, _, b :: r, h, h1 => by
    obtain ⟨h2, h3⟩ := ascF_cons.1 h1
    exact ascF_cons.2 ⟨by omega, h3⟩
theorem ascF_snoc {n N : Nat} {b : UInt8} (hb : b.toNat = 48 + n) (hn : n < N) : ∀ {l : Nat} {p : List UInt8}, l ≤ n → ascF l N p = true → (∀ x ∈ p, x.toNat < 48 + n) → ascF l N (p ++ [b]) = true
  | l, [], hl, _, _ => ascF_cons.2 ⟨by omega, rfl⟩
  | l, c :: r, hl, h, hx => by
    obtain ⟨h2, h3⟩ := ascF_cons.1 h
    have hc := hx c (by simp)
    rw [List.cons_append]
    exact ascF_cons.2 ⟨h2, ascF_snoc hb hn (by omega) h3 (fun x h' => hx x (List.mem_cons_of_mem _ h'))⟩
/-- The byte of a number below 10. -/
def dgB (k : Nat) : UInt8 := UInt8.ofNat (48 + k)
theorem dgB_nat {k : Nat} (hk : k < 10) : (dgB k).toNat = 48 + k := by unfold dgB; simp; omega
theorem dgB_eq {k : Nat} {b : UInt8} (hk : k < 10) (h : b.toNat = 48 + k) : b = dgB k := UInt8.toNat_inj.1 (by rw [h, dgB_nat hk])
theorem filt_step {n N : Nat} (hn : n < 10) : ∀ {l : Nat} {p : List UInt8}, ascF l N p = true → p.filter (fun x => decide (x.toNat < 48 + (n + 1))) = p.filter (fun x => decide (x.toNat < 48 + n)) ++ (if p.contains (dgB n) then [dgB n] else [])
  | _, [], _ => by simp
  | l, b :: r, h => by
    obtain ⟨h2, h3⟩ := ascF_cons.1 h
    have ih := filt_step hn h3
    have hlow := ascF_all h3
    rcases Nat.lt_trichotomy b.toNat (48 + n) with hb | hb | hb
    · have hne : ¬ dgB n = b := fun e => by rw [← e, dgB_nat hn] at hb; omega
      have hc : (b :: r).contains (dgB n) = r.contains (dgB n) := by simp [hne]
      rw [hc, List.filter_cons_of_pos (by simp; omega), List.filter_cons_of_pos (by simp; omega), ih, List.cons_append]
    · have e : b = dgB n := dgB_eq hn hb
      have r1 : r.filter (fun x => decide (x.toNat < 48 + (n + 1))) = [] := List.filter_eq_nil_iff.2 fun x hx => by have := hlow x hx; simp; omega
      have r2 : r.filter (fun x => decide (x.toNat < 48 + n)) = [] := List.filter_eq_nil_iff.2 fun x hx => by have := hlow x hx; simp; omega
      rw [List.filter_cons_of_pos (by simp; omega), List.filter_cons_of_neg (by simp; omega), r1, r2, e]
      simp
    · have r1 : (b :: r).filter (fun x => decide (x.toNat < 48 + (n + 1))) = [] := List.filter_eq_nil_iff.2 fun x hx => by
        rcases List.mem_cons.1 hx with rfl | hx
        · simp; omega
        · have := hlow x hx; simp; omega
      have r2 : (b :: r).filter (fun x => decide (x.toNat < 48 + n)) = [] := List.filter_eq_nil_iff.2 fun x hx => by
        rcases List.mem_cons.1 hx with rfl | hx
        · simp; omega
        · have := hlow x hx; simp; omega
      have hc : (b :: r).contains (dgB n) = false := by
        simp only [List.contains_eq_mem, decide_eq_false_iff_not]
        intro hx
        rcases List.mem_cons.1 hx with e | hx
        · rw [← e, dgB_nat hn] at hb; omega
        · have := hlow _ hx; rw [dgB_nat hn] at this; omega
      rw [r1, r2, hc]; rfl
/-- The digits for which q holds, below m. -/
def rowQ (q : Nat → Bool) : Nat → List UInt8
  | 0 => []
  | m + 1 => rowQ q m ++ (if q m then [dgB m] else [])
theorem rowQ_all {q : Nat → Bool} : ∀ {m : Nat}, m ≤ 10 → ∀ x ∈ rowQ q m, x.toNat < 48 + m
  | 0, _, x, hx => by cases hx
  | m + 1, h, x, hx => by
    unfold rowQ at hx
    rcases List.mem_append.1 hx with hx | hx
    · have := rowQ_all (by omega) x hx; omega
    · split at hx
      · simp at hx; rw [hx, dgB_nat (by omega)]; omega
      · cases hx
theorem rowQ_asc {q : Nat → Bool} {N : Nat} : ∀ {m : Nat}, m ≤ 10 → m ≤ N → ascF 0 N (rowQ q m) = true
  | 0, _, _ => rfl
  | m + 1, h, hN => by
    have ih := rowQ_asc (q := q) (N := N) (m := m) (by omega) (by omega)
    unfold rowQ
    split
    · exact ascF_snoc (dgB_nat (by omega)) (by omega) (Nat.zero_le _) ih (rowQ_all (by omega))
    · rw [List.append_nil]; exact ih
theorem rowQ_mem {q : Nat → Bool} {j : Nat} (hj : j < 10) : ∀ {m : Nat}, m ≤ 10 → (rowQ q m).contains (dgB j) = (decide (j < m) && q j)
  | 0, _ => by simp [rowQ]
  | m + 1, h => by
    have ih := rowQ_mem (q := q) hj (m := m) (by omega)
    have hd : (dgB j == dgB m) = decide (j = m) := by
      by_cases e : j = m
      · subst e; simp
      · have : dgB j ≠ dgB m := fun h' => by have := congrArg UInt8.toNat h'; rw [dgB_nat hj, dgB_nat (by omega)] at this; omega
        simp [e, this]
    unfold rowQ
    rw [List.contains_eq_any_beq, List.any_append, ← List.contains_eq_any_beq, ih]
    by_cases e : j = m
    · subst e
      cases hq : q j <;> simp
    · have hd2 : (dgB j == dgB m) = false := by rw [hd]; simp [e]
      have e2 : decide (j < m + 1) = decide (j < m) := by by_cases h1 : j < m <;> simp <;> omega
      rw [e2]
      cases hq : q m <;> simp [hd2]
theorem filt_rowQ {p : List UInt8} {N : Nat} (h : ascF 0 N p = true) : ∀ {n : Nat}, n ≤ 10 → p.filter (fun x => decide (x.toNat < 48 + n)) = rowQ (fun j => p.contains (dgB j)) n
  | 0, _ => List.filter_eq_nil_iff.2 fun x hx => by have := (ascF_all h x hx).1; simp; omega
  | n + 1, hn => by
    rw [filt_step (by omega) h, filt_rowQ h (by omega)]
    rfl
/-- ASCENDING DIGITS ARE WHAT THEIR SET TELLS. -/
theorem asc_rowQ {p : List UInt8} {N : Nat} (hN : N ≤ 9) (h : ascF 0 N p = true) : rowQ (fun j => p.contains (dgB j)) N = p := by
  rw [← filt_rowQ h (by omega)]
  exact List.filter_eq_self.2 fun x hx => by have := (ascF_all h x hx).2; simp; omega

end Go.Proofs.Ytofpjepndhpciaa
