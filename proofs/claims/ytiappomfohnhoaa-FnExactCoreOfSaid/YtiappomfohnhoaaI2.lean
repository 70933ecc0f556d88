/-
  spec.PartOf: bits that are seen, rows.
-/
import Derived.Test.YtiappomfohnhoaaZG
import Derived.Laws.BitsAllLaws
namespace Go.Proofs.Ytiappomfohnhoaa
open Go.RowKit Go.Shelf Go.Deep

theorem i64_or_nat (a b : Nat) (ha : a < 512) (hb : b < 512) : bits .or .i64 (a : Int) (b : Int) = ((a ||| b : Nat) : Int) := by
  have hx : a ||| b < 2 ^ 9 := Nat.or_lt_two_pow (by omega) (by omega)
  have e1 : (BitVec.ofInt 64 (a : Int)).toNat = a := by rw [BitVec.ofInt_natCast, BitVec.toNat_ofNat]; exact Nat.mod_eq_of_lt (by omega)
  have e2 : (BitVec.ofInt 64 (b : Int)).toNat = b := by rw [BitVec.ofInt_natCast, BitVec.toNat_ofNat]; exact Nat.mod_eq_of_lt (by omega)
  show IntKind.i64.wrap ((BitVec.ofInt 64 (a : Int) ||| BitVec.ofInt 64 (b : Int)).toNat : Int) = _
  rw [BitVec.toNat_or, e1, e2]
  simp [IntKind.wrap, IntKind.bits, IntKind.signed]
  omega

/-- THE BITS of the first k. -/
def Seen (ys : List Int) (k s : Nat) : Prop := s < 512 ∧ ∀ v : Nat, s.testBit v = true ↔ (v : Int) ∈ ys.take k
theorem seen_zero (ys : List Int) : Seen ys 0 0 := ⟨by decide, fun v => by simp⟩
theorem seen_step {ys : List Int} {k s p : Nat} (h : Seen ys k s) (hp : p < 9) (hy : ys[k]? = some (p : Int)) : Seen ys (k + 1) (s ||| 2 ^ p) := by
  refine ⟨?_, fun v => ?_⟩
  · have : (2:Nat) ^ p < 2 ^ 9 := Nat.pow_lt_pow_right (by decide) hp
    exact Nat.or_lt_two_pow (n := 9) h.1 this
  · rw [Nat.testBit_or, Nat.testBit_two_pow, List.take_add_one, hy]
    simp only [Bool.or_eq_true, decide_eq_true_eq, List.mem_append, Option.toList, List.mem_singleton, h.2 v]
    constructor
    · rintro (h | h)
      · exact .inl h
      · exact .inr (by omega)
    · rintro (h | h)
      · exact .inl h
      · exact .inr (by omega)
theorem seen_test {ys : List Int} {k s p : Nat} (h : Seen ys k s) : (s / 2 ^ p) % 2 = 1 ↔ (p : Int) ∈ ys.take k := by
  rw [← h.2 p, Nat.testBit_eq_decide_div_mod_eq, decide_eq_true_eq]

theorem wrap_pow {p : Nat} (hp : p < 9) : wrap64 ((2 : Int) ^ p) = ((2 ^ p : Nat) : Int) := by
  have h : (2:Nat) ^ p < 2 ^ 9 := Nat.pow_lt_pow_right (by decide) hp
  have e : ((2 : Int) ^ p) = ((2 ^ p : Nat) : Int) := by simp
  rw [e]
  obtain ⟨t, ht⟩ : ∃ t, 2 ^ p = t := ⟨_, rfl⟩
  rw [ht] at h ⊢
  unfold wrap64; omega
theorem seen_or {ys : List Int} {k s p : Nat} (h : Seen ys k s) (hp : p < 9) : bits .or .i64 (s : Int) (wrap64 ((2 : Int) ^ p)) = ((s ||| 2 ^ p : Nat) : Int) := by
  have : (2:Nat) ^ p < 2 ^ 9 := Nat.pow_lt_pow_right (by decide) hp
  rw [wrap_pow hp, i64_or_nat _ _ h.1 this]
theorem seen_mod {ys : List Int} {k s p : Nat} (h : Seen ys k s) : ((s : Int) / 2 ^ p).tmod 2 = if (p : Int) ∈ ys.take k then 1 else 0 := by
  have e : ((s : Int) / 2 ^ p) = ((s / 2 ^ p : Nat) : Int) := by simp
  rw [e]
  have e2 : (((s / 2 ^ p : Nat) : Int)).tmod 2 = ((s / 2 ^ p % 2 : Nat) : Int) := rfl
  rw [e2]
  by_cases hm : (p : Int) ∈ ys.take k
  · rw [if_pos hm, (seen_test h).2 hm]; rfl
  · have : s / 2 ^ p % 2 ≠ 1 := fun e => hm ((seen_test h).1 e)
    rw [if_neg hm]; omega

/-- Row i, as far as j: the numbers that are nodes. -/
def pRow (xss : List (List Int)) (ys : List Int) (i j : Nat) : List Int := ((ys.take j).filter fun v : Int => decide (0 ≤ v ∧ v < (xss.length : Int))).map fun v : Int => ent xss (nd ys i) v.toNat
theorem pRow_yes {xss : List (List Int)} {ys : List Int} {i j q : Nat} (hy : ys[j]? = some (q : Int)) (hq : q < xss.length) : pRow xss ys i (j + 1) = pRow xss ys i j ++ [ent xss (nd ys i) q] := by
  have h : decide (0 ≤ (q : Int) ∧ (q : Int) < (xss.length : Int)) = true := decide_eq_true ⟨by omega, by omega⟩
  simp only [pRow, List.take_add_one, hy, List.filter_append, List.map_append, Option.toList, List.filter_cons, h, List.filter_nil, if_true, List.map_cons, List.map_nil, Int.toNat_natCast]
theorem pRow_no {xss : List (List Int)} {ys : List Int} {i j : Nat} {y : Int} (hy : ys[j]? = some y) (hn : ¬ (0 ≤ y ∧ y < xss.length)) : pRow xss ys i (j + 1) = pRow xss ys i j := by
  have h : decide (0 ≤ y ∧ y < (xss.length : Int)) = false := decide_eq_false hn
  simp only [pRow, List.take_add_one, hy, List.filter_append, Option.toList, List.filter_cons, h, List.filter_nil, Bool.false_eq_true, if_false, List.append_nil]
theorem pRow_le (xss : List (List Int)) (ys : List Int) (i j : Nat) : (pRow xss ys i j).length ≤ j := by
  unfold pRow
  rw [List.length_map]
  exact Nat.le_trans (List.length_filter_le _ _) (by rw [List.length_take]; exact Nat.min_le_left _ _)
def pRows (xss : List (List Int)) (ys : List Int) (k : Nat) : List (List Int) := (List.range k).map fun i => pRow xss ys i ys.length
theorem pRows_succ (xss : List (List Int)) (ys : List Int) (k : Nat) : pRows xss ys (k + 1) = pRows xss ys k ++ [pRow xss ys k ys.length] := by simp [pRows, List.range_succ]
theorem pRows_length (xss : List (List Int)) (ys : List Int) (k : Nat) : (pRows xss ys k).length = k := by simp [pRows]
theorem pRows_all {xss : List (List Int)} {ys : List Int} (hG : Good xss) (hN : Nodes xss.length ys) : pRows xss ys ys.length = rowsP ys.length (fun i j => arw xss (nd ys i) (nd ys j)) := by
  unfold pRows rowsP
  refine List.map_congr_left fun i hi => ?_
  have hi' := List.mem_range.1 hi
  unfold pRow
  have hall : ∀ v ∈ ys, decide (0 ≤ v ∧ v < (xss.length : Int)) = true := fun v hv => by
    obtain ⟨j, hj, e⟩ := List.mem_iff_getElem.1 hv
    exact decide_eq_true (hN.1 j v (by rw [List.getElem?_eq_getElem hj, e]))
  rw [List.take_length, List.filter_eq_self.2 hall]
  apply List.ext_getElem?
  intro j
  rw [List.getElem?_map, List.getElem?_map]
  by_cases hj : j < ys.length
  · rw [List.getElem?_eq_getElem hj, List.getElem?_range hj]
    have hjj : ys[j]? = some ys[j] := List.getElem?_eq_getElem hj
    have hii : ys[i]? = some ys[i] := List.getElem?_eq_getElem hi'
    obtain ⟨a0, a1⟩ := hN.1 j _ hjj
    obtain ⟨b0, b1⟩ := hN.1 i _ hii
    have h := (good_iff_ent hG.1 hG.2.1 (fun i xs h => hG.len h)).1 hG (⟨nd ys i, by rw [nd_eq hii]; omega⟩, ⟨nd ys j, by rw [nd_eq hjj]; omega⟩)
    simp only [nd_eq hjj] at h
    simp only [Option.map_some, nd_eq hjj]
    unfold arw
    rcases h with e | e <;> simp [e]
  · rw [List.getElem?_eq_none (by omega), List.getElem?_eq_none (by simp; omega)]
    rfl

end Go.Proofs.Ytiappomfohnhoaa
