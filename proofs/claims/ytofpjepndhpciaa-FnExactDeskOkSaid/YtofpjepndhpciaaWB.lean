/-
  Several texts in one.
  spec.PathOf, spec.RingOf, walked.
  spec.RingOf, spec.LineOf, walked.
  spec.LongestIn, walked.
  spec.HeightsOf, walked.
  spec.LevelsOf, walked.
  spec.RingsFor, walked.
  Small facts for the laws of chapter 7.
-/
import Derived.Test.YtofpjepndhpciaaWA
import Derived.Test.YtofpjepndhpciaaPG
import Derived.Test.YtofpjepndhpciaaM8
import Derived.Laws.Small
import Derived.Test.YtofpjepndhpciaaW0
import Derived.Test.YtofpjepndhpciaaZN
import Derived.Test.YtofpjepndhpciaaZV
import Derived.StillTailTactics
namespace Go.Proofs.Ytofpjepndhpciaa
open Go.RowKit Go.Shelf Go.Deep

theorem rowsP_at {n k : Nat} (p : Nat → Nat → Bool) (hk : k < n) : (rowsP n p)[k]? = some ((List.range n).map fun j => if p k j = true then 1 else 0) := by
  unfold rowsP
  rw [List.getElem?_map, List.getElem?_range hk]; rfl
theorem pat_row {n k : Nat} (hk : k < n) : (patL n)[k]? = some (if k + 1 < n then (List.replicate n (0 : Int)).set (k + 1) 1 else List.replicate n 0) := by
  unfold patL
  rw [rowsP_at _ hk]
  congr 1
  refine List.ext_getElem (by split <;> simp) fun j h1 h2 => ?_
  have hj : j < n := by simpa using h1
  by_cases hlt : k + 1 < n
  · simp only [if_pos hlt]
    rw [List.getElem_set]
    by_cases e : k + 1 = j
    · subst e; simp
    · have e' : ¬ j = k + 1 := fun h => e h.symm
      simp [e, e']
  · simp only [if_neg hlt]
    have e : ¬ j = k + 1 := by omega
    simp [e]
theorem take_at {α : Type} {l : List α} {k : Nat} {x : α} (h : l[k]? = some x) : l.take (k + 1) = l.take k ++ [x] := by rw [List.take_add_one, h]; rfl
def patI (z : Int) : List (List Int) := if 1 ≤ z ∧ z ≤ 9 then patL z.toNat else []
theorem patI_yes {n : Nat} (h1 : 1 ≤ n) (h9 : n ≤ 9) : patI n = patL n := by unfold patI; rw [if_pos (by omega), Int.toNat_natCast]
theorem patI_no {z : Int} (h : ¬ (1 ≤ z ∧ z ≤ 9)) : patI z = [] := if_neg h
/-- Rows that can be set still. -/
def MadeD (xss : List (List Int)) (w : World) (e : Ending) (w' : World) : Prop := ∃ (g cap : Nat) (GG : Nat → Nat), (e = .returned (.slice (some ⟨g, 0, none⟩) xss.length cap) ∧ Below w.heap.size w w') ∧ RowsD w.heap.size w' (.slice (some ⟨g, 0, none⟩) xss.length cap) xss.length xss.length xss GG
theorem MadeD.made {xss : List (List Int)} {w w' : World} {e : Ending} (hl : xss.length ≤ 1000) (h : MadeD xss w e w') : MadeO xss w e w' := by
  obtain ⟨g, cap, GG, h1, h2⟩ := h
  exact ⟨_, cap, h1, h2.ownMat hl⟩
theorem RowsD.grown {base k m R : Nat} {W : World} {v : Value} {xss : List (List Int)} {G : Nat → Nat} (h : RowsD base W v k m xss G) (o : Obj) (hR : R = W.heap.size) (j : Nat) (x : Value) : RowsD base ((W.alloc o).setCell ⟨R, j, none⟩ x) v k m xss G := by
  refine h.kept ⟨rfl, rfl, rfl, by simp, fun b hb _ => ?_⟩
  subst hR
  exact (Below.heap_setCell (W.alloc o) ⟨W.heap.size, j, none⟩ x b (by show b ≠ W.heap.size; omega)).trans (Below.heap_alloc W o b hb)

end Go.Proofs.Ytofpjepndhpciaa

namespace Go.Proofs.Ytofpjepndhpciaa
open Go.RowKit Go.Shelf Go.Deep

theorem rin_pat : ∀ k, k < 9 → (patL (k + 1)).set k ((List.replicate (k + 1) (0 : Int)).set 0 1) = rinL (k + 1) := by decide +kernel
def rinI (z : Int) : List (List Int) := if 1 ≤ z ∧ z ≤ 9 then rinL z.toNat else []
theorem rinI_yes {n : Nat} (h1 : 1 ≤ n) (h9 : n ≤ 9) : rinI n = rinL n := by unfold rinI; rw [if_pos (by omega), Int.toNat_natCast]
theorem rinI_no {z : Int} (h : ¬ (1 ≤ z ∧ z ≤ 9)) : rinI z = [] := if_neg h

/-- A line's row, as far as it is laid. -/
def linR (k j : Nat) : List Int := (List.range j).map fun t => if k < t then 1 else 0
theorem linR_succ (k j : Nat) : linR k (j + 1) = linR k j ++ [if k < j then 1 else 0] := by simp [linR, List.range_succ]
theorem linR_len (k j : Nat) : (linR k j).length = j := by simp [linR]
theorem lin_row {n k : Nat} (hk : k < n) : (linL n)[k]? = some (linR k n) := by
  unfold linL
  rw [rowsP_at _ hk]
  simp [linR]
def linI (z : Int) : List (List Int) := if 1 ≤ z ∧ z ≤ 9 then linL z.toNat else []
theorem linI_yes {n : Nat} (h1 : 1 ≤ n) (h9 : n ≤ 9) : linI n = linL n := by unfold linI; rw [if_pos (by omega), Int.toNat_natCast]
theorem linI_no {z : Int} (h : ¬ (1 ≤ z ∧ z ≤ 9)) : linI z = [] := if_neg h

end Go.Proofs.Ytofpjepndhpciaa

namespace Go.Proofs.Ytofpjepndhpciaa
open Go.RowKit Go.Shelf Go.Deep

def bI (b : Bool) : Int := if b = true then 1 else 0
/-- From which nodes one can go along m arrows. -/
def nowL (G : List (List Int)) (m : Nat) : List Int := (List.range G.length).map fun i => bI (wkB G m i)
theorem nowL_len (G : List (List Int)) (m : Nat) : (nowL G m).length = G.length := by simp [nowL]
theorem nowL_at {G : List (List Int)} {m i : Nat} (hi : i < G.length) : (nowL G m)[i]? = some (bI (wkB G m i)) := by
  unfold nowL
  rw [List.getElem?_map, List.getElem?_range hi]; rfl
theorem nowL_zero (G : List (List Int)) : nowL G 0 = List.replicate G.length 1 := by
  refine List.ext_getElem (by simp [nowL]) fun j h1 h2 => ?_
  simp [nowL, wkB, bI]
theorem any_next (p : Nat → Bool) (k : Nat) : (List.range (k + 1)).any p = ((List.range k).any p || p k) := by simp [List.range_succ]
theorem lng_yesR {G : List (List Int)} {m : Nat} (hg : gOk G = true) (hm : m < 9) (hall : ∀ k, 1 ≤ k → k ≤ m → wkS G k = true) (hno : wkS G (m + 1) = false) : lngI G = ((m + 1 : Nat) : Int) ∧ lngK G = true := by
  obtain ⟨n, hn, hle⟩ := (lng_le (G := G) (k := m + 1) (by omega) (by omega)).2 hno
  have h1 := lng_some hn
  have e : n = m + 1 := by
    rcases Nat.lt_or_ge n (m + 1) with hlt | hge
    · have := hall n h1.1.1 (by omega)
      rw [h1.2] at this; cases this
    · omega
  subst e
  unfold lngI lngK
  rw [hn, hg]
  exact ⟨rfl, rfl⟩
theorem lng_noR {G : List (List Int)} (hg : gOk G = true) (hall : ∀ k, 1 ≤ k → k ≤ 9 → wkS G k = true) : lngI G = -1 ∧ lngK G = false := by
  have h : lngO G = none := by
    cases h : lngO G with
    | none => rfl
    | some n =>
      have h1 := lng_some h
      have := hall n h1.1.1 h1.1.2
      rw [h1.2] at this; cases this
  unfold lngI lngK
  rw [h, hg]
  exact ⟨rfl, rfl⟩
theorem lng_badR {G : List (List Int)} (hg : gOk G = false) : lngI G = -1 ∧ lngK G = false := by
  unfold lngI lngK
  rw [hg]
  exact ⟨rfl, rfl⟩
theorem max_bI (p q : Bool) : (if bI q > bI p then bI q else bI p) = bI (p || q) := by cases p <;> cases q <;> rfl

end Go.Proofs.Ytofpjepndhpciaa

namespace Go.Proofs.Ytofpjepndhpciaa
open Go.RowKit Go.Shelf Go.Deep

theorem hgt_small {G : List (List Int)} {p i : Nat} (hk : lngK G = true) (hi : i < G.length) (hw : wkE G p i = true) : p ≤ 8 := by
  obtain ⟨_, n, hn⟩ := lngK_some hk
  rcases Nat.lt_or_ge p n with hlt | hge
  · have := lng_some hn
    omega
  · have hw2 : wkS G (n + (p - n)) = true := by rw [show n + (p - n) = p by omega]; exact wkS_end.2 ⟨i, hi, hw⟩
    have := wkS_mono hw2
    rw [(lng_some hn).2] at this; cases this
theorem hst_at {G : List (List Int)} {r k j i : Nat} {xs : List Int} (hk : lngK G = true) (h : HgtSt G r k j xs) (hi : i < G.length) : ∃ p : Nat, xs[i]? = some (p : Int) ∧ p ≤ 8 := by
  have hx : i < xs.length := by rw [h.len]; exact hi
  have h1 := List.getElem?_eq_getElem hx
  obtain ⟨h2, h3⟩ := h.walk i _ h1
  refine ⟨(xs[i]).toNat, by rw [h1]; congr 1; omega, hgt_small hk hi h3⟩
theorem ReadLB.ofRow {xs : List Int} {yes : Bool} {b : Nat} {w w' : World} (h : RowBlk w' b xs) (hl : xs.length ≤ 1000) (hB : Below w.heap.size w w') : ReadLB xs yes w (.returned (.tuple #[.slice (some ⟨b, 0, none⟩) xs.length xs.length, .bool yes])) w' := by
  refine ⟨some ⟨b, 0, none⟩, xs.length, ⟨rfl, hB⟩, own_intsQ (base := 0) (c := xs.length) (h.own (Nat.zero_le _) rfl hl)⟩

end Go.Proofs.Ytofpjepndhpciaa

namespace Go.Proofs.Ytofpjepndhpciaa
open Go.RowKit Go.Shelf Go.Deep

/-- The levels so far, in a list of one's own. -/
def LvO (base L : Nat) (W : World) (g cap : Nat) (xs : List Int) : Prop := W.ownsRow base 3 1 (.slice (some ⟨g, 0, none⟩) L cap) L (xs.map (Value.int .i64))
theorem LvO.cell {base L g cap i : Nat} {W : World} {xs : List Int} {y : Int} (h : LvO base L W g cap xs) (hi : i < L) (hy : xs[i]? = some y) : W.cell? ⟨g, i, none⟩ = some (.int .i64 y) := by
  rw [World.ownsRow.cellAt h i (by omega), List.getElem?_map, hy]; rfl
theorem LvO.store {base L g cap : Nat} {W : World} {xs : List Int} (h : LvO base L W g cap xs) (j : Nat) (x : Int) : LvO base L (W.setCell ⟨g, j, none⟩ (.int .i64 x)) g cap (xs.set j x) := by
  have h2 := (World.ownsRow.stored h j (.int .i64 x)).1
  rw [← List.map_set] at h2
  exact h2
theorem LvO.lt {base L g cap : Nat} {W : World} {xs : List Int} (h : LvO base L W g cap xs) : base ≤ g ∧ g < W.heap.size := World.ownsRow.lt h g (by simp [Value.ownBlock])
theorem lst_at {G : List (List Int)} {m s i : Nat} {xs : List Int} (h : LvlSt G m s xs) (hi : i < G.length) : xs[i]? = some (-1) ∨ ∃ p : Nat, xs[i]? = some (p : Int) ∧ p < m := by
  have hx : i < xs.length := by rw [h.len]; exact hi
  have h1 := List.getElem?_eq_getElem hx
  rcases h.rng i _ h1 with h2 | ⟨h2, h3⟩
  · exact .inl (by rw [h1, h2])
  · exact .inr ⟨(xs[i]).toNat, by rw [h1]; congr 1; omega, by omega⟩
theorem rem_lv (q m : Nat) : Int.tmod (q : Int) (m : Int) = ((q % m : Nat) : Int) := by rw [Int.tmod_eq_emod_of_nonneg (Int.natCast_nonneg _)]; rfl
theorem lev_noR {G : List (List Int)} {m : Nat} (h : ∀ f, ¬ IsLvl G m f) : levK G (m : Int) = false := by
  rw [Bool.eq_false_iff]
  intro hk
  have h2 := levI_lvl hk
  rw [Int.toNat_natCast] at h2
  exact h _ h2
theorem lev_noG {G : List (List Int)} {z : Int} (h : gOk G = false) : levK G z = false := by
  rw [Bool.eq_false_iff]
  intro hk
  have := (levK_iff.1 hk).1
  rw [h] at this; cases this
theorem lev_noM {G : List (List Int)} {z : Int} (h : ¬ (1 ≤ z ∧ z ≤ 9)) : levK G z = false := by
  rw [Bool.eq_false_iff]
  intro hk
  exact h (levK_iff.1 hk).2.1
/-- What is checked at the end: the pairs ahead of (k, j) fit. -/
def ChkTo (G : List (List Int)) (m k j : Nat) (xs : List Int) : Prop := ∀ a b, a < G.length → b < G.length → arw G a b = true → (a < k ∨ (a = k ∧ b < j)) → (nd xs a + 1) % m = nd xs b
theorem chk_row {G : List (List Int)} {m k : Nat} {xs : List Int} (h : ChkTo G m k G.length xs) : ChkTo G m (k + 1) 0 xs := fun a b ha hb hab hx => h a b ha hb hab (by omega)
theorem chk_next {G : List (List Int)} {m k j : Nat} {xs : List Int} (h : ChkTo G m k j xs) (hc : arw G k j = true → (nd xs k + 1) % m = nd xs j) : ChkTo G m k (j + 1) xs := fun a b ha hb hab hx => by
  by_cases e : a = k ∧ b = j
  · rw [e.1, e.2] at hab ⊢; exact hc hab
  · exact h a b ha hb hab (by omega)

end Go.Proofs.Ytofpjepndhpciaa

namespace Go.Proofs.Ytofpjepndhpciaa
open Go.RowKit Go.Shelf Go.Deep

/-- The rings above, of the first t numbers. -/
noncomputable def rngTo (G : List (List Int)) (t : Nat) : List Int := ((List.range t).map fun k => ((k + 1 : Nat) : Int)).filter (levK G)
theorem rngTo_all (G : List (List Int)) : rngTo G 9 = rngL G := rfl
theorem rngTo_yes {G : List (List Int)} {t : Nat} (h : levK G ((t : Int) + 1) = true) : rngTo G (t + 1) = rngTo G t ++ [(t : Int) + 1] := by
  have e : ((t + 1 : Nat) : Int) = (t : Int) + 1 := by omega
  unfold rngTo
  rw [List.range_succ, List.map_append, List.filter_append]
  simp only [List.map_cons, List.map_nil, e, List.filter_cons, h, if_true, List.filter_nil]
theorem rngTo_no {G : List (List Int)} {t : Nat} (h : levK G ((t : Int) + 1) = false) : rngTo G (t + 1) = rngTo G t := by
  have e : ((t + 1 : Nat) : Int) = (t : Int) + 1 := by omega
  unfold rngTo
  rw [List.range_succ, List.map_append, List.filter_append]
  simp [h]
theorem rngTo_le (G : List (List Int)) (t : Nat) : (rngTo G t).length ≤ t := by
  have := List.length_filter_le (levK G) ((List.range t).map fun k => ((k + 1 : Nat) : Int))
  simpa [rngTo] using this

end Go.Proofs.Ytofpjepndhpciaa

namespace Go.Proofs.Ytofpjepndhpciaa
open Go.RowKit Go.Shelf Go.Deep

theorem patI_fit {z : Int} : Fit (patI z) := by
  by_cases h : 1 ≤ z ∧ z ≤ 9
  · unfold patI
    rw [if_pos h]
    exact (pat_good (by omega) (by omega)).fit
  · rw [patI_no h]
    exact ⟨by simp, fun xs hx => by simp at hx⟩
theorem linI_fit {z : Int} : Fit (linI z) := by
  by_cases h : 1 ≤ z ∧ z ≤ 9
  · unfold linI
    rw [if_pos h]
    exact (lin_good (by omega) (by omega)).fit
  · rw [linI_no h]
    exact ⟨by simp, fun xs hx => by simp at hx⟩
theorem rinI_fits {z : Int} : Fit (rinI z) := by
  by_cases h : 1 ≤ z ∧ z ≤ 9
  · unfold rinI
    rw [if_pos h]
    exact (rin_good (by omega) (by omega)).fit
  · rw [rinI_no h]
    exact ⟨by simp, fun xs hx => by simp at hx⟩
theorem levI_le {G : List (List Int)} {z : Int} : (levI G z).length ≤ 1048576 := by
  cases h : levK G z with
  | true =>
    have h1 := (levI_lvl h).1.1.1
    have h2 := (good_of (levK_iff.1 h).1).2.1
    omega
  | false => rw [levI_no h]; simp
theorem rngL_le {G : List (List Int)} : (rngL G).length ≤ 1048576 := by
  have := rngTo_le G 9
  rw [rngTo_all] at this
  omega
theorem hgtL_le {G : List (List Int)} : (hgtL G).length ≤ 1048576 := by
  cases h : lngK G with
  | true =>
    have h2 := (good_of (lngK_some h).1).2.1
    rw [hgt_yes h, List.length_map, List.length_range]
    omega
  | false => rw [hgt_no h]; simp
theorem patI_le (z : Int) : (patI z).length ≤ 1000 := by
  unfold patI
  split
  · rw [pat_len]; omega
  · simp
theorem rinI_le (z : Int) : (rinI z).length ≤ 1000 := by
  unfold rinI
  split
  · rw [rin_len]; omega
  · simp
end Go.Proofs.Ytofpjepndhpciaa
