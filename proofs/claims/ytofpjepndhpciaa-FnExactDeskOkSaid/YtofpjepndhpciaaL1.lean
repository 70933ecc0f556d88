/-
  All maps from a graph to another one, as lists: node by node from a begun row, and row by row from the rows of one node less.
-/
import Derived.Test.YtofpjepndhpciaaZG
namespace Go.Proofs.Ytofpjepndhpciaa
open Go.RowKit Go.Shelf

/-- Is the last node of a begun row led as it may be? -/
def lead (G H : List (List Int)) (r : List Int) : Bool :=
  (List.range r.length).all fun j => (!arw G j (r.length - 1) || arw H (nd r j) (nd r (r.length - 1))) && (!arw G (r.length - 1) j || arw H (nd r (r.length - 1)) (nd r j))
/-- The begun row p made longer by a node below k, where it may be. -/
def exts (G H : List (List Int)) (p : List Int) (k : Nat) : List (List Int) := ((List.range k).map fun x : Nat => p ++ [(x : Int)]).filter (lead G H)
theorem exts_zero (G H : List (List Int)) (p : List Int) : exts G H p 0 = [] := rfl
theorem exts_yes {G H : List (List Int)} {p : List Int} {k : Nat} (h : lead G H (p ++ [(k : Int)]) = true) : exts G H p (k + 1) = exts G H p k ++ [p ++ [(k : Int)]] := by
  unfold exts; rw [List.range_succ, List.map_append, List.filter_append]; simp [h]
theorem exts_no {G H : List (List Int)} {p : List Int} {k : Nat} (h : lead G H (p ++ [(k : Int)]) = false) : exts G H p (k + 1) = exts G H p k := by
  unfold exts; rw [List.range_succ, List.map_append, List.filter_append]; simp [h]

/-- ALL MAPS THAT BEGIN WITH p and have n nodes more. -/
def mapsFrom (G H : List (List Int)) : Nat → List Int → List (List Int)
  | 0, p => [p]
  | n + 1, p => (exts G H p H.length).flatMap (mapsFrom G H n)
/-- Those of them whose next node is below k. -/
def mapsTill (G H : List (List Int)) (n : Nat) (p : List Int) (k : Nat) : List (List Int) := (exts G H p k).flatMap (mapsFrom G H n)
theorem mapsTill_zero (G H : List (List Int)) (n : Nat) (p : List Int) : mapsTill G H n p 0 = [] := rfl
theorem mapsTill_yes {G H : List (List Int)} {n : Nat} {p : List Int} {k : Nat} (h : lead G H (p ++ [(k : Int)]) = true) : mapsTill G H n p (k + 1) = mapsTill G H n p k ++ mapsFrom G H n (p ++ [(k : Int)]) := by
  unfold mapsTill; rw [exts_yes h, List.flatMap_append]; simp
theorem mapsTill_no {G H : List (List Int)} {n : Nat} {p : List Int} {k : Nat} (h : lead G H (p ++ [(k : Int)]) = false) : mapsTill G H n p (k + 1) = mapsTill G H n p k := by
  unfold mapsTill; rw [exts_no h]
theorem mapsTill_all (G H : List (List Int)) (n : Nat) (p : List Int) : mapsTill G H n p H.length = mapsFrom G H (n + 1) p := rfl
theorem mapsTill_prefix (G H : List (List Int)) (n : Nat) (p : List Int) {k m : Nat} (h : k ≤ m) : mapsTill G H n p k <+: mapsTill G H n p m := by
  induction m with
  | zero => obtain rfl : k = 0 := by omega
            exact List.prefix_refl _
  | succ m ih =>
    rcases Nat.lt_or_ge k (m + 1) with hl | hl
    · refine (ih (by omega)).trans ?_
      cases hc : lead G H (p ++ [(m : Int)]) with
      | true => rw [mapsTill_yes hc]; exact List.prefix_append _ _
      | false => rw [mapsTill_no hc]; exact List.prefix_refl _
    · obtain rfl : k = m + 1 := by omega
      exact List.prefix_refl _

/-- The rows of k nodes whose arrows are led to arrows. -/
def lvl (G H : List (List Int)) : Nat → List (List Int)
  | 0 => [[]]
  | k + 1 => (lvl G H k).flatMap fun p => exts G H p H.length
theorem lvl_maps (G H : List (List Int)) (k : Nat) : ∀ n, (lvl G H k).flatMap (mapsFrom G H n) = mapsFrom G H (k + n) [] := by
  induction k with
  | zero => intro n; simp [lvl]
  | succ k ih =>
    intro n
    rw [lvl, List.flatMap_assoc, show k + 1 + n = k + (n + 1) by omega, ← ih (n + 1)]
    rfl
theorem lvl_eq (G H : List (List Int)) (k : Nat) : lvl G H k = mapsFrom G H k [] := by
  have h := lvl_maps G H k 0
  rw [Nat.add_zero] at h
  rw [← h]
  have e : mapsFrom G H 0 = fun p => [p] := rfl
  rw [e, List.flatMap_singleton']

theorem mapsFrom_len {G H : List (List Int)} (n : Nat) : ∀ (p r : List Int), r ∈ mapsFrom G H n p → r.length = p.length + n := by
  induction n with
  | zero => intro p r h; rw [mapsFrom, List.mem_singleton] at h; rw [h, Nat.add_zero]
  | succ n ih =>
    intro p r h
    rw [mapsFrom, List.mem_flatMap] at h
    obtain ⟨q, hq, hr⟩ := h
    unfold exts at hq
    obtain ⟨x, _, rfl⟩ := List.mem_map.1 (List.mem_filter.1 hq).1
    have := ih _ _ hr
    rw [List.length_append, List.length_singleton] at this
    omega
theorem exts_length (G H : List (List Int)) (p : List Int) (k : Nat) : (exts G H p k).length ≤ k := by
  unfold exts; exact Nat.le_trans (List.length_filter_le _ _) (by simp)
theorem length_flatMap_le {α β : Type} (f : α → List β) (m : Nat) : ∀ (l : List α), (∀ x ∈ l, (f x).length ≤ m) → (l.flatMap f).length ≤ l.length * m := by
  intro l
  induction l with
  | nil => intro _; simp
  | cons a l ih =>
    intro h
    rw [List.flatMap_cons, List.length_append, List.length_cons, Nat.add_mul, Nat.one_mul]
    have h1 := h a (List.mem_cons_self ..)
    have h2 := ih fun x hx => h x (List.mem_cons_of_mem _ hx)
    omega
theorem mapsFrom_length {G H : List (List Int)} (n : Nat) : ∀ p, (mapsFrom G H n p).length ≤ H.length ^ n := by
  induction n with
  | zero => intro p; simp [mapsFrom]
  | succ n ih =>
    intro p
    rw [mapsFrom, Nat.pow_succ, Nat.mul_comm]
    exact Nat.le_trans (length_flatMap_le _ _ _ fun x _ => ih x) (Nat.mul_le_mul_right _ (exts_length G H p _))

/-- ARE THEY FEW? -/
def fewI (G H : List (List Int)) : Bool := gOk G && gOk H && decide (H.length ^ G.length ≤ 7000)
theorem fewI_iff {G H : List (List Int)} : fewI G H = true ↔ gOk G = true ∧ gOk H = true ∧ H.length ^ G.length ≤ 7000 := by
  unfold fewI; simp [Bool.and_eq_true, and_assoc]
theorem few_no1 {G H : List (List Int)} (h : gOk G = false) : fewI G H = false := by unfold fewI; rw [h]; rfl
theorem few_no2 {G H : List (List Int)} (h : gOk H = false) : fewI G H = false := by unfold fewI; rw [h]; simp
/-- ALL MAPS, of few. -/
def mapsL (G H : List (List Int)) : List (List Int) := if fewI G H = true then mapsFrom G H G.length [] else []
theorem mapsL_yes {G H : List (List Int)} (h : fewI G H = true) : mapsL G H = mapsFrom G H G.length [] := if_pos h
theorem mapsL_no {G H : List (List Int)} (h : fewI G H = false) : mapsL G H = [] := if_neg (by rw [h]; decide)
theorem mapsL_le (G H : List (List Int)) : (mapsL G H).length ≤ 7000 := by
  cases h : fewI G H with
  | true => rw [mapsL_yes h]; exact Nat.le_trans (mapsFrom_length _ _) (fewI_iff.1 h).2.2
  | false => rw [mapsL_no h]; simp
/-- HOW MANY MAPS; -1 where they are not few. -/
def countI (G H : List (List Int)) : Int := if fewI G H = true then ((mapsL G H).length : Int) else -1
theorem countI_yes {G H : List (List Int)} (h : fewI G H = true) : countI G H = ((mapsL G H).length : Int) := if_pos h
theorem countI_no {G H : List (List Int)} (h : fewI G H = false) : countI G H = -1 := if_neg (by rw [h]; decide)
/-- IS THERE A MAP? -/
def belowI (G H : List (List Int)) : Bool := decide (0 < (mapsL G H).length)
theorem belowI_count (G H : List (List Int)) : decide (countI G H > 0) = belowI G H := by
  unfold belowI
  cases h : fewI G H with
  | true => rw [countI_yes h]; simp
  | false => rw [countI_no h, mapsL_no h]; simp
theorem mapsL_fit (G H : List (List Int)) : Fit (mapsL G H) := by
  refine ⟨by have := mapsL_le G H; omega, fun xs hx => ?_⟩
  cases h : fewI G H with
  | true =>
    rw [mapsL_yes h] at hx
    have h1 := mapsFrom_len _ _ _ hx
    have h2 := (good_of (fewI_iff.1 h).1).2.1
    rw [List.length_nil] at h1
    omega
  | false => rw [mapsL_no h] at hx; cases hx

end Go.Proofs.Ytofpjepndhpciaa
