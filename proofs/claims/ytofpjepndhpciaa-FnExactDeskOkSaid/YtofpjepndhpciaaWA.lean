/-
  Several texts in one.
  Paths, lines, rings and walks: the pure facts of chapter 7 (P34 to P37).
  Rings, levels and heights: the pure facts of chapter 7 (P36, P38 to P40).
  How levels spread, and how heights grow: pure facts on the model's loops (chapter 7).
-/
import Derived.Test.YtofpjepndhpciaaZU
namespace Go.Proofs.Ytofpjepndhpciaa
open Go.RowKit Go.Shelf Go.Deep

/-- THE PATH of so many nodes, THE LINE, THE RING. -/
def patL (n : Nat) : List (List Int) := rowsP n fun i j => j == i + 1
def linL (n : Nat) : List (List Int) := rowsP n fun i j => decide (i < j)
def rinL (n : Nat) : List (List Int) := rowsP n fun i j => j == (i + 1) % n
theorem pat_len (n : Nat) : (patL n).length = n := rowsP_length _ _
theorem lin_len (n : Nat) : (linL n).length = n := rowsP_length _ _
theorem rin_len (n : Nat) : (rinL n).length = n := rowsP_length _ _
theorem pat_good {n : Nat} (h1 : 1 ≤ n) (h9 : n ≤ 9) : Good (patL n) := rowsP_good _ h1 h9
theorem lin_good {n : Nat} (h1 : 1 ≤ n) (h9 : n ≤ 9) : Good (linL n) := rowsP_good _ h1 h9
theorem rin_good {n : Nat} (h1 : 1 ≤ n) (h9 : n ≤ 9) : Good (rinL n) := rowsP_good _ h1 h9
theorem pat_arw {n i j : Nat} (hi : i < n) (hj : j < n) : arw (patL n) i j = (j == i + 1) := arw_rowsP hi hj
theorem lin_arw {n i j : Nat} (hi : i < n) (hj : j < n) : arw (linL n) i j = decide (i < j) := arw_rowsP hi hj
theorem rin_arw {n i j : Nat} (hi : i < n) (hj : j < n) : arw (rinL n) i j = (j == (i + 1) % n) := arw_rowsP hi hj
theorem pat_arrows : ∀ k, k < 9 → arrowsI (patL (k + 1)) = (k : Int) := by decide +kernel
theorem lin_arrows : ∀ k, k < 9 → 2 * arrowsI (linL (k + 1)) = (((k + 1) * k : Nat) : Int) := by decide +kernel
theorem rin_arrows : ∀ k, k < 9 → arrowsI (rinL (k + 1)) = ((k + 1 : Nat) : Int) := by decide +kernel

/-- From node i one can go along k arrows. -/
def wkB (G : List (List Int)) : Nat → Nat → Bool
  | 0, _ => true
  | k + 1, i => (List.range G.length).any fun j => arw G i j && wkB G k j
/-- Somewhere one can go along k arrows. -/
def wkS (G : List (List Int)) (k : Nat) : Bool := (List.range G.length).any (wkB G k)
theorem wkB_iff {G : List (List Int)} {k i : Nat} : wkB G (k + 1) i = true ↔ ∃ j, j < G.length ∧ arw G i j = true ∧ wkB G k j = true := by
  simp [wkB]
theorem wkS_iff {G : List (List Int)} {k : Nat} : wkS G k = true ↔ ∃ i, i < G.length ∧ wkB G k i = true := by simp [wkS]
theorem wkB_less {G : List (List Int)} : ∀ {k i : Nat}, wkB G (k + 1) i = true → wkB G k i = true
  | 0, _, _ => rfl
  | k + 1, i, h => by
    obtain ⟨j, hj, ha, hw⟩ := wkB_iff.1 h
    exact wkB_iff.2 ⟨j, hj, ha, wkB_less hw⟩
theorem wkS_less {G : List (List Int)} {k : Nat} (h : wkS G (k + 1) = true) : wkS G k = true := by
  obtain ⟨i, hi, hw⟩ := wkS_iff.1 h
  exact wkS_iff.2 ⟨i, hi, wkB_less hw⟩
theorem wkS_mono {G : List (List Int)} {k : Nat} : ∀ {m : Nat}, wkS G (k + m) = true → wkS G k = true
  | 0, h => h
  | m + 1, h => wkS_mono (wkS_less (k := k + m) h)
theorem wkS_zero {G : List (List Int)} (h : 1 ≤ G.length) : wkS G 0 = true := wkS_iff.2 ⟨0, by omega, rfl⟩

/-- THE LONGEST WALK: how many nodes it has; none where there is one of more than 9. -/
def lngO (G : List (List Int)) : Option Nat := ((List.range 9).map (· + 1)).find? fun n => !wkS G n
def lngK (G : List (List Int)) : Bool := gOk G && (lngO G).isSome
def lngI (G : List (List Int)) : Int := if gOk G = true then (match lngO G with | some n => (n : Int) | none => -1) else -1
theorem lng_some {G : List (List Int)} {n : Nat} (h : lngO G = some n) : (1 ≤ n ∧ n ≤ 9) ∧ wkS G n = false := by
  have h1 := List.find?_some h
  have h2 := List.mem_of_find?_eq_some h
  simp at h1 h2
  exact ⟨by omega, h1⟩
theorem lng_least {G : List (List Int)} {n k : Nat} (h : lngO G = some n) (hk : 1 ≤ k) (hw : wkS G k = false) : n ≤ k := by
  have h3 := lng_some h
  by_cases hkn : n ≤ k
  · exact hkn
  · have hlt : k < n := by omega
    obtain ⟨_, ls1, ls2, e, hall⟩ := List.find?_eq_some_iff_append.1 h
    have hk9 : k ∈ ((List.range 9).map (· + 1)) := by simp; exact ⟨k - 1, by omega, by omega⟩
    rw [e] at hk9
    rcases List.mem_append.1 hk9 with hm | hm
    · have := hall k hm
      rw [hw] at this
      simp at this
    · exfalso
      have hp : ((List.range 9).map (· + 1)).Pairwise (· < ·) := by decide
      rw [e] at hp
      have hp2 := (List.pairwise_append.1 hp).2.1
      rcases List.mem_cons.1 hm with rfl | hm'
      · omega
      · have := (List.pairwise_cons.1 hp2).1 k hm'
        omega
theorem lng_none {G : List (List Int)} {k : Nat} (h : lngO G = none) (hk : 1 ≤ k) (hk9 : k ≤ 9) : wkS G k = true := by
  have := List.find?_eq_none.1 h k (by simp; exact ⟨k - 1, by omega, by omega⟩)
  simpa using this
/-- THE LONGEST WALK IS THE LEAST NUMBER OF WHICH THERE IS NO WALK MORE. -/
theorem lng_le {G : List (List Int)} {k : Nat} (hk : 1 ≤ k) (hk9 : k ≤ 9) : (∃ n, lngO G = some n ∧ n ≤ k) ↔ wkS G k = false := by
  constructor
  · rintro ⟨n, h, hn⟩
    have h2 := (lng_some h).2
    cases hw : wkS G k with
    | false => rfl
    | true =>
      have : wkS G n = true := wkS_mono (m := k - n) (by rw [show n + (k - n) = k by omega]; exact hw)
      rw [h2] at this; cases this
  · intro hw
    cases h : lngO G with
    | none => rw [lng_none h hk hk9] at hw; cases hw
    | some n => exact ⟨n, rfl, lng_least h hk hw⟩
theorem pat_lng : ∀ k, k < 9 → lngO (patL (k + 1)) = some (k + 1) := by decide +kernel

/-- A walk as a row. -/
theorem walk_row {G : List (List Int)} : ∀ {k i : Nat}, i < G.length → wkB G k i = true → ∃ f : List Int, Tells (k + 1) G.length f ∧ nd f 0 = i ∧ ∀ j, j < k → arw G (nd f j) (nd f (j + 1)) = true
  | 0, i, hi, _ => ⟨[(i : Int)], ⟨rfl, fun j y hy => by
      cases j with
      | zero => simp at hy; subst hy; exact ⟨Int.natCast_nonneg _, by omega⟩
      | succ j => simp at hy⟩, by simp [nd], fun j hj => absurd hj (Nat.not_lt_zero _)⟩
  | k + 1, i, hi, h => by
    obtain ⟨j, hj, ha, hw⟩ := wkB_iff.1 h
    obtain ⟨f, hT, h0, hs⟩ := walk_row hj hw
    refine ⟨(i : Int) :: f, ⟨by rw [List.length_cons, hT.1], fun l y hy => ?_⟩, by simp [nd], fun l hl => ?_⟩
    · cases l with
      | zero => simp at hy; subst hy; exact ⟨Int.natCast_nonneg _, by omega⟩
      | succ l => exact hT.2 l y (by simpa using hy)
    · cases l with
      | zero =>
        have e : nd ((i : Int) :: f) 1 = nd f 0 := by simp [nd]
        have e2 : nd ((i : Int) :: f) 0 = i := by simp [nd]
        rw [Nat.zero_add, e, e2, h0]
        exact ha
      | succ l =>
        have e : ∀ t, nd ((i : Int) :: f) (t + 1) = nd f t := fun t => by simp [nd]
        rw [e, e]
        exact hs l (by omega)
/-- A PATH IS BELOW A GRAPH EXACTLY IF THERE IS A WALK OF AS MANY NODES. -/
theorem path_map {G : List (List Int)} {k : Nat} : (∃ f, IsMap (patL (k + 1)) G f) ↔ wkS G k = true := by
  constructor
  · rintro ⟨f, hT, hm⟩
    rw [pat_len] at hT hm
    have step : ∀ m, m ≤ k → wkB G m (nd f (k - m)) = true := fun m => by
      induction m with
      | zero => intro _; rfl
      | succ m ih =>
        intro hmk
        obtain ⟨p, _, e, hp⟩ := tells_at hT (j := k - m) (by omega)
        refine wkB_iff.2 ⟨nd f (k - m), by rw [e]; exact hp, ?_, ih (by omega)⟩
        have := hm (k - (m + 1)) (k - m) (by omega) (by omega) (by rw [pat_arw (by omega) (by omega)]; simp; omega)
        exact this
    have h0 := step k (Nat.le_refl _)
    rw [Nat.sub_self] at h0
    obtain ⟨p, _, e, hp⟩ := tells_at hT (j := 0) (by omega)
    exact wkS_iff.2 ⟨nd f 0, by rw [e]; exact hp, h0⟩
  · intro h
    obtain ⟨i, hi, hw⟩ := wkS_iff.1 h
    obtain ⟨f, hT, _, hs⟩ := walk_row hi hw
    refine ⟨f, by rw [pat_len]; exact hT, fun a b ha hb hab => ?_⟩
    rw [pat_len] at ha hb
    rw [pat_arw ha hb] at hab
    have e : b = a + 1 := by simpa using hab
    subst e
    exact hs a (by omega)
/-- The most arrows along which one can go from a node, no more than k. -/
def mxW (G : List (List Int)) : Nat → Nat → Nat
  | 0, _ => 0
  | k + 1, i => if wkB G (k + 1) i = true then k + 1 else mxW G k i
theorem mxW_le (G : List (List Int)) (i : Nat) : ∀ k, mxW G k i ≤ k
  | 0 => Nat.le_refl _
  | k + 1 => by
    have := mxW_le G i k
    unfold mxW
    split <;> omega
theorem mxW_walk (G : List (List Int)) (i : Nat) : ∀ k, wkB G (mxW G k i) i = true
  | 0 => rfl
  | k + 1 => by
    unfold mxW
    split
    · assumption
    · exact mxW_walk G i k
theorem mxW_most {G : List (List Int)} {i m : Nat} : ∀ {k : Nat}, m ≤ k → wkB G m i = true → m ≤ mxW G k i
  | 0, h, _ => h
  | k + 1, h, hw => by
    unfold mxW
    split
    · exact h
    · rename_i hn
      by_cases e : m = k + 1
      · subst e; exact absurd hw hn
      · exact mxW_most (by omega) hw
/-- A GRAPH IS BELOW A LINE EXACTLY IF IT HAS NO WALK OF MORE NODES. -/
theorem line_map {G : List (List Int)} {k : Nat} (h1 : 1 ≤ k) : (∃ f, IsMap G (linL k) f) ↔ wkS G k = false := by
  constructor
  · rintro ⟨f, hT, hm⟩
    rw [lin_len] at hT
    have step : ∀ m i, i < G.length → wkB G m i = true → nd f i + m < k := fun m => by
      induction m with
      | zero =>
        intro i hi _
        obtain ⟨p, _, e, hp⟩ := tells_at hT hi
        omega
      | succ m ih =>
        intro i hi hw
        obtain ⟨j, hj, ha, hw2⟩ := wkB_iff.1 hw
        have h2 := ih j hj hw2
        have h3 := hm i j hi hj ha
        obtain ⟨p, _, e, hp⟩ := tells_at hT hi
        obtain ⟨q, _, e', hq⟩ := tells_at hT hj
        rw [lin_arw (by omega) (by omega)] at h3
        have := of_decide_eq_true h3
        omega
    rw [Bool.eq_false_iff]
    intro hw
    obtain ⟨i, hi, hwi⟩ := wkS_iff.1 hw
    have := step k i hi hwi
    omega
  · intro hw
    obtain ⟨K, rfl⟩ : ∃ K, k = K + 1 := ⟨k - 1, by omega⟩
    have hnd : ∀ i, i < G.length → nd ((List.range G.length).map fun i => ((K - mxW G K i : Nat) : Int)) i = K - mxW G K i := fun i hi => by simp [nd, hi]
    refine ⟨(List.range G.length).map fun i => ((K - mxW G K i : Nat) : Int), ⟨by simp, fun j y hy => ?_⟩, fun i j hi hj ha => ?_⟩
    · have hj : j < G.length := by have := (List.getElem?_eq_some_iff.1 hy).1; simpa using this
      simp [hj] at hy
      subst hy
      rw [lin_len]
      exact ⟨Int.natCast_nonneg _, by omega⟩
    · rw [hnd i hi, hnd j hj, lin_arw (by omega) (by omega)]
      have h2 := mxW_walk G j K
      have h3 := mxW_le G j K
      have h4 : wkB G (mxW G K j + 1) i = true := wkB_iff.2 ⟨j, hj, ha, h2⟩
      have hne : mxW G K j ≠ K := fun e => by
        rw [e] at h4
        have : wkS G (K + 1) = true := wkS_iff.2 ⟨i, hi, h4⟩
        rw [hw] at this; cases this
      have h5 := mxW_most (k := K) (by omega) h4
      have h6 := mxW_le G i K
      exact decide_eq_true (by omega)
/-- BELOW A LINE OR ABOVE A PATH. -/
theorem line_or_path {G : List (List Int)} {k : Nat} (hg : gOk G = true) (h4 : G.length ≤ 4) (hk : 1 ≤ k) (hk4 : k ≤ 4) : belowI G (linL k) = !wkS G k ∧ belowI (patL (k + 1)) G = wkS G k := by
  have hf : fewI G (linL k) = true := few_of4 hg (gOk_true (lin_good hk (by omega))) h4 (by rw [lin_len]; exact hk4)
  have hf2 : fewI (patL (k + 1)) G = true := fewI_iff.2 ⟨gOk_true (pat_good (by omega) (by omega)), hg, by
    rw [pat_len]
    exact Nat.le_trans (Nat.pow_le_pow_left h4 _) (Nat.le_trans (Nat.pow_le_pow_right (by decide) (show k + 1 ≤ 5 by omega)) (by decide))⟩
  constructor
  · rw [Bool.eq_iff_iff, below_iff hf, line_map hk]; simp
  · rw [Bool.eq_iff_iff, below_iff hf2, path_map]
theorem lin_walks : ∀ k, k < 9 → wkS (linL (k + 1)) k = true ∧ wkS (linL (k + 1)) (k + 1) = false := by decide +kernel
/-- LINES ARE ABOVE PATHS. -/
theorem lin_path {n : Nat} (h1 : 1 ≤ n) (h4 : n ≤ 4) : belowI (patL n) (linL n) = true ∧ belowI (patL (n + 1)) (linL n) = false := by
  obtain ⟨k, rfl⟩ : ∃ k, n = k + 1 := ⟨n - 1, by omega⟩
  have hg := gOk_true (lin_good (n := k + 1) (by omega) (by omega))
  have hp := gOk_true (pat_good (n := k + 1) (by omega) (by omega))
  obtain ⟨hw1, hw2⟩ := lin_walks k (by omega)
  constructor
  · exact (below_iff (few_of4 hp hg (by rw [pat_len]; exact h4) (by rw [lin_len]; exact h4))).2 (path_map.2 hw1)
  · have := (line_or_path (k := k + 1) hg (by rw [lin_len]; exact h4) (by omega) h4).2
    rw [this]
    exact hw2
/-- PATHS ARE RIGID. -/
theorem pat_only {n : Nat} {f : List Int} (hm : IsMap (patL n) (patL n) f) (h1 : 1 ≤ n) : f = ownL n := by
  obtain ⟨hT, hs⟩ := hm
  rw [pat_len] at hT hs
  have hlt : ∀ i, i < n → nd f i < n := fun i hi => by
    obtain ⟨p, _, e, hp⟩ := tells_at hT hi
    omega
  have step : ∀ i, i + 1 < n → nd f (i + 1) = nd f i + 1 := fun i hi => by
    have := hs i (i + 1) (by omega) hi (by rw [pat_arw (by omega) hi]; simp)
    rw [pat_arw (hlt i (by omega)) (hlt (i + 1) hi)] at this
    simpa using this
  have all : ∀ i, i < n → nd f i = nd f 0 + i := fun i => by
    induction i with
    | zero => intro _; rfl
    | succ i ih =>
      intro hi
      have := ih (by omega)
      have := step i hi
      omega
  have h0 : nd f 0 = 0 := by
    have := all (n - 1) (by omega)
    have := hlt (n - 1) (by omega)
    omega
  exact tells_ext hT (ownL_tells n) fun j hj => by
    rw [ownL_nd hj, all j hj, h0]; omega
theorem pat_rigid {n : Nat} (h1 : 1 ≤ n) (h5 : n ≤ 5) : rigI (patL n) = true := by
  have hg := gOk_true (pat_good h1 (by omega))
  have hf := few5 hg hg (by rw [pat_len]; exact h5) (by rw [pat_len]; exact h5)
  refine rig_iff.2 ⟨g5_iff.2 ⟨hg, by rw [pat_len]; exact h5⟩, ?_⟩
  rw [countI_yes hf]
  have h2 : (mapsL (patL n) (patL n)).length = [ownL n].length := nodup_same (mapsL_nodup _ _) (by simp) fun x => by
    rw [mapsL_mem hf, List.mem_singleton]
    constructor
    · exact fun hx => pat_only hx h1
    · rintro rfl
      have := own_map (patL n)
      rw [pat_len] at this
      exact this
  rw [h2]; rfl

end Go.Proofs.Ytofpjepndhpciaa

namespace Go.Proofs.Ytofpjepndhpciaa
open Go.RowKit Go.Shelf Go.Deep

theorem mod_small {a m : Nat} (h : a < 2 * m) : a % m = if a < m then a else a - m := by
  by_cases hlt : a < m
  · rw [if_pos hlt, Nat.mod_eq_of_lt hlt]
  · rw [if_neg hlt, Nat.mod_eq_sub_mod (by omega), Nat.mod_eq_of_lt (by omega)]
theorem rin_next {k i : Nat} (hi : i < k) : (i + 1) % k < k := Nat.mod_lt _ (by omega)
/-- A map to a ring goes on by one along each arrow. -/
theorem to_ring {G : List (List Int)} {f : List Int} {m : Nat} : IsMap G (rinL m) f ↔ Tells G.length m f ∧ ∀ i j, i < G.length → j < G.length → arw G i j = true → nd f j = (nd f i + 1) % m := by
  unfold IsMap
  rw [rin_len]
  constructor
  · rintro ⟨hT, hm⟩
    refine ⟨hT, fun i j hi hj ha => ?_⟩
    obtain ⟨p, _, e, hp⟩ := tells_at hT hi
    obtain ⟨q, _, e', hq⟩ := tells_at hT hj
    have := hm i j hi hj ha
    rw [rin_arw (by omega) (by omega)] at this
    simpa using this
  · rintro ⟨hT, hm⟩
    refine ⟨hT, fun i j hi hj ha => ?_⟩
    obtain ⟨p, _, e, hp⟩ := tells_at hT hi
    obtain ⟨q, _, e', hq⟩ := tells_at hT hj
    rw [rin_arw (by omega) (by omega)]
    simpa using hm i j hi hj ha
/-- A RING IS BELOW ANOTHER ONE EXACTLY IF THAT ONE's NUMBER DIVIDES ITS OWN. -/
theorem ring_ring {n k : Nat} (hn : 1 ≤ n) (hk : 1 ≤ k) : (∃ f, IsMap (rinL n) (rinL k) f) ↔ n % k = 0 := by
  constructor
  · rintro ⟨f, hf⟩
    obtain ⟨hT, hm⟩ := to_ring.1 hf
    rw [rin_len] at hT hm
    have all : ∀ i, i < n → nd f i = (nd f 0 + i) % k := fun i => by
      induction i with
      | zero =>
        intro _
        obtain ⟨p, _, e, hp⟩ := tells_at hT (j := 0) (by omega)
        rw [Nat.add_zero, Nat.mod_eq_of_lt (by omega)]
      | succ i ih =>
        intro hi
        rw [hm i (i + 1) (by omega) hi (by rw [rin_arw (by omega) hi, Nat.mod_eq_of_lt hi]; simp), ih (by omega), Nat.mod_add_mod]
        rfl
    obtain ⟨p, _, e, hp⟩ := tells_at hT (j := 0) (by omega)
    have h0 := hm (n - 1) 0 (by omega) (by omega) (by rw [rin_arw (by omega) (by omega), show n - 1 + 1 = n by omega, Nat.mod_self]; rfl)
    rw [all (n - 1) (by omega), Nat.mod_add_mod, show nd f 0 + (n - 1) + 1 = nd f 0 + n by omega] at h0
    have h1 := Nat.div_add_mod (nd f 0 + n) k
    rw [← h0] at h1
    have h2 : n = k * ((nd f 0 + n) / k) := by omega
    rw [h2]
    exact Nat.mul_mod_right _ _
  · intro h
    have hnd : ∀ i, i < n → nd ((List.range n).map fun i => ((i % k : Nat) : Int)) i = i % k := fun i hi => by
      unfold nd
      rw [List.getElem?_map, List.getElem?_range hi]
      rfl
    refine ⟨(List.range n).map fun i => ((i % k : Nat) : Int), to_ring.2 ⟨⟨by rw [rin_len]; simp, fun j y hy => ?_⟩, fun i j hi hj ha => ?_⟩⟩
    · have hj : j < n := by have := (List.getElem?_eq_some_iff.1 hy).1; simpa using this
      rw [List.getElem?_map, List.getElem?_range hj] at hy
      have e : ((j % k : Nat) : Int) = y := Option.some.inj hy
      have := Nat.mod_lt j (show k > 0 by omega)
      rw [← e]
      exact ⟨Int.natCast_nonneg _, by omega⟩
    · rw [rin_len] at hi hj
      rw [rin_arw hi hj] at ha
      have ej : j = (i + 1) % n := by simpa using ha
      rw [hnd i hi, hnd j hj, Nat.mod_add_mod, ej]
      by_cases hlt : i + 1 < n
      · rw [Nat.mod_eq_of_lt hlt]
      · have : i + 1 = n := by omega
        rw [this, Nat.mod_self, h, Nat.zero_mod]
theorem rings_divide {n k : Nat} (hn : 1 ≤ n) (hn5 : n ≤ 5) (hk : 1 ≤ k) (hk5 : k ≤ 5) : belowI (rinL n) (rinL k) = decide (n % k = 0) := by
  have hf := few5 (gOk_true (rin_good hn (by omega))) (gOk_true (rin_good hk (by omega))) (by rw [rin_len]; exact hn5) (by rw [rin_len]; exact hk5)
  rw [Bool.eq_iff_iff, below_iff hf, ring_ring hn hk, decide_eq_true_eq]

/-- Joined by arrows, whichever way they lead. -/
inductive Conn (G : List (List Int)) : Nat → Nat → Prop
  | refl (i : Nat) : Conn G i i
  | fwd {i j k : Nat} : Conn G i j → j < G.length → k < G.length → arw G j k = true → Conn G i k
  | bwd {i j k : Nat} : Conn G i j → j < G.length → k < G.length → arw G k j = true → Conn G i k
theorem Conn.trans {G : List (List Int)} {i j k : Nat} (h : Conn G i j) (h' : Conn G j k) : Conn G i k := by
  induction h' with
  | refl => exact h
  | fwd _ a b c ih => exact .fwd ih a b c
  | bwd _ a b c ih => exact .bwd ih a b c
theorem Conn.symm {G : List (List Int)} {i j : Nat} (h : Conn G i j) : Conn G j i := by
  induction h with
  | refl => exact .refl _
  | fwd _ a b c ih => exact Conn.trans (.bwd (.refl _) b a c) ih
  | bwd _ a b c ih => exact Conn.trans (.fwd (.refl _) b a c) ih
theorem Conn.lt {G : List (List Int)} {i j : Nat} (h : Conn G i j) (hi : i < G.length) : j < G.length := by
  induction h with
  | refl => exact hi
  | fwd _ _ b _ _ => exact b
  | bwd _ _ b _ _ => exact b
/-- The least of its part. -/
def Least (G : List (List Int)) (i : Nat) : Prop := ∀ l, Conn G i l → i ≤ l
theorem least_of (G : List (List Int)) : ∀ i, ∃ j, Conn G i j ∧ Least G j ∧ j ≤ i := fun i => by
  induction i using Nat.strongRecOn with
  | _ i ih =>
    by_cases h : Least G i
    · exact ⟨i, .refl i, h, Nat.le_refl _⟩
    · have : ∃ l, Conn G i l ∧ l < i := Classical.byContradiction fun hn => h fun l hl => by
        rcases Nat.lt_or_ge l i with hlt | hge
        · exact absurd ⟨l, hl, hlt⟩ hn
        · exact hge
      obtain ⟨l, hl, hlt⟩ := this
      obtain ⟨j, h1, h2, h3⟩ := ih l hlt
      exact ⟨j, hl.trans h1, h2, by omega⟩
/-- LEVELS: in their range, one more along each arrow, modulo m; the least of each part has 0. -/
def IsLvl (G : List (List Int)) (m : Nat) (f : List Int) : Prop := IsMap G (rinL m) f ∧ ∀ i, i < G.length → Least G i → nd f i = 0
theorem lvl_along {G : List (List Int)} {m : Nat} {f g : List Int} (hf : IsMap G (rinL m) f) (hg : IsMap G (rinL m) g) {i j : Nat} (h : Conn G i j) (e : nd f i = nd g i) : nd f j = nd g j := by
  obtain ⟨hT, hm⟩ := to_ring.1 hf
  obtain ⟨hT', hm'⟩ := to_ring.1 hg
  induction h with
  | refl => exact e
  | fwd _ a b c ih => rw [hm _ _ a b c, hm' _ _ a b c, ih]
  | @bwd j k _ a b c ih =>
    have h1 := hm _ _ b a c
    have h2 := hm' _ _ b a c
    obtain ⟨p, _, ep, hp⟩ := tells_at hT b
    obtain ⟨q, _, eq, hq⟩ := tells_at hT' b
    rw [mod_small (by omega)] at h1 h2
    split at h1 <;> split at h2 <;> omega
/-- There are no two. -/
theorem lvl_one {G : List (List Int)} {m : Nat} {f g : List Int} (hf : IsLvl G m f) (hg : IsLvl G m g) : f = g := by
  obtain ⟨hT, _⟩ := to_ring.1 hf.1
  obtain ⟨hT', _⟩ := to_ring.1 hg.1
  refine tells_ext hT hT' fun i hi => ?_
  obtain ⟨j, hc, hl, _⟩ := least_of G i
  have hj := hc.lt hi
  exact lvl_along hf.1 hg.1 hc.symm (by rw [hf.2 j hj hl, hg.2 j hj hl])
/-- THERE ARE LEVELS EXACTLY IF THE GRAPH IS BELOW THE RING. -/
theorem lvl_iff {G : List (List Int)} {m : Nat} : (∃ f, IsLvl G m f) ↔ ∃ f, IsMap G (rinL m) f := by
  constructor
  · rintro ⟨f, hf⟩; exact ⟨f, hf.1⟩
  · rintro ⟨f, hf⟩
    obtain ⟨hT, hm⟩ := to_ring.1 hf
    obtain ⟨L, hL⟩ : ∃ L : Nat → Nat, ∀ i, Conn G i (L i) ∧ Least G (L i) := ⟨fun i => (least_of G i).choose, fun i => ⟨(least_of G i).choose_spec.1, (least_of G i).choose_spec.2.1⟩⟩
    have hLe : ∀ i j, Conn G i j → L i = L j := fun i j h => by
      have h1 := (hL i).2 (L j) ((hL i).1.symm.trans (h.trans (hL j).1))
      have h2 := (hL j).2 (L i) ((hL j).1.symm.trans (h.symm.trans (hL i).1))
      omega
    have hlt : ∀ i, i < G.length → nd f i < m := fun i hi => by
      obtain ⟨p, _, e, hp⟩ := tells_at hT hi
      omega
    have hnd : ∀ i, i < G.length → nd ((List.range G.length).map fun i => (((nd f i + m - nd f (L i)) % m : Nat) : Int)) i = (nd f i + m - nd f (L i)) % m := fun i hi => by
      unfold nd
      rw [List.getElem?_map, List.getElem?_range hi]
      rfl
    refine ⟨(List.range G.length).map fun i => (((nd f i + m - nd f (L i)) % m : Nat) : Int), to_ring.2 ⟨⟨by simp, fun j y hy => ?_⟩, fun i j hi hj ha => ?_⟩, fun i hi hl => ?_⟩
    · have hj : j < G.length := by have := (List.getElem?_eq_some_iff.1 hy).1; simpa using this
      rw [List.getElem?_map, List.getElem?_range hj] at hy
      have e : (((nd f j + m - nd f (L j)) % m : Nat) : Int) = y := Option.some.inj hy
      have := hlt j hj
      have := Nat.mod_lt (nd f j + m - nd f (L j)) (show m > 0 by omega)
      rw [← e]
      exact ⟨Int.natCast_nonneg _, by omega⟩
    · rw [hnd i hi, hnd j hj, ← hLe i j (.fwd (.refl i) hi hj ha), hm i j hi hj ha]
      have h1 := hlt i hi
      have h2 := hlt (L i) ((hL i).1.lt hi)
      have h3 := rin_next h1
      rw [mod_small (a := nd f i + 1) (by omega), mod_small (a := nd f i + m - nd f (L i)) (by omega)]
      split <;> split <;> (rw [mod_small (by omega), mod_small (by omega)]; split <;> split <;> omega)
    · rw [hnd i hi]
      have e : L i = i := by
        have h1 := hl (L i) (hL i).1
        have h2 := (hL i).2 i (hL i).1.symm
        omega
      rw [e, Nat.add_sub_cancel_left, Nat.mod_self]

/-- THE LEVELS, where there are any. -/
noncomputable def levO (G : List (List Int)) (m : Nat) : Option (List Int) := open Classical in if h : ∃ f, IsLvl G m f then some h.choose else none
theorem lev_some {G : List (List Int)} {m : Nat} {f : List Int} : levO G m = some f ↔ IsLvl G m f := by
  unfold levO
  constructor
  · intro h
    split at h
    · rename_i hx
      rw [← Option.some.inj h]
      exact hx.choose_spec
    · cases h
  · intro h
    have hx : ∃ f, IsLvl G m f := ⟨f, h⟩
    rw [dif_pos hx]
    exact congrArg some (lvl_one hx.choose_spec h)
theorem lev_none {G : List (List Int)} {m : Nat} : levO G m = none ↔ ¬ ∃ f, IsMap G (rinL m) f := by
  rw [← lvl_iff]
  unfold levO
  constructor
  · intro h hx
    rw [dif_pos hx] at h; cases h
  · intro h
    rw [dif_neg h]
def modK (z : Int) : Bool := decide (1 ≤ z) && decide (z ≤ 9)
noncomputable def levK (G : List (List Int)) (z : Int) : Bool := gOk G && modK z && (levO G z.toNat).isSome
noncomputable def levI (G : List (List Int)) (z : Int) : List Int := if levK G z = true then (levO G z.toNat).getD [] else []
theorem levK_iff {G : List (List Int)} {z : Int} : levK G z = true ↔ gOk G = true ∧ (1 ≤ z ∧ z ≤ 9) ∧ ∃ f, IsMap G (rinL z.toNat) f := by
  unfold levK modK
  simp only [Bool.and_eq_true, decide_eq_true_eq, Option.isSome_iff_exists, and_assoc]
  constructor
  · rintro ⟨h1, h2, h3, f, hf⟩
    exact ⟨h1, h2, h3, f, (lev_some.1 hf).1⟩
  · rintro ⟨h1, h2, h3, hf⟩
    obtain ⟨g, hg⟩ := lvl_iff.2 hf
    exact ⟨h1, h2, h3, g, lev_some.2 hg⟩
theorem levI_yes {G : List (List Int)} {z : Int} {f : List Int} (hg : gOk G = true) (h1 : 1 ≤ z) (h9 : z ≤ 9) (h : IsLvl G z.toNat f) : levI G z = f ∧ levK G z = true := by
  have hk : levK G z = true := levK_iff.2 ⟨hg, ⟨h1, h9⟩, f, h.1⟩
  unfold levI
  rw [if_pos hk, lev_some.2 h]
  exact ⟨rfl, hk⟩
theorem levI_no {G : List (List Int)} {z : Int} (h : levK G z = false) : levI G z = [] := if_neg (by rw [h]; decide)
theorem levI_lvl {G : List (List Int)} {z : Int} (h : levK G z = true) : IsLvl G z.toNat (levI G z) := by
  obtain ⟨hg, ⟨h1, h9⟩, hf⟩ := levK_iff.1 h
  obtain ⟨g, hg'⟩ := lvl_iff.2 hf
  rw [(levI_yes hg h1 h9 hg').1]
  exact hg'
/-- LEVELS ARE MAPS TO RINGS. -/
theorem lev_map {G : List (List Int)} {z : Int} (h : levK G z = true) : mapOkI G (rinL z.toNat) (levI G z) = true := by
  obtain ⟨hg, ⟨h1, h9⟩, _⟩ := levK_iff.1 h
  exact mapOk_iff.2 ⟨⟨hg, gOk_true (rin_good (by omega) (by omega))⟩, (levI_lvl h).1⟩
theorem lev_below {G : List (List Int)} {z : Int} (h1 : 1 ≤ z) (h9 : z ≤ 9) (hf : fewI G (rinL z.toNat) = true) : belowI G (rinL z.toNat) = levK G z := by
  rw [Bool.eq_iff_iff, below_iff hf, levK_iff]
  exact ⟨fun h => ⟨(fewI_iff.1 hf).1, ⟨h1, h9⟩, h⟩, fun h => h.2.2⟩

/-- ALL RINGS ABOVE. -/
noncomputable def rngL (G : List (List Int)) : List Int := ((List.range 9).map fun k => ((k + 1 : Nat) : Int)).filter (levK G)
theorem rng_mem {G : List (List Int)} {z : Int} : z ∈ rngL G ↔ levK G z = true := by
  unfold rngL
  rw [List.mem_filter]
  constructor
  · exact fun h => h.2
  · intro h
    obtain ⟨_, ⟨h1, h9⟩, _⟩ := levK_iff.1 h
    exact ⟨by rw [List.mem_map]; exact ⟨z.toNat - 1, by simp; omega, by omega⟩, h⟩
theorem rng_inc (G : List (List Int)) : (rngL G).Pairwise (· < ·) := by
  unfold rngL
  exact List.Pairwise.sublist List.filter_sublist (by decide)
theorem rng_no {G : List (List Int)} (h : gOk G = false) : rngL G = [] := by
  refine List.eq_nil_iff_forall_not_mem.2 fun z hz => ?_
  have := (levK_iff.1 (rng_mem.1 hz)).1
  rw [h] at this; cases this
/-- One is above all. -/
theorem rng_one {G : List (List Int)} (h : gOk G = true) : levK G 1 = true := by
  refine levK_iff.2 ⟨h, by omega, (List.range G.length).map fun _ => (0 : Int), to_ring.2 ⟨⟨by simp, fun j y hy => ?_⟩, fun i j hi hj _ => ?_⟩⟩
  · have hj : j < G.length := by have := (List.getElem?_eq_some_iff.1 hy).1; simpa using this
    rw [List.getElem?_map, List.getElem?_range hj] at hy
    have e : (0 : Int) = y := Option.some.inj hy
    rw [← e]
    exact ⟨Int.le_refl _, by decide⟩
  · have hz : ∀ i, i < G.length → nd ((List.range G.length).map fun _ => (0 : Int)) i = 0 := fun i hi => by
      unfold nd
      rw [List.getElem?_map, List.getElem?_range hi]; rfl
    rw [hz i hi, hz j hj]; rfl
/-- With a number each of its divisors. -/
theorem rng_div {G : List (List Int)} {z d : Int} (h : levK G z = true) (hd : 1 ≤ d) (hdz : z.toNat % d.toNat = 0) (hle : d ≤ z) : levK G d = true := by
  obtain ⟨hg, ⟨h1, h9⟩, f, hf⟩ := levK_iff.1 h
  obtain ⟨e, he⟩ := (ring_ring (n := z.toNat) (k := d.toNat) (by omega) (by omega)).2 hdz
  exact levK_iff.2 ⟨hg, ⟨hd, by omega⟩, _, beh_map hf he⟩

/-- One can come to node i along k arrows. -/
def wkE (G : List (List Int)) : Nat → Nat → Bool
  | 0, _ => true
  | k + 1, i => (List.range G.length).any fun j => arw G j i && wkE G k j
theorem wkE_iff {G : List (List Int)} {k i : Nat} : wkE G (k + 1) i = true ↔ ∃ j, j < G.length ∧ arw G j i = true ∧ wkE G k j = true := by
  simp [wkE]
theorem wk_shift {G : List (List Int)} : ∀ {a b : Nat}, (∃ i, i < G.length ∧ wkE G a i = true ∧ wkB G (b + 1) i = true) → ∃ i, i < G.length ∧ wkE G (a + 1) i = true ∧ wkB G b i = true := by
  rintro a b ⟨i, hi, h1, h2⟩
  obtain ⟨j, hj, ha, hw⟩ := wkB_iff.1 h2
  exact ⟨j, hj, wkE_iff.2 ⟨i, hi, ha, h1⟩, hw⟩
theorem wk_unshift {G : List (List Int)} {a b : Nat} : (∃ i, i < G.length ∧ wkE G (a + 1) i = true ∧ wkB G b i = true) → ∃ i, i < G.length ∧ wkE G a i = true ∧ wkB G (b + 1) i = true := by
  rintro ⟨i, hi, h1, h2⟩
  obtain ⟨j, hj, ha, hw⟩ := wkE_iff.1 h1
  exact ⟨j, hj, hw, wkB_iff.2 ⟨i, hi, ha, h2⟩⟩
theorem wk_all {G : List (List Int)} : ∀ (b a : Nat), (∃ i, i < G.length ∧ wkE G a i = true ∧ wkB G b i = true) → ∃ i, i < G.length ∧ wkE G (a + b) i = true
  | 0, a, ⟨i, hi, h, _⟩ => ⟨i, hi, h⟩
  | b + 1, a, h => by
    have := wk_all b (a + 1) (wk_shift h)
    rw [show a + (b + 1) = a + 1 + b by omega]
    exact this
theorem wk_back {G : List (List Int)} : ∀ (a b : Nat), (∃ i, i < G.length ∧ wkE G a i = true ∧ wkB G b i = true) → ∃ i, i < G.length ∧ wkB G (a + b) i = true
  | 0, b, ⟨i, hi, _, h⟩ => ⟨i, hi, by rw [Nat.zero_add]; exact h⟩
  | a + 1, b, h => by
    have := wk_back a (b + 1) (wk_unshift h)
    rw [show a + 1 + b = a + (b + 1) by omega]
    exact this
/-- There is a walk exactly if one can come so far somewhere. -/
theorem wkS_end {G : List (List Int)} {k : Nat} : wkS G k = true ↔ ∃ i, i < G.length ∧ wkE G k i = true := by
  rw [wkS_iff]
  constructor
  · rintro ⟨i, hi, h⟩
    have := wk_all k 0 ⟨i, hi, rfl, h⟩
    rwa [Nat.zero_add] at this
  · rintro ⟨i, hi, h⟩
    have := wk_back k 0 ⟨i, hi, h, rfl⟩
    rwa [Nat.add_zero] at this
/-- The most arrows along which one can come to a node, no more than k. -/
def mxE (G : List (List Int)) : Nat → Nat → Nat
  | 0, _ => 0
  | k + 1, i => if wkE G (k + 1) i = true then k + 1 else mxE G k i
theorem mxE_le (G : List (List Int)) (i : Nat) : ∀ k, mxE G k i ≤ k
  | 0 => Nat.le_refl _
  | k + 1 => by
    have := mxE_le G i k
    unfold mxE
    split <;> omega
theorem mxE_walk (G : List (List Int)) (i : Nat) : ∀ k, wkE G (mxE G k i) i = true
  | 0 => rfl
  | k + 1 => by
    unfold mxE
    split
    · assumption
    · exact mxE_walk G i k
theorem mxE_most {G : List (List Int)} {i m : Nat} : ∀ {k : Nat}, m ≤ k → wkE G m i = true → m ≤ mxE G k i
  | 0, h, _ => h
  | k + 1, h, hw => by
    unfold mxE
    split
    · exact h
    · rename_i hn
      by_cases e : m = k + 1
      · subst e; exact absurd hw hn
      · exact mxE_most (by omega) hw
/-- HEIGHTS. -/
def hgtL (G : List (List Int)) : List Int := if lngK G = true then (List.range G.length).map fun i => ((mxE G 8 i : Nat) : Int) else []
theorem hgt_yes {G : List (List Int)} (h : lngK G = true) : hgtL G = (List.range G.length).map fun i => ((mxE G 8 i : Nat) : Int) := if_pos h
theorem hgt_no {G : List (List Int)} (h : lngK G = false) : hgtL G = [] := if_neg (by rw [h]; decide)
theorem hgt_nd {G : List (List Int)} (h : lngK G = true) {i : Nat} (hi : i < G.length) : nd (hgtL G) i = mxE G 8 i := by
  rw [hgt_yes h]
  unfold nd
  rw [List.getElem?_map, List.getElem?_range hi]
  rfl
theorem hgt_lt {G : List (List Int)} {n i : Nat} (h : lngO G = some n) (hi : i < G.length) : mxE G 8 i < n := by
  have h1 := lng_some h
  have h2 := mxE_walk G i 8
  rcases Nat.lt_or_ge (mxE G 8 i) n with hlt | hge
  · exact hlt
  · have : wkS G (n + (mxE G 8 i - n)) = true := by rw [show n + (mxE G 8 i - n) = mxE G 8 i by omega]; exact wkS_end.2 ⟨i, hi, h2⟩
    have := wkS_mono this
    rw [h1.2] at this; cases this
theorem hgt_step {G : List (List Int)} {n i j : Nat} (h : lngO G = some n) (hi : i < G.length) (hj : j < G.length) (ha : arw G i j = true) : mxE G 8 i < mxE G 8 j := by
  have h1 := lng_some h
  have h2 := hgt_lt h hi
  have h3 := hgt_lt h hj
  have h4 : wkE G (mxE G 8 i + 1) j = true := wkE_iff.2 ⟨i, hi, ha, mxE_walk G i 8⟩
  rcases Nat.lt_or_ge (mxE G 8 i + 1) 9 with hlt | hge
  · have := mxE_most (k := 8) (by omega) h4
    omega
  · have : wkS G (n + (mxE G 8 i + 1 - n)) = true := by rw [show n + (mxE G 8 i + 1 - n) = mxE G 8 i + 1 by omega]; exact wkS_end.2 ⟨j, hj, h4⟩
    have := wkS_mono this
    rw [h1.2] at this; cases this
theorem lngK_some {G : List (List Int)} (h : lngK G = true) : gOk G = true ∧ ∃ n, lngO G = some n := by
  unfold lngK at h
  rw [Bool.and_eq_true, Option.isSome_iff_exists] at h
  exact h
/-- HEIGHTS ARE A MAP TO A LINE; the greatest is one less. -/
theorem hgt_map {G : List (List Int)} {n : Nat} (hg : gOk G = true) (h : lngO G = some n) : mapOkI G (linL n) (hgtL G) = true ∧ ∃ i, i < G.length ∧ mxE G 8 i = n - 1 := by
  have hk : lngK G = true := by unfold lngK; rw [hg, h]; rfl
  have h1 := lng_some h
  constructor
  · refine mapOk_iff.2 ⟨⟨hg, gOk_true (lin_good h1.1.1 h1.1.2)⟩, ⟨by rw [hgt_yes hk]; simp, fun j y hy => ?_⟩, fun i j hi hj ha => ?_⟩
    · rw [hgt_yes hk] at hy
      have hj : j < G.length := by have := (List.getElem?_eq_some_iff.1 hy).1; simpa using this
      rw [List.getElem?_map, List.getElem?_range hj] at hy
      have e : ((mxE G 8 j : Nat) : Int) = y := Option.some.inj hy
      have := hgt_lt h hj
      rw [← e, lin_len]
      exact ⟨Int.natCast_nonneg _, by omega⟩
    · rw [hgt_nd hk hi, hgt_nd hk hj, lin_arw (hgt_lt h hi) (hgt_lt h hj)]
      exact decide_eq_true (hgt_step h hi hj ha)
  · have hw : wkS G (n - 1) = true := by
      by_cases e : n = 1
      · subst e
        exact wkS_zero (good_of hg).1
      · cases hc : wkS G (n - 1) with
        | true => rfl
        | false => have := lng_least h (k := n - 1) (by omega) hc; omega
    obtain ⟨i, hi, hwi⟩ := wkS_end.1 hw
    refine ⟨i, hi, ?_⟩
    have := mxE_most (k := 8) (by omega) hwi
    have := hgt_lt h hi
    omega

end Go.Proofs.Ytofpjepndhpciaa

namespace Go.Proofs.Ytofpjepndhpciaa
open Go.RowKit Go.Shelf Go.Deep

/-- A node has its level. -/
def asB (xs : List Int) (i : Nat) : Bool := decide (0 ≤ xs[i]?.getD (-1))
theorem asB_some {xs : List Int} {i : Nat} {y : Int} (h : xs[i]? = some y) : asB xs i = decide (0 ≤ y) := by unfold asB; rw [h]; rfl
theorem asB_set_self {xs : List Int} {i : Nat} {y : Int} (hi : i < xs.length) (h0 : 0 ≤ y) : asB (xs.set i y) i = true := by
  rw [asB_some (y := y) (by rw [List.getElem?_set_self hi])]
  exact decide_eq_true h0
theorem asB_set_other {xs : List Int} {i j : Nat} {y : Int} (h : j ≠ i) : asB (xs.set i y) j = asB xs j := by
  unfold asB; rw [List.getElem?_set_ne (Ne.symm h)]
theorem asB_lt {xs : List Int} {i : Nat} (h : asB xs i = true) : i < xs.length := by
  unfold asB at h
  rcases Nat.lt_or_ge i xs.length with hlt | hge
  · exact hlt
  · rw [List.getElem?_eq_none hge] at h; simp at h
/-- How many have theirs. -/
def asgN (xs : List Int) : Nat := (xs.filter fun y => decide (0 ≤ y)).length
theorem asgN_le (xs : List Int) : asgN xs ≤ xs.length := List.length_filter_le _ _
theorem asgN_set : ∀ {xs : List Int} {i : Nat} {y z : Int}, xs[i]? = some z → z < 0 → 0 ≤ y → asgN (xs.set i y) = asgN xs + 1
  | [], _, _, _, h, _, _ => by simp at h
  | x :: xs, 0, y, z, h, hz, hy => by
    simp at h
    subst h
    have h1 : decide (0 ≤ x) = false := decide_eq_false (by omega)
    have h2 : decide (0 ≤ y) = true := decide_eq_true hy
    unfold asgN
    simp [h1, h2]
  | x :: xs, i + 1, y, z, h, hz, hy => by
    have ih := asgN_set (xs := xs) (i := i) (by simpa using h) hz hy
    unfold asgN at ih ⊢
    rw [List.set_cons_succ]
    by_cases hx : 0 ≤ x
    · simp [hx, ih]
    · simp [hx, ih]
/-- As far as start s. -/
structure LvlSt (G : List (List Int)) (m s : Nat) (xs : List Int) : Prop where
  len : xs.length = G.length
  rng : ∀ (i : Nat) (y : Int), xs[i]? = some y → y = -1 ∨ (0 ≤ y ∧ y < (m : Int))
  val : ∀ f, IsLvl G m f → ∀ (i p : Nat), xs[i]? = some (p : Int) → nd f i = p
  upto : ∀ i, i < s → i < G.length → asB xs i = true
  zero : ∀ i, Least G i → asB xs i = true → xs[i]? = some 0
  conn : ∀ i, asB xs i = true → ∃ a, a < s ∧ Conn G a i
/-- No arrow leads out of those that have theirs, nor into them. -/
def ClosedP (xs : List Int) (a b : Nat) : Prop := asB xs a = asB xs b
def ClosedA (G : List (List Int)) (xs : List Int) : Prop := ∀ a b, a < G.length → b < G.length → arw G a b = true → ClosedP xs a b
theorem closed_conn {G : List (List Int)} {xs : List Int} (h : ClosedA G xs) {i j : Nat} (hc : Conn G i j) : asB xs i = asB xs j := by
  induction hc with
  | refl => rfl
  | fwd _ a b c ih => exact ih.trans (h _ _ a b c)
  | bwd _ a b c ih => exact ih.trans (h _ _ b a c).symm
theorem lvl_begin (G : List (List Int)) (m : Nat) : LvlSt G m 0 (List.replicate G.length (-1)) where
  len := by simp
  rng i y h := by
    have := List.mem_of_getElem? h
    exact .inl (List.eq_of_mem_replicate this)
  val f _ i p h := by
    have := List.eq_of_mem_replicate (List.mem_of_getElem? h)
    omega
  upto i h := absurd h (Nat.not_lt_zero _)
  zero i _ h := by
    exfalso
    unfold asB at h
    by_cases hi : i < G.length
    · rw [List.getElem?_replicate, if_pos hi] at h; simp at h
    · rw [List.getElem?_replicate, if_neg hi] at h; simp at h
  conn i h := by
    exfalso
    unfold asB at h
    by_cases hi : i < G.length
    · rw [List.getElem?_replicate, if_pos hi] at h; simp at h
    · rw [List.getElem?_replicate, if_neg hi] at h; simp at h
theorem closed_begin (G : List (List Int)) : ClosedA G (List.replicate G.length (-1)) := fun a b ha hb _ => by
  unfold ClosedP asB
  rw [List.getElem?_replicate, if_pos ha, List.getElem?_replicate, if_pos hb]
/-- One more node has its level, beside one that has it. -/
theorem lvl_put {G : List (List Int)} {m s : Nat} {xs : List Int} (h : LvlSt G m s xs) {k j p : Nat} {q : Nat} (hk : xs[k]? = some (p : Int)) (hj : xs[j]? = some (-1)) (hc : Conn G k j) (hq : q < m)
    (hv : ∀ f, IsLvl G m f → nd f k = p → nd f j = q) : LvlSt G m s (xs.set j (q : Int)) where
  len := by rw [List.length_set]; exact h.len
  rng i y hy := by
    by_cases e : i = j
    · subst e
      rw [List.getElem?_set_self (List.getElem?_eq_some_iff.1 hj).1] at hy
      cases hy
      exact .inr ⟨Int.natCast_nonneg _, by omega⟩
    · rw [List.getElem?_set_ne (Ne.symm e)] at hy
      exact h.rng i y hy
  val f hf i r hr := by
    by_cases e : i = j
    · subst e
      rw [List.getElem?_set_self (List.getElem?_eq_some_iff.1 hj).1] at hr
      have := hv f hf (h.val f hf k p hk)
      have e2 := Option.some.inj hr
      omega
    · rw [List.getElem?_set_ne (Ne.symm e)] at hr
      exact h.val f hf i r hr
  upto i hi hl := by
    by_cases e : i = j
    · subst e
      exact asB_set_self (List.getElem?_eq_some_iff.1 hj).1 (Int.natCast_nonneg _)
    · rw [asB_set_other e]; exact h.upto i hi hl
  zero i hl ha := by
    by_cases e : i = j
    · subst e
      exfalso
      obtain ⟨a, has, hca⟩ := h.conn k (by rw [asB_some hk]; exact decide_eq_true (Int.natCast_nonneg _))
      have h1 := hl a (hca.trans hc).symm
      have hlt := (List.getElem?_eq_some_iff.1 hj).1
      have h2 := h.upto i (by omega) (by rw [← h.len]; exact hlt)
      rw [asB_some hj] at h2
      simp at h2
    · rw [asB_set_other e] at ha
      rw [List.getElem?_set_ne (Ne.symm e)]
      exact h.zero i hl ha
  conn i ha := by
    by_cases e : i = j
    · subst e
      obtain ⟨a, has, hca⟩ := h.conn k (by rw [asB_some hk]; exact decide_eq_true (Int.natCast_nonneg _))
      exact ⟨a, has, hca.trans hc⟩
    · rw [asB_set_other e] at ha
      exact h.conn i ha
theorem lvl_fwd {G : List (List Int)} {m s : Nat} {xs : List Int} (h : LvlSt G m s xs) {k j p : Nat} (hm : 1 ≤ m) (hkl : k < G.length) (hjl : j < G.length) (ha : arw G k j = true) (hk : xs[k]? = some (p : Int)) (hj : xs[j]? = some (-1)) : LvlSt G m s (xs.set j (((p + 1) % m : Nat) : Int)) :=
  lvl_put h hk hj (.fwd (.refl k) hkl hjl ha) (Nat.mod_lt _ (by omega)) fun f hf e => by
    rw [(to_ring.1 hf.1).2 k j hkl hjl ha, e]
theorem lvl_bwd {G : List (List Int)} {m s : Nat} {xs : List Int} (h : LvlSt G m s xs) {k j p : Nat} (hm : 1 ≤ m) (hkl : k < G.length) (hjl : j < G.length) (ha : arw G k j = true) (hj : xs[j]? = some (p : Int)) (hk : xs[k]? = some (-1)) : LvlSt G m s (xs.set k (((p + m - 1) % m : Nat) : Int)) :=
  lvl_put h hj hk (.bwd (.refl j) hjl hkl ha) (Nat.mod_lt _ (by omega)) fun f hf e => by
    obtain ⟨hT, hs⟩ := to_ring.1 hf.1
    have h1 := hs k j hkl hjl ha
    obtain ⟨r, _, er, hr⟩ := tells_at hT hkl
    have hp : p < m := by
      rcases h.rng j _ hj with h2 | h2 <;> omega
    rw [mod_small (by omega)] at h1
    rw [mod_small (by omega)]
    split at h1 <;> split <;> omega
theorem lvl_start {G : List (List Int)} {m s : Nat} {xs : List Int} (h : LvlSt G m s xs) (hc : ClosedA G xs) (hm : 1 ≤ m) (hs : s < G.length) :
    (xs[s]? = some (-1) → LvlSt G m (s + 1) (xs.set s 0)) ∧ (asB xs s = true → LvlSt G m (s + 1) xs) := by
  constructor
  · intro hx
    have hsl := (List.getElem?_eq_some_iff.1 hx).1
    have hun : asB xs s = false := by rw [asB_some hx]; rfl
    have hleast : Least G s := fun l hl => by
      rcases Nat.lt_or_ge l s with hlt | hge
      · have h1 := h.upto l hlt (by omega)
        rw [← closed_conn hc hl, hun] at h1
        cases h1
      · exact hge
    exact {
      len := by rw [List.length_set]; exact h.len
      rng := fun i y hy => by
        by_cases e : i = s
        · subst e
          rw [List.getElem?_set_self hsl] at hy
          cases hy
          exact .inr ⟨Int.le_refl _, by omega⟩
        · rw [List.getElem?_set_ne (Ne.symm e)] at hy
          exact h.rng i y hy
      val := fun f hf i p hp => by
        by_cases e : i = s
        · subst e
          rw [List.getElem?_set_self hsl] at hp
          have e2 := Option.some.inj hp
          rw [hf.2 i hs hleast]
          omega
        · rw [List.getElem?_set_ne (Ne.symm e)] at hp
          exact h.val f hf i p hp
      upto := fun i hi hl => by
        by_cases e : i = s
        · subst e; exact asB_set_self hsl (Int.le_refl _)
        · rw [asB_set_other e]; exact h.upto i (by omega) hl
      zero := fun i hl ha => by
        by_cases e : i = s
        · subst e; exact List.getElem?_set_self hsl
        · rw [asB_set_other e] at ha
          rw [List.getElem?_set_ne (Ne.symm e)]
          exact h.zero i hl ha
      conn := fun i ha => by
        by_cases e : i = s
        · subst e; exact ⟨i, by omega, .refl i⟩
        · rw [asB_set_other e] at ha
          obtain ⟨a, h1, h2⟩ := h.conn i ha
          exact ⟨a, by omega, h2⟩ }
  · intro hx
    exact { h with
      upto := fun i hi hl => by
        by_cases e : i = s
        · subst e; exact hx
        · exact h.upto i (by omega) hl
      conn := fun i ha => by
        obtain ⟨a, h1, h2⟩ := h.conn i ha
        exact ⟨a, by omega, h2⟩ }
/-- ALL HAVE THEIRS: they are the levels if each arrow fits, and there are none if one does not. -/
theorem lvl_end {G : List (List Int)} {m : Nat} {xs : List Int} (h : LvlSt G m G.length xs) : Tells G.length m xs ∧ ((∀ i j, i < G.length → j < G.length → arw G i j = true → (nd xs i + 1) % m = nd xs j) → IsLvl G m xs) ∧
    ∀ f, IsLvl G m f → ∀ i j, i < G.length → j < G.length → arw G i j = true → (nd xs i + 1) % m = nd xs j := by
  have hT : Tells G.length m xs := ⟨h.len, fun j y hy => by
    have hj : j < G.length := by have := (List.getElem?_eq_some_iff.1 hy).1; rw [h.len] at this; exact this
    have ha := h.upto j hj hj
    rw [asB_some hy] at ha
    have := of_decide_eq_true ha
    rcases h.rng j y hy with h1 | h1
    · omega
    · exact h1⟩
  refine ⟨hT, fun hs => ⟨to_ring.2 ⟨hT, fun i j hi hj ha => (hs i j hi hj ha).symm⟩, fun i hi hl => ?_⟩, fun f hf i j hi hj ha => ?_⟩
  · have := h.zero i hl (h.upto i hi hi)
    unfold nd
    rw [this]; rfl
  · obtain ⟨p, hp, ep, _⟩ := tells_at hT hi
    obtain ⟨q, hq, eq, _⟩ := tells_at hT hj
    have h1 := h.val f hf i p hp
    have h2 := h.val f hf j q hq
    rw [ep, eq, ← h1, ← h2]
    exact ((to_ring.1 hf.1).2 i j hi hj ha).symm
/-- A ROUND's MIDDLE: r rounds have been, the pairs ahead of (k, j) have been looked at. -/
def RndSt (G : List (List Int)) (r k j : Nat) (xs : List Int) : Prop :=
  ClosedA G xs ∨ r + 2 ≤ asgN xs ∨ (r + 1 ≤ asgN xs ∧ ∀ a b, a < G.length → b < G.length → arw G a b = true → (a < k ∨ (a = k ∧ b < j)) → ClosedP xs a b)
/-- Behind r rounds. -/
def RndEd (G : List (List Int)) (r : Nat) (xs : List Int) : Prop := ClosedA G xs ∨ r + 1 ≤ asgN xs
theorem rnd_in {G : List (List Int)} {r : Nat} {xs : List Int} (h : RndEd G r xs) : RndSt G r 0 0 xs := by
  rcases h with h | h
  · exact .inl h
  · exact .inr (.inr ⟨h, fun a b _ _ _ hx => by omega⟩)
theorem rnd_out {G : List (List Int)} {r : Nat} {xs : List Int} (h : RndSt G r G.length 0 xs) : RndEd G (r + 1) xs := by
  rcases h with h | h | ⟨h1, h2⟩
  · exact .inl h
  · exact .inr h
  · exact .inl fun a b ha hb hab => h2 a b ha hb hab (.inl ha)
theorem rnd_row {G : List (List Int)} {r k : Nat} {xs : List Int} (h : RndSt G r k G.length xs) : RndSt G r (k + 1) 0 xs := by
  rcases h with h | h | ⟨h1, h2⟩
  · exact .inl h
  · exact .inr (.inl h)
  · exact .inr (.inr ⟨h1, fun a b ha hb hab hx => h2 a b ha hb hab (by omega)⟩)
/-- Nothing is to be done at a pair. -/
theorem rnd_skip {G : List (List Int)} {r k j : Nat} {xs : List Int} (h : RndSt G r k j xs) (hc : arw G k j = true → ClosedP xs k j) : RndSt G r k (j + 1) xs := by
  rcases h with h | h | ⟨h1, h2⟩
  · exact .inl h
  · exact .inr (.inl h)
  · refine .inr (.inr ⟨h1, fun a b ha hb hab hx => ?_⟩)
    by_cases e : a = k ∧ b = j
    · rw [e.1, e.2] at hab ⊢; exact hc hab
    · exact h2 a b ha hb hab (by omega)
/-- A pair of which one has its level and the other one not: one more has it. -/
theorem rnd_put {G : List (List Int)} {r k j l : Nat} {xs : List Int} {y z : Int} (h : RndSt G r k j xs) (hk : k < G.length) (hj : j < G.length) (ha : arw G k j = true) (hne : asB xs k ≠ asB xs j) (hl : xs[l]? = some z) (hz : z < 0) (hy : 0 ≤ y) : RndSt G r k (j + 1) (xs.set l y) := by
  have hc := asgN_set hl hz hy
  rcases h with h | h | ⟨h1, _⟩
  · exact absurd (h k j hk hj ha) hne
  · exact .inr (.inl (by omega))
  · exact .inr (.inl (by omega))
/-- Behind as many rounds as nodes nothing is left open. -/
theorem rnd_closed {G : List (List Int)} {xs : List Int} (h : RndEd G G.length xs) (hl : xs.length = G.length) : ClosedA G xs := by
  rcases h with h | h
  · exact h
  · have := asgN_le xs
    omega
theorem rnd_begin {G : List (List Int)} {xs : List Int} {s : Nat} (h : asB xs s = true) : RndEd G 0 xs := by
  refine .inr ?_
  have hs := asB_lt h
  unfold asB at h
  rw [List.getElem?_eq_getElem hs] at h
  unfold asgN
  exact List.length_pos_of_mem (List.mem_filter.2 ⟨List.getElem_mem hs, h⟩)

/-- HEIGHTS SO FAR: each is one of a walk that comes to the node; what r rounds reach is reached; of the pairs ahead of (k, j) also what a round more reaches. -/
structure HgtSt (G : List (List Int)) (r k j : Nat) (xs : List Int) : Prop where
  len : xs.length = G.length
  walk : ∀ i y, xs[i]? = some y → 0 ≤ y ∧ wkE G y.toNat i = true
  done : ∀ i, i < G.length → ∀ m, m ≤ r → wkE G m i = true → m ≤ nd xs i
  more : ∀ a b, a < G.length → b < G.length → arw G a b = true → (a < k ∨ (a = k ∧ b < j)) → ∀ m, m ≤ r → wkE G m a = true → m + 1 ≤ nd xs b
theorem hst_begin (G : List (List Int)) : HgtSt G 0 0 0 (List.replicate G.length 0) where
  len := by simp
  walk i y h := by
    have := List.eq_of_mem_replicate (List.mem_of_getElem? h)
    subst this
    exact ⟨Int.le_refl _, rfl⟩
  done i _ m hm _ := by omega
  more a b _ _ _ h := by omega
theorem hst_round {G : List (List Int)} {r : Nat} {xs : List Int} (h : HgtSt G r G.length 0 xs) : HgtSt G (r + 1) 0 0 xs where
  len := h.len
  walk := h.walk
  done i hi m hm hw := by
    cases m with
    | zero => omega
    | succ m =>
      obtain ⟨a, ha, hab, hwa⟩ := wkE_iff.1 hw
      exact h.more a i ha hi hab (.inl ha) m (by omega) hwa
  more a b _ _ _ hx := by omega
theorem hst_row {G : List (List Int)} {r k : Nat} {xs : List Int} (h : HgtSt G r k G.length xs) : HgtSt G r (k + 1) 0 xs :=
  { h with more := fun a b ha hb hab hx => h.more a b ha hb hab (by omega) }
theorem hst_skip {G : List (List Int)} {r k j : Nat} {xs : List Int} (h : HgtSt G r k j xs) (hn : arw G k j = false) : HgtSt G r k (j + 1) xs :=
  { h with
    more := fun a b ha hb hab hx => by
      by_cases e : a = k ∧ b = j
      · rw [e.1, e.2, hn] at hab; cases hab
      · exact h.more a b ha hb hab (by omega) }
theorem nd_set_self {xs : List Int} {i : Nat} (hi : i < xs.length) (y : Int) : nd (xs.set i y) i = y.toNat := by unfold nd; rw [List.getElem?_set_self hi]; rfl
theorem nd_set_other {xs : List Int} {i j : Nat} (h : j ≠ i) (y : Int) : nd (xs.set i y) j = nd xs j := by unfold nd; rw [List.getElem?_set_ne (Ne.symm h)]
theorem hst_put {G : List (List Int)} {r k j p q : Nat} {xs : List Int} (h : HgtSt G r k j xs) (hk : k < G.length) (hj : j < G.length) (ha : arw G k j = true) (hp : xs[k]? = some (p : Int)) (hq : xs[j]? = some (q : Int)) : HgtSt G r k (j + 1) (xs.set j ((max q (p + 1) : Nat) : Int)) where
  len := by rw [List.length_set]; exact h.len
  walk i y hy := by
    by_cases e : i = j
    · subst e
      rw [List.getElem?_set_self (by rw [h.len]; exact hj)] at hy
      have e2 : ((max q (p + 1) : Nat) : Int) = y := Option.some.inj hy
      rw [← e2, Int.toNat_natCast]
      refine ⟨Int.natCast_nonneg _, ?_⟩
      have h1 := (h.walk k _ hp).2
      have h2 := (h.walk i _ hq).2
      rw [Int.toNat_natCast] at h1 h2
      rcases Nat.le_total q (p + 1) with hle | hle
      · rw [Nat.max_eq_right hle]
        exact wkE_iff.2 ⟨k, hk, ha, h1⟩
      · rw [Nat.max_eq_left hle]
        exact h2
    · rw [List.getElem?_set_ne (Ne.symm e)] at hy
      exact h.walk i y hy
  done i hi m hm hw := by
    have := h.done i hi m hm hw
    by_cases e : i = j
    · subst e
      rw [nd_set_self (by rw [h.len]; exact hj), Int.toNat_natCast]
      rw [nd_eq hq, Int.toNat_natCast] at this
      exact Nat.le_trans this (Nat.le_max_left _ _)
    · rw [nd_set_other e]; exact this
  more a b hal hbl hab hx m hm hw := by
    by_cases e : b = j
    · subst e
      rw [nd_set_self (by rw [h.len]; exact hj), Int.toNat_natCast]
      by_cases ea : a = k
      · subst ea
        have := h.done a hal m hm hw
        rw [nd_eq hp, Int.toNat_natCast] at this
        exact Nat.le_trans (by omega) (Nat.le_max_right _ _)
      · have := h.more a b hal hbl hab (by omega) m hm hw
        rw [nd_eq hq, Int.toNat_natCast] at this
        exact Nat.le_trans this (Nat.le_max_left _ _)
    · rw [nd_set_other e]
      exact h.more a b hal hbl hab (by omega) m hm hw
/-- A graph whose longest walk is known has no more nodes on it than it has. -/
theorem lng_nodes {G : List (List Int)} {n : Nat} (hg : gOk G = true) (h : lngO G = some n) : n ≤ G.length := by
  have h1 := lng_some h
  have hw : wkS G (n - 1) = true := by
    by_cases e : n = 1
    · subst e
      exact wkS_zero (good_of hg).1
    · cases hc : wkS G (n - 1) with
      | true => rfl
      | false => have := lng_least h (k := n - 1) (by omega) hc; omega
  obtain ⟨i, hi, hwi⟩ := wkS_iff.1 hw
  obtain ⟨f, hT, _, hs⟩ := walk_row hi hwi
  rw [show n - 1 + 1 = n by omega] at hT
  have hlt : ∀ a, a < n → nd f a < G.length := fun a ha => by
    obtain ⟨p, _, e, hp⟩ := tells_at hT ha
    omega
  have up : ∀ d a, a + d < n → mxE G 8 (nd f a) + d ≤ mxE G 8 (nd f (a + d)) := fun d => by
    induction d with
    | zero => intro a _; exact Nat.le_refl _
    | succ d ih =>
      intro a ha
      have h2 := ih a (by omega)
      have h3 := hgt_step h (hlt (a + d) (by omega)) (hlt (a + d + 1) (by omega)) (hs (a + d) (by omega))
      rw [show a + (d + 1) = a + d + 1 by omega]
      omega
  have hN : Nodes G.length f := inj_nodes (n := n) (m := G.length) hT fun a b ha hb e => by
    rcases Nat.lt_trichotomy a b with hlt' | heq | hgt
    · have := up (b - a) a (by omega)
      rw [show a + (b - a) = b by omega, e] at this
      omega
    · exact heq
    · have := up (a - b) b (by omega)
      rw [show b + (a - b) = a by omega, e] at this
      omega
  have := nodes_le hN
  rw [hT.1] at this
  exact this
theorem hst_end {G : List (List Int)} {xs : List Int} (h : HgtSt G G.length 0 0 xs) (hk : lngK G = true) : xs = hgtL G := by
  obtain ⟨hg, n, hn⟩ := lngK_some hk
  have hln := lng_nodes hg hn
  refine List.ext_getElem? fun i => ?_
  by_cases hi : i < G.length
  · have hx : i < xs.length := by rw [h.len]; exact hi
    obtain ⟨hy0, hyw⟩ := h.walk i _ (List.getElem?_eq_getElem hx)
    have h1 := h.done i hi (mxE G 8 i) (by have := hgt_lt hn hi; omega) (mxE_walk G i 8)
    rw [nd_eq (List.getElem?_eq_getElem hx)] at h1
    have h2 : (xs[i]).toNat ≤ 8 := by
      rcases Nat.lt_or_ge (xs[i]).toNat n with hlt | hge
      · have := lng_some hn
        omega
      · have hw : wkS G (n + ((xs[i]).toNat - n)) = true := by rw [show n + ((xs[i]).toNat - n) = (xs[i]).toNat by omega]; exact wkS_end.2 ⟨i, hi, hyw⟩
        have := wkS_mono hw
        rw [(lng_some hn).2] at this; cases this
    have h3 := mxE_most h2 hyw
    rw [List.getElem?_eq_getElem hx, hgt_yes hk, List.getElem?_map, List.getElem?_range hi]
    show some xs[i] = some ((mxE G 8 i : Nat) : Int)
    congr 1
    omega
  · rw [List.getElem?_eq_none (by rw [h.len]; omega), hgt_yes hk, List.getElem?_eq_none (by simp; omega)]

end Go.Proofs.Ytofpjepndhpciaa
