/-
  Several texts in one.
  Graphs in one part: the pure facts of chapter 9, a part.
  Covers: the pure facts of chapter 10, the first part.
  Walks, lifted: the pure facts of chapter 10, the second part.
  Twice over a graph; rings over rings: the pure facts of chapter 10, the third part.
  The tests: all graphs of one node and of two: pure facts of chapter 9, a part.
-/
import Derived.Test.YtldkgkpiceamhaaWS
import Derived.Test.YtldkgkpiceamhaaZX
namespace Go.Proofs.Ytldkgkpiceamhaa
open Go.RowKit Go.Shelf Go.Deep

/-- FROM NODE 0 ONE COMES TO ALL. -/
def OneP (n : Nat) (A : Nat → Nat → Bool) : Prop := ∀ S : Nat → Bool, S 0 = true → (∀ i j, i < n → j < n → A i j = true → S i = true → S j = true) → ∀ i, i < n → S i = true
/-- What is seen after t rounds. -/
def seenN (n : Nat) (A : Nat → Nat → Bool) : Nat → Nat → Bool
  | 0, i => i == 0
  | t + 1, i => seenN n A t i || (List.range n).any fun j => seenN n A t j && A j i
theorem seenP_step {n : Nat} {A : Nat → Nat → Bool} {t i j : Nat} (hj : j < n) (hs : seenN n A t j = true) (ha : A j i = true) : seenN n A (t + 1) i = true := by
  simp only [seenN, Bool.or_eq_true, List.any_eq_true]
  exact .inr ⟨j, by simpa using hj, by rw [hs, ha]; rfl⟩
theorem seen_mono {n : Nat} {A : Nat → Nat → Bool} {t i : Nat} (h : seenN n A t i = true) : seenN n A (t + 1) i = true := by
  simp only [seenN, Bool.or_eq_true]
  exact .inl h
theorem seen_sound {n : Nat} {A : Nat → Nat → Bool} {S : Nat → Bool} (h0 : S 0 = true) (hc : ∀ i j, i < n → j < n → A i j = true → S i = true → S j = true) : ∀ t i, i < n → seenN n A t i = true → S i = true
  | 0, i, _, h => by
    simp only [seenN, beq_iff_eq] at h
    subst h; exact h0
  | t + 1, i, hi, h => by
    simp only [seenN, Bool.or_eq_true, List.any_eq_true, Bool.and_eq_true] at h
    rcases h with h | ⟨j, hj, hs, ha⟩
    · exact seen_sound h0 hc t i hi h
    · have hjn : j < n := by simpa using hj
      exact hc j i hjn hi ha (seen_sound h0 hc t j hjn hs)
def Shut (n : Nat) (A : Nat → Nat → Bool) (S : Nat → Bool) : Prop := ∀ i j, i < n → j < n → A i j = true → S i = true → S j = true
theorem bN_le1 (b : Bool) : bN b ≤ 1 := by cases b <;> decide
theorem bN_mono {a b : Bool} (h : a = true → b = true) : bN a ≤ bN b := by
  cases a with
  | false => exact Nat.zero_le _
  | true => rw [h rfl]; exact Nat.le_refl _
theorem sumN_lt {n : Nat} {f g : Nat → Nat} (h : ∀ i, i < n → f i ≤ g i) {k : Nat} (hk : k < n) (hlt : f k < g k) : sumN n f < sumN n g := by
  induction n with
  | zero => omega
  | succ n ih =>
    simp only [sumN]
    by_cases e : k = n
    · subst e
      have := sumN_le (f := f) (g := g) (n := k) fun i hi => h i (by omega)
      omega
    · have := ih (fun i hi => h i (by omega)) (by omega)
      have := h n (by omega)
      omega
theorem sumN_one : ∀ n, sumN n (fun _ => 1) = n
  | 0 => rfl
  | n + 1 => by simp [sumN, sumN_one n]
theorem seen_grows {n : Nat} {A : Nat → Nat → Bool} (h1 : 1 ≤ n) : ∀ t, Shut n A (seenN n A t) ∨ t + 1 ≤ sumN n fun i => bN (seenN n A t i)
  | 0 => .inr (by
    have h : sumN n (fun _ => 0) < sumN n fun i => bN (seenN n A 0 i) := sumN_lt (fun i _ => Nat.zero_le _) (show 0 < n by omega) (by show 0 < bN (0 == 0); decide)
    rw [sumN_zero] at h
    omega)
  | t + 1 => by
    rcases seen_grows (A := A) h1 t with h | h
    · refine .inl fun i j hi hj ha hs => ?_
      simp only [seenN, Bool.or_eq_true, List.any_eq_true, Bool.and_eq_true] at hs
      rcases hs with hs | ⟨k, hk, hs, hk2⟩
      · exact seen_mono (h i j hi hj ha hs)
      · exact seenP_step hi (h k i (by simpa using hk) hi hk2 hs) ha
    · by_cases hc : Shut n A (seenN n A t)
      · refine .inl fun i j hi hj ha hs => ?_
        simp only [seenN, Bool.or_eq_true, List.any_eq_true, Bool.and_eq_true] at hs
        rcases hs with hs | ⟨k, hk, hs, hk2⟩
        · exact seen_mono (hc i j hi hj ha hs)
        · exact seenP_step hi (hc k i (by simpa using hk) hi hk2 hs) ha
      · unfold Shut at hc
        simp only [Classical.not_forall] at hc
        obtain ⟨i, j, hi, hj, ha, hs, hn⟩ := hc
        right
        have hlt : sumN n (fun i => bN (seenN n A t i)) < sumN n fun i => bN (seenN n A (t + 1) i) := by
          refine sumN_lt (fun i _ => bN_mono seen_mono) hj ?_
          rw [seenP_step hi hs ha, Bool.eq_false_iff.2 hn]
          decide
        omega
theorem seen_shut {n : Nat} {A : Nat → Nat → Bool} (h1 : 1 ≤ n) : Shut n A (seenN n A n) := by
  rcases seen_grows (A := A) h1 n with h | h
  · exact h
  · have : sumN n (fun i => bN (seenN n A n i)) ≤ sumN n fun _ => 1 := sumN_le fun i _ => bN_le1 _
    rw [sumN_one] at this
    omega
theorem seenP_zero {n : Nat} {A : Nat → Nat → Bool} : ∀ t, seenN n A t 0 = true
  | 0 => rfl
  | t + 1 => seen_mono (seenP_zero t)
theorem seen_later {n : Nat} {A : Nat → Nat → Bool} {t u i : Nat} (h : t ≤ u) (hs : seenN n A t i = true) : seenN n A u i = true := by
  induction u with
  | zero => obtain rfl : t = 0 := by omega
            exact hs
  | succ u ih =>
    by_cases e : t = u + 1
    · subst e; exact hs
    · exact seen_mono (ih (by omega))

/-- IS IT IN ONE PART? -/
def oneI (G : List (List Int)) : Bool := gOk G && (List.range G.length).all fun i => seenN G.length (bwP G) G.length i
theorem oneP_iff {n : Nat} {A : Nat → Nat → Bool} (h1 : 1 ≤ n) : OneP n A ↔ ∀ i, i < n → seenN n A n i = true :=
  ⟨fun h => h _ (seenP_zero n) (seen_shut h1), fun h _ h0 hc i hi => seen_sound h0 hc n i hi (h i hi)⟩
theorem one_iff {G : List (List Int)} : oneI G = true ↔ gOk G = true ∧ OneP G.length (bwP G) := by
  unfold oneI
  simp only [Bool.and_eq_true, List.all_eq_true, List.mem_range]
  constructor
  · rintro ⟨hg, h⟩
    exact ⟨hg, (oneP_iff (good_of hg).1).2 h⟩
  · rintro ⟨hg, h⟩
    exact ⟨hg, (oneP_iff (good_of hg).1).1 h⟩
theorem one_no {G : List (List Int)} (h : gOk G = false) : oneI G = false := by unfold oneI; rw [h]; rfl
theorem oneP_congr {n : Nat} {A B : Nat → Nat → Bool} (h : ∀ i j, i < n → j < n → A i j = B i j) : OneP n A ↔ OneP n B := by
  constructor <;> intro hp S h0 hc
  · exact hp S h0 fun i j hi hj ha => hc i j hi hj (by rw [← h i j hi hj]; exact ha)
  · exact hp S h0 fun i j hi hj ha => hc i j hi hj (by rw [h i j hi hj]; exact ha)
/-- TURNED ROUND, AND BOTH WAYS, it is in one part just if it was. -/
theorem one_turned {G : List (List Int)} (h : gOk G = true) : oneI (turnedL G) = oneI G := by
  have hl := turned_len h
  have hg : gOk (turnedL G) = true := gOk_true (turned_good (good_of h))
  rw [Bool.eq_iff_iff, one_iff, one_iff, hl]
  have := oneP_congr (n := G.length) (A := bwP (turnedL G)) (B := bwP G) fun i j hi hj => by
    unfold bwP
    rw [turnedL_yes h, arw_rowsP hi hj, arw_rowsP hj hi, Bool.or_comm]
  rw [this]
  exact ⟨fun ⟨_, b⟩ => ⟨h, b⟩, fun ⟨_, b⟩ => ⟨hg, b⟩⟩
theorem one_bw {G : List (List Int)} (h : gOk G = true) : oneI (bwL G) = oneI G := by
  have hg : gOk (bwL G) = true := gOk_true (bw_good h)
  rw [Bool.eq_iff_iff, one_iff, one_iff, bw_len h]
  have := oneP_congr (n := G.length) (A := bwP (bwL G)) (B := bwP G) fun i j hi hj => by
    unfold bwP
    rw [bw_arw h hi hj, bw_arw h hj hi]
    cases arw G i j <;> cases arw G j i <;> rfl
  rw [this]
  exact ⟨fun ⟨_, b⟩ => ⟨h, b⟩, fun ⟨_, b⟩ => ⟨hg, b⟩⟩
/-- OF TWO SIDE BY SIDE never. -/
theorem one_beside {G H : List (List Int)} (h : besOk G H = true) : oneI (besL G H) = false := by
  obtain ⟨hg, hh, _⟩ := besOk_of h
  rw [Bool.eq_false_iff]
  intro ho
  obtain ⟨_, hp⟩ := one_iff.1 ho
  rw [bes_length h] at hp
  have h1 := hg.1
  have h2 := hh.1
  have := hp (fun i => decide (i < G.length)) (by simp; omega) (fun i j hi hj ha hs => by
    simp only [decide_eq_true_eq] at hs ⊢
    by_cases hjl : j < G.length
    · exact hjl
    · exfalso
      unfold bwP at ha
      rw [besL_yes h, arw_rowsP hi hj, arw_rowsP hj hi] at ha
      unfold besP at ha
      simp [hs, hjl] at ha
      try omega) G.length (by omega)
  simp at this

end Go.Proofs.Ytldkgkpiceamhaa

namespace Go.Proofs.Ytldkgkpiceamhaa
open Go.RowKit Go.Shelf Go.Deep

/-- How many nodes over y lie behind k; and before it. -/
def outN (G : List (List Int)) (f : List Int) (k y : Nat) : Nat := sumN G.length fun j => bN (nd f j == y && arw G k j)
def inN (G : List (List Int)) (f : List Int) (k y : Nat) : Nat := sumN G.length fun j => bN (nd f j == y && arw G j k)
/-- IS IT A COVER? -/
def covP (G H : List (List Int)) (f : List Int) (k y : Nat) : Bool := decide (outN G f k y = bN (arw H (nd f k) y)) && decide (inN G f k y = bN (arw H y (nd f k)))
def covI (G H : List (List Int)) (f : List Int) : Bool := mapOkI G H f && (List.range G.length).all fun k => (List.range H.length).all fun y => covP G H f k y
theorem cov_iff {G H : List (List Int)} {f : List Int} : covI G H f = true ↔ mapOkI G H f = true ∧ ∀ k, k < G.length → ∀ y, y < H.length → outN G f k y = bN (arw H (nd f k) y) ∧ inN G f k y = bN (arw H y (nd f k)) := by
  unfold covI covP
  simp only [Bool.and_eq_true, List.all_eq_true, List.mem_range, decide_eq_true_eq]
theorem cov_no {G H : List (List Int)} {f : List Int} (h : mapOkI G H f = false) : covI G H f = false := by unfold covI; rw [h]; rfl

theorem sum_is {n : Nat} {b : Nat} (P : Nat → Bool) (hb : b < n) : (sumN n fun j => bN (b == j && P j)) = bN (P b) := by
  rw [← sumN_single (fun j => bN (P j)) hb]
  refine sumN_congr fun j _ => ?_
  by_cases e : b = j
  · subst e; simp
  · have e2 : (b == j) = false := by simp; exact e
    rw [e2, if_neg e]; rfl
/-- All nodes, by the node to which they are led. -/
theorem fib_sum {n m : Nat} {f : List Int} (hm : ∀ j, j < n → nd f j < m) (P : Nat → Nat) : (sumN m fun y => sumN n fun j => bN (nd f j == y) * P j) = sumN n P := by
  rw [sumN_swap]
  refine sumN_congr fun j hj => ?_
  rw [sumN_mulR, ← Nat.one_mul (P j)]
  congr 1
  · have := sum_is (fun _ => true) (hm j hj)
    simpa [bN] using this
  · simp
/-- AS MANY ARROWS leave each node, and come to it. -/
theorem cov_outs {G H : List (List Int)} {f : List Int} (h : covI G H f = true) {k : Nat} (hk : k < G.length) : (sumN G.length fun j => bN (arw G k j)) = sumN H.length fun y => bN (arw H (nd f k) y) := by
  obtain ⟨hm, hc⟩ := cov_iff.1 h
  have hT := (mapOk_iff.1 hm).2.1
  rw [← fib_sum (fun j hj => nd_tells hT hj) (fun j => bN (arw G k j))]
  refine sumN_congr fun y hy => ?_
  rw [← (hc k hk y hy).1]
  exact sumN_congr fun j _ => (bN_and _ _).symm
theorem cov_ins {G H : List (List Int)} {f : List Int} (h : covI G H f = true) {k : Nat} (hk : k < G.length) : (sumN G.length fun j => bN (arw G j k)) = sumN H.length fun y => bN (arw H y (nd f k)) := by
  obtain ⟨hm, hc⟩ := cov_iff.1 h
  have hT := (mapOk_iff.1 hm).2.1
  rw [← fib_sum (fun j hj => nd_tells hT hj) (fun j => bN (arw G j k))]
  refine sumN_congr fun y hy => ?_
  rw [← (hc k hk y hy).2]
  exact sumN_congr fun j _ => (bN_and _ _).symm
/-- EACH NODE TO ITSELF is a cover. -/
theorem cov_own {G : List (List Int)} (h : gOk G = true) : covI G G (ownL G.length) = true := by
  refine cov_iff.2 ⟨mapOk_iff.2 ⟨⟨h, h⟩, own_map G⟩, fun k hk y hy => ?_⟩
  rw [ownL_nd hk]
  refine ⟨?_, ?_⟩
  · rw [← sum_is (fun j => arw G k j) hy]
    refine sumN_congr fun j hj => ?_
    rw [ownL_nd hj, Bool.beq_comm]
  · rw [← sum_is (fun j => arw G j k) hy]
    refine sumN_congr fun j hj => ?_
    rw [ownL_nd hj, Bool.beq_comm]
/-- OF BOTH TURNED ROUND it is one just if it was. -/
theorem cov_turned {G H : List (List Int)} {f : List Int} (hg : gOk G = true) (hh : gOk H = true) : covI (turnedL G) (turnedL H) f = covI G H f := by
  have hmt : mapOkI (turnedL G) (turnedL H) f = mapOkI G H f := by
    rw [Bool.eq_iff_iff, mapOk_iff, mapOk_iff, map_turned_iff (good_of hg) (good_of hh)]
    exact ⟨fun h => ⟨⟨hg, hh⟩, h.2⟩, fun h => ⟨⟨gOk_true (turned_good (good_of hg)), gOk_true (turned_good (good_of hh))⟩, h.2⟩⟩
  rw [Bool.eq_iff_iff, cov_iff, cov_iff, hmt, turned_len hg, turned_len hh]
  have hm : ∀ (hT : mapOkI G H f = true) (k : Nat), k < G.length → ∀ y, y < H.length → outN (turnedL G) f k y = inN G f k y ∧ inN (turnedL G) f k y = outN G f k y ∧ arw (turnedL H) (nd f k) y = arw H y (nd f k) ∧ arw (turnedL H) y (nd f k) = arw H (nd f k) y := fun hT k hk y hy => by
    have hf := nd_tells (mapOk_iff.1 hT).2.1 hk
    refine ⟨?_, ?_, ?_, ?_⟩
    · unfold outN inN
      rw [turned_len hg]
      exact sumN_congr fun j hj => by rw [turnedL_yes hg, arw_rowsP hk hj]
    · unfold outN inN
      rw [turned_len hg]
      exact sumN_congr fun j hj => by rw [turnedL_yes hg, arw_rowsP hj hk]
    · rw [turnedL_yes hh, arw_rowsP hf hy]
    · rw [turnedL_yes hh, arw_rowsP hy hf]
  constructor
  · rintro ⟨hT, h⟩
    refine ⟨hT, fun k hk y hy => ?_⟩
    obtain ⟨a, b, c, d⟩ := hm hT k hk y hy
    obtain ⟨h1, h2⟩ := h k hk y hy
    rw [a, c] at h1
    rw [b, d] at h2
    exact ⟨h2, h1⟩
  · rintro ⟨hT, h⟩
    refine ⟨hT, fun k hk y hy => ?_⟩
    obtain ⟨a, b, c, d⟩ := hm hT k hk y hy
    obtain ⟨h1, h2⟩ := h k hk y hy
    rw [a, b, c, d]
    exact ⟨h2, h1⟩

/-- THE NODES OVER y. -/
def fibN (G : List (List Int)) (f : List Int) (y : Nat) : Nat := sumN G.length fun j => bN (nd f j == y)
theorem cov_fib {G H : List (List Int)} {f : List Int} (h : covI G H f = true) {y z : Nat} (hy : y < H.length) (hz : z < H.length) (ha : arw H y z = true) : fibN G f y = fibN G f z := by
  obtain ⟨hm, hc⟩ := cov_iff.1 h
  have h1 : (sumN G.length fun j => sumN G.length fun i => bN (nd f j == y) * bN (nd f i == z && arw G j i)) = fibN G f y := by
    refine sumN_congr fun j hj => ?_
    rw [sumN_mulL]
    by_cases e : nd f j = y
    · have h2 := (hc j hj z hz).1
      unfold outN at h2
      rw [h2, e, ha]; simp [bN]
    · have e2 : (nd f j == y) = false := by simp; exact e
      rw [e2]; simp [bN]
  have h2 : (sumN G.length fun i => sumN G.length fun j => bN (nd f j == y) * bN (nd f i == z && arw G j i)) = fibN G f z := by
    refine sumN_congr fun i hi => ?_
    by_cases e : nd f i = z
    · have h2 := (hc i hi y hy).2
      unfold inN at h2
      rw [e, ha] at h2
      have e2 : (nd f i == z) = true := by simp; exact e
      rw [e2]
      rw [← h2]
      exact sumN_congr fun j _ => by rw [Bool.true_and, ← bN_and]
    · have e2 : (nd f i == z) = false := by simp; exact e
      rw [e2]
      exact sumN_none fun j _ => by simp [bN]
  rw [← h1, ← h2, sumN_swap]
/-- SHEETS ARE EVERYWHERE AS MANY. -/
theorem cov_sheets {G H : List (List Int)} {f : List Int} (h : covI G H f = true) (ho : oneI H = true) : ∀ y, y < H.length → fibN G f y = fibN G f 0 := fun y hy => by
  have hp := (one_iff.1 ho).2
  have := hp (fun y => decide (fibN G f y = fibN G f 0)) (by simp) (fun i j hi hj ha hs => by
    simp only [decide_eq_true_eq] at hs ⊢
    unfold bwP at ha
    rw [Bool.or_eq_true] at ha
    rcases ha with ha | ha
    · rw [← cov_fib h hi hj ha]; exact hs
    · rw [cov_fib h hj hi ha]; exact hs) y hy
  simpa using this
theorem cov_nodes {G H : List (List Int)} {f : List Int} (h : covI G H f = true) (ho : oneI H = true) : G.length = fibN G f 0 * H.length := by
  have hT := (mapOk_iff.1 (cov_iff.1 h).1).2.1
  have h1 := fib_sum (fun j hj => nd_tells hT hj) (fun _ => 1)
  rw [sumN_one] at h1
  rw [← h1]
  have h2 : (sumN H.length fun _ => fibN G f 0 * 1) = fibN G f 0 * H.length := by rw [sumN_mulL, sumN_one]
  rw [← h2]
  refine sumN_congr fun y hy => ?_
  rw [← cov_sheets h ho y hy, sumN_mulR, fibN]
theorem cov_arrows {G H : List (List Int)} {f : List Int} (h : covI G H f = true) (ho : oneI H = true) : arrowsI G = ((fibN G f 0 : Nat) : Int) * arrowsI H := by
  have hm := (mapOk_iff.1 (cov_iff.1 h).1)
  have hT := hm.2.1
  have h1 : (AL G).length = fibN G f 0 * (AL H).length := by
    rw [AL_cnt, AL_cnt, cnt_sum, cnt_sum, ← sumN_mulL]
    have e1 : (sumN G.length fun k => sumN G.length fun l => bN (arw G k l)) = sumN G.length fun k => sumN H.length fun y => bN (nd f k == y) * sumN H.length fun z => bN (arw H y z) := sumN_congr fun k hk => by
      have h3 := cov_outs h hk
      rw [h3]
      have h4 : (sumN H.length fun y => bN (nd f k == y) * sumN H.length fun z => bN (arw H y z)) = sumN H.length fun y => if nd f k = y then (sumN H.length fun z => bN (arw H y z)) else 0 := sumN_congr fun y _ => by
        by_cases e : nd f k = y
        · rw [if_pos e]
          have e2 : (nd f k == y) = true := by simp; exact e
          rw [e2]; simp [bN]
        · rw [if_neg e]
          have e2 : (nd f k == y) = false := by simp; exact e
          rw [e2]; simp [bN]
      rw [h4, sumN_single _ (nd_tells hT hk)]
    rw [e1, sumN_swap]
    refine sumN_congr fun y hy => ?_
    rw [← cov_sheets h ho y hy, sumN_mulR, fibN]
  rw [arrowsI_yes hm.1.1, arrowsI_yes hm.1.2, h1, Int.natCast_mul]
theorem fib_pos {G H : List (List Int)} {f : List Int} (h : covI G H f = true) (ho : oneI H = true) : 1 ≤ fibN G f 0 := by
  have h1 := cov_nodes h ho
  have h2 := (good_of (mapOk_iff.1 (cov_iff.1 h).1).1.1).1
  rcases Nat.eq_zero_or_pos (fibN G f 0) with e | e
  · rw [e, Nat.zero_mul] at h1; omega
  · exact e
/-- HOW MANY SHEETS. -/
def sheI (G H : List (List Int)) (f : List Int) : Int := if (covI G H f && oneI H) = true then ((fibN G f 0 : Nat) : Int) else -1
theorem she_yes {G H : List (List Int)} {f : List Int} (h : covI G H f = true) (ho : oneI H = true) : sheI G H f = ((fibN G f 0 : Nat) : Int) := if_pos (by rw [h, ho]; rfl)
theorem she_no {G H : List (List Int)} {f : List Int} (h : (covI G H f && oneI H) = false) : sheI G H f = -1 := if_neg (by rw [h]; decide)

end Go.Proofs.Ytldkgkpiceamhaa

namespace Go.Proofs.Ytldkgkpiceamhaa
open Go.RowKit Go.Shelf Go.Deep

/-- IS IT A WALK? -/
def walkI (G : List (List Int)) (w : List Int) : Bool := gOk G && (decide (1 ≤ w.length ∧ w.length ≤ 13) && (tellsI w.length G.length w && (List.range w.length).all fun k => k == 0 || arw G (nd w (k - 1)) (nd w k)))
theorem walk_iff {G : List (List Int)} {w : List Int} : walkI G w = true ↔ gOk G = true ∧ (1 ≤ w.length ∧ w.length ≤ 13) ∧ Tells w.length G.length w ∧ ∀ k, k + 1 < w.length → arw G (nd w k) (nd w (k + 1)) = true := by
  unfold walkI
  simp only [Bool.and_eq_true, List.all_eq_true, List.mem_range, decide_eq_true_eq, tells_iff, Bool.or_eq_true, beq_iff_eq]
  constructor
  · rintro ⟨h1, h2, h3, h4⟩
    refine ⟨h1, h2, h3, fun k hk => ?_⟩
    rcases h4 (k + 1) hk with h | h
    · omega
    · exact h
  · rintro ⟨h1, h2, h3, h4⟩
    refine ⟨h1, h2, h3, fun k hk => ?_⟩
    by_cases e : k = 0
    · exact .inl e
    · have := h4 (k - 1) (by omega)
      rw [show k - 1 + 1 = k by omega] at this
      exact .inr this
theorem nd_takeC {f : List Int} {n i : Nat} (h : i < n) : nd (f.take n) i = nd f i := by
  unfold nd; rw [List.getElem?_take, if_pos h]
/-- BEGINNINGS OF WALKS are walks. -/
theorem walk_init {G : List (List Int)} {w : List Int} (h : walkI G w = true) (h2 : 2 ≤ w.length) : walkI G (w.take (w.length - 1)) = true := by
  obtain ⟨hg, h1, hT, ha⟩ := walk_iff.1 h
  have hl : (w.take (w.length - 1)).length = w.length - 1 := by rw [List.length_take]; omega
  refine walk_iff.2 ⟨hg, by rw [hl]; omega, ⟨rfl, fun j y hy => ?_⟩, fun k hk => ?_⟩
  · rw [List.getElem?_take] at hy
    split at hy
    · exact hT.2 j y hy
    · cases hy
  · rw [hl] at hk
    rw [nd_takeC (by omega), nd_takeC (by omega)]
    exact ha k (by omega)
theorem walk_one {G : List (List Int)} : walkI G [0] = gOk G := by
  cases h : gOk G with
  | false => unfold walkI; rw [h]; rfl
  | true =>
    have h1 := (good_of h).1
    exact walk_iff.2 ⟨h, by simp, ⟨rfl, fun j y hy => by
      have : j = 0 := by have := (List.getElem?_eq_some_iff.1 hy).1; simp at this; exact this
      subst this
      simp at hy
      omega⟩, fun k hk => by simp at hk⟩

/-- The node behind a over y. -/
def kidO (G : List (List Int)) (f : List Int) (a y : Nat) : Option Nat := (List.range G.length).find? fun j => arw G a j && nd f j == y
theorem kid_some {G : List (List Int)} {f : List Int} {a y j : Nat} (h : kidO G f a y = some j) : j < G.length ∧ arw G a j = true ∧ nd f j = y := by
  unfold kidO at h
  have h1 := List.find?_some h
  have h2 := List.mem_of_find?_eq_some h
  simp only [Bool.and_eq_true, beq_iff_eq] at h1
  exact ⟨by simpa using h2, h1.1, h1.2⟩
theorem sumN_has {n : Nat} {P : Nat → Bool} (h : sumN n (fun j => bN (P j)) ≠ 0) : ∃ j, j < n ∧ P j = true := by
  induction n with
  | zero => exact absurd rfl h
  | succ n ih =>
    cases e : P n with
    | true => exact ⟨n, by omega, e⟩
    | false =>
      simp only [sumN, e] at h
      obtain ⟨j, hj, hp⟩ := ih (by simpa [bN] using h)
      exact ⟨j, by omega, hp⟩
theorem sumN_two {n : Nat} {P : Nat → Bool} {i j : Nat} (hij : i < j) (hj : j < n) (hi : P i = true) (hp : P j = true) : 2 ≤ sumN n fun j => bN (P j) := by
  have h1 : sumN n (fun k => bN (i == k && P k)) + sumN n (fun k => bN (j == k && P k)) ≤ sumN n fun k => bN (P k) := by
    rw [← sumN_add]
    refine sumN_le fun k _ => ?_
    by_cases e1 : i = k
    · have e2 : (j == k) = false := by simp; omega
      rw [e2]; subst e1; simp [bN]
    · have e2 : (i == k) = false := by simp; exact e1
      rw [e2]
      cases (j == k) <;> cases P k <;> simp [bN]
  rw [sum_is P (by omega), sum_is P hj, hi, hp] at h1
  exact h1
theorem kid_has {G H : List (List Int)} {f : List Int} (h : covI G H f = true) {a y : Nat} (ha : a < G.length) (hy : y < H.length) (he : arw H (nd f a) y = true) : ∃ j, kidO G f a y = some j := by
  have h1 := ((cov_iff.1 h).2 a ha y hy).1
  rw [he] at h1
  unfold outN at h1
  obtain ⟨j, hj, hp⟩ := sumN_has (P := fun j => nd f j == y && arw G a j) (n := G.length) (by rw [h1]; decide)
  cases e : kidO G f a y with
  | some j => exact ⟨j, rfl⟩
  | none =>
    exfalso
    unfold kidO at e
    rw [List.find?_eq_none] at e
    have := e j (by simpa using hj)
    simp only [Bool.and_eq_true, beq_iff_eq] at hp this
    exact this ⟨hp.2, hp.1⟩
theorem kid_only {G H : List (List Int)} {f : List Int} (h : covI G H f = true) {a y i j : Nat} (ha : a < G.length) (hy : y < H.length) (hi : i < G.length) (hj : j < G.length) (ai : arw G a i = true) (aj : arw G a j = true) (fi : nd f i = y) (fj : nd f j = y) : i = j := by
  have h1 := ((cov_iff.1 h).2 a ha y hy).1
  have h2 : outN G f a y ≤ 1 := by rw [h1]; exact bN_le1 _
  have hp : ∀ k, nd f k = y → arw G a k = true → (nd f k == y && arw G a k) = true := fun k e1 e2 => by rw [e2, e1]; simp
  unfold outN at h2
  rcases Nat.lt_trichotomy i j with hlt | e | hlt
  · have := sumN_two (P := fun j => nd f j == y && arw G a j) hlt hj (hp i fi ai) (hp j fj aj); omega
  · exact e
  · have := sumN_two (P := fun j => nd f j == y && arw G a j) hlt hi (hp j fj aj) (hp i fi ai); omega

/-- THE WALK, LIFTED: k steps of it. -/
def lifL (G : List (List Int)) (f w : List Int) (s : Nat) : Nat → List Int
  | 0 => [(s : Int)]
  | k + 1 => lifL G f w s k ++ (match kidO G f (nd (lifL G f w s k) k) (nd w (k + 1)) with | some j => [(j : Int)] | none => [])
/-- CAN IT BE LIFTED? -/
def lifK (G H : List (List Int)) (f w : List Int) (z : Int) : Bool := covI G H f && (walkI H w && (decide (0 ≤ z ∧ z < G.length) && nd f z.toNat == nd w 0))
def liwI (G H : List (List Int)) (f w : List Int) (z : Int) : List Int := if lifK G H f w z = true then lifL G f w z.toNat (w.length - 1) else []
theorem lifK_iff {G H : List (List Int)} {f w : List Int} {z : Int} : lifK G H f w z = true ↔ covI G H f = true ∧ walkI H w = true ∧ (0 ≤ z ∧ z < G.length) ∧ nd f z.toNat = nd w 0 := by
  unfold lifK; simp only [Bool.and_eq_true, decide_eq_true_eq, beq_iff_eq]
theorem lif_yes {G H : List (List Int)} {f w : List Int} {z : Int} (h : lifK G H f w z = true) : liwI G H f w z = lifL G f w z.toNat (w.length - 1) := if_pos h
theorem lif_no {G H : List (List Int)} {f w : List Int} {z : Int} (h : lifK G H f w z = false) : liwI G H f w z = [] := if_neg (by rw [h]; decide)
theorem nd_snoc {f : List Int} {x : Int} {i : Nat} (h : i < f.length) : nd (f ++ [x]) i = nd f i := by
  unfold nd; rw [List.getElem?_append_left h]
theorem nd_last {f : List Int} {x : Nat} : nd (f ++ [(x : Int)]) f.length = x := by
  unfold nd; rw [List.getElem?_append_right (Nat.le_refl _)]; simp
theorem lif_zero (G : List (List Int)) (f w : List Int) (s : Nat) : nd (lifL G f w s 0) 0 = s := Int.toNat_natCast s
structure LifSt (G : List (List Int)) (f w : List Int) (s k : Nat) (x : List Int) : Prop where
  len : x.length = k + 1
  tells : Tells (k + 1) G.length x
  first : nd x 0 = s
  led : ∀ i, i ≤ k → nd f (nd x i) = nd w i
  arrow : ∀ i, i < k → arw G (nd x i) (nd x (i + 1)) = true
theorem lif_st {G H : List (List Int)} {f w : List Int} {z : Int} (h : lifK G H f w z = true) : ∀ k, k < w.length → LifSt G f w z.toNat k (lifL G f w z.toNat k) ∧ (k + 1 < w.length → ∃ j : Nat, kidO G f (nd (lifL G f w z.toNat k) k) (nd w (k + 1)) = some j ∧ lifL G f w z.toNat (k + 1) = lifL G f w z.toNat k ++ [(j : Int)])
  | k, hk => by
    obtain ⟨hc, hw, hz, hf0⟩ := lifK_iff.1 h
    obtain ⟨hg, hwl, hwT, hwa⟩ := walk_iff.1 hw
    have main : LifSt G f w z.toNat k (lifL G f w z.toNat k) := by
      cases k with
      | zero =>
        refine ⟨rfl, ⟨rfl, fun j y hy => ?_⟩, ?_, fun i hi => ?_, fun i hi => absurd hi (Nat.not_lt_zero _)⟩
        · have : j = 0 := by have := (List.getElem?_eq_some_iff.1 hy).1; simp [lifL] at this; exact this
          subst this
          simp [lifL] at hy
          omega
        · exact lif_zero _ _ _ _
        · obtain rfl : i = 0 := by omega
          rw [lif_zero]; exact hf0
      | succ k =>
        obtain ⟨st, ex⟩ := lif_st h k (by omega)
        obtain ⟨j, hj, e⟩ := ex hk
        obtain ⟨hj1, hj2, hj3⟩ := kid_some hj
        rw [e]
        have hl := st.len
        refine ⟨by rw [List.length_append, hl]; rfl, ⟨by rw [List.length_append, hl]; rfl, fun i y hy => ?_⟩, ?_, fun i hi => ?_, fun i hi => ?_⟩
        · by_cases hi : i < (lifL G f w z.toNat k).length
          · rw [List.getElem?_append_left hi] at hy; exact st.tells.2 i y hy
          · rw [List.getElem?_append_right (by omega)] at hy
            have e1 : i - (lifL G f w z.toNat k).length = 0 := by have := (List.getElem?_eq_some_iff.1 hy).1; simp at this; omega
            rw [e1] at hy
            simp at hy
            omega
        · rw [nd_snoc (by omega)]; exact st.first
        · by_cases hi2 : i ≤ k
          · rw [nd_snoc (by omega)]; exact st.led i hi2
          · obtain rfl : i = k + 1 := by omega
            have := nd_last (f := lifL G f w z.toNat k) (x := j)
            rw [hl] at this
            rw [this, hj3]
        · by_cases hi2 : i < k
          · rw [nd_snoc (by omega), nd_snoc (by omega)]; exact st.arrow i hi2
          · obtain rfl : i = k := by omega
            have := nd_last (f := lifL G f w z.toNat i) (x := j)
            rw [hl] at this
            rw [this, nd_snoc (by omega)]; exact hj2
    refine ⟨main, fun hk2 => ?_⟩
    have ha : nd (lifL G f w z.toNat k) k < G.length := nd_tells main.tells (by omega)
    obtain ⟨j, hj⟩ := kid_has hc (y := nd w (k + 1)) ha (nd_tells hwT hk2) (by rw [main.led k (Nat.le_refl _)]; exact hwa k hk2)
    exact ⟨j, hj, by simp only [lifL, hj]⟩
/-- IT IS A WALK THAT BEGINS THERE AND IS LED TO THE WALK. -/
theorem lif_fin {G H : List (List Int)} {f w : List Int} {z : Int} (h : lifK G H f w z = true) : LifSt G f w z.toNat (w.length - 1) (liwI G H f w z) ∧ (liwI G H f w z).length = w.length ∧ walkI G (liwI G H f w z) = true := by
  obtain ⟨hc, hw, hz, hf0⟩ := lifK_iff.1 h
  obtain ⟨hg, hwl, hwT, hwa⟩ := walk_iff.1 hw
  have st := (lif_st h (w.length - 1) (by omega)).1
  rw [lif_yes h]
  have hl : (lifL G f w z.toNat (w.length - 1)).length = w.length := by rw [st.len]; omega
  refine ⟨st, hl, walk_iff.2 ⟨(mapOk_iff.1 (cov_iff.1 hc).1).1.1, by rw [hl]; exact hwl, ?_, fun k hk => ?_⟩⟩
  · have := st.tells
    rwa [show w.length - 1 + 1 = (lifL G f w z.toNat (w.length - 1)).length by rw [hl]; omega] at this
  · rw [hl] at hk
    exact st.arrow k (by omega)
/-- AND JUST ONE: no other row with one other node is both. -/
theorem lif_only {G H : List (List Int)} {f w : List Int} {z : Int} (h : lifK G H f w z = true) {k j : Nat} (hk0 : 0 < k) (hk : k < w.length) (hj : j < G.length) (hne : j ≠ nd (liwI G H f w z) k) (hf : nd f j = nd w k) : walkI G ((liwI G H f w z).set k (j : Int)) = false := by
  obtain ⟨hc, hw, _, _⟩ := lifK_iff.1 h
  obtain ⟨st, hl, _⟩ := lif_fin h
  rw [Bool.eq_false_iff]
  intro hx
  obtain ⟨_, _, _, ha⟩ := walk_iff.1 hx
  have h1 := ha (k - 1) (by rw [List.length_set, hl]; omega)
  rw [show k - 1 + 1 = k by omega] at h1
  have e1 : nd ((liwI G H f w z).set k (j : Int)) (k - 1) = nd (liwI G H f w z) (k - 1) := by unfold nd; rw [List.getElem?_set_ne (by omega)]
  have e2 : nd ((liwI G H f w z).set k (j : Int)) k = j := by unfold nd; rw [List.getElem?_set_self (by omega)]; simp
  rw [e1, e2] at h1
  have h2 := st.arrow (k - 1) (by omega)
  rw [show k - 1 + 1 = k by omega] at h2
  have hT := st.tells
  have hwT := (walk_iff.1 hw).2.2.1
  exact hne (kid_only hc (nd_tells hT (show k - 1 < w.length - 1 + 1 by omega)) (nd_tells hwT hk) hj (nd_tells hT (show k < w.length - 1 + 1 by omega)) h1 h2 hf (st.led k (by omega)))

end Go.Proofs.Ytldkgkpiceamhaa

namespace Go.Proofs.Ytldkgkpiceamhaa
open Go.RowKit Go.Shelf Go.Deep

/-- TWICE OVER A GRAPH. -/
def twP (G : List (List Int)) (i j : Nat) : Bool := (i / G.length != j / G.length) && arw G (i % G.length) (j % G.length)
def twL (G : List (List Int)) : List (List Int) := if g4 G = true then rowsP (2 * G.length) (twP G) else []
theorem tw_yes {G : List (List Int)} (h : g4 G = true) : twL G = rowsP (2 * G.length) (twP G) := if_pos h
theorem tw_no {G : List (List Int)} (h : g4 G = false) : twL G = [] := if_neg (by rw [h]; decide)
theorem tw_len {G : List (List Int)} (h : g4 G = true) : (twL G).length = 2 * G.length := by rw [tw_yes h, rowsP_length]
theorem tw_good {G : List (List Int)} (h : g4 G = true) : Good (twL G) := by
  obtain ⟨hg, h4⟩ := g4_iff.1 h
  have h1 := (good_of hg).1
  rw [tw_yes h]; exact rowsP_good _ (by omega) (by omega)
theorem tw_fit {G : List (List Int)} : Fit (twL G) := by
  cases h : g4 G with
  | true => exact (tw_good h).fit
  | false => rw [tw_no h]; exact ⟨by simp, fun xs hx => by simp at hx⟩
theorem tw_ok {G : List (List Int)} (h : g4 G = true) : timOk (rinL 2) G = true := by
  obtain ⟨hg, h4⟩ := g4_iff.1 h
  unfold timOk
  rw [hg, gOk_true (rin_good (n := 2) (by omega) (by omega)), rin_len, decide_eq_true (by omega)]; rfl
/-- It is the product with the ring of 2. -/
theorem tw_tim {G : List (List Int)} (h : g4 G = true) : twL G = timL (rinL 2) G := by
  have h1 := (good_of (g4_iff.1 h).1).1
  rw [tw_yes h, timL_yes (tw_ok h), rin_len]
  refine rowsP_congr fun i j hi hj => ?_
  have hi2 : i / G.length < 2 := Nat.div_lt_of_lt_mul (by omega)
  have hj2 : j / G.length < 2 := Nat.div_lt_of_lt_mul (by omega)
  unfold twP timP
  rw [rin_arw hi2 hj2]
  congr 1
  generalize i / G.length = a at *
  generalize j / G.length = b at *
  have : a = 0 ∨ a = 1 := by omega
  have : b = 0 ∨ b = 1 := by omega
  rcases ‹a = 0 ∨ a = 1› with rfl | rfl <;> rcases ‹b = 0 ∨ b = 1› with rfl | rfl <;> rfl
theorem tw_lev {G : List (List Int)} (h : g4 G = true) : levK (twL G) 2 = true := by
  refine levK_iff.2 ⟨gOk_true (tw_good h), by omega, ⟨sideL (rinL 2).length G.length false, ?_⟩⟩
  rw [tw_tim h]
  exact side_map1 (tw_ok h)
/-- Each node with 0 or 1, led to the node. -/
def twF (n k : Nat) : List Int := (List.range k).map fun i => ((i % n : Nat) : Int)
theorem twF_len (n k : Nat) : (twF n k).length = k := by simp [twF]
theorem twF_succ (n k : Nat) : twF n (k + 1) = twF n k ++ [((k % n : Nat) : Int)] := by simp [twF, List.range_succ]
theorem twF_get {n k i : Nat} (h : i < k) : (twF n k)[i]? = some ((i % n : Nat) : Int) := by unfold twF; simp [h]
theorem twF_nd {n k i : Nat} (h : i < k) : nd (twF n k) i = i % n := by rw [nd_eq (twF_get h)]; exact Int.toNat_natCast _
theorem tw_cov {G : List (List Int)} (h : g4 G = true) : covI (twL G) G (twF G.length (2 * G.length)) = true := by
  obtain ⟨hg, h4⟩ := g4_iff.1 h
  have h1 := (good_of hg).1
  refine cov_iff.2 ⟨mapOk_iff.2 ⟨⟨gOk_true (tw_good h), hg⟩, ⟨by rw [twF_len, tw_len h], fun j y hy => ?_⟩, fun i j hi hj ha => ?_⟩, fun k hk y hy => ?_⟩
  · have hj := (List.getElem?_eq_some_iff.1 hy).1
    rw [twF_len] at hj
    rw [twF_get hj] at hy
    cases hy
    have := Nat.mod_lt j (show G.length > 0 by omega)
    omega
  · rw [tw_len h] at hi hj
    rw [tw_yes h, arw_rowsP hi hj] at ha
    rw [twF_nd hi, twF_nd hj]
    unfold twP at ha
    rw [Bool.and_eq_true] at ha
    exact ha.2
  · rw [tw_len h] at hk
    rw [twF_nd hk]
    have key : ∀ P : Nat → Nat → Bool, (sumN (2 * G.length) fun j => bN (nd (twF G.length (2 * G.length)) j == y && ((k / G.length != j / G.length) && P (k % G.length) (j % G.length)))) = bN (P (k % G.length) y) := fun P => by
      rw [show 2 * G.length = G.length + G.length by omega, sumN_split]
      have hlo : ∀ j, j < G.length → nd (twF G.length (G.length + G.length)) j = j ∧ j / G.length = 0 ∧ j % G.length = j := fun j hj => by
        rw [twF_nd (by omega), Nat.mod_eq_of_lt hj, Nat.div_eq_of_lt hj]; exact ⟨rfl, rfl, rfl⟩
      have hhi : ∀ j, j < G.length → nd (twF G.length (G.length + G.length)) (G.length + j) = j ∧ (G.length + j) / G.length = 1 ∧ (G.length + j) % G.length = j := fun j hj => by
        have e1 : (G.length + j) % G.length = j := by rw [Nat.add_mod_left, Nat.mod_eq_of_lt hj]
        have e2 : (G.length + j) / G.length = 1 := by rw [Nat.add_div_left _ (by omega), Nat.div_eq_of_lt hj]
        rw [twF_nd (by omega), e1, e2]; exact ⟨rfl, rfl, rfl⟩
      by_cases hkl : k < G.length
      · have ek : k / G.length = 0 := Nat.div_eq_of_lt hkl
        rw [sumN_none (m := G.length), Nat.zero_add, ← sum_is (fun j => P (k % G.length) j) hy]
        · refine sumN_congr fun j hj => ?_
          obtain ⟨a, b, c⟩ := hhi j hj
          rw [a, b, c, ek, Bool.beq_comm]; rfl
        · intro j hj
          obtain ⟨a, b, c⟩ := hlo j hj
          rw [a, b, ek]; simp [bN]
      · have ek : k / G.length = 1 := by
          rw [show k = G.length + (k - G.length) by omega, Nat.add_div_left _ (by omega), Nat.div_eq_of_lt (by omega)]
        rw [Nat.add_comm (sumN _ _) (sumN _ _), sumN_none (m := G.length), Nat.zero_add, ← sum_is (fun j => P (k % G.length) j) hy]
        · refine sumN_congr fun j hj => ?_
          obtain ⟨a, b, c⟩ := hlo j hj
          rw [a, b, c, ek, Bool.beq_comm]; rfl
        · intro j hj
          obtain ⟨a, b, c⟩ := hhi j hj
          rw [a, b, ek]; simp [bN]
    refine ⟨?_, ?_⟩
    · rw [← key (fun a b => arw G a b)]
      unfold outN
      rw [tw_len h]
      exact sumN_congr fun j hj => by rw [tw_yes h, arw_rowsP hk hj]; rfl
    · rw [← key (fun a b => arw G b a)]
      unfold inN
      rw [tw_len h]
      refine sumN_congr fun j hj => ?_
      rw [tw_yes h, arw_rowsP hj hk]
      unfold twP
      rw [bne_comm]
theorem tw_arrows {G : List (List Int)} (h : g4 G = true) : arrowsI (twL G) = 2 * arrowsI G := by
  obtain ⟨hg, h4⟩ := g4_iff.1 h
  have hc := tw_cov h
  have hT := (mapOk_iff.1 (cov_iff.1 hc).1).2.1
  have h1 := (good_of hg).1
  have key : (AL (twL G)).length = 2 * (AL G).length := by
    rw [AL_cnt, AL_cnt, cnt_sum, cnt_sum]
    have e1 : (sumN (twL G).length fun k => sumN (twL G).length fun l => bN (arw (twL G) k l)) = sumN (twL G).length fun k => sumN G.length fun y => bN (arw G (k % G.length) y) := sumN_congr fun k hk => by
      rw [cov_outs hc hk, twF_nd (by rw [← tw_len h]; exact hk)]
    rw [e1, tw_len h, show 2 * G.length = G.length + G.length by omega, sumN_split]
    have e2 : (sumN G.length fun k => sumN G.length fun y => bN (arw G (k % G.length) y)) = sumN G.length fun k => sumN G.length fun y => bN (arw G k y) := sumN_congr fun k hk => by rw [Nat.mod_eq_of_lt hk]
    have e3 : (sumN G.length fun k => sumN G.length fun y => bN (arw G ((G.length + k) % G.length) y)) = sumN G.length fun k => sumN G.length fun y => bN (arw G k y) := sumN_congr fun k hk => by rw [Nat.add_mod_left, Nat.mod_eq_of_lt hk]
    rw [e2, e3]; omega
  rw [arrowsI_yes (gOk_true (tw_good h)), arrowsI_yes hg, key, Int.natCast_mul]; rfl
theorem same_self {G : List (List Int)} (h : gOk G = true) (h5 : G.length ≤ 5) : (sameGI G G).isSome = true := by
  refine same_some.2 ⟨⟨h, h, rfl, h5⟩, ownL G.length, by simp [ownL], own_nodes _, same_iff.2 fun i j hi hj => by rw [ownL_nd hi, ownL_nd hj]⟩

/-- ALL COVERS. -/
def covL (G H : List (List Int)) : List (List Int) := (mapsL G H).filter fun f => covI G H f
set_option maxRecDepth 100000 in
theorem ring_cov : ∀ a, a < 4 → ∀ b, b < 4 → (covL (rinL (a + 1)) (rinL (b + 1))).isEmpty = !((a + 1) % (b + 1) == 0) := by decide +kernel

end Go.Proofs.Ytldkgkpiceamhaa

namespace Go.Proofs.Ytldkgkpiceamhaa
open Go.RowKit Go.Shelf Go.Deep

/-- A TEST. -/
def tstL (n : Nat) : List (List Int) := if n < 2 then [[(n : Int)]] else [[(((n - 2) % 2 : Nat) : Int), (((n - 2) / 2 % 2 : Nat) : Int)], [(((n - 2) / 4 % 2 : Nat) : Int), (((n - 2) / 8 % 2 : Nat) : Int)]]
def tstI (z : Int) : List (List Int) := if 0 ≤ z ∧ z ≤ 17 then tstL z.toNat else []
theorem tst_ok : ∀ n, n < 18 → gOk (tstL n) = true ∧ (tstL n).length ≤ 2 := by decide +kernel
theorem tst_ne : ∀ n, n < 18 → ∀ k, k < n → tstL k ≠ tstL n := by decide +kernel
theorem tst_yes {n : Nat} (h : n < 18) : tstI n = tstL n := by unfold tstI; rw [if_pos (by omega), Int.toNat_natCast]
theorem tst_no {z : Int} (h : ¬ (0 ≤ z ∧ z ≤ 17)) : tstI z = [] := if_neg h
theorem tst_len {n : Nat} (h : n < 18) : 1 ≤ (tstL n).length := (good_of (tst_ok n h).1).1
theorem tst_fit {z : Int} : Fit (tstI z) := by
  by_cases h : 0 ≤ z ∧ z ≤ 17
  · obtain ⟨n, rfl⟩ : ∃ n : Nat, z = (n : Int) := ⟨z.toNat, by omega⟩
    rw [tst_yes (by omega)]
    exact (good_of (tst_ok n (by omega)).1).fit
  · rw [tst_no h]; exact ⟨by simp, fun xs hx => by simp at hx⟩

end Go.Proofs.Ytldkgkpiceamhaa
