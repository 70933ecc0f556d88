/-
  Several texts in one.
  Whole graphs, colours, both ways: the pure facts of chapter 8, the first part.
  One way, the shortest way: the pure facts of chapter 8, the second part: walks tell colours.
  spec.OneWay, walked.
  One of two arrows kept, pair by pair, as a program goes through them: the pure facts of the program's chapter 8.
  The shortest way, told by so many numbers as there are ways, and left at the first one that no way can beat: pure facts.
-/
import Derived.Test.YtofpjepndhpciaaWA
import Derived.Test.YtofpjepndhpciaaZU
import Derived.Test.YtofpjepndhpciaaZQ
import Derived.Test.YtofpjepndhpciaaWB
import Derived.Test.YtofpjepndhpciaaZC
import Derived.Test.YtofpjepndhpciaaZE
namespace Go.Proofs.Ytofpjepndhpciaa
open Go.RowKit Go.Shelf Go.Deep

/-- THE WHOLE GRAPH. -/
def whoL (n : Nat) : List (List Int) := rowsP n fun i j => !(j == i)
theorem who_len (n : Nat) : (whoL n).length = n := rowsP_length _ _
theorem who_good {n : Nat} (h1 : 1 ≤ n) (h9 : n ≤ 9) : Good (whoL n) := rowsP_good _ h1 h9
theorem who_arw {n i j : Nat} (hi : i < n) (hj : j < n) : arw (whoL n) i j = !(j == i) := arw_rowsP hi hj
theorem who_arrows : ∀ k, k < 9 → arrowsI (whoL (k + 1)) = (((k + 1) * k : Nat) : Int) := by decide +kernel
def whoI (z : Int) : List (List Int) := if 1 ≤ z ∧ z ≤ 9 then whoL z.toNat else []
theorem whoI_yes {n : Nat} (h1 : 1 ≤ n) (h9 : n ≤ 9) : whoI n = whoL n := by unfold whoI; rw [if_pos (by omega), Int.toNat_natCast]
theorem whoI_no {z : Int} (h : ¬ (1 ≤ z ∧ z ≤ 9)) : whoI z = [] := if_neg h

/-- ARE THEY COLOURS? -/
def colOkI (G : List (List Int)) (z : Int) (f : List Int) : Bool := modK z && mapOkI G (whoL z.toNat) f
theorem col_map {G : List (List Int)} {f : List Int} {m : Nat} : IsMap G (whoL m) f ↔ Tells G.length m f ∧ ∀ i j, i < G.length → j < G.length → arw G i j = true → nd f i ≠ nd f j := by
  unfold IsMap
  rw [who_len]
  constructor
  · rintro ⟨hT, h⟩
    refine ⟨hT, fun i j hi hj ha e => ?_⟩
    have := h i j hi hj ha
    rw [who_arw (nd_tells hT hi) (nd_tells hT hj), e] at this
    simp at this
  · rintro ⟨hT, h⟩
    refine ⟨hT, fun i j hi hj ha => ?_⟩
    rw [who_arw (nd_tells hT hi) (nd_tells hT hj)]
    have := h i j hi hj ha
    simp; omega
theorem col_iff {G : List (List Int)} {f : List Int} {z : Int} : colOkI G z f = true ↔ gOk G = true ∧ (1 ≤ z ∧ z ≤ 9) ∧ IsMap G (whoL z.toNat) f := by
  unfold colOkI modK
  simp only [Bool.and_eq_true, decide_eq_true_eq]
  constructor
  · rintro ⟨hz, hm⟩
    obtain ⟨⟨hg, _⟩, hf⟩ := mapOk_iff.1 hm
    exact ⟨hg, hz, hf⟩
  · rintro ⟨hg, hz, h⟩
    exact ⟨hz, mapOk_iff.2 ⟨⟨hg, gOk_true (who_good (by omega) (by omega))⟩, h⟩⟩
theorem col_no {G : List (List Int)} {f : List Int} {z : Int} (h : modK z = false) : colOkI G z f = false := by unfold colOkI; rw [h]; rfl

/-- BOTH WAYS. -/
def bwP (G : List (List Int)) (i j : Nat) : Bool := arw G i j || arw G j i
def bwL (G : List (List Int)) : List (List Int) := if gOk G = true then rowsP G.length (bwP G) else []
theorem bw_yes {G : List (List Int)} (h : gOk G = true) : bwL G = rowsP G.length (bwP G) := if_pos h
theorem bw_no {G : List (List Int)} (h : gOk G = false) : bwL G = [] := if_neg (by rw [h]; decide)
theorem bw_len {G : List (List Int)} (h : gOk G = true) : (bwL G).length = G.length := by rw [bw_yes h, rowsP_length]
theorem bw_good {G : List (List Int)} (h : gOk G = true) : Good (bwL G) := by
  rw [bw_yes h]; exact rowsP_good _ (good_of h).1 (good_of h).2.1
theorem bw_arw {G : List (List Int)} (h : gOk G = true) {i j : Nat} (hi : i < G.length) (hj : j < G.length) : arw (bwL G) i j = (arw G i j || arw G j i) := by rw [bw_yes h, arw_rowsP hi hj]; rfl
theorem bw_turned {G : List (List Int)} (h : gOk G = true) : turnedL (bwL G) = bwL G := by
  have hg := gOk_true (bw_good h)
  rw [turnedL_yes hg, bw_len h]
  conv => rhs; rw [bw_yes h]
  refine rowsP_congr fun i j hi hj => ?_
  rw [bw_arw h hj hi]
  unfold bwP
  exact Bool.or_comm _ _
theorem bw_map {G : List (List Int)} (h : gOk G = true) : IsMap G (bwL G) (ownL G.length) := by
  refine ⟨by rw [bw_len h]; exact ownL_tells _, fun i j hi hj ha => ?_⟩
  rw [ownL_nd hi, ownL_nd hj, bw_arw h hi hj, ha]; rfl
theorem bw_bw {G : List (List Int)} (h : gOk G = true) : bwL (bwL G) = bwL G := by
  have hg := gOk_true (bw_good h)
  rw [bw_yes hg, bw_len h]
  conv => rhs; rw [bw_yes h]
  refine rowsP_congr fun i j hi hj => ?_
  unfold bwP
  rw [bw_arw h hi hj, bw_arw h hj hi]
  cases arw G i j <;> cases arw G j i <;> rfl
theorem col_bw {G : List (List Int)} {f : List Int} {m : Nat} (h : gOk G = true) : IsMap (bwL G) (whoL m) f ↔ IsMap G (whoL m) f := by
  rw [col_map, col_map, bw_len h]
  constructor
  · rintro ⟨hT, hm⟩
    exact ⟨hT, fun i j hi hj ha => hm i j hi hj (by rw [bw_arw h hi hj, ha]; rfl)⟩
  · rintro ⟨hT, hm⟩
    refine ⟨hT, fun i j hi hj ha => ?_⟩
    rw [bw_arw h hi hj, Bool.or_eq_true] at ha
    rcases ha with ha | ha
    · exact hm i j hi hj ha
    · exact fun e => hm j i hj hi ha e.symm

/-- HOW MANY ROWS OF COLOURS. -/
def cocK (G : List (List Int)) (z : Int) : Bool := g5 G && (decide (1 ≤ z) && decide (z ≤ 4))
def cocI (G : List (List Int)) (z : Int) : Int := if cocK G z = true then countI G (whoL z.toNat) else -1
theorem cocK_iff {G : List (List Int)} {z : Int} : cocK G z = true ↔ g5 G = true ∧ 1 ≤ z ∧ z ≤ 4 := by simp [cocK]
theorem coc_few {G : List (List Int)} {m : Nat} (h : g5 G = true) (h1 : 1 ≤ m) (h4 : m ≤ 4) : fewI G (whoL m) = true :=
  few5 (g5_iff.1 h).1 (gOk_true (who_good h1 (by omega))) (g5_iff.1 h).2 (by rw [who_len]; omega)
theorem coc_no {G : List (List Int)} {z : Int} (h : cocK G z = false) : cocI G z = -1 := if_neg (by rw [h]; decide)
theorem coc_z {G : List (List Int)} {z : Int} (h : cocK G z = true) : cocI G z = countI G (whoL z.toNat) := if_pos h
theorem coc_yes {G : List (List Int)} {m : Nat} (h : g5 G = true) (h1 : 1 ≤ m) (h4 : m ≤ 4) : cocI G m = ((mapsL G (whoL m)).length : Int) := by
  rw [coc_z (cocK_iff.2 ⟨h, by omega, by omega⟩), Int.toNat_natCast, countI_yes (coc_few h h1 h4)]
theorem coc_pos {G : List (List Int)} {m : Nat} (h : g5 G = true) (h1 : 1 ≤ m) (h4 : m ≤ 4) : 0 < cocI G m ↔ ∃ f, IsMap G (whoL m) f := by
  rw [coc_yes h h1 h4, ← below_iff (coc_few h h1 h4)]
  unfold belowI
  rw [decide_eq_true_eq]; omega
theorem coc_nn {G : List (List Int)} {m : Nat} (h : g5 G = true) (h1 : 1 ≤ m) (h4 : m ≤ 4) : 0 ≤ cocI G m := by rw [coc_yes h h1 h4]; omega
theorem coc_zero {G : List (List Int)} {m : Nat} (h : g5 G = true) (h1 : 1 ≤ m) (h4 : m ≤ 4) (hn : ¬ ∃ f, IsMap G (whoL m) f) : cocI G m = 0 := by
  have := coc_nn h h1 h4
  have h2 : ¬ 0 < cocI G m := fun hp => hn ((coc_pos h h1 h4).1 hp)
  omega
theorem col_loop {G : List (List Int)} {m k : Nat} (hk : k < G.length) (hl : arw G k k = true) : ¬ ∃ f, IsMap G (whoL m) f := fun ⟨_, hf⟩ => (col_map.1 hf).2 k k hk hk hl rfl
theorem coc_le {G : List (List Int)} {m : Nat} (h : g5 G = true) (h1 : 1 ≤ m) (h4 : m ≤ 4) : cocI G m ≤ ((m ^ G.length : Nat) : Int) := by
  rw [coc_yes h h1 h4, mapsL_yes (coc_few h h1 h4)]
  have := mapsFrom_length (G := G) (H := whoL m) G.length []
  rw [who_len] at this
  omega
theorem col_more {G : List (List Int)} {m k : Nat} {f : List Int} (h : IsMap G (whoL m) f) (hk : m ≤ k) : IsMap G (whoL k) f := by
  obtain ⟨hT, hm⟩ := col_map.1 h
  exact col_map.2 ⟨⟨hT.1, fun j y hy => by have := hT.2 j y hy; omega⟩, hm⟩
theorem coc_more {G : List (List Int)} {m : Nat} (h : g5 G = true) (h1 : 1 ≤ m) (h4 : m + 1 ≤ 4) : cocI G m ≤ cocI G ((m + 1 : Nat) : Int) := by
  have hf := coc_few h h1 (show m ≤ 4 by omega)
  have hf' := coc_few h (show 1 ≤ m + 1 by omega) h4
  rw [coc_yes h h1 (by omega), coc_yes h (by omega) h4]
  have hnd : (mapsL G (whoL m)).Nodup := by rw [mapsL_yes hf]; exact maps_nodup _ _ _ _
  have := nodup_le hnd (m := mapsL G (whoL (m + 1))) fun f hx => (mapsL_mem hf' f).2 (col_more ((mapsL_mem hf f).1 hx) (by omega))
  omega
theorem coc_all {G : List (List Int)} {m : Nat} (h : g5 G = true) (h1 : 1 ≤ m) (h4 : m ≤ 4) (hn : ∀ i j, i < G.length → j < G.length → arw G i j = false) : cocI G m = ((m ^ G.length : Nat) : Int) := by
  have hf := coc_few h h1 h4
  rw [coc_yes h h1 h4, ← maps_count hf, who_len]
  have hc : ∀ t, bN (mapOkI G (whoL m) (dig m G.length t)) = 1 := fun t => by
    have : mapOkI G (whoL m) (dig m G.length t) = true := mapOk_iff.2 ⟨⟨(g5_iff.1 h).1, gOk_true (who_good h1 (by omega))⟩, col_map.2 ⟨⟨dig_length _ _ _, fun j y hy => by
      have hj : j < G.length := by have := (List.getElem?_eq_some_iff.1 hy).1; rwa [dig_length] at this
      rw [dig_get m _ _ _ hj] at hy
      cases hy
      have := Nat.mod_lt (t / m ^ j) (show 0 < m by omega)
      omega⟩, fun i j hi hj ha => by rw [hn i j hi hj] at ha; cases ha⟩⟩
    rw [this]; rfl
  rw [sumN_congr fun t _ => hc t]
  have one : ∀ k, (sumN k fun _ => 1) = k := fun k => by
    induction k with
    | zero => rfl
    | succ k ih => simp only [sumN] at ih ⊢; omega
  rw [one]

/-- THE FEWEST COLOURS. -/
def g4 (G : List (List Int)) : Bool := gOk G && decide (G.length ≤ 4)
theorem g4_iff {G : List (List Int)} : g4 G = true ↔ gOk G = true ∧ G.length ≤ 4 := by simp [g4]
theorem g4_g5 {G : List (List Int)} (h : g4 G = true) : g5 G = true := g5_iff.2 ⟨(g4_iff.1 h).1, by have := (g4_iff.1 h).2; omega⟩
def fwO (G : List (List Int)) : Option Nat := ((List.range 4).map (· + 1)).find? fun n => decide (0 < cocI G ((n : Nat) : Int))
def fwK (G : List (List Int)) : Bool := g4 G && (fwO G).isSome
def fwI (G : List (List Int)) : Int := if g4 G = true then (match fwO G with | some n => (n : Int) | none => -1) else -1
theorem fw_some {G : List (List Int)} {n : Nat} (h : fwO G = some n) : (1 ≤ n ∧ n ≤ 4) ∧ 0 < cocI G n := by
  have h1 := List.find?_some h
  have h2 := List.mem_of_find?_eq_some h
  simp at h1 h2
  exact ⟨by omega, h1⟩
theorem fw_least {G : List (List Int)} {n k : Nat} (h : fwO G = some n) (hk : 1 ≤ k) (hw : 0 < cocI G k) : n ≤ k := by
  have h3 := fw_some h
  by_cases hkn : n ≤ k
  · exact hkn
  · have hlt : k < n := by omega
    obtain ⟨_, ls1, ls2, e, hall⟩ := List.find?_eq_some_iff_append.1 h
    have hk9 : k ∈ ((List.range 4).map (· + 1)) := by simp; exact ⟨k - 1, by omega, by omega⟩
    rw [e] at hk9
    rcases List.mem_append.1 hk9 with hm | hm
    · have := hall k hm
      simp at this
      omega
    · exfalso
      have hp : ((List.range 4).map (· + 1)).Pairwise (· < ·) := by decide
      rw [e] at hp
      have hp2 := (List.pairwise_append.1 hp).2.1
      rcases List.mem_cons.1 hm with rfl | hm'
      · omega
      · have := (List.pairwise_cons.1 hp2).1 k hm'
        omega
theorem fw_none {G : List (List Int)} {k : Nat} (h : fwO G = none) (hk : 1 ≤ k) (hk4 : k ≤ 4) : ¬ 0 < cocI G k := by
  have := List.find?_eq_none.1 h k (by simp; exact ⟨k - 1, by omega, by omega⟩)
  simpa using this
/-- n are the fewest colours just if there are n, and none fewer. -/
theorem fw_iff {G : List (List Int)} (h : g4 G = true) {n : Nat} : fwO G = some n ↔ (1 ≤ n ∧ n ≤ 4) ∧ (∃ f, IsMap G (whoL n) f) ∧ ∀ k, 1 ≤ k → k < n → ¬ ∃ f, IsMap G (whoL k) f := by
  have h5 := g4_g5 h
  constructor
  · intro e
    obtain ⟨hb, hp⟩ := fw_some e
    refine ⟨hb, (coc_pos h5 hb.1 hb.2).1 hp, fun k hk hkn hx => ?_⟩
    have := fw_least e hk ((coc_pos h5 hk (by omega)).2 hx)
    omega
  · rintro ⟨hb, hf, hl⟩
    have hp := (coc_pos h5 hb.1 hb.2).2 hf
    cases e : fwO G with
    | none => exact absurd hp (fw_none e hb.1 hb.2)
    | some m =>
      have h1 := fw_least e hb.1 hp
      obtain ⟨hm, hmp⟩ := fw_some e
      by_cases hlt : m < n
      · exact absurd ((coc_pos h5 hm.1 hm.2).1 hmp) (hl m hm.1 hlt)
      · rw [show m = n by omega]
theorem fw_yesI {G : List (List Int)} {n : Nat} (h : g4 G = true) (e : fwO G = some n) : fwI G = n ∧ fwK G = true := by
  unfold fwI fwK
  rw [if_pos h, e, h]; exact ⟨rfl, rfl⟩
theorem fw_noI {G : List (List Int)} (h : fwK G = false) : fwI G = -1 := by
  unfold fwK at h
  unfold fwI
  by_cases hg : g4 G = true
  · rw [hg] at h
    rw [if_pos hg]
    cases e : fwO G with
    | none => rfl
    | some n => rw [e] at h; cases h
  · rw [if_neg hg]
theorem fwK_some {G : List (List Int)} (h : fwK G = true) : g4 G = true ∧ ∃ n, fwO G = some n := by
  unfold fwK at h
  simp only [Bool.and_eq_true, Option.isSome_iff_exists] at h
  exact h
/-- COLOURS ARE TOLD just if there is no arrow to itself. -/
theorem fw_loops {G : List (List Int)} (h : g4 G = true) : (∃ n, fwO G = some n) ↔ ∀ k, k < G.length → arw G k k = false := by
  have h5 := g4_g5 h
  obtain ⟨hg, h4⟩ := g4_iff.1 h
  constructor
  · rintro ⟨n, e⟩ k hk
    obtain ⟨hb, hp⟩ := fw_some e
    cases ha : arw G k k with
    | false => rfl
    | true => exact absurd ((coc_pos h5 hb.1 hb.2).1 hp) (col_loop hk ha)
  · intro hl
    cases e : fwO G with
    | some n => exact ⟨n, rfl⟩
    | none =>
      exfalso
      have h1 := (good_of hg).1
      refine fw_none e h1 h4 ((coc_pos h5 h1 h4).2 ⟨ownL G.length, col_map.2 ⟨ownL_tells _, fun i j hi hj ha ee => ?_⟩⟩)
      rw [ownL_nd hi, ownL_nd hj] at ee
      subst ee
      rw [hl i hi] at ha; cases ha
theorem who_fw : ∀ k, k < 4 → fwO (whoL (k + 1)) = some (k + 1) ∧ corOkI (whoL (k + 1)) = true := by decide +kernel
/-- The core needs as many. -/
theorem fw_same {G H : List (List Int)} (hG : g4 G = true) (hH : g4 H = true) (h1 : ∃ f, IsMap G H f) (h2 : ∃ f, IsMap H G f) : fwO G = fwO H := by
  obtain ⟨a, ha⟩ := h1
  obtain ⟨b, hb⟩ := h2
  have key : ∀ m, (∃ f, IsMap G (whoL m) f) ↔ ∃ f, IsMap H (whoL m) f := fun m => ⟨fun ⟨f, hf⟩ => ⟨_, beh_map hb hf⟩, fun ⟨f, hf⟩ => ⟨_, beh_map ha hf⟩⟩
  have one : ∀ n, fwO G = some n ↔ fwO H = some n := fun n => by
    rw [fw_iff hG, fw_iff hH]
    simp only [key]
  cases e : fwO G with
  | some n => exact ((one n).1 e).symm
  | none =>
    cases e' : fwO H with
    | none => rfl
    | some n => rw [(one n).2 e'] at e; cases e
theorem fw_core {G : List (List Int)} (h : g4 G = true) : g4 (corL G) = true ∧ fwO (corL G) = fwO G := by
  have h5 := g4_g5 h
  have hl : (corL G).length ≤ 4 := by rw [cor_length h5]; have := imgL_le (m := G.length) (staL G); have := (g4_iff.1 h).2; omega
  have h4 : g4 (corL G) = true := g4_iff.2 ⟨gOk_true (cor_good h5), hl⟩
  exact ⟨h4, fw_same h4 h ⟨_, cor_from h5⟩ ⟨_, cor_to h5⟩⟩

end Go.Proofs.Ytofpjepndhpciaa

namespace Go.Proofs.Ytofpjepndhpciaa
open Go.RowKit Go.Shelf Go.Deep

/-- A PAIR WITH ARROWS BOTH WAYS; how many come before. -/
def bothP (G : List (List Int)) (a b : Nat) : Bool := decide (a < b) && (arw G a b && arw G b a)
theorem both_iff {G : List (List Int)} {a b : Nat} : bothP G a b = true ↔ a < b ∧ arw G a b = true ∧ arw G b a = true := by simp [bothP]
def posB (G : List (List Int)) (u : Nat) : Nat := sumN u fun v => bN (bothP G (v / G.length) (v % G.length))
def pix (G : List (List Int)) (k j : Nat) : Nat := posB G (k * G.length + j)
theorem posB_succ (G : List (List Int)) (u : Nat) : posB G (u + 1) = posB G u + bN (bothP G (u / G.length) (u % G.length)) := by simp [posB, sumN]
theorem pix_zero (G : List (List Int)) : pix G 0 0 = 0 := by simp [pix, posB, sumN]
theorem pix_row (G : List (List Int)) (k : Nat) : pix G (k + 1) 0 = pix G k G.length := by unfold pix; rw [Nat.succ_mul, Nat.add_zero]
theorem pix_next {G : List (List Int)} {k j : Nat} (hj : j < G.length) : pix G k (j + 1) = pix G k j + bN (bothP G k j) := by
  unfold pix
  rw [← Nat.add_assoc, posB_succ, pair_div hj, pair_mod hj]
theorem pix_low {G : List (List Int)} {k : Nat} : ∀ {j : Nat}, j ≤ k + 1 → j ≤ G.length → pix G k j = pix G k 0
  | 0, _, _ => rfl
  | j + 1, h, h' => by
    rw [pix_next (by omega), pix_low (j := j) (by omega) (by omega)]
    have : bothP G k j = false := by
      rw [Bool.eq_false_iff]; intro e
      have := (both_iff.1 e).1
      omega
    rw [this]; rfl
theorem posB_mono (G : List (List Int)) {u v : Nat} (h : u ≤ v) : posB G u ≤ posB G v := by
  induction h with
  | refl => exact Nat.le_refl _
  | step _ ih => rw [posB_succ]; omega
theorem pix_inj {G : List (List Int)} {i j k l : Nat} (hj : j < G.length) (hl : l < G.length) (h1 : bothP G i j = true) (h2 : bothP G k l = true) (e : pix G i j = pix G k l) : i = k ∧ j = l := by
  have step : ∀ {a b : Nat}, b < G.length → bothP G a b = true → posB G (a * G.length + b + 1) = pix G a b + 1 := fun {a b} hb hab => by
    have := pix_next (k := a) hb
    rw [hab] at this
    unfold pix at this ⊢
    rw [← Nat.add_assoc] at this
    rw [this]; rfl
  have s1 := step hj h1
  have s2 := step hl h2
  have key : i * G.length + j = k * G.length + l := by
    rcases Nat.lt_trichotomy (i * G.length + j) (k * G.length + l) with h | h | h
    · have := posB_mono G (show i * G.length + j + 1 ≤ k * G.length + l by omega)
      unfold pix at e s1
      omega
    · exact h
    · have := posB_mono G (show k * G.length + l + 1 ≤ i * G.length + j by omega)
      unfold pix at e s2
      omega
  have d1 := pair_div (i := i) hj
  have d2 := pair_div (i := k) hl
  have m1 := pair_mod (i := i) hj
  have m2 := pair_mod (i := k) hl
  rw [key] at d1 m1
  exact ⟨by omega, by omega⟩
theorem low_pairs : ∀ n, n ≤ 4 → (sumN (n * n) fun v => bN (decide (v / n < v % n))) ≤ 6 := by decide +kernel
theorem pix_six {G : List (List Int)} (h4 : G.length ≤ 4) {i j : Nat} (hi : i < G.length) (hj : j < G.length) (h : bothP G i j = true) : pix G i j < 6 := by
  have h1 := pix_next (k := i) hj
  rw [h] at h1
  have h2 : pix G i (j + 1) ≤ posB G (G.length * G.length) := by
    unfold pix
    refine posB_mono G ?_
    have := pair_lt hi hj
    omega
  have h3 : posB G (G.length * G.length) ≤ sumN (G.length * G.length) fun v => bN (decide (v / G.length < v % G.length)) := sumN_le fun v _ => by
    unfold bothP bN
    by_cases hv : v / G.length < v % G.length
    · simp only [hv, decide_true, Bool.true_and]
      split <;> simp
    · simp [hv]
  have h4 := low_pairs G.length h4
  have h5 : bN true = 1 := rfl
  omega

/-- ONE WAY. -/
def owP (G : List (List Int)) (z i j : Nat) : Bool := arw G i j && (!(bothP G i j && z / 2 ^ pix G i j % 2 == 1) && !(bothP G j i && z / 2 ^ pix G j i % 2 == 0))
def owK (G : List (List Int)) (z : Int) : Bool := gOk G && (decide (0 ≤ z) && decide (z ≤ 1023))
theorem owK_iff {G : List (List Int)} {z : Int} : owK G z = true ↔ gOk G = true ∧ 0 ≤ z ∧ z ≤ 1023 := by simp [owK]
def owL (G : List (List Int)) (z : Int) : List (List Int) := if owK G z = true then rowsP G.length (owP G z.toNat) else []
theorem ow_yes {G : List (List Int)} {z : Int} (h : owK G z = true) : owL G z = rowsP G.length (owP G z.toNat) := if_pos h
theorem ow_no {G : List (List Int)} {z : Int} (h : owK G z = false) : owL G z = [] := if_neg (by rw [h]; decide)
theorem ow_len {G : List (List Int)} {z : Int} (h : owK G z = true) : (owL G z).length = G.length := by rw [ow_yes h, rowsP_length]
theorem ow_good {G : List (List Int)} {z : Int} (h : owK G z = true) : Good (owL G z) := by
  have := good_of (owK_iff.1 h).1
  rw [ow_yes h]; exact rowsP_good _ this.1 this.2.1
theorem ow_arw {G : List (List Int)} {z : Int} (h : owK G z = true) {i j : Nat} (hi : i < G.length) (hj : j < G.length) : arw (owL G z) i j = owP G z.toNat i j := by rw [ow_yes h, arw_rowsP hi hj]
theorem owP_sub {G : List (List Int)} {z i j : Nat} (h : owP G z i j = true) : arw G i j = true := by
  unfold owP at h
  simp only [Bool.and_eq_true] at h
  exact h.1
theorem owP_less {G : List (List Int)} {z i j : Nat} (h : owP G z i j = true) (hb : bothP G i j = true) : z / 2 ^ pix G i j % 2 = 0 := by
  unfold owP at h
  rw [hb] at h
  simp only [Bool.and_eq_true, Bool.true_and, Bool.not_eq_true', beq_eq_false_iff_ne] at h
  have := h.2.1
  omega
theorem owP_more {G : List (List Int)} {z i j : Nat} (h : owP G z i j = true) (hb : bothP G j i = true) : z / 2 ^ pix G j i % 2 = 1 := by
  unfold owP at h
  rw [hb] at h
  simp only [Bool.and_eq_true, Bool.true_and, Bool.not_eq_true', beq_eq_false_iff_ne] at h
  have := h.2.2
  omega
theorem both_not {G : List (List Int)} {a b : Nat} (h : ¬ a < b) : bothP G a b = false := by
  rw [Bool.eq_false_iff]; intro e; exact h (both_iff.1 e).1
/-- NO TWO NODES HAVE ARROWS BOTH WAYS any more. -/
theorem ow_one {G : List (List Int)} {z i j : Nat} (hij : i ≠ j) (h1 : owP G z i j = true) (h2 : owP G z j i = true) : False := by
  have a1 := owP_sub h1
  have a2 := owP_sub h2
  rcases Nat.lt_or_gt_of_ne hij with hl | hl
  · have hb : bothP G i j = true := both_iff.2 ⟨hl, a1, a2⟩
    have e1 := owP_less h1 hb
    have e2 := owP_more h2 hb
    omega
  · have hb : bothP G j i = true := both_iff.2 ⟨hl, a2, a1⟩
    have e1 := owP_more h1 hb
    have e2 := owP_less h2 hb
    omega
theorem ow_cover {G : List (List Int)} (z : Nat) {i j : Nat} (h : arw G i j = true) : owP G z i j = true ∨ owP G z j i = true := by
  by_cases hr : arw G j i = true
  · rcases Nat.lt_trichotomy i j with hl | hl | hl
    · have hn := both_not (G := G) (show ¬ j < i by omega)
      by_cases hd : z / 2 ^ pix G i j % 2 = 1
      · right
        unfold owP
        rw [hn, hr]
        simp [hd]
      · left
        unfold owP
        rw [hn, h]
        simp [hd]
    · subst hl
      left
      unfold owP
      rw [both_not (G := G) (show ¬ i < i by omega), h]; rfl
    · have hn := both_not (G := G) (show ¬ i < j by omega)
      by_cases hd : z / 2 ^ pix G j i % 2 = 0
      · right
        unfold owP
        rw [hn, hr]
        simp [hd]
      · left
        unfold owP
        rw [hn, h]
        simp; omega
  · left
    have h1 : bothP G i j = false := by rw [Bool.eq_false_iff]; intro e; exact hr (both_iff.1 e).2.2
    have h2 : bothP G j i = false := by rw [Bool.eq_false_iff]; intro e; exact hr (both_iff.1 e).2.1
    unfold owP
    rw [h1, h2, h]; rfl
theorem ow_bw {G : List (List Int)} {z : Int} (h : owK G z = true) : bwL (owL G z) = bwL G := by
  rw [bw_yes (gOk_true (ow_good h)), bw_yes (owK_iff.1 h).1, ow_len h]
  refine rowsP_congr fun i j hi hj => ?_
  unfold bwP
  rw [ow_arw h hi hj, ow_arw h hj hi, Bool.eq_iff_iff]
  simp only [Bool.or_eq_true]
  constructor
  · rintro (e | e)
    · exact .inl (owP_sub e)
    · exact .inr (owP_sub e)
  · rintro (e | e)
    · exact ow_cover z.toNat e
    · exact (ow_cover z.toNat e).symm

/-- Any digits belong to a number. -/
theorem bits_of : ∀ (m : Nat) (D : Nat → Bool), ∃ z, z < 2 ^ m ∧ ∀ t, t < m → z / 2 ^ t % 2 = bN (D t)
  | 0, D => ⟨0, by decide, fun t h => absurd h (Nat.not_lt_zero _)⟩
  | m + 1, D => by
    obtain ⟨z, h1, h2⟩ := bits_of m fun t => D (t + 1)
    have hb : bN (D 0) ≤ 1 := by unfold bN; split <;> omega
    refine ⟨bN (D 0) + 2 * z, by rw [Nat.pow_succ]; omega, fun t ht => ?_⟩
    cases t with
    | zero => simp; omega
    | succ t =>
      rw [Nat.pow_succ', ← Nat.div_div_eq_div_mul, show (bN (D 0) + 2 * z) / 2 = z by omega]
      exact h2 t (by omega)

/-- A longest walk colours. -/
theorem way_col {G : List (List Int)} {z : Int} {x : Nat} (hg : gOk G = true) (hk : owK (bwL G) z = true) (h : lngO (owL (bwL G) z) = some x) : ∃ f, IsMap G (whoL x) f := by
  obtain ⟨⟨h1, _⟩, hw⟩ := lng_some h
  obtain ⟨f, hT, hm⟩ := (line_map h1).2 hw
  rw [ow_len hk, bw_len hg] at hT
  rw [lin_len] at hT
  refine ⟨f, col_map.2 ⟨hT, fun i j hi hj ha e => ?_⟩⟩
  have hlen : (owL (bwL G) z).length = G.length := by rw [ow_len hk, bw_len hg]
  have step : ∀ a b, a < G.length → b < G.length → owP (bwL G) z.toNat a b = true → nd f a < nd f b := fun a b ha hb hab => by
    have := hm a b (by omega) (by omega) (by rw [ow_arw hk (by rw [bw_len hg]; exact ha) (by rw [bw_len hg]; exact hb)]; exact hab)
    rw [lin_arw (nd_tells hT ha) (nd_tells hT hb)] at this
    exact of_decide_eq_true this
  have hab : arw (bwL G) i j = true := by rw [bw_arw hg hi hj, ha]; rfl
  rcases ow_cover z.toNat hab with ho | ho
  · have := step i j hi hj ho; omega
  · have := step j i hj hi ho; omega
/-- Colours tell a way. -/
theorem col_way {G : List (List Int)} {n : Nat} {f : List Int} (h : g4 G = true) (h1 : 1 ≤ n) (hn : n ≤ 9) (hf : IsMap G (whoL n) f) : ∃ z, z < 64 ∧ ∃ x, lngO (owL (bwL G) ((z : Nat) : Int)) = some x ∧ x ≤ n := by
  obtain ⟨hg, h4⟩ := g4_iff.1 h
  have hbl := bw_len hg
  obtain ⟨hT, hm⟩ := col_map.1 ((col_bw hg).2 hf)
  obtain ⟨z, hz, hd⟩ := bits_of 6 fun t => (List.range G.length).any fun i => (List.range G.length).any fun j => bothP (bwL G) i j && (decide (pix (bwL G) i j = t) && decide (nd f j < nd f i))
  refine ⟨z, hz, ?_⟩
  have hk : owK (bwL G) ((z : Nat) : Int) = true := owK_iff.2 ⟨gOk_true (bw_good hg), by omega, by omega⟩
  have dig : ∀ i j, i < G.length → j < G.length → bothP (bwL G) i j = true → (z / 2 ^ pix (bwL G) i j % 2 = 1 ↔ nd f j < nd f i) := fun i j hi hj hb => by
    rw [hd _ (pix_six (by rw [hbl]; exact h4) (by rw [hbl]; exact hi) (by rw [hbl]; exact hj) hb)]
    have hbn : ∀ b : Bool, bN b = 1 ↔ b = true := fun b => by cases b <;> simp [bN]
    rw [hbn]
    simp only [List.any_eq_true, List.mem_range, Bool.and_eq_true, decide_eq_true_eq]
    constructor
    · rintro ⟨a, ha, b, hb', h2, h3, h4⟩
      obtain ⟨rfl, rfl⟩ := pix_inj (by rw [hbl]; exact hb') (by rw [hbl]; exact hj) h2 hb h3
      exact h4
    · intro h2
      exact ⟨i, hi, j, hj, hb, rfl, h2⟩
  have hmap : IsMap (owL (bwL G) ((z : Nat) : Int)) (linL n) f := by
    unfold IsMap
    rw [ow_len hk, lin_len, hbl]
    rw [hbl] at hT hm
    refine ⟨hT, fun i j hi hj ha => ?_⟩
    rw [ow_arw hk (by rw [hbl]; exact hi) (by rw [hbl]; exact hj), Int.toNat_natCast] at ha
    have hab := owP_sub ha
    have hne := hm i j hi hj hab
    have hba : arw (bwL G) j i = true := by
      rw [bw_arw hg hi hj] at hab
      rw [bw_arw hg hj hi, Bool.or_comm]; exact hab
    rw [lin_arw (nd_tells hT hi) (nd_tells hT hj)]
    refine decide_eq_true ?_
    rcases Nat.lt_trichotomy i j with hl | hl | hl
    · have hb : bothP (bwL G) i j = true := both_iff.2 ⟨hl, hab, hba⟩
      have e := owP_less ha hb
      have := (dig i j hi hj hb).2
      by_cases hlt : nd f j < nd f i
      · have := this hlt; omega
      · omega
    · subst hl; exact absurd rfl hne
    · have hb : bothP (bwL G) j i = true := both_iff.2 ⟨hl, hba, hab⟩
      exact (dig j i hj hi hb).1 (owP_more ha hb)
  obtain ⟨x, hx, hxn⟩ := (lng_le h1 hn).2 ((line_map h1).1 ⟨f, hmap⟩)
  exact ⟨x, hx, hxn⟩

/-- THE SHORTEST WAY: the best after so many numbers. -/
def swT (B : List (List Int)) : Nat → Int
  | 0 => -1
  | n + 1 => if lngK (owL B ((n : Nat) : Int)) = true ∧ (swT B n < 0 ∨ lngI (owL B ((n : Nat) : Int)) < swT B n) then lngI (owL B ((n : Nat) : Int)) else swT B n
theorem lngK_yes {G : List (List Int)} (hg : gOk G = true) {n : Nat} (h : lngO G = some n) : lngK G = true ∧ lngI G = (n : Int) := by
  unfold lngK lngI
  rw [hg, h]; exact ⟨rfl, rfl⟩
theorem lngK_not {G : List (List Int)} (h : lngO G = none) : lngK G = false := by unfold lngK; rw [h]; simp
theorem sw_min {B : List (List Int)} (hB : gOk B = true) : ∀ {n : Nat}, n ≤ 64 → (swT B n = -1 ∧ ∀ m, m < n → lngO (owL B ((m : Nat) : Int)) = none) ∨ ∃ x : Nat, 1 ≤ x ∧ swT B n = (x : Int) ∧ (∃ m, m < n ∧ lngO (owL B ((m : Nat) : Int)) = some x) ∧ ∀ m y, m < n → lngO (owL B ((m : Nat) : Int)) = some y → x ≤ y
  | 0, _ => .inl ⟨rfl, fun m h => absurd h (Nat.not_lt_zero _)⟩
  | n + 1, h64 => by
    have hk : owK B ((n : Nat) : Int) = true := owK_iff.2 ⟨hB, by omega, by omega⟩
    have hgo := gOk_true (ow_good hk)
    have below : ∀ {m}, m < n + 1 → m = n ∨ m < n := fun h => by omega
    rcases sw_min hB (n := n) (by omega) with ⟨h1, h2⟩ | ⟨x, hx1, h1, ⟨m, hm, hm2⟩, h2⟩
    · cases e : lngO (owL B ((n : Nat) : Int)) with
      | none =>
        left
        refine ⟨by simp only [swT]; rw [if_neg (by rw [lngK_not e]; simp)]; exact h1, fun m hm => ?_⟩
        rcases below hm with rfl | hm
        · exact e
        · exact h2 m hm
      | some y =>
        right
        obtain ⟨k1, k2⟩ := lngK_yes hgo e
        refine ⟨y, (lng_some e).1.1, by simp only [swT]; rw [if_pos ⟨k1, .inl (by omega)⟩]; exact k2, ⟨n, by omega, e⟩, fun m y' hm hy' => ?_⟩
        rcases below hm with rfl | hm
        · rw [e] at hy'; cases hy'; exact Nat.le_refl _
        · rw [h2 m hm] at hy'; cases hy'
    · cases e : lngO (owL B ((n : Nat) : Int)) with
      | none =>
        right
        refine ⟨x, hx1, by simp only [swT]; rw [if_neg (by rw [lngK_not e]; simp)]; exact h1, ⟨m, by omega, hm2⟩, fun m y' hm hy' => ?_⟩
        rcases below hm with rfl | hm
        · rw [e] at hy'; cases hy'
        · exact h2 m y' hm hy'
      | some y =>
        right
        obtain ⟨k1, k2⟩ := lngK_yes hgo e
        have hy1 := (lng_some e).1.1
        by_cases hlt : y < x
        · refine ⟨y, hy1, by simp only [swT]; rw [if_pos ⟨k1, .inr (by rw [k2, h1]; omega)⟩]; exact k2, ⟨n, by omega, e⟩, fun m y' hm hy' => ?_⟩
          rcases below hm with rfl | hm
          · rw [e] at hy'; cases hy'; exact Nat.le_refl _
          · have := h2 m y' hm hy'; omega
        · refine ⟨x, hx1, by simp only [swT]; rw [if_neg (by rw [k2, h1]; omega)]; exact h1, ⟨m, by omega, hm2⟩, fun m y' hm hy' => ?_⟩
          rcases below hm with rfl | hm
          · rw [e] at hy'; cases hy'; omega
          · exact h2 m y' hm hy'
def swI (G : List (List Int)) : Int := if g4 G = true then swT (bwL G) 64 else -1
def swK (G : List (List Int)) : Bool := decide (0 < swI G)
theorem sw_no {G : List (List Int)} (h : g4 G = false) : swI G = -1 ∧ swK G = false := by
  have e : swI G = -1 := if_neg (by rw [h]; decide)
  exact ⟨e, by unfold swK; rw [e]; rfl⟩
/-- WALKS TELL COLOURS. -/
theorem sw_fw (G : List (List Int)) : swI G = fwI G ∧ swK G = fwK G := by
  cases hg4 : g4 G with
  | false =>
    obtain ⟨e1, e2⟩ := sw_no hg4
    have hk : fwK G = false := by unfold fwK; rw [hg4]; rfl
    rw [e1, e2, hk, fw_noI hk]; exact ⟨rfl, rfl⟩
  | true =>
    have hg := (g4_iff.1 hg4).1
    have hB := gOk_true (bw_good hg)
    have e0 : swI G = swT (bwL G) 64 := if_pos hg4
    have hok : ∀ m : Nat, m < 64 → owK (bwL G) ((m : Nat) : Int) = true := fun m hm => owK_iff.2 ⟨hB, by omega, by omega⟩
    cases e : fwO G with
    | none =>
      have hk : fwK G = false := by unfold fwK; rw [e]; simp
      have hno : ∀ x, ¬ ∃ f, IsMap G (whoL x) f := fun x hx => by
        have h1 : ¬ ∃ n, fwO G = some n := fun ⟨n, hn⟩ => by rw [e] at hn; cases hn
        apply h1
        refine (fw_loops hg4).2 fun k hk => ?_
        cases ha : arw G k k with
        | false => rfl
        | true => exact absurd hx (col_loop hk ha)
      rcases sw_min hB (n := 64) (Nat.le_refl _) with ⟨h1, _⟩ | ⟨x, _, _, ⟨m, hm, hm2⟩, _⟩
      · rw [hk, fw_noI hk]
        unfold swK
        rw [e0, h1]; exact ⟨rfl, rfl⟩
      · exact absurd (way_col hg (hok m hm) hm2) (hno x)
    | some n =>
      obtain ⟨i1, i2⟩ := fw_yesI hg4 e
      obtain ⟨hb, ⟨f, hf⟩, hl⟩ := (fw_iff hg4).1 e
      obtain ⟨z, hz, x, hx, hxn⟩ := col_way hg4 hb.1 (by omega) hf
      rcases sw_min hB (n := 64) (Nat.le_refl _) with ⟨_, h2⟩ | ⟨y, hy1, h1, ⟨m, hm, hm2⟩, h2⟩
      · rw [h2 z hz] at hx; cases hx
      · have h3 := h2 z x hz hx
        have h4 := way_col hg (hok m hm) hm2
        have h5 : ¬ y < n := fun hlt => hl y hy1 hlt h4
        have hyn : y = n := by omega
        rw [i1, i2]
        unfold swK
        rw [e0, h1, hyn]
        exact ⟨rfl, decide_eq_true (by omega)⟩

end Go.Proofs.Ytofpjepndhpciaa

namespace Go.Proofs.Ytofpjepndhpciaa
open Go.RowKit Go.Shelf Go.Deep

theorem OwnSep.appended {base : Nat} {W w1 : World} {v v' x : Value} {xss : List (List Int)} {xs : List Int} {vs : List Value} {o : Obj} (ho : W.ownsRow base 47 1 v xss.length vs)
    (hv : ∀ (i : Nat) (x : Value) (xs : List Int), vs[i]? = some x → xss[i]? = some xs → W.ownsRow base 3 1 x xs.length (xs.map (Value.int .i64))) (hs : Sep vs) (hx : W.ownsRow base 3 1 x xs.length (xs.map (Value.int .i64)))
    (hne : ∀ y ∈ vs, ∀ g, y.ownBlock = some g → x.ownBlock ≠ some g)
    (hown : w1.ownsRow base 47 1 v' (xss.length + 1) (vs ++ [x])) (hgrow : (W.alloc o).grownBy w1 v.ownBlock) : OwnSep base w1 v' (xss ++ [xs]) := by
  have hvl : vs.length = xss.length := by simpa using ho.1
  refine ⟨vs ++ [x], by rw [List.length_append, List.length_singleton]; exact hown, fun i y ys hy hys => ?_, hs.snoc hne⟩
  by_cases hi : i < vs.length
  · rw [List.getElem?_append_left hi] at hy
    rw [List.getElem?_append_left (by omega)] at hys
    have h1 := hv i y ys hy hys
    exact (h1.alloc o).kept hgrow (own_ne_own (ho.alloc o) (h1.alloc o))
  · rw [List.getElem?_append_right (by omega)] at hy hys
    have e1 : i - vs.length = 0 := by have := (List.getElem?_eq_some_iff.1 hy).1; simp at this; omega
    rw [e1] at hy; rw [show i - xss.length = 0 by omega] at hys
    simp at hy hys
    subst hy; subst hys
    exact (hx.alloc o).kept hgrow (own_ne_own (ho.alloc o) (hx.alloc o))
theorem OwnSep.start (W : World) {base : Nat} (hb : base ≤ W.heap.size) : OwnSep base (W.alloc (.cells #[] 47)) (.slice (some ⟨W.heap.size, 0, none⟩) 0 0) [] :=
  ⟨[], World.ownsRow_lit (size := 1) W #[] 0 hb (Nat.zero_le _) rfl, fun i x xs hx => by simp at hx, fun i j x y g _ hx => by simp at hx⟩
/-- One row of rows that lie apart: where it lies, and one entry set. -/
theorem OwnSep.row {base g cap N : Nat} {W : World} {xss : List (List Int)} (h : OwnSep base W (.slice (some ⟨g, 0, none⟩) N cap) xss) (hN : xss.length = N) {a : Nat} {xs : List Int} (ha : xss[a]? = some xs) (h1 : 1 ≤ xs.length) :
    ∃ r c, W.cell? ⟨g, a, none⟩ = some (.slice (some ⟨r, 0, none⟩) xs.length c) ∧ base ≤ r ∧ (∀ b, b < xs.length → ∃ y : Int, W.cell? ⟨r, b, none⟩ = some (.int .i64 y)) ∧ (∀ b, W.frozen? ⟨r, b, none⟩ = false) ∧
      ∀ (b : Nat) (x : Int), OwnSep base (W.setCell ⟨r, b, none⟩ (.int .i64 x)) (.slice (some ⟨g, 0, none⟩) N cap) (xss.set a (xs.set b x)) := by
  subst hN
  obtain ⟨vs, ho, hr, hs⟩ := h
  have hvl : vs.length = xss.length := by simpa using ho.1
  have hal : a < xss.length := (List.getElem?_eq_some_iff.1 ha).1
  obtain ⟨x, hx⟩ : ∃ x, vs[a]? = some x := ⟨_, List.getElem?_eq_getElem (by omega)⟩
  have hro := hr a x xs hx ha
  obtain ⟨r, c, rfl⟩ := Joins.ownsRow_form hro (by omega)
  have hrl := hro.lt r (by simp [Value.ownBlock])
  have hne := own_ne_own ho hro
  refine ⟨r, c, ?_, hrl.1, fun b hb => ?_, fun b => hro.frozenAt b, fun b y => ?_⟩
  · have hc := ho.cellAt a (by omega)
    rw [hc]; exact hx
  · have hc := hro.cellAt b (by omega)
    rw [List.getElem?_map, List.getElem?_eq_getElem hb] at hc
    exact ⟨_, hc⟩
  · have hg := grownBy_setX W r b (.int .i64 y)
    refine ⟨vs, by rw [List.length_set]; exact ho.kept hg (.inr (fun e => by
        rcases hne with h | h
        · simp [Value.ownBlock] at h
        · exact h e.symm)), fun i u us hu hus => ?_, hs⟩
    by_cases e : i = a
    · subst e
      rw [hx] at hu
      cases hu
      rw [List.getElem?_set_self hal] at hus
      have e2 : xs.set b y = us := by simpa using hus
      subst e2
      rw [List.length_set, List.map_set]
      exact (hro.stored b (.int .i64 y)).1
    · rw [List.getElem?_set_ne (fun e2 => e e2.symm)] at hus
      refine (hr i u us hu hus).kept hg ?_
      cases hub : u.ownBlock with
      | none => exact .inl rfl
      | some q =>
        refine .inr fun e2 => ?_
        cases e2
        exact hs i a u _ r e hu hx hub (by simp [Value.ownBlock])

/-- One entry set to 0. -/
theorem rowsP_clear {m : Nat} {p : Nat → Nat → Bool} {x y : Nat} (hx : x < m) (hy : y < m) :
    (rowsP m p).set x (((List.range m).map fun j => if p x j = true then (1 : Int) else 0).set y 0) = rowsP m fun a b => p a b && !(x == a && y == b) := by
  refine List.ext_getElem? fun i => ?_
  by_cases hi : i < m
  · rw [rowsP_get hi]
    by_cases e : i = x
    · subst e
      rw [List.getElem?_set_self (by rw [rowsP_length]; exact hi)]
      congr 1
      refine List.ext_getElem? fun j => ?_
      by_cases hj : j < m
      · by_cases e2 : j = y
        · subst e2
          rw [List.getElem?_set_self (by simp; exact hj)]
          simp [hj]
        · rw [List.getElem?_set_ne (fun h => e2 h.symm)]
          have : ¬ y = j := fun h => e2 h.symm
          simp [hj, this]
      · rw [List.getElem?_eq_none (by simp; omega), List.getElem?_eq_none (by simp; omega)]
    · rw [List.getElem?_set_ne (fun h => e h.symm), rowsP_get hi]
      have : (x == i) = false := by simp; exact fun h => e h.symm
      simp [this]
  · rw [List.getElem?_eq_none (by simp [rowsP_length]; omega), List.getElem?_eq_none (by rw [rowsP_length]; omega)]

/-- The graph of which the pairs before the u-th place keep one way. -/
def owTo (G : List (List Int)) (z u a b : Nat) : Bool :=
  arw G a b && (!(bothP G a b && (decide (a * G.length + b < u) && z / 2 ^ pix G a b % 2 == 1)) && !(bothP G b a && (decide (b * G.length + a < u) && z / 2 ^ pix G b a % 2 == 0)))
theorem owTo_zero {G : List (List Int)} (hG : Good G) (z : Nat) : rowsP G.length (owTo G z 0) = G := by
  refine (rowsP_congr fun i j _ _ => ?_).trans (good_rowsP hG).symm
  unfold owTo
  simp
theorem owTo_all (G : List (List Int)) (z : Nat) : rowsP G.length (owTo G z (G.length * G.length)) = rowsP G.length (owP G z) := by
  refine rowsP_congr fun i j hi hj => ?_
  unfold owTo owP
  rw [decide_eq_true (pair_lt hi hj), decide_eq_true (pair_lt hj hi), Bool.true_and, Bool.true_and]
theorem place_one {n a b k j : Nat} (hb : b < n) (hj : j < n) : decide (a * n + b < k * n + j + 1) = (decide (a * n + b < k * n + j) || decide (a = k ∧ b = j)) := by
  rw [Bool.eq_iff_iff]
  simp only [Bool.or_eq_true, decide_eq_true_eq]
  constructor
  · intro h
    by_cases e : a * n + b = k * n + j
    · right
      have d1 := pair_div (i := a) hb
      have d2 := pair_div (i := k) hj
      have m1 := pair_mod (i := a) hb
      have m2 := pair_mod (i := k) hj
      rw [e] at d1 m1
      omega
    · left; omega
  · rintro (h | ⟨rfl, rfl⟩) <;> omega
theorem owTo_no {G : List (List Int)} {z k j : Nat} (hj : j < G.length) (h : bothP G k j = false) : rowsP G.length (owTo G z (k * G.length + j + 1)) = rowsP G.length (owTo G z (k * G.length + j)) := by
  refine rowsP_congr fun a b ha hb => ?_
  unfold owTo
  rw [place_one hb hj, place_one ha hj]
  have n1 : (bothP G a b && decide (a = k ∧ b = j)) = false := by
    by_cases e : a = k ∧ b = j
    · obtain ⟨rfl, rfl⟩ := e; rw [h]; rfl
    · simp [e]
  have n2 : (bothP G b a && decide (b = k ∧ a = j)) = false := by
    by_cases e : b = k ∧ a = j
    · obtain ⟨rfl, rfl⟩ := e; rw [h]; rfl
    · simp [e]
  congr 2
  · congr 1
    cases hq : decide (a = k ∧ b = j) with
    | false => rw [Bool.or_false]
    | true => rw [hq, Bool.and_true] at n1; rw [n1]; rfl
  · congr 1
    cases hq : decide (b = k ∧ a = j) with
    | false => rw [Bool.or_false]
    | true => rw [hq, Bool.and_true] at n2; rw [n2]; rfl
theorem owTo_less {G : List (List Int)} {z k j : Nat} (hk : k < G.length) (hj : j < G.length) (h : bothP G k j = true) (hd : z / 2 ^ pix G k j % 2 = 0) :
    rowsP G.length (owTo G z (k * G.length + j + 1)) = rowsP G.length fun a b => owTo G z (k * G.length + j) a b && !(j == a && k == b) := by
  have hkj := (both_iff.1 h).1
  refine rowsP_congr fun a b ha hb => ?_
  unfold owTo
  rw [place_one hb hj, place_one ha hj]
  by_cases e1 : a = k ∧ b = j
  · obtain ⟨rfl, rfl⟩ := e1
    have n2 : ¬ (b = a ∧ a = b) := by omega
    have n3 : (b == a) = false := by simp; omega
    simp [hd, n3, show ¬ a = b by omega]
  · by_cases e2 : b = k ∧ a = j
    · obtain ⟨rfl, rfl⟩ := e2
      rw [h, hd]
      simp
    · have n3 : (j == a && k == b) = false := by
        rw [Bool.eq_false_iff]
        intro e
        simp only [Bool.and_eq_true, beq_iff_eq] at e
        exact e2 ⟨e.2.symm, e.1.symm⟩
      rw [decide_eq_false e1, decide_eq_false e2, n3]
      simp
theorem owTo_more {G : List (List Int)} {z k j : Nat} (hk : k < G.length) (hj : j < G.length) (h : bothP G k j = true) (hd : z / 2 ^ pix G k j % 2 = 1) :
    rowsP G.length (owTo G z (k * G.length + j + 1)) = rowsP G.length fun a b => owTo G z (k * G.length + j) a b && !(k == a && j == b) := by
  have hkj := (both_iff.1 h).1
  refine rowsP_congr fun a b ha hb => ?_
  unfold owTo
  rw [place_one hb hj, place_one ha hj]
  by_cases e1 : a = k ∧ b = j
  · obtain ⟨rfl, rfl⟩ := e1
    rw [h, hd]
    simp
  · by_cases e2 : b = k ∧ a = j
    · obtain ⟨rfl, rfl⟩ := e2
      have n3 : (b == a) = false := by simp; omega
      simp [hd, n3, show ¬ a = b by omega]
    · have n3 : (k == a && j == b) = false := by
        rw [Bool.eq_false_iff]
        intro e
        simp only [Bool.and_eq_true, beq_iff_eq] at e
        exact e1 ⟨e.1.symm, e.2.symm⟩
      rw [decide_eq_false e1, decide_eq_false e2, n3]
      simp
theorem owTo_low {G : List (List Int)} {z k : Nat} : ∀ {j : Nat}, j ≤ k + 1 → j ≤ G.length → rowsP G.length (owTo G z (k * G.length + j)) = rowsP G.length (owTo G z (k * G.length))
  | 0, _, _ => rfl
  | j + 1, h, h' => by
    rw [← owTo_low (j := j) (by omega) (by omega), ← Nat.add_assoc]
    exact owTo_no (by omega) (both_not (by omega))
theorem half_next (z s : Nat) : z / 2 ^ (s + 1) = z / 2 ^ s / 2 := by rw [Nat.pow_succ, Nat.div_div_eq_div_mul]
theorem quo_two (l : Nat) : Int.tdiv (l : Int) 2 = ((l / 2 : Nat) : Int) := rfl
theorem rem_two (l : Nat) : Int.tmod (l : Int) 2 = ((l % 2 : Nat) : Int) := rfl

end Go.Proofs.Ytofpjepndhpciaa

namespace Go.Proofs.Ytofpjepndhpciaa
open Go.RowKit Go.Shelf Go.Deep

/-- ALL PAIRS WITH ARROWS BOTH WAYS, the lesser node first, in the order of rows. -/
def twyP (G : List (List Int)) (x : Fin G.length × Fin G.length) : Bool := decide (x.1.1 < x.2.1) && arw G x.2.1 x.1.1
def TL (G : List (List Int)) : List (Fin G.length × Fin G.length) := (AL G).filter (twyP G)
theorem TL_eq (G : List (List Int)) : TL G = (PL G.length).filter fun x => bothP G x.1.1 x.2.1 := by
  unfold TL AL
  rw [List.filter_filter]
  congr 1
  funext x
  unfold twyP bothP
  cases decide (x.1.1 < x.2.1) <;> cases arw G x.1.1 x.2.1 <;> cases arw G x.2.1 x.1.1 <;> rfl

/-- ONE PAIR: a digit takes one of two arrows away. -/
def cutP {m : Nat} (x : (Nat → Nat → Bool) × Nat) (y : Fin m × Fin m) : (Nat → Nat → Bool) × Nat :=
  (fun a b => x.1 a b && !(if x.2 % 2 = 0 then (y.2.1 == a && y.1.1 == b) else (y.1.1 == a && y.2.1 == b)), x.2 / 2)
def cutA {m : Nat} (p : Nat → Nat → Bool) (z : Nat) (ys : List (Fin m × Fin m)) : (Nat → Nat → Bool) × Nat := ys.foldl cutP (p, z)
theorem cutA_snoc {m : Nat} (p : Nat → Nat → Bool) (z : Nat) (ys : List (Fin m × Fin m)) (y : Fin m × Fin m) : cutA p z (ys ++ [y]) = cutP (cutA p z ys) y := by
  unfold cutA; rw [List.foldl_append]; rfl
theorem cutA_num {m : Nat} (p : Nat → Nat → Bool) (z : Nat) (ys : List (Fin m × Fin m)) : (cutA p z ys).2 ≤ z := by
  unfold cutA
  have key : ∀ (ys : List (Fin m × Fin m)) (x : (Nat → Nat → Bool) × Nat), (ys.foldl cutP x).2 ≤ x.2 := fun ys => by
    induction ys with
    | nil => exact fun x => Nat.le_refl _
    | cons y ys ih =>
      intro x
      rw [List.foldl_cons]
      exact Nat.le_trans (ih _) (Nat.div_le_self _ _)
  exact key ys (p, z)
theorem cut_even {m : Nat} {x : (Nat → Nat → Bool) × Nat} {y : Fin m × Fin m} (h : x.2 % 2 = 0) : (cutP x y).1 = fun a b => x.1 a b && !(y.2.1 == a && y.1.1 == b) := by
  unfold cutP; simp only [h, if_true]
theorem cut_odd {m : Nat} {x : (Nat → Nat → Bool) × Nat} {y : Fin m × Fin m} (h : x.2 % 2 ≠ 0) : (cutP x y).1 = fun a b => x.1 a b && !(y.1.1 == a && y.2.1 == b) := by
  unfold cutP; simp only [h, if_false]
theorem cut_num {m : Nat} (x : (Nat → Nat → Bool) × Nat) (y : Fin m × Fin m) : (cutP x y).2 = x.2 / 2 := rfl
theorem rowsP_same {m : Nat} {p q : Nat → Nat → Bool} (h : rowsP m p = rowsP m q) {i j : Nat} (hi : i < m) (hj : j < m) : p i j = q i j := by
  have := congrArg (fun G => arw G i j) h
  simpa only [arw_rowsP hi hj] using this
/-- AS FAR AS THE u-TH PLACE. -/
theorem cut_to {G : List (List Int)} (z : Nat) : ∀ u, u ≤ G.length * G.length →
    rowsP G.length (cutA (arw G) z (((PL G.length).take u).filter fun x => bothP G x.1.1 x.2.1)).1 = rowsP G.length (owTo G z u) ∧ (cutA (arw G) z (((PL G.length).take u).filter fun x => bothP G x.1.1 x.2.1)).2 = z / 2 ^ posB G u
  | 0, _ => by
    refine ⟨rowsP_congr fun i j _ _ => ?_, ?_⟩
    · simp [cutA, owTo]
    · simp [cutA, posB, sumN]
  | u + 1, hu => by
    obtain ⟨h1, h2⟩ := cut_to (G := G) z u (by omega)
    have hn : 0 < G.length := by
      rcases Nat.eq_zero_or_pos G.length with h | h
      · rw [h] at hu; omega
      · exact h
    have hj : u % G.length < G.length := Nat.mod_lt _ hn
    have hi : u / G.length < G.length := Nat.div_lt_of_lt_mul (show u < G.length * G.length by omega)
    have hd : u / G.length * G.length + u % G.length = u := by rw [Nat.mul_comm]; exact Nat.div_add_mod _ _
    have ht := PL_take hi hj
    rw [← Nat.add_assoc, hd] at ht
    obtain ⟨k, hk⟩ : ∃ k, u / G.length = k := ⟨_, rfl⟩
    obtain ⟨j, hjj⟩ : ∃ j, u % G.length = j := ⟨_, rfl⟩
    have hp : posB G (u + 1) = posB G u + bN (bothP G k j) := by rw [posB_succ, hk, hjj]
    have hpx : posB G u = pix G k j := by unfold pix; rw [← hk, ← hjj, hd]
    simp only [hk, hjj] at ht hi hj hd
    rw [← ht, List.filter_append]
    cases hb : bothP G k j with
    | false =>
      rw [hb] at hp
      have e : ([((⟨k, hi⟩ : Fin G.length), (⟨j, hj⟩ : Fin G.length))].filter fun x => bothP G x.1.1 x.2.1) = [] := by simp [hb]
      rw [e, List.append_nil]
      refine ⟨?_, by rw [h2, hp]; rfl⟩
      rw [h1]
      have := owTo_no (z := z) (k := k) hj hb
      rw [hd] at this
      exact this.symm
    | true =>
      rw [hb] at hp
      have e : ([((⟨k, hi⟩ : Fin G.length), (⟨j, hj⟩ : Fin G.length))].filter fun x => bothP G x.1.1 x.2.1) = [(⟨k, hi⟩, ⟨j, hj⟩)] := by simp [hb]
      rw [e, cutA_snoc]
      refine ⟨?_, by rw [cut_num, h2, hp]; exact (half_next z (posB G u)).symm⟩
      by_cases hz : z / 2 ^ pix G k j % 2 = 0
      · rw [cut_even (by rw [h2, hpx]; exact hz)]
        have := owTo_less hi hj hb hz
        rw [hd] at this
        rw [this]
        refine rowsP_congr fun a b ha hb => ?_
        rw [rowsP_same h1 ha hb]
      · rw [cut_odd (by rw [h2, hpx]; exact hz)]
        have := owTo_more hi hj hb (Nat.mod_two_ne_zero.1 hz)
        rw [hd] at this
        rw [this]
        refine rowsP_congr fun a b ha hb => ?_
        rw [rowsP_same h1 ha hb]
theorem cut_all (G : List (List Int)) (z : Nat) : rowsP G.length (cutA (arw G) z (TL G)).1 = rowsP G.length (owP G z) := by
  rw [← owTo_all, TL_eq, ← (cut_to z (G.length * G.length) (Nat.le_refl _)).1, List.take_of_length_le (by rw [PL_length]; exact Nat.le_refl _)]
theorem TL_posB (G : List (List Int)) : (TL G).length = posB G (G.length * G.length) := by
  rw [TL_eq]
  have key : ∀ u, u ≤ G.length * G.length → (((PL G.length).take u).filter fun x => bothP G x.1.1 x.2.1).length = posB G u := fun u => by
    induction u with
    | zero => intro _; simp [posB, sumN]
    | succ u ih =>
      intro hu
      have hn : 0 < G.length := by
        rcases Nat.eq_zero_or_pos G.length with h | h
        · rw [h] at hu; omega
        · exact h
      have hj : u % G.length < G.length := Nat.mod_lt _ hn
      have hi : u / G.length < G.length := Nat.div_lt_of_lt_mul (show u < G.length * G.length by omega)
      have hd : u / G.length * G.length + u % G.length = u := by rw [Nat.mul_comm]; exact Nat.div_add_mod _ _
      have ht := PL_take hi hj
      rw [← Nat.add_assoc, hd] at ht
      rw [← ht, List.filter_append, List.length_append, ih (by omega), posB_succ]
      congr 1
      cases hb : bothP G (u / G.length) (u % G.length) <;> simp [hb, bN]
  have := key (G.length * G.length) (Nat.le_refl _)
  rwa [List.take_of_length_le (by rw [PL_length]; exact Nat.le_refl _)] at this
theorem TL_six {G : List (List Int)} (h4 : G.length ≤ 4) : (TL G).length ≤ 6 := by
  rw [TL_posB]
  have h3 : posB G (G.length * G.length) ≤ sumN (G.length * G.length) fun v => bN (decide (v / G.length < v % G.length)) := sumN_le fun v _ => by
    unfold bothP bN
    by_cases hv : v / G.length < v % G.length
    · simp only [hv, decide_true, Bool.true_and]
      split <;> simp
    · simp [hv]
  have h4 := low_pairs G.length h4
  omega
theorem TL_le (G : List (List Int)) : (TL G).length ≤ G.length * G.length := by
  unfold TL
  exact Nat.le_trans (List.length_filter_le _ _) (AL_le G)
end Go.Proofs.Ytofpjepndhpciaa

namespace Go.Proofs.Ytofpjepndhpciaa
open Go.RowKit Go.Shelf Go.Deep

theorem pow_mod_div (z : Nat) : ∀ {K t : Nat}, t < K → z % 2 ^ K / 2 ^ t % 2 = z / 2 ^ t % 2 := fun {K t} h => by
  have e : 2 ^ K = 2 ^ t * 2 ^ (K - t) := by rw [← Nat.pow_add]; congr 1; omega
  rw [e, Nat.mod_mul_right_div_self]
  refine Nat.mod_mod_of_dvd _ ?_
  obtain ⟨d, hd⟩ : ∃ d, K - t = d + 1 := ⟨K - t - 1, by omega⟩
  rw [hd, Nat.pow_succ]
  exact ⟨2 ^ d, Nat.mul_comm _ _⟩
theorem pix_lt {G : List (List Int)} {i j : Nat} (hi : i < G.length) (hj : j < G.length) (h : bothP G i j = true) : pix G i j < (TL G).length := by
  have h1 := pix_next (k := i) hj
  rw [h] at h1
  have h2 : pix G i (j + 1) ≤ posB G (G.length * G.length) := by
    unfold pix
    refine posB_mono G ?_
    have := pair_lt hi hj
    omega
  rw [TL_posB]
  have h5 : bN true = 1 := rfl
  omega
theorem ow_mod {G : List (List Int)} (hg : gOk G = true) {z : Nat} (hz : z ≤ 1023) : owL G ((z : Nat) : Int) = owL G ((z % 2 ^ (TL G).length : Nat) : Int) := by
  have hm : z % 2 ^ (TL G).length ≤ z := Nat.mod_le _ _
  rw [ow_yes (owK_iff.2 ⟨hg, by omega, by omega⟩), ow_yes (owK_iff.2 ⟨hg, by omega, by omega⟩), Int.toNat_natCast, Int.toNat_natCast]
  refine rowsP_congr fun i j hi hj => ?_
  have e1 : (bothP G i j && z / 2 ^ pix G i j % 2 == 1) = (bothP G i j && z % 2 ^ (TL G).length / 2 ^ pix G i j % 2 == 1) := by
    cases hb : bothP G i j with
    | false => rfl
    | true => rw [pow_mod_div z (pix_lt hi hj hb)]
  have e2 : (bothP G j i && z / 2 ^ pix G j i % 2 == 0) = (bothP G j i && z % 2 ^ (TL G).length / 2 ^ pix G j i % 2 == 0) := by
    cases hb : bothP G j i with
    | false => rfl
    | true => rw [pow_mod_div z (pix_lt hj hi hb)]
  unfold owP
  rw [e1, e2]
/-- SO MANY WAYS are enough. -/
theorem sw_enough {B : List (List Int)} (hB : gOk B = true) (hT : (TL B).length ≤ 6) : swT B (2 ^ (TL B).length) = swT B 64 := by
  have hK : 2 ^ (TL B).length ≤ 2 ^ 6 := Nat.pow_le_pow_right (by omega) hT
  have hK0 : 0 < 2 ^ (TL B).length := Nat.pow_pos (by omega)
  obtain ⟨K, hKe⟩ : ∃ K, 2 ^ (TL B).length = K := ⟨_, rfl⟩
  have hmod : ∀ m, m < 64 → owL B ((m : Nat) : Int) = owL B ((m % K : Nat) : Int) := fun m hm => by rw [← hKe]; exact ow_mod hB (by omega)
  rw [hKe] at hK hK0 ⊢
  have hK6 : K ≤ 64 := hK
  rcases sw_min hB (n := K) hK6 with ⟨h1, h2⟩ | ⟨x, hx1, h1, ⟨m, hm, hm2⟩, h2⟩
  · rcases sw_min hB (n := 64) (Nat.le_refl _) with ⟨k1, k2⟩ | ⟨y, hy1, k1, ⟨l, hl, hl2⟩, k2⟩
    · rw [h1, k1]
    · rw [hmod l hl, h2 _ (Nat.mod_lt _ hK0)] at hl2; cases hl2
  · rcases sw_min hB (n := 64) (Nat.le_refl _) with ⟨k1, k2⟩ | ⟨y, hy1, k1, ⟨l, hl, hl2⟩, k2⟩
    · rw [k2 m (by omega)] at hm2; cases hm2
    · have a1 := k2 m x (by omega) hm2
      have a2 := h2 _ y (Nat.mod_lt l hK0) (by rw [← hmod l hl]; exact hl2)
      rw [h1, k1, show x = y by omega]
/-- NO ARROW: a longest walk of one node; then no other way has one. -/
theorem lng_one {B : List (List Int)} (hB : gOk B = true) {z m : Nat} (hz : z ≤ 1023) (hm : m ≤ 1023) (h : lngO (owL B ((z : Nat) : Int)) = some 1) : ∃ x, lngO (owL B ((m : Nat) : Int)) = some x ∧ x ≤ 1 := by
  have hkz : owK B ((z : Nat) : Int) = true := owK_iff.2 ⟨hB, by omega, by omega⟩
  have hkm : owK B ((m : Nat) : Int) = true := owK_iff.2 ⟨hB, by omega, by omega⟩
  obtain ⟨⟨h1, _⟩, hw⟩ := lng_some h
  obtain ⟨f, hT, hf⟩ := (line_map h1).2 hw
  have hlz : (owL B ((z : Nat) : Int)).length = B.length := ow_len hkz
  have hlm : (owL B ((m : Nat) : Int)).length = B.length := ow_len hkm
  rw [lin_len, hlz] at hT
  have no : ∀ i j, i < B.length → j < B.length → owP B z i j = false := fun i j hi hj => by
    rw [Bool.eq_false_iff]
    intro e
    have h2 := hf i j (by omega) (by omega) (by rw [ow_arw hkz hi hj, Int.toNat_natCast]; exact e)
    have a := nd_tells hT hi
    have b := nd_tells hT hj
    rw [lin_arw a b] at h2
    have := of_decide_eq_true h2
    omega
  have noB : ∀ i j, i < B.length → j < B.length → arw B i j = false := fun i j hi hj => by
    rw [Bool.eq_false_iff]
    intro e
    rcases ow_cover z e with h2 | h2
    · rw [no i j hi hj] at h2; cases h2
    · rw [no j i hj hi] at h2; cases h2
  refine (lng_le (k := 1) (by omega) (by omega)).2 ((line_map (by omega)).1 ⟨f, ?_, fun i j hi hj ha => ?_⟩)
  · rw [lin_len, hlm]; exact hT
  · rw [hlm] at hi hj
    rw [ow_arw hkm hi hj, Int.toNat_natCast] at ha
    have := owP_sub ha
    rw [noB i j hi hj] at this; cases this
/-- THE FEWEST SO FAR: ten, where no way has been found. -/
def fstT (B : List (List Int)) (z : Nat) : Int := if swT B z < 0 then 10 else swT B z
theorem fst_zero (B : List (List Int)) : fstT B 0 = 10 := rfl
theorem sw_ge {B : List (List Int)} (hB : gOk B = true) {n : Nat} (h : n ≤ 64) : swT B n = -1 ∨ (1 ≤ swT B n ∧ swT B n ≤ 9) := by
  rcases sw_min hB h with ⟨h1, _⟩ | ⟨x, hx, h1, ⟨m, hm, hm2⟩, _⟩
  · exact .inl h1
  · have := (lng_some hm2).1
    exact .inr (by omega)
theorem fst_in {B : List (List Int)} (hB : gOk B = true) {n : Nat} (h : n ≤ 64) : 1 ≤ fstT B n ∧ fstT B n ≤ 10 := by
  unfold fstT
  rcases sw_ge hB h with h1 | h1
  · rw [if_pos (by omega)]; omega
  · rw [if_neg (by omega)]; omega
theorem fst_no {B : List (List Int)} {z : Nat} (h : lngK (owL B ((z : Nat) : Int)) = false) : fstT B (z + 1) = fstT B z := by
  have e : swT B (z + 1) = swT B z := by show (if _ then _ else _) = _; rw [if_neg (by rw [h]; simp)]
  unfold fstT; rw [e]
theorem lngI_in {G : List (List Int)} (h : lngK G = true) : 1 ≤ lngI G ∧ lngI G ≤ 9 := by
  obtain ⟨hg, n, hn⟩ := lngK_some h
  have := (lng_some hn).1
  have e : lngI G = (n : Int) := by unfold lngI; rw [if_pos hg, hn]
  omega
theorem fst_yes {B : List (List Int)} {z : Nat} (h : lngK (owL B ((z : Nat) : Int)) = true) (h9 : swT B z ≤ 9) : fstT B (z + 1) = min (fstT B z) (lngI (owL B ((z : Nat) : Int))) := by
  have hi := lngI_in h
  have e : swT B (z + 1) = if swT B z < 0 ∨ lngI (owL B ((z : Nat) : Int)) < swT B z then lngI (owL B ((z : Nat) : Int)) else swT B z := by
    show (if _ then _ else _) = _
    rw [h]; simp
  unfold fstT
  rw [e]
  split <;> split <;> (try split) <;> omega
/-- NO WAY IS SHORTER. -/
theorem fst_stop {B : List (List Int)} (hB : gOk B = true) (hT : (TL B).length ≤ 6) {z : Nat} (hz : z < 2 ^ (TL B).length) (h : lngK (owL B ((z : Nat) : Int)) = true) (h2 : lngI (owL B ((z : Nat) : Int)) ≤ 2) : fstT B (2 ^ (TL B).length) = lngI (owL B ((z : Nat) : Int)) := by
  have hK : 2 ^ (TL B).length ≤ 2 ^ 6 := Nat.pow_le_pow_right (by omega) hT
  obtain ⟨K, hKe⟩ : ∃ K, 2 ^ (TL B).length = K := ⟨_, rfl⟩
  rw [hKe] at hz hK ⊢
  have hK6 : K ≤ 64 := hK
  obtain ⟨hg, n, hn⟩ := lngK_some h
  have e : lngI (owL B ((z : Nat) : Int)) = (n : Int) := by unfold lngI; rw [if_pos hg, hn]
  rw [e] at h2 ⊢
  rcases sw_min hB (n := K) hK6 with ⟨_, k2⟩ | ⟨x, hx1, k1, ⟨l, hl, hl2⟩, k2⟩
  · rw [k2 z hz] at hn; cases hn
  · have a1 := k2 z n hz hn
    unfold fstT
    rw [k1, if_neg (by omega)]
    by_cases h3 : x = n
    · rw [h3]
    · exfalso
      have hx : x = 1 := by omega
      subst hx
      obtain ⟨y, hy, hy1⟩ := lng_one hB (m := z) (by omega) (by omega) hl2
      rw [hn] at hy
      cases hy
      omega
theorem sw_fst {G : List (List Int)} (h : g4 G = true) : (fstT (bwL G) (2 ^ (TL (bwL G)).length) ≤ 9 → swI G = fstT (bwL G) (2 ^ (TL (bwL G)).length) ∧ swK G = true) ∧ (¬ fstT (bwL G) (2 ^ (TL (bwL G)).length) ≤ 9 → swI G = -1 ∧ swK G = false) := by
  obtain ⟨hg, h4⟩ := g4_iff.1 h
  have hB := gOk_true (bw_good hg)
  have hT := TL_six (G := bwL G) (by rw [bw_len hg]; exact h4)
  have e : swI G = swT (bwL G) 64 := if_pos h
  have hw := sw_ge hB (n := 64) (Nat.le_refl _)
  unfold swK
  unfold fstT
  rw [sw_enough hB hT, e]
  constructor
  · intro h9
    split at h9 <;> rename_i hs
    · omega
    · rw [if_neg hs]
      exact ⟨rfl, decide_eq_true (by omega)⟩
  · intro h9
    split at h9 <;> rename_i hs
    · have : swT (bwL G) 64 = -1 := by omega
      rw [this]; exact ⟨rfl, rfl⟩
    · omega
end Go.Proofs.Ytofpjepndhpciaa
