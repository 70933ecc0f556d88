/-
  Several texts in one.
  Small facts for the laws of chapter 6.
  Small facts for the laws of chapter 8.
-/
import Derived.Test.YtpcmenhchabgiaaWH
import Derived.Test.YtpcmenhchabgiaaZA
import Derived.Test.YtpcmenhchabgiaaWU
import Derived.Test.YtpcmenhchabgiaaWS
import Derived.Test.YtpcmenhchabgiaaZB
namespace Go.Proofs.Ytpcmenhchabgiaa
open Go.RowKit Go.Shelf Go.Deep

theorem own_succ6 (m : Nat) : ownL (m + 1) = ownL m ++ [(m : Int)] := by simp [ownL, List.range_succ]
theorem own_len6 (m : Nat) : (ownL m).length = m := by simp [ownL]
theorem len_ne6 {n : Nat} (h : n ≠ 0) : ((n : Int) == 0) = false := by simp; exact h
theorem made_zeros6 (w : World) (n : Nat) : Ints (w.alloc (.cells (madeCells #[.int .i64 0] n) 3)).heap.size (w.alloc (.cells (madeCells #[.int .i64 0] n) 3)) (some ⟨w.heap.size, 0, none⟩) (List.replicate n 0) := by
  refine fun _ => ⟨w.heap.size, 0, rfl, by simp, fun j hj => ?_⟩
  rw [List.length_replicate] at hj
  have h := (World.rowIs_made w (.int .i64 0) n 3).cell hj
  rw [Nat.zero_add, h]
  simp [hj]
theorem kby_at6 {f : List Int} {j : Nat} (hj : j < f.length) : (kbyL f)[j]? = some ((nd (kbyL f) j : Nat) : Int) := by
  obtain ⟨p, hp, e, _⟩ := tells_at (kind_tells (kby_kind f).1) (j := j) (by rw [kby_length]; exact hj)
  rw [hp, e]
theorem kby_get_iff {f : List Int} {i j : Nat} (hi : i < f.length) (hj : j < f.length) : (kbyL f)[i]? = (kbyL f)[j]? ↔ f[i]? = f[j]? := by
  rw [kby_at6 hi, kby_at6 hj, ← kby_iff hi hj, Option.some_inj]
  omega
theorem kby_last6 {f : List Int} (h : 1 ≤ f.length) (v : Int) (hv : (kbyL f)[f.length - 1]? = some v) : f.Nodup ↔ v = (f.length : Int) - 1 := by
  rw [kby_at6 (show f.length - 1 < f.length by omega)] at hv
  cases hv
  rw [apa_last h]
  omega
theorem sum_take6 {α : Type} (F : α → Nat) : ∀ (L : List α) (k : Nat), ((L.take k).map F).sum ≤ (L.map F).sum
  | [], k => by simp
  | x :: L, 0 => by simp
  | x :: L, k + 1 => by
    have := sum_take6 F L k
    simp only [List.take_succ_cons, List.map_cons, List.sum_cons]
    omega
theorem bell_len {G : List (List Int)} (h : g5 G = true) : (G.length = 1 ∧ (allKL G).length = 1) ∨ (G.length = 2 ∧ (allKL G).length = 2) ∨ (G.length = 3 ∧ (allKL G).length = 5) ∨ (G.length = 4 ∧ (allKL G).length = 15) ∨ (G.length = 5 ∧ (allKL G).length = 52) := by
  obtain ⟨hg, h5⟩ := g5_iff.1 h
  have h1 := (good_of hg).1
  obtain ⟨b1, b2, b3, b4, b5⟩ := bell
  rw [allK_yes h]
  have : G.length = 1 ∨ G.length = 2 ∨ G.length = 3 ∨ G.length = 4 ∨ G.length = 5 := by omega
  rcases this with e | e | e | e | e <;> rw [e]
  · exact .inl ⟨rfl, b1⟩
  · exact .inr (.inl ⟨rfl, b2⟩)
  · exact .inr (.inr (.inl ⟨rfl, b3⟩))
  · exact .inr (.inr (.inr (.inl ⟨rfl, b4⟩)))
  · exact .inr (.inr (.inr (.inr ⟨rfl, b5⟩)))
theorem nodup_next6 {α : Type} {l : List α} (h : l.Nodup) {j : Nat} {x y : α} (hx : l[j]? = some x) (hy : l[j + 1]? = some y) : y ≠ x := by
  obtain ⟨h1, e1⟩ := List.getElem?_eq_some_iff.1 hx
  obtain ⟨h2, e2⟩ := List.getElem?_eq_some_iff.1 hy
  have := (List.pairwise_iff_getElem.1 h) j (j + 1) h1 h2 (by omega)
  rw [e1, e2] at this
  exact fun e => this e.symm

theorem allK_fit (G : List (List Int)) : Fit (allKL G) ∧ (allKL G).length ≤ 1000 := by
  by_cases h : g5 G = true
  · obtain ⟨hg, h5⟩ := g5_iff.1 h
    have h1 := (good_of hg).1
    have hb : (kLvl G.length).length ≤ 52 := by
      obtain ⟨b1, b2, b3, b4, b5⟩ := bell
      have : G.length = 1 ∨ G.length = 2 ∨ G.length = 3 ∨ G.length = 4 ∨ G.length = 5 := by omega
      rcases this with e | e | e | e | e <;> rw [e] <;> omega
    have hl : (allKL G).length ≤ 52 := by rw [allK_yes h]; exact hb
    refine ⟨⟨by omega, fun ks hk => ?_⟩, by omega⟩
    have := (kOk_iff.1 ((allK_mem h).1 hk)).2.1
    omega
  · rw [allK_no (by simpa using h)]
    exact ⟨⟨by simp, fun xs hx => by cases hx⟩, by simp⟩
theorem grk_fit {G : List (List Int)} {ks : List Int} : Fit (grkL G ks) := by
  by_cases h : kOkI G ks = true
  · exact (good_of (grk_good h)).fit
  · rw [grk_no (by simpa using h)]; exact ⟨by simp, fun xs hx => by cases hx⟩
theorem kbI_le {G H : List (List Int)} {f : List Int} : (kbI G H f).length ≤ 1048576 := by
  by_cases h : mapOkI G H f = true
  · rw [kb_yes h, kby_length]; have := map_le h; omega
  · rw [kb_no (by simpa using h)]; simp
theorem frI_le {G H : List (List Int)} {f : List Int} : (frI G H f).length ≤ 1048576 := by
  by_cases h : mapOkI G H f = true
  · rw [fr_yes h]; have := map_le h; have := nub_le f; omega
  · rw [fr_no (by simpa using h)]; simp

end Go.Proofs.Ytpcmenhchabgiaa

namespace Go.Proofs.Ytpcmenhchabgiaa
open Go.RowKit Go.Shelf Go.Deep

theorem specWhoR (z : Int) (w : World) : Calls Try.prog 20 #[.int .i64 z] w (ReadM (whoI z) w) :=
  (specWhoO z w).mono fun _ _ h => by
    obtain ⟨a, c, h1, h2⟩ := h
    exact ⟨a, c, h1, h2.mat⟩
theorem bw_fit {G : List (List Int)} : Fit (bwL G) := by
  cases h : gOk G with
  | true => exact (bw_good h).fit
  | false => rw [bw_no h]; exact ⟨by simp, fun xs hx => by simp at hx⟩
theorem ow_fit {G : List (List Int)} {z : Int} : Fit (owL G z) := by
  cases h : owK G z with
  | true => exact (ow_good h).fit
  | false => rw [ow_no h]; exact ⟨by simp, fun xs hx => by simp at hx⟩
theorem specBwR (a : Option Addr) (c : Nat) (G : List (List Int)) (w : World) (hM : Mat w.heap.size w a G) (hF : Fit G) : Calls Try.prog 38 #[.slice a G.length c] w (ReadM (bwL G) w) :=
  (specBwO a c G w.heap.size w hM (Nat.le_refl _) hF).mono fun _ _ h => by
    obtain ⟨a, c, h1, h2⟩ := h
    exact ⟨a, c, h1, h2.mat⟩
theorem specOwR (a : Option Addr) (c : Nat) (G : List (List Int)) (z : Int) (w : World) (hM : Mat w.heap.size w a G) (hF : Fit G) : Calls Try.prog 43 #[.slice a G.length c, .int .i64 z] w (ReadM (owL G z) w) :=
  (specOwO a c G z w.heap.size w hM (Nat.le_refl _) hF).mono fun _ _ h => by
    obtain ⟨a, c, h1, h2⟩ := h
    exact ⟨a, c, h1, h2.mat⟩
/-- Is there an arrow to itself at one of the first k? -/
def lpK (G : List (List Int)) (k : Nat) : Bool := (List.range k).any fun i => arw G i i
theorem lpK_succ (G : List (List Int)) (k : Nat) : lpK G (k + 1) = (lpK G k || arw G k k) := by simp [lpK, List.range_succ]
theorem lpK_no {G : List (List Int)} {k : Nat} : lpK G k = false ↔ ∀ i, i < k → arw G i i = false := by
  unfold lpK
  rw [List.any_eq_false]
  simp
theorem lpK_yes {G : List (List Int)} {k : Nat} (h : lpK G k = true) : ∃ i, i < k ∧ arw G i i = true := by
  unfold lpK at h
  rw [List.any_eq_true] at h
  obtain ⟨i, hi, h⟩ := h
  exact ⟨i, by simpa using hi, h⟩
theorem lpK_at {G : List (List Int)} {k : Nat} {xs : List Int} {v : Int} (h : G[k]? = some xs) (h' : xs[k]? = some v) : lpK G (k + 1) = (lpK G k || v == 1) := by
  rw [lpK_succ]; unfold arw; rw [ent_eq h h']
theorem fw_lp {G : List (List Int)} (h : g4 G = true) : fwK G = !(lpK G G.length) := by
  have hf := fw_loops h
  cases e : lpK G G.length with
  | true =>
    obtain ⟨i, hi, ha⟩ := lpK_yes e
    cases e2 : fwK G with
    | false => rfl
    | true =>
      have := hf.1 (fwK_some e2).2 i hi
      rw [ha] at this; cases this
  | false =>
    obtain ⟨n, hn⟩ := hf.2 (lpK_no.1 e)
    exact (fw_yesI h hn).2
theorem fw_coreI {G : List (List Int)} (h : g4 G = true) : fwI (corL G) = fwI G ∧ fwK (corL G) = fwK G := by
  obtain ⟨h1, h2⟩ := fw_core h
  unfold fwI fwK
  rw [h1, h2, h]
  exact ⟨rfl, rfl⟩
theorem coc_lp {G : List (List Int)} {m : Nat} (h : g5 G = true) (h1 : 1 ≤ m) (h4 : m ≤ 4) (hl : lpK G G.length = true) : cocI G m = 0 := by
  obtain ⟨i, hi, ha⟩ := lpK_yes hl
  exact coc_zero h h1 h4 (col_loop hi ha)
theorem no_arrows {G : List (List Int)} (hg : gOk G = true) (h : ¬ 0 < arrowsI G) {i j : Nat} (hi : i < G.length) (hj : j < G.length) : arw G i j = false := by
  rw [arrowsI_yes hg] at h
  cases e : arw G i j with
  | false => rfl
  | true =>
    have h2 := (AL_mem (xss := G) (⟨i, hi⟩, ⟨j, hj⟩)).2 e
    have := List.length_pos_of_mem h2
    omega
theorem arrows_range {G : List (List Int)} (hg : gOk G = true) : 0 ≤ arrowsI G ∧ arrowsI G ≤ 81 := by
  have h9 := (good_of hg).2.1
  have h1 := AL_le G
  have h2 := sq_le h9
  rw [arrowsI_yes hg]; omega
theorem whoI_fits {z : Int} : Fit (whoI z) := (whoI_fit z).1

end Go.Proofs.Ytpcmenhchabgiaa
