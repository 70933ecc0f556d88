/-
  Small facts for the laws of chapter 6.
-/
import Derived.Test.YtdolpkjighbohaaWH
import Derived.Test.YtdolpkjighbohaaZA
namespace Go.Proofs.Ytdolpkjighbohaa
open Go.RowKit Go.Shelf Go.Deep

theorem own_succ6 (m : Nat) : ownL (m + 1) = ownL m ++ [(m : Int)] := by simp [ownL, List.range_succ]
theorem own_len6 (m : Nat) : (ownL m).length = m := by simp [ownL]
theorem len_ne6 {n : Nat} (h : n ≠ 0) : ((n : Int) == 0) = false := by simp; exact h
theorem made_zeros6 (w : World) (n : Nat) : Ints (w.alloc (.cells (madeCells #[.int .i64 0] n) 3)).heap.size (w.alloc (.cells (madeCells #[.int .i64 0] n) 3)) (some ⟨w.heap.size, 0, none⟩) (List.replicate n 0) := by
  refine fun _ => ⟨w.heap.size, 0, rfl, by simp, fun j hj => ?_⟩
  rw [List.length_replicate] at hj
  have h := (World.rowIs_made w (.int .i64 0) n 3).cell hj
  rw [Nat.zero_add, h]
  simp [hj]
theorem kby_at6 {f : List Int} {j : Nat} (hj : j < f.length) : (kbyL f)[j]? = some ((nd (kbyL f) j : Nat) : Int) := by
  obtain ⟨p, hp, e, _⟩ := tells_at (kind_tells (kby_kind f).1) (j := j) (by rw [kby_length]; exact hj)
  rw [hp, e]
theorem kby_get_iff {f : List Int} {i j : Nat} (hi : i < f.length) (hj : j < f.length) : (kbyL f)[i]? = (kbyL f)[j]? ↔ f[i]? = f[j]? := by
  rw [kby_at6 hi, kby_at6 hj, ← kby_iff hi hj, Option.some_inj]
  omega
theorem kby_last6 {f : List Int} (h : 1 ≤ f.length) (v : Int) (hv : (kbyL f)[f.length - 1]? = some v) : f.Nodup ↔ v = (f.length : Int) - 1 := by
  rw [kby_at6 (show f.length - 1 < f.length by omega)] at hv
  cases hv
  rw [apa_last h]
  omega
theorem sum_take6 {α : Type} (F : α → Nat) : ∀ (L : List α) (k : Nat), ((L.take k).map F).sum ≤ (L.map F).sum
  | [], k => by simp
  | x :: L, 0 => by simp
  | x :: L, k + 1 => by
    have := sum_take6 F L k
    simp only [List.take_succ_cons, List.map_cons, List.sum_cons]
    omega
theorem bell_len {G : List (List Int)} (h : g5 G = true) : (G.length = 1 ∧ (allKL G).length = 1) ∨ (G.length = 2 ∧ (allKL G).length = 2) ∨ (G.length = 3 ∧ (allKL G).length = 5) ∨ (G.length = 4 ∧ (allKL G).length = 15) ∨ (G.length = 5 ∧ (allKL G).length = 52) := by
  obtain ⟨hg, h5⟩ := g5_iff.1 h
  have h1 := (good_of hg).1
  obtain ⟨b1, b2, b3, b4, b5⟩ := bell
  rw [allK_yes h]
  have : G.length = 1 ∨ G.length = 2 ∨ G.length = 3 ∨ G.length = 4 ∨ G.length = 5 := by omega
  rcases this with e | e | e | e | e <;> rw [e]
  · exact .inl ⟨rfl, b1⟩
  · exact .inr (.inl ⟨rfl, b2⟩)
  · exact .inr (.inr (.inl ⟨rfl, b3⟩))
  · exact .inr (.inr (.inr (.inl ⟨rfl, b4⟩)))
  · exact .inr (.inr (.inr (.inr ⟨rfl, b5⟩)))
theorem nodup_next6 {α : Type} {l : List α} (h : l.Nodup) {j : Nat} {x y : α} (hx : l[j]? = some x) (hy : l[j + 1]? = some y) : y ≠ x := by
  obtain ⟨h1, e1⟩ := List.getElem?_eq_some_iff.1 hx
  obtain ⟨h2, e2⟩ := List.getElem?_eq_some_iff.1 hy
  have := (List.pairwise_iff_getElem.1 h) j (j + 1) h1 h2 (by omega)
  rw [e1, e2] at this
  exact fun e => this e.symm

theorem allK_fit (G : List (List Int)) : Fit (allKL G) ∧ (allKL G).length ≤ 1000 := by
  by_cases h : g5 G = true
  · obtain ⟨hg, h5⟩ := g5_iff.1 h
    have h1 := (good_of hg).1
    have hb : (kLvl G.length).length ≤ 52 := by
      obtain ⟨b1, b2, b3, b4, b5⟩ := bell
      have : G.length = 1 ∨ G.length = 2 ∨ G.length = 3 ∨ G.length = 4 ∨ G.length = 5 := by omega
      rcases this with e | e | e | e | e <;> rw [e] <;> omega
    have hl : (allKL G).length ≤ 52 := by rw [allK_yes h]; exact hb
    refine ⟨⟨by omega, fun ks hk => ?_⟩, by omega⟩
    have := (kOk_iff.1 ((allK_mem h).1 hk)).2.1
    omega
  · rw [allK_no (by simpa using h)]
    exact ⟨⟨by simp, fun xs hx => by cases hx⟩, by simp⟩
theorem grk_fit {G : List (List Int)} {ks : List Int} : Fit (grkL G ks) := by
  by_cases h : kOkI G ks = true
  · exact (good_of (grk_good h)).fit
  · rw [grk_no (by simpa using h)]; exact ⟨by simp, fun xs hx => by cases hx⟩
theorem kbI_le {G H : List (List Int)} {f : List Int} : (kbI G H f).length ≤ 1048576 := by
  by_cases h : mapOkI G H f = true
  · rw [kb_yes h, kby_length]; have := map_le h; omega
  · rw [kb_no (by simpa using h)]; simp
theorem frI_le {G H : List (List Int)} {f : List Int} : (frI G H f).length ≤ 1048576 := by
  by_cases h : mapOkI G H f = true
  · rw [fr_yes h]; have := map_le h; have := nub_le f; omega
  · rw [fr_no (by simpa using h)]; simp

end Go.Proofs.Ytdolpkjighbohaa
