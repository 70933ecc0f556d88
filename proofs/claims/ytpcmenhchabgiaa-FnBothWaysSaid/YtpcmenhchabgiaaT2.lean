/-
  spec.TimesOf, spec.SquareOf; impl.timesOk, walked.
-/
import Derived.Test.YtpcmenhchabgiaaZT
import Derived.Test.YtpcmenhchabgiaaWV
namespace Go.Proofs.Ytpcmenhchabgiaa
open Go.RowKit Go.Shelf Go.Deep

/-- Row k of a product, as far as j. -/
def mRow (G H : List (List Int)) (k j : Nat) : List Int := (List.range j).map fun i => ent G (k / H.length) (i / H.length) * ent H (k % H.length) (i % H.length)
theorem mRow_succ (G H : List (List Int)) (k j : Nat) : mRow G H k (j + 1) = mRow G H k j ++ [ent G (k / H.length) (j / H.length) * ent H (k % H.length) (j % H.length)] := by simp [mRow, List.range_succ]
theorem mRow_length (G H : List (List Int)) (k j : Nat) : (mRow G H k j).length = j := by simp [mRow]
def mRows (G H : List (List Int)) (N k : Nat) : List (List Int) := (List.range k).map fun i => mRow G H i N
theorem mRows_succ (G H : List (List Int)) (N k : Nat) : mRows G H N (k + 1) = mRows G H N k ++ [mRow G H k N] := by simp [mRows, List.range_succ]
theorem mRows_length (G H : List (List Int)) (N k : Nat) : (mRows G H N k).length = k := by simp [mRows]
theorem mRows_all {G H : List (List Int)} (h : timOk G H = true) : mRows G H (G.length * H.length) (G.length * H.length) = timL G H := by
  obtain ⟨hG, hH, h9⟩ := timOk_of h
  rw [timL_yes h]
  unfold mRows rowsP mRow
  refine List.map_congr_left fun i hi => List.map_congr_left fun j hj => ?_
  have hi := List.mem_range.1 hi
  have hj := List.mem_range.1 hj
  rw [good_ent hG (div_lt hi) (div_lt hj), good_ent hH (Nat.mod_lt _ hH.1) (Nat.mod_lt _ hH.1)]
  unfold timP
  cases arw G (i / H.length) (j / H.length) <;> cases arw H (i % H.length) (j % H.length) <;> simp
theorem good_bit {G : List (List Int)} (hG : Good G) {i j : Nat} (hi : i < G.length) (hj : j < G.length) : ent G i j = 0 ∨ ent G i j = 1 := by
  rw [good_ent hG hi hj]; split <;> simp
/-- The row of a graph, and its entry. -/
theorem good_row {n₀ : Nat} {W : World} {a : Option Addr} {G : List (List Int)} (hM : Mat n₀ W a G) (hG : Good G) {i j : Nat} (hi : i < G.length) (hj : j < G.length) :
    ∃ b o b' o' c', a = some ⟨b, o, none⟩ ∧ b < n₀ ∧ b' < n₀ ∧ W.cell? ⟨b, o + i, none⟩ = some (.slice (some ⟨b', o', none⟩) G.length c') ∧ W.cell? ⟨b', o' + j, none⟩ = some (.int .i64 (ent G i j)) := by
  obtain ⟨b, o, a', c', xs, rfl, hb, hc, hI, HX⟩ := hM.at_ hi
  have hE := hG.len HX.out
  obtain ⟨b', o', v, rfl, hb', hc', HY⟩ := hI.at_ (k := j) (by rw [hE]; exact hj)
  rw [hE] at hc
  refine ⟨b, o, b', o', c', rfl, hb, hb', hc, ?_⟩
  rw [ent_eq HX.out HY.out]; exact hc'

end Go.Proofs.Ytpcmenhchabgiaa
