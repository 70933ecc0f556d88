/-
  The model's DeskNew.
-/
import Derived.Test.YtofpjepndhpciaaLL
namespace Go.Proofs.Ytofpjepndhpciaa
open Go.RowKit Go.Shelf Go.Deep

/-- A NEW DESK: its rows lie apart, in memory of its own; there is nothing of before. -/
def MadeNew (G : List (List Int)) (w : World) (e : Ending) (w' : World) : Prop :=
  if gOk G = true then ∃ (a : Option Addr) (c : Nat), (e = .returned (.tuple #[.agg #[.slice a G.length c, .slice none 0 0], .bool true]) ∧ Below w.heap.size w w') ∧ OwnSep w.heap.size w' (.slice a G.length c) G
  else e = .returned (.tuple #[.agg #[.slice none 0 0, .slice none 0 0], .bool false]) ∧ Below w.heap.size w w'
theorem dk_cell {W : World} {B : Nat} {x y : Value} (h : W.heap[B]? = some (.cells #[x, y] 26)) : (W.cell? ⟨B, 0, none⟩ = some x ∧ W.cell? ⟨B, 1, none⟩ = some y) ∧ ∀ i, W.frozen? ⟨B, i, none⟩ = false := by
  refine ⟨⟨?_, ?_⟩, fun i => ?_⟩
  · unfold World.cell?; rw [h]; rfl
  · unfold World.cell?; rw [h]; rfl
  · unfold World.frozen?; rw [h]; simp
theorem dk_put {W : World} {B : Nat} {x y : Value} (h : W.heap[B]? = some (.cells #[x, y] 26)) (i : Nat) (v : Value) : (W.setCell ⟨B, i, none⟩ v).heap[B]? = some (.cells (#[x, y].setIfInBounds i v) 26) := by
  obtain ⟨hlt, hk⟩ := Array.getElem?_eq_some_iff.1 h
  show (W.heap.modify B _)[B]? = _
  rw [Array.getElem?_eq_getElem (by rw [Array.size_modify]; exact hlt), Array.getElem_modify_self, hk]
  rfl

set_option maxRecDepth 100000 in
set_option maxHeartbeats 4000000 in
theorem specNew (a : Option Addr) (c : Nat) (G : List (List Int)) (n₀ : Nat) (w : World) (hM : Mat n₀ w a G) (hn : n₀ ≤ w.heap.size) (hF : Fit G) :
    Calls Try.prog 13 #[.slice a G.length c] w (MadeNew G w) := by
  have hx : (w.alloc (.cells #[.slice none 0 0, .slice none 0 0] 26)).heap[w.heap.size]? = some (.cells #[.slice none 0 0, .slice none 0 0] 26) := heap_alloc_new w _
  have hB0 : Below w.heap.size w (w.alloc (.cells #[.slice none 0 0, .slice none 0 0] 26)) := (Below.refl _ _).alloc (Nat.le_refl _) _
  have hM1 := hM.below (hB0.mono hn)
  have hz1 := hB0.size
  have hSO := specOk_any a c G n₀ _ hM1 hF
  unfold MadeNew
  by_cases hg : gOk G = true
  · simp only [if_pos hg]
    rw [hg] at hSO
    have HG := Lib.hid hg
    have HR := Lib.hid (specRows11 a c G n₀ _ hM1 (Nat.le_trans hn hz1) hg)
    have HS := Lib.hid hSO
    clear hSO hg hM hM1
    go_enter Try.func13, Try.ntmps13
    go_wp2_with fail
    refine HS.out.mono ?_
    rintro e wq ⟨rfl, rfl⟩
    go_wp2_with fail
    refine HR.out.mono ?_
    rintro e w2 ⟨a2, c2, ⟨rfl, hB2⟩, hO2⟩
    have hx2 : w2.heap[w.heap.size]? = some (.cells #[.slice none 0 0, .slice none 0 0] 26) := (hB2.block _ (Array.getElem?_eq_some_iff.1 hx).1).trans hx
    have hx3 := dk_put hx2 0 (.slice a2 G.length c2)
    have hx4 := dk_put hx3 1 (.slice none 0 0)
    obtain ⟨⟨s1, s3⟩, s2⟩ := dk_cell hx2
    obtain ⟨⟨t1, t3⟩, t2⟩ := dk_cell hx3
    obtain ⟨⟨r1, r3⟩, _⟩ := dk_cell hx4
    have hb := hB0.trans (hB2.mono hz1)
    have HB4 := Lib.hid ((hb.setCell (p := ⟨w.heap.size, 0, none⟩) (Nat.le_refl _) (.slice a2 G.length c2)).setCell (p := ⟨w.heap.size, 1, none⟩) (Nat.le_refl _) (.slice none 0 0))
    have hlt : w.heap.size < (w.alloc (.cells #[.slice none 0 0, .slice none 0 0] 26)).heap.size := by simp
    have HO4 := Lib.hid (((hO2.set (b := w.heap.size) hlt 0 (.slice a2 G.length c2)).set (b := w.heap.size) hlt 1 (.slice none 0 0)).mono (base' := w.heap.size) (by omega))
    have s2b := s2 0
    have t2b := t2 1
    clear hx hx2 hx3 hx4 hB2 hO2 hb s2 t2 HR HS
    go_wp2_with fail
    refine bodyPost_ret (v := .tuple #[.agg #[.slice a2 G.length c2, .slice none 0 0], .bool true]) ?_ rfl ?_
    · simp [results, Try.f13, go_sem, r1, r3]
    · exact ⟨a2, c2, ⟨rfl, HB4.out⟩, HO4.out⟩
  · simp only [if_neg hg]
    rw [show gOk G = false by simpa using hg] at hSO
    have HS := Lib.hid hSO
    have HB4 := Lib.hid hB0
    clear hSO hg hM hM1 hx
    go_enter Try.func13, Try.ntmps13
    go_wp2_with fail
    refine HS.out.mono ?_
    rintro e wq ⟨rfl, rfl⟩
    go_wp2_with fail
    refine bodyPost_ret (v := .tuple #[.agg #[.slice none 0 0, .slice none 0 0], .bool false]) ?_ rfl ?_
    · simp [results, Try.f13, go_sem]
    · exact ⟨rfl, HB4.out⟩

end Go.Proofs.Ytofpjepndhpciaa
