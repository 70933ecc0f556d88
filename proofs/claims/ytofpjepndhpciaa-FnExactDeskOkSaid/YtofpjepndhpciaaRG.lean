/-
  An argument that is a desk: opened.
-/
import Derived.Test.YtofpjepndhpciaaR0
import Derived.Test.YtofpjepndhpciaaLR
import Derived.Lib.SmallJoins
namespace Go.Proofs.Ytofpjepndhpciaa
open Go.ChangeShapes Go.WideShapes Go.ChangeAt Go.RowKit Go.Deep

theorem cellsRows : Try.prog.cellsOf 23 = 1 := by kernel_rfl
set_option maxRecDepth 100000 in
/-- A graph (or what is none), opened from its one cell. -/
theorem mat_of_trod {H : Type} {enc : TypeId × Value → H} {W : World} {v : Value} {n : Nat} {y : DataW H × List MemPlace}
    (hf : DataW.trod enc Try.prog W 0 (fun _ => true) true n 23 [v] = some y) :
    ∃ (a : Option Addr) (c : Nat) (xss : List (List Int)), v = .slice a xss.length c ∧ Mat W.heap.size W a xss ∧ LenG xss := by
  rcases open_int_rows Try.underlying23 Try.underlying47 Try.underlying3 cellsInts cellsInt hf with ⟨hcs, _⟩ | ⟨a, len', cap', A, L, C, Z, hcs, _, hl, hm, _, hrows⟩
  · simp only [List.cons.injEq, and_true] at hcs
    exact ⟨none, 0, [], hcs, fun h => absurd rfl h, by simp, fun xs h => absurd h (by simp)⟩
  · simp only [List.cons.injEq, and_true] at hcs
    refine ⟨some a, cap', rowsOf len' L Z, by rw [rowsOf_length]; exact hcs, mat_of_rows (A := A) (C := C) (fun r hr => ?_) (fun r hr hA => ?_), by rw [rowsOf_length]; rw [maxLen_eq] at hm; omega, fun xs hxs => ?_⟩
    · obtain ⟨h1, h2, _, h4, _, _, h7⟩ := hrows r (by omega)
      exact ⟨h1, h2, h4, fun a' ha => (h7 a' ha).2⟩
    · exact (hrows r (by omega)).2.2.2.2.2.1 hA
    · obtain ⟨i, hi, rfl⟩ := List.mem_map.1 hxs
      have := (hrows i (by have := List.mem_range.1 hi; omega))
      have h3 := this.2.2.1
      rw [maxLen_eq] at h3
      rw [List.length_take]; omega

set_option maxRecDepth 100000 in
/-- GRAPHS, OPENED from their one cell. -/
theorem cube_of_trod {H : Type} {enc : TypeId × Value → H} {W : World} {v : Value} {n : Nat} {y : DataW H × List MemPlace}
    (hf : DataW.trod enc Try.prog W 0 (fun _ => true) true n 24 [v] = some y) :
    ∃ (a : Option Addr) (c : Nat) (P : List (List (List Int))), v = .slice a P.length c ∧ Cube W.heap.size W a P ∧ LenC P := by
  rcases open_slice Try.underlying24 hf with ⟨hcs, _⟩ | ⟨a, len', cap', m, n, D, Pl, hcs, _, hl, hm, hmm, _, hx⟩
  · simp only [List.cons.injEq, and_true] at hcs
    exact ⟨none, 0, [], hcs, fun h => absurd rfl h, by simp, fun xs h => absurd h (by simp)⟩
  · simp only [List.cons.injEq, and_true] at hcs
    simp only [if_true] at hmm
    have each : ∀ i, i < len' → ∃ (aG : Option Addr) (cG : Nat) (G : List (List Int)), W.cell? (a.add i) = some (.slice aG G.length cG) ∧ Mat W.heap.size W aG G ∧ LenG G := by
      intro i hi
      obtain ⟨cs', h1, h2⟩ := hx i (by omega)
      rw [cellsRows] at h1
      obtain ⟨_, hlen, hcell⟩ := World.cells?_some h1
      match cs', hlen with
      | [v0], _ =>
        obtain ⟨aG, cG, G, rfl, hM, hL⟩ := mat_of_trod h2
        have q0 := hcell 0 (by omega)
        rw [add_add] at q0
        exact ⟨aG, cG, G, by simpa using q0, hM, hL⟩
    have each' : ∃ f : Nat → List (List Int), ∀ i, i < len' → ∃ (aG : Option Addr) (cG : Nat), W.cell? (a.add i) = some (.slice aG (f i).length cG) ∧ Mat W.heap.size W aG (f i) ∧ LenG (f i) := by
      refine ⟨fun i => if h : i < len' then Classical.choose (Classical.choose_spec (Classical.choose_spec (each i h))) else [], fun i hi => ?_⟩
      simp only [dif_pos hi]
      exact ⟨_, _, Classical.choose_spec (Classical.choose_spec (Classical.choose_spec (each i hi)))⟩
    obtain ⟨f, hfc⟩ := each'
    have hlen : ((List.range len').map f).length = len' := by simp
    refine ⟨some a, cap', (List.range len').map f, by rw [hlen]; exact hcs, fun hne => ?_, by rw [hlen]; rw [maxLen_eq] at hm; omega, fun G hG => ?_⟩
    · have h0 : 0 < len' := by
        rcases Nat.eq_zero_or_pos len' with e | e
        · rw [e] at hne; exact absurd (by simp) hne
        · exact e
      obtain ⟨b, o, spot⟩ := a
      obtain ⟨_, _, hc0, _⟩ := hfc 0 h0
      have hspot : spot = none := by simpa [Addr.add] using World.cell?_spot hc0
      subst hspot
      have hb : b < W.heap.size := by simpa [Addr.add] using World.block_lt_of_cell? _ _ hc0
      refine ⟨b, o, rfl, hb, fun i G hG => ?_⟩
      have hi : i < len' := by rw [← hlen]; exact (List.getElem?_eq_some_iff.1 hG).1
      obtain rfl : f i = G := by simpa [hi] using hG
      obtain ⟨aG, cG, h1, h2, _⟩ := hfc i hi
      exact ⟨aG, cG, by rw [← add_plain]; exact h1, h2⟩
    · obtain ⟨i, hi, rfl⟩ := List.mem_map.1 hG
      obtain ⟨_, _, _, _, h3⟩ := hfc i (List.mem_range.1 hi)
      exact h3

set_option maxRecDepth 100000 in
/-- A DESK, OPENED. -/
theorem open_desk {H : Type} {enc : TypeId × Value → H} {W : World} {v : Value} {d : DataW H} {p : List MemPlace} {base : Nat}
    (hv : Value.okWide Try.prog W .any base 37 v) (h : DataW.Trod enc Try.prog W 0 (fun _ => true) true 37 v d p) :
    ∃ (aN : Option Addr) (cN : Nat) (G : List (List Int)) (aP : Option Addr) (cP : Nat) (P : List (List (List Int))), v = .agg #[.slice aN G.length cN, .slice aP P.length cP] ∧ Mat W.heap.size W aN G ∧ Cube W.heap.size W aP P ∧ LenD ⟨G, P⟩ := by
  obtain ⟨v0, v1, y0, y1, n, rfl, _, _, h0, h1⟩ := Go.Joins.open_agg2 Try.underlying37 (by kernel_rfl) (by kernel_rfl) hv h
  obtain ⟨aN, cN, G, rfl, hM, hL⟩ := mat_of_trod h0
  obtain ⟨aP, cP, P, rfl, hC, hL2⟩ := cube_of_trod h1
  exact ⟨aN, cN, G, aP, cP, P, rfl, hM, hC, hL, hL2⟩

end Go.Proofs.Ytofpjepndhpciaa
