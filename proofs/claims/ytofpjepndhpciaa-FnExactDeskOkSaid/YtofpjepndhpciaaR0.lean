/-
  An argument that is a slice of rows of integers, as the form reads it, is one that the walks can take.
-/
import Derived.Test.YtofpjepndhpciaaZD
import Derived.ProofKit
import Derived.Deep.Matrix
import Derived.OpenShut
namespace Go.Proofs.Ytofpjepndhpciaa
open Go.ChangeShapes Go.WideShapes Go.ChangeAt Go.RowKit Go.Deep

theorem own : ownKnob Try.prog.godebug = none := by kernel_rfl
theorem laidOut : laidOutB Try.prog = true := by kernel_rfl
theorem cellsInts : Try.prog.cellsOf 47 = 1 := by kernel_rfl
theorem cellsInt : Try.prog.cellsOf 3 = 1 := by kernel_rfl
theorem maxLen_eq : maxLen = 9223372036854775807 := rfl

/-- The rows that a family of cells tells. -/
def rowsOf (len : Nat) (L : Nat → Nat) (Z : Nat → List Int) : List (List Int) := (List.range len).map fun r => (Z r).take (L r)
theorem rowsOf_length (len : Nat) (L : Nat → Nat) (Z : Nat → List Int) : (rowsOf len L Z).length = len := by simp [rowsOf]
theorem rowsOf_get {len : Nat} {L : Nat → Nat} {Z : Nat → List Int} {i : Nat} (hi : i < len) : (rowsOf len L Z)[i]? = some ((Z i).take (L i)) := by simp [rowsOf, hi]

theorem mat_of_rows {W : World} {a : Addr} {len : Nat} {A : Nat → Option Addr} {L C : Nat → Nat} {Z : Nat → List Int}
    (h : ∀ r, r < len → W.cell? (a.add r) = some (.slice (A r) (L r) (C r)) ∧ L r ≤ C r ∧ (Z r).length = C r ∧ ∀ a', A r = some a' → ∀ c, c < C r → W.cell? (a'.add c) = some (.int .i64 ((Z r).getD c 0)))
    (hn : ∀ r, r < len → A r = none → C r = 0) : Mat W.heap.size W (some a) (rowsOf len L Z) := fun hne => by
  have h0 : 0 < len := by
    rcases Nat.eq_zero_or_pos len with e | e
    · subst e; exact absurd rfl hne
    · exact e
  obtain ⟨b, o, spot⟩ := a
  have hspot : spot = none := by simpa [Addr.add] using World.cell?_spot (h 0 h0).1
  subst hspot
  have hb : b < W.heap.size := by simpa [Addr.add] using World.block_lt_of_cell? _ _ (h 0 h0).1
  refine ⟨b, o, rfl, hb, fun i hi => ?_⟩
  rw [rowsOf_length] at hi
  obtain ⟨h1, h2, h3, h4⟩ := h i hi
  have hlen : ((Z i).take (L i)).length = L i := by rw [List.length_take]; omega
  rw [rowsOf_get hi, Option.getD_some, hlen]
  refine ⟨A i, C i, by rw [← add_plain]; exact h1, fun hne2 => ?_⟩
  have hL : 0 < L i := by
    rcases Nat.eq_zero_or_pos (L i) with e | e
    · rw [e] at hne2; exact absurd (by simp) hne2
    · exact e
  cases hA : A i with
  | none => have := hn i hi hA; omega
  | some a' =>
    have h5 := h4 a' hA
    obtain ⟨b', o', spot'⟩ := a'
    have hs' : spot' = none := by simpa [Addr.add] using World.cell?_spot (h5 0 (by omega))
    subst hs'
    have hb' : b' < W.heap.size := by simpa [Addr.add] using World.block_lt_of_cell? _ _ (h5 0 (by omega))
    refine ⟨b', o', rfl, hb', fun j hj => ?_⟩
    rw [hlen] at hj
    rw [← add_plain, h5 j (by omega)]
    simp [hj, List.getD]

set_option maxRecDepth 100000 in
/-- THE ARGUMENT, OPENED: a value that the walks can take. -/
theorem open_mat {H : Type} {enc : TypeId × Value → H} {W : World} {v : Value} {d : DataW H} {p : List MemPlace} {base : Nat}
    (hv : Value.okWide Try.prog W .any base 23 v) (h : DataW.Trod enc Try.prog W 0 (fun _ => true) true 23 v d p) :
    ∃ (a : Option Addr) (c : Nat) (xss : List (List Int)), v = .slice a xss.length c ∧ Mat W.heap.size W a xss ∧ xss.length ≤ 9223372036854775807 ∧ ∀ xs ∈ xss, xs.length ≤ 9223372036854775807 := by
  obtain ⟨a0, len, cap, rfl⟩ := okWide_slice Try.underlying23 hv
  obtain ⟨fuel, hf⟩ := h
  rcases open_int_rows Try.underlying23 Try.underlying47 Try.underlying3 cellsInts cellsInt hf with ⟨hcs, _⟩ | ⟨a, len', cap', A, L, C, Z, hcs, _, hl, hm, _, hrows⟩
  · simp [Value.cells] at hcs
    obtain ⟨rfl, rfl, rfl⟩ := hcs
    exact ⟨none, 0, [], rfl, fun h => absurd rfl h, by simp, fun xs h => absurd h (by simp)⟩
  · simp [Value.cells] at hcs
    obtain ⟨rfl, rfl, rfl⟩ := hcs
    refine ⟨some a, cap, rowsOf len L Z, by rw [rowsOf_length], mat_of_rows (A := A) (C := C) (fun r hr => ?_) (fun r hr hA => ?_), by rw [rowsOf_length]; rw [maxLen_eq] at hm; omega, fun xs hxs => ?_⟩
    · obtain ⟨h1, h2, _, h4, _, _, h7⟩ := hrows r (by omega)
      exact ⟨h1, h2, h4, fun a' ha => (h7 a' ha).2⟩
    · exact (hrows r (by omega)).2.2.2.2.2.1 hA
    · obtain ⟨i, hi, rfl⟩ := List.mem_map.1 hxs
      have := (hrows i (by have := List.mem_range.1 hi; omega))
      have h3 := this.2.2.1
      rw [maxLen_eq] at h3
      rw [List.length_take]; omega

theorem cellsByte : Try.prog.cellsOf 5 = 1 := by kernel_rfl
set_option maxRecDepth 100000 in
/-- A CODE, OPENED. -/
theorem open_code {H : Type} {enc : TypeId × Value → H} {W : World} {v : Value} {d : DataW H} {p : List MemPlace} {base : Nat}
    (hv : Value.okWide Try.prog W .any base 22 v) (h : DataW.Trod enc Try.prog W 0 (fun _ => true) true 22 v d p) :
    ∃ (a : Option Addr) (n c : Nat), v = .slice a n c ∧ n ≤ c ∧ n ≤ 9223372036854775807 ∧ Bytes W.heap.size W a n := by
  obtain ⟨a0, len, cap, rfl⟩ := okWide_slice Try.underlying22 hv
  obtain ⟨fuel, hf⟩ := h
  rcases open_ints Try.underlying22 Try.underlying5 cellsByte hf with ⟨hcs, _⟩ | ⟨a, len', cap', zs, hcs, _, hl, hm, hz, _, hcell, hwz⟩
  · simp [Value.cells] at hcs
    obtain ⟨rfl, rfl, rfl⟩ := hcs
    exact ⟨none, 0, 0, rfl, Nat.le_refl _, by omega, fun h => absurd h (by omega)⟩
  · simp [Value.cells] at hcs
    obtain ⟨rfl, rfl, rfl⟩ := hcs
    simp only [if_true] at hz
    refine ⟨some a, len, cap, rfl, hl, by rw [maxLen_eq] at hm; omega, fun h0 => ?_⟩
    obtain ⟨b, o, spot⟩ := a
    have hspot : spot = none := by simpa [Addr.add] using World.cell?_spot (hcell 0 (by omega))
    subst hspot
    have hb : b < W.heap.size := by simpa [Addr.add] using World.block_lt_of_cell? _ _ (hcell 0 (by omega))
    refine ⟨b, o, rfl, hb, fun j hj => ?_⟩
    have hc := hcell j (by omega)
    rw [add_plain] at hc
    have hg : zs.getD j 0 ∈ zs := by
      rw [List.getD, List.getElem?_eq_getElem (show j < zs.length by omega)]; exact List.getElem_mem _
    have := bounds_u8 (hwz _ hg)
    exact ⟨_, hc, this.1, this.2⟩
set_option maxRecDepth 100000 in
/-- A LIST OF INTEGERS, OPENED. -/
theorem open_ints1 {H : Type} {enc : TypeId × Value → H} {W : World} {v : Value} {d : DataW H} {p : List MemPlace} {base : Nat}
    (hv : Value.okWide Try.prog W .any base 47 v) (h : DataW.Trod enc Try.prog W 0 (fun _ => true) true 47 v d p) :
    ∃ (a : Option Addr) (c : Nat) (xs : List Int), v = .slice a xs.length c ∧ Ints W.heap.size W a xs ∧ xs.length ≤ 9223372036854775807 := by
  obtain ⟨a0, len, cap, rfl⟩ := okWide_slice Try.underlying47 hv
  obtain ⟨fuel, hf⟩ := h
  rcases open_ints Try.underlying47 Try.underlying3 cellsInt hf with ⟨hcs, _⟩ | ⟨a, len', cap', zs, hcs, _, hl, hm, hz, _, hcell, _⟩
  · simp [Value.cells] at hcs
    obtain ⟨rfl, rfl, rfl⟩ := hcs
    exact ⟨none, 0, [], rfl, fun h => absurd rfl h, by simp⟩
  · simp [Value.cells] at hcs
    obtain ⟨rfl, rfl, rfl⟩ := hcs
    simp only [if_true] at hz
    have hlen : (zs.take len).length = len := by rw [List.length_take]; omega
    refine ⟨some a, cap, zs.take len, by rw [hlen], fun hne => ?_, by rw [hlen]; rw [maxLen_eq] at hm; omega⟩
    have h0 : 0 < len := by
      rcases Nat.eq_zero_or_pos len with e | e
      · rw [e] at hne; exact absurd (by simp) hne
      · exact e
    obtain ⟨b, o, spot⟩ := a
    have hspot : spot = none := by simpa [Addr.add] using World.cell?_spot (hcell 0 (by omega))
    subst hspot
    have hb : b < W.heap.size := by simpa [Addr.add] using World.block_lt_of_cell? _ _ (hcell 0 (by omega))
    refine ⟨b, o, rfl, hb, fun j hj => ?_⟩
    rw [hlen] at hj
    rw [← add_plain, hcell j (by omega)]
    simp [hj, List.getD]

end Go.Proofs.Ytofpjepndhpciaa
