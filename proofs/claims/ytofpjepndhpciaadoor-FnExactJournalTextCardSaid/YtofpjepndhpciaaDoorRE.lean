/-
  An argument that is a list of deeds: opened.
-/
import Derived.Test.YtofpjepndhpciaaDoorR0
import Derived.Test.YtofpjepndhpciaaDoorLF0
import Derived.Lib.SmallJoins
namespace Go.Proofs.YtofpjepndhpciaaDoor
open Go.ChangeShapes Go.WideShapes Go.ChangeAt Go.RowKit Go.Deep

/-- A STRUCT OF THREE ONE-CELL FIELDS, cell by cell. -/
theorem agg3_cells {P : Program} {H : Type} {enc : TypeId × Value → H} {w : World} {base : Nat} {spare : Nat → Bool} {held : Bool} {t : TypeId} {f0 f1 f2 : Field} {n : Nat} {v0 v1 v2 : Value} {x : DataW H × List MemPlace}
    (hs : P.underlying t = some (.struct #[f0, f1, f2])) (hone : oneCellFields P #[f0, f1, f2] = true) (h : DataW.trod enc P w base spare held n t [v0, v1, v2] = some x) :
    ∃ (y0 y1 y2 : DataW H × List MemPlace) (n' : Nat), DataW.trod enc P w base spare held n' f0.type [v0] = some y0 ∧ DataW.trod enc P w base spare held n' f1.type [v1] = some y1 ∧ DataW.trod enc P w base spare held n' f2.type [v2] = some y2 := by
  obtain ⟨y0, y1, y2, n', _, _, h0, h1, h2⟩ := trod_struct3 hs h
  obtain ⟨o0, k0⟩ := hone_of hone 0 f0 rfl
  obtain ⟨o1, k1⟩ := hone_of hone 1 f1 rfl
  obtain ⟨o2, k2⟩ := hone_of hone 2 f2 rfl
  exact ⟨y0, y1, y2, n', by simpa [o0, k0] using h0, by simpa [o1, k1] using h1, by simpa [o2, k2] using h2⟩
theorem cellsDeed : Tryd.prog.cellsOf 38 = 3 := by kernel_rfl
/-- Deeds told by a function. -/
def ddsOf (len : Nat) (f : Nat → Dd) : List Dd := (List.range len).map f

set_option maxRecDepth 100000 in
/-- DEEDS, OPENED. -/
theorem open_deeds {H : Type} {enc : TypeId × Value → H} {W : World} {v : Value} {d : DataW H} {p : List MemPlace} {base : Nat}
    (hv : Value.okWide Tryd.prog W .any base 43 v) (h : DataW.Trod enc Tryd.prog W 0 (fun _ => true) true 43 v d p) :
    ∃ (a : Option Addr) (c : Nat) (l : List Dd), v = .slice a l.length c ∧ Deeds W.heap.size W a l ∧ l.length ≤ 9223372036854775807 := by
  obtain ⟨a0, len, cap, rfl⟩ := okWide_slice Tryd.underlying43 hv
  obtain ⟨fuel, hf⟩ := h
  rcases open_slice Tryd.underlying43 hf with ⟨hcs, _⟩ | ⟨a, len', cap', m, n, D, Pl, hcs, _, hl, hm, hmm, _, hx⟩
  · simp [Value.cells] at hcs
    obtain ⟨rfl, rfl, rfl⟩ := hcs
    exact ⟨none, 0, [], rfl, fun h => absurd rfl h, by simp⟩
  · simp [Value.cells] at hcs
    obtain ⟨rfl, rfl, rfl⟩ := hcs
    simp only [if_true] at hmm
    have each : ∀ i, i < len → ∃ e : Dd, W.cell? (a.add (i * 3)) = some (.int .i64 e.k) ∧ W.cell? (a.add (i * 3 + 1)) = some (.int .i64 e.a) ∧ W.cell? (a.add (i * 3 + 2)) = some (.int .i64 e.b) := by
      intro i hi
      obtain ⟨cs', h1, h2⟩ := hx i (by omega)
      rw [cellsDeed] at h1
      obtain ⟨_, hlen, hcell⟩ := World.cells?_some h1
      match cs', hlen with
      | [v0, v1, v2], _ =>
        obtain ⟨y0, y1, y2, n', g0, g1, g2⟩ := agg3_cells Tryd.underlying38 (by kernel_rfl) h2
        obtain ⟨z0, e0, _⟩ := DataW.trod_int Tryd.underlying3 g0
        obtain ⟨z1, e1, _⟩ := DataW.trod_int Tryd.underlying3 g1
        obtain ⟨z2, e2, _⟩ := DataW.trod_int Tryd.underlying3 g2
        cases e0; cases e1; cases e2
        have q0 := hcell 0 (by omega)
        have q1 := hcell 1 (by omega)
        have q2 := hcell 2 (by omega)
        rw [add_add] at q0 q1 q2
        exact ⟨⟨z0, z1, z2⟩, by simpa using q0, by simpa using q1, by simpa using q2⟩
    have each' : ∃ f : Nat → Dd, ∀ i, i < len → W.cell? (a.add (i * 3)) = some (.int .i64 (f i).k) ∧ W.cell? (a.add (i * 3 + 1)) = some (.int .i64 (f i).a) ∧ W.cell? (a.add (i * 3 + 2)) = some (.int .i64 (f i).b) := by
      refine ⟨fun i => if h : i < len then Classical.choose (each i h) else ⟨0, 0, 0⟩, fun i hi => ?_⟩
      simp only [dif_pos hi]
      exact Classical.choose_spec (each i hi)
    obtain ⟨f, hfc⟩ := each'
    have hlen : (ddsOf len f).length = len := by simp [ddsOf]
    refine ⟨some a, cap, ddsOf len f, by rw [hlen], fun hne => ?_, by rw [hlen]; rw [maxLen_eq] at hm; omega⟩
    have h0 : 0 < len := by
      rcases Nat.eq_zero_or_pos len with e | e
      · rw [e] at hne; exact absurd (by simp [ddsOf]) hne
      · exact e
    obtain ⟨b, o, spot⟩ := a
    have hspot : spot = none := by simpa [Addr.add] using World.cell?_spot (hfc 0 h0).1
    subst hspot
    have hb : b < W.heap.size := by simpa [Addr.add] using World.block_lt_of_cell? _ _ (hfc 0 h0).1
    refine ⟨b, o, rfl, hb, fun i e he => ?_⟩
    have hi : i < len := by rw [← hlen]; exact (List.getElem?_eq_some_iff.1 he).1
    obtain rfl : f i = e := by simpa [ddsOf, hi] using he
    obtain ⟨h1, h2, h3⟩ := hfc i hi
    exact ⟨by rw [← add_plain]; exact h1, by rw [Nat.add_assoc, ← add_plain]; exact h2, by rw [Nat.add_assoc, ← add_plain]; exact h3⟩

end Go.Proofs.YtofpjepndhpciaaDoor
