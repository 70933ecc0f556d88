/-
  Several texts in one.
  The plain draws of stage 7: DrawPathOf, DrawLineOf, DrawRingOf, DrawLongestIn, DrawHeightsOf.
  A graph of chapter 7 drawn: l20Level; DrawLevelsOf, DrawRingsFor.
  DrawLevelsOf, DrawRingsFor.
-/
import Derived.Test.YtldkgkpiceamhaaO2
import Derived.Test.YtldkgkpiceamhaaZH
import Derived.Test.YtldkgkpiceamhaaZP
import Derived.Test.YtldkgkpiceamhaaWB
import Derived.Test.YtldkgkpiceamhaaWV
import Derived.StillTailTactics
namespace Go.Proofs.Ytldkgkpiceamhaa
open Go.RowKit Go.Shelf

/-- A number of 0 .. m - 1. -/
def DrawnZ (m : Int) (w : World) (e : Ending) (w' : World) : Prop := ∃ x : Int, e = .returned (.int .i64 x) ∧ (0 ≤ x ∧ x < m) ∧ Below w.heap.size w w'

end Go.Proofs.Ytldkgkpiceamhaa

namespace Go.Proofs.Ytldkgkpiceamhaa
open Go.RowKit Go.Shelf Go.Deep

theorem owned_drawn {n₀ B N : Nat} {w W W' : World} {a : Option Addr} {c : Nat} {xss : List (List Int)} (hg : w.grownBy W (some B)) (hR : Rd n₀ B W N) (hB : Below W.heap.size W W') (hO : OwnMat W.heap.size W' (.slice a xss.length c) xss) (hF : Fit xss) : DrawnG n₀ B N w (.returned (.slice a xss.length c)) W' :=
  ⟨a, c, xss, rfl, hF, hO.matErased hR.lt, hR.keep (grown_of_below hB) (fun r e => by cases e), grow_B hg (grown_of_below hB) (fun r e => by cases e)⟩
theorem RowsD.keptB {base k m B : Nat} {W W' : World} {v : Value} {xss : List (List Int)} {G : Nat → Nat} (h : RowsD base W v k m xss G) (hg : W.grownBy W' (some B)) (hB : B < base) : RowsD base W' v k m xss G := by
  refine ⟨World.ownsRow.kept h.own hg (.inr fun e => by have := (World.ownsRow.lt h.own B e).1; omega), h.len, fun i ys hy => ?_, h.inj⟩
  obtain ⟨k1, k2, k3⟩ := h.row i ys hy
  exact ⟨k1, k2, k3.kept hg (by simp; omega)⟩
theorem RowsD.fit {base k m : Nat} {W : World} {v : Value} {xss : List (List Int)} {G : Nat → Nat} (h : RowsD base W v k m xss G) (hk : k ≤ 1000) (hm : m ≤ 1000) : Fit xss :=
  ⟨by rw [h.len]; omega, fun xs hx => by
    obtain ⟨i, hi⟩ := List.mem_iff_getElem?.1 hx
    have := (h.row i xs hi).1
    omega⟩
theorem bes_fitD (xss yss : List (List Int)) : Fit (besL xss yss) := by
  by_cases h : besOk xss yss = true
  · exact (bes_good h).fit
  · rw [besL_no (by simpa using h)]
    exact ⟨by simp, fun xs hx => by cases hx⟩
theorem rinI_fit (z : Int) : Fit (rinI z) ∧ (rinI z).length ≤ 9 := by
  by_cases h : 1 ≤ z ∧ z ≤ 9
  · unfold rinI
    rw [if_pos h]
    exact ⟨(rin_good (by omega) (by omega)).fit, by rw [rin_len]; omega⟩
  · rw [rinI_no h]
    exact ⟨⟨by simp, fun xs hx => by simp at hx⟩, by simp⟩

end Go.Proofs.Ytldkgkpiceamhaa

namespace Go.Proofs.Ytldkgkpiceamhaa
open Go.RowKit Go.Shelf Go.Deep

/-- A graph, or what is none. -/
def DrawnGr (w : World) (e : Ending) (w' : World) : Prop :=
  ∃ (a : Option Addr) (c : Nat) (xss : List (List Int)), e = .returned (.slice a xss.length c) ∧ (Fit xss ∧ Mat w'.heap.size w' a xss) ∧ Below w.heap.size w w'
/-- A graph, or what is none, and a number. -/
def DrawnGZ (m : Int) (w : World) (e : Ending) (w' : World) : Prop :=
  ∃ (a : Option Addr) (c : Nat) (xss : List (List Int)) (z : Int), e = .returned (.tuple #[.slice a xss.length c, .int .i64 z]) ∧ (Fit xss ∧ Mat w'.heap.size w' a xss) ∧ (0 ≤ z ∧ z < m) ∧ Below w.heap.size w w'

end Go.Proofs.Ytldkgkpiceamhaa
