/-
  impl.BesideOf.
-/
import Derived.Test.YtmohmecdhabapabI1
namespace Go.Proofs.Ytmohmecdhabapab
open Go.RowKit Go.Shelf Go.Deep

/-- Two graphs side by side. -/
def besP (xss yss : List (List Int)) (i j : Nat) : Bool := if i < xss.length ∧ j < xss.length then arw xss i j else decide (xss.length ≤ i ∧ xss.length ≤ j) && arw yss (i - xss.length) (j - xss.length)
def besOk (xss yss : List (List Int)) : Bool := gOk xss && gOk yss && decide (xss.length + yss.length ≤ 9)
def besL (xss yss : List (List Int)) : List (List Int) := if besOk xss yss = true then rowsP (xss.length + yss.length) (besP xss yss) else []
theorem besL_yes {xss yss : List (List Int)} (h : besOk xss yss = true) : besL xss yss = rowsP (xss.length + yss.length) (besP xss yss) := if_pos h
theorem besL_no {xss yss : List (List Int)} (h : besOk xss yss = false) : besL xss yss = [] := if_neg (by rw [h]; decide)

theorem arrowI (n₀ : Nat) (a : Option Addr) (c : Nat) (xss : List (List Int)) (w : World) (hM : Mat n₀ w a xss) (hn : n₀ ≤ w.heap.size) (hG : Good xss) (i j : Nat) (hi : i < xss.length) (hj : j < xss.length) (x y : Int) (hx : x = (i : Int)) (hy : y = (j : Int)) :
    Calls Try.prog 48 #[.agg #[.slice a xss.length c], .int .i64 x, .int .i64 y] w fun e w' => e = .returned (.bool (arw xss i j)) ∧ w' = w.alloc (.cells #[.slice a xss.length c] 51) := by
  subst hx hy
  exact arrowC n₀ a c xss w hM hn hG i j hi hj

set_option maxHeartbeats 1000000 in
theorem beside1 (n₀ E B B' : Nat) (a a' : Option Addr) (c c' : Nat) (xss yss : List (List Int)) (w : World) (hM : Mat n₀ w a xss) (hM' : Mat n₀ w a' yss) (hn : n₀ ≤ w.heap.size) (hE : Boxed w E 3 (.int .i64 xss.length)) (hB : Boxed w B 51 (.slice a xss.length c)) (hB' : Boxed w B' 51 (.slice a' yss.length c')) (hG : Good xss) (hG' : Good yss) (i j : Nat) (hi : i < xss.length + yss.length) (hj : j < xss.length + yss.length) :
    Calls Try.prog 53 #[.int .i64 i, .int .i64 j, .pointer (some ⟨E, 0, none⟩), .pointer (some ⟨B, 0, none⟩), .pointer (some ⟨B', 0, none⟩)] w (Ans (.bool (besP xss yss i j)) w) := by
  have hl9 := hG.2.1
  have hl9' := hG'.2.1
  have cE := hE.cell
  have cB := hB.cell
  have cB' := hB'.cell
  have HG := Lib.hid hG
  have HG' := Lib.hid hG'
  have HM := Lib.hid hM
  have HM' := Lib.hid hM'
  clear hG hG' hM hM' hE hB hB'
  by_cases h1 : i < xss.length ∧ j < xss.length
  · rw [show besP xss yss i j = arw xss i j from if_pos h1]
    obtain ⟨h1, h2⟩ := h1
    go_enter Try.func53, Try.ntmps53
    go_wp2_with fail
    refine (arrowC n₀ a c xss w HM.out hn HG.out i j h1 h2).mono ?_
    rintro e w' ⟨rfl, rfl⟩
    go_wp2_with fail
    go_ret
    exact ⟨rfl, (Below.refl _ _).alloc (Nat.le_refl _) _⟩
  · by_cases h3 : xss.length ≤ i ∧ xss.length ≤ j
    · rw [show besP xss yss i j = arw yss (i - xss.length) (j - xss.length) by unfold besP; rw [if_neg h1, decide_eq_true h3]; rfl]
      obtain ⟨h3, h4⟩ := h3
      have h5 : ¬ i < xss.length := by omega
      have h6 : ¬ j < xss.length := by omega
      clear h1
      go_enter Try.func53, Try.ntmps53
      go_wp2_with fail
      refine (arrowI n₀ a' c' yss w HM'.out hn HG'.out (i - xss.length) (j - xss.length) (by omega) (by omega) _ _ (by omega) (by omega)).mono ?_
      rintro e w' ⟨rfl, rfl⟩
      go_wp2_with fail
      go_ret
      exact ⟨rfl, (Below.refl _ _).alloc (Nat.le_refl _) _⟩
    · rw [show besP xss yss i j = false by unfold besP; rw [if_neg h1, decide_eq_false h3]; rfl]
      go_enter Try.func53, Try.ntmps53
      by_cases h5 : i < xss.length
      · have h6 : ¬ j < xss.length := fun h => h1 ⟨h5, h⟩
        clear h1 h3
        go_wp2_with fail
        go_ret
        exact ⟨rfl, Below.refl _ _⟩
      · have h6 : j < xss.length := by have := fun h => h3 ⟨by omega, h⟩; omega
        clear h1 h3
        go_wp2_with fail
        go_ret
        exact ⟨rfl, Below.refl _ _⟩

end Go.Proofs.Ytmohmecdhabapab
