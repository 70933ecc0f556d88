/-
  impl.BesideOf.
-/
import Derived.Test.YtmohmecdhabapacI1
namespace Go.Proofs.Ytmohmecdhabapac
open Go.RowKit Go.Shelf Go.Deep

/-- Two graphs side by side. -/
def besP (xss yss : List (List Int)) (i j : Nat) : Bool := if i < xss.length ∧ j < xss.length then arw xss i j else decide (xss.length ≤ i ∧ xss.length ≤ j) && arw yss (i - xss.length) (j - xss.length)
def besOk (xss yss : List (List Int)) : Bool := gOk xss && gOk yss && decide (xss.length + yss.length ≤ 9)
def besL (xss yss : List (List Int)) : List (List Int) := if besOk xss yss = true then rowsP (xss.length + yss.length) (besP xss yss) else []
theorem besL_yes {xss yss : List (List Int)} (h : besOk xss yss = true) : besL xss yss = rowsP (xss.length + yss.length) (besP xss yss) := if_pos h
theorem besL_no {xss yss : List (List Int)} (h : besOk xss yss = false) : besL xss yss = [] := if_neg (by rw [h]; decide)

theorem arrowI (n₀ : Nat) (a : Option Addr) (c : Nat) (xss : List (List Int)) (w : World) (hM : Mat n₀ w a xss) (hn : n₀ ≤ w.heap.size) (hG : Good xss) (i j : Nat) (hi : i < xss.length) (hj : j < xss.length) (x y : Int) (hx : x = (i : Int)) (hy : y = (j : Int)) :
    Calls Try.prog 35 #[.agg #[.slice a xss.length c], .int .i64 x, .int .i64 y] w fun e w' => e = .returned (.bool (arw xss i j)) ∧ w' = w.alloc (.cells #[.slice a xss.length c] 49) := by
  subst hx hy
  exact arrowC n₀ a c xss w hM hn hG i j hi hj

end Go.Proofs.Ytmohmecdhabapac
