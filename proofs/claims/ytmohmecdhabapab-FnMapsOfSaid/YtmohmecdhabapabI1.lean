/-
  impl.PartOf.
-/
import Derived.Test.YtmohmecdhabapabH1
import Derived.Test.YtmohmecdhabapabF3
import Derived.StillTailTactics
namespace Go.Proofs.Ytmohmecdhabapab
open Go.RowKit Go.Shelf Go.Deep

/-- The node told at place i. -/
def nd (ys : List Int) (i : Nat) : Nat := (ys[i]?.getD 0).toNat
theorem nd_eq {ys : List Int} {i : Nat} {y : Int} (h : ys[i]? = some y) : nd ys i = y.toNat := by simp [nd, h]
open Classical in
/-- THE GRAPH OF SOME NODES; nothing for others. -/
noncomputable def partL (xss : List (List Int)) (ys : List Int) : List (List Int) :=
  if gOk xss = true ∧ 1 ≤ ys.length ∧ Nodes xss.length ys then rowsP ys.length (fun i j => arw xss (nd ys i) (nd ys j)) else []
theorem partL_yes {xss : List (List Int)} {ys : List Int} (h : gOk xss = true) (h1 : 1 ≤ ys.length) (hN : Nodes xss.length ys) : partL xss ys = rowsP ys.length (fun i j => arw xss (nd ys i) (nd ys j)) := if_pos ⟨h, h1, hN⟩
theorem partL_no {xss : List (List Int)} {ys : List Int} (h : ¬ (gOk xss = true ∧ 1 ≤ ys.length ∧ Nodes xss.length ys)) : partL xss ys = [] := if_neg h

theorem arrowC (n₀ : Nat) (a : Option Addr) (c : Nat) (xss : List (List Int)) (w : World) (hM : Mat n₀ w a xss) (hn : n₀ ≤ w.heap.size) (hG : Good xss) (i j : Nat) (hi : i < xss.length) (hj : j < xss.length) :
    Calls Try.prog 48 #[.agg #[.slice a xss.length c], .int .i64 i, .int .i64 j] w fun e w' => e = .returned (.bool (arw xss i j)) ∧ w' = w.alloc (.cells #[.slice a xss.length c] 51) :=
  callsIn_wide.1 (arrow_in Fence.wide 0 (fun _ => trivial) rfl n₀ a c xss w hM hn hG i j hi hj)

end Go.Proofs.Ytmohmecdhabapab
