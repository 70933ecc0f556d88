/-
  spec.SideOf, walked.
-/
import Derived.Test.YtpcmenhchabgiaaT2
import Derived.Test.YtpcmenhchabgiaaZI
namespace Go.Proofs.Ytpcmenhchabgiaa
open Go.RowKit Go.Shelf Go.Deep

/-- THE SIDE; nothing where there is none. -/
def sidI (G H : List (List Int)) (s : Int) : List Int := if timOk G H = true ∧ (s = 0 ∨ s = 1) then sideL G.length H.length (decide (s = 1)) else []
theorem sidI_yes {G H : List (List Int)} {s : Int} (h : timOk G H = true) (hs : s = 0 ∨ s = 1) : sidI G H s = sideL G.length H.length (decide (s = 1)) := if_pos ⟨h, hs⟩
theorem sidI_no {G H : List (List Int)} {s : Int} (h : ¬ (timOk G H = true ∧ (s = 0 ∨ s = 1))) : sidI G H s = [] := if_neg h
theorem sidI_le {G H : List (List Int)} {s : Int} : (sidI G H s).length ≤ 1048576 := by
  by_cases h : timOk G H = true ∧ (s = 0 ∨ s = 1)
  · rw [sidI_yes h.1 h.2, sideL_length]; have := (timOk_of h.1).2.2; omega
  · rw [sidI_no h]; simp
theorem own_intsT {W : World} {base c n : Nat} {a : Option Addr} {xs : List Int} (hn : xs.length = n) (h : W.ownsRow base 3 1 (.slice a n c) n (xs.map (Value.int .i64))) : Ints W.heap.size W a xs := by
  subst hn
  obtain ⟨_, _, e, h⟩ := own_ints h
  cases e
  exact h
theorem sideF_le (m : Nat) (s : Bool) (z : Nat) : sideF m s z ≤ z := by
  unfold sideF; split
  · exact Nat.mod_le _ _
  · exact Nat.div_le_self _ _
/-- The side, as far as k. -/
def sideT (m : Nat) (s : Bool) (k : Nat) : List Int := (List.range k).map fun z => ((sideF m s z : Nat) : Int)
theorem sideT_length (m : Nat) (s : Bool) (k : Nat) : (sideT m s k).length = k := by simp [sideT]
theorem sideT_succ (m : Nat) (s : Bool) (k : Nat) : sideT m s (k + 1) = sideT m s k ++ [((sideF m s k : Nat) : Int)] := by simp [sideT, List.range_succ]

end Go.Proofs.Ytpcmenhchabgiaa
