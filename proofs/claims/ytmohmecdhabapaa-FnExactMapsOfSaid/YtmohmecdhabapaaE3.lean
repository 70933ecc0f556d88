/-
  impl.ArrowsIn and its model: how many arrows a graph has.
-/
import Derived.Test.YtmohmecdhabapaaE2
namespace Go.Proofs.Ytmohmecdhabapaa
open Go.RowKit Go.Shelf

attribute [local go_sem] Oper.semAt_some

/-- HOW MANY ARROWS; -1 for what is no graph. -/
def arrowsI (xss : List (List Int)) : Int := if gOk xss = true then ((AL xss).length : Int) else -1
theorem arrowsI_no {xss : List (List Int)} (h : gOk xss = false) : arrowsI xss = -1 := by unfold arrowsI; rw [if_neg (by rw [h]; decide)]
theorem arrowsI_yes {xss : List (List Int)} (h : gOk xss = true) : arrowsI xss = ((AL xss).length : Int) := by unfold arrowsI; rw [if_pos h]
theorem Good.len {xss : List (List Int)} (h : Good xss) {i : Nat} {xs : List Int} (hx : xss[i]? = some xs) : xs.length = xss.length := (h.2.2 xs (List.mem_of_getElem? hx)).1
theorem AL_le (xss : List (List Int)) : (AL xss).length ≤ xss.length * xss.length := by unfold AL; exact Nat.le_trans (List.length_filter_le _ _) (by rw [PL_length]; exact Nat.le_refl _)
theorem sq_le {m : Nat} (h : m ≤ 9) : m * m ≤ 81 := Nat.mul_le_mul h h

/-- HOW MANY of the first k pairs are arrows. -/
def cntA (xss : List (List Int)) (k : Nat) : Int := (((PL xss.length).take k).filter fun x => arw xss x.1.1 x.2.1).length
theorem cntA_step {xss : List (List Int)} (hG : Good xss) {i j : Nat} (hi : i < xss.length) (hj : j < xss.length) : cntA xss (i * xss.length + (j + 1)) = cntA xss (i * xss.length + j) + ent xss i j := by
  unfold cntA
  rw [← PL_take hi hj, List.filter_append, List.length_append]
  rcases (good_iff_ent hG.1 hG.2.1 (fun i xs h => hG.len h)).1 hG (⟨i, hi⟩, ⟨j, hj⟩) with h | h
  · simp only at h; simp [arw, h]
  · simp only at h; simp [arw, h]
theorem cntA_all (xss : List (List Int)) : cntA xss (xss.length * xss.length) = ((AL xss).length : Int) := by
  unfold cntA AL; rw [List.take_of_length_le (by rw [PL_length]; exact Nat.le_refl _)]
theorem cntA_nn (xss : List (List Int)) (k : Nat) : 0 ≤ cntA xss k := by unfold cntA; omega
theorem cntA_le (xss : List (List Int)) (k : Nat) : cntA xss k ≤ xss.length * xss.length := by
  unfold cntA
  have h1 := List.length_filter_le (fun x : Fin xss.length × Fin xss.length => arw xss x.1.1 x.2.1) ((PL xss.length).take k)
  have h2 : ((PL xss.length).take k).length ≤ xss.length * xss.length := by rw [List.length_take, PL_length]; omega
  have : ((((PL xss.length).take k).filter fun x => arw xss x.1.1 x.2.1).length : Int) ≤ ((xss.length * xss.length : Nat) : Int) := by omega
  rw [Int.natCast_mul] at this; exact this

end Go.Proofs.Ytmohmecdhabapaa
