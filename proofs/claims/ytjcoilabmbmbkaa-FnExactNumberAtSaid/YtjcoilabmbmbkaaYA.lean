/-
  What RowAt, NumberAt, LiftedOf and LoweredOf answer, as lists.
-/
import Derived.Test.YtjcoilabmbmbkaaY1
namespace Go.Proofs.Ytjcoilabmbmbkaa
open Go.RowKit Go.Shelf Go.Deep

/-- THE ROW OF A NODE of the power; nothing for others. -/
def rowAtI (H G : List (List Int)) (x : Int) : List Int := if powOk H G = true ∧ 0 ≤ x ∧ x < ((H.length ^ G.length : Nat) : Int) then rowR H.length G.length x.toNat else []
theorem rowAt_yes {H G : List (List Int)} {x : Int} (h : powOk H G = true) (h0 : 0 ≤ x) (h1 : x < ((H.length ^ G.length : Nat) : Int)) : rowAtI H G x = rowR H.length G.length x.toNat := if_pos ⟨h, h0, h1⟩
theorem rowAt_no {H G : List (List Int)} {x : Int} (h : ¬ (powOk H G = true ∧ 0 ≤ x ∧ x < ((H.length ^ G.length : Nat) : Int))) : rowAtI H G x = [] := if_neg h
theorem rowAt_le {H G : List (List Int)} {x : Int} : (rowAtI H G x).length ≤ 1048576 := by
  by_cases h : powOk H G = true ∧ 0 ≤ x ∧ x < ((H.length ^ G.length : Nat) : Int)
  · rw [rowAt_yes h.1 h.2.1 h.2.2, rowR_length]; have := (powOk_of h.1).2.1.2.1; omega
  · rw [rowAt_no h]; simp
/-- THE NUMBER OF A ROW in the power; -1 for others. -/
def numAtI (H G : List (List Int)) (r : List Int) : Int := if powOk H G = true ∧ tellsI G.length H.length r = true then (numR H.length r : Int) else -1
theorem numAt_yes {H G : List (List Int)} {r : List Int} (h : powOk H G = true) (h1 : tellsI G.length H.length r = true) : numAtI H G r = (numR H.length r : Int) := if_pos ⟨h, h1⟩
theorem numAt_no {H G : List (List Int)} {r : List Int} (h : ¬ (powOk H G = true ∧ tellsI G.length H.length r = true)) : numAtI H G r = -1 := if_neg h
/-- A MAP LIFTED; nothing for others. -/
def lifI (K G H : List (List Int)) (f : List Int) : List Int := if timOk K G = true ∧ powOk H G = true ∧ mapOkI (timL K G) H f = true then liftL H.length G.length K.length f else []
theorem lifI_yes {K G H : List (List Int)} {f : List Int} (h : timOk K G = true ∧ powOk H G = true ∧ mapOkI (timL K G) H f = true) : lifI K G H f = liftL H.length G.length K.length f := if_pos h
theorem lifI_no {K G H : List (List Int)} {f : List Int} (h : ¬ (timOk K G = true ∧ powOk H G = true ∧ mapOkI (timL K G) H f = true)) : lifI K G H f = [] := if_neg h
theorem lifI_le {K G H : List (List Int)} {f : List Int} : (lifI K G H f).length ≤ 1048576 := by
  by_cases h : timOk K G = true ∧ powOk H G = true ∧ mapOkI (timL K G) H f = true
  · rw [lifI_yes h, liftL_length]; have := (timOk_of h.1).1.2.1; omega
  · rw [lifI_no h]; simp
/-- A MAP LOWERED; nothing for others. -/
def lowI (K G H : List (List Int)) (e : List Int) : List Int := if timOk K G = true ∧ powOk H G = true ∧ mapOkI K (powL H G) e = true then lowL H.length G.length e else []
theorem lowI_yes {K G H : List (List Int)} {e : List Int} (h : timOk K G = true ∧ powOk H G = true ∧ mapOkI K (powL H G) e = true) : lowI K G H e = lowL H.length G.length e := if_pos h
theorem lowI_no {K G H : List (List Int)} {e : List Int} (h : ¬ (timOk K G = true ∧ powOk H G = true ∧ mapOkI K (powL H G) e = true)) : lowI K G H e = [] := if_neg h
theorem lowI_le {K G H : List (List Int)} {e : List Int} : (lowI K G H e).length ≤ 1048576 := by
  by_cases h : timOk K G = true ∧ powOk H G = true ∧ mapOkI K (powL H G) e = true
  · have h9 := (timOk_of h.1).2.2
    rw [lowI_yes h, lowL_length, (mapOk_iff.1 h.2.2).2.1.1]; omega
  · rw [lowI_no h]; simp
theorem slice_get {L : Nat} {f : List Int} {a k : Nat} (hk : k < L) : (sliceL L f a)[k]? = f[a * L + k]? := by
  unfold sliceL
  rw [List.getElem?_take_of_lt hk, List.getElem?_drop]
theorem rowR_lt {M L k : Nat} {r : List Int} (h : Tells L M r) (hk : k ≤ L) : numR M (r.take k) < M ^ k := by
  refine (rowR_numR k _ ⟨by rw [List.length_take, h.1]; omega, fun j y hy => ?_⟩).2
  have hj := (List.getElem?_eq_some_iff.1 hy).1
  rw [List.length_take] at hj
  rw [List.getElem?_take_of_lt (by omega)] at hy
  exact h.2 j y hy
/-- A lowered map, row by row. -/
theorem lowL_next {M L : Nat} {e : List Int} {k : Nat} {y : Int} (h : e[k]? = some y) : lowL M L (e.take (k + 1)) = lowL M L (e.take k) ++ rowR M L y.toNat := by
  unfold lowL
  rw [List.take_add_one, h, List.flatMap_append]
  simp

end Go.Proofs.Ytjcoilabmbmbkaa
