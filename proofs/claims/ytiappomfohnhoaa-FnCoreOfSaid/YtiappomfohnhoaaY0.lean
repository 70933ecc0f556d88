/-
  Rows of nodes as numbers in a base.
-/
import Derived.Test.YtiappomfohnhoaaZT
import Derived.Test.YtiappomfohnhoaaZN
namespace Go.Proofs.Ytiappomfohnhoaa
open Go.RowKit Go.Shelf

/-- The row of L digits of a number. -/
def rowR (M : Nat) : Nat → Nat → List Int
  | 0, _ => []
  | L + 1, a => rowR M L (a / M) ++ [((a % M : Nat) : Int)]
theorem rowR_length (M : Nat) : ∀ L a, (rowR M L a).length = L
  | 0, _ => rfl
  | L + 1, a => by rw [rowR, List.length_append, rowR_length M L]; rfl
/-- The number of a row. -/
def numR (M : Nat) (r : List Int) : Nat := r.foldl (fun n x => n * M + x.toNat) 0
theorem numR_snoc (M : Nat) (r : List Int) (x : Int) : numR M (r ++ [x]) = numR M r * M + x.toNat := by simp [numR]
theorem numR_rowR {M : Nat} (hM : 1 ≤ M) : ∀ L a, a < M ^ L → numR M (rowR M L a) = a
  | 0, a, h => by rw [Nat.pow_zero] at h; obtain rfl : a = 0 := by omega
                  rfl
  | L + 1, a, h => by
    have h1 : a / M < M ^ L := by rw [Nat.div_lt_iff_lt_mul (by omega)]; rwa [Nat.pow_succ] at h
    rw [rowR, numR_snoc, numR_rowR hM L _ h1]
    have h2 := Nat.div_add_mod a M
    rw [Nat.mul_comm] at h2
    rw [Int.toNat_natCast]; exact h2
theorem tells_snocI {L M : Nat} {r : List Int} {x : Int} : Tells (L + 1) M (r ++ [x]) ↔ Tells L M r ∧ 0 ≤ x ∧ x < M := by
  constructor
  · rintro ⟨h1, h2⟩
    have hl : r.length = L := by simpa using h1
    refine ⟨⟨hl, fun j y hy => ?_⟩, ?_⟩
    · have hj := (List.getElem?_eq_some_iff.1 hy).1
      exact h2 j y (by rw [List.getElem?_append_left hj]; exact hy)
    · exact h2 r.length x (by simp)
  · rintro ⟨⟨h1, h2⟩, h3⟩
    refine ⟨by simp [h1], fun j y hy => ?_⟩
    by_cases hj : j < r.length
    · rw [List.getElem?_append_left hj] at hy; exact h2 j y hy
    · rw [List.getElem?_append_right (by omega)] at hy
      have e : j - r.length = 0 := by have := (List.getElem?_eq_some_iff.1 hy).1; simp at this; omega
      rw [e] at hy
      simp at hy
      subst hy; exact h3
theorem rowR_tells {M : Nat} (hM : 1 ≤ M) : ∀ L a, Tells L M (rowR M L a)
  | 0, _ => ⟨rfl, fun j y hy => by simp [rowR] at hy⟩
  | L + 1, a => by
    rw [rowR]
    have := Nat.mod_lt a hM
    exact tells_snocI.2 ⟨rowR_tells hM L _, by omega, by omega⟩
theorem list_last {L : Nat} {r : List Int} (h : r.length = L + 1) : ∃ r' x, r = r' ++ [x] ∧ r'.length = L := by
  have hne : r ≠ [] := fun e => by rw [e] at h; simp at h
  exact ⟨r.dropLast, r.getLast hne, (List.dropLast_concat_getLast hne).symm, by rw [List.length_dropLast]; omega⟩
theorem rowR_numR {M : Nat} : ∀ L r, Tells L M r → rowR M L (numR M r) = r ∧ numR M r < M ^ L
  | 0, r, h => by
    obtain rfl : r = [] := List.eq_nil_of_length_eq_zero h.1
    exact ⟨rfl, by simp [numR]⟩
  | L + 1, r, h => by
    obtain ⟨r', x, rfl, hl⟩ := list_last h.1
    obtain ⟨h1, h2, h3⟩ := tells_snocI.1 h
    obtain ⟨e, hlt⟩ := rowR_numR L r' h1
    obtain ⟨n, rfl⟩ : ∃ n : Nat, x = n := ⟨x.toNat, by omega⟩
    have hn : n < M := by omega
    rw [numR_snoc, rowR, Int.toNat_natCast, pair_div hn, pair_mod hn, e, Nat.pow_succ]
    exact ⟨rfl, pair_lt hlt hn⟩
theorem rowR_inj {M L a b : Nat} (hM : 1 ≤ M) (ha : a < M ^ L) (hb : b < M ^ L) (h : rowR M L a = rowR M L b) : a = b := by
  rw [← numR_rowR hM L a ha, ← numR_rowR hM L b hb, h]

/-- The slice of a row at a block of L. -/
def sliceL (L : Nat) (f : List Int) (a : Nat) : List Int := (f.drop (a * L)).take L
theorem slice_nd {L : Nat} {f : List Int} {a k : Nat} (hk : k < L) : nd (sliceL L f a) k = nd f (a * L + k) := by
  unfold nd sliceL
  rw [List.getElem?_take_of_lt hk, List.getElem?_drop]
theorem slice_tells {N L M : Nat} {f : List Int} (h : Tells (N * L) M f) {a : Nat} (ha : a < N) : Tells L M (sliceL L f a) := by
  have h1 : a * L + L ≤ N * L := by rw [← Nat.succ_mul]; exact Nat.mul_le_mul_right _ ha
  refine ⟨by rw [sliceL, List.length_take, List.length_drop, h.1]; omega, fun j y hy => ?_⟩
  have hj := (List.getElem?_eq_some_iff.1 hy).1
  rw [sliceL, List.length_take] at hj
  rw [sliceL, List.getElem?_take_of_lt (by omega), List.getElem?_drop] at hy
  exact h.2 _ y hy
theorem slices_all (L : Nat) (f : List Int) : ∀ N, (List.range N).flatMap (sliceL L f) = f.take (N * L)
  | 0 => by simp
  | N + 1 => by
    rw [List.range_succ, List.flatMap_append, slices_all L f N, Nat.succ_mul, List.take_add]
    simp [sliceL]
/-- The map into the power that a map from the product makes, and back. -/
def liftL (M L N : Nat) (f : List Int) : List Int := (List.range N).map fun a => ((numR M (sliceL L f a) : Nat) : Int)
def lowL (M L : Nat) (e : List Int) : List Int := e.flatMap fun y => rowR M L y.toNat
theorem liftL_length (M L N : Nat) (f : List Int) : (liftL M L N f).length = N := by simp [liftL]
theorem lift_get {M L N : Nat} {f : List Int} {a : Nat} (ha : a < N) : (liftL M L N f)[a]? = some ((numR M (sliceL L f a) : Nat) : Int) := by simp [liftL, ha]
theorem lift_nd {M L N : Nat} {f : List Int} {a : Nat} (ha : a < N) : nd (liftL M L N f) a = numR M (sliceL L f a) := by rw [nd_eq (lift_get ha)]; simp
theorem lift_tells {M L N : Nat} {f : List Int} (h : Tells (N * L) M f) : Tells N (M ^ L) (liftL M L N f) := by
  refine ⟨liftL_length _ _ _ _, fun j y hy => ?_⟩
  have hj : j < N := by have := (List.getElem?_eq_some_iff.1 hy).1; rwa [liftL_length] at this
  rw [lift_get hj] at hy
  cases hy
  have := (rowR_numR L _ (slice_tells h hj)).2
  omega
theorem low_lift {M L N : Nat} {f : List Int} (h : Tells (N * L) M f) : lowL M L (liftL M L N f) = f := by
  have e : lowL M L (liftL M L N f) = (List.range N).flatMap (sliceL L f) := by
    unfold lowL liftL
    rw [List.flatMap_map]
    rw [List.flatMap_def, List.flatMap_def]
    refine congrArg List.flatten (List.map_congr_left fun a ha => ?_)
    rw [Int.toNat_natCast]
    exact (rowR_numR L _ (slice_tells h (List.mem_range.1 ha))).1
  rw [e, slices_all, List.take_of_length_le (by rw [h.1]; exact Nat.le_refl _)]
theorem lowL_length (M L : Nat) : ∀ e, (lowL M L e).length = e.length * L
  | [] => by simp [lowL]
  | y :: e => by
    have ih := lowL_length M L e
    unfold lowL at ih ⊢
    rw [List.flatMap_cons, List.length_append, rowR_length, ih, List.length_cons, Nat.succ_mul, Nat.add_comm]
theorem slice_low (M L : Nat) : ∀ (e : List Int) (a : Nat) (y : Int), e[a]? = some y → sliceL L (lowL M L e) a = rowR M L y.toNat
  | [], a, y, h => by simp at h
  | x :: e, 0, y, h => by
    simp at h; subst h
    unfold sliceL lowL
    rw [Nat.zero_mul, List.drop_zero, List.flatMap_cons, List.take_left' (rowR_length _ _ _)]
  | x :: e, a + 1, y, h => by
    have ih := slice_low M L e a y (by simpa using h)
    unfold sliceL lowL at ih ⊢
    rw [List.flatMap_cons, Nat.succ_mul, Nat.add_comm, ← List.drop_drop, List.drop_left' (rowR_length _ _ _)]
    exact ih
theorem lift_low {M L N : Nat} {e : List Int} (hM : 1 ≤ M) (h : Tells N (M ^ L) e) : liftL M L N (lowL M L e) = e := by
  refine List.ext_getElem? fun a => ?_
  by_cases ha : a < N
  · obtain ⟨p, hp, _, hlt⟩ := tells_at h ha
    rw [lift_get ha, slice_low M L e a _ hp, hp, Int.toNat_natCast, numR_rowR hM L p hlt]
  · rw [List.getElem?_eq_none (by rw [liftL_length]; omega), List.getElem?_eq_none (by rw [h.1]; omega)]
theorem low_tells {M L N : Nat} {e : List Int} (hM : 1 ≤ M) (h : e.length = N) : Tells (N * L) M (lowL M L e) := by
  refine ⟨by rw [lowL_length, h], fun j y hy => ?_⟩
  obtain ⟨x, _, hx⟩ := List.mem_flatMap.1 (List.mem_of_getElem? hy)
  obtain ⟨i, hi⟩ := List.mem_iff_getElem?.1 hx
  exact (rowR_tells hM L x.toNat).2 i y hi

end Go.Proofs.Ytiappomfohnhoaa
