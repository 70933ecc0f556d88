/-
  Several texts in one.
  Rows of nodes as numbers in a base.
  Powers of graphs, in plain words: their arrows, the rows that are maps, maps lifted and lowered, how many there are.
-/
import Derived.Test.YtofpjepndhpciaaZT
import Derived.Test.YtofpjepndhpciaaZN
namespace Go.Proofs.Ytofpjepndhpciaa
open Go.RowKit Go.Shelf

/-- The row of L digits of a number. -/
def rowR (M : Nat) : Nat → Nat → List Int
  | 0, _ => []
  | L + 1, a => rowR M L (a / M) ++ [((a % M : Nat) : Int)]
theorem rowR_length (M : Nat) : ∀ L a, (rowR M L a).length = L
  | 0, _ => rfl
  | L + 1, a => by rw [rowR, List.length_append, rowR_length M L]; rfl
/-- The number of a row. -/
def numR (M : Nat) (r : List Int) : Nat := r.foldl (fun n x => n * M + x.toNat) 0
theorem numR_snoc (M : Nat) (r : List Int) (x : Int) : numR M (r ++ [x]) = numR M r * M + x.toNat := by simp [numR]
theorem numR_rowR {M : Nat} (hM : 1 ≤ M) : ∀ L a, a < M ^ L → numR M (rowR M L a) = a
  | 0, a, h => by rw [Nat.pow_zero] at h; obtain rfl : a = 0 := by omega
                  rfl
  | L + 1, a, h => by
    have h1 : a / M < M ^ L := by rw [Nat.div_lt_iff_lt_mul (by omega)]; rwa [Nat.pow_succ] at h
    rw [rowR, numR_snoc, numR_rowR hM L _ h1]
    have h2 := Nat.div_add_mod a M
    rw [Nat.mul_comm] at h2
    rw [Int.toNat_natCast]; exact h2
theorem tells_snocI {L M : Nat} {r : List Int} {x : Int} : Tells (L + 1) M (r ++ [x]) ↔ Tells L M r ∧ 0 ≤ x ∧ x < M := by
  constructor
  · rintro ⟨h1, h2⟩
    have hl : r.length = L := by simpa using h1
    refine ⟨⟨hl, fun j y hy => ?_⟩, ?_⟩
    · have hj := (List.getElem?_eq_some_iff.1 hy).1
      exact h2 j y (by rw [List.getElem?_append_left hj]; exact hy)
    · exact h2 r.length x (by simp)
  · rintro ⟨⟨h1, h2⟩, h3⟩
    refine ⟨by simp [h1], fun j y hy => ?_⟩
    by_cases hj : j < r.length
    · rw [List.getElem?_append_left hj] at hy; exact h2 j y hy
    · rw [List.getElem?_append_right (by omega)] at hy
      have e : j - r.length = 0 := by have := (List.getElem?_eq_some_iff.1 hy).1; simp at this; omega
      rw [e] at hy
      simp at hy
      subst hy; exact h3
theorem rowR_tells {M : Nat} (hM : 1 ≤ M) : ∀ L a, Tells L M (rowR M L a)
  | 0, _ => ⟨rfl, fun j y hy => by simp [rowR] at hy⟩
  | L + 1, a => by
    rw [rowR]
    have := Nat.mod_lt a hM
    exact tells_snocI.2 ⟨rowR_tells hM L _, by omega, by omega⟩
theorem list_last {L : Nat} {r : List Int} (h : r.length = L + 1) : ∃ r' x, r = r' ++ [x] ∧ r'.length = L := by
  have hne : r ≠ [] := fun e => by rw [e] at h; simp at h
  exact ⟨r.dropLast, r.getLast hne, (List.dropLast_concat_getLast hne).symm, by rw [List.length_dropLast]; omega⟩
theorem rowR_numR {M : Nat} : ∀ L r, Tells L M r → rowR M L (numR M r) = r ∧ numR M r < M ^ L
  | 0, r, h => by
    obtain rfl : r = [] := List.eq_nil_of_length_eq_zero h.1
    exact ⟨rfl, by simp [numR]⟩
  | L + 1, r, h => by
    obtain ⟨r', x, rfl, hl⟩ := list_last h.1
    obtain ⟨h1, h2, h3⟩ := tells_snocI.1 h
    obtain ⟨e, hlt⟩ := rowR_numR L r' h1
    obtain ⟨n, rfl⟩ : ∃ n : Nat, x = n := ⟨x.toNat, by omega⟩
    have hn : n < M := by omega
    rw [numR_snoc, rowR, Int.toNat_natCast, pair_div hn, pair_mod hn, e, Nat.pow_succ]
    exact ⟨rfl, pair_lt hlt hn⟩
theorem rowR_inj {M L a b : Nat} (hM : 1 ≤ M) (ha : a < M ^ L) (hb : b < M ^ L) (h : rowR M L a = rowR M L b) : a = b := by
  rw [← numR_rowR hM L a ha, ← numR_rowR hM L b hb, h]

/-- The slice of a row at a block of L. -/
def sliceL (L : Nat) (f : List Int) (a : Nat) : List Int := (f.drop (a * L)).take L
theorem slice_nd {L : Nat} {f : List Int} {a k : Nat} (hk : k < L) : nd (sliceL L f a) k = nd f (a * L + k) := by
  unfold nd sliceL
  rw [List.getElem?_take_of_lt hk, List.getElem?_drop]
theorem slice_tells {N L M : Nat} {f : List Int} (h : Tells (N * L) M f) {a : Nat} (ha : a < N) : Tells L M (sliceL L f a) := by
  have h1 : a * L + L ≤ N * L := by rw [← Nat.succ_mul]; exact Nat.mul_le_mul_right _ ha
  refine ⟨by rw [sliceL, List.length_take, List.length_drop, h.1]; omega, fun j y hy => ?_⟩
  have hj := (List.getElem?_eq_some_iff.1 hy).1
  rw [sliceL, List.length_take] at hj
  rw [sliceL, List.getElem?_take_of_lt (by omega), List.getElem?_drop] at hy
  exact h.2 _ y hy
theorem slices_all (L : Nat) (f : List Int) : ∀ N, (List.range N).flatMap (sliceL L f) = f.take (N * L)
  | 0 => by simp
  | N + 1 => by
    rw [List.range_succ, List.flatMap_append, slices_all L f N, Nat.succ_mul, List.take_add]
    simp [sliceL]
/-- The map into the power that a map from the product makes, and back. -/
def liftL (M L N : Nat) (f : List Int) : List Int := (List.range N).map fun a => ((numR M (sliceL L f a) : Nat) : Int)
def lowL (M L : Nat) (e : List Int) : List Int := e.flatMap fun y => rowR M L y.toNat
theorem liftL_length (M L N : Nat) (f : List Int) : (liftL M L N f).length = N := by simp [liftL]
theorem lift_get {M L N : Nat} {f : List Int} {a : Nat} (ha : a < N) : (liftL M L N f)[a]? = some ((numR M (sliceL L f a) : Nat) : Int) := by simp [liftL, ha]
theorem lift_nd {M L N : Nat} {f : List Int} {a : Nat} (ha : a < N) : nd (liftL M L N f) a = numR M (sliceL L f a) := by rw [nd_eq (lift_get ha)]; simp
theorem lift_tells {M L N : Nat} {f : List Int} (h : Tells (N * L) M f) : Tells N (M ^ L) (liftL M L N f) := by
  refine ⟨liftL_length _ _ _ _, fun j y hy => ?_⟩
  have hj : j < N := by have := (List.getElem?_eq_some_iff.1 hy).1; rwa [liftL_length] at this
  rw [lift_get hj] at hy
  cases hy
  have := (rowR_numR L _ (slice_tells h hj)).2
  omega
theorem low_lift {M L N : Nat} {f : List Int} (h : Tells (N * L) M f) : lowL M L (liftL M L N f) = f := by
  have e : lowL M L (liftL M L N f) = (List.range N).flatMap (sliceL L f) := by
    unfold lowL liftL
    rw [List.flatMap_map]
    rw [List.flatMap_def, List.flatMap_def]
    refine congrArg List.flatten (List.map_congr_left fun a ha => ?_)
    rw [Int.toNat_natCast]
    exact (rowR_numR L _ (slice_tells h (List.mem_range.1 ha))).1
  rw [e, slices_all, List.take_of_length_le (by rw [h.1]; exact Nat.le_refl _)]
theorem lowL_length (M L : Nat) : ∀ e, (lowL M L e).length = e.length * L
  | [] => by simp [lowL]
  | y :: e => by
    have ih := lowL_length M L e
    unfold lowL at ih ⊢
    rw [List.flatMap_cons, List.length_append, rowR_length, ih, List.length_cons, Nat.succ_mul, Nat.add_comm]
theorem slice_low (M L : Nat) : ∀ (e : List Int) (a : Nat) (y : Int), e[a]? = some y → sliceL L (lowL M L e) a = rowR M L y.toNat
  | [], a, y, h => by simp at h
  | x :: e, 0, y, h => by
    simp at h; subst h
    unfold sliceL lowL
    rw [Nat.zero_mul, List.drop_zero, List.flatMap_cons, List.take_left' (rowR_length _ _ _)]
  | x :: e, a + 1, y, h => by
    have ih := slice_low M L e a y (by simpa using h)
    unfold sliceL lowL at ih ⊢
    rw [List.flatMap_cons, Nat.succ_mul, Nat.add_comm, ← List.drop_drop, List.drop_left' (rowR_length _ _ _)]
    exact ih
theorem lift_low {M L N : Nat} {e : List Int} (hM : 1 ≤ M) (h : Tells N (M ^ L) e) : liftL M L N (lowL M L e) = e := by
  refine List.ext_getElem? fun a => ?_
  by_cases ha : a < N
  · obtain ⟨p, hp, _, hlt⟩ := tells_at h ha
    rw [lift_get ha, slice_low M L e a _ hp, hp, Int.toNat_natCast, numR_rowR hM L p hlt]
  · rw [List.getElem?_eq_none (by rw [liftL_length]; omega), List.getElem?_eq_none (by rw [h.1]; omega)]
theorem low_tells {M L N : Nat} {e : List Int} (hM : 1 ≤ M) (h : e.length = N) : Tells (N * L) M (lowL M L e) := by
  refine ⟨by rw [lowL_length, h], fun j y hy => ?_⟩
  obtain ⟨x, _, hx⟩ := List.mem_flatMap.1 (List.mem_of_getElem? hy)
  obtain ⟨i, hi⟩ := List.mem_iff_getElem?.1 hx
  exact (rowR_tells hM L x.toNat).2 i y hi

end Go.Proofs.Ytofpjepndhpciaa

namespace Go.Proofs.Ytofpjepndhpciaa
open Go.RowKit Go.Shelf

def powOk (H G : List (List Int)) : Bool := gOk G && gOk H && decide (H.length ^ G.length ≤ 9)
/-- Is there an arrow from a row to a row? -/
def powP (H G : List (List Int)) (a b : Nat) : Bool := (AL G).all fun x => arw H (nd (rowR H.length G.length a) x.1.1) (nd (rowR H.length G.length b) x.2.1)
/-- THE POWER; nothing where there is none. -/
def powL (H G : List (List Int)) : List (List Int) := if powOk H G = true then rowsP (H.length ^ G.length) (powP H G) else []
theorem powL_yes {H G : List (List Int)} (h : powOk H G = true) : powL H G = rowsP (H.length ^ G.length) (powP H G) := if_pos h
theorem powL_no {H G : List (List Int)} (h : powOk H G = false) : powL H G = [] := if_neg (by rw [h]; decide)
theorem powOk_of {H G : List (List Int)} (h : powOk H G = true) : Good H ∧ Good G ∧ H.length ^ G.length ≤ 9 := by
  unfold powOk at h
  simp only [Bool.and_eq_true, decide_eq_true_eq] at h
  exact ⟨good_of h.1.2, good_of h.1.1, h.2⟩
theorem powOk_yes {H G : List (List Int)} (h : gOk G = true) (h' : gOk H = true) (h9 : H.length ^ G.length ≤ 9) : powOk H G = true := by
  unfold powOk; rw [h, h', decide_eq_true h9]; rfl
theorem powOk_no1 {H G : List (List Int)} (h : gOk G = false) : powOk H G = false := by unfold powOk; rw [h]; rfl
theorem powOk_no2 {H G : List (List Int)} (h : gOk H = false) : powOk H G = false := by unfold powOk; rw [h]; simp
theorem powOk_no3 {H G : List (List Int)} (h : ¬ H.length ^ G.length ≤ 9) : powOk H G = false := by unfold powOk; rw [decide_eq_false h]; simp
theorem pow_pos1 {H G : List (List Int)} (h : Good H) : 1 ≤ H.length ^ G.length := Nat.pow_pos (by have := h.1; omega)
theorem pow_good {H G : List (List Int)} (h : powOk H G = true) : Good (powL H G) := by
  obtain ⟨hH, _, h9⟩ := powOk_of h
  rw [powL_yes h]; exact rowsP_good _ (pow_pos1 hH) h9
theorem pow_length {H G : List (List Int)} (h : powOk H G = true) : (powL H G).length = H.length ^ G.length := by rw [powL_yes h, rowsP_length]
theorem pow_fit {H G : List (List Int)} : Fit (powL H G) := by
  cases h : powOk H G with
  | true => exact (pow_good h).fit
  | false => rw [powL_no h]; exact ⟨by simp, fun xs hx => by cases hx⟩
theorem powP_iff {H G : List (List Int)} {a b : Nat} : powP H G a b = true ↔ ∀ i j, i < G.length → j < G.length → arw G i j = true → arw H (nd (rowR H.length G.length a) i) (nd (rowR H.length G.length b) j) = true := by
  unfold powP
  rw [List.all_eq_true]
  exact ⟨fun h i j hi hj ha => h (⟨i, hi⟩, ⟨j, hj⟩) ((AL_mem _).2 ha), fun h x hx => h x.1.1 x.2.1 x.1.2 x.2.2 ((AL_mem x).1 hx)⟩
theorem arw_pow {H G : List (List Int)} (h : powOk H G = true) {a b : Nat} (ha : a < H.length ^ G.length) (hb : b < H.length ^ G.length) : arw (powL H G) a b = powP H G a b := by
  rw [powL_yes h, arw_rowsP ha hb]
/-- A node has an arrow to itself exactly if its row is a map. -/
theorem pow_diag {H G : List (List Int)} (h : powOk H G = true) {a : Nat} (ha : a < H.length ^ G.length) : arw (powL H G) a a = mapOkI G H (rowR H.length G.length a) := by
  obtain ⟨hH, hG, _⟩ := powOk_of h
  rw [arw_pow h ha ha, mapOk_yes (gOk_true hG) (gOk_true hH) ((tells_iff _ _ _).2 (rowR_tells hH.1 _ _))]
  rfl

/-- A MAP FROM THE PRODUCT IS A MAP INTO THE POWER. -/
theorem lift_map {K H G : List (List Int)} {f : List Int} (ht : timOk K G = true) (hp : powOk H G = true) (hf : Tells (K.length * G.length) H.length f) :
    IsMap (timL K G) H f ↔ IsMap K (powL H G) (liftL H.length G.length K.length f) := by
  obtain ⟨hK, hG, _⟩ := timOk_of ht
  obtain ⟨hH, _, _⟩ := powOk_of hp
  have hlt : ∀ a, a < K.length → numR H.length (sliceL G.length f a) < H.length ^ G.length := fun a ha => (rowR_numR _ _ (slice_tells hf ha)).2
  have hrow : ∀ a, a < K.length → rowR H.length G.length (numR H.length (sliceL G.length f a)) = sliceL G.length f a := fun a ha => (rowR_numR _ _ (slice_tells hf ha)).1
  constructor
  · rintro ⟨_, h2⟩
    refine ⟨by rw [pow_length hp]; exact lift_tells hf, fun a b ha hb hab => ?_⟩
    rw [lift_nd ha, lift_nd hb, arw_pow hp (hlt a ha) (hlt b hb)]
    refine powP_iff.2 fun i j hi hj hij => ?_
    rw [hrow a ha, hrow b hb, slice_nd hi, slice_nd hj]
    refine h2 _ _ (by rw [tim_length ht]; exact pair_lt ha hi) (by rw [tim_length ht]; exact pair_lt hb hj) ?_
    rw [arw_tim ht]
    unfold timP
    rw [pair_div hi, pair_div hj, pair_mod hi, pair_mod hj, hab, hij]
    rfl
  · rintro ⟨_, h2⟩
    refine ⟨by rw [tim_length ht]; exact hf, fun p q hp' hq' hpq => ?_⟩
    rw [tim_length ht] at hp' hq'
    rw [arw_tim ht] at hpq
    unfold timP at hpq
    simp only [Bool.and_eq_true] at hpq
    obtain ⟨h3, h4⟩ := hpq
    have hg1 := hG.1
    have a1 := div_lt hp'
    have b1 := div_lt hq'
    have i1 := Nat.mod_lt p hg1
    have j1 := Nat.mod_lt q hg1
    have h5 := h2 _ _ a1 b1 h3
    rw [lift_nd a1, lift_nd b1, arw_pow hp (hlt _ a1) (hlt _ b1)] at h5
    have h6 := powP_iff.1 h5 _ _ i1 j1 h4
    rw [hrow _ a1, hrow _ b1, slice_nd i1, slice_nd j1] at h6
    have e1 : p / G.length * G.length + p % G.length = p := by rw [Nat.mul_comm]; exact Nat.div_add_mod p _
    have e2 : q / G.length * G.length + q % G.length = q := by rw [Nat.mul_comm]; exact Nat.div_add_mod q _
    rw [e1, e2] at h6
    exact h6
theorem low_map {K H G : List (List Int)} {e : List Int} (ht : timOk K G = true) (hp : powOk H G = true) (he : IsMap K (powL H G) e) : IsMap (timL K G) H (lowL H.length G.length e) := by
  obtain ⟨hH, _, _⟩ := powOk_of hp
  have h1 := he.1
  rw [pow_length hp] at h1
  refine (lift_map ht hp (low_tells hH.1 h1.1)).2 ?_
  rw [lift_low hH.1 h1]
  exact he

theorem nodup_le {α : Type} [DecidableEq α] : ∀ {l m : List α}, l.Nodup → (∀ x ∈ l, x ∈ m) → l.length ≤ m.length
  | [], _, _, _ => Nat.zero_le _
  | x :: l, m, h, hs => by
    obtain ⟨h1, h2⟩ := List.nodup_cons.1 h
    have hx := hs x (by simp)
    have := nodup_le (l := l) (m := m.erase x) h2 fun y hy => (List.mem_erase_of_ne (fun e => by subst e; exact h1 hy)).2 (hs y (List.mem_cons_of_mem _ hy))
    rw [List.length_erase_of_mem hx] at this
    have hp : 0 < m.length := List.length_pos_of_mem hx
    rw [List.length_cons]; omega
theorem nodup_image {α β : Type} {f : α → β} {g : β → α} : ∀ {l : List α}, l.Nodup → (∀ x ∈ l, g (f x) = x) → (l.map f).Nodup
  | [], _, _ => List.nodup_nil
  | x :: l, h, hg => by
    obtain ⟨h1, h2⟩ := List.nodup_cons.1 h
    refine List.nodup_cons.2 ⟨fun hm => ?_, nodup_image h2 fun y hy => hg y (List.mem_cons_of_mem _ hy)⟩
    obtain ⟨y, hy, e⟩ := List.mem_map.1 hm
    have e1 := hg x (by simp)
    have e2 := hg y (List.mem_cons_of_mem _ hy)
    rw [e] at e2
    rw [e1] at e2
    rw [e2] at h1
    exact h1 hy
theorem mapsL_nodup (G H : List (List Int)) : (mapsL G H).Nodup := by
  by_cases h : fewI G H = true
  · rw [mapsL_yes h]; exact maps_nodup G H _ _
  · rw [mapsL_no (by simpa using h)]; exact List.nodup_nil
/-- AS MANY MAPS INTO THE POWER AS FROM THE PRODUCT. -/
theorem count_pow {K H G : List (List Int)} (ht : timOk K G = true) (hp : powOk H G = true) (h1 : fewI (timL K G) H = true) (h2 : fewI K (powL H G) = true) : countI K (powL H G) = countI (timL K G) H := by
  obtain ⟨hH, _, _⟩ := powOk_of hp
  rw [countI_yes h1, countI_yes h2]
  have hA : (mapsL (timL K G) H).length ≤ (mapsL K (powL H G)).length := by
    have e := nodup_image (f := liftL H.length G.length K.length) (g := lowL H.length G.length) (mapsL_nodup (timL K G) H) fun f hf => by
      have := ((mapsL_mem h1 f).1 hf).1
      rw [tim_length ht] at this
      exact low_lift this
    have := nodup_le e (m := mapsL K (powL H G)) fun x hx => by
      obtain ⟨f, hf, rfl⟩ := List.mem_map.1 hx
      have hm := (mapsL_mem h1 f).1 hf
      have ht' := hm.1
      rw [tim_length ht] at ht'
      exact (mapsL_mem h2 _).2 ((lift_map ht hp ht').1 hm)
    simpa using this
  have hB : (mapsL K (powL H G)).length ≤ (mapsL (timL K G) H).length := by
    have e := nodup_image (f := lowL H.length G.length) (g := liftL H.length G.length K.length) (mapsL_nodup K (powL H G)) fun x hx => by
      have := ((mapsL_mem h2 x).1 hx).1
      rw [pow_length hp] at this
      exact lift_low hH.1 this
    have := nodup_le e (m := mapsL (timL K G) H) fun y hy => by
      obtain ⟨x, hx, rfl⟩ := List.mem_map.1 hy
      exact (mapsL_mem h1 _).2 (low_map ht hp ((mapsL_mem h2 x).1 hx))
    simpa using this
  have : (mapsL K (powL H G)).length = (mapsL (timL K G) H).length := Nat.le_antisymm hB hA
  rw [this]

end Go.Proofs.Ytofpjepndhpciaa
