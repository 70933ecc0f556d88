/-
  Rows of digits: the model's l4Row; the program's power: how many nodes, a row by its number, the number of a row.
-/
import Derived.Test.YtjcoilabmbmbkaaY1
import Derived.Test.YtjcoilabmbmbkaaZI
namespace Go.Proofs.Ytjcoilabmbmbkaa
open Go.RowKit Go.Shelf Go.Deep

theorem rowR_get {M : Nat} : ∀ (L a j : Nat), j < L → (rowR M L a)[j]? = some (((a / M ^ (L - 1 - j)) % M : Nat) : Int)
  | 0, _, j, h => absurd h (Nat.not_lt_zero _)
  | L + 1, a, j, h => by
    rw [rowR]
    by_cases hj : j < L
    · rw [List.getElem?_append_left (by rw [rowR_length]; exact hj), rowR_get L _ j hj, Nat.div_div_eq_div_mul, ← Nat.pow_succ', show (L - 1 - j).succ = L + 1 - 1 - j by omega]
    · obtain rfl : j = L := by omega
      rw [List.getElem?_append_right (by rw [rowR_length]; exact Nat.le_refl _), rowR_length]; simp
/-- What is left of a number when the digits from t on are told. -/
theorem left_next {M L a q k : Nat} (h : q = a / M ^ (L - (k + 1))) (hk : k + 1 ≤ L) : q / M = a / M ^ (L - k) ∧ (rowR M L a)[k]? = some ((q % M : Nat) : Int) := by
  refine ⟨by rw [h, Nat.div_div_eq_div_mul, ← Nat.pow_succ, show (L - (k + 1)).succ = L - k by omega], ?_⟩
  rw [rowR_get L a k (by omega), h, show L - 1 - k = L - (k + 1) by omega]
/-- A row of which the digits from t on are told. -/
def downR (zs : List Int) (t j : Nat) : Value := .int .i64 (if t ≤ j then zs[j]?.getD 0 else 0)
theorem down_start (w : World) (zs : List Int) {L : Nat} (hL : zs.length = L) : (w.alloc (.cells (madeCells #[.int .i64 0] L) 3)).rowIs w.heap.size 3 zs.length (downR zs L) := by
  subst hL
  exact (World.rowIs_made w _ _ _).congr fun j hj => by unfold downR; rw [if_neg (by omega)]
theorem down_step {wr : World} {zs : List Int} {b k : Nat} {x : Int} (h : wr.rowIs b 3 zs.length (downR zs (k + 1))) (hx : zs[k]? = some x) : (wr.setCell ⟨b, k, none⟩ (.int .i64 x)).rowIs b 3 zs.length (downR zs k) :=
  (h.set k _).congr fun j _ => by
    unfold downR
    by_cases e : j = k
    · subst e; simp [hx]
    · by_cases hj : k ≤ j
      · simp [e, hj, show k + 1 ≤ j by omega]
      · simp [e, hj, show ¬ k + 1 ≤ j by omega]
theorem down_done {wr : World} {b : Nat} {zs : List Int} (h : wr.rowIs b 3 zs.length (downR zs 0)) : RowI wr b zs := h.congr fun j _ => by unfold downR; rw [if_pos (Nat.zero_le _)]

theorem rem_nat (q m : Nat) : Int.tmod (q : Int) (m : Int) = ((q % m : Nat) : Int) := by rw [Int.tmod_eq_emod_of_nonneg (Int.natCast_nonneg _)]; rfl
theorem quo_nat (q m : Nat) : Int.tdiv (q : Int) (m : Int) = ((q / m : Nat) : Int) := by rw [Int.tdiv_eq_ediv_of_nonneg (Int.natCast_nonneg _)]; rfl
theorem wrap_nat {q : Nat} (h : q ≤ 1000000) : IntKind.i64.wrap (q : Int) = (q : Int) := by simp [IntKind.wrap, IntKind.bits, IntKind.signed]; omega

set_option maxRecDepth 100000 in
set_option maxHeartbeats 2000000 in
theorem specRow (x L M : Nat) (w : World) (hx : x ≤ 1000000) (hL : L ≤ 9) (hM : 1 ≤ M) (hM9 : M ≤ 9) :
    Calls Try.prog 55 #[.int .i64 x, .int .i64 L, .int .i64 M] w fun e w' => e = .returned (.slice (some ⟨w.heap.size, 0, none⟩) L L) ∧ Below w.heap.size w w' ∧ RowI w' w.heap.size (rowR M L x) := by
  obtain ⟨zs, HZ⟩ : ∃ zs, Hid (rowR M L x = zs) := ⟨_, rfl⟩
  have HN : Hid (∀ q k, q = x / M ^ (L - (k + 1)) → k + 1 ≤ L → q / M = x / M ^ (L - k) ∧ zs[k]? = some ((q % M : Nat) : Int)) := Lib.hid fun q k h1 h2 => by rw [← HZ.out]; exact left_next h1 h2
  have HZL : Hid (zs.length = L) := Lib.hid (by rw [← HZ.out, rowR_length])
  rw [HZ.out]
  clear HZ
  have hm0 : (M : Int) ≠ 0 := by omega
  have hm1 : M ≠ 0 := by omega
  have hmk := run_make_row' (P := Try.prog) 30 3 (.int .i64 0) 8 Try.underlying30 infoInt rfl .i64 .i64 L (by omega) (by omega)
  go_enter Try.func55, Try.ntmps55
  go_wp2_with fail
  clear hmk
  go_loopw [8, 9] (fun l i wr => ∃ (t q : Nat) (z : Int), t ≤ L ∧ i = .int .i64 z ∧ z + 1 = t ∧ l = .int .i64 q ∧ q ≤ x ∧ Hid (q = x / M ^ (L - t)) ∧ Below w.heap.size w wr ∧ Hid (wr.rowIs w.heap.size 3 zs.length (downR zs t)))
    (fun _ i _ => (intOf i + 1).toNat)
  case atStart => exact ⟨L, x, (L : Int) - 1, Nat.le_refl _, by go_num, by omega, rfl, Nat.le_refl _, Lib.hid (by rw [Nat.sub_self, Nat.pow_zero, Nat.div_one]), (Below.refl _ _).alloc (Nat.le_refl _) _, Lib.hid (down_start w zs HZL.out)⟩
  case round =>
    obtain ⟨t, q, z, ht, rfl, hz, rfl, hq, HQ, hB, HR⟩ := hrel
    by_cases h0 : 0 ≤ z
    · obtain ⟨k, rfl⟩ : ∃ k : Nat, z = k := ⟨z.toNat, by omega⟩
      obtain rfl : t = k + 1 := by omega
      obtain ⟨e1, e2⟩ := HN.out q k HQ.out ht
      have HE1 := Lib.hid e1
      have HE2 := Lib.hid e2
      have hkz : k < zs.length := by rw [HZL.out]; omega
      have hkL : (k : Int) < (L : Int) := by omega
      have hk0 : (0 : Int) ≤ (k : Int) := Int.natCast_nonneg _
      have t1 := rem_nat q M
      have t2 := quo_nat q M
      have hr := Nat.mod_lt q hM
      have hd := Nat.div_le_self q M
      clear e1 e2 hkz
      obtain ⟨r, hrr⟩ : ∃ r, q % M = r := ⟨_, rfl⟩
      obtain ⟨d, hdd⟩ : ∃ d, q / M = d := ⟨_, rfl⟩
      rw [hrr] at t1 hr HE2
      rw [hdd] at t2 hd HE1
      clear hrr hdd
      have w1 := wrap_nat (q := r) (by omega)
      have w2 := wrap_nat (q := d) (by omega)
      have hc3 := HR.out.cell (show k < zs.length by rw [HZL.out]; omega)
      have hf3 := HR.out.frozen k
      go_wp2_with fail
      go_roundw
      case rel => exact ⟨k, d, (k : Int) - 1, by omega, by go_num, by omega, rfl, by omega, HE1, hB.setCell (p := ⟨w.heap.size, k, none⟩) (Nat.le_refl _) _, Lib.hid (down_step HR.out HE2.out)⟩
      case measure => simp [intOf] <;> omega
    · obtain rfl : t = 0 := by omega
      have HR2 : Hid (RowI wr w.heap.size zs) := Lib.hid (down_done HR.out)
      go_wp2_with fail
      go_ret
      exact ⟨rfl, hB, HR2.out⟩

/-- BLOCK B HOLDS A POWER: the base, with the exponent. -/
def PBox (W : World) (B : Nat) (a : Option Addr) (m c : Nat) (a' : Option Addr) (m' c' : Nat) : Prop := W.heap[B]? = some (.cells #[.slice a m c, .slice a' m' c'] 58 (0, 0))
theorem PBox.lt {W : World} {B m c m' c' : Nat} {a a' : Option Addr} (h : PBox W B a m c a' m' c') : B < W.heap.size := (Array.getElem?_eq_some_iff.1 h).1
theorem PBox.base {W : World} {B m c m' c' : Nat} {a a' : Option Addr} (h : PBox W B a m c a' m' c') : W.cell? ⟨B, 0, none⟩ = some (.slice a m c) := by simp [World.cell?, show W.heap[B]? = _ from h]
theorem PBox.exponent {W : World} {B m c m' c' : Nat} {a a' : Option Addr} (h : PBox W B a m c a' m' c') : W.cell? ⟨B, 1, none⟩ = some (.slice a' m' c') := by simp [World.cell?, show W.heap[B]? = _ from h]
theorem PBox.new (W : World) (a : Option Addr) (m c : Nat) (a' : Option Addr) (m' c' : Nat) : PBox (W.alloc (.cells #[.slice a m c, .slice a' m' c'] 58)) W.heap.size a m c a' m' c' := World.alloc_heap_new W _
theorem PBox.below {W W' : World} {B m c m' c' n₀ : Nat} {a a' : Option Addr} (h : PBox W B a m c a' m' c') (hb : Below n₀ W W') (hn : B < n₀) : PBox W' B a m c a' m' c' := (hb.block B hn).trans h
theorem PBox.alloc {W : World} {B m c m' c' : Nat} {a a' : Option Addr} (h : PBox W B a m c a' m' c') (o : Obj) : PBox (W.alloc o) B a m c a' m' c' := (blk_alloc_lt W o _ h.lt).trans h


set_option maxRecDepth 100000 in
set_option maxHeartbeats 1000000 in
theorem powNodes (a a' : Option Addr) (m c m' c' : Nat) (w : World) (hm : m ≤ 9) (hm' : m' ≤ 9) :
    Calls Try.prog 50 #[.agg #[.slice a m c, .slice a' m' c']] w (Ans (.int .i64 ((m ^ m' : Nat) : Int)) w) := by
  have es : ∀ (W : World) (o : Obj), (W.alloc o).heap.size = W.heap.size + 1 := fun W o => by simp
  obtain ⟨z, HZ⟩ : ∃ z : Nat, Hid (m ^ m' = z) := ⟨_, rfl⟩
  have HR := Lib.hid fun W => rowsToP a' a m' m c' c W hm' hm
  rw [HZ.out] at HR ⊢
  have hP := PBox.new w a m c a' m' c'
  have hB := (Below.refl w.heap.size w).alloc (Nat.le_refl _) (.cells #[.slice a m c, .slice a' m' c'] 58)
  go_enter Try.func50, Try.ntmps50
  have c0 := hP.base
  have c1 := hP.exponent
  go_wp2_with fail
  refine (HR.out _).mono ?_
  rintro e w1 ⟨rfl, hB1⟩
  have HB := Lib.hid (hB.trans (hB1.mono hB.size))
  clear hB1
  go_wp2_with fail
  go_ret
  exact ⟨rfl, HB.out⟩

set_option maxRecDepth 100000 in
set_option maxHeartbeats 2000000 in
theorem powRow (a a' : Option Addr) (M c L c' x : Nat) (w : World) (hx : x ≤ 1000000) (hL : L ≤ 9) (hM : 1 ≤ M) (hM9 : M ≤ 9) :
    Calls Try.prog 53 #[.agg #[.slice a M c, .slice a' L c'], .int .i64 x] w fun e w' => ∃ b : Nat, e = .returned (.slice (some ⟨b, 0, none⟩) L L) ∧ Below w.heap.size w w' ∧ RowI w' b (rowR M L x) ∧ w.heap.size ≤ b := by
  obtain ⟨zs, HZ⟩ : ∃ zs, Hid (rowR M L x = zs) := ⟨_, rfl⟩
  have HN : Hid (∀ q k, q = x / M ^ (L - (k + 1)) → k + 1 ≤ L → q / M = x / M ^ (L - k) ∧ zs[k]? = some ((q % M : Nat) : Int)) := Lib.hid fun q k h1 h2 => by rw [← HZ.out]; exact left_next h1 h2
  have HZL : Hid (zs.length = L) := Lib.hid (by rw [← HZ.out, rowR_length])
  rw [HZ.out]
  clear HZ
  have es : ∀ (W : World) (o : Obj), (W.alloc o).heap.size = W.heap.size + 1 := fun W o => by simp
  have hm0 : (M : Int) ≠ 0 := by omega
  have hm1 : M ≠ 0 := by omega
  have hmk := run_make_row' (P := Try.prog) 30 3 (.int .i64 0) 8 Try.underlying30 infoInt rfl .i64 .i64 L (by omega) (by omega)
  have hP0 := PBox.new w a M c a' L c'
  have hB0 := (Below.refl w.heap.size w).alloc (Nat.le_refl _) (.cells #[.slice a M c, .slice a' L c'] 58)
  have c0 := hP0.base
  have c1 := hP0.exponent
  go_enter Try.func53, Try.ntmps53
  go_wp2_with fail
  refine (nodesQ _ _ _ _).mono ?_
  rintro e w1 ⟨rfl, rfl⟩
  have hP1 := hP0.alloc (.cells #[.slice a' L c'] 56)
  have hB1 := hB0.alloc hB0.size (.cells #[.slice a' L c'] 56)
  obtain ⟨V, hV⟩ : ∃ V, (w.alloc (.cells #[.slice a M c, .slice a' L c'] 58)).alloc (.cells #[.slice a' L c'] 56) = V := ⟨_, rfl⟩
  rw [hV] at hP1 hB1 ⊢
  clear hV hP0 hB0 c0 c1
  have hz1 := hB1.size
  have hPV := hP1.lt
  go_wp2_with fail
  clear hmk
  go_loopw [1, 6] (fun l i wr => ∃ (t q : Nat) (z : Int), t ≤ L ∧ i = .int .i64 z ∧ z + 1 = t ∧ l = .int .i64 q ∧ q ≤ x ∧ Hid (q = x / M ^ (L - t)) ∧ Below V.heap.size V wr ∧ Hid (wr.rowIs V.heap.size 3 zs.length (downR zs t)))
    (fun _ i _ => (intOf i + 1).toNat)
  case atStart => exact ⟨L, x, (L : Int) - 1, Nat.le_refl _, by go_num, by omega, rfl, Nat.le_refl _, Lib.hid (by rw [Nat.sub_self, Nat.pow_zero, Nat.div_one]), (Below.refl _ _).alloc (Nat.le_refl _) _, Lib.hid (down_start V zs HZL.out)⟩
  case round =>
    obtain ⟨t, q, z, ht, rfl, hz, rfl, hq, HQ, hB, HR⟩ := hrel
    by_cases h0 : 0 ≤ z
    · obtain ⟨k, rfl⟩ : ∃ k : Nat, z = k := ⟨z.toNat, by omega⟩
      obtain rfl : t = k + 1 := by omega
      obtain ⟨e1, e2⟩ := HN.out q k HQ.out ht
      have HE1 := Lib.hid e1
      have HE2 := Lib.hid e2
      have hkL : (k : Int) < (L : Int) := by omega
      have hk0 : (0 : Int) ≤ (k : Int) := Int.natCast_nonneg _
      have t1 := rem_nat q M
      have t2 := quo_nat q M
      have hr := Nat.mod_lt q hM
      have hd := Nat.div_le_self q M
      clear e1 e2
      obtain ⟨r, hrr⟩ : ∃ r, q % M = r := ⟨_, rfl⟩
      obtain ⟨d, hdd⟩ : ∃ d, q / M = d := ⟨_, rfl⟩
      rw [hrr] at t1 hr HE2
      rw [hdd] at t2 hd HE1
      clear hrr hdd
      have w1 := wrap_nat (q := r) (by omega)
      have w2 := wrap_nat (q := d) (by omega)
      have hkz : k < zs.length := by rw [HZL.out]; omega
      have hP2 := hP1.below hB hPV
      have c0 := hP2.base
      have hws := hB.size
      go_wp2_with fail
      refine (nodesQ _ _ _ _).mono ?_
      rintro e w1 ⟨rfl, rfl⟩
      have HR2 := HR.out.alloc (.cells #[.slice a M c] 56)
      have hc3 := HR2.cell hkz
      have hf3 := HR2.frozen k
      have HR3 := Lib.hid (down_step HR2 HE2.out)
      have hB3 := (hB.alloc hws (.cells #[.slice a M c] 56)).setCell (p := ⟨V.heap.size, k, none⟩) (Nat.le_refl _) (.int .i64 r)
      clear HR2
      have hP4 := hP1.below hB3 hPV
      have c4 := hP4.base
      clear hP4
      go_wp2_with fail
      refine (nodesQ _ _ _ _).mono ?_
      rintro e w1 ⟨rfl, rfl⟩
      go_wp2_with fail
      go_roundw
      case rel => exact ⟨k, d, (k : Int) - 1, by omega, by go_num, by omega, rfl, by omega, HE1, hB3.alloc hB3.size _, Lib.hid (HR3.out.alloc _)⟩
      case measure => simp [intOf] <;> omega
    · obtain rfl : t = 0 := by omega
      have HR2 : Hid (RowI wr V.heap.size zs) := Lib.hid (down_done HR.out)
      have HB2 := Lib.hid (hB1.trans (hB.mono hz1))
      go_wp2_with fail
      go_ret
      exact ⟨_, rfl, HB2.out, HR2.out, hz1⟩

theorem tells_take {L M k : Nat} {r : List Int} (h : Tells L M r) (hk : k ≤ L) : Tells k M (r.take k) := by
  refine ⟨by rw [List.length_take, h.1]; omega, fun j y hy => ?_⟩
  have hj := (List.getElem?_eq_some_iff.1 hy).1
  rw [List.length_take] at hj
  rw [List.getElem?_take_of_lt (by omega)] at hy
  exact h.2 j y hy
theorem numR_take {L M k : Nat} {r : List Int} (h : Tells L M r) (hk : k ≤ L) (hL : L ≤ 9) (hM : M ≤ 9) : numR M (r.take k) ≤ 387420489 := Nat.le_of_lt (Nat.lt_of_lt_of_le (rowR_numR k _ (tells_take h hk)).2 (pow_le9 hM (by omega)))
theorem numR_next {M k : Nat} {r : List Int} {y : Nat} (h : r[k]? = some (y : Int)) : numR M (r.take (k + 1)) = numR M (r.take k) * M + y := by
  rw [List.take_add_one, h]; exact (numR_snoc M _ _).trans (by rw [Int.toNat_natCast])

set_option maxRecDepth 100000 in
set_option maxHeartbeats 2000000 in
theorem powNumber (a a' a'' : Option Addr) (M c L c' c'' n₀ : Nat) (r : List Int) (w : World) (hI : Ints n₀ w a'' r) (hn : n₀ ≤ w.heap.size) (hT : Tells L M r) (hL : L ≤ 9) (hM9 : M ≤ 9) :
    Calls Try.prog 63 #[.agg #[.slice a M c, .slice a' L c'], .slice a'' L c''] w (Ans (.int .i64 (numR M r)) w) := by
  obtain ⟨z, HZ⟩ : ∃ z : Nat, Hid (numR M r = z) := ⟨_, rfl⟩
  rw [HZ.out]
  have HT := Lib.hid hT
  clear hT
  have hP0 := PBox.new w a M c a' L c'
  have hB0 := (Below.refl w.heap.size w).alloc (Nat.le_refl _) (.cells #[.slice a M c, .slice a' L c'] 58)
  go_enter Try.func63, Try.ntmps63
  go_wp2_with fail
  obtain ⟨V, hV⟩ : ∃ V, w.alloc (.cells #[.slice a M c, .slice a' L c'] 58) = V := ⟨_, rfl⟩
  rw [hV] at hP0 hB0 ⊢
  clear hV
  have hz0 := hB0.size
  have hPV := hP0.lt
  go_loopw [5, 10] (fun l i wr => ∃ (k q : Nat), k ≤ L ∧ i = .int .i64 k ∧ l = .int .i64 q ∧ Hid (q = numR M (r.take k)) ∧ Below V.heap.size V wr) (fun _ i _ => L - (intOf i).toNat)
  case atStart => exact ⟨0, 0, Nat.zero_le _, rfl, rfl, Lib.hid (by simp [numR]), Below.refl _ _⟩
  case round =>
    obtain ⟨k, q, hk, rfl, rfl, HQ, hB⟩ := hrel
    have hws := hB.size
    by_cases hlt : k < L
    · obtain ⟨y, hy, _, hyM⟩ := tells_at HT.out hlt
      obtain ⟨b, o, u, rfl, hb, hc0, HU⟩ := hI.at_ (k := k) (by rw [HT.out.1]; exact hlt)
      have eu : u = (y : Int) := by have := HU.out; rw [hy] at this; cases this; rfl
      subst eu
      have hq9 : q ≤ 387420489 := by rw [HQ.out]; exact numR_take HT.out hk hL hM9
      have hqm : q * M ≤ 387420489 * 9 := Nat.mul_le_mul hq9 hM9
      have hp0 : (0 : Int) ≤ (q : Int) * (M : Int) := by rw [← Int.natCast_mul]; omega
      have hp1 : (q : Int) * (M : Int) ≤ 3486784401 := by rw [← Int.natCast_mul]; omega
      have HX : Hid (q * M + y = numR M (r.take (k + 1))) := Lib.hid (by rw [numR_next hy, HQ.out])
      have hc : wr.cell? ⟨b, o + k, none⟩ = some (.int .i64 (y : Int)) := ((hB0.trans (hB.mono hz0)).cell (p := ⟨b, o + k, none⟩) (by show b < _; omega)).trans hc0
      have hP2 := hP0.below hB hPV
      have c0 := hP2.base
      clear hc0 hy HU
      go_wp2_with fail
      refine (nodesQ _ _ _ _).mono ?_
      rintro e w1 ⟨rfl, rfl⟩
      go_wp2_with fail
      go_roundw
      case rel => exact ⟨k + 1, q * M + y, by omega, by go_num, by rw [Int.natCast_add, Int.natCast_mul], HX, hB.alloc hws _⟩
      case measure => simp [intOf] <;> omega
    · have hkL : k = L := by omega
      have HE : Hid (q = z) := Lib.hid (by rw [HQ.out, ← HZ.out, List.take_of_length_le (by rw [HT.out.1]; omega)])
      clear hkL
      have HB := Lib.hid (hB0.trans (hB.mono hz0))
      go_wp2_with fail
      go_ret
      exact ⟨by rw [HE.out]; rfl, HB.out⟩

end Go.Proofs.Ytjcoilabmbmbkaa
