/-
  Numbers of pairs in a map: impl.numbersOf; impl.PairedOf, walked.
-/
import Derived.Test.YtjcoilabmbmbkaaT9
import Derived.Test.YtjcoilabmbmbkaaZS
import Derived.Test.YtjcoilabmbmbkaaZN
import Derived.Maps.OwnOps
import Derived.Maps.Views
import Derived.DeepKeys4
import Derived.WideKeyPair
namespace Go.Proofs.Ytjcoilabmbmbkaa
open Go.RowKit Go.Shelf Go.Deep Go.Maps Go.WideMaps

theorem pairRow : (83 : TypeId) < Try.prog.types.size := of_decide_eq_true (by kernel_rfl)
theorem pairArr : ArrKey Try.prog 83 3 2 := ⟨Try.underlying83, by kernel_rfl, by kernel_rfl, by kernel_rfl⟩
theorem pairWide : (match Try.prog.underlying 83 with | some (.array _ _) | some (.struct _) => true | _ => false) = true := by rw [Try.underlying83]
theorem pairLaid : laidOutB Try.prog = true := by kernel_rfl
theorem pairKeyed : Keyed Try.prog 83 := Keyed.of_law (deep_law_laid pairLaid (m := 2) (by omega) pairRow (by kernel_rfl) pairWide)
theorem typesSome : ∃ m, Try.prog.types.size = m + 1 := by
  have h : (0 : Nat) < Try.prog.types.size := Nat.lt_of_le_of_lt (Nat.zero_le _) pairRow
  exact ⟨Try.prog.types.size - 1, by omega⟩
def pKey (a b : Nat) : Lit := .string (keyBytes [.int .i64 (a : Int), .int .i64 (b : Int)])
theorem pKey_of {a b : Nat} (ha : a ≤ 9) (hb : b ≤ 9) : keyOf Try.prog 83 (.agg #[.int .i64 (a : Int), .int .i64 (b : Int)]) = some (pKey a b) :=
  keyOf_pair pairArr Try.underlying3 typesSome (WalkArith.wf_i64 (by omega)) (WalkArith.wf_i64 (by omega))
theorem pKey_inj {a b a' b' : Nat} (ha : a ≤ 9) (hb : b ≤ 9) (ha' : a' ≤ 9) (hb' : b' ≤ 9) (h : pKey a b = pKey a' b') : a = a' ∧ b = b' := by
  have e := pairKeyed.inj (pKey_of ha hb) (by rw [h]; exact pKey_of ha' hb')
  simp at e
  omega
def numD (m : Nat) : Nat → DataW Unit
  | 0 => .map []
  | t + 1 => (numD m t).put (pKey (t / m) (t % m)) (.lit (.int .i64 (t : Int)))
theorem numD_map (m : Nat) : ∀ t, Go.Maps.IsMap (numD m t)
  | 0 => isMap_empty
  | t + 1 => (numD_map m t).put _ _
theorem numD_at (m : Nat) (z : DataW Unit) : ∀ N t, t < N → N ≤ 9 → (numD m N).atKey (pKey (t / m) (t % m)) z = .lit (.int .i64 (t : Int))
  | 0, t, h, _ => by omega
  | N + 1, t, h, h9 => by
    by_cases e : t = N
    · subst e
      exact atKey_put_same (numD_map m t) (pairKeyed.key (pKey_of (Nat.le_trans (Nat.div_le_self _ _) (by omega)) (Nat.le_trans (Nat.mod_le _ _) (by omega)))) _ _
    · have ht := numD_at m z N t (by omega) (by omega)
      have hne : pKey (t / m) (t % m) ≠ pKey (N / m) (N % m) := fun h' => by
        obtain ⟨h1, h2⟩ := pKey_inj (Nat.le_trans (Nat.div_le_self _ _) (by omega)) (Nat.le_trans (Nat.mod_le _ _) (by omega)) (Nat.le_trans (Nat.div_le_self _ _) (by omega)) (Nat.le_trans (Nat.mod_le _ _) (by omega)) h'
        have e1 := Nat.div_add_mod t m
        have e2 := Nat.div_add_mod N m
        rw [h1, h2] at e1
        omega
      exact (atKey_put_other hne _ _).trans ht
theorem numD_pair {n m p q : Nat} (z : DataW Unit) (hp : p < n) (hq : q < m) (h9 : n * m ≤ 9) : (numD m (n * m)).atKey (pKey p q) z = .lit (.int .i64 ((p * m + q : Nat) : Int)) := by
  have h := numD_at m z (n * m) (p * m + q) (pair_lt hp hq) h9
  rw [pair_div hq, pair_mod hq] at h
  exact h
/-- THE PAIRS' NUMBERS lie in block B. -/
def Numbered (m N B : Nat) (W : World) : Prop := W.ownsMap Try.prog 83 (plainElem Try.prog 3) B N (numD m N)
theorem make_map (k : Int) (w : World) : (Instr.makeMap 76 (some (.int .i64 k))).run Try.prog w = .ok (.map (some w.heap.size)) (w.alloc (.map #[] 0)) := by
  simp [Instr.makeMap, run_underlying Try.underlying76, asInt, asIntOf, Result.andThen]
theorem zeroInt (w : World) : (zeroValue 3).run Try.prog w = .ok (.int .i64 0) w := by kernel_rfl

set_option maxRecDepth 100000 in
set_option maxHeartbeats 4000000 in
theorem numbersOf_any (base g cap n m : Nat) (w : World) (hP : Pairs base n m w g cap) (_hn : base ≤ w.heap.size) (h9 : n * m ≤ 9) :
    Calls Try.prog 67 #[.slice (some ⟨g, 0, none⟩) (n * m) cap] w fun e w' => e = .returned (.map (some w.heap.size)) ∧ Below w.heap.size w w' ∧ Numbered m (n * m) w.heap.size w' := by
  obtain ⟨N, hN⟩ : ∃ N, n * m = N := ⟨_, rfl⟩
  have HP := Lib.hid hP
  rw [hN] at h9 ⊢
  have HN := Lib.hid hN
  clear hN hP
  have hmk := make_map (N : Int) w
  go_enter Try.func67, Try.ntmps67
  go_wp2_with fail
  clear hmk
  go_loopw [11] (fun i wr => ∃ k : Nat, k ≤ N ∧ i = .int .i64 k ∧ Below w.heap.size w wr ∧ Hid (Numbered m k w.heap.size wr)) (fun i _ => N - (intOf i).toNat)
  case atStart => exact ⟨0, Nat.zero_le _, rfl, (Below.refl _ _).alloc (Nat.le_refl _) _, World.ownsMap_made _ _ _ _⟩
  case round =>
    obtain ⟨k, hk, rfl, hB, HR⟩ := hrel
    have hws := hB.size
    by_cases hlt : k < N
    · have hP' : Pairs base n m wr g cap := ownsRow_below ((Joins.ownsRow_le HP.out (Nat.le_refl _))) hB
      obtain ⟨c1, c2⟩ := pairs_cells hP' (z := k) (by rw [HN.out]; exact hlt)
      have hgl := (World.ownsRow.lt hP' g rfl).2
      have hkey := pKey_of (a := k / m) (b := k % m) (Nat.le_trans (Nat.div_le_self _ _) (by omega)) (Nat.le_trans (Nat.mod_le _ _) (by omega))
      have HNX : Hid (numD m (k + 1) = (numD m k).put (pKey (k / m) (k % m)) (.lit (.int .i64 (k : Int)))) := Lib.hid rfl
      generalize pKey (k / m) (k % m) = kl at hkey HNX
      generalize k / m = q at c1 hkey ⊢
      generalize k % m = r at c2 hkey ⊢
      have HKE := Lib.hid hkey
      clear hP' hkey
      go_wp2_with (at_mapUpdate; go_must (refine wpList_mapUpdate_own _ rfl _ _ _ 76 rfl 83 3 pairKeyed Try.underlying76 (plainElem Try.prog 3) w.heap.size k (numD m k) rfl (World.ownsMap.alloc HR.out _) (by unfold maxLen; omega) _ _ kl rfl rfl HKE.out _ [] (plainElem_int Try.underlying3 (WalkArith.wf_i64 (by omega))) ?_); go_must (intro w1 hown1 hgrow1; have hB1 : Below w.heap.size w w1 := (hB.alloc hws _).grown hgrow1 (by simp; omega) (fun j hj => by cases hj; exact Nat.le_refl _); have HO1 := Lib.hid hown1; clear hown1 hgrow1))
      go_roundw
      case rel => exact ⟨k + 1, by omega, by go_num, hB1, Lib.hid (by unfold Numbered; rw [HNX.out]; exact HO1.out)⟩
      case measure => simp [intOf]; omega
    · obtain rfl : k = N := by omega
      go_wp2_with fail
      go_ret
      exact ⟨rfl, hB, HR.out⟩

theorem Numbered.below {m N B : Nat} {W W' : World} (h : Numbered m N B W) (hb : Below W.heap.size W W') : Numbered m N B W' := by
  have hlt := World.ownsMap.lt h
  obtain ⟨es, clock, h1, F, h2, h3⟩ := h
  exact ⟨es, clock, (hb.block B hlt).trans h1, F, h2, h3⟩
theorem Numbered.look {n m B p q : Nat} {W : World} (h : Numbered m (n * m) B W) (hp : p < n) (hq : q < m) (h9 : n * m ≤ 9) :
    (Instr.lookup 76 (.map (some B)) (.agg #[.int .i64 (p : Int), .int .i64 (q : Int)]) false).run Try.prog W = .ok (.int .i64 ((p * m + q : Nat) : Int)) W := by
  have hm0 : 1 ≤ m := by omega
  have hn0 : 1 ≤ n := by omega
  have hp9 : p ≤ 9 := Nat.le_trans (Nat.le_of_lt hp) (Nat.le_trans (Nat.le_mul_of_pos_right n hm0) h9)
  have hq9 : q ≤ 9 := Nat.le_trans (Nat.le_of_lt hq) (Nat.le_trans (Nat.le_mul_of_pos_left m hn0) h9)
  obtain ⟨c, hrun, hat, _⟩ := World.ownsMap.lookup_int h pairKeyed Try.underlying76 Try.underlying3 (zeroInt W) (pKey_of hp9 hq9)
  rw [numD_pair _ hp hq h9] at hat
  have e : ((p * m + q : Nat) : Int) = c := by simpa using hat
  rw [e]
  exact hrun

end Go.Proofs.Ytjcoilabmbmbkaa
