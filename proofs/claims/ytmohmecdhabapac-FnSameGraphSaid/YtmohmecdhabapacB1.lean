/-
  The iterator over all pairs of nodes (impl.pairs): its contract, for every loop body that keeps the box of the number of nodes.
-/
import Derived.Test.YtmohmecdhabapacA4
namespace Go.Proofs.Ytmohmecdhabapac
open Go.RowKit Go.Shelf

attribute [local go_sem] Oper.semAt_some

/-- ALL PAIRS, in the order of rows. -/
def PL (m : Nat) : List (Fin m × Fin m) := List.ofFn fun k : Fin (m * m) =>
  (⟨k.1 / m, Nat.div_lt_of_lt_mul k.2⟩, ⟨k.1 % m, Nat.mod_lt _ (Nat.pos_of_ne_zero fun e => by have := k.2; subst e; simp at this)⟩)
theorem PL_length (m : Nat) : (PL m).length = m * m := by simp [PL]
theorem PL_lt {m i j : Nat} (hi : i < m) (hj : j < m) : i * m + j < m * m := by
  have h1 : (i + 1) * m ≤ m * m := Nat.mul_le_mul_right m hi
  rw [Nat.add_mul] at h1; omega
theorem PL_get {m i j : Nat} (hi : i < m) (hj : j < m) : (PL m)[i * m + j]? = some (⟨i, hi⟩, ⟨j, hj⟩) := by
  have hlt := PL_lt hi hj
  have h1 : (i * m + j) / m = i := by rw [Nat.mul_comm, Nat.mul_add_div (by omega)]; simp [Nat.div_eq_of_lt hj]
  have h2 : (i * m + j) % m = j := by rw [Nat.mul_comm, Nat.mul_add_mod]; exact Nat.mod_eq_of_lt hj
  rw [List.getElem?_eq_getElem (by rw [PL_length]; exact hlt)]
  simp only [PL, List.getElem_ofFn, h1, h2]
theorem PL_take {m i j : Nat} (hi : i < m) (hj : j < m) : (PL m).take (i * m + j) ++ [(⟨i, hi⟩, ⟨j, hj⟩)] = (PL m).take (i * m + (j + 1)) := by
  have hlt : i * m + j < (PL m).length := by rw [PL_length]; exact PL_lt hi hj
  have e := PL_get hi hj
  rw [List.getElem?_eq_getElem hlt] at e
  rw [← Nat.add_assoc, List.take_succ_eq_append_getElem hlt, Option.some.inj e]
theorem PL_all {m : Nat} (x : Fin m × Fin m) : x ∈ PL m := List.mem_of_getElem? (PL_get x.1.2 x.2.2)

abbrev encP {m : Nat} (x : Fin m × Fin m) : Array Value := #[.int .i64 (x.1.1 : Int), .int .i64 (x.2.1 : Int)]

set_option maxHeartbeats 1000000 in
theorem pairs_in (F : Fence) (n : Nat) (hF : ∀ k, F.fn k) (hro : F.round = none) (m : Int) (w : World) :
    CallsIn F n Try.prog 54 #[.int .i64 m] w fun e w' => e = .returned (.func (.func 62) #[] #[.pointer (some ⟨w.heap.size, 0, none⟩)]) ∧ w' = w.alloc (.cells #[.int .i64 m] 3) := by
  have h0 := hF 54
  clear hF
  refine callsIn_of_wp Try.func54 rfl h0 ?_ hro
  simp only [Try.ntmps54, List.size_toArray, List.length_cons, List.length_nil, Nat.reduceAdd, Nat.reduceSub, Array.replicate_succ, Array.replicate_zero, List.push_toArray, List.append_toArray, List.nil_append, List.cons_append]
  gi_wp2
  go_ret
  exact ⟨rfl, rfl⟩

set_option maxRecDepth 100000 in
set_option maxHeartbeats 2000000 in
theorem pairs1_in (F : Fence) (n : Nat) (hF : ∀ k, F.fn k) (hro : F.round = none) (hn : 1 ≤ n) (l B m : Nat) (hm : m ≤ 1048576) (Kp : World → World → Prop)
    (hKp : ∀ W W', Kp W W' → Boxed W B 3 (.int .i64 m) → Boxed W' B 3 (.int .i64 m)) (J Jx : List (Fin m × Fin m) → World → Prop)
    (hY : ∀ pre x W, J pre W → pre.length < m * m → YieldAt F (n - 1) Try.prog l (encP x) W fun e W' =>
      (e = .returned (.bool true) ∧ J (pre ++ [x]) W' ∧ Kp W W') ∨ (e = .returned (.bool false) ∧ Jx (pre ++ [x]) W'))
    (W : World) (hB : Boxed W B 3 (.int .i64 m)) (h0 : J [] W) :
    CallsIn F n Try.prog 62 #[.func (.yield l) #[] #[], .pointer (some ⟨B, 0, none⟩)] W fun e W' => (∃ v, e = .returned v) ∧
      ((∃ ys, ys = PL m ∧ J ys W') ∨ (∃ pre, pre <+: PL m ∧ Jx pre W')) := by
  have hf := hF 62
  clear hF
  refine callsIn_of_wp Try.func62 rfl hf ?_ hro
  simp only [Try.ntmps62, List.size_toArray, List.length_cons, List.length_nil, Nat.reduceAdd, Nat.reduceSub, Array.replicate_succ, Array.replicate_zero, List.push_toArray, List.append_toArray, List.nil_append, List.cons_append]
  have hc := hB.cell
  gi_wp2
  clear hc
  gi_loopw [6] (fun i wr => ∃ k : Nat, k ≤ m ∧ i = .int .i64 k ∧ Hid (J ((PL m).take (k * m)) wr) ∧ Boxed wr B 3 (.int .i64 m)) (fun i _ => m - (intOf i).toNat)
  case atStart => exact ⟨0, Nat.zero_le _, rfl, Lib.hid (by simpa using h0), hB⟩
  case round =>
    obtain ⟨k, hk, rfl, HJ, hBr⟩ := hrel
    by_cases hlt : k < m
    · have hc := hBr.cell
      gi_wp2
      clear hc
      gi_loopw [10] (fun i wi => ∃ j : Nat, j ≤ m ∧ i = .int .i64 j ∧ Hid (J ((PL m).take (k * m + j)) wi) ∧ Boxed wi B 3 (.int .i64 m)) (fun i _ => m - (intOf i).toNat)
      case atStart => exact ⟨0, Nat.zero_le _, rfl, Lib.hid (by simpa using HJ.out), hBr⟩
      case round =>
        obtain ⟨j, hj, rfl, HJ2, hBi⟩ := hrel
        by_cases hltj : j < m
        · obtain ⟨fn, tmps, assign, body, hy, hR⟩ := hY _ (⟨k, hlt⟩, ⟨j, hltj⟩) _ HJ2.out (by rw [List.length_take]; have := PL_lt hlt hltj; omega)
          dsimp only [encP] at hy
          gi_wp2
          refine hR.mono ?_
          rintro e W3 (⟨rfl, hJ3, hk3⟩ | ⟨rfl, hJx3⟩)
          · have hB3 := hKp _ _ hk3 hBi
            have HJ3 := Lib.hid hJ3
            clear hJ3 hk3
            gi_wp2
            go_roundw
            case rel => exact ⟨j + 1, by omega, by go_num, Lib.hid (by rw [← PL_take hlt hltj]; exact HJ3.out), hB3⟩
            case measure => simp [intOf]; omega
          · gi_wp2
            refine bodyPost_ret (results_none rfl _ _ _) rfl ?_
            exact ⟨⟨_, rfl⟩, .inr ⟨_, by rw [PL_take hlt hltj]; exact List.take_prefix _ _, hJx3⟩⟩
        · obtain rfl : j = m := by omega
          gi_wp2
          go_roundw
          case rel => exact ⟨k + 1, by omega, by go_num, Lib.hid (by rw [Nat.add_mul, Nat.one_mul]; exact HJ2.out), hBi⟩
          case measure => simp [intOf]; omega
    · obtain rfl : k = m := by omega
      gi_wp2
      go_end0
      exact ⟨⟨_, rfl⟩, .inl ⟨_, by rw [List.take_of_length_le (by rw [PL_length]; exact Nat.le_refl _)], HJ.out⟩⟩

theorem pairs_stops (F : Fence) (n : Nat) (hF : ∀ k, F.fn k) (hro : F.round = none) (hn : 1 ≤ n) (B m : Nat) (hm : m ≤ 1048576) (Kp : World → World → Prop)
    (hKp : ∀ W W', Kp W W' → Boxed W B 3 (.int .i64 m) → Boxed W' B 3 (.int .i64 m)) (w : World) (hB : Boxed w B 3 (.int .i64 m)) :
    SeqStopsK F n Try.prog 62 #[.pointer (some ⟨B, 0, none⟩)] (encP (m := m)) Kp (fun ys => ys = PL m) (fun pre => pre <+: PL m) (m * m) w := fun l J Jx W hW _ _ hY h0 =>
  pairs1_in F n hF hro hn l B m hm Kp hKp J Jx hY W ((hW.block B hB.lt).trans hB) h0

end Go.Proofs.Ytmohmecdhabapac
