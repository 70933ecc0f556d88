/-
  The iterator over all orders: impl.orders.
-/
import Derived.Test.YtmohmecdhabapacM1
import Derived.Test.YtmohmecdhabapacQ2
namespace Go.Proofs.Ytmohmecdhabapac
open Go.RowKit Go.Shelf Go.Deep

attribute [local go_sem] Oper.semAt_some

theorem make_capQ (N : Nat) (hN : N ≤ 9) (w : World) : (Instr.makeSlice 24 (.int .i64 0) (.int .i64 (N : Int))).run Try.prog w = .ok (.slice (some ⟨w.heap.size, 0, none⟩) 0 N) (w.alloc (.cells (madeCells #[.int .i64 0] N) 3)) := by
  obtain ⟨i, hi, hz0, hz1, hz2⟩ := info_parts infoInt
  have hr := run_make (P := Try.prog) w 24 3 i (.int .i64 0) Try.underlying24 hi hz0 .i64 .i64 0 (N : Int) (Int.le_refl _) (by omega) (by rw [hz2]; omega) (by omega)
  simp only [Int.toNat_zero, Int.toNat_natCast, hz1, Nat.mul_one] at hr
  exact hr

set_option maxRecDepth 100000 in
set_option maxHeartbeats 4000000 in
theorem orders_Y (T s N : Nat) (hN9 : N ≤ 9) (S : Nat → Prop) (w : World) (bN : Boxed w s 3 (.int .i64 N)) (hS : ∀ B, S B → B < w.heap.size) (hwT : w.heap.size ≤ T) :
    SeqY Fence.wide Try.prog 56 #[.pointer (some ⟨s, 0, none⟩)] (fun _ : List Int => #[.slice (some ⟨T, 0, none⟩) N N]) T (fun _ => True) (fun x W => x.length = N ∧ Hold T N x W) (KeepC S T)
      (fun xs => xs = ordL N N []) (fun pre => pre <+: ordL N N []) T w := by
  intro l J Jx W hT hW hJ hJx hY h0
  have bN0 : Boxed W s 3 (.int .i64 N) := (hW.block _ bN.lt).trans bN
  have hmk := make_capQ N hN9
  have HJ := Lib.hid hJ
  have HY := Lib.hid hY
  subst hT
  obtain ⟨E, hE⟩ : ∃ E, W.alloc (.cells (madeCells #[.int .i64 0] N) 3) = E := ⟨_, rfl⟩
  have hBE : Below W.heap.size W E := by rw [← hE]; exact (Below.refl _ W).alloc (Nat.le_refl _) _
  have HC : Hid (∀ W', W'.heap = E.heap → W'.os = W.os → W'.tape = W.tape → W'.output = W.output → Calls Try.prog 57 #[.slice (some ⟨W.heap.size, 0, none⟩) 0 N, .int .i64 N, .func (.yield l) #[] #[]] W' fun e W' => (∃ v, e = .returned v) ∧ ((∃ xs, xs = ordL N N [] ∧ J xs W') ∨ (∃ pre, pre <+: ordL N N [] ∧ Jx pre W'))) := by
    refine Lib.hid fun W' h1 h2 h3 h4 => ?_
    have hEs : E.heap.size = W.heap.size + 1 := by rw [← hE]; simp
    have hWs' : W'.heap.size = W.heap.size + 1 := by rw [h1, hEs]
    have hg : W.grownBy W' none := ⟨h2, h3, h4, by omega, fun k hk _ => by rw [h1]; exact hBE.block k hk⟩
    have hown : E.ownsRow W.heap.size 3 1 (.slice (some ⟨W.heap.size, 0, none⟩) 0 N) 0 [] := by
      have h := World.ownsRow_made (size := 1) W (base := W.heap.size) (e := 3) (madeCells #[.int .i64 0] N) N (Nat.le_refl _) (by unfold maxLen; omega) (by rw [size_madeCells]; omega)
      rw [hE] at h
      exact h
    have hHW : Hold W.heap.size N [] W' := by
      obtain ⟨x1, x2⟩ := hown
      refine ⟨x1, ?_⟩
      rw [h1]; exact x2
    have hF := from_Y W.heap.size N (W.heap.size + 1) S (fun s => by have := hS _ s; omega) hN9 l J Jx (ordL N N []) ⟨OwnFrom.far HJ.out.1 (by omega), fun s A C hs hgr _ => HJ.out.2 s A C hs hgr trivial⟩
      (fun m pre x W1 hj hsp hat => by
        obtain ⟨fn, tmps, assign, body, hy, hR⟩ := HY.out m pre x W1 hj hsp hat
        refine ⟨fn, tmps, assign, body, hy, hR.mono ?_⟩
        rintro e W2 (⟨k1, k2, k3⟩ | ⟨k1, k2, k3⟩)
        · exact .inl ⟨k1, k2, KeepC.more k3 (by omega)⟩
        · exact .inr ⟨k1, k2, k3.size, fun k o hk ho hc => k3.same k o (by omega) ho hc⟩)
      N [] [] W' (by simp) (by omega) (by omega) hHW (HJ.out.1 _ _ _ none h0 hg (fun r e => by cases e)) (List.prefix_refl _)
    refine callsIn_wide.1 (hF.mono ?_)
    rintro e W2 (⟨rfl, k1, _, _⟩ | ⟨rfl, k1⟩)
    · exact ⟨⟨_, rfl⟩, .inl ⟨_, rfl, k1⟩⟩
    · exact ⟨⟨_, rfl⟩, .inr k1⟩
  have cN := bN0.cell
  have ltN := bN0.lt
  have cN1 : ∀ o, (W.alloc o).cell? ⟨s, 0, none⟩ = some (.int .i64 N) := fun o => (bN0.alloc o).cell
  have cE : E.cell? ⟨s, 0, none⟩ = some (.int .i64 N) := (hBE.cell (p := ⟨s, 0, none⟩) ltN).trans cN
  have eo : E.os = W.os := hBE.os
  have et : E.tape = W.tape := hBE.tape
  have eu : E.output = W.output := hBE.output
  have cN2 : ∀ o, (W.drew.alloc o).cell? ⟨s, 0, none⟩ = some (.int .i64 N) := fun o => (World.cell?_alloc_lt W.drew o ⟨s, 0, none⟩ ltN).trans cN
  have cN3 : W.drew.cell? ⟨s, 0, none⟩ = some (.int .i64 N) := cN
  clear hJ hJx hY h0 hW bN bN0 hBE HJ HY hS hwT
  refine callsIn_of_wp Try.func56 rfl trivial ?_ rfl
  simp only [Try.ntmps56, List.size_toArray, List.length_cons, List.length_nil, Nat.reduceAdd, Nat.reduceSub, Array.replicate_succ, Array.replicate_zero, List.push_toArray, List.append_toArray, List.nil_append, List.cons_append]
  gi_wp2
  refine wpIn_wide.2 ?_
  go_region_with (go_at_call 57; refine (HC.out E.drew rfl eo et eu).mono ?_; rintro e w' ⟨⟨v, rfl⟩, hP⟩)
  all_goals
    have HP := Lib.hid hP
    clear hP
    gi_wp2
    go_end0
    exact ⟨⟨_, rfl⟩, HP.out⟩

theorem orders_in (n : Nat) (N : Nat) (w : World) :
    CallsIn Fence.wide n Try.prog 41 #[.int .i64 N] w fun e w' =>
      e = .returned (.func (.func 56) #[] #[.pointer (some ⟨w.heap.size, 0, none⟩)]) ∧ w' = w.alloc (.cells #[.int .i64 N] 3) := by
  refine callsIn_of_wp Try.func41 rfl trivial ?_ rfl
  simp only [Try.ntmps41, List.size_toArray, List.length_cons, List.length_nil, Nat.reduceAdd, Nat.reduceSub, Array.replicate_succ, Array.replicate_zero, List.push_toArray, List.append_toArray, List.nil_append, List.cons_append]
  gi_wp2
  go_ret
  exact ⟨rfl, rfl⟩

end Go.Proofs.Ytmohmecdhabapac
