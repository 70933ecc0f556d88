/-
  The iterator over all maps to another graph: impl.graph.mapsTo.
-/
import Derived.Test.YtldkgkpiceamhaaM6
namespace Go.Proofs.Ytldkgkpiceamhaa
open Go.RowKit Go.Shelf Go.Deep

attribute [local go_sem] Oper.semAt_some

theorem make_cap (N : Nat) (hN : N ≤ 9) (w : World) : (Instr.makeSlice 24 (.int .i64 0) (.int .i64 (N : Int))).run Try.prog w = .ok (.slice (some ⟨w.heap.size, 0, none⟩) 0 N) (w.alloc (.cells (madeCells #[.int .i64 0] N) 3)) := by
  obtain ⟨i, hi, hz0, hz1, hz2⟩ := info_parts infoInt
  have hr := run_make (P := Try.prog) w 24 3 i (.int .i64 0) Try.underlying24 hi hz0 .i64 .i64 0 (N : Int) (Int.le_refl _) (by omega) (by rw [hz2]; omega) (by omega)
  simp only [Int.toNat_zero, Int.toNat_natCast, hz1, Nat.mul_one] at hr
  exact hr

set_option maxHeartbeats 1000000 in
theorem mapsTo_in (n : Nat) (a a' : Option Addr) (m m' c c' : Nat) (w : World) :
    CallsIn Fence.wide n Try.prog 76 #[.agg #[.slice a m c], .agg #[.slice a' m' c']] w fun e w' =>
      e = .returned (.func (.func 102) #[] #[.pointer (some ⟨w.heap.size, 0, none⟩), .pointer (some ⟨w.heap.size + 1, 0, none⟩)]) ∧
      w' = (w.alloc (.cells #[.slice a m c] 61)).alloc (.cells #[.slice a' m' c'] 61) := by
  refine callsIn_of_wp Try.func76 rfl trivial ?_ rfl
  simp only [Try.ntmps76, List.size_toArray, List.length_cons, List.length_nil, Nat.reduceAdd, Nat.reduceSub, Array.replicate_succ, Array.replicate_zero, List.push_toArray, List.append_toArray, List.nil_append, List.cons_append]
  gi_wp2
  go_ret
  exact ⟨rfl, rfl⟩

set_option maxRecDepth 100000 in
set_option maxHeartbeats 4000000 in
theorem mapsTo_Y (n₀ T s : Nat) (a a' : Option Addr) (c c' : Nat) (G H : List (List Int)) (hG : Good G) (hH : Good H) (S : Nat → Prop) (w : World) (bG : Boxed w s 61 (.slice a G.length c)) (bH : Boxed w (s + 1) 61 (.slice a' H.length c')) (hM : Mat n₀ w a G) (hM' : Mat n₀ w a' H)
    (hS : ∀ B, S B → n₀ ≤ B ∧ B < w.heap.size) (hwT : w.heap.size ≤ T) (hnw : n₀ ≤ w.heap.size) :
    SeqY Fence.wide Try.prog 102 #[.pointer (some ⟨s, 0, none⟩), .pointer (some ⟨s + 1, 0, none⟩)] (fun _ : List Int => #[.slice (some ⟨T + 1, 0, none⟩) G.length G.length]) (T + 1) (fun _ => True) (fun x W => x.length = G.length ∧ Hold (T + 1) G.length x W) (KeepC S T)
      (fun xs => xs = mapsFrom G H G.length []) (fun pre => pre <+: mapsFrom G H G.length []) T w := by
  intro l J Jx W hT hW hJ hJx hY h0
  have es : ∀ (W : World) (o : Obj), (W.alloc o).heap.size = W.heap.size + 1 := fun W o => by simp
  have hl9 := hG.2.1
  have bG0 : Boxed W s _ _ := (hW.block _ bG.lt).trans bG
  have bH0 : Boxed W (s + 1) _ _ := (hW.block _ bH.lt).trans bH
  have hM0 := hM.below (hW.mono hnw)
  have hM0' := hM'.below (hW.mono hnw)
  have hWs := hW.size
  have hnW : n₀ ≤ W.heap.size := by omega
  have hmk := make_cap G.length hl9
  have hTW1 : T ≤ W.heap.size := by omega
  have hTW2 : W.heap.size ≤ T := by omega
  have HJ := Lib.hid hJ
  have HJx := Lib.hid hJx
  have HY := Lib.hid hY
  have HS := Lib.hid hS
  -- the world in which the recursion begins
  obtain ⟨E, hE⟩ : ∃ E, (((((W.alloc (.cells #[.slice a G.length c] 61)).alloc (.cells (madeCells #[.int .i64 0] G.length) 3)).alloc (.cells #[.slice a G.length c] 61)).alloc (.cells #[.slice a' H.length c'] 61)).alloc (.cells #[.slice (some ⟨W.heap.size + 1, 0, none⟩) 0 G.length] 24)) = E := ⟨_, rfl⟩
  have HC : Hid (∀ W', W'.heap = E.heap → W'.os = W.os → W'.tape = W.tape → W'.output = W.output → Calls Try.prog 113 #[.func (.yield l) #[] #[], .pointer (some ⟨W.heap.size + 1 + 1 + 1 + 1, 0, none⟩), .pointer (some ⟨W.heap.size + 1 + 1, 0, none⟩), .pointer (some ⟨W.heap.size + 1 + 1 + 1, 0, none⟩)] W' fun e W' => (∃ v, e = .returned v) ∧ ((∃ xs, xs = mapsFrom G H G.length [] ∧ J xs W') ∨ (∃ pre, pre <+: mapsFrom G H G.length [] ∧ Jx pre W'))) := by
    refine Lib.hid fun W' h1 h2 h3 h4 => ?_
    have hEs : E.heap.size = W.heap.size + 5 := by rw [← hE]; simp
    have hWs' : W'.heap.size = W.heap.size + 5 := by rw [h1, hEs]
    have hBE : Below W.heap.size W E := by rw [← hE]; exact ((((((Below.refl _ W).alloc (Nat.le_refl _) _).alloc (by simp) _).alloc (by simp; omega) _).alloc (by simp; omega) _).alloc (by simp; omega) _)
    have hg : W.grownBy W' none := ⟨h2, h3, h4, by omega, fun k hk _ => by rw [h1]; exact hBE.block k hk⟩
    have hB' : Below W.heap.size W W' := ⟨h2, h3, h4, by omega, fun k hk => by rw [h1]; exact hBE.block k hk⟩
    have hown : (((W.alloc (.cells #[.slice a G.length c] 61)).alloc (.cells (madeCells #[.int .i64 0] G.length) 3))).ownsRow (W.heap.size + 1) 3 1 (.slice (some ⟨W.heap.size + 1, 0, none⟩) 0 G.length) 0 [] := by
      have h := World.ownsRow_made (size := 1) (W.alloc (.cells #[.slice a G.length c] 61)) (base := W.heap.size + 1) (e := 3) (madeCells #[.int .i64 0] G.length) G.length (by simp) (by unfold maxLen; omega) (by rw [size_madeCells]; omega)
      rw [es] at h
      exact h
    have hHE : Hold (W.heap.size + 1) G.length [] E := by rw [← hE]; exact ((hown.alloc _).alloc _).alloc _
    have q1 : Boxed E (W.heap.size + 1 + 1) 61 (.slice a G.length c) := by
      have h := ((Boxed.new ((W.alloc (.cells #[.slice a G.length c] 61)).alloc (.cells (madeCells #[.int .i64 0] G.length) 3)) 61 (.slice a G.length c)).alloc (.cells #[.slice a' H.length c'] 61)).alloc (.cells #[.slice (some ⟨W.heap.size + 1, 0, none⟩) 0 G.length] 24)
      rw [es, es] at h; rw [← hE]; exact h
    have q2 : Boxed E (W.heap.size + 1 + 1 + 1) 61 (.slice a' H.length c') := by
      have h := (Boxed.new (((W.alloc (.cells #[.slice a G.length c] 61)).alloc (.cells (madeCells #[.int .i64 0] G.length) 3)).alloc (.cells #[.slice a G.length c] 61)) 61 (.slice a' H.length c')).alloc (.cells #[.slice (some ⟨W.heap.size + 1, 0, none⟩) 0 G.length] 24)
      rw [es, es, es] at h; rw [← hE]; exact h
    have q3 : Boxed E (W.heap.size + 1 + 1 + 1 + 1) 24 (.slice (some ⟨W.heap.size + 1, 0, none⟩) 0 G.length) := by
      have h := Boxed.new ((((W.alloc (.cells #[.slice a G.length c] 61)).alloc (.cells (madeCells #[.int .i64 0] G.length) 3)).alloc (.cells #[.slice a G.length c] 61)).alloc (.cells #[.slice a' H.length c'] 61)) 24 (.slice (some ⟨W.heap.size + 1, 0, none⟩) 0 G.length)
      rw [es, es, es, es] at h; rw [← hE]; exact h
    have hHW : Hold (W.heap.size + 1) G.length [] W' := by
      obtain ⟨x1, x2⟩ := hHE
      refine ⟨x1, ?_⟩
      rw [h1]; exact x2
    have hbeg : Begun (W.heap.size + 1 + 1) (W.heap.size + 1) n₀ G.length a a' c c' G H [] W' :=
      ⟨by show W'.heap[_]? = _; rw [h1]; exact q1, by show W'.heap[_]? = _; rw [h1]; exact q2, by show W'.heap[_]? = _; rw [h1]; exact q3, hM0.below (hB'.mono hnW), hM0'.below (hB'.mono hnW)⟩
    have eT : T = W.heap.size := by omega
    subst eT
    have hY2 := begun_Y n₀ (W.heap.size + 1) G.length a a' c c' G H hG hH rfl S (fun s => by have := (HS.out _ s).2; omega) (by omega) G.length [] W'.heap.size (W.heap.size + 1 + 1) W' (by simp) ⟨rfl, fun j y hy => by simp at hy⟩ hbeg hHW (by omega) (fun B hB => ⟨(HS.out B hB).1, by have := (HS.out B hB).2; omega⟩) (Nat.le_refl _) (by omega)
    refine callsIn_wide.1 (hY2 l J Jx W' rfl (Below.refl _ _) ⟨OwnFrom.far HJ.out.1 (by omega), fun s A C hs hgr _ => HJ.out.2 s A C hs hgr trivial⟩ ⟨OwnFrom.far HJx.out.1 (by omega), fun s A C hs hgr _ => HJx.out.2 s A C hs hgr trivial⟩ ?_ (HJ.out.1 _ _ _ none h0 hg (fun r e => by cases e)))
    intro m pre x W1 hj hsp hat
    obtain ⟨fn, tmps, assign, body, hy, hR⟩ := HY.out m pre x W1 hj hsp hat
    refine ⟨fn, tmps, assign, body, hy, hR.mono ?_⟩
    rintro e W2 (⟨k1, k2, k3⟩ | ⟨k1, k2, k3⟩)
    · exact .inl ⟨k1, k2, KeepC.more k3 (by omega)⟩
    · exact .inr ⟨k1, k2, k3.size, fun k o hk ho hc => k3.same k o (by omega) ho hc⟩
  have h80 : Fence.wide.fn 61 := trivial
  have hBE : Below W.heap.size W E := by rw [← hE]; exact ((((((Below.refl _ W).alloc (Nat.le_refl _) _).alloc (by simp) _).alloc (by simp; omega) _).alloc (by simp; omega) _).alloc (by simp; omega) _)
  have eo : E.os = W.os := hBE.os
  have et : E.tape = W.tape := hBE.tape
  have eu : E.output = W.output := hBE.output
  have cGE : E.cell? ⟨s, 0, none⟩ = some (.slice a G.length c) := (hBE.cell (p := ⟨s, 0, none⟩) bG0.lt).trans bG0.cell
  have cHE : E.cell? ⟨s + 1, 0, none⟩ = some (.slice a' H.length c') := (hBE.cell (p := ⟨s + 1, 0, none⟩) bH0.lt).trans bH0.cell
  have cG1 : ∀ o, (W.alloc o).cell? ⟨s, 0, none⟩ = some (.slice a G.length c) := fun o => (bG0.alloc o).cell
  have cH1 : ∀ o, (W.alloc o).cell? ⟨s + 1, 0, none⟩ = some (.slice a' H.length c') := fun o => (bH0.alloc o).cell
  have cG2 : ∀ o o', ((W.alloc o).alloc o').cell? ⟨s, 0, none⟩ = some (.slice a G.length c) := fun o o' => ((bG0.alloc o).alloc o').cell
  have cH2 : ∀ o o', ((W.alloc o).alloc o').cell? ⟨s + 1, 0, none⟩ = some (.slice a' H.length c') := fun o o' => ((bH0.alloc o).alloc o').cell
  have cG := bG0.cell
  have cH := bH0.cell
  have ltG := bG0.lt
  have ltH := bH0.lt
  clear hJ hJx hY hS h0 hM hM' hT hW bG bH hM0 hM0' bG0 bH0 hBE
  refine callsIn_of_wp Try.func102 rfl trivial ?_ rfl
  simp only [Try.ntmps102, List.size_toArray, List.length_cons, List.length_nil, Nat.reduceAdd, Nat.reduceSub, Array.replicate_succ, Array.replicate_zero, List.push_toArray, List.append_toArray, List.nil_append, List.cons_append]
  gi_wp2
  refine wpIn_wide.2 ?_
  go_region_with
    (first
      | (go_at_call 61; refine (nodesP _ _ _ _).mono ?_; rintro e w' ⟨rfl, rfl⟩)
      | (go_at_call 103; refine (callsIn_wide.1 (mapsBegun_in 0 _ _ _ _ _ _ _ _ _ _)).mono ?_; rintro e w' ⟨rfl, rfl⟩)
      | (go_at_call 113; refine (HC.out E.drew rfl eo et eu).mono ?_; rintro e w' ⟨⟨v, rfl⟩, hP⟩))
  all_goals
    have HP := Lib.hid hP
    clear hP
    gi_wp2
    go_end0
    exact ⟨⟨_, rfl⟩, HP.out⟩

end Go.Proofs.Ytldkgkpiceamhaa
