/-
  impl.rowsBy for a method of a value (its receiver is bound): the walk of F2 once more.
-/
import Derived.Test.YtofpjepndhpciaaZF
namespace Go.Proofs.Ytofpjepndhpciaa
open Go.RowKit Go.Shelf Go.Deep

attribute [local go_sem] Oper.semAt_some

set_option maxRecDepth 100000 in
set_option maxHeartbeats 4000000 in
theorem rowsByM_in (F : Fence) (hd : F.depth = none) (hF : ∀ k, F.fn k) (hro : F.round = none) (gf : Nat) (rv : Value) (p : Nat → Nat → Bool) (m : Nat) (hm : m ≤ 9) (w : World)
    (he : ∀ args w, (callFunc gf args).run Try.prog w = .ok (.enter gf args) w)
    (hcl : ∀ W' i j, Below w.heap.size w W' → i < m → j < m → CallsIn F 20 Try.prog gf #[rv, .int .i64 (i : Int), .int .i64 (j : Int)] W' (Ans (.bool (p i j)) W')) :
    CallsIn F 20 Try.prog 50 #[.int .i64 m, .func (.func gf) #[rv] #[]] w (MadeM w m p) := by
  have h1 := hF 50
  have h2 := hF 53
  have h3 := hF gf
  have hdd : ∀ k : Nat, (F.depth.isSome = true → 1 ≤ k) := fun k h => by rw [hd] at h; cases h
  have HFn := Lib.hid hF
  have HCL := Lib.hid hcl
  clear hF hcl
  have hmk := run_make_row' (P := Try.prog) 23 47 (.slice none 0 0) 24 Try.underlying23 infoInts rfl .i64 .i64 m (by omega) (by omega)
  refine callsIn_of_wp_marks Try.func50 rfl h1 ?_ hro
  simp only [Try.ntmps50, List.size_toArray, List.length_cons, List.length_nil, Nat.reduceAdd, Nat.reduceSub, Array.replicate_succ, Array.replicate_zero, List.push_toArray, List.append_toArray, List.nil_append, List.cons_append]
  gi_wp2
  clear hmk
  have HP0 := Lib.hid (RPart.start w (.func (.func gf) #[rv] #[]) m)
  gi_loopw [13] (fun i wr => ∃ k : Nat, k ≤ m ∧ i = .int .i64 k ∧ Hid (RPart w wr (.func (.func gf) #[rv] #[]) m k)) (fun i _ => m - (intOf i).toNat)
  case atStart => exact ⟨0, Nat.zero_le _, rfl, HP0⟩
  case round =>
    obtain ⟨k, hk, rfl, HP⟩ := hrel
    clear HP0
    have cV : wr.cell? ⟨w.heap.size + 1 + 1, 0, none⟩ = some (.slice (some ⟨w.heap.size + 1, 0, none⟩) m m) := HP.out.var.cell
    by_cases hlt : k < m
    · have hmk2 := run_make_row' (P := Try.prog) 47 3 (.int .i64 0) 8 Try.underlying47 infoInt rfl .i64 .i64 m (by omega) (by omega)
      have hst := RPart.step HP.out
      rw [← HP.out.size] at hst
      have HST := Lib.hid hst
      clear hst
      have hc1 : ∀ o : Obj, (wr.alloc o).cell? ⟨w.heap.size + 1, k, none⟩ = some (.slice none 0 0) := fun o => by have := (HP.out.top.alloc o).cell hlt; simpa using this
      have hf1 : ∀ o : Obj, (wr.alloc o).frozen? ⟨w.heap.size + 1, k, none⟩ = false := fun o => (HP.out.top.alloc o).frozen k
      have hcV : ∀ o : Obj, (wr.alloc o).cell? ⟨w.heap.size + 1 + 1, 0, none⟩ = some (.slice (some ⟨w.heap.size + 1, 0, none⟩) m m) := fun o => (HP.out.var.alloc o).cell
      gi_wp2
      gi_region
      all_goals
        gi_wp2
        go_roundw
        case rel => exact ⟨k + 1, by omega, by go_num, HST⟩
        case measure => simp [intOf]; omega
    · obtain rfl : k = m := by omega
      gi_wp2_with ((try refine ⟨hdd _, ?_⟩); gi_at_call 53; refine (pairs_in F _ HFn.out hro _ _).mono ?_; rintro e w' ⟨rfl, rfl⟩)
      have hws : wr.heap.size = w.heap.size + 3 + k := HP.out.size
      have HM0 : Hid (RMid w (wr.alloc (.cells #[.int .i64 k] 3)) (.func (.func gf) #[rv] #[]) k p []) :=
        ⟨HP.out.below.alloc (by omega) _, HP.out.fn.alloc _, HP.out.var.alloc _, (HP.out.top.alloc _).congr fun i hi => by rw [if_pos hi], fun i hi => ((HP.out.done i hi).alloc _).congr fun j _ => (cellP_start p i j).symm⟩
      have bP := Boxed.new wr 3 (.int .i64 k)
      have hsz : (wr.alloc (.cells #[.int .i64 k] 3)).heap.size = wr.heap.size + 1 := by simp
      obtain ⟨V, hV⟩ : ∃ V, wr.alloc (.cells #[.int .i64 k] 3) = V := ⟨_, rfl⟩
      rw [hV] at HM0 bP hsz ⊢
      have HW := Lib.hid hws
      have hsz2 : w.heap.size + 3 + k + 1 ≤ V.heap.size := by omega
      clear hV HP cV hsz
      refine range_law hd hro HFn.out (gf := 58) (lb := #[.pointer (some ⟨wr.heap.size, 0, none⟩)]) rfl (enters_of Try.func58 (by kernel_rfl) rfl)
        (pairs_X F HFn.out hro wr.heap.size k (by omega) (fun B => w.heap.size + 3 ≤ B ∧ B < w.heap.size + 3 + k) (V.heap.size + 2) (V.heap.size + 2) (fun s => by have := HW.out; omega) V bP) (fun h k => KeepC.trans h k) (fun W' o o' h hc => KeepC.putObj _ (by omega) W' o o' h hc) (Below.refl _ _) (fun _ => rfl)
        (fun pre W => RMid w W (.func (.func gf) #[rv] #[]) k p pre)
        (fun _ _ _ => False)
        (RMid.own (by omega))
        (fun _ _ _ _ _ hs _ _ => hs)
        HM0.out ?a1 ?assign ?body ?done ?stop
      case assign =>
        intro l2 x W' K hK
        gi_wp2
        exact hK
      case body =>
        rintro l2 pre ⟨⟨i, hi⟩, ⟨j, hj⟩⟩ W hM _
        have HM := Lib.hid hM
        have cF := hM.fn.cell
        clear hM
        by_cases hp : p i j = true
        · gi_wp2_with fail
          refine (CallsIn.inRound l2 (CallsIn_any hd (HCL.out W i j HM.out.below hi hj))).mono ?_
          rintro e w1 ⟨rfl, hB1⟩
          have HM1 := Lib.hid (HM.out.grown hB1)
          have HB1 := Lib.hid hB1
          clear hB1
          have cV1 : w1.cell? ⟨w.heap.size + 1 + 1, 0, none⟩ = some (.slice (some ⟨w.heap.size + 1, 0, none⟩) k k) := HM1.out.var.cell
          have cT1 := HM1.out.top.cell hi
          have cR1 := (HM1.out.rows i hi).cell hj
          have fR1 := (HM1.out.rows i hi).frozen j
          gi_wp2_with fail
          exact ⟨(keepsFrom_below HB1.out _).trans ((KeepsOthers.setCell _ _ _).from _), (KeepC.of_below HB1.out).trans (KeepC.setCell (S := fun B => w.heap.size + 3 ≤ B ∧ B < w.heap.size + 3 + k) _ w1 ⟨by omega, by omega⟩ j _), HM1.out.yes hi hj hp⟩
        · have hp' : p i j = false := by simpa using hp
          gi_wp2_with fail
          refine (CallsIn.inRound l2 (CallsIn_any hd (HCL.out W i j HM.out.below hi hj))).mono ?_
          rintro e w1 ⟨rfl, hB1⟩
          have HM1 := Lib.hid (HM.out.grown hB1)
          have HB1 := Lib.hid hB1
          clear hB1
          gi_wp2_with fail
          exact ⟨keepsFrom_below HB1.out _, KeepC.of_below HB1.out, HM1.out.no hi hj hp'⟩
      case done =>
        rintro D ys W hD rfl hM hK
        have cV : W.cell? ⟨w.heap.size + 1 + 1, 0, none⟩ = some (.slice (some ⟨w.heap.size + 1, 0, none⟩) k k) := hM.var.cell
        have HM := Lib.hid hM
        clear hM
        gi_wp2
        refine ⟨by simp, .inl ⟨_, _, rfl, run_takeDeferred hK, ?_⟩⟩
        have HM2 : RMid w (W.putObj D (.deferred none)) (.func (.func gf) #[rv] #[]) k p (PL k) := (RMid.own (p := p) (B := V.heap.size) (by omega)).putObj _ HM.out hD hK rfl
        exact ⟨_, results_tmp rfl _ _ _, rfl, HM2.below, HM2.own_m⟩
      case stop =>
        rintro D c' pre W' _ _ hx _
        exact hx.elim

end Go.Proofs.Ytofpjepndhpciaa
