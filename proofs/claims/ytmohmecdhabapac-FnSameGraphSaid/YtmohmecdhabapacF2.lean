/-
  impl.rowsBy: the walk.
-/
import Derived.Test.YtmohmecdhabapacF1
namespace Go.Proofs.Ytmohmecdhabapac
open Go.RowKit Go.Shelf Go.Deep

attribute [local go_sem] Oper.semAt_some

/-- ROWS OF NOUGHTS AND ONES LIE IN NEW BLOCKS. -/
def MadeM (w : World) (m : Nat) (p : Nat → Nat → Bool) (e : Ending) (w' : World) : Prop :=
  e = .returned (.slice (some ⟨w.heap.size + 1, 0, none⟩) m m) ∧ Below w.heap.size w w' ∧ OwnM w' (w.heap.size + 1) (fun i => w.heap.size + 3 + i) (rowsP m p)

theorem cellP_start (p : Nat → Nat → Bool) {m : Nat} (i j : Nat) : cellP p ([] : List (Fin m × Fin m)) i j = .int .i64 0 := by simp [cellP]
theorem inP_snoc {m : Nat} {pre : List (Fin m × Fin m)} {i j : Nat} (hi : i < m) (hj : j < m) (k l : Nat) :
    (∃ x ∈ pre ++ [((⟨i, hi⟩ : Fin m), (⟨j, hj⟩ : Fin m))], x.1.1 = k ∧ x.2.1 = l) ↔ (∃ x ∈ pre, x.1.1 = k ∧ x.2.1 = l) ∨ (i = k ∧ j = l) := by
  constructor
  · rintro ⟨x, hx, h⟩
    rcases List.mem_append.1 hx with hx | hx
    · exact .inl ⟨x, hx, h⟩
    · simp only [List.mem_singleton] at hx; subst hx; exact .inr h
  · rintro (⟨x, hx, h⟩ | h)
    · exact ⟨x, List.mem_append.2 (.inl hx), h⟩
    · exact ⟨_, List.mem_append.2 (.inr (List.mem_singleton.2 rfl)), h⟩
theorem cellP_yes (p : Nat → Nat → Bool) {m : Nat} {pre : List (Fin m × Fin m)} {i j : Nat} (hi : i < m) (hj : j < m) (hp : p i j = true) (k l : Nat) :
    cellP p (pre ++ [((⟨i, hi⟩ : Fin m), (⟨j, hj⟩ : Fin m))]) k l = if k = i ∧ l = j then .int .i64 1 else cellP p pre k l := by
  unfold cellP
  simp only [inP_snoc hi hj]
  by_cases e : k = i ∧ l = j
  · obtain ⟨rfl, rfl⟩ := e
    simp [hp]
  · have e' : ¬ (i = k ∧ j = l) := fun h => e ⟨h.1.symm, h.2.symm⟩
    simp only [e', or_false, if_neg e]
theorem cellP_no (p : Nat → Nat → Bool) {m : Nat} {pre : List (Fin m × Fin m)} {i j : Nat} (hi : i < m) (hj : j < m) (hp : p i j = false) (k l : Nat) :
    cellP p (pre ++ [((⟨i, hi⟩ : Fin m), (⟨j, hj⟩ : Fin m))]) k l = cellP p pre k l := by
  unfold cellP
  simp only [inP_snoc hi hj]
  by_cases e : i = k ∧ j = l
  · obtain ⟨rfl, rfl⟩ := e
    simp [hp]
  · simp only [e, or_false]
theorem cellP_all (p : Nat → Nat → Bool) {m : Nat} {i j : Nat} (hi : i < m) (hj : j < m) : cellP p (PL m) i j = .int .i64 (if p i j = true then 1 else 0) := by
  unfold cellP
  congr 1
  by_cases h : p i j = true
  · rw [if_pos h, if_pos ⟨⟨(⟨i, hi⟩, ⟨j, hj⟩), PL_all _, rfl, rfl⟩, h⟩]
  · rw [if_neg h, if_neg fun h' => h h'.2]

/-- WHAT HOLDS BETWEEN TWO ROUNDS. -/
structure RMid (w W : World) (fv : Value) (m : Nat) (p : Nat → Nat → Bool) (pre : List (Fin m × Fin m)) : Prop where
  below : Below w.heap.size w W
  fn : Boxed W w.heap.size 51 fv
  var : Boxed W (w.heap.size + 2) 23 (.slice (some ⟨w.heap.size + 1, 0, none⟩) m m)
  top : W.rowIs (w.heap.size + 1) 24 m (fun i => .slice (some ⟨w.heap.size + 3 + i, 0, none⟩) m m)
  rows : ∀ i, i < m → W.rowIs (w.heap.size + 3 + i) 3 m (cellP p pre i)
theorem RMid.own {w : World} {fv : Value} {m : Nat} {p : Nat → Nat → Bool} {B : Nat} (hB : w.heap.size ≤ B) : OwnFrom B (fun pre W => RMid w W fv m p pre) := fun s A C row h hg hr => by
  have hr2 : ∀ r, row = some r → ∃ o : Obj, A.heap[r]? = some o ∧ o.isCells = false := fun r e => (hr r e).2
  exact ⟨ownFrom_below (β := Unit) (Nat.le_refl _) hB () A C row h.below hg hr,
    boxed_own _ _ (fun (_ : Unit) => fv) () A C row h.fn hg hr2, boxed_own _ _ (fun (_ : Unit) => .slice (some ⟨w.heap.size + 1, 0, none⟩) m m) () A C row h.var hg hr2,
    rowIs_own _ _ _ (fun (_ : Unit) => _) () A C row h.top hg hr2, fun i hi => rowIs_own _ _ _ (fun (_ : Unit) => _) () A C row (h.rows i hi) hg hr2⟩
theorem RMid.grown {w W W' : World} {fv : Value} {m : Nat} {p : Nat → Nat → Bool} {pre : List (Fin m × Fin m)} (h : RMid w W fv m p pre) (hb : Below W.heap.size W W') : RMid w W' fv m p pre :=
  ⟨h.below.trans (hb.mono h.below.size), (hb.block _ h.fn.lt).trans h.fn, (hb.block _ h.var.lt).trans h.var, World.rowIs.of_block h.top (hb.block _ (World.rowIs.lt h.top)), fun i hi => World.rowIs.of_block (h.rows i hi) (hb.block _ (World.rowIs.lt (h.rows i hi)))⟩
theorem RMid.no {w W : World} {fv : Value} {m : Nat} {p : Nat → Nat → Bool} {pre : List (Fin m × Fin m)} (h : RMid w W fv m p pre) {i j : Nat} (hi : i < m) (hj : j < m) (hp : p i j = false) : RMid w W fv m p (pre ++ [((⟨i, hi⟩ : Fin m), (⟨j, hj⟩ : Fin m))]) :=
  ⟨h.below, h.fn, h.var, h.top, fun k hk => (h.rows k hk).congr fun l _ => (cellP_no p hi hj hp k l).symm⟩
theorem RMid.yes {w W : World} {fv : Value} {m : Nat} {p : Nat → Nat → Bool} {pre : List (Fin m × Fin m)} (h : RMid w W fv m p pre) {i j : Nat} (hi : i < m) (hj : j < m) (hp : p i j = true) :
    RMid w (W.setCell ⟨w.heap.size + 3 + i, j, none⟩ (.int .i64 1)) fv m p (pre ++ [((⟨i, hi⟩ : Fin m), (⟨j, hj⟩ : Fin m))]) := by
  refine ⟨h.below.setCell (p := ⟨w.heap.size + 3 + i, j, none⟩) (by show w.heap.size ≤ w.heap.size + 3 + i; omega) _,
    (Below.heap_setCell _ ⟨w.heap.size + 3 + i, j, none⟩ _ w.heap.size (by show w.heap.size ≠ w.heap.size + 3 + i; omega)).trans h.fn,
    (Below.heap_setCell _ ⟨w.heap.size + 3 + i, j, none⟩ _ (w.heap.size + 2) (by show w.heap.size + 2 ≠ w.heap.size + 3 + i; omega)).trans h.var,
    World.rowIs.setOther h.top (by show w.heap.size + 1 ≠ w.heap.size + 3 + i; omega) _, fun k hk => ?_⟩
  by_cases e : k = i
  · subst e
    refine ((h.rows k hk).set j _).congr fun l _ => ?_
    rw [cellP_yes p hi hj hp]
    by_cases el : l = j
    · simp [el]
    · simp [el]
  · refine (World.rowIs.setOther (h.rows k hk) (by show w.heap.size + 3 + k ≠ w.heap.size + 3 + i; omega) _).congr fun l _ => ?_
    rw [cellP_yes p hi hj hp, if_neg fun h' => e h'.1]
theorem RMid.own_m {w W : World} {fv : Value} {m : Nat} {p : Nat → Nat → Bool} (h : RMid w W fv m p (PL m)) : OwnM W (w.heap.size + 1) (fun i => w.heap.size + 3 + i) (rowsP m p) := by
  refine ⟨?_, fun i xs hx => ?_⟩
  · rw [rowsP_length]
    refine h.top.congr fun i hi => ?_
    rw [rowsP_get hi]; simp
  · obtain ⟨hi, rfl⟩ := rowsP_row hx
    unfold RowI
    rw [List.length_map, List.length_range]
    refine (h.rows i hi).congr fun j hj => ?_
    rw [cellP_all p hi hj]; simp [hj]

set_option maxRecDepth 100000 in
set_option maxHeartbeats 4000000 in
theorem rowsBy_in (F : Fence) (hd : F.depth = none) (hF : ∀ k, F.fn k) (hro : F.round = none) (gf : Nat) (lb : Array Value) (p : Nat → Nat → Bool) (m : Nat) (hm : m ≤ 9) (w : World)
    (he : ∀ args w, (callFunc gf args).run Try.prog w = .ok (.enter gf args) w)
    (hcl : ∀ W' i j, Below w.heap.size w W' → i < m → j < m → CallsIn F 20 Try.prog gf (#[.int .i64 (i : Int), .int .i64 (j : Int)] ++ lb) W' (Ans (.bool (p i j)) W')) :
    CallsIn F 20 Try.prog 33 #[.int .i64 m, .func (.func gf) #[] lb] w (MadeM w m p) := by
  have h1 := hF 33
  have h2 := hF 54
  have h3 := hF gf
  have hdd : ∀ k : Nat, (F.depth.isSome = true → 1 ≤ k) := fun k h => by rw [hd] at h; cases h
  have HFn := Lib.hid hF
  have HCL := Lib.hid hcl
  clear hF hcl
  have hmk := run_make_row' (P := Try.prog) 23 24 (.slice none 0 0) 24 Try.underlying23 infoInts rfl .i64 .i64 m (by omega) (by omega)
  refine callsIn_of_wp_marks Try.func33 rfl h1 ?_ hro
  simp only [Try.ntmps33, List.size_toArray, List.length_cons, List.length_nil, Nat.reduceAdd, Nat.reduceSub, Array.replicate_succ, Array.replicate_zero, List.push_toArray, List.append_toArray, List.nil_append, List.cons_append]
  gi_wp2
  clear hmk
  have HP0 := Lib.hid (RPart.start w (.func (.func gf) #[] lb) m)
  gi_loopw [13] (fun i wr => ∃ k : Nat, k ≤ m ∧ i = .int .i64 k ∧ Hid (RPart w wr (.func (.func gf) #[] lb) m k)) (fun i _ => m - (intOf i).toNat)
  case atStart => exact ⟨0, Nat.zero_le _, rfl, HP0⟩
  case round =>
    obtain ⟨k, hk, rfl, HP⟩ := hrel
    clear HP0
    have cV : wr.cell? ⟨w.heap.size + 1 + 1, 0, none⟩ = some (.slice (some ⟨w.heap.size + 1, 0, none⟩) m m) := HP.out.var.cell
    by_cases hlt : k < m
    · have hmk2 := run_make_row' (P := Try.prog) 24 3 (.int .i64 0) 8 Try.underlying24 infoInt rfl .i64 .i64 m (by omega) (by omega)
      have hst := RPart.step HP.out
      rw [← HP.out.size] at hst
      have HST := Lib.hid hst
      clear hst
      have hc1 : ∀ o : Obj, (wr.alloc o).cell? ⟨w.heap.size + 1, k, none⟩ = some (.slice none 0 0) := fun o => by have := (HP.out.top.alloc o).cell hlt; simpa using this
      have hf1 : ∀ o : Obj, (wr.alloc o).frozen? ⟨w.heap.size + 1, k, none⟩ = false := fun o => (HP.out.top.alloc o).frozen k
      have hcV : ∀ o : Obj, (wr.alloc o).cell? ⟨w.heap.size + 1 + 1, 0, none⟩ = some (.slice (some ⟨w.heap.size + 1, 0, none⟩) m m) := fun o => (HP.out.var.alloc o).cell
      gi_wp2
      gi_region
      all_goals
        gi_wp2
        go_roundw
        case rel => exact ⟨k + 1, by omega, by go_num, HST⟩
        case measure => simp [intOf]; omega
    · obtain rfl : k = m := by omega
      gi_wp2_with ((try refine ⟨hdd _, ?_⟩); gi_at_call 54; refine (pairs_in F _ HFn.out hro _ _).mono ?_; rintro e w' ⟨rfl, rfl⟩)
      have hws : wr.heap.size = w.heap.size + 3 + k := HP.out.size
      have HM0 : Hid (RMid w (wr.alloc (.cells #[.int .i64 k] 3)) (.func (.func gf) #[] lb) k p []) :=
        ⟨HP.out.below.alloc (by omega) _, HP.out.fn.alloc _, HP.out.var.alloc _, (HP.out.top.alloc _).congr fun i hi => by rw [if_pos hi], fun i hi => ((HP.out.done i hi).alloc _).congr fun j _ => (cellP_start p i j).symm⟩
      have bP := Boxed.new wr 3 (.int .i64 k)
      have hsz : (wr.alloc (.cells #[.int .i64 k] 3)).heap.size = wr.heap.size + 1 := by simp
      obtain ⟨V, hV⟩ : ∃ V, wr.alloc (.cells #[.int .i64 k] 3) = V := ⟨_, rfl⟩
      rw [hV] at HM0 bP hsz ⊢
      have HW := Lib.hid hws
      have hsz2 : w.heap.size + 3 + k + 1 ≤ V.heap.size := by omega
      clear hV HP cV hsz
      refine range_law hd hro HFn.out (gf := 62) (lb := #[.pointer (some ⟨wr.heap.size, 0, none⟩)]) rfl (enters_of Try.func62 (by kernel_rfl) rfl)
        (pairs_X F HFn.out hro wr.heap.size k (by omega) (fun B => w.heap.size + 3 ≤ B ∧ B < w.heap.size + 3 + k) (V.heap.size + 2) (V.heap.size + 2) (fun s => by have := HW.out; omega) V bP) (fun h k => KeepC.trans h k) (fun W' o o' h hc => KeepC.putObj _ (by omega) W' o o' h hc) (Below.refl _ _) (fun _ => rfl)
        (fun pre W => RMid w W (.func (.func gf) #[] lb) k p pre)
        (fun _ _ _ => False)
        (RMid.own (by omega))
        (fun _ _ _ _ _ hs _ _ => hs)
        HM0.out ?a1 ?assign ?body ?done ?stop
      case assign =>
        intro l2 x W' K hK
        gi_wp2
        exact hK
      case body =>
        rintro l2 pre ⟨⟨i, hi⟩, ⟨j, hj⟩⟩ W hM _
        have HM := Lib.hid hM
        have cF := hM.fn.cell
        clear hM
        by_cases hp : p i j = true
        · gi_wp2_with fail
          refine (CallsIn.inRound l2 (CallsIn_any hd (HCL.out W i j HM.out.below hi hj))).mono ?_
          rintro e w1 ⟨rfl, hB1⟩
          have HM1 := Lib.hid (HM.out.grown hB1)
          have HB1 := Lib.hid hB1
          clear hB1
          have cV1 : w1.cell? ⟨w.heap.size + 1 + 1, 0, none⟩ = some (.slice (some ⟨w.heap.size + 1, 0, none⟩) k k) := HM1.out.var.cell
          have cT1 := HM1.out.top.cell hi
          have cR1 := (HM1.out.rows i hi).cell hj
          have fR1 := (HM1.out.rows i hi).frozen j
          gi_wp2_with fail
          exact ⟨(keepsFrom_below HB1.out _).trans ((KeepsOthers.setCell _ _ _).from _), (KeepC.of_below HB1.out).trans (KeepC.setCell (S := fun B => w.heap.size + 3 ≤ B ∧ B < w.heap.size + 3 + k) _ w1 ⟨by omega, by omega⟩ j _), HM1.out.yes hi hj hp⟩
        · have hp' : p i j = false := by simpa using hp
          gi_wp2_with fail
          refine (CallsIn.inRound l2 (CallsIn_any hd (HCL.out W i j HM.out.below hi hj))).mono ?_
          rintro e w1 ⟨rfl, hB1⟩
          have HM1 := Lib.hid (HM.out.grown hB1)
          have HB1 := Lib.hid hB1
          clear hB1
          gi_wp2_with fail
          exact ⟨keepsFrom_below HB1.out _, KeepC.of_below HB1.out, HM1.out.no hi hj hp'⟩
      case done =>
        rintro D ys W hD rfl hM hK
        have cV : W.cell? ⟨w.heap.size + 1 + 1, 0, none⟩ = some (.slice (some ⟨w.heap.size + 1, 0, none⟩) k k) := hM.var.cell
        have HM := Lib.hid hM
        clear hM
        gi_wp2
        refine ⟨by simp, .inl ⟨_, _, rfl, run_takeDeferred hK, ?_⟩⟩
        have HM2 : RMid w (W.putObj D (.deferred none)) (.func (.func gf) #[] lb) k p (PL k) := (RMid.own (p := p) (B := V.heap.size) (by omega)).putObj _ HM.out hD hK rfl
        exact ⟨_, results_tmp rfl _ _ _, rfl, HM2.below, HM2.own_m⟩
      case stop =>
        rintro D c' pre W' _ _ hx _
        exact hx.elim

end Go.Proofs.Ytmohmecdhabapac
