/-
  Several texts in one.
  impl.rowsBy: rows of noughts and ones in new memory, made after a function of two nodes.
  impl.rowsBy: the walk.
  Rows that a call builds by append; TurnedOf and its model.
-/
import Derived.Test.YtofpjepndhpciaaZA
import Derived.Test.YtofpjepndhpciaaZE
import Derived.Test.YtofpjepndhpciaaZD
namespace Go.Proofs.Ytofpjepndhpciaa
open Go.RowKit Go.Shelf Go.Deep

attribute [local go_sem] Oper.semAt_some

/-- THE ROWS that a test of two nodes makes. -/
def rowsP (m : Nat) (p : Nat → Nat → Bool) : List (List Int) := (List.range m).map fun i => (List.range m).map fun j => if p i j = true then 1 else 0
theorem rowsP_length (m : Nat) (p : Nat → Nat → Bool) : (rowsP m p).length = m := by simp [rowsP]
theorem rowsP_get {m : Nat} {p : Nat → Nat → Bool} {i : Nat} (hi : i < m) : (rowsP m p)[i]? = some ((List.range m).map fun j => if p i j = true then 1 else 0) := by simp [rowsP, hi]
theorem rowsP_row {m : Nat} {p : Nat → Nat → Bool} {i : Nat} {xs : List Int} (h : (rowsP m p)[i]? = some xs) : i < m ∧ xs = (List.range m).map fun j => if p i j = true then 1 else 0 := by
  have hi : i < m := by have := (List.getElem?_eq_some_iff.1 h).1; rwa [rowsP_length] at this
  rw [rowsP_get hi] at h
  exact ⟨hi, (Option.some.inj h).symm⟩
theorem rowsP_ent {m : Nat} {p : Nat → Nat → Bool} {i j : Nat} (hi : i < m) (hj : j < m) : ent (rowsP m p) i j = if p i j = true then 1 else 0 := by
  simp [ent, rowsP_get hi, hj]
theorem rowsP_good {m : Nat} (p : Nat → Nat → Bool) (h1 : 1 ≤ m) (h9 : m ≤ 9) : Good (rowsP m p) := by
  refine ⟨by rw [rowsP_length]; exact h1, by rw [rowsP_length]; exact h9, fun xs hx => ?_⟩
  obtain ⟨i, hi, rfl⟩ := List.mem_map.1 hx
  refine ⟨by rw [rowsP_length]; simp, fun x hx => ?_⟩
  obtain ⟨j, _, rfl⟩ := List.mem_map.1 hx
  split <;> simp
theorem Good.fit {xss : List (List Int)} (h : Good xss) : Fit xss := ⟨by have := h.2.1; omega, fun xs hx => by have := (h.2.2 xs hx).1; have := h.2.1; omega⟩
/-- A graph is the rows of its own arrows. -/
theorem good_rowsP {xss : List (List Int)} (h : Good xss) : xss = rowsP xss.length (arw xss) := by
  apply List.ext_getElem?
  intro i
  by_cases hi : i < xss.length
  · rw [rowsP_get hi, List.getElem?_eq_getElem hi]
    congr 1
    have e1 := List.getElem?_eq_getElem hi
    have hl := h.len e1
    apply List.ext_getElem?
    intro j
    by_cases hj : j < xss.length
    · have e2 := List.getElem?_eq_getElem (l := xss[i]) (i := j) (by omega)
      rw [e2]
      simp only [List.getElem?_map, List.getElem?_range hj, Option.map_some]
      have he := ent_eq e1 e2
      have hv := (good_iff_ent h.1 h.2.1 (fun i xs hx => h.len hx)).1 h (⟨i, hi⟩, ⟨j, hj⟩)
      simp only at hv
      unfold arw
      rw [he] at hv ⊢
      rcases hv with e | e <;> simp [e]
    · rw [List.getElem?_eq_none (by omega), List.getElem?_eq_none (by simp; omega)]
  · rw [List.getElem?_eq_none (by omega), List.getElem?_eq_none (by rw [rowsP_length]; omega)]
theorem rowsP_congr {m : Nat} {p q : Nat → Nat → Bool} (h : ∀ i j, i < m → j < m → p i j = q i j) : rowsP m p = rowsP m q := by
  unfold rowsP
  refine List.map_congr_left fun i hi => List.map_congr_left fun j hj => ?_
  rw [h i j (List.mem_range.1 hi) (List.mem_range.1 hj)]
theorem arw_rowsP {m : Nat} {p : Nat → Nat → Bool} {i j : Nat} (hi : i < m) (hj : j < m) : arw (rowsP m p) i j = p i j := by
  unfold arw; rw [rowsP_ent hi hj]; cases p i j <;> simp

/-- k rows are made, all noughts. -/
structure RPart (w wr : World) (fv : Value) (m k : Nat) : Prop where
  below : Below w.heap.size w wr
  size : wr.heap.size = w.heap.size + 3 + k
  fn : Boxed wr w.heap.size 68 fv
  var : Boxed wr (w.heap.size + 2) 23 (.slice (some ⟨w.heap.size + 1, 0, none⟩) m m)
  top : wr.rowIs (w.heap.size + 1) 47 m (fun i => if i < k then .slice (some ⟨w.heap.size + 3 + i, 0, none⟩) m m else .slice none 0 0)
  done : ∀ i, i < k → wr.rowIs (w.heap.size + 3 + i) 3 m (fun _ => .int .i64 0)
theorem RPart.start (w : World) (fv : Value) (m : Nat) : RPart w (((w.alloc (.cells #[fv] 68)).alloc (.cells (madeCells #[.slice none 0 0] m) 47)).alloc (.cells #[.slice (some ⟨w.heap.size + 1, 0, none⟩) m m] 23)) fv m 0 := by
  refine ⟨(((Below.refl _ _).alloc (Nat.le_refl _) _).alloc (by simp) _).alloc (by simp; omega) _, by simp, ((Boxed.new w _ fv).alloc _).alloc _, ?_, ?_, fun i h => absurd h (Nat.not_lt_zero _)⟩
  · have := Boxed.new ((w.alloc (.cells #[fv] 68)).alloc (.cells (madeCells #[.slice none 0 0] m) 47)) 23 (.slice (some ⟨w.heap.size + 1, 0, none⟩) m m)
    simp only [World.size_alloc] at this; exact this
  · have := (World.rowIs_made (w.alloc (.cells #[fv] 68)) (.slice none 0 0) m 47).alloc (.cells #[.slice (some ⟨w.heap.size + 1, 0, none⟩) m m] 23)
    simp only [World.size_alloc] at this
    exact this.congr fun i _ => by simp
theorem RPart.step {w wr : World} {fv : Value} {m k : Nat} (h : RPart w wr fv m k) :
    RPart w ((wr.alloc (.cells (madeCells #[.int .i64 0] m) 3)).setCell ⟨w.heap.size + 1, k, none⟩ (.slice (some ⟨w.heap.size + 3 + k, 0, none⟩) m m)).drew fv m (k + 1) := by
  have hs := h.size
  have hn := World.rowIs_made wr (.int .i64 0) m 3
  rw [hs] at hn
  refine ⟨((h.below.alloc (by omega) _).setCell (p := ⟨w.heap.size + 1, k, none⟩) (Nat.le_succ _) _).drew, by simp [hs]; omega,
    ?_, ?_, ((h.top.alloc _).set k _).congr fun i hi => ?_, fun i hi => ?_⟩
  · exact (Below.heap_setCell _ ⟨w.heap.size + 1, k, none⟩ _ w.heap.size (by show w.heap.size ≠ w.heap.size + 1; omega)).trans (h.fn.alloc _)
  · exact (Below.heap_setCell _ ⟨w.heap.size + 1, k, none⟩ _ (w.heap.size + 2) (by show w.heap.size + 2 ≠ w.heap.size + 1; omega)).trans (h.var.alloc _)
  · by_cases e : i = k
    · subst e; simp
    · by_cases hlt : i < k
      · simp [e, hlt, show i < k + 1 by omega]
      · simp [e, hlt, show ¬ i < k + 1 by omega]
  · by_cases e : i = k
    · subst e; exact (hn.setOther (by show w.heap.size + 3 + i ≠ w.heap.size + 1; omega) _).drew
    · exact (((h.done i (by omega)).alloc _).setOther (by show w.heap.size + 3 + i ≠ w.heap.size + 1; omega) _).drew

/-- 'Block b is a row' speaks of cells alone. -/
theorem rowIs_own {β : Type} (b : Nat) (t : TypeId) (n : Nat) (f : β → Nat → Value) : Own (fun s W => W.rowIs b t n (f s)) := fun s A B row h hg hr =>
  World.rowIs.of_block h (hg.block b (World.rowIs.lt h) (fun e => by
    obtain ⟨o, ho, hc⟩ := hr b e.symm
    obtain ⟨c, hb, _⟩ := h
    rw [hb] at ho; cases ho; cases hc))

/-- Row i when the pairs pre have come. -/
def cellP (p : Nat → Nat → Bool) {m : Nat} (pre : List (Fin m × Fin m)) (i j : Nat) : Value := .int .i64 (if (∃ x ∈ pre, x.1.1 = i ∧ x.2.1 = j) ∧ p i j = true then 1 else 0)

end Go.Proofs.Ytofpjepndhpciaa

namespace Go.Proofs.Ytofpjepndhpciaa
open Go.RowKit Go.Shelf Go.Deep

attribute [local go_sem] Oper.semAt_some

/-- ROWS OF NOUGHTS AND ONES LIE IN NEW BLOCKS. -/
def MadeM (w : World) (m : Nat) (p : Nat → Nat → Bool) (e : Ending) (w' : World) : Prop :=
  e = .returned (.slice (some ⟨w.heap.size + 1, 0, none⟩) m m) ∧ Below w.heap.size w w' ∧ OwnM w' (w.heap.size + 1) (fun i => w.heap.size + 3 + i) (rowsP m p)

theorem cellP_start (p : Nat → Nat → Bool) {m : Nat} (i j : Nat) : cellP p ([] : List (Fin m × Fin m)) i j = .int .i64 0 := by simp [cellP]
theorem inP_snoc {m : Nat} {pre : List (Fin m × Fin m)} {i j : Nat} (hi : i < m) (hj : j < m) (k l : Nat) :
    (∃ x ∈ pre ++ [((⟨i, hi⟩ : Fin m), (⟨j, hj⟩ : Fin m))], x.1.1 = k ∧ x.2.1 = l) ↔ (∃ x ∈ pre, x.1.1 = k ∧ x.2.1 = l) ∨ (i = k ∧ j = l) := by
  constructor
  · rintro ⟨x, hx, h⟩
    rcases List.mem_append.1 hx with hx | hx
    · exact .inl ⟨x, hx, h⟩
    · simp only [List.mem_singleton] at hx; subst hx; exact .inr h
  · rintro (⟨x, hx, h⟩ | h)
    · exact ⟨x, List.mem_append.2 (.inl hx), h⟩
    · exact ⟨_, List.mem_append.2 (.inr (List.mem_singleton.2 rfl)), h⟩
theorem cellP_yes (p : Nat → Nat → Bool) {m : Nat} {pre : List (Fin m × Fin m)} {i j : Nat} (hi : i < m) (hj : j < m) (hp : p i j = true) (k l : Nat) :
    cellP p (pre ++ [((⟨i, hi⟩ : Fin m), (⟨j, hj⟩ : Fin m))]) k l = if k = i ∧ l = j then .int .i64 1 else cellP p pre k l := by
  unfold cellP
  simp only [inP_snoc hi hj]
  by_cases e : k = i ∧ l = j
  · obtain ⟨rfl, rfl⟩ := e
    simp [hp]
  · have e' : ¬ (i = k ∧ j = l) := fun h => e ⟨h.1.symm, h.2.symm⟩
    simp only [e', or_false, if_neg e]
theorem cellP_no (p : Nat → Nat → Bool) {m : Nat} {pre : List (Fin m × Fin m)} {i j : Nat} (hi : i < m) (hj : j < m) (hp : p i j = false) (k l : Nat) :
    cellP p (pre ++ [((⟨i, hi⟩ : Fin m), (⟨j, hj⟩ : Fin m))]) k l = cellP p pre k l := by
  unfold cellP
  simp only [inP_snoc hi hj]
  by_cases e : i = k ∧ j = l
  · obtain ⟨rfl, rfl⟩ := e
    simp [hp]
  · simp only [e, or_false]
theorem cellP_all (p : Nat → Nat → Bool) {m : Nat} {i j : Nat} (hi : i < m) (hj : j < m) : cellP p (PL m) i j = .int .i64 (if p i j = true then 1 else 0) := by
  unfold cellP
  congr 1
  by_cases h : p i j = true
  · rw [if_pos h, if_pos ⟨⟨(⟨i, hi⟩, ⟨j, hj⟩), PL_all _, rfl, rfl⟩, h⟩]
  · rw [if_neg h, if_neg fun h' => h h'.2]

/-- WHAT HOLDS BETWEEN TWO ROUNDS. -/
structure RMid (w W : World) (fv : Value) (m : Nat) (p : Nat → Nat → Bool) (pre : List (Fin m × Fin m)) : Prop where
  below : Below w.heap.size w W
  fn : Boxed W w.heap.size 68 fv
  var : Boxed W (w.heap.size + 2) 23 (.slice (some ⟨w.heap.size + 1, 0, none⟩) m m)
  top : W.rowIs (w.heap.size + 1) 47 m (fun i => .slice (some ⟨w.heap.size + 3 + i, 0, none⟩) m m)
  rows : ∀ i, i < m → W.rowIs (w.heap.size + 3 + i) 3 m (cellP p pre i)
theorem RMid.own {w : World} {fv : Value} {m : Nat} {p : Nat → Nat → Bool} {B : Nat} (hB : w.heap.size ≤ B) : OwnFrom B (fun pre W => RMid w W fv m p pre) := fun s A C row h hg hr => by
  have hr2 : ∀ r, row = some r → ∃ o : Obj, A.heap[r]? = some o ∧ o.isCells = false := fun r e => (hr r e).2
  exact ⟨ownFrom_below (β := Unit) (Nat.le_refl _) hB () A C row h.below hg hr,
    boxed_own _ _ (fun (_ : Unit) => fv) () A C row h.fn hg hr2, boxed_own _ _ (fun (_ : Unit) => .slice (some ⟨w.heap.size + 1, 0, none⟩) m m) () A C row h.var hg hr2,
    rowIs_own _ _ _ (fun (_ : Unit) => _) () A C row h.top hg hr2, fun i hi => rowIs_own _ _ _ (fun (_ : Unit) => _) () A C row (h.rows i hi) hg hr2⟩
theorem RMid.grown {w W W' : World} {fv : Value} {m : Nat} {p : Nat → Nat → Bool} {pre : List (Fin m × Fin m)} (h : RMid w W fv m p pre) (hb : Below W.heap.size W W') : RMid w W' fv m p pre :=
  ⟨h.below.trans (hb.mono h.below.size), (hb.block _ h.fn.lt).trans h.fn, (hb.block _ h.var.lt).trans h.var, World.rowIs.of_block h.top (hb.block _ (World.rowIs.lt h.top)), fun i hi => World.rowIs.of_block (h.rows i hi) (hb.block _ (World.rowIs.lt (h.rows i hi)))⟩
theorem RMid.no {w W : World} {fv : Value} {m : Nat} {p : Nat → Nat → Bool} {pre : List (Fin m × Fin m)} (h : RMid w W fv m p pre) {i j : Nat} (hi : i < m) (hj : j < m) (hp : p i j = false) : RMid w W fv m p (pre ++ [((⟨i, hi⟩ : Fin m), (⟨j, hj⟩ : Fin m))]) :=
  ⟨h.below, h.fn, h.var, h.top, fun k hk => (h.rows k hk).congr fun l _ => (cellP_no p hi hj hp k l).symm⟩
theorem RMid.yes {w W : World} {fv : Value} {m : Nat} {p : Nat → Nat → Bool} {pre : List (Fin m × Fin m)} (h : RMid w W fv m p pre) {i j : Nat} (hi : i < m) (hj : j < m) (hp : p i j = true) :
    RMid w (W.setCell ⟨w.heap.size + 3 + i, j, none⟩ (.int .i64 1)) fv m p (pre ++ [((⟨i, hi⟩ : Fin m), (⟨j, hj⟩ : Fin m))]) := by
  refine ⟨h.below.setCell (p := ⟨w.heap.size + 3 + i, j, none⟩) (by show w.heap.size ≤ w.heap.size + 3 + i; omega) _,
    (Below.heap_setCell _ ⟨w.heap.size + 3 + i, j, none⟩ _ w.heap.size (by show w.heap.size ≠ w.heap.size + 3 + i; omega)).trans h.fn,
    (Below.heap_setCell _ ⟨w.heap.size + 3 + i, j, none⟩ _ (w.heap.size + 2) (by show w.heap.size + 2 ≠ w.heap.size + 3 + i; omega)).trans h.var,
    World.rowIs.setOther h.top (by show w.heap.size + 1 ≠ w.heap.size + 3 + i; omega) _, fun k hk => ?_⟩
  by_cases e : k = i
  · subst e
    refine ((h.rows k hk).set j _).congr fun l _ => ?_
    rw [cellP_yes p hi hj hp]
    by_cases el : l = j
    · simp [el]
    · simp [el]
  · refine (World.rowIs.setOther (h.rows k hk) (by show w.heap.size + 3 + k ≠ w.heap.size + 3 + i; omega) _).congr fun l _ => ?_
    rw [cellP_yes p hi hj hp, if_neg fun h' => e h'.1]
theorem RMid.own_m {w W : World} {fv : Value} {m : Nat} {p : Nat → Nat → Bool} (h : RMid w W fv m p (PL m)) : OwnM W (w.heap.size + 1) (fun i => w.heap.size + 3 + i) (rowsP m p) := by
  refine ⟨?_, fun i xs hx => ?_⟩
  · rw [rowsP_length]
    refine h.top.congr fun i hi => ?_
    rw [rowsP_get hi]; simp
  · obtain ⟨hi, rfl⟩ := rowsP_row hx
    unfold RowI
    rw [List.length_map, List.length_range]
    refine (h.rows i hi).congr fun j hj => ?_
    rw [cellP_all p hi hj]; simp [hj]

set_option maxRecDepth 100000 in
set_option maxHeartbeats 4000000 in
theorem rowsBy_in (F : Fence) (hd : F.depth = none) (hF : ∀ k, F.fn k) (hro : F.round = none) (gf : Nat) (lb : Array Value) (p : Nat → Nat → Bool) (m : Nat) (hm : m ≤ 9) (w : World)
    (he : ∀ args w, (callFunc gf args).run Try.prog w = .ok (.enter gf args) w)
    (hcl : ∀ W' i j, Below w.heap.size w W' → i < m → j < m → CallsIn F 20 Try.prog gf (#[.int .i64 (i : Int), .int .i64 (j : Int)] ++ lb) W' (Ans (.bool (p i j)) W')) :
    CallsIn F 20 Try.prog 50 #[.int .i64 m, .func (.func gf) #[] lb] w (MadeM w m p) := by
  have h1 := hF 50
  have h2 := hF 53
  have h3 := hF gf
  have hdd : ∀ k : Nat, (F.depth.isSome = true → 1 ≤ k) := fun k h => by rw [hd] at h; cases h
  have HFn := Lib.hid hF
  have HCL := Lib.hid hcl
  clear hF hcl
  have hmk := run_make_row' (P := Try.prog) 23 47 (.slice none 0 0) 24 Try.underlying23 infoInts rfl .i64 .i64 m (by omega) (by omega)
  refine callsIn_of_wp_marks Try.func50 rfl h1 ?_ hro
  simp only [Try.ntmps50, List.size_toArray, List.length_cons, List.length_nil, Nat.reduceAdd, Nat.reduceSub, Array.replicate_succ, Array.replicate_zero, List.push_toArray, List.append_toArray, List.nil_append, List.cons_append]
  gi_wp2
  clear hmk
  have HP0 := Lib.hid (RPart.start w (.func (.func gf) #[] lb) m)
  gi_loopw [13] (fun i wr => ∃ k : Nat, k ≤ m ∧ i = .int .i64 k ∧ Hid (RPart w wr (.func (.func gf) #[] lb) m k)) (fun i _ => m - (intOf i).toNat)
  case atStart => exact ⟨0, Nat.zero_le _, rfl, HP0⟩
  case round =>
    obtain ⟨k, hk, rfl, HP⟩ := hrel
    clear HP0
    have cV : wr.cell? ⟨w.heap.size + 1 + 1, 0, none⟩ = some (.slice (some ⟨w.heap.size + 1, 0, none⟩) m m) := HP.out.var.cell
    by_cases hlt : k < m
    · have hmk2 := run_make_row' (P := Try.prog) 47 3 (.int .i64 0) 8 Try.underlying47 infoInt rfl .i64 .i64 m (by omega) (by omega)
      have hst := RPart.step HP.out
      rw [← HP.out.size] at hst
      have HST := Lib.hid hst
      clear hst
      have hc1 : ∀ o : Obj, (wr.alloc o).cell? ⟨w.heap.size + 1, k, none⟩ = some (.slice none 0 0) := fun o => by have := (HP.out.top.alloc o).cell hlt; simpa using this
      have hf1 : ∀ o : Obj, (wr.alloc o).frozen? ⟨w.heap.size + 1, k, none⟩ = false := fun o => (HP.out.top.alloc o).frozen k
      have hcV : ∀ o : Obj, (wr.alloc o).cell? ⟨w.heap.size + 1 + 1, 0, none⟩ = some (.slice (some ⟨w.heap.size + 1, 0, none⟩) m m) := fun o => (HP.out.var.alloc o).cell
      gi_wp2
      gi_region
      all_goals
        gi_wp2
        go_roundw
        case rel => exact ⟨k + 1, by omega, by go_num, HST⟩
        case measure => simp [intOf]; omega
    · obtain rfl : k = m := by omega
      gi_wp2_with ((try refine ⟨hdd _, ?_⟩); gi_at_call 53; refine (pairs_in F _ HFn.out hro _ _).mono ?_; rintro e w' ⟨rfl, rfl⟩)
      have hws : wr.heap.size = w.heap.size + 3 + k := HP.out.size
      have HM0 : Hid (RMid w (wr.alloc (.cells #[.int .i64 k] 3)) (.func (.func gf) #[] lb) k p []) :=
        ⟨HP.out.below.alloc (by omega) _, HP.out.fn.alloc _, HP.out.var.alloc _, (HP.out.top.alloc _).congr fun i hi => by rw [if_pos hi], fun i hi => ((HP.out.done i hi).alloc _).congr fun j _ => (cellP_start p i j).symm⟩
      have bP := Boxed.new wr 3 (.int .i64 k)
      have hsz : (wr.alloc (.cells #[.int .i64 k] 3)).heap.size = wr.heap.size + 1 := by simp
      obtain ⟨V, hV⟩ : ∃ V, wr.alloc (.cells #[.int .i64 k] 3) = V := ⟨_, rfl⟩
      rw [hV] at HM0 bP hsz ⊢
      have HW := Lib.hid hws
      have hsz2 : w.heap.size + 3 + k + 1 ≤ V.heap.size := by omega
      clear hV HP cV hsz
      refine range_law hd hro HFn.out (gf := 58) (lb := #[.pointer (some ⟨wr.heap.size, 0, none⟩)]) rfl (enters_of Try.func58 (by kernel_rfl) rfl)
        (pairs_X F HFn.out hro wr.heap.size k (by omega) (fun B => w.heap.size + 3 ≤ B ∧ B < w.heap.size + 3 + k) (V.heap.size + 2) (V.heap.size + 2) (fun s => by have := HW.out; omega) V bP) (fun h k => KeepC.trans h k) (fun W' o o' h hc => KeepC.putObj _ (by omega) W' o o' h hc) (Below.refl _ _) (fun _ => rfl)
        (fun pre W => RMid w W (.func (.func gf) #[] lb) k p pre)
        (fun _ _ _ => False)
        (RMid.own (by omega))
        (fun _ _ _ _ _ hs _ _ => hs)
        HM0.out ?a1 ?assign ?body ?done ?stop
      case assign =>
        intro l2 x W' K hK
        gi_wp2
        exact hK
      case body =>
        rintro l2 pre ⟨⟨i, hi⟩, ⟨j, hj⟩⟩ W hM _
        have HM := Lib.hid hM
        have cF := hM.fn.cell
        clear hM
        by_cases hp : p i j = true
        · gi_wp2_with fail
          refine (CallsIn.inRound l2 (CallsIn_any hd (HCL.out W i j HM.out.below hi hj))).mono ?_
          rintro e w1 ⟨rfl, hB1⟩
          have HM1 := Lib.hid (HM.out.grown hB1)
          have HB1 := Lib.hid hB1
          clear hB1
          have cV1 : w1.cell? ⟨w.heap.size + 1 + 1, 0, none⟩ = some (.slice (some ⟨w.heap.size + 1, 0, none⟩) k k) := HM1.out.var.cell
          have cT1 := HM1.out.top.cell hi
          have cR1 := (HM1.out.rows i hi).cell hj
          have fR1 := (HM1.out.rows i hi).frozen j
          gi_wp2_with fail
          exact ⟨(keepsFrom_below HB1.out _).trans ((KeepsOthers.setCell _ _ _).from _), (KeepC.of_below HB1.out).trans (KeepC.setCell (S := fun B => w.heap.size + 3 ≤ B ∧ B < w.heap.size + 3 + k) _ w1 ⟨by omega, by omega⟩ j _), HM1.out.yes hi hj hp⟩
        · have hp' : p i j = false := by simpa using hp
          gi_wp2_with fail
          refine (CallsIn.inRound l2 (CallsIn_any hd (HCL.out W i j HM.out.below hi hj))).mono ?_
          rintro e w1 ⟨rfl, hB1⟩
          have HM1 := Lib.hid (HM.out.grown hB1)
          have HB1 := Lib.hid hB1
          clear hB1
          gi_wp2_with fail
          exact ⟨keepsFrom_below HB1.out _, KeepC.of_below HB1.out, HM1.out.no hi hj hp'⟩
      case done =>
        rintro D ys W hD rfl hM hK
        have cV : W.cell? ⟨w.heap.size + 1 + 1, 0, none⟩ = some (.slice (some ⟨w.heap.size + 1, 0, none⟩) k k) := hM.var.cell
        have HM := Lib.hid hM
        clear hM
        gi_wp2
        refine ⟨by simp, .inl ⟨_, _, rfl, run_takeDeferred hK, ?_⟩⟩
        have HM2 : RMid w (W.putObj D (.deferred none)) (.func (.func gf) #[] lb) k p (PL k) := (RMid.own (p := p) (B := V.heap.size) (by omega)).putObj _ HM.out hD hK rfl
        exact ⟨_, results_tmp rfl _ _ _, rfl, HM2.below, HM2.own_m⟩
      case stop =>
        rintro D c' pre W' _ _ hx _
        exact hx.elim

end Go.Proofs.Ytofpjepndhpciaa

namespace Go.Proofs.Ytofpjepndhpciaa
open Go.RowKit Go.Shelf Go.Deep

/-- THE CALL's OWN ROWS, built by append. -/
def OwnMat (base : Nat) (W : World) (v : Value) (xss : List (List Int)) : Prop :=
  ∃ vs, W.ownsRow base 47 1 v xss.length vs ∧ ∀ (i : Nat) (x : Value) (xs : List Int), vs[i]? = some x → xss[i]? = some xs → W.ownsRow base 3 1 x xs.length (xs.map (Value.int .i64))
theorem grown_of_below {W W' : World} (h : Below W.heap.size W W') : W.grownBy W' none := ⟨h.os, h.tape, h.output, h.size, fun k hk _ => h.block k hk⟩
theorem ownsRow_below {W W' : World} {base e size n : Nat} {v : Value} {xs : List Value} (h : W.ownsRow base e size v n xs) (hb : Below W.heap.size W W') : W'.ownsRow base e size v n xs :=
  h.kept (grown_of_below hb) (by cases v.ownBlock <;> simp)
theorem OwnMat.below {base : Nat} {W W' : World} {v : Value} {xss : List (List Int)} (h : OwnMat base W v xss) (hb : Below W.heap.size W W') : OwnMat base W' v xss := by
  obtain ⟨vs, ho, hv⟩ := h
  exact ⟨vs, ownsRow_below ho hb, fun i x xs hx hxs => ownsRow_below (hv i x xs hx hxs) hb⟩
theorem OwnMat.start (W : World) {base : Nat} (hb : base ≤ W.heap.size) : OwnMat base (W.alloc (.cells #[] 47)) (.slice (some ⟨W.heap.size, 0, none⟩) 0 0) [] :=
  ⟨[], World.ownsRow_lit (size := 1) W #[] 0 hb (Nat.zero_le _) rfl, fun i x xs hx => by simp at hx⟩
theorem own_ne_own {W : World} {base base' n m : Nat} {v x : Value} {vs xs : List Value} (h : W.ownsRow base 47 1 v n vs) (k : W.ownsRow base' 3 1 x m xs) : x.ownBlock = none ∨ x.ownBlock ≠ v.ownBlock := by
  rcases k.2 with ⟨rfl, _⟩ | ⟨g, cap, cur, rfl, _, hg, _⟩
  · exact .inl (by simp [Value.ownBlock])
  · refine .inr fun e => ?_
    rcases h.2 with ⟨rfl, _⟩ | ⟨g', cap', cur', rfl, _, hg', _⟩
    · simp [Value.ownBlock] at e
    · have : g = g' := by simpa [Value.ownBlock] using e
      subst this
      rw [hg] at hg'
      injection hg' with hg'
      injection hg' with _ h2
      exact absurd h2 (by decide)
theorem OwnMat.appended {base : Nat} {W w1 : World} {v v' x : Value} {xss : List (List Int)} {xs : List Int} {vs : List Value} {o : Obj} (ho : W.ownsRow base 47 1 v xss.length vs)
    (hv : ∀ (i : Nat) (x : Value) (xs : List Int), vs[i]? = some x → xss[i]? = some xs → W.ownsRow base 3 1 x xs.length (xs.map (Value.int .i64))) (hx : W.ownsRow base 3 1 x xs.length (xs.map (Value.int .i64)))
    (hown : w1.ownsRow base 47 1 v' (xss.length + 1) (vs ++ [x])) (hgrow : (W.alloc o).grownBy w1 v.ownBlock) : OwnMat base w1 v' (xss ++ [xs]) := by
  have hvl : vs.length = xss.length := by simpa using ho.1
  refine ⟨vs ++ [x], by rw [List.length_append, List.length_singleton]; exact hown, fun i y ys hy hys => ?_⟩
  by_cases hi : i < vs.length
  · rw [List.getElem?_append_left hi] at hy
    rw [List.getElem?_append_left (by omega)] at hys
    have h1 := hv i y ys hy hys
    exact (h1.alloc o).kept hgrow (own_ne_own (ho.alloc o) (h1.alloc o))
  · rw [List.getElem?_append_right (by omega)] at hy hys
    have e1 : i - vs.length = 0 := by have := (List.getElem?_eq_some_iff.1 hy).1; simp at this; omega
    rw [e1] at hy; rw [show i - xss.length = 0 by omega] at hys
    simp at hy hys
    subst hy; subst hys
    exact (hx.alloc o).kept hgrow (own_ne_own (ho.alloc o) (hx.alloc o))
theorem own_ints {W : World} {base : Nat} {x : Value} {xs : List Int} (h : W.ownsRow base 3 1 x xs.length (xs.map (Value.int .i64))) : ∃ (a : Option Addr) (c : Nat), x = .slice a xs.length c ∧ Ints W.heap.size W a xs := by
  rcases h.2 with ⟨rfl, h0⟩ | ⟨g, cap, cur, rfl, _, hg, _⟩
  · have e : xs = [] := List.eq_nil_of_length_eq_zero (by omega)
    subst e
    exact ⟨none, 0, rfl, fun hne => absurd rfl hne⟩
  · refine ⟨_, cap, rfl, fun _ => ⟨g, 0, rfl, (h.lt g (by simp [Value.ownBlock])).2, fun j hj => ?_⟩⟩
    rw [Nat.zero_add, h.cellAt j (by omega), List.getElem?_map, List.getElem?_eq_getElem hj]; rfl
theorem OwnMat.mat {base : Nat} {W : World} {a : Option Addr} {c : Nat} {xss : List (List Int)} (h : OwnMat base W (.slice a xss.length c) xss) : Mat W.heap.size W a xss := fun hne => by
  obtain ⟨vs, ho, hv⟩ := h
  have hl : vs.length = xss.length := by simpa using ho.1
  have h0 : 0 < xss.length := by cases xss with | nil => exact absurd rfl hne | cons _ _ => simp
  obtain ⟨g, cap, e⟩ := Joins.ownsRow_form ho h0
  simp only [Value.slice.injEq] at e
  obtain ⟨rfl, _, rfl⟩ := e
  refine ⟨g, 0, rfl, (ho.lt g (by simp [Value.ownBlock])).2, fun i hi => ?_⟩
  have hi' : i < vs.length := by omega
  obtain ⟨a', c', e, hI⟩ := own_ints (hv i vs[i] xss[i] (List.getElem?_eq_getElem hi') (List.getElem?_eq_getElem hi))
  rw [List.getElem?_eq_getElem hi]
  exact ⟨a', c', by rw [Nat.zero_add, ho.cellAt i (by omega), List.getElem?_eq_getElem hi', e]; rfl, hI⟩

/-- NEW ROWS THAT CAN BE READ. -/
def ReadM (xss : List (List Int)) (w : World) (e : Ending) (w' : World) : Prop := ∃ (a : Option Addr) (c : Nat), (e = .returned (.slice a xss.length c) ∧ Below w.heap.size w w') ∧ Mat w'.heap.size w' a xss
/-- NEW ROWS IN BLOCKS OF THEIR OWN (nil where there is none). -/
def OwnR (base : Nat) (W : World) (a : Option Addr) (c : Nat) (xss : List (List Int)) : Prop :=
  (xss = [] ∧ a = none ∧ c = 0) ∨ ∃ (b : Nat) (G : Nat → Nat), a = some ⟨b, 0, none⟩ ∧ c = xss.length ∧ OwnM W b G xss ∧ base ≤ b ∧ (∀ i, i < xss.length → base ≤ G i) ∧ ∀ i j, G i = G j → i = j
def MadeR (xss : List (List Int)) (w : World) (e : Ending) (w' : World) : Prop := ∃ (a : Option Addr) (c : Nat), (e = .returned (.slice a xss.length c) ∧ Below w.heap.size w w') ∧ OwnR w.heap.size w' a c xss
theorem OwnR.mat {base : Nat} {W : World} {a : Option Addr} {c : Nat} {xss : List (List Int)} (h : OwnR base W a c xss) : Mat W.heap.size W a xss := by
  rcases h with ⟨rfl, _⟩ | ⟨b, G, rfl, _, ho, _⟩
  · exact fun hne => absurd rfl hne
  · exact ho.size
theorem MadeR.read {xss : List (List Int)} {w w' : World} {e : Ending} (h : MadeR xss w e w') : ReadM xss w e w' := by
  obtain ⟨a, c, h1, h2⟩ := h
  exact ⟨a, c, h1, h2.mat⟩

/-- THE GRAPH TURNED ROUND; nothing for what is no graph. -/
def turnedL (xss : List (List Int)) : List (List Int) := if gOk xss = true then rowsP xss.length (fun i j => arw xss j i) else []
theorem turnedL_yes {xss : List (List Int)} (h : gOk xss = true) : turnedL xss = rowsP xss.length (fun i j => arw xss j i) := if_pos h
theorem turnedL_no {xss : List (List Int)} (h : gOk xss = false) : turnedL xss = [] := if_neg (by rw [h]; decide)

attribute [local go_sem] Oper.semAt_some

/-- Row k of the graph turned round, as far as j. -/
def tRow (xss : List (List Int)) (k j : Nat) : List Int := (List.range j).map fun i => ent xss i k
theorem tRow_succ (xss : List (List Int)) (k j : Nat) : tRow xss k (j + 1) = tRow xss k j ++ [ent xss j k] := by simp [tRow, List.range_succ]
theorem tRow_length (xss : List (List Int)) (k j : Nat) : (tRow xss k j).length = j := by simp [tRow]
def tRows (xss : List (List Int)) (k : Nat) : List (List Int) := (List.range k).map fun i => tRow xss i xss.length
theorem tRows_succ (xss : List (List Int)) (k : Nat) : tRows xss (k + 1) = tRows xss k ++ [tRow xss k xss.length] := by simp [tRows, List.range_succ]
theorem tRows_length (xss : List (List Int)) (k : Nat) : (tRows xss k).length = k := by simp [tRows]
theorem tRows_all {xss : List (List Int)} (hG : Good xss) : tRows xss xss.length = rowsP xss.length (fun i j => arw xss j i) := by
  unfold tRows rowsP tRow
  refine List.map_congr_left fun i hi => List.map_congr_left fun j hj => ?_
  have h := (good_iff_ent hG.1 hG.2.1 (fun i xs h => hG.len h)).1 hG (⟨j, List.mem_range.1 hj⟩, ⟨i, List.mem_range.1 hi⟩)
  simp only at h
  unfold arw
  rcases h with e | e <;> simp [e]

set_option maxRecDepth 100000 in
set_option maxHeartbeats 2000000 in
theorem specTurned (a : Option Addr) (c : Nat) (xss : List (List Int)) (n₀ : Nat) (w : World) (hM : Mat n₀ w a xss) (hn₀ : n₀ ≤ w.heap.size) (hF : Fit xss) :
    Calls Try.prog 62 #[.slice a xss.length c] w (ReadM (turnedL xss) w) := by
  have HF := Lib.hid hF
  have hl := hF.1
  clear hF
  obtain ⟨i0, hi, hz0, hz1, hz2⟩ := info_parts infoInts
  obtain ⟨i1, hj, hy0, hy1, hy2⟩ := info_parts infoInt
  by_cases hg : gOk xss = true
  · rw [turnedL_yes hg]
    have HG := Lib.hid (good_of hg)
    have hl9 := HG.out.2.1
    have hl1 := HG.out.1
    go_enter Try.func62, Try.ntmps62
    go_wp2_with fail
    go_loopw [3, 4] (fun v i wr => ∃ (k g cap : Nat), k ≤ xss.length ∧ i = .int .i64 k ∧ v = .slice (some ⟨g, 0, none⟩) k cap ∧ Hid (OwnMat w.heap.size wr (.slice (some ⟨g, 0, none⟩) k cap) (tRows xss k)) ∧ Below w.heap.size w wr)
      (fun _ i _ => xss.length - (intOf i).toNat)
    case atStart => exact ⟨0, _, _, Nat.zero_le _, rfl, rfl, OwnMat.start w (Nat.le_refl _), (Below.refl _ _).alloc (Nat.le_refl _) _⟩
    case round =>
      obtain ⟨k, g, cap, hk, rfl, rfl, HO, hB⟩ := hrel
      have hMr : Mat n₀ wr a xss := hM.below (hB.mono hn₀)
      have hws := hB.size
      by_cases hlt : k < xss.length
      · obtain ⟨wo, rfl⟩ : ∃ wo : World, wo = wr := ⟨_, rfl⟩
        go_wp2_with (go_at_call 29; refine (specOk_any _ _ _ _ _ hMr HF.out).mono ?_; rintro e w' ⟨rfl, rfl⟩)
        go_loopw [5, 6] (fun v i wi => ∃ (j g' cap' : Nat), j ≤ xss.length ∧ i = .int .i64 j ∧ v = .slice (some ⟨g', 0, none⟩) j cap' ∧ Hid (wi.ownsRow wo.heap.size 3 1 (.slice (some ⟨g', 0, none⟩) j cap') j ((tRow xss k j).map (Value.int .i64))) ∧ Below wo.heap.size wo wi)
          (fun _ i _ => xss.length - (intOf i).toNat)
        case atStart => exact ⟨0, _, _, Nat.zero_le _, rfl, rfl, World.ownsRow_lit (size := 1) wo #[] 0 (Nat.le_refl _) (Nat.zero_le _) rfl, (Below.refl _ _).alloc (Nat.le_refl _) _⟩
        case round =>
          obtain ⟨j, g', cap', hj', rfl, rfl, HR, hB2⟩ := hrel
          have hMi : Mat n₀ wr a xss := hMr.below (hB2.mono (Nat.le_trans hn₀ hws))
          by_cases hltj : j < xss.length
          · obtain ⟨b, o, a', c', xs, rfl, hb, hc, hI, HX⟩ := hMi.at_ hltj
            have HE := Lib.hid (HG.out.len HX.out)
            obtain ⟨b', o', v, rfl, hb', hc', HY⟩ := hI.at_ (k := k) (by rw [HE.out]; exact hlt)
            have HV := Lib.hid (ent_eq HX.out HY.out)
            have hkx : k < xs.length := by rw [HE.out]; exact hlt
            have hown := HR.out
            have hBs := hB2.size
            have hlg := HR.out.lt g' (by simp [Value.ownBlock])
            go_wp2_with (at_builtin; go_must (refine wpList_append_own _ rfl _ _ 47 rfl wo.heap.size 3 i1 (.int .i64 0) 1 8 Try.underlying47 hj hy0 hy1 hy2 rfl (by decide) _ _ _ rfl (hown.alloc _) ⟨wr.heap.size, 0, none⟩ 1 1 [.int .i64 v] rfl rfl (cell_one_new _ _ _) (by simp [Value.oneCell']) (by unfold maxLen; omega) (by omega) (by simp; omega) ?_); go_must (intro v' w4 hown' hgrow _; obtain ⟨g2, cap2, rfl⟩ := ownsRow_succ hown'); go_must (have HO4 := Lib.hid hown'); go_must (have hB4 : Below wo.heap.size wo w4 := (hB2.alloc hBs _).grown hgrow (by simp; omega) (fun r e => by have e' : some g' = some r := e; cases e'; exact hlg.1)); clear hown' hgrow)
            go_roundw
            case rel => exact ⟨j + 1, g2, cap2, by omega, by go_num, rfl, Lib.hid (by rw [tRow_succ, List.map_append, HV.out]; exact HO4.out), hB4⟩
            case measure => simp [intOf]; omega
          · obtain rfl : j = xss.length := by omega
            have HO2 := HO.out.below hB2
            obtain ⟨vs, hown, hrows⟩ := HO2
            rw [tRows_length] at hown
            have HW := Lib.hid hrows
            clear hrows
            have hBs := hB2.size
            have hlg := hown.lt g (by simp [Value.ownBlock])
            have HR2 : Hid (wr.ownsRow w.heap.size 3 1 (.slice (some ⟨g', 0, none⟩) xss.length cap') (tRow xss k xss.length).length ((tRow xss k xss.length).map (Value.int .i64))) := by
              rw [tRow_length]; exact Joins.ownsRow_le HR.out hws
            have hBr : Below w.heap.size w wr := hB.trans (hB2.mono hws)
            go_wp2_with (at_builtin; go_must (refine wpList_append_own _ rfl _ _ 23 rfl w.heap.size 47 i0 (.slice none 0 0) 1 24 Try.underlying23 hi hz0 hz1 hz2 rfl (by decide) _ _ _ rfl (hown.alloc _) ⟨wr.heap.size, 0, none⟩ 1 1 [.slice (some ⟨g', 0, none⟩) xss.length cap'] rfl rfl (cell_one_new _ _ _) (by simp [Value.oneCell']) (by unfold maxLen; omega) (by omega) (by simp; omega) ?_); go_must (intro v' w4 hown' hgrow _; obtain ⟨g2, cap2, rfl⟩ := ownsRow_succ hown'); go_must (have HO4 := Lib.hid (OwnMat.appended (by rw [tRows_length]; exact hown) HW.out HR2.out (by rw [tRows_length]; exact hown') hgrow)); go_must (have hB4 : Below w.heap.size w w4 := (hBr.alloc (by omega) _).grown hgrow (by simp; omega) (fun r e => by have e' : some g = some r := e; cases e'; exact hlg.1)); clear hown' hgrow)
            go_roundw
            case rel => exact ⟨k + 1, g2, cap2, by omega, by go_num, rfl, Lib.hid (by rw [tRows_succ]; exact HO4.out), hB4⟩
            case measure => simp [intOf]; omega
      · obtain rfl : k = xss.length := by omega
        go_wp2_with fail
        go_ret
        have e1 := tRows_all HG.out
        have hm := HO.out
        rw [e1] at hm
        refine ⟨some ⟨g, 0, none⟩, cap, ⟨?_, hB⟩, OwnMat.mat (by rw [rowsP_length]; exact hm)⟩
        rw [rowsP_length]
        rfl
  · have hg' : gOk xss = false := by simpa using hg
    rw [turnedL_no hg']
    clear hg
    go_enter Try.func62, Try.ntmps62
    go_wp2_with fail
    go_loopw [3, 4] (fun v i wr => i = .int .i64 0 ∧ v = .slice (some ⟨w.heap.size, 0, none⟩) 0 0 ∧ wr = w.alloc (.cells #[] 47)) (fun _ _ _ => 0)
    case atStart => exact ⟨rfl, rfl, rfl⟩
    case round =>
      obtain ⟨rfl, rfl, rfl⟩ := hrel
      by_cases h0 : 0 < xss.length
      · go_wp2_with (go_at_call 29; refine (specOk_any _ _ _ _ _ (hM.below ((Below.refl _ w).alloc hn₀ _)) HF.out).mono ?_; rintro e w' ⟨rfl, rfl⟩)
        go_ret
        exact ⟨_, _, ⟨rfl, (Below.refl _ w).alloc (Nat.le_refl _) _⟩, fun h => absurd rfl h⟩
      · go_wp2_with fail
        go_ret
        exact ⟨_, _, ⟨rfl, (Below.refl _ w).alloc (Nat.le_refl _) _⟩, fun h => absurd rfl h⟩

end Go.Proofs.Ytofpjepndhpciaa
