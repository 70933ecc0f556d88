/-
  The laws' own helpers: copies in new memory (toIntS, toIntSS).
-/
import Derived.Test.YtmohmecdhabapacBase
namespace Go.Proofs.Ytmohmecdhabapac
open Go.RowKit Go.Shelf

theorem infoInt : (Try.prog.info? 3).map (fun i => (i.zero, i.size, i.bytes)) = some (some (.int .i64 0), 1, 8) := by kernel_rfl
theorem infoInts : (Try.prog.info? 24).map (fun i => (i.zero, i.size, i.bytes)) = some (some (.slice none 0 0), 1, 24) := by kernel_rfl

/-- THE BLOCK b HOLDS JUST THE INTEGERS xs. -/
def RowI (W : World) (b : Nat) (xs : List Int) : Prop := W.rowIs b 3 xs.length (fun j => .int .i64 (xs[j]?.getD 0))
theorem RowI.lt {W : World} {b : Nat} {xs : List Int} (h : RowI W b xs) : b < W.heap.size := World.rowIs.lt h
theorem RowI.ints {W : World} {b n₀ : Nat} {xs : List Int} (h : RowI W b xs) (hb : b < n₀) : Ints n₀ W (some ⟨b, 0, none⟩) xs := fun _ =>
  ⟨b, 0, rfl, hb, fun j hj => by rw [Nat.zero_add]; exact World.rowIs.cell h hj⟩
theorem RowI.below {A B : World} {b n₀ : Nat} {xs : List Int} (h : RowI A b xs) (hb : Below n₀ A B) (hn : b < n₀) : RowI B b xs := World.rowIs.of_block h (hb.block b hn)

/-- A COPY OF xs LIES IN A NEW BLOCK, THE ONLY ONE; ALL ELSE IS AS IT WAS. -/
def CopyS (xs : List Int) (w : World) (e : Ending) (w' : World) : Prop :=
  e = .returned (.slice (some ⟨w.heap.size, 0, none⟩) xs.length xs.length) ∧ Below w.heap.size w w' ∧ w'.heap.size = w.heap.size + 1 ∧ RowI w' w.heap.size xs

theorem copyS_start (w : World) (xs : List Int) : (w.alloc (.cells (madeCells #[.int .i64 0] xs.length) 3)).rowIs w.heap.size 3 xs.length (fun j => .int .i64 (if j < 0 then xs[j]?.getD 0 else 0)) :=
  (World.rowIs_made w _ _ _).congr fun j _ => by simp
theorem copyS_step {w wr : World} {xs : List Int} {k : Nat} {x : Int} (h : wr.rowIs w.heap.size 3 xs.length (fun j => .int .i64 (if j < k then xs[j]?.getD 0 else 0))) (hx : xs[k]? = some x) :
    (wr.setCell ⟨w.heap.size, k, none⟩ (.int .i64 x)).rowIs w.heap.size 3 xs.length (fun j => .int .i64 (if j < k + 1 then xs[j]?.getD 0 else 0)) :=
  (h.set k _).congr fun j _ => by
    by_cases e : j = k
    · subst e; simp [hx]
    · by_cases hj : j < k
      · simp [e, hj, show j < k + 1 by omega]
      · simp [e, hj, show ¬ j < k + 1 by omega]
theorem copyS_done {wr : World} {b : Nat} {xs : List Int} (h : wr.rowIs b 3 xs.length (fun j => .int .i64 (if j < xs.length then xs[j]?.getD 0 else 0))) : RowI wr b xs := h.congr fun j hj => by simp only [if_pos hj]

set_option maxHeartbeats 400000 in
theorem toS_any (a : Option Addr) (c : Nat) (xs : List Int) (n₀ : Nat) (w : World) (hI : Ints n₀ w a xs) (hl : xs.length ≤ 1048576) (hn₀ : n₀ ≤ w.heap.size) :
    Calls Try.prog 49 #[.slice a xs.length c] w (CopyS xs w) := by
  have hmk := run_make_row' (P := Try.prog) 24 3 (.int .i64 0) 8 Try.underlying24 infoInt rfl .i64 .i64 xs.length (by omega) (by omega)
  go_enter Try.func49, Try.ntmps49
  go_wp2
  clear hmk
  go_loopw [4] (fun i wr => ∃ k : Nat, k ≤ xs.length ∧ i = .int .i64 k ∧ Below w.heap.size w wr ∧ Hid (wr.heap.size = w.heap.size + 1) ∧ Hid (wr.rowIs w.heap.size 3 xs.length (fun j => .int .i64 (if j < k then xs[j]?.getD 0 else 0))))
    (fun i _ => xs.length - (intOf i).toNat)
  case atStart => exact ⟨0, Nat.zero_le _, rfl, (Below.refl _ _).alloc (Nat.le_refl _) _, Lib.hid (by simp), copyS_start w xs⟩
  case round =>
    obtain ⟨k, hk, rfl, hB, HZ, HR⟩ := hrel
    by_cases hlt : k < xs.length
    · obtain ⟨b, o, x, rfl, hb, hc, HX⟩ := hI.at_ hlt
      have hc1 : wr.cell? ⟨b, o + k, none⟩ = some (.int .i64 x) := (hB.cell (p := ⟨b, o + k, none⟩) (by show b < _; omega)).trans hc
      have hc2 := HR.out.cell hlt
      have hf2 := HR.out.frozen k
      clear hc
      go_wp2
      go_roundw
      case rel => exact ⟨k + 1, by omega, by go_num, hB.setCell (p := ⟨w.heap.size, k, none⟩) (Nat.le_refl _) _, Lib.hid (by rw [← HZ.out]; simp), copyS_step HR.out HX.out⟩
      case measure => simp [intOf]; omega
    · obtain rfl : k = xs.length := by omega
      go_wp2
      go_ret
      exact ⟨rfl, hB, HZ.out, copyS_done HR.out⟩

/-- THE BLOCK b HOLDS THE HEADS OF THE ROWS xss, ROW i IN BLOCK G i. -/
def OwnM (W : World) (b : Nat) (G : Nat → Nat) (xss : List (List Int)) : Prop :=
  W.rowIs b 24 xss.length (fun i => .slice (some ⟨G i, 0, none⟩) (xss[i]?.getD []).length (xss[i]?.getD []).length) ∧ ∀ i xs, xss[i]? = some xs → RowI W (G i) xs
theorem OwnM.mat {W : World} {b n₀ : Nat} {G : Nat → Nat} {xss : List (List Int)} (h : OwnM W b G xss) (hb : b < n₀) (hG : ∀ i, i < xss.length → G i < n₀) : Mat n₀ W (some ⟨b, 0, none⟩) xss := fun _ =>
  ⟨b, 0, rfl, hb, fun i hi => ⟨_, _, by rw [Nat.zero_add]; exact World.rowIs.cell h.1 hi, by
    have := h.2 i xss[i] (List.getElem?_eq_getElem hi)
    rw [List.getElem?_eq_getElem hi]
    exact this.ints (hG i hi)⟩⟩
theorem OwnM.size {W : World} {b : Nat} {G : Nat → Nat} {xss : List (List Int)} (h : OwnM W b G xss) : Mat W.heap.size W (some ⟨b, 0, none⟩) xss :=
  h.mat (World.rowIs.lt h.1) fun i hi => (h.2 i _ (List.getElem?_eq_getElem hi)).lt
theorem OwnM.below {A B : World} {b n₀ : Nat} {G : Nat → Nat} {xss : List (List Int)} (h : OwnM A b G xss) (hb : Below n₀ A B) (hn : b < n₀) (hG : ∀ i, i < xss.length → G i < n₀) : OwnM B b G xss :=
  ⟨World.rowIs.of_block h.1 (hb.block b hn), fun i xs hi => (h.2 i xs hi).below hb (hG i (List.getElem?_eq_some_iff.1 hi).1)⟩

/-- A COPY OF ALL ROWS LIES IN NEW BLOCKS; ALL ELSE IS AS IT WAS. -/
def CopySS (xss : List (List Int)) (w : World) (e : Ending) (w' : World) : Prop :=
  e = .returned (.slice (some ⟨w.heap.size, 0, none⟩) xss.length xss.length) ∧ Below w.heap.size w w' ∧ w'.heap.size = w.heap.size + 1 + xss.length ∧ OwnM w' w.heap.size (fun i => w.heap.size + 1 + i) xss

/-- k rows are copied. -/
structure Part (w wr : World) (xss : List (List Int)) (k : Nat) : Prop where
  below : Below w.heap.size w wr
  size : wr.heap.size = w.heap.size + 1 + k
  top : wr.rowIs w.heap.size 24 xss.length (fun i => if i < k then .slice (some ⟨w.heap.size + 1 + i, 0, none⟩) (xss[i]?.getD []).length (xss[i]?.getD []).length else .slice none 0 0)
  done : ∀ i xs, i < k → xss[i]? = some xs → RowI wr (w.heap.size + 1 + i) xs
theorem Part.start (w : World) (xss : List (List Int)) : Part w (w.alloc (.cells (madeCells #[.slice none 0 0] xss.length) 24)) xss 0 :=
  ⟨(Below.refl _ _).alloc (Nat.le_refl _) _, by simp, (World.rowIs_made w _ _ _).congr fun j _ => by simp, fun i xs h => absurd h (Nat.not_lt_zero _)⟩
theorem Part.step {w wr w1 : World} {xss : List (List Int)} {k : Nat} {xs : List Int} (h : Part w wr xss k) (hx : xss[k]? = some xs) (hb : Below wr.heap.size wr w1) (hz : w1.heap.size = wr.heap.size + 1) (hr : RowI w1 wr.heap.size xs) :
    Part w (w1.setCell ⟨w.heap.size, k, none⟩ (.slice (some ⟨wr.heap.size, 0, none⟩) xs.length xs.length)) xss (k + 1) := by
  have hs := h.size
  refine ⟨(h.below.trans (hb.mono (by omega))).setCell (p := ⟨w.heap.size, k, none⟩) (Nat.le_refl _) _, by simp; omega, ?_, fun i ys hi hy => ?_⟩
  · refine ((World.rowIs.of_block h.top (hb.block w.heap.size (by omega))).set k _).congr fun j _ => ?_
    by_cases e : j = k
    · subst e; simp [hx, hs]
    · by_cases hj : j < k
      · simp [e, hj, show j < k + 1 by omega]
      · simp [e, hj, show ¬ j < k + 1 by omega]
  · by_cases e : i = k
    · subst e
      rw [hx] at hy; cases hy
      rw [hs] at hr
      exact World.rowIs.setOther hr (by show w.heap.size + 1 + i ≠ w.heap.size; omega) _
    · exact World.rowIs.setOther ((h.done i ys (by omega) hy).below hb (by omega)) (by show w.heap.size + 1 + i ≠ w.heap.size; omega) _
theorem Part.own {w wr : World} {xss : List (List Int)} (h : Part w wr xss xss.length) : OwnM wr w.heap.size (fun i => w.heap.size + 1 + i) xss :=
  ⟨h.top.congr fun i hi => by rw [if_pos hi], fun i xs hi => h.done i xs (List.getElem?_eq_some_iff.1 hi).1 hi⟩

set_option maxHeartbeats 400000 in
theorem toSS_any (a : Option Addr) (c : Nat) (xss : List (List Int)) (n₀ : Nat) (w : World) (hM : Mat n₀ w a xss) (hF : Fit xss) (hn₀ : n₀ ≤ w.heap.size) :
    Calls Try.prog 20 #[.slice a xss.length c] w (CopySS xss w) := by
  have HF := Lib.hid hF
  have hl := hF.1
  clear hF
  have hmk := run_make_row' (P := Try.prog) 23 24 (.slice none 0 0) 24 Try.underlying23 infoInts rfl .i64 .i64 xss.length (by omega) (by omega)
  go_enter Try.func20, Try.ntmps20
  go_wp2
  clear hmk
  go_loopw [4] (fun i wr => ∃ k : Nat, k ≤ xss.length ∧ i = .int .i64 k ∧ Hid (Part w wr xss k))
    (fun i _ => xss.length - (intOf i).toNat)
  case atStart => exact ⟨0, Nat.zero_le _, rfl, Part.start w xss⟩
  case round =>
    obtain ⟨k, hk, rfl, HP⟩ := hrel
    by_cases hlt : k < xss.length
    · obtain ⟨b, o, a', c', xs, rfl, hb, hc, hI, HX⟩ := hM.at_ hlt
      have hB := HP.out.below
      have hz : w.heap.size < wr.heap.size := by rw [HP.out.size]; omega
      have hc1 : wr.cell? ⟨b, o + k, none⟩ = some (.slice a' xs.length c') := (hB.cell (p := ⟨b, o + k, none⟩) (by show b < _; omega)).trans hc
      have hI1 : Ints n₀ wr a' xs := hI.below (hB.mono hn₀)
      have hx1 := HF.out.at_ HX.out
      have hc2 := HP.out.top.cell hlt
      simp only [Nat.lt_irrefl, if_false] at hc2
      have hf2 := HP.out.top.frozen k
      clear hc hI
      go_wp2_with (go_at_call 49; refine (toS_any _ _ _ _ _ hI1 hx1 (by omega)).mono ?_; rintro e w1 ⟨rfl, hb1, hz1, hr1⟩; have HP1 := Lib.hid (HP.out.step HX.out hb1 hz1 hr1); have hc3 := (hb1.cell (p := ⟨w.heap.size, k, none⟩) hz).trans hc2; have hf3 := (hb1.frozen (p := ⟨w.heap.size, k, none⟩) hz).trans hf2; clear hz1 hr1 hb1)
      go_roundw
      case rel => exact ⟨k + 1, by omega, by go_num, HP1⟩
      case measure => simp [intOf]; omega
    · obtain rfl : k = xss.length := by omega
      go_wp2
      go_ret
      exact ⟨rfl, HP.out.below, HP.out.size, HP.out.own⟩

end Go.Proofs.Ytmohmecdhabapac
