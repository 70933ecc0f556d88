/-
  Several texts in one.
  Words for memory: slices of integers and of rows that read as lists, below a block number. No condition of a statement stands here.
  The laws' own helpers: how large an argument is (szIntS, szIntSS).
  The laws' own helpers: copies in new memory (toIntS, toIntSS).
  The laws' own helpers: two slices that read alike are found equal (eqIntS, eqIntSS).
  What a graph is, in plain words, and that the model's GraphOk says so.
  The iterator over all pairs of nodes (impl.pairs): its contract, for every loop body that keeps the box of the number of nodes.
  impl.GraphOk answers whether the rows are a graph.
-/
import Derived.RangeFuncNested
import Derived.RangeFuncBound
import Derived.RangeFuncCalls
import Derived.RangeFuncLeaves
import Derived.RangeFuncBox
import Derived.Shelf.Abstract
import Derived.Shelf.RegionOpen
import Derived.WalkKit
import Derived.WalkSpells
import Derived.WalkLawsBesides
import Derived.OwnWalkIn
import Derived.TacticsInMore
import Derived.LoopNIn
import Derived.LoopIn
import Derived.Lib.Hide
import Derived.RegionTactic
import Derived.ChangeAlike
import Derived.Deep.QuietTactic
import Derived.BigQuiet
import Derived.Outline
import Derived.IntWalk
import Derived.Deep.OwnRows
import Derived.Deep.LoopGhost
import Derived.KernelRfl
import Derived.Test.YtofpjepndhpciaaProg
namespace Go.Proofs.Ytofpjepndhpciaa
open Go.RowKit Go.Shelf

/-- THE ADDRESS a LEADS TO THE INTEGERS xs, in a block below n₀; of an empty list nothing is asked. -/
def Ints (n₀ : Nat) (W : World) (a : Option Addr) (xs : List Int) : Prop :=
  xs ≠ [] → ∃ b o, a = some ⟨b, o, none⟩ ∧ b < n₀ ∧ ∀ j, j < xs.length → W.cell? ⟨b, o + j, none⟩ = some (.int .i64 (xs[j]?.getD 0))

/-- THE ADDRESS a LEADS TO ROWS OF INTEGERS. -/
def Mat (n₀ : Nat) (W : World) (a : Option Addr) (xss : List (List Int)) : Prop :=
  xss ≠ [] → ∃ b o, a = some ⟨b, o, none⟩ ∧ b < n₀ ∧ ∀ i, i < xss.length → ∃ a' c', W.cell? ⟨b, o + i, none⟩ = some (.slice a' (xss[i]?.getD []).length c') ∧ Ints n₀ W a' (xss[i]?.getD [])

theorem Ints.keep {n₀ : Nat} {A B : World} {a : Option Addr} {xs : List Int} (h : Ints n₀ A a xs) (hk : ∀ p : Addr, p.block < n₀ → B.cell? p = A.cell? p) : Ints n₀ B a xs := fun hne => by
  obtain ⟨b, o, e, hb, hc⟩ := h hne
  exact ⟨b, o, e, hb, fun j hj => (hk ⟨b, o + j, none⟩ hb).trans (hc j hj)⟩
theorem Ints.below {n₀ : Nat} {A B : World} {a : Option Addr} {xs : List Int} (h : Ints n₀ A a xs) (hb : Below n₀ A B) : Ints n₀ B a xs := h.keep fun _ hp => hb.cell hp
theorem Ints.more {n₀ n₁ : Nat} {A : World} {a : Option Addr} {xs : List Int} (h : Ints n₀ A a xs) (hn : n₀ ≤ n₁) : Ints n₁ A a xs := fun hne => by
  obtain ⟨b, o, e, hb, hc⟩ := h hne
  exact ⟨b, o, e, by omega, hc⟩
theorem Ints.at_ {n₀ : Nat} {W : World} {a : Option Addr} {xs : List Int} (h : Ints n₀ W a xs) {k : Nat} (hk : k < xs.length) :
    ∃ b o x, a = some ⟨b, o, none⟩ ∧ b < n₀ ∧ W.cell? ⟨b, o + k, none⟩ = some (.int .i64 x) ∧ Hid (xs[k]? = some x) := by
  obtain ⟨b, o, e, hb, hc⟩ := h (by intro e; simp [e] at hk)
  exact ⟨b, o, xs[k], e, hb, by rw [hc k hk, List.getElem?_eq_getElem hk]; rfl, List.getElem?_eq_getElem hk⟩
theorem Mat.keep {n₀ : Nat} {A B : World} {a : Option Addr} {xss : List (List Int)} (h : Mat n₀ A a xss) (hk : ∀ p : Addr, p.block < n₀ → B.cell? p = A.cell? p) : Mat n₀ B a xss := fun hne => by
  obtain ⟨b, o, e, hb, hc⟩ := h hne
  refine ⟨b, o, e, hb, fun i hi => ?_⟩
  obtain ⟨a', c', h1, h2⟩ := hc i hi
  exact ⟨a', c', (hk ⟨b, o + i, none⟩ hb).trans h1, h2.keep hk⟩
theorem Mat.below {n₀ : Nat} {A B : World} {a : Option Addr} {xss : List (List Int)} (h : Mat n₀ A a xss) (hb : Below n₀ A B) : Mat n₀ B a xss := h.keep fun _ hp => hb.cell hp
theorem Mat.more {n₀ n₁ : Nat} {A : World} {a : Option Addr} {xss : List (List Int)} (h : Mat n₀ A a xss) (hn : n₀ ≤ n₁) : Mat n₁ A a xss := fun hne => by
  obtain ⟨b, o, e, hb, hc⟩ := h hne
  refine ⟨b, o, e, by omega, fun i hi => ?_⟩
  obtain ⟨a', c', h1, h2⟩ := hc i hi
  exact ⟨a', c', h1, h2.more hn⟩
theorem Mat.at_ {n₀ : Nat} {W : World} {a : Option Addr} {xss : List (List Int)} (h : Mat n₀ W a xss) {k : Nat} (hk : k < xss.length) :
    ∃ b o a' c' xs, a = some ⟨b, o, none⟩ ∧ b < n₀ ∧ W.cell? ⟨b, o + k, none⟩ = some (.slice a' xs.length c') ∧ Ints n₀ W a' xs ∧ Hid (xss[k]? = some xs) := by
  obtain ⟨b, o, e, hb, hc⟩ := h (by intro e; simp [e] at hk)
  obtain ⟨a', c', h1, h2⟩ := hc k hk
  rw [List.getElem?_eq_getElem hk] at h1 h2
  exact ⟨b, o, a', c', xss[k], e, hb, h1, h2, List.getElem?_eq_getElem hk⟩

/-- HOW LONG: none longer than the great bound of the laws. -/
def Fit (xss : List (List Int)) : Prop := xss.length ≤ 1048576 ∧ ∀ xs ∈ xss, xs.length ≤ 1048576
theorem Fit.at_ {xss : List (List Int)} (h : Fit xss) {k : Nat} {xs : List Int} (hk : xss[k]? = some xs) : xs.length ≤ 1048576 := h.2 xs (List.mem_of_getElem? hk)

theorem bcell {W w1 : World} (hb : Below W.heap.size W w1) : (∀ b o, b < W.heap.size → w1.cell? ⟨b, o, none⟩ = W.cell? ⟨b, o, none⟩) ∧ (∀ b o, b < W.heap.size → w1.frozen? ⟨b, o, none⟩ = W.frozen? ⟨b, o, none⟩) :=
  ⟨fun b o h => hb.cell (p := ⟨b, o, none⟩) h, fun b o h => hb.frozen (p := ⟨b, o, none⟩) h⟩
theorem ret_int {k : IntKind} {a b : Int} (h : a = b) : Ending.returned (.int k a) = .returned (.int k b) := by rw [h]
theorem ret_bool {a b : Bool} (h : a = b) : Ending.returned (.bool a) = .returned (.bool b) := by rw [h]

end Go.Proofs.Ytofpjepndhpciaa

namespace Go.Proofs.Ytofpjepndhpciaa
open Go.RowKit Go.Shelf

theorem szS_yes (a : Option Addr) (n c : Nat) (left : Int) (w : World) (hn : (n : Int) ≤ left) (h1 : left ≤ 1048576) :
    Calls Try.prog 38 #[.slice a n c, .int .i64 left] w fun e w' => e = .returned (.int .i64 (left - n)) ∧ w = w' := by
  go_enter Try.func38, Try.ntmps38
  go_wp2
  go_ret
  exact ⟨rfl, rfl⟩

theorem szS_no (a : Option Addr) (n c : Nat) (left : Int) (w : World) (h0 : 0 ≤ left) (hn : left < (n : Int)) (h1 : n ≤ 9223372036854775807) :
    Calls Try.prog 38 #[.slice a n c, .int .i64 left] w fun e w' => e = .returned (.int .i64 (-1)) ∧ w = w' := by
  go_enter Try.func38, Try.ntmps38
  go_wp2
  go_ret
  exact ⟨rfl, rfl⟩

/-- WHAT szIntSS SAYS: where it is not negative, all is short. -/
def SzPost (xss : List (List Int)) (w : World) (e : Ending) (w' : World) : Prop := ∃ r : Int, (e = .returned (.int .i64 r) ∧ w = w') ∧ (0 ≤ r → Fit xss)

set_option maxHeartbeats 400000 in
theorem szSS_any (a : Option Addr) (c : Nat) (xss : List (List Int)) (n₀ : Nat) (w : World) (hM : Mat n₀ w a xss) (hl : xss.length ≤ 9223372036854775807) (hr : ∀ xs ∈ xss, xs.length ≤ 9223372036854775807) :
    Calls Try.prog 21 #[.slice a xss.length c, .int .i64 1048576] w (SzPost xss w) := by
  have Hl : Hid (xss.length ≤ 9223372036854775807) := hl
  have Hr : Hid (∀ xs ∈ xss, xs.length ≤ 9223372036854775807) := hr
  clear hr
  by_cases hbig : 1048576 < xss.length
  · go_enter Try.func21, Try.ntmps21
    go_wp2
    go_ret
    exact ⟨-1, ⟨rfl, rfl⟩, fun h => absurd h (by omega)⟩
  · go_enter Try.func21, Try.ntmps21
    go_wp2
    go_loop [1, 5] (fun l i => ∃ (k : Nat) (r : Int), k ≤ xss.length ∧ i = .int .i64 k ∧ l = .int .i64 r ∧ 0 ≤ r ∧ r ≤ 1048576 ∧ Hid (∀ j xs, j < k → xss[j]? = some xs → xs.length ≤ 1048576))
      (fun _ i => xss.length - (intOf i).toNat)
    case atStart => exact ⟨0, _, Nat.zero_le _, rfl, rfl, by omega, by omega, fun j xs h => absurd h (Nat.not_lt_zero _)⟩
    case round =>
      obtain ⟨k, r, hk, rfl, rfl, hr0, hr1, HF⟩ := hrel
      by_cases hlt : k < xss.length
      · obtain ⟨b, o, a', c', xs, rfl, hb, hc, hI, HX⟩ := hM.at_ hlt
        have hm : xs.length ≤ 9223372036854775807 := Hr.out xs (List.mem_of_getElem? HX.out)
        by_cases hx : (xs.length : Int) ≤ r
        · go_wp2_with (go_at_call 38; refine (szS_yes _ _ _ _ _ (by omega) (by omega)).mono ?_; rintro e w' ⟨rfl, rfl⟩)
          go_round
          case rel => exact ⟨k + 1, r - xs.length, by omega, by go_num, rfl, by omega, by omega, fun j ys hj hy => by
            by_cases e : j = k
            · subst e; rw [HX.out] at hy; cases hy; omega
            · exact HF.out j ys (by omega) hy⟩
          case measure => simp [intOf]; omega
        · go_wp2_with (go_at_call 38; refine (szS_no _ _ _ _ _ (by omega) (by omega) (by omega)).mono ?_; rintro e w' ⟨rfl, rfl⟩)
          go_ret
          exact ⟨-1, ⟨rfl, rfl⟩, fun h => absurd h (by omega)⟩
      · obtain rfl : k = xss.length := by omega
        go_wp2
        go_ret
        refine ⟨_, ⟨rfl, rfl⟩, fun _ => ⟨by omega, fun xs hxs => ?_⟩⟩
        obtain ⟨j, hj, rfl⟩ := List.mem_iff_getElem.1 hxs
        exact HF.out j _ hj (List.getElem?_eq_getElem hj)

end Go.Proofs.Ytofpjepndhpciaa

namespace Go.Proofs.Ytofpjepndhpciaa
open Go.RowKit Go.Shelf

theorem infoInt : (Try.prog.info? 3).map (fun i => (i.zero, i.size, i.bytes)) = some (some (.int .i64 0), 1, 8) := by kernel_rfl
theorem infoInts : (Try.prog.info? 47).map (fun i => (i.zero, i.size, i.bytes)) = some (some (.slice none 0 0), 1, 24) := by kernel_rfl

/-- THE BLOCK b HOLDS JUST THE INTEGERS xs. -/
def RowI (W : World) (b : Nat) (xs : List Int) : Prop := W.rowIs b 3 xs.length (fun j => .int .i64 (xs[j]?.getD 0))
theorem RowI.lt {W : World} {b : Nat} {xs : List Int} (h : RowI W b xs) : b < W.heap.size := World.rowIs.lt h
theorem RowI.ints {W : World} {b n₀ : Nat} {xs : List Int} (h : RowI W b xs) (hb : b < n₀) : Ints n₀ W (some ⟨b, 0, none⟩) xs := fun _ =>
  ⟨b, 0, rfl, hb, fun j hj => by rw [Nat.zero_add]; exact World.rowIs.cell h hj⟩
theorem RowI.below {A B : World} {b n₀ : Nat} {xs : List Int} (h : RowI A b xs) (hb : Below n₀ A B) (hn : b < n₀) : RowI B b xs := World.rowIs.of_block h (hb.block b hn)

/-- A COPY OF xs LIES IN A NEW BLOCK, THE ONLY ONE; ALL ELSE IS AS IT WAS. -/
def CopyS (xs : List Int) (w : World) (e : Ending) (w' : World) : Prop :=
  e = .returned (.slice (some ⟨w.heap.size, 0, none⟩) xs.length xs.length) ∧ Below w.heap.size w w' ∧ w'.heap.size = w.heap.size + 1 ∧ RowI w' w.heap.size xs

theorem copyS_start (w : World) (xs : List Int) : (w.alloc (.cells (madeCells #[.int .i64 0] xs.length) 3)).rowIs w.heap.size 3 xs.length (fun j => .int .i64 (if j < 0 then xs[j]?.getD 0 else 0)) :=
  (World.rowIs_made w _ _ _).congr fun j _ => by simp
theorem copyS_step {w wr : World} {xs : List Int} {k : Nat} {x : Int} (h : wr.rowIs w.heap.size 3 xs.length (fun j => .int .i64 (if j < k then xs[j]?.getD 0 else 0))) (hx : xs[k]? = some x) :
    (wr.setCell ⟨w.heap.size, k, none⟩ (.int .i64 x)).rowIs w.heap.size 3 xs.length (fun j => .int .i64 (if j < k + 1 then xs[j]?.getD 0 else 0)) :=
  (h.set k _).congr fun j _ => by
    by_cases e : j = k
    · subst e; simp [hx]
    · by_cases hj : j < k
      · simp [e, hj, show j < k + 1 by omega]
      · simp [e, hj, show ¬ j < k + 1 by omega]
theorem copyS_done {wr : World} {b : Nat} {xs : List Int} (h : wr.rowIs b 3 xs.length (fun j => .int .i64 (if j < xs.length then xs[j]?.getD 0 else 0))) : RowI wr b xs := h.congr fun j hj => by simp only [if_pos hj]

set_option maxHeartbeats 400000 in
theorem toS_any (a : Option Addr) (c : Nat) (xs : List Int) (n₀ : Nat) (w : World) (hI : Ints n₀ w a xs) (hl : xs.length ≤ 1048576) (hn₀ : n₀ ≤ w.heap.size) :
    Calls Try.prog 39 #[.slice a xs.length c] w (CopyS xs w) := by
  have hmk := run_make_row' (P := Try.prog) 47 3 (.int .i64 0) 8 Try.underlying47 infoInt rfl .i64 .i64 xs.length (by omega) (by omega)
  go_enter Try.func39, Try.ntmps39
  go_wp2
  clear hmk
  go_loopw [4] (fun i wr => ∃ k : Nat, k ≤ xs.length ∧ i = .int .i64 k ∧ Below w.heap.size w wr ∧ Hid (wr.heap.size = w.heap.size + 1) ∧ Hid (wr.rowIs w.heap.size 3 xs.length (fun j => .int .i64 (if j < k then xs[j]?.getD 0 else 0))))
    (fun i _ => xs.length - (intOf i).toNat)
  case atStart => exact ⟨0, Nat.zero_le _, rfl, (Below.refl _ _).alloc (Nat.le_refl _) _, Lib.hid (by simp), copyS_start w xs⟩
  case round =>
    obtain ⟨k, hk, rfl, hB, HZ, HR⟩ := hrel
    by_cases hlt : k < xs.length
    · obtain ⟨b, o, x, rfl, hb, hc, HX⟩ := hI.at_ hlt
      have hc1 : wr.cell? ⟨b, o + k, none⟩ = some (.int .i64 x) := (hB.cell (p := ⟨b, o + k, none⟩) (by show b < _; omega)).trans hc
      have hc2 := HR.out.cell hlt
      have hf2 := HR.out.frozen k
      clear hc
      go_wp2
      go_roundw
      case rel => exact ⟨k + 1, by omega, by go_num, hB.setCell (p := ⟨w.heap.size, k, none⟩) (Nat.le_refl _) _, Lib.hid (by rw [← HZ.out]; simp), copyS_step HR.out HX.out⟩
      case measure => simp [intOf]; omega
    · obtain rfl : k = xs.length := by omega
      go_wp2
      go_ret
      exact ⟨rfl, hB, HZ.out, copyS_done HR.out⟩

/-- THE BLOCK b HOLDS THE HEADS OF THE ROWS xss, ROW i IN BLOCK G i. -/
def OwnM (W : World) (b : Nat) (G : Nat → Nat) (xss : List (List Int)) : Prop :=
  W.rowIs b 47 xss.length (fun i => .slice (some ⟨G i, 0, none⟩) (xss[i]?.getD []).length (xss[i]?.getD []).length) ∧ ∀ i xs, xss[i]? = some xs → RowI W (G i) xs
theorem OwnM.mat {W : World} {b n₀ : Nat} {G : Nat → Nat} {xss : List (List Int)} (h : OwnM W b G xss) (hb : b < n₀) (hG : ∀ i, i < xss.length → G i < n₀) : Mat n₀ W (some ⟨b, 0, none⟩) xss := fun _ =>
  ⟨b, 0, rfl, hb, fun i hi => ⟨_, _, by rw [Nat.zero_add]; exact World.rowIs.cell h.1 hi, by
    have := h.2 i xss[i] (List.getElem?_eq_getElem hi)
    rw [List.getElem?_eq_getElem hi]
    exact this.ints (hG i hi)⟩⟩
theorem OwnM.size {W : World} {b : Nat} {G : Nat → Nat} {xss : List (List Int)} (h : OwnM W b G xss) : Mat W.heap.size W (some ⟨b, 0, none⟩) xss :=
  h.mat (World.rowIs.lt h.1) fun i hi => (h.2 i _ (List.getElem?_eq_getElem hi)).lt
theorem OwnM.below {A B : World} {b n₀ : Nat} {G : Nat → Nat} {xss : List (List Int)} (h : OwnM A b G xss) (hb : Below n₀ A B) (hn : b < n₀) (hG : ∀ i, i < xss.length → G i < n₀) : OwnM B b G xss :=
  ⟨World.rowIs.of_block h.1 (hb.block b hn), fun i xs hi => (h.2 i xs hi).below hb (hG i (List.getElem?_eq_some_iff.1 hi).1)⟩

/-- A COPY OF ALL ROWS LIES IN NEW BLOCKS; ALL ELSE IS AS IT WAS. -/
def CopySS (xss : List (List Int)) (w : World) (e : Ending) (w' : World) : Prop :=
  e = .returned (.slice (some ⟨w.heap.size, 0, none⟩) xss.length xss.length) ∧ Below w.heap.size w w' ∧ w'.heap.size = w.heap.size + 1 + xss.length ∧ OwnM w' w.heap.size (fun i => w.heap.size + 1 + i) xss

/-- k rows are copied. -/
structure Part (w wr : World) (xss : List (List Int)) (k : Nat) : Prop where
  below : Below w.heap.size w wr
  size : wr.heap.size = w.heap.size + 1 + k
  top : wr.rowIs w.heap.size 47 xss.length (fun i => if i < k then .slice (some ⟨w.heap.size + 1 + i, 0, none⟩) (xss[i]?.getD []).length (xss[i]?.getD []).length else .slice none 0 0)
  done : ∀ i xs, i < k → xss[i]? = some xs → RowI wr (w.heap.size + 1 + i) xs
theorem Part.start (w : World) (xss : List (List Int)) : Part w (w.alloc (.cells (madeCells #[.slice none 0 0] xss.length) 47)) xss 0 :=
  ⟨(Below.refl _ _).alloc (Nat.le_refl _) _, by simp, (World.rowIs_made w _ _ _).congr fun j _ => by simp, fun i xs h => absurd h (Nat.not_lt_zero _)⟩
theorem Part.step {w wr w1 : World} {xss : List (List Int)} {k : Nat} {xs : List Int} (h : Part w wr xss k) (hx : xss[k]? = some xs) (hb : Below wr.heap.size wr w1) (hz : w1.heap.size = wr.heap.size + 1) (hr : RowI w1 wr.heap.size xs) :
    Part w (w1.setCell ⟨w.heap.size, k, none⟩ (.slice (some ⟨wr.heap.size, 0, none⟩) xs.length xs.length)) xss (k + 1) := by
  have hs := h.size
  refine ⟨(h.below.trans (hb.mono (by omega))).setCell (p := ⟨w.heap.size, k, none⟩) (Nat.le_refl _) _, by simp; omega, ?_, fun i ys hi hy => ?_⟩
  · refine ((World.rowIs.of_block h.top (hb.block w.heap.size (by omega))).set k _).congr fun j _ => ?_
    by_cases e : j = k
    · subst e; simp [hx, hs]
    · by_cases hj : j < k
      · simp [e, hj, show j < k + 1 by omega]
      · simp [e, hj, show ¬ j < k + 1 by omega]
  · by_cases e : i = k
    · subst e
      rw [hx] at hy; cases hy
      rw [hs] at hr
      exact World.rowIs.setOther hr (by show w.heap.size + 1 + i ≠ w.heap.size; omega) _
    · exact World.rowIs.setOther ((h.done i ys (by omega) hy).below hb (by omega)) (by show w.heap.size + 1 + i ≠ w.heap.size; omega) _
theorem Part.own {w wr : World} {xss : List (List Int)} (h : Part w wr xss xss.length) : OwnM wr w.heap.size (fun i => w.heap.size + 1 + i) xss :=
  ⟨h.top.congr fun i hi => by rw [if_pos hi], fun i xs hi => h.done i xs (List.getElem?_eq_some_iff.1 hi).1 hi⟩

set_option maxHeartbeats 400000 in
theorem toSS_any (a : Option Addr) (c : Nat) (xss : List (List Int)) (n₀ : Nat) (w : World) (hM : Mat n₀ w a xss) (hF : Fit xss) (hn₀ : n₀ ≤ w.heap.size) :
    Calls Try.prog 22 #[.slice a xss.length c] w (CopySS xss w) := by
  have HF := Lib.hid hF
  have hl := hF.1
  clear hF
  have hmk := run_make_row' (P := Try.prog) 23 47 (.slice none 0 0) 24 Try.underlying23 infoInts rfl .i64 .i64 xss.length (by omega) (by omega)
  go_enter Try.func22, Try.ntmps22
  go_wp2
  clear hmk
  go_loopw [4] (fun i wr => ∃ k : Nat, k ≤ xss.length ∧ i = .int .i64 k ∧ Hid (Part w wr xss k))
    (fun i _ => xss.length - (intOf i).toNat)
  case atStart => exact ⟨0, Nat.zero_le _, rfl, Part.start w xss⟩
  case round =>
    obtain ⟨k, hk, rfl, HP⟩ := hrel
    by_cases hlt : k < xss.length
    · obtain ⟨b, o, a', c', xs, rfl, hb, hc, hI, HX⟩ := hM.at_ hlt
      have hB := HP.out.below
      have hz : w.heap.size < wr.heap.size := by rw [HP.out.size]; omega
      have hc1 : wr.cell? ⟨b, o + k, none⟩ = some (.slice a' xs.length c') := (hB.cell (p := ⟨b, o + k, none⟩) (by show b < _; omega)).trans hc
      have hI1 : Ints n₀ wr a' xs := hI.below (hB.mono hn₀)
      have hx1 := HF.out.at_ HX.out
      have hc2 := HP.out.top.cell hlt
      simp only [Nat.lt_irrefl, if_false] at hc2
      have hf2 := HP.out.top.frozen k
      clear hc hI
      go_wp2_with (go_at_call 39; refine (toS_any _ _ _ _ _ hI1 hx1 (by omega)).mono ?_; rintro e w1 ⟨rfl, hb1, hz1, hr1⟩; have HP1 := Lib.hid (HP.out.step HX.out hb1 hz1 hr1); have hc3 := (hb1.cell (p := ⟨w.heap.size, k, none⟩) hz).trans hc2; have hf3 := (hb1.frozen (p := ⟨w.heap.size, k, none⟩) hz).trans hf2; clear hz1 hr1 hb1)
      go_roundw
      case rel => exact ⟨k + 1, by omega, by go_num, HP1⟩
      case measure => simp [intOf]; omega
    · obtain rfl : k = xss.length := by omega
      go_wp2
      go_ret
      exact ⟨rfl, HP.out.below, HP.out.size, HP.out.own⟩

end Go.Proofs.Ytofpjepndhpciaa

namespace Go.Proofs.Ytofpjepndhpciaa
open Go.RowKit Go.Shelf

/-- THE ANSWER IS v; THE WORLD HAS DRAWN, NO MORE. -/
def Still (v : Value) (w : World) (e : Ending) (w' : World) : Prop := e = .returned v ∧ ∃ n, w' = w.drewN n
theorem Still.below {v : Value} {w w' : World} {e : Ending} (h : Still v w e w') : e = .returned v ∧ Below w.heap.size w w' := by
  obtain ⟨he, n, rfl⟩ := h
  exact ⟨he, ⟨rfl, rfl, rfl, Nat.le_refl _, fun _ _ => rfl⟩⟩
theorem below_drewN {B : Nat} {a w : World} (h : Below B a w) (n : Nat) : Below B a (w.drewN n) := ⟨h.os, h.tape, h.output, h.size, h.block⟩
theorem Ints.drewN {n₀ : Nat} {W : World} {a : Option Addr} {xs : List Int} (h : Ints n₀ W a xs) (n : Nat) : Ints n₀ (W.drewN n) a xs := h
theorem Mat.drewN {n₀ : Nat} {W : World} {a : Option Addr} {xss : List (List Int)} (h : Mat n₀ W a xss) (n : Nat) : Mat n₀ (W.drewN n) a xss := h

theorem Calls_quiet_add {P : Program} {f : FuncId} {args : Array Value} {w : World} {a n : Nat} {v : Value}
    (h : Calls P f args (w.drewN (a + n)) (Still v (w.drewN (a + n)))) :
    Calls P f args (w.drewN (a + n)) fun e w'' => e = .returned v ∧ ∃ m, w'' = w.drewN (a + m) :=
  h.mono fun _ _ ⟨he, m, hm⟩ => ⟨he, n + m, by rw [hm, World.drewN_drewN, Nat.add_assoc]⟩

set_option maxHeartbeats 400000 in
theorem eqS_same (a a' : Option Addr) (c c' : Nat) (xs : List Int) (n₀ : Nat) (w : World) (hI : Ints n₀ w a xs) (hI' : Ints n₀ w a' xs) (hl : xs.length ≤ 1048576) :
    Calls Try.prog 40 #[.slice a xs.length c, .slice a' xs.length c'] w (Still (.bool true) w) := by
  go_enter Try.func40, Try.ntmps40
  go_wp2
  go_loopw [5] (fun i wr => ∃ (k n : Nat), k ≤ xs.length ∧ i = .int .i64 k ∧ wr = w.drewN n) (fun i _ => xs.length - (intOf i).toNat)
  case atStart => exact ⟨0, 0, Nat.zero_le _, rfl, rfl⟩
  case round =>
    obtain ⟨k, n, hk, rfl, rfl⟩ := hrel
    by_cases hlt : k < xs.length
    · obtain ⟨b, o, x, rfl, hb, hc, HX⟩ := hI.at_ hlt
      obtain ⟨b', o', x', rfl, hb', hc', HX'⟩ := hI'.at_ hlt
      obtain rfl : x = x' := Option.some.inj (HX.out.symm.trans HX'.out)
      go_wp2
      go_quiet (fail)
      go_wp2
      go_roundw
      case rel => exact ⟨k + 1, _, by omega, by go_num, rfl⟩
      case measure => simp [intOf]; omega
    · obtain rfl : k = xs.length := by omega
      go_wp2
      go_ret
      exact ⟨rfl, n, rfl⟩

set_option maxHeartbeats 400000 in
theorem eqSS_same (a a' : Option Addr) (c c' : Nat) (xss : List (List Int)) (n₀ : Nat) (w : World) (hM : Mat n₀ w a xss) (hM' : Mat n₀ w a' xss) (hF : Fit xss) :
    Calls Try.prog 23 #[.slice a xss.length c, .slice a' xss.length c'] w (Still (.bool true) w) := by
  have HF := Lib.hid hF
  have hl := hF.1
  clear hF
  go_enter Try.func23, Try.ntmps23
  go_wp2
  go_loopw [5] (fun i wr => ∃ (k n : Nat), k ≤ xss.length ∧ i = .int .i64 k ∧ wr = w.drewN n) (fun i _ => xss.length - (intOf i).toNat)
  case atStart => exact ⟨0, 0, Nat.zero_le _, rfl, rfl⟩
  case round =>
    obtain ⟨k, n, hk, rfl, rfl⟩ := hrel
    by_cases hlt : k < xss.length
    · obtain ⟨b, o, d, e, xs, rfl, hb, hc, hI, HX⟩ := hM.at_ hlt
      obtain ⟨b', o', d', e', xs', rfl, hb', hc', hI', HX'⟩ := hM'.at_ hlt
      obtain rfl : xs = xs' := Option.some.inj (HX.out.symm.trans HX'.out)
      have hx1 := HF.out.at_ HX.out
      go_wp2
      go_quiet ((go_at_call 40; exact Calls_quiet_add (eqS_same d d' e e' xs n₀ _ (hI.drewN _) (hI'.drewN _) hx1)))
      go_wp2
      go_roundw
      case rel => exact ⟨k + 1, _, by omega, by go_num, rfl⟩
      case measure => simp [intOf]; omega
    · obtain rfl : k = xss.length := by omega
      go_wp2
      go_ret
      exact ⟨rfl, n, rfl⟩

end Go.Proofs.Ytofpjepndhpciaa

namespace Go.Proofs.Ytofpjepndhpciaa
open Go.RowKit Go.Shelf

/-- ONE ROW OF A GRAPH OF n NODES. -/
def RowGood (n : Nat) (xs : List Int) : Prop := xs.length = n ∧ ∀ x ∈ xs, x = 0 ∨ x = 1
/-- A GRAPH: 1 to 9 rows of noughts and ones, each as long as there are rows. -/
def Good (xss : List (List Int)) : Prop := 1 ≤ xss.length ∧ xss.length ≤ 9 ∧ ∀ xs ∈ xss, RowGood xss.length xs
def gOk (xss : List (List Int)) : Bool := decide (1 ≤ xss.length) && (decide (xss.length ≤ 9) && xss.all fun xs => decide (xs.length = xss.length) && xs.all fun x => decide (x = 0 ∨ x = 1))
theorem gOk_iff (xss : List (List Int)) : gOk xss = true ↔ Good xss := by simp [gOk, Good, RowGood]
theorem gOk_true {xss : List (List Int)} (h : Good xss) : gOk xss = true := (gOk_iff xss).2 h
theorem good_of {xss : List (List Int)} (h : gOk xss = true) : Good xss := (gOk_iff xss).1 h
theorem gOk_false {xss : List (List Int)} (h : ¬ Good xss) : gOk xss = false := Bool.eq_false_iff.2 fun e => h (good_of e)
theorem not_good_of {xss : List (List Int)} (h : gOk xss = false) : ¬ Good xss := fun g => by rw [gOk_true g] at h; cases h
theorem gOk_row {xss : List (List Int)} {k : Nat} {xs : List Int} (hk : xss[k]? = some xs) (h : ¬ RowGood xss.length xs) : gOk xss = false :=
  gOk_false fun g => h (g.2.2 xs (List.mem_of_getElem? hk))

theorem in_yes (x lo hi : Int) (w : World) (h1 : lo ≤ x) (h2 : x ≤ hi) :
    Calls Try.prog 49 #[.int .i64 x, .int .i64 lo, .int .i64 hi] w fun e w' => e = .returned (.bool true) ∧ w = w' := by
  go_enter Try.func49, Try.ntmps49
  go_wp2
  go_ret
  exact ⟨rfl, rfl⟩
theorem in_lo (x lo hi : Int) (w : World) (h1 : x < lo) :
    Calls Try.prog 49 #[.int .i64 x, .int .i64 lo, .int .i64 hi] w fun e w' => e = .returned (.bool false) ∧ w = w' := by
  go_enter Try.func49, Try.ntmps49
  go_wp2
  go_ret
  exact ⟨rfl, rfl⟩
theorem in_hi (x lo hi : Int) (w : World) (h0 : lo ≤ x) (h1 : hi < x) :
    Calls Try.prog 49 #[.int .i64 x, .int .i64 lo, .int .i64 hi] w fun e w' => e = .returned (.bool false) ∧ w = w' := by
  have hd : decide (x ≤ hi) = false := decide_eq_false (by omega)
  go_enter Try.func49, Try.ntmps49
  go_wp2
  go_ret
  exact ⟨rfl, rfl⟩
theorem in_any (x lo hi : Int) (w : World) :
    Calls Try.prog 49 #[.int .i64 x, .int .i64 lo, .int .i64 hi] w fun e w' => e = .returned (.bool (decide (lo ≤ x ∧ x ≤ hi))) ∧ w = w' := by
  by_cases h1 : lo ≤ x
  · by_cases h2 : x ≤ hi
    · exact (in_yes x lo hi w h1 h2).mono fun _ _ ⟨he, hw⟩ => ⟨by rw [he, decide_eq_true ⟨h1, h2⟩], hw⟩
    · exact (in_hi x lo hi w h1 (by omega)).mono fun _ _ ⟨he, hw⟩ => ⟨by rw [he, decide_eq_false (by omega)], hw⟩
  · exact (in_lo x lo hi w (by omega)).mono fun _ _ ⟨he, hw⟩ => ⟨by rw [he, decide_eq_false (by omega)], hw⟩

set_option maxHeartbeats 1000000 in
theorem specOk_any (a : Option Addr) (c : Nat) (xss : List (List Int)) (n₀ : Nat) (w : World) (hM : Mat n₀ w a xss) (hF : Fit xss) :
    Calls Try.prog 29 #[.slice a xss.length c] w fun e w' => e = .returned (.bool (gOk xss)) ∧ w = w' := by
  have HF := Lib.hid hF
  have hl := hF.1
  clear hF
  go_enter Try.func29, Try.ntmps29
  go_wp2
  go_loop [3] (fun i => ∃ k : Nat, k ≤ xss.length ∧ i = .int .i64 k ∧ Hid (∀ j xs, j < k → xss[j]? = some xs → RowGood xss.length xs)) (fun i => xss.length - (intOf i).toNat)
  case atStart => exact ⟨0, Nat.zero_le _, rfl, fun j xs h => absurd h (Nat.not_lt_zero _)⟩
  case round =>
    obtain ⟨k, hk, rfl, HR⟩ := hrel
    by_cases hlt : k < xss.length
    · obtain ⟨b, o, a', c', xs, rfl, hb, hc, hI, HX⟩ := hM.at_ hlt
      have hm := HF.out.at_ HX.out
      by_cases hx : xs.length = xss.length
      · have HE := Lib.hid hx
        have hx1 : ((xs.length : Int) == xss.length) = true := by simp [hx]
        have hx2 : ((xs.length : Int) != xss.length) = false := by simp [hx]
        clear hx
        go_wp2
        go_loop [4] (fun i => ∃ j : Nat, j ≤ xs.length ∧ i = .int .i64 j ∧ Hid (∀ m x, m < j → xs[m]? = some x → x = 0 ∨ x = 1)) (fun i => xs.length - (intOf i).toNat)
        case atStart => exact ⟨0, Nat.zero_le _, rfl, fun j xs h => absurd h (Nat.not_lt_zero _)⟩
        case round =>
          obtain ⟨j, hj, rfl, HS⟩ := hrel
          by_cases hlj : j < xs.length
          · obtain ⟨b', o', x, rfl, hb', hc', HY⟩ := hI.at_ hlj
            by_cases hx0 : 0 ≤ x ∧ x ≤ 1
            · obtain ⟨h0, h1⟩ := hx0
              go_wp2_with (go_at_call 49; refine (in_yes _ _ _ _ h0 h1).mono ?_; rintro e w' ⟨rfl, rfl⟩)
              go_round
              case rel => exact ⟨j + 1, by omega, by go_num, fun m y hm hy => by
                by_cases e : m = j
                · subst e; rw [HY.out] at hy; cases hy; omega
                · exact HS.out m y (by omega) hy⟩
              case measure => simp [intOf]; omega
            · have hxx : decide (0 ≤ x ∧ x ≤ 1) = false := decide_eq_false hx0
              go_wp2_with (go_at_call 49; refine (in_any _ _ _ _).mono ?_; rw [hxx]; rintro e w' ⟨rfl, rfl⟩)
              go_ret
              exact ⟨ret_bool (gOk_row HX.out fun g => hx0 (by rcases g.2 x (List.mem_of_getElem? HY.out) with h | h <;> omega)).symm, rfl⟩
          · obtain rfl : j = xs.length := by omega
            go_wp2
            go_round
            case rel => exact ⟨k + 1, by omega, by go_num, fun m ys hm hy => by
              by_cases e : m = k
              · subst e; rw [HX.out] at hy; cases hy
                refine ⟨HE.out, fun y hy => ?_⟩
                obtain ⟨i, hi, rfl⟩ := List.mem_iff_getElem.1 hy
                exact HS.out i _ hi (List.getElem?_eq_getElem hi)
              · exact HR.out m ys (by omega) hy⟩
            case measure => simp [intOf]; omega
      · have hx2 : ((xs.length : Int) != xss.length) = true := by simp; omega
        go_wp2
        go_ret
        exact ⟨ret_bool (gOk_row HX.out fun g => hx g.1).symm, rfl⟩
    · obtain rfl : k = xss.length := by omega
      go_wp2_with (go_at_call 49; refine (in_any _ _ _ _).mono ?_; rintro e w' ⟨rfl, rfl⟩)
      go_ret
      refine ⟨ret_bool ?_, rfl⟩
      by_cases hg : 1 ≤ xss.length ∧ xss.length ≤ 9
      · have hG : Good xss := ⟨hg.1, hg.2, fun xs hxs => by
          obtain ⟨j, hj, rfl⟩ := List.mem_iff_getElem.1 hxs
          exact HR.out j _ hj (List.getElem?_eq_getElem hj)⟩
        rw [gOk_true hG]
        simp only [Bool.and_eq_true, decide_eq_true_eq]; omega
      · rw [gOk_false fun g => hg ⟨g.1, g.2.1⟩]
        simp only [Bool.and_eq_false_iff, decide_eq_false_iff_not]; omega

end Go.Proofs.Ytofpjepndhpciaa

namespace Go.Proofs.Ytofpjepndhpciaa
open Go.RowKit Go.Shelf

attribute [local go_sem] Oper.semAt_some

/-- ALL PAIRS, in the order of rows. -/
def PL (m : Nat) : List (Fin m × Fin m) := List.ofFn fun k : Fin (m * m) =>
  (⟨k.1 / m, Nat.div_lt_of_lt_mul k.2⟩, ⟨k.1 % m, Nat.mod_lt _ (Nat.pos_of_ne_zero fun e => by have := k.2; subst e; simp at this)⟩)
theorem PL_length (m : Nat) : (PL m).length = m * m := by simp [PL]
theorem PL_lt {m i j : Nat} (hi : i < m) (hj : j < m) : i * m + j < m * m := by
  have h1 : (i + 1) * m ≤ m * m := Nat.mul_le_mul_right m hi
  rw [Nat.add_mul] at h1; omega
theorem PL_get {m i j : Nat} (hi : i < m) (hj : j < m) : (PL m)[i * m + j]? = some (⟨i, hi⟩, ⟨j, hj⟩) := by
  have hlt := PL_lt hi hj
  have h1 : (i * m + j) / m = i := by rw [Nat.mul_comm, Nat.mul_add_div (by omega)]; simp [Nat.div_eq_of_lt hj]
  have h2 : (i * m + j) % m = j := by rw [Nat.mul_comm, Nat.mul_add_mod]; exact Nat.mod_eq_of_lt hj
  rw [List.getElem?_eq_getElem (by rw [PL_length]; exact hlt)]
  simp only [PL, List.getElem_ofFn, h1, h2]
theorem PL_take {m i j : Nat} (hi : i < m) (hj : j < m) : (PL m).take (i * m + j) ++ [(⟨i, hi⟩, ⟨j, hj⟩)] = (PL m).take (i * m + (j + 1)) := by
  have hlt : i * m + j < (PL m).length := by rw [PL_length]; exact PL_lt hi hj
  have e := PL_get hi hj
  rw [List.getElem?_eq_getElem hlt] at e
  rw [← Nat.add_assoc, List.take_succ_eq_append_getElem hlt, Option.some.inj e]
theorem PL_all {m : Nat} (x : Fin m × Fin m) : x ∈ PL m := List.mem_of_getElem? (PL_get x.1.2 x.2.2)

abbrev encP {m : Nat} (x : Fin m × Fin m) : Array Value := #[.int .i64 (x.1.1 : Int), .int .i64 (x.2.1 : Int)]

set_option maxHeartbeats 1000000 in
theorem pairs_in (F : Fence) (n : Nat) (hF : ∀ k, F.fn k) (hro : F.round = none) (m : Int) (w : World) :
    CallsIn F n Try.prog 53 #[.int .i64 m] w fun e w' => e = .returned (.func (.func 58) #[] #[.pointer (some ⟨w.heap.size, 0, none⟩)]) ∧ w' = w.alloc (.cells #[.int .i64 m] 3) := by
  have h0 := hF 53
  clear hF
  refine callsIn_of_wp Try.func53 rfl h0 ?_ hro
  simp only [Try.ntmps53, List.size_toArray, List.length_cons, List.length_nil, Nat.reduceAdd, Nat.reduceSub, Array.replicate_succ, Array.replicate_zero, List.push_toArray, List.append_toArray, List.nil_append, List.cons_append]
  gi_wp2
  go_ret
  exact ⟨rfl, rfl⟩

set_option maxRecDepth 100000 in
set_option maxHeartbeats 2000000 in
theorem pairs1_in (F : Fence) (n : Nat) (hF : ∀ k, F.fn k) (hro : F.round = none) (hn : 1 ≤ n) (l B m : Nat) (hm : m ≤ 1048576) (Kp : World → World → Prop)
    (hKp : ∀ W W', Kp W W' → Boxed W B 3 (.int .i64 m) → Boxed W' B 3 (.int .i64 m)) (J Jx : List (Fin m × Fin m) → World → Prop)
    (hY : ∀ pre x W, J pre W → pre.length < m * m → YieldAt F (n - 1) Try.prog l (encP x) W fun e W' =>
      (e = .returned (.bool true) ∧ J (pre ++ [x]) W' ∧ Kp W W') ∨ (e = .returned (.bool false) ∧ Jx (pre ++ [x]) W'))
    (W : World) (hB : Boxed W B 3 (.int .i64 m)) (h0 : J [] W) :
    CallsIn F n Try.prog 58 #[.func (.yield l) #[] #[], .pointer (some ⟨B, 0, none⟩)] W fun e W' => (∃ v, e = .returned v) ∧
      ((∃ ys, ys = PL m ∧ J ys W') ∨ (∃ pre, pre <+: PL m ∧ Jx pre W')) := by
  have hf := hF 58
  clear hF
  refine callsIn_of_wp Try.func58 rfl hf ?_ hro
  simp only [Try.ntmps58, List.size_toArray, List.length_cons, List.length_nil, Nat.reduceAdd, Nat.reduceSub, Array.replicate_succ, Array.replicate_zero, List.push_toArray, List.append_toArray, List.nil_append, List.cons_append]
  have hc := hB.cell
  gi_wp2
  clear hc
  gi_loopw [6] (fun i wr => ∃ k : Nat, k ≤ m ∧ i = .int .i64 k ∧ Hid (J ((PL m).take (k * m)) wr) ∧ Boxed wr B 3 (.int .i64 m)) (fun i _ => m - (intOf i).toNat)
  case atStart => exact ⟨0, Nat.zero_le _, rfl, Lib.hid (by simpa using h0), hB⟩
  case round =>
    obtain ⟨k, hk, rfl, HJ, hBr⟩ := hrel
    by_cases hlt : k < m
    · have hc := hBr.cell
      gi_wp2
      clear hc
      gi_loopw [10] (fun i wi => ∃ j : Nat, j ≤ m ∧ i = .int .i64 j ∧ Hid (J ((PL m).take (k * m + j)) wi) ∧ Boxed wi B 3 (.int .i64 m)) (fun i _ => m - (intOf i).toNat)
      case atStart => exact ⟨0, Nat.zero_le _, rfl, Lib.hid (by simpa using HJ.out), hBr⟩
      case round =>
        obtain ⟨j, hj, rfl, HJ2, hBi⟩ := hrel
        by_cases hltj : j < m
        · obtain ⟨fn, tmps, assign, body, hy, hR⟩ := hY _ (⟨k, hlt⟩, ⟨j, hltj⟩) _ HJ2.out (by rw [List.length_take]; have := PL_lt hlt hltj; omega)
          dsimp only [encP] at hy
          gi_wp2
          refine hR.mono ?_
          rintro e W3 (⟨rfl, hJ3, hk3⟩ | ⟨rfl, hJx3⟩)
          · have hB3 := hKp _ _ hk3 hBi
            have HJ3 := Lib.hid hJ3
            clear hJ3 hk3
            gi_wp2
            go_roundw
            case rel => exact ⟨j + 1, by omega, by go_num, Lib.hid (by rw [← PL_take hlt hltj]; exact HJ3.out), hB3⟩
            case measure => simp [intOf]; omega
          · gi_wp2
            refine bodyPost_ret (results_none rfl _ _ _) rfl ?_
            exact ⟨⟨_, rfl⟩, .inr ⟨_, by rw [PL_take hlt hltj]; exact List.take_prefix _ _, hJx3⟩⟩
        · obtain rfl : j = m := by omega
          gi_wp2
          go_roundw
          case rel => exact ⟨k + 1, by omega, by go_num, Lib.hid (by rw [Nat.add_mul, Nat.one_mul]; exact HJ2.out), hBi⟩
          case measure => simp [intOf]; omega
    · obtain rfl : k = m := by omega
      gi_wp2
      go_end0
      exact ⟨⟨_, rfl⟩, .inl ⟨_, by rw [List.take_of_length_le (by rw [PL_length]; exact Nat.le_refl _)], HJ.out⟩⟩

theorem pairs_stops (F : Fence) (n : Nat) (hF : ∀ k, F.fn k) (hro : F.round = none) (hn : 1 ≤ n) (B m : Nat) (hm : m ≤ 1048576) (Kp : World → World → Prop)
    (hKp : ∀ W W', Kp W W' → Boxed W B 3 (.int .i64 m) → Boxed W' B 3 (.int .i64 m)) (w : World) (hB : Boxed w B 3 (.int .i64 m)) :
    SeqStopsK F n Try.prog 58 #[.pointer (some ⟨B, 0, none⟩)] (encP (m := m)) Kp (fun ys => ys = PL m) (fun pre => pre <+: PL m) (m * m) w := fun l J Jx W hW _ _ hY h0 =>
  pairs1_in F n hF hro hn l B m hm Kp hKp J Jx hY W ((hW.block B hB.lt).trans hB) h0

end Go.Proofs.Ytofpjepndhpciaa

namespace Go.Proofs.Ytofpjepndhpciaa
open Go.RowKit Go.Shelf

attribute [local go_sem] Oper.semAt_some

/-- WHAT A ROUND KEEPS: a box that lies there. -/
def KBox (B : Nat) (t : TypeId) (v : Value) (W W' : World) : Prop := Boxed W B t v → Boxed W' B t v
theorem KBox.t {B : Nat} {t : TypeId} {v : Value} {X Y Z : World} (h : KBox B t v X Y) (k : KBox B t v Y Z) : KBox B t v X Z := fun b => k (h b)
theorem KBox.b {B : Nat} {t : TypeId} {v : Value} (W : World) (l : Nat) (o o' : Obj) (h : W.heap[l]? = some o) (hc : o.isCells = false) : KBox B t v W (W.putObj l o') := fun b =>
  b.kept (grownBy_putObj' W l o') (fun e => by cases e; rw [show W.heap[B]? = _ from b] at h; cases h; cases hc)

set_option maxHeartbeats 1000000 in
theorem nodes_in (F : Fence) (n : Nat) (hF : ∀ k, F.fn k) (hro : F.round = none) (a : Option Addr) (m c : Nat) (w : World) :
    CallsIn F n Try.prog 52 #[.agg #[.slice a m c]] w fun e w' => e = .returned (.int .i64 m) ∧ w' = w.alloc (.cells #[.slice a m c] 51) := by
  have h0 := hF 52
  clear hF
  refine callsIn_of_wp Try.func52 rfl h0 ?_ hro
  simp only [Try.ntmps52, List.size_toArray, List.length_cons, List.length_nil, Nat.reduceAdd, Nat.reduceSub, Array.replicate_succ, Array.replicate_zero, List.push_toArray, List.append_toArray, List.nil_append, List.cons_append]
  gi_wp2
  go_ret
  exact ⟨rfl, rfl⟩

/-- THE NUMBER in row i at place j. -/
def ent (xss : List (List Int)) (i j : Nat) : Int := ((xss[i]?.getD [])[j]?).getD 0
theorem ent_eq {xss : List (List Int)} {i j : Nat} {xs : List Int} {v : Int} (h : xss[i]? = some xs) (k : xs[j]? = some v) : ent xss i j = v := by simp [ent, h, k]
theorem good_iff_ent {xss : List (List Int)} (h1 : 1 ≤ xss.length) (h9 : xss.length ≤ 9) (hl : ∀ (i : Nat) (xs : List Int), xss[i]? = some xs → xs.length = xss.length) :
    Good xss ↔ ∀ x : Fin xss.length × Fin xss.length, ent xss x.1.1 x.2.1 = 0 ∨ ent xss x.1.1 x.2.1 = 1 := by
  constructor
  · intro g x
    have e1 := List.getElem?_eq_getElem x.1.2
    have hx := hl _ _ e1
    have e2 := List.getElem?_eq_getElem (l := xss[x.1.1]) (i := x.2.1) (by rw [hx]; exact x.2.2)
    rw [ent_eq e1 e2]
    exact (g.2.2 _ (List.mem_of_getElem? e1)).2 _ (List.mem_of_getElem? e2)
  · intro g
    refine ⟨h1, h9, fun xs hxs => ?_⟩
    obtain ⟨i, hi, rfl⟩ := List.mem_iff_getElem.1 hxs
    have e1 := List.getElem?_eq_getElem hi
    refine ⟨hl _ _ e1, fun v hv => ?_⟩
    obtain ⟨j, hj, rfl⟩ := List.mem_iff_getElem.1 hv
    have e2 := List.getElem?_eq_getElem hj
    have := g (⟨i, hi⟩, ⟨j, by rw [← hl _ _ e1]; exact hj⟩)
    rw [ent_eq e1 e2] at this
    exact this

/-- THE ANSWER IS v; WHATEVER LAY BELOW LIES AS IT LAY. -/
def Ans (v : Value) (w : World) (e : Ending) (w' : World) : Prop := e = .returned v ∧ Below w.heap.size w w'

set_option maxRecDepth 100000 in
set_option maxHeartbeats 4000000 in
theorem ok_in (F : Fence) (n : Nat) (hF : ∀ k, F.fn k) (hro : F.round = none) (hn : 6 ≤ n) (a : Option Addr) (c : Nat) (xss : List (List Int)) (w : World) (hM : Mat w.heap.size w a xss) (hf : Fit xss) :
    CallsIn F n Try.prog 33 #[.agg #[.slice a xss.length c]] w (Ans (.bool (gOk xss)) w) := by
  have h1 : 1 ≤ n := by omega
  have hl := hf.1
  have HF := Lib.hid hf
  clear hf
  have h0 := hF 33
  have hf1 := hF 52
  have hf2 := hF 53
  have hf3 := hF 58
  have HFn := Lib.hid hF
  clear hF
  refine callsIn_of_wp_marks Try.func33 rfl h0 ?_ hro
  simp only [Try.ntmps33, List.size_toArray, List.length_cons, List.length_nil, Nat.reduceAdd, Nat.reduceSub, Array.replicate_succ, Array.replicate_zero, List.push_toArray, List.append_toArray, List.nil_append, List.cons_append]
  have hs0 : ∀ o1 o2 : Obj, ((w.alloc o1).alloc o2).heap.size = w.heap.size + 1 + 1 := by simp
  by_cases hlo : xss.length < 1
  · gi_wp2_with (gi_at_call 52; refine (nodes_in F (n - 1) HFn.out hro _ _ _ _).mono ?_; rintro e w' ⟨rfl, rfl⟩)
    refine ⟨.bool false, by simp [results, Try.f33, go_sem], ret_bool (gOk_false fun g => by have := g.1; omega).symm, ?_⟩
    exact ((((Below.refl _ _).alloc (Nat.le_refl _) _).alloc (by simp) _).alloc (by simp; omega) _)
  by_cases hhi : 9 < xss.length
  · gi_wp2_with (gi_at_call 52; refine (nodes_in F (n - 1) HFn.out hro _ _ _ _).mono ?_; rintro e w' ⟨rfl, rfl⟩)
    refine ⟨.bool false, by simp [results, Try.f33, go_sem], ret_bool (gOk_false fun g => by have := g.2.1; omega).symm, ?_⟩
    exact (((((Below.refl _ _).alloc (Nat.le_refl _) _).alloc (by simp) _).alloc (by simp; omega) _).alloc (by simp; omega) _)
  have hle : xss.length ≤ 9 := by omega
  have hge : 1 ≤ xss.length := by omega
  clear hlo hhi
  have bG := (((Boxed.new w 51 (.slice a xss.length c)).alloc (.cells #[.bool false] 4)).alloc (.cells #[.slice a xss.length c] 51)).alloc (.cells #[.slice a xss.length c] 51)
  have bR := ((Boxed.new (w.alloc (.cells #[.slice a xss.length c] 51)) 4 (.bool false)).alloc (.cells #[.slice a xss.length c] 51)).alloc (.cells #[.slice a xss.length c] 51)
  have hB0 := ((((Below.refl w.heap.size w).alloc (Nat.le_refl _) (.cells #[.slice a xss.length c] 51)).alloc (by simp) (.cells #[.bool false] 4)).alloc (by simp; omega) (.cells #[.slice a xss.length c] 51)).alloc (by simp; omega) (.cells #[.slice a xss.length c] 51)
  simp only [World.size_alloc] at bR
  gi_wp2_with (gi_at_call 52; refine (nodes_in F (n - 1) HFn.out hro _ _ _ _).mono ?_; rintro e w' ⟨rfl, rfl⟩)
  gi_loopw [19] (fun i wr => ∃ k : Nat, k ≤ xss.length ∧ i = .int .i64 k ∧ Boxed wr w.heap.size 51 (.slice a xss.length c) ∧ Boxed wr (w.heap.size + 1) 4 (.bool false) ∧ Below w.heap.size w wr ∧ Hid (∀ j xs, j < k → xss[j]? = some xs → xs.length = xss.length))
    (fun i _ => xss.length - (intOf i).toNat)
  case atStart => exact ⟨0, Nat.zero_le _, rfl, bG, bR, hB0, fun j xs h => absurd h (Nat.not_lt_zero _)⟩
  case round =>
    obtain ⟨k, hk, rfl, bG1, bR1, hB1, HR⟩ := hrel
    clear bG bR hB0 hs0
    have cG := bG1.cell
    have cR := bR1.cell
    have fR := bR1.frozen
    by_cases hlt : k < xss.length
    · obtain ⟨b, o, a', c', xs, rfl, hb, hc0, hI, HX⟩ := hM.at_ hlt
      have hc : wr.cell? ⟨b, o + k, none⟩ = some (.slice a' xs.length c') := (hB1.cell (p := ⟨b, o + k, none⟩) hb).trans hc0
      clear hc0
      have hxl := HF.out.at_ HX.out
      by_cases hx : xs.length = xss.length
      · have hx2 : ((xs.length : Int) != xss.length) = false := by simp [hx]
        have HE := Lib.hid hx
        clear hx
        gi_wp2_with (gi_at_call 52; refine (nodes_in F (n - 1) HFn.out hro _ _ _ _).mono ?_; rintro e w' ⟨rfl, rfl⟩)
        go_roundw
        case rel => exact ⟨k + 1, by omega, by go_num, bG1.alloc _, bR1.alloc _, hB1.alloc hB1.size _, fun j ys hj hy => by
          by_cases e : j = k
          · subst e; rw [HX.out] at hy; cases hy; exact HE.out
          · exact HR.out j ys (by omega) hy⟩
        case measure => simp [intOf]; omega
      · have hx2 : ((xs.length : Int) != xss.length) = true := by simp; omega
        have fR' := fun o : Obj => (bR1.alloc o).frozen
        have cR'' := fun o : Obj => (bR1.alloc o).cell
        gi_wp2_with (gi_at_call 52; refine (nodes_in F (n - 1) HFn.out hro _ _ _ _).mono ?_; rintro e w' ⟨rfl, rfl⟩)
        have cR' := ((bR1.alloc (.cells #[.slice (some ⟨b, o, none⟩) xss.length c] 51)).set (.bool false)).cell
        refine ⟨.bool false, by simp [results, Try.f33, go_sem, cR'], ret_bool (gOk_row HX.out fun g => hx g.1).symm, ?_⟩
        exact (hB1.alloc hB1.size _).setCell (p := ⟨w.heap.size + 1, 0, none⟩) (Nat.le_succ _) _
    · obtain rfl : k = xss.length := by omega
      have hlen : ∀ (i : Nat) (xs : List Int), xss[i]? = some xs → xs.length = xss.length := fun i xs hi => HR.out i xs (List.getElem?_eq_some_iff.1 hi).1 hi
      have HL := Lib.hid hlen
      clear hlen HR
      gi_wp2_with (first | (gi_at_call 52; refine (nodes_in F (n - 1) HFn.out hro _ _ _ _).mono ?_; rintro e w' ⟨rfl, rfl⟩) | (gi_at_call 53; refine (pairs_in F (n - 1) HFn.out hro _ _).mono ?_; rintro e w' ⟨rfl, rfl⟩))
      have hwN : w.heap.size + 1 < wr.heap.size := bR1.lt
      have bP := Boxed.new (wr.alloc (.cells #[.slice a xss.length c] 51)) 3 (.int .i64 xss.length)
      have bG2 := (bG1.alloc (.cells #[.slice a xss.length c] 51)).alloc (.cells #[.int .i64 xss.length] 3)
      have bR2 := (bR1.alloc (.cells #[.slice a xss.length c] 51)).alloc (.cells #[.int .i64 xss.length] 3)
      have hB2 := (hB1.alloc hB1.size (.cells #[.slice a xss.length c] 51)).alloc (by simp; omega) (.cells #[.int .i64 xss.length] 3)
      rw [World.size_alloc] at bP
      clear bG1 bR1 hB1 cG cR fR
      refine wpIn_rangeFunc_ownG hro h1 (gf := 58) (lb := #[.pointer (some ⟨wr.heap.size + 1, 0, none⟩)]) rfl hf3 (enters_of Try.func58 (by kernel_rfl) rfl)
        (pairs_stops F (n - 1) HFn.out hro (by omega) (wr.heap.size + 1) xss.length hl (KBox (wr.heap.size + 1) 3 (.int .i64 xss.length)) (fun _ _ k b => k b) _ bP) (fun h k => KBox.t h k) (fun W l o o' _ h hc _ => KBox.b W l o o' h hc) (Below.refl _ _) (fun _ => rfl)
        (fun pre W => ((Boxed W w.heap.size 51 (.slice a xss.length c) ∧ Boxed W (w.heap.size + 1) 4 (.bool false)) ∧ Hid (∀ x ∈ pre, ent xss x.1.1 x.2.1 = 0 ∨ ent xss x.1.1 x.2.1 = 1)) ∧ Below w.heap.size w W)
        (fun c' pre W => ((c' = .ret ∧ Hid (¬ Good xss)) ∧ Boxed W (w.heap.size + 1) 4 (.bool false)) ∧ Below w.heap.size w W)
        (OwnFrom.and (OwnFrom.and (OwnFrom.and (Own.from (boxed_own _ _ _) _) (Own.from (boxed_own _ _ _) _)) (ownFrom_pure _ _)) (ownFrom_below (Nat.le_refl _) (by simp; omega)))
        (fun c' => OwnFrom.and (OwnFrom.and (ownFrom_pure _ _) (Own.from (boxed_own _ _ _) _)) (ownFrom_below (Nat.le_refl _) (by simp; omega)))
        ⟨⟨⟨bG2, bR2⟩, fun x hx => absurd hx (by simp)⟩, hB2⟩ ?a1 ?assign ?body ?done ?stop
      case assign =>
        intro l x W K hK
        gi_wp2
        exact hK
      case body =>
        rintro l pre ⟨⟨i, hi⟩, ⟨j, hj⟩⟩ W ⟨⟨⟨bG3, bR3⟩, HP⟩, hB3⟩ _
        obtain ⟨b, o, a', c', xs, rfl, hb, hc0, hI, HX⟩ := hM.at_ hi
        have hxl := HL.out _ _ HX.out
        obtain ⟨b', o', v, rfl, hb', hd0, HY⟩ := hI.at_ (k := j) (by rw [hxl]; exact hj)
        have HXL := Lib.hid hxl
        have hj2 : j < xs.length := by rw [hxl]; exact hj
        clear hxl
        have hc : W.cell? ⟨b, o + i, none⟩ = some (.slice (some ⟨b', o', none⟩) xs.length c') := (hB3.cell (p := ⟨b, o + i, none⟩) hb).trans hc0
        have hd : W.cell? ⟨b', o' + j, none⟩ = some (.int .i64 v) := (hB3.cell (p := ⟨b', o' + j, none⟩) hb').trans hd0
        clear hc0 hd0
        have cG := bG3.cell
        have cR := bR3.cell
        have fR := bR3.frozen
        have HV := Lib.hid (ent_eq HX.out HY.out)
        by_cases hv : v = 0 ∨ v = 1
        · have HP' : Hid (∀ x ∈ pre ++ [((⟨i, hi⟩ : Fin xss.length), (⟨j, hj⟩ : Fin xss.length))], ent xss x.1.1 x.2.1 = 0 ∨ ent xss x.1.1 x.2.1 = 1) := fun x hx => by
            rcases List.mem_append.1 hx with h | h
            · exact HP.out x h
            · simp only [List.mem_singleton] at h; subst h; rw [HV.out]; exact hv
          rcases hv with rfl | rfl
          all_goals
            gi_wp2
            exact ⟨KeepsFrom.refl _ _, fun b => b, ⟨⟨bG3, bR3⟩, HP'⟩, hB3⟩
        · have hv0 : (v != 0) = true := by simp; omega
          have hv1 : (v != 1) = true := by simp; omega
          have HNG : Hid (¬ Good xss) := fun g => hv (by
            have := (good_iff_ent hge hle HL.out).1 g (⟨i, hi⟩, ⟨j, hj⟩)
            rw [HV.out] at this; exact this)
          clear hv
          gi_wp2
          exact ⟨(KeepsOthers.setCell _ _ _).from _, ⟨⟨rfl, HNG⟩, bR3.set _⟩, hB3.setCell (p := ⟨w.heap.size + 1, 0, none⟩) (by simp) _⟩
      case done =>
        rintro D ys W hD rfl ⟨⟨⟨bG3, bR3⟩, HP⟩, hB3⟩ hK
        have cR := bR3.cell
        have fR := bR3.frozen
        gi_wp2
        have hK' := (KeepsOthers.setCell W ⟨w.heap.size + 1, 0, none⟩ (.bool true)).same D _ hK rfl
        refine ⟨by simp, .inl ⟨_, _, rfl, run_takeDeferred hK', ?_⟩⟩
        have hc5 := cell_kept (bR3.set (.bool true)).cell (grownBy_putObj' _ D (.deferred none)) (fun r e => by cases e; exact ⟨_, hK', rfl⟩)
        simp at hD
        refine ⟨.bool true, ?_, ret_bool (gOk_true ((good_iff_ent hge hle HL.out).2 fun x => HP.out x (PL_all x))).symm, (hB3.setCell (p := ⟨w.heap.size + 1, 0, none⟩) (by simp) _).trans (belowK_b (w := w) (Nat.le_refl _) _ D _ _ (by omega) hK' rfl rfl)⟩
        simp [results, Try.f33, go_sem, hc5]
      case stop =>
        rintro D c' pre W hD hpre ⟨⟨⟨rfl, HN⟩, bR3⟩, hB3⟩ hK
        gi_wp2
        refine ⟨by simp, .inl ⟨_, _, rfl, run_takeDeferred hK, ?_⟩⟩
        have hc5 := cell_kept bR3.cell (grownBy_putObj' _ D (.deferred none)) (fun r e => by cases e; exact ⟨_, hK, rfl⟩)
        simp at hD
        refine ⟨.bool false, ?_, ret_bool (gOk_false HN.out).symm, hB3.trans (belowK_b (w := w) (Nat.le_refl _) W D _ _ (by omega) hK rfl rfl)⟩
        simp [results, Try.f33, go_sem, hc5]

set_option maxHeartbeats 1000000 in
theorem implOk_in (F : Fence) (n : Nat) (hF : ∀ k, F.fn k) (hro : F.round = none) (hn : 7 ≤ n) (a : Option Addr) (c : Nat) (xss : List (List Int)) (w : World) (hM : Mat w.heap.size w a xss) (hf : Fit xss) :
    CallsIn F n Try.prog 16 #[.slice a xss.length c] w (Ans (.bool (gOk xss)) w) := by
  have hl := hf.1
  have HF := Lib.hid hf
  clear hf
  have h0 := hF 16
  have h1 := hF 33
  have hn1 : 1 ≤ n := by omega
  have HFn := Lib.hid hF
  clear hF
  refine callsIn_of_wp Try.func16 rfl h0 ?_ hro
  simp only [Try.ntmps16, List.size_toArray, List.length_cons, List.length_nil, Nat.reduceAdd, Nat.reduceSub, Array.replicate_succ, Array.replicate_zero, List.push_toArray, List.append_toArray, List.nil_append, List.cons_append]
  gi_wp2_with (gi_at_call 33; refine (ok_in F (n - 1) HFn.out hro (by omega) _ _ _ _ hM HF.out).mono ?_; rintro e w' ⟨rfl, hB⟩)
  go_ret
  exact ⟨rfl, hB⟩

theorem implOk (a : Option Addr) (c : Nat) (xss : List (List Int)) (w : World) (hM : Mat w.heap.size w a xss) (hf : Fit xss) :
    Calls Try.prog 16 #[.slice a xss.length c] w (Ans (.bool (gOk xss)) w) :=
  callsIn_wide.1 (implOk_in Fence.wide 20 (fun _ => trivial) rfl (by omega) a c xss w hM hf)

end Go.Proofs.Ytofpjepndhpciaa
