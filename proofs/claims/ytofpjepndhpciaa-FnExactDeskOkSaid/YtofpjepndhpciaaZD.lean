/-
  Several texts in one.
  The reader of a code (spec.l20Rd): one number is drawn. What the laws' own draws rest on.
  Rows of whatever integers that a call makes for itself: what the draws of graphs rest on.
  spec.l20Open, spec.l20Graph: a graph is drawn, or what is none.
-/
import Derived.Test.YtofpjepndhpciaaZA
import Derived.Deep.Draws
import Derived.Deep.AppendLies
import Derived.Maps.AppendAt
import Derived.Lib.SmallJoins
namespace Go.Proofs.Ytofpjepndhpciaa
open Go.RowKit Go.Shelf

theorem xor_i64_nat (a b : Nat) (ha : a < 4611686018427387904) (hb : b < 4611686018427387904) : bits .xor .i64 (a : Int) (b : Int) = ((a ^^^ b : Nat) : Int) := by
  show IntKind.i64.wrap ((BitVec.ofInt 64 (a : Int) ^^^ BitVec.ofInt 64 (b : Int)).toNat : Int) = _
  rw [BitVec.toNat_xor, ofInt_u64 a (by omega), ofInt_u64 b (by omega)]
  have h1 : a ^^^ b < 2 ^ 62 := Nat.xor_lt_two_pow (by omega) (by omega)
  simp [IntKind.wrap, IntKind.bits, IntKind.signed]
  omega

theorem xor_nn (X : Int) (h0 : 0 ≤ X) (h1 : X ≤ 4000000000000000000) : 0 ≤ bits .xor .i64 X (X / 64) := by
  obtain ⟨k, rfl⟩ := Int.eq_ofNat_of_zero_le h0
  have e : ((k : Int) / 64) = ((k / 64 : Nat) : Int) := by omega
  rw [e, xor_i64_nat k (k / 64) (by omega) (by omega)]
  omega

/-- THE BYTES that a code holds: n of them from a on, in a block below n₀. -/
def Bytes (n₀ : Nat) (W : World) (a : Option Addr) (n : Nat) : Prop :=
  0 < n → ∃ b o, a = some ⟨b, o, none⟩ ∧ b < n₀ ∧ ∀ j, j < n → ∃ v : Int, W.cell? ⟨b, o + j, none⟩ = some (.int .u8 v) ∧ 0 ≤ v ∧ v ≤ 255
theorem Bytes.keep {n₀ n : Nat} {A B : World} {a : Option Addr} (h : Bytes n₀ A a n) (hk : ∀ p : Addr, p.block < n₀ → B.cell? p = A.cell? p) : Bytes n₀ B a n := fun hn => by
  obtain ⟨b, o, e, hb, hc⟩ := h hn
  refine ⟨b, o, e, hb, fun j hj => ?_⟩
  obtain ⟨v, h1, h2⟩ := hc j hj
  exact ⟨v, (hk ⟨b, o + j, none⟩ hb).trans h1, h2⟩

/-- THE READER lies in block B: its code, and a place of at most N. -/
def Rd (n₀ B : Nat) (W : World) (N : Nat) : Prop :=
  ∃ (a : Option Addr) (n c p : Nat), W.heap[B]? = some (.cells #[.slice a n c, .int .i64 (p : Int)] 65 (0, 0)) ∧ n ≤ 2000 ∧ p ≤ N ∧ n₀ ≤ B ∧ Bytes n₀ W a n
theorem Rd.lt {n₀ B N : Nat} {W : World} (h : Rd n₀ B W N) : B < W.heap.size := by
  obtain ⟨a, n, c, p, h1, _⟩ := h
  exact (Array.getElem?_eq_some_iff.1 h1).1
theorem Rd.more {n₀ B N N' : Nat} {W : World} (h : Rd n₀ B W N) (hN : N ≤ N') : Rd n₀ B W N' := by
  obtain ⟨a, n, c, p, h1, h2, h3, h4⟩ := h
  exact ⟨a, n, c, p, h1, h2, by omega, h4⟩
theorem Rd.keep {n₀ B N : Nat} {W W' : World} (h : Rd n₀ B W N) {row : Option Nat} (hg : W.grownBy W' row) (hr : ∀ r, row = some r → B < r) : Rd n₀ B W' N := by
  have hlt := h.lt
  obtain ⟨a, n, c, p, h1, h2, h3, h4, h5⟩ := h
  refine ⟨a, n, c, p, (hg.block B hlt (fun e => by have := hr B e.symm; omega)).trans h1, h2, h3, h4, h5.keep fun q hq => World.cell?_of_block (hg.block q.block (by omega) (fun e => by have := hr _ e.symm; omega))⟩

/-- A NUMBER IS DRAWN: x in 0 .. m - 1; nothing but the reader's place has turned. -/
def Drawn (n₀ B N : Nat) (m : Int) (w : World) (e : Ending) (w' : World) : Prop :=
  ∃ x : Int, (e = .returned (.int .i64 x) ∧ 0 ≤ x ∧ (1 ≤ m → x < m) ∧ (m < 1 → x = 0)) ∧ Rd n₀ B w' (N + 1) ∧ w.grownBy w' (some B) ∧ w'.heap.size = w.heap.size

theorem rd_cells {B : Nat} {W : World} {a : Option Addr} {n c p : Nat} (h : W.heap[B]? = some (.cells #[.slice a n c, .int .i64 (p : Int)] 65 (0, 0))) :
    W.cell? ⟨B, 0, none⟩ = some (.slice a n c) ∧ W.cell? ⟨B, 1, none⟩ = some (.int .i64 (p : Int)) ∧ (∀ i, W.frozen? ⟨B, i, none⟩ = false) := by
  refine ⟨by simp [World.cell?, h], by simp [World.cell?, h], fun i => by simp [World.frozen?, h]⟩

theorem drawn_mk {n₀ B N : Nat} {w : World} {a : Option Addr} {n c p : Nat} (h : w.heap[B]? = some (.cells #[.slice a n c, .int .i64 (p : Int)] 65 (0, 0))) (hn : n ≤ 2000) (hp : p ≤ N) (hb : n₀ ≤ B) (hy : Bytes n₀ w a n) (k : Nat) :
    Rd n₀ B ((w.setCell ⟨B, 1, none⟩ (.int .i64 ((p : Int) + 1))).drewN k) (N + 1) ∧ w.grownBy ((w.setCell ⟨B, 1, none⟩ (.int .i64 ((p : Int) + 1))).drewN k) (some B) ∧ ((w.setCell ⟨B, 1, none⟩ (.int .i64 ((p : Int) + 1))).drewN k).heap.size = w.heap.size := by
  have hg : w.grownBy (w.setCell ⟨B, 1, none⟩ (.int .i64 ((p : Int) + 1))) (some B) :=
    ⟨rfl, rfl, rfl, by simp, fun i hi hne => Below.heap_setCell w ⟨B, 1, none⟩ _ i (fun e => hne (by rw [e]))⟩
  refine ⟨⟨a, n, c, p + 1, ?_, hn, by omega, hb, hy.keep fun q hq => hg.cell_far q ?_ ?_⟩, ⟨hg.os, hg.tape, hg.output, hg.size, hg.block⟩, by simp⟩
  · show (w.heap.modify B _)[B]? = _
    simp [Array.getElem?_modify, h]
  · have := (Array.getElem?_eq_some_iff.1 h).1; omega
  · intro e; cases e; omega

set_option maxRecDepth 100000 in
set_option maxHeartbeats 2000000 in
theorem pick_zero (n₀ B N : Nat) (m : Int) (w : World) (hR : Rd n₀ B w N) (hN : N ≤ 1000000) (hm : m < 1) :
    Calls Try.prog 45 #[.pointer (some ⟨B, 0, none⟩), .int .i64 m] w (Drawn n₀ B N m w) := by
  obtain ⟨a, n, c, p, h1, h2, h3, h4, h5⟩ := hR
  have H1 := Lib.hid h1
  obtain ⟨c0, c1, c2⟩ := rd_cells h1
  clear h1
  go_enter Try.func45, Try.ntmps45
  go_wp2
  go_ret
  exact ⟨0, ⟨rfl, by omega, by omega, by omega⟩, drawn_mk H1.out h2 h3 h4 h5 0⟩

set_option maxRecDepth 100000 in
set_option maxHeartbeats 2000000 in
theorem pick_none (n₀ B N : Nat) (m : Int) (w : World) (a : Option Addr) (c p : Nat) (h1 : w.heap[B]? = some (.cells #[.slice a 0 c, .int .i64 (p : Int)] 65 (0, 0))) (h3 : p ≤ N) (h4 : n₀ ≤ B) (hN : N ≤ 1000000) (hm : 1 ≤ m) :
    Calls Try.prog 45 #[.pointer (some ⟨B, 0, none⟩), .int .i64 m] w (Drawn n₀ B N m w) := by
  have H1 := Lib.hid h1
  obtain ⟨c0, c1, c2⟩ := rd_cells h1
  clear h1
  go_enter Try.func45, Try.ntmps45
  go_wp2
  go_ret
  exact ⟨0, ⟨rfl, by omega, by omega, by omega⟩, drawn_mk H1.out (by omega) h3 h4 (fun h => absurd h (by omega)) 0⟩

set_option maxRecDepth 100000 in
set_option maxHeartbeats 2000000 in
theorem pick_in (n₀ B N : Nat) (m : Int) (w : World) (b o n c p : Nat) (h1 : w.heap[B]? = some (.cells #[.slice (some ⟨b, o, none⟩) n c, .int .i64 (p : Int)] 65 (0, 0))) (hn : n ≤ 2000) (h3 : p ≤ N) (h4 : n₀ ≤ B) (h5 : Bytes n₀ w (some ⟨b, o, none⟩) n)
    (_hN : N ≤ 1000000) (hm : 1 ≤ m) (hpn : p < n) (v : Int) (hv : w.cell? ⟨b, o + p, none⟩ = some (.int .u8 v)) (hv0 : 0 ≤ v) (hv1 : v ≤ 255) (hbB : b ≠ B) :
    Calls Try.prog 45 #[.pointer (some ⟨B, 0, none⟩), .int .i64 m] w (Drawn n₀ B N m w) := by
  have H1 := Lib.hid h1
  obtain ⟨c0, c1, c2⟩ := rd_cells h1
  have hv' : ∀ u, (w.setCell ⟨B, 1, none⟩ u).cell? ⟨b, o + p, none⟩ = some (.int .u8 v) := fun u => (World.cell?_setCell_other w ⟨B, 1, none⟩ ⟨b, o + p, none⟩ u (fun e => hbB (congrArg Addr.block e).symm)).trans hv
  clear h1 hv hbB
  have hn0 : ((n : Int) == 0) = false := by simp; omega
  go_enter Try.func45, Try.ntmps45
  go_wp2
  go_ret
  refine ⟨_, ⟨rfl, ?_, fun _ => ?_, by omega⟩, drawn_mk H1.out hn h3 h4 h5 0⟩
  · exact Int.emod_nonneg _ (by omega)
  · exact Int.emod_lt_of_pos _ (by omega)

set_option maxRecDepth 100000 in
set_option maxHeartbeats 4000000 in
theorem pick_past (n₀ B N : Nat) (m : Int) (w : World) (b o n c p : Nat) (h1 : w.heap[B]? = some (.cells #[.slice (some ⟨b, o, none⟩) n c, .int .i64 (p : Int)] 65 (0, 0))) (hn : n ≤ 2000) (h3 : p ≤ N) (h4 : n₀ ≤ B) (h5 : Bytes n₀ w (some ⟨b, o, none⟩) n)
    (hN : N ≤ 1000000) (hm : 1 ≤ m) (hnp : n ≤ p) (h0n : 0 < n) (v : Int) (hv : w.cell? ⟨b, o + p % n, none⟩ = some (.int .u8 v)) (hv0 : 0 ≤ v) (hv1 : v ≤ 255)
    (u : Int) (hu : w.cell? ⟨b, o + (p * 7 + 3) % n, none⟩ = some (.int .u8 u)) (hu0 : 0 ≤ u) (hu1 : u ≤ 255) (hbB : b ≠ B) :
    Calls Try.prog 45 #[.pointer (some ⟨B, 0, none⟩), .int .i64 m] w (Drawn n₀ B N m w) := by
  have H1 := Lib.hid h1
  obtain ⟨c0, c1, c2⟩ := rd_cells h1
  have hv' : ∀ y, (w.setCell ⟨B, 1, none⟩ y).cell? ⟨b, o + p % n, none⟩ = some (.int .u8 v) := fun y => (World.cell?_setCell_other w ⟨B, 1, none⟩ ⟨b, o + p % n, none⟩ y (fun e => hbB (congrArg Addr.block e).symm)).trans hv
  have hu' : ∀ y, (w.setCell ⟨B, 1, none⟩ y).cell? ⟨b, o + (p * 7 + 3) % n, none⟩ = some (.int .u8 u) := fun y => (World.cell?_setCell_other w ⟨B, 1, none⟩ ⟨b, o + (p * 7 + 3) % n, none⟩ y (fun e => hbB (congrArg Addr.block e).symm)).trans hu
  clear h1 hv hu hbB
  have hn0 : ((n : Int) == 0) = false := by simp; omega
  have hq0 : 0 ≤ (p : Int) / n := Int.ediv_nonneg (by omega) (by omega)
  have hq1 : (p : Int) / n ≤ p := Int.ediv_le_self _ (by omega)
  have hr0 : 0 ≤ (p : Int) % n := Int.emod_nonneg _ (by omega)
  have hr1 : (p : Int) % n < n := Int.emod_lt_of_pos _ (by omega)
  have hs0 : 0 ≤ ((p : Int) * 7 + 3) % n := Int.emod_nonneg _ (by omega)
  have hs1 : ((p : Int) * 7 + 3) % n < n := Int.emod_lt_of_pos _ (by omega)
  go_enter Try.func45, Try.ntmps45
  go_wp2
  go_quiet (fail)
  go_wp2
  go_ret
  refine ⟨_, ⟨rfl, ?_, fun _ => ?_, by omega⟩, drawn_mk H1.out hn h3 h4 h5 _⟩
  · exact Int.tmod_nonneg _ (xor_nn _ (by omega) (by omega))
  · exact Int.tmod_lt_of_pos _ (by omega)

theorem pick_any (n₀ B N : Nat) (m : Int) (w : World) (hR : Rd n₀ B w N) (hN : N ≤ 1000000) :
    Calls Try.prog 45 #[.pointer (some ⟨B, 0, none⟩), .int .i64 m] w (Drawn n₀ B N m w) := by
  by_cases hm : m < 1
  · exact pick_zero n₀ B N m w hR hN hm
  obtain ⟨a, n, c, p, h1, h2, h3, h4, h5⟩ := hR
  rcases Nat.eq_zero_or_pos n with rfl | hn
  · exact pick_none n₀ B N m w a c p h1 h3 h4 hN (by omega)
  obtain ⟨b, o, rfl, hb, hc⟩ := h5 hn
  by_cases hp : p < n
  · obtain ⟨v, hv, hv0, hv1⟩ := hc p hp
    exact pick_in n₀ B N m w b o n c p h1 h2 h3 h4 h5 hN (by omega) hp v hv hv0 hv1 (by omega)
  · obtain ⟨v, hv, hv0, hv1⟩ := hc (p % n) (Nat.mod_lt _ hn)
    obtain ⟨u, hu, hu0, hu1⟩ := hc ((p * 7 + 3) % n) (Nat.mod_lt _ hn)
    exact pick_past n₀ B N m w b o n c p h1 h2 h3 h4 h5 hN (by omega) (by omega) hn v hv hv0 hv1 u hu hu0 hu1 (by omega)

/-- A YES OR NO IS DRAWN. -/
def DrawnB (n₀ B N : Nat) (w : World) (e : Ending) (w' : World) : Prop :=
  ∃ x : Bool, e = .returned (.bool x) ∧ Rd n₀ B w' (N + 1) ∧ w.grownBy w' (some B) ∧ w'.heap.size = w.heap.size

set_option maxHeartbeats 400000 in
theorem odd_any (n₀ B N : Nat) (m : Int) (w : World) (hR : Rd n₀ B w N) (hN : N ≤ 1000000) (hm : m ≤ 1000000) (hm0 : 0 ≤ m) :
    Calls Try.prog 48 #[.pointer (some ⟨B, 0, none⟩), .int .i64 m] w (DrawnB n₀ B N w) := by
  by_cases h0 : 0 < m
  · go_enter Try.func48, Try.ntmps48
    go_wp2_with (go_at_call 45; refine (pick_any _ _ _ _ _ hR hN).mono ?_; rintro e w' ⟨x, ⟨rfl, hx0, hx1, hx2⟩, hR', hg, hz⟩; have HH := Lib.hid (And.intro hR' (And.intro hg hz)); clear hR' hg hz hR)
    go_ret
    exact ⟨_, rfl, HH.out⟩
  · go_enter Try.func48, Try.ntmps48
    go_wp2_with fail
    go_ret
    exact ⟨_, rfl, hR.more (by omega), World.grownBy.refl _ _, rfl⟩

end Go.Proofs.Ytofpjepndhpciaa

namespace Go.Proofs.Ytofpjepndhpciaa
open Go.RowKit Go.Shelf

/-- BLOCK b: m integers, whatever they are. -/
def IntBlk (W : World) (b m : Nat) : Prop := ∃ cs : Array Value, W.heap[b]? = some (.cells cs 3 (0, 0)) ∧ cs.size = m ∧ ∀ i, i < m → ∃ y : Int, cs[i]? = some (.int .i64 y)
theorem IntBlk.lt {W : World} {b m : Nat} (h : IntBlk W b m) : b < W.heap.size := by
  obtain ⟨cs, h1, _⟩ := h
  exact (Array.getElem?_eq_some_iff.1 h1).1
theorem IntBlk.kept {W W' : World} {b m : Nat} (h : IntBlk W b m) {row : Option Nat} (hg : W.grownBy W' row) (hne : some b ≠ row) : IntBlk W' b m := by
  have hlt := h.lt
  obtain ⟨cs, h1, h2⟩ := h
  exact ⟨cs, (hg.block b hlt hne).trans h1, h2⟩
theorem IntBlk.cell {W : World} {b m i : Nat} (h : IntBlk W b m) (hi : i < m) : ∃ y : Int, W.cell? ⟨b, i, none⟩ = some (.int .i64 y) := by
  obtain ⟨cs, h1, _, h3⟩ := h
  obtain ⟨y, hy⟩ := h3 i hi
  exact ⟨y, by simp [World.cell?, h1, hy]⟩
theorem IntBlk.frozen {W : World} {b m : Nat} (h : IntBlk W b m) (i : Nat) : W.frozen? ⟨b, i, none⟩ = false := by
  obtain ⟨cs, h1, _⟩ := h
  simp [World.frozen?, h1]
/-- A store of an integer into whatever block of integers keeps each of them one. -/
theorem IntBlk.store {W : World} {b m : Nat} (h : IntBlk W b m) (b' j : Nat) (x : Int) : IntBlk (W.setCell ⟨b', j, none⟩ (.int .i64 x)) b m := by
  obtain ⟨cs, h1, h2, h3⟩ := h
  by_cases e : b = b'
  · subst e
    refine ⟨cs.setIfInBounds j (.int .i64 x), ?_, by simpa using h2, fun i hi => ?_⟩
    · show (W.heap.modify b _)[b]? = _
      simp [Array.getElem?_modify, h1]
    · rw [Array.getElem?_setIfInBounds]
      by_cases ej : j = i
      · subst ej; exact ⟨x, by simp [h2, hi]⟩
      · rw [if_neg ej]; exact h3 i hi
  · exact ⟨cs, (Below.heap_setCell W ⟨b', j, none⟩ _ b e).trans h1, h2, h3⟩
theorem IntBlk.made (W : World) (m : Nat) : IntBlk (W.alloc (.cells (madeCells #[.int .i64 0] m) 3)) W.heap.size m :=
  ⟨_, World.alloc_heap_new W _, size_madeCells _ _, fun i hi => ⟨0, by simp [madeCells, hi, Nat.mod_one]⟩⟩

/-- A row's head. -/
def RowAny (base : Nat) (W : World) (x : Value) (m : Nat) : Prop := ∃ b, x = .slice (some ⟨b, 0, none⟩) m m ∧ base ≤ b ∧ IntBlk W b m

theorem grow_B {w W W' : World} {B : Nat} {row : Option Nat} (h : w.grownBy W (some B)) (k : W.grownBy W' row) (hr : ∀ r, row = some r → w.heap.size ≤ r ∨ r = B) : w.grownBy W' (some B) :=
  ⟨k.os.trans h.os, k.tape.trans h.tape, k.output.trans h.output, Nat.le_trans h.size k.size, fun i hi hne =>
    (k.block i (Nat.lt_of_lt_of_le hi h.size) (fun e => by rcases hr i e.symm with h' | h'; (omega); (subst h'; exact hne rfl))).trans (h.block i hi hne)⟩

/-- k ROWS OF m INTEGERS ARE DRAWN; the reader stands at most at N. -/
structure GOut (n₀ B : Nat) (w W : World) (v : Value) (k m N : Nat) : Prop where
  rd : Rd n₀ B W N
  far : w.grownBy W (some B)
  lt : B < w.heap.size
  own : ∃ vs, W.ownsRow w.heap.size 47 1 v k vs ∧ ∀ x ∈ vs, RowAny w.heap.size W x m
/-- .. and one more, in block R, is being drawn. -/
structure GIn (n₀ B : Nat) (w W : World) (v : Value) (k m R N : Nat) : Prop where
  out : GOut n₀ B w W v k m N
  le : w.heap.size ≤ R
  cur : IntBlk W R m

theorem own_ne_ints {W : World} {base k b m : Nat} {v : Value} {vs : List Value} (h : W.ownsRow base 47 1 v k vs) (hb : IntBlk W b m) : v.ownBlock ≠ some b := by
  rcases h.2 with ⟨rfl, _⟩ | ⟨g, cap, cur, rfl, _, hg, _⟩
  · simp [Value.ownBlock]
  · intro e
    have : g = b := by simpa [Value.ownBlock] using e
    subst this
    obtain ⟨cs, h1, _⟩ := hb
    rw [hg] at h1
    injection h1 with h1
    injection h1 with _ h2
    exact absurd h2 (by decide)
theorem own_ne_rd {W : World} {base k n₀ B N : Nat} {v : Value} {vs : List Value} (h : W.ownsRow base 47 1 v k vs) (hr : Rd n₀ B W N) : v.ownBlock ≠ some B := by
  rcases h.2 with ⟨rfl, _⟩ | ⟨g, cap, cur, rfl, _, hg, _⟩
  · simp [Value.ownBlock]
  · intro e
    have : g = B := by simpa [Value.ownBlock] using e
    subst this
    obtain ⟨a, n, c, p, h1, _⟩ := hr
    rw [hg] at h1
    injection h1 with h1
    injection h1 with _ h2
    exact absurd h2 (by decide)

theorem GOut.start {n₀ B m N : Nat} {w W : World} (hr : Rd n₀ B W N) (hg : w.grownBy W (some B)) (hB : B < w.heap.size) : GOut n₀ B w (W.alloc (.cells #[] 47)) (.slice (some ⟨W.heap.size, 0, none⟩) 0 0) 0 m N :=
  ⟨hr.keep (World.grownBy_alloc W _ none) (fun r e => by cases e), grow_B hg (World.grownBy_alloc W _ none) (fun r e => by cases e), hB, [], World.ownsRow_lit (size := 1) W #[] 0 hg.size (Nat.zero_le _) rfl, fun x hx => absurd hx (by simp)⟩
theorem GOut.more {n₀ B k m N N' : Nat} {w W : World} {v : Value} (h : GOut n₀ B w W v k m N) (hN : N ≤ N') : GOut n₀ B w W v k m N' := ⟨h.rd.more hN, h.far, h.lt, h.own⟩
theorem GOut.pick {n₀ B k m N N' : Nat} {w W W' : World} {v : Value} (h : GOut n₀ B w W v k m N) (hr : Rd n₀ B W' N') (hg : W.grownBy W' (some B)) : GOut n₀ B w W' v k m N' := by
  obtain ⟨vs, ho, hv⟩ := h.own
  have hl := h.lt
  refine ⟨hr, grow_B h.far hg (fun r e => .inr (by cases e; rfl)), h.lt, vs, ho.kept hg (.inr (own_ne_rd ho h.rd)), fun x hx => ?_⟩
  obtain ⟨b, e, hb, hi⟩ := hv x hx
  exact ⟨b, e, hb, hi.kept hg (fun e => by cases e; omega)⟩
theorem GOut.alloc {n₀ B k m N : Nat} {w W : World} {v : Value} (h : GOut n₀ B w W v k m N) (o : Obj) : GOut n₀ B w (W.alloc o) v k m N := by
  obtain ⟨vs, ho, hv⟩ := h.own
  have hg := World.grownBy_alloc W o none
  refine ⟨h.rd.keep hg (fun r e => by cases e), grow_B h.far hg (fun r e => by cases e), h.lt, vs, ho.alloc o, fun x hx => ?_⟩
  obtain ⟨b, e, hb, hi⟩ := hv x hx
  exact ⟨b, e, hb, hi.kept hg (by simp)⟩
theorem grownBy_set (W : World) (b j : Nat) (x : Value) : W.grownBy (W.setCell ⟨b, j, none⟩ x) (some b) :=
  ⟨rfl, rfl, rfl, by simp, fun i hi hne => Below.heap_setCell W ⟨b, j, none⟩ _ i (fun e => hne (by rw [e]))⟩
theorem GOut.store {n₀ B k m N : Nat} {w W : World} {v : Value} (h : GOut n₀ B w W v k m N) {b : Nat} {q : Nat} (hb : w.heap.size ≤ b) (hi : IntBlk W b q) (j : Nat) (x : Int) : GOut n₀ B w (W.setCell ⟨b, j, none⟩ (.int .i64 x)) v k m N := by
  obtain ⟨vs, ho, hv⟩ := h.own
  have hg := grownBy_set W b j (.int .i64 x)
  have hl := h.lt
  refine ⟨h.rd.keep hg (fun r e => by cases e; omega), grow_B h.far hg (fun r e => by cases e; exact .inl hb), h.lt, vs, ho.kept hg (.inr (own_ne_ints ho hi)), fun y hy => ?_⟩
  obtain ⟨b', e, hb', hi'⟩ := hv y hy
  exact ⟨b', e, hb', hi'.store b j x⟩
theorem GOut.drew {n₀ B k m N : Nat} {w W : World} {v : Value} (h : GOut n₀ B w W v k m N) : GOut n₀ B w W.drew v k m N := ⟨h.rd, ⟨h.far.os, h.far.tape, h.far.output, h.far.size, h.far.block⟩, h.lt, h.own⟩
theorem GIn.make {n₀ B k m N : Nat} {w W : World} {v : Value} (h : GOut n₀ B w W v k m N) : GIn n₀ B w (W.alloc (.cells (madeCells #[.int .i64 0] m) 3)) v k m W.heap.size N := ⟨h.alloc _, h.far.size, IntBlk.made W m⟩
theorem GIn.pick {n₀ B k m R N N' : Nat} {w W W' : World} {v : Value} (h : GIn n₀ B w W v k m R N) (hr : Rd n₀ B W' N') (hg : W.grownBy W' (some B)) : GIn n₀ B w W' v k m R N' :=
  ⟨h.out.pick hr hg, h.le, h.cur.kept hg (fun e => by cases e; have := h.out.lt; have := h.le; omega)⟩
theorem GIn.store {n₀ B k m R N : Nat} {w W : World} {v : Value} (h : GIn n₀ B w W v k m R N) (j : Nat) (x : Int) : GIn n₀ B w (W.setCell ⟨R, j, none⟩ (.int .i64 x)) v k m R N :=
  ⟨h.out.store h.le h.cur j x, h.le, h.cur.store R j x⟩
theorem GIn.more {n₀ B k m R N N' : Nat} {w W : World} {v : Value} (h : GIn n₀ B w W v k m R N) (hN : N ≤ N') : GIn n₀ B w W v k m R N' := ⟨h.out.more hN, h.le, h.cur⟩
/-- The row is appended. -/
theorem GIn.appended {n₀ B k m R N : Nat} {w W w1 : World} {v v' : Value} (h : GIn n₀ B w W v k m R N) {o : Obj} {vs : List Value} (ho : W.ownsRow w.heap.size 47 1 v k vs) (hv : ∀ x ∈ vs, RowAny w.heap.size W x m)
    (hown : w1.ownsRow w.heap.size 47 1 v' (k + 1) (vs ++ [.slice (some ⟨R, 0, none⟩) m m])) (hgrow : (W.alloc o).grownBy w1 v.ownBlock) : GOut n₀ B w w1 v' (k + 1) m N := by
  have hA := h.out.alloc o
  have hne := own_ne_rd ho h.out.rd
  have hlt := ho.lt
  have hl := h.out.lt
  refine ⟨hA.rd.keep hgrow (fun r e => ?_), grow_B hA.far hgrow (fun r e => .inl (hlt r e).1), h.out.lt, _, hown, fun x hx => ?_⟩
  · have := (hlt r e).1; omega
  · rcases List.mem_append.1 hx with hx | hx
    · obtain ⟨b, e, hb, hi⟩ := hv x hx
      exact ⟨b, e, hb, (hi.kept (World.grownBy_alloc W o none) (by simp)).kept hgrow (fun e => own_ne_ints ho hi e.symm)⟩
    · simp only [List.mem_singleton] at hx; subst hx
      exact ⟨R, rfl, h.le, (h.cur.kept (World.grownBy_alloc W o none) (by simp)).kept hgrow (fun e => own_ne_ints ho h.cur e.symm)⟩

theorem GOut.row {n₀ B k m N g cap : Nat} {w W : World} (h : GOut n₀ B w W (.slice (some ⟨g, 0, none⟩) k cap) k m N) {i : Nat} (hi : i < k) :
    ∃ b, W.cell? ⟨g, i, none⟩ = some (.slice (some ⟨b, 0, none⟩) m m) ∧ w.heap.size ≤ b ∧ IntBlk W b m := by
  obtain ⟨vs, ho, hv⟩ := h.own
  have hl : vs.length = k := by simpa using ho.1
  obtain ⟨b, e, hb, hI⟩ := hv vs[i] (List.getElem_mem _)
  exact ⟨b, by rw [ho.cellAt i (by omega), List.getElem?_eq_getElem (by omega), e], hb, hI⟩

/-- A ROW THAT CAN BE READ: at most 10 integers. -/
def RowRead (W : World) (x : Value) : Prop := ∃ (b m c : Nat), x = .slice (some ⟨b, 0, none⟩) m c ∧ m ≤ 10 ∧ b < W.heap.size ∧ ∀ i, i < m → ∃ y : Int, W.cell? ⟨b, i, none⟩ = some (.int .i64 y)
theorem ints_of_cells {W : World} {b : Nat} : ∀ m, (∀ i, i < m → ∃ y : Int, W.cell? ⟨b, i, none⟩ = some (.int .i64 y)) → ∃ ys : List Int, ys.length = m ∧ ∀ i, i < m → W.cell? ⟨b, i, none⟩ = some (.int .i64 (ys[i]?.getD 0))
  | 0, _ => ⟨[], rfl, fun i h => absurd h (Nat.not_lt_zero _)⟩
  | m + 1, h => by
    obtain ⟨ys, hl, hy⟩ := ints_of_cells m (fun i hi => h i (by omega))
    obtain ⟨y, hm⟩ := h m (by omega)
    refine ⟨ys ++ [y], by simp [hl], fun i hi => ?_⟩
    by_cases e : i = m
    · subst e; rw [hm, List.getElem?_append_right (by omega)]; simp [hl]
    · rw [hy i (by omega), List.getElem?_append_left (by omega)]
theorem RowRead.ints {W : World} {x : Value} (h : RowRead W x) : ∃ (a : Option Addr) (c : Nat) (ys : List Int), x = .slice a ys.length c ∧ ys.length ≤ 10 ∧ Ints W.heap.size W a ys := by
  obtain ⟨b, m, c, rfl, hm, hb, hc⟩ := h
  obtain ⟨ys, hl, hy⟩ := ints_of_cells m hc
  subst hl
  exact ⟨_, c, ys, rfl, hm, fun _ => ⟨b, 0, rfl, hb, fun j hj => by rw [Nat.zero_add]; exact hy j hj⟩⟩
theorem rows_of_read {W : World} : ∀ vs : List Value, (∀ x ∈ vs, RowRead W x) → ∃ xss : List (List Int), xss.length = vs.length ∧ (∀ xs ∈ xss, xs.length ≤ 10) ∧
    ∀ i, i < vs.length → ∃ (a : Option Addr) (c : Nat), vs[i]? = some (.slice a (xss[i]?.getD []).length c) ∧ Ints W.heap.size W a (xss[i]?.getD [])
  | [], _ => ⟨[], rfl, by simp, fun i h => absurd h (by simp)⟩
  | v :: vs, h => by
    obtain ⟨xss, hl, hs, hx⟩ := rows_of_read vs (fun x hx => h x (List.mem_cons_of_mem _ hx))
    obtain ⟨a, c, ys, e, h10, hI⟩ := (h v (by simp)).ints
    refine ⟨ys :: xss, by simp [hl], fun xs hxs => ?_, fun i hi => ?_⟩
    · rcases List.mem_cons.1 hxs with e | e
      · subst e; exact h10
      · exact hs _ e
    · cases i with
      | zero => exact ⟨a, c, by simpa using e, by simpa using hI⟩
      | succ i => simpa using hx i (by simpa using hi)
/-- WHAT IS DRAWN CAN BE READ AS ROWS OF INTEGERS. -/
theorem mat_of_read {W : World} {base k : Nat} {a : Option Addr} {c : Nat} {vs : List Value} (ho : W.ownsRow base 47 1 (.slice a k c) k vs) (hv : ∀ x ∈ vs, RowRead W x) (hk : k ≤ 1000) :
    ∃ xss : List (List Int), xss.length = k ∧ Fit xss ∧ Mat W.heap.size W a xss := by
  obtain ⟨xss, hl, hs, hx⟩ := rows_of_read vs hv
  have hvl : vs.length = k := by simpa using ho.1
  refine ⟨xss, by omega, ⟨by omega, fun xs h => by have := hs xs h; omega⟩, fun hne => ?_⟩
  have hk0 : 0 < k := by
    rcases Nat.eq_zero_or_pos k with e | e
    · exact absurd (List.eq_nil_of_length_eq_zero (by omega)) hne
    · exact e
  obtain ⟨g, cap, hv'⟩ := Joins.ownsRow_form ho hk0
  simp only [Value.slice.injEq] at hv'
  obtain ⟨rfl, _, rfl⟩ := hv'
  have hg := ho.lt g (by simp [Value.ownBlock])
  refine ⟨g, 0, rfl, hg.2, fun i hi => ?_⟩
  obtain ⟨a', c', h1, h2⟩ := hx i (by omega)
  exact ⟨a', c', by rw [Nat.zero_add, ho.cellAt i (by omega), h1], h2⟩
theorem RowAny.read {base m : Nat} {W : World} {x : Value} (h : RowAny base W x m) (hm : m ≤ 10) : RowRead W x := by
  obtain ⟨b, rfl, _, hi⟩ := h
  exact ⟨b, m, m, rfl, hm, hi.lt, fun i h => hi.cell h⟩

theorem Ints.sub {n₀ : Nat} {A B : World} {a : Option Addr} {xs : List Int} (h : Ints n₀ A a xs) (hk : ∀ (p : Addr) v, A.cell? p = some v → B.cell? p = some v) : Ints n₀ B a xs := fun hne => by
  obtain ⟨b, o, e, hb, hc⟩ := h hne
  exact ⟨b, o, e, hb, fun j hj => hk _ _ (hc j hj)⟩
theorem Mat.sub {n₀ : Nat} {A B : World} {a : Option Addr} {xss : List (List Int)} (h : Mat n₀ A a xss) (hk : ∀ (p : Addr) v, A.cell? p = some v → B.cell? p = some v) : Mat n₀ B a xss := fun hne => by
  obtain ⟨b, o, e, hb, hc⟩ := h hne
  refine ⟨b, o, e, hb, fun i hi => ?_⟩
  obtain ⟨a', c', h1, h2⟩ := hc i hi
  exact ⟨a', c', hk _ _ h1, h2.sub hk⟩
/-- Block B emptied: what can be read then can be read whatever block B holds. -/
theorem erased_grown (W : World) (B : Nat) : W.grownBy (W.setRow B #[]) (some B) := ⟨rfl, rfl, rfl, by simp, fun k _ hk => setRow_other W B k _ (fun e => hk (by rw [e]))⟩
theorem erased_sub {W W' : World} {B : Nat} {cs : Array Value} {t : TypeId} {fr : Nat × Nat} (hb : W.heap[B]? = some (.cells cs t fr)) (hk : ∀ k, k < W.heap.size → k ≠ B → W'.heap[k]? = W.heap[k]?) (p : Addr) (v : Value) (h : (W.setRow B #[]).cell? p = some v) : W'.cell? p = some v := by
  by_cases e : p.block = B
  · exfalso
    have h2 := setRow_heap W B cs #[] t fr hb
    rw [← e] at h2
    unfold World.cell? at h
    rw [e] at h h2
    simp [h2] at h
  · have h1 : (W.setRow B #[]).heap[p.block]? = W.heap[p.block]? := setRow_other W B p.block _ e
    have hlt : p.block < W.heap.size := by
      rcases Nat.lt_or_ge p.block W.heap.size with hlt | hge
      · exact hlt
      · exfalso
        have h3 : (W.setRow B #[]).heap[p.block]? = none := h1.trans (Array.getElem?_eq_none hge)
        unfold World.cell? at h
        simp [h3] at h
    have e1 := World.cell?_of_block (a := p) ((hk p.block hlt e).trans h1.symm)
    exact e1.trans h
theorem RowRead.erased {W : World} {B : Nat} {x : Value} (h : RowRead W x) (hb : ∀ b m c, x = .slice (some ⟨b, 0, none⟩) m c → b ≠ B) : RowRead (W.setRow B #[]) x := by
  obtain ⟨b, m, c, rfl, h1, h2, h3⟩ := h
  have hne := hb b m c rfl
  refine ⟨b, m, c, rfl, h1, Nat.lt_of_lt_of_le h2 (erased_grown W B).size, fun i hi => ?_⟩
  obtain ⟨y, hy⟩ := h3 i hi
  exact ⟨y, (World.cell?_of_block (a := ⟨b, i, none⟩) (setRow_other W B b _ hne)).trans hy⟩

/-- A GRAPH OR WHAT IS NONE IS DRAWN; none of it lies in block B. -/
def DrawnG (n₀ B N : Nat) (w : World) (e : Ending) (w' : World) : Prop :=
  ∃ (a : Option Addr) (c : Nat) (xss : List (List Int)), e = .returned (.slice a xss.length c) ∧ Fit xss ∧ Mat w'.heap.size (w'.setRow B #[]) a xss ∧ Rd n₀ B w' N ∧ w.grownBy w' (some B)
/-- And it has at most K nodes. -/
def DrawnGK (n₀ B N K : Nat) (w : World) (e : Ending) (w' : World) : Prop :=
  ∃ (a : Option Addr) (c : Nat) (xss : List (List Int)), e = .returned (.slice a xss.length c) ∧ Fit xss ∧ Mat w'.heap.size (w'.setRow B #[]) a xss ∧ Rd n₀ B w' N ∧ w.grownBy w' (some B) ∧ xss.length ≤ K
theorem DrawnGK.drawn {n₀ B N K : Nat} {w w' : World} {e : Ending} (h : DrawnGK n₀ B N K w e w') : DrawnG n₀ B N w e w' := by
  obtain ⟨a, c, xss, h1, h2, h3, h4, h5, _⟩ := h
  exact ⟨a, c, xss, h1, h2, h3, h4, h5⟩
theorem GOut.drawn {n₀ B k m N N' K : Nat} {w W : World} {a : Option Addr} {c : Nat} (h : GOut n₀ B w W (.slice a k c) k m N) (hm : m ≤ 10) (hk : k ≤ 1000) (hN : N ≤ N') (hK : k ≤ K) : DrawnGK n₀ B N' K w (.returned (.slice a k c)) W := by
  obtain ⟨vs, ho, hv⟩ := h.own
  have hlt := h.lt
  obtain ⟨xss, hl, hF, hM⟩ := mat_of_read (ho.kept (erased_grown W B) (.inr (own_ne_rd ho h.rd))) (fun x hx => ((hv x hx).read hm).erased fun b m c e => by
    obtain ⟨b', e', hb', _⟩ := hv x hx
    rw [e'] at e
    cases e
    omega) hk
  subst hl
  rw [show (W.setRow B #[]).heap.size = W.heap.size by simp] at hM
  exact ⟨a, c, xss, rfl, hF, hM, h.rd.more hN, h.far, hK⟩

theorem GOut.drawn_none {n₀ B k m N N' K : Nat} {w W : World} {v : Value} (h : GOut n₀ B w W v k m N) (o : Obj) (hN : N ≤ N') (b c : Nat) : DrawnGK n₀ B N' K w (.returned (.slice (some ⟨b, 0, none⟩) 0 c)) (W.alloc o) := by
  have hA := h.alloc o
  exact ⟨_, c, [], rfl, ⟨by simp, fun xs h => absurd h (by simp)⟩, fun h => absurd rfl h, hA.rd.more hN, hA.far, Nat.zero_le _⟩
theorem IntBlk.values {W : World} {b m : Nat} (h : IntBlk W b m) : ∃ zs : List Value, zs.length = m ∧ (∀ j u, zs[j]? = some u → W.cell? ⟨b, j, none⟩ = some u) ∧ ∀ j, j < m → ∃ y : Int, zs[j]? = some (.int .i64 y) := by
  obtain ⟨cs, h1, h2, h3⟩ := h
  exact ⟨cs.toList, by simpa using h2, fun j u hj => by simpa [World.cell?, h1] using hj, fun j hj => by simpa using h3 j hj⟩
theorem GOut.widened {n₀ B k m N N' K g cap g' cap' : Nat} {w W w1 : World} (h : GOut n₀ B w W (.slice (some ⟨g, 0, none⟩) k cap) k m N) (o : Obj) {zs : List Value} (hz : zs.length = m) (hzi : ∀ j, j < m → ∃ y : Int, zs[j]? = some (.int .i64 y))
    (hown : w1.ownsRow (W.alloc o).heap.size 3 1 (.slice (some ⟨g', 0, none⟩) (m + 1) cap') (m + 1) (zs ++ [.int .i64 0])) (hg : (W.alloc o).grownBy w1 none) (hm : m ≤ 9) (hk : k ≤ 1000) (hN : N ≤ N') (hK : k ≤ K) :
    DrawnGK n₀ B N' K w (.returned (.slice (some ⟨g, 0, none⟩) k cap)) (w1.setCell ⟨g, 0, none⟩ (.slice (some ⟨g', 0, none⟩) (m + 1) cap')) := by
  obtain ⟨vs, ho, hv⟩ := h.own
  have hlg := ho.lt g (by simp [Value.ownBlock])
  have hl := h.lt
  have hlg' := hown.lt g' (by simp [Value.ownBlock])
  rw [World.size_alloc] at hlg'
  have ho1 := (ho.alloc o).kept hg (.inr (by simp [Value.ownBlock]))
  have ho2 := (ho1.stored 0 (.slice (some ⟨g', 0, none⟩) (m + 1) cap')).1
  have hs := grownBy_set w1 g 0 (.slice (some ⟨g', 0, none⟩) (m + 1) cap')
  have hread : ∀ x ∈ vs.set 0 (.slice (some ⟨g', 0, none⟩) (m + 1) cap'), RowRead (w1.setCell ⟨g, 0, none⟩ (.slice (some ⟨g', 0, none⟩) (m + 1) cap')) x := fun x hx => by
    rcases List.mem_or_eq_of_mem_set hx with hx | rfl
    · obtain ⟨b, rfl, hb, hi⟩ := hv x hx
      have hi1 := ((hi.kept (World.grownBy_alloc W o none) (by simp)).kept hg (by simp))
      exact RowAny.read ⟨b, rfl, hb, hi1.kept hs (fun e => own_ne_ints ho1 hi1 e.symm)⟩ (by omega)
    · refine ⟨g', m + 1, cap', rfl, by omega, by rw [show (w1.setCell ⟨g, 0, none⟩ (.slice (some ⟨g', 0, none⟩) (m + 1) cap')).heap.size = w1.heap.size from by simp]; exact hlg'.2, fun i hi => ?_⟩
      have hc := hown.cellAt i (by omega)
      have hne : (⟨g', i, none⟩ : Addr).block ≠ g := by show g' ≠ g; omega
      rw [World.cell?_setCell_other w1 ⟨g, 0, none⟩ ⟨g', i, none⟩ _ (fun e => hne (congrArg Addr.block e).symm), hc]
      by_cases e : i < m
      · obtain ⟨y, hy⟩ := hzi i e
        exact ⟨y, by rw [List.getElem?_append_left (by omega), hy]⟩
      · obtain rfl : i = m := by omega
        exact ⟨0, by rw [List.getElem?_append_right (by omega)]; simp [hz]⟩
  obtain ⟨xss, hxl, hF, hM⟩ := mat_of_read (ho2.kept (erased_grown _ B) (.inr (fun e => by have e' : some g = some B := e; cases e'; omega))) (fun x hx => (hread x hx).erased fun b m' c e => by
    rcases List.mem_or_eq_of_mem_set hx with hx | hx
    · obtain ⟨b', e', hb', _⟩ := hv x hx
      rw [e'] at e
      cases e
      omega
    · rw [hx] at e
      cases e
      omega) hk
  subst hxl
  rw [show ((w1.setCell ⟨g, 0, none⟩ (.slice (some ⟨g', 0, none⟩) (m + 1) cap')).setRow B #[]).heap.size = (w1.setCell ⟨g, 0, none⟩ (.slice (some ⟨g', 0, none⟩) (m + 1) cap')).heap.size by simp] at hM
  refine ⟨_, cap, xss, rfl, hF, hM, ?_, ?_, hK⟩
  · exact (((h.rd.keep (World.grownBy_alloc W o none) (fun r e => by cases e)).keep hg (fun r e => by cases e)).keep hs (fun r e => by cases e; omega)).more hN
  · exact grow_B (grow_B (grow_B h.far (World.grownBy_alloc W o none) (fun r e => by cases e)) hg (fun r e => by cases e)) hs (fun r e => by cases e; exact .inl hlg.1)

end Go.Proofs.Ytofpjepndhpciaa

namespace Go.Proofs.Ytofpjepndhpciaa
open Go.RowKit Go.Shelf

/-- THE READER IS MADE in the next new block. -/
def Opened (w : World) (e : Ending) (w' : World) : Prop := e = .returned (.pointer (some ⟨w.heap.size, 0, none⟩)) ∧ Rd w.heap.size w.heap.size w' 0 ∧ Below w.heap.size w w'
theorem opened_mk {w : World} {a : Option Addr} {n c : Nat} (hn : n ≤ 2000) (hy : Bytes w.heap.size w a n) : Opened w (.returned (.pointer (some ⟨w.heap.size, 0, none⟩))) (w.alloc (.cells #[.slice a n c, .int .i64 0] 65)) :=
  ⟨rfl, ⟨a, n, c, 0, World.alloc_heap_new w _, hn, by omega, Nat.le_refl _, hy.keep fun p hp => World.cell?_alloc_lt w _ p hp⟩, (Below.refl _ _).alloc (Nat.le_refl _) _⟩

set_option maxHeartbeats 400000 in
theorem open_any (a : Option Addr) (n c : Nat) (w : World) (hn : n ≤ 1048576) (hc : n ≤ c) (hy : Bytes w.heap.size w a n) :
    Calls Try.prog 28 #[.slice a n c] w (Opened w) := by
  by_cases h : n ≤ 2000
  · go_enter Try.func28, Try.ntmps28
    go_wp2
    go_ret
    exact opened_mk h hy
  · obtain ⟨b, o, rfl, hb, hcell⟩ := hy (by omega)
    have hy' : Bytes w.heap.size w (some ⟨b, o, none⟩) 2000 := fun _ => ⟨b, o, rfl, hb, fun j hj => hcell j (by omega)⟩
    clear hcell hy
    go_enter Try.func28, Try.ntmps28
    go_wp2
    go_ret
    exact opened_mk (by omega) hy'

set_option maxRecDepth 100000 in
set_option maxHeartbeats 4000000 in
theorem graph_anyK (n₀ B N K : Nat) (most odd : Int) (w : World) (hR : Rd n₀ B w N) (hN : N ≤ 500000) (h1 : 1 ≤ most) (h9 : most ≤ 9) (ho0 : 0 ≤ odd) (ho1 : odd ≤ 1000) (hmK : most ≤ (K : Int)) :
    Calls Try.prog 30 #[.pointer (some ⟨B, 0, none⟩), .int .i64 most, .int .i64 odd] w (DrawnGK n₀ B (N + 200) K w) := by
  have hBw := hR.lt
  obtain ⟨i0, hi, hz0, hz1, hz2⟩ := info_parts infoInts
  obtain ⟨i1, hj, hy0, hy1, hy2⟩ := info_parts infoInt
  go_enter Try.func30, Try.ntmps30
  go_wp2_with fail
  refine (pick_any n₀ B N most w hR (by omega)).mono ?_
  rintro e w1 ⟨x, ⟨rfl, hx0, hx1, _⟩, hR1, hg1, hs1⟩
  have hx1' := hx1 h1
  obtain ⟨m, hm⟩ : ∃ m : Nat, 1 + x = (m : Int) := ⟨(1 + x).toNat, by omega⟩
  have HM := Lib.hid hm
  have hm1 : 1 ≤ m := by omega
  have hm9 : m ≤ 9 := by omega
  have hmK' : m ≤ K := by omega
  obtain rfl : x = (m : Int) - 1 := by omega
  have hmm : (1 : Int) + ((m : Int) - 1) = m := by omega
  clear hm hx1 hR
  have HG := Lib.hid (GOut.start (m := m) hR1 hg1 hBw)
  clear hR1 hg1 hs1
  go_wp2_with fail
  refine (pick_any n₀ B (N + 1) 4 _ HG.out.rd (by omega)).mono ?_
  rintro e w2 ⟨q, ⟨rfl, hq0, hq1, _⟩, hR2, hg2, hs2⟩
  have hq4 := hq1 (by omega)
  have HG2 := Lib.hid (HG.out.pick hR2 hg2)
  clear hR2 hg2 hs2 hq1 HG
  go_wp2_with fail
  go_loopw [8, 10] (fun v i wr => ∃ (k g cap : Nat), k ≤ m ∧ i = .int .i64 k ∧ v = .slice (some ⟨g, 0, none⟩) k cap ∧ Hid (GOut n₀ B w wr (.slice (some ⟨g, 0, none⟩) k cap) k m (N + 2 + k * 16)))
    (fun _ i _ => m - (intOf i).toNat)
  case atStart => exact ⟨0, _, _, Nat.zero_le _, rfl, rfl, Lib.hid (HG2.out.more (by omega))⟩
  case round =>
    obtain ⟨k, g, cap, hk, rfl, rfl, HO⟩ := hrel
    by_cases hlt : k < m
    · have hmk := run_make_row' (P := Try.prog) 47 3 (.int .i64 0) 8 Try.underlying47 infoInt rfl .i64 .i64 m (by omega) (by omega)
      have HI0 := Lib.hid (GIn.make HO.out)
      obtain ⟨wo, rfl⟩ : ∃ wo : World, wo = wr := ⟨_, rfl⟩
      go_wp2_with fail
      clear hmk
      go_loopw [12] (fun i wi => ∃ j : Nat, j ≤ m ∧ i = .int .i64 j ∧ Hid (GIn n₀ B w wi (.slice (some ⟨g, 0, none⟩) k cap) k m wo.heap.size (N + 2 + k * 16 + j))) (fun i _ => m - (intOf i).toNat)
      case atStart => exact ⟨0, Nat.zero_le _, rfl, HI0⟩
      case round =>
        obtain ⟨j, hj, rfl, HI⟩ := hrel
        clear HI0 HO HG2
        by_cases hltj : j < m
        · go_wp2_with (go_at_call 45; refine (pick_any n₀ B (N + 2 + k * 16 + j) _ _ HI.out.out.rd (by omega)).mono ?_; rintro e w3 ⟨x, ⟨rfl, hx0, hx1, _⟩, hR3, hg3, -⟩; have HI3 := Lib.hid (HI.out.pick hR3 hg3); clear hR3 hg3; obtain ⟨y, hy⟩ := HI3.out.cur.cell hltj; have hfz := HI3.out.cur.frozen j)
          all_goals
            go_roundw
            case rel => first | exact ⟨j + 1, by omega, by go_num, Lib.hid ((HI3.out.store j _).more (by omega))⟩ | exact ⟨j + 1, by omega, by go_num, Lib.hid (HI.out.more (by omega))⟩
            case measure => simp [intOf]; omega
        · obtain rfl : j = m := by omega
          obtain ⟨vs, hown, hrows⟩ := HI.out.out.own
          have HW := Lib.hid hrows
          clear hrows
          have hbase := HI.out.out.far.size
          go_wp2_with (at_builtin; refine wpList_append_own _ rfl _ _ 23 rfl w.heap.size 47 i0 (.slice none 0 0) 1 24 Try.underlying23 hi hz0 hz1 hz2 rfl (by decide) _ _ _ rfl (hown.alloc _) ⟨wr.heap.size, 0, none⟩ 1 1 [.slice (some ⟨wo.heap.size, 0, none⟩) j j] rfl rfl (cell_one_new _ _ _) (by simp [Value.oneCell']) (by unfold maxLen; omega) (by omega) (by simp; omega) ?_; intro v' w4 hown' hgrow _; obtain ⟨g', cap', rfl⟩ := ownsRow_succ hown'; have HO4 := Lib.hid (GIn.appended HI.out hown HW.out hown' hgrow); clear hown' hgrow)
          go_roundw
          case rel => exact ⟨k + 1, g', cap', by omega, by go_num, rfl, Lib.hid (HO4.out.more (by omega))⟩
          case measure => simp [intOf]; omega
    · obtain rfl : k = m := by omega
      clear HG2
      go_wp2_with fail
      refine (pick_any n₀ B _ 4 _ HO.out.rd (by omega)).mono ?_
      rintro e w5 ⟨x, ⟨rfl, hx0, hx1, _⟩, hR5, hg5, -⟩
      have HO5 := Lib.hid (HO.out.pick hR5 hg5)
      clear hR5 hg5 HO hx1
      by_cases hxz : x = 0
      · have hxb : (x == 0) = true := by simp [hxz]
        clear hxz
        go_wp2_with fail
        go_loopw [13] (fun i wi => ∃ c : Nat, c ≤ k ∧ i = .int .i64 c ∧ Hid (GOut n₀ B w wi (.slice (some ⟨g, 0, none⟩) k cap) k k (N + 2 + k * 16 + 1))) (fun i _ => k - (intOf i).toNat)
        case atStart => exact ⟨0, Nat.zero_le _, rfl, HO5⟩
        case round =>
          obtain ⟨c, hc, rfl, HO6⟩ := hrel
          clear HO5
          by_cases hltc : c < k
          · go_wp2_with fail
            obtain ⟨wo, rfl⟩ : ∃ wo : World, wo = wr := ⟨_, rfl⟩
            go_loopw [14] (fun i wi => ∃ d : Nat, d ≤ c ∧ i = .int .i64 d ∧ Hid (GOut n₀ B w wi (.slice (some ⟨g, 0, none⟩) k cap) k k (N + 2 + k * 16 + 1))) (fun i _ => c - (intOf i).toNat)
            case atStart => exact ⟨0, Nat.zero_le _, rfl, HO6⟩
            case round =>
              obtain ⟨d, hd, rfl, HO7⟩ := hrel
              clear HO6
              by_cases hltd : d < c
              · obtain ⟨bc, hbc, hbc1, hIc⟩ := HO7.out.row hltc
                obtain ⟨bd, hbd, hbd1, hId⟩ := HO7.out.row (show d < k by omega)
                obtain ⟨y, hy⟩ := hId.cell hltc
                obtain ⟨z, hz⟩ := hIc.cell (show d < k by omega)
                have hfz := hIc.frozen d
                have HO8 := Lib.hid ((HO7.out.store hbc1 hIc d y).drew)
                clear hIc hId
                go_wp2
                go_region
                all_goals
                  go_wp2
                  go_roundw
                  case rel => exact ⟨d + 1, by omega, by go_num, HO8⟩
                  case measure => simp [intOf]; omega
              · obtain rfl : d = c := by omega
                go_wp2
                go_roundw
                case rel => exact ⟨d + 1, by omega, by go_num, HO7⟩
                case measure => simp [intOf]; omega
          · go_wp2_with fail
            refine (odd_any n₀ B _ odd _ HO6.out.rd (by omega) (by omega) ho0).mono ?_
            rintro e w6 ⟨yes, rfl, hR6, hg6, -⟩
            have HT := Lib.hid (HO6.out.pick hR6 hg6)
            clear hR6 hg6 HO6
            cases yes with
            | false =>
              go_wp2_with fail
              go_ret
              exact HT.out.drawn (by omega) (by omega) (by omega) (by omega)
            | true =>
              go_wp2_with fail
              refine (pick_any n₀ B _ 3 _ HT.out.rd (by omega)).mono ?_
              rintro e w7 ⟨t, ⟨rfl, ht0, ht1, _⟩, hR7, hg7, -⟩
              have HU := Lib.hid (HT.out.pick hR7 hg7)
              clear hR7 hg7 HT ht1
              by_cases ht2 : t = 0
              · have hb : (t == 0) = true := by simp [ht2]
                clear ht2
                go_wp2_with fail
                go_ret
                exact HU.out.drawn_none _ (by omega) _ _
              · have hb : (t == 0) = false := by simp [ht2]
                clear ht2
                obtain ⟨b0, hb0, hb1, hI0⟩ := HU.out.row (show 0 < k by omega)
                by_cases ht3 : t = 1
                · have hb2 : (t == 1) = true := by simp [ht3]
                  clear ht3
                  obtain ⟨y, hy⟩ := hI0.cell (show 0 < k by omega)
                  have hfz := hI0.frozen 0
                  have HI9 := Lib.hid (HU.out.store hb1 hI0 0 2)
                  clear hI0
                  go_wp2_with fail
                  go_ret
                  exact HI9.out.drawn (by omega) (by omega) (by omega) (by omega)
                · have hb2 : (t == 1) = false := by simp [ht3]
                  clear ht3
                  obtain ⟨zs, hz1', hz2', hz3'⟩ := hI0.values
                  have HZ := Lib.hid hz3'
                  have HZ2 := Lib.hid hz2'
                  have HZ1 := Lib.hid hz1'
                  have hlt0 : b0 < w7.heap.size := hI0.lt
                  have hlg : g < w7.heap.size := World.block_lt_of_cell? _ _ hb0
                  have hfg : w7.frozen? ⟨g, 0, none⟩ = false := by obtain ⟨vs, ho, _⟩ := HU.out.own; exact ho.frozenAt 0
                  clear hz3' hz2' hz1' hI0
                  go_wp2_with (at_builtin; go_must (refine wpList_append_grows _ rfl _ _ 47 rfl 3 i1 (.int .i64 0) 1 8 Try.underlying47 hj hy0 hy1 hy2 rfl (by decide) (some ⟨b0, 0, none⟩) k k zs rfl (fun h => by cases h) (by rw [HZ1.out]; omega) (fun b hb j u hu => by cases hb; rw [show ((⟨b0, 0, none⟩ : Addr).add j) = ⟨b0, j, none⟩ from by unfold Addr.add; split <;> simp_all]; exact (World.cell?_alloc_lt w7 _ ⟨b0, j, none⟩ hlt0).trans (HZ2.out j u hu)) ⟨w7.heap.size, 0, none⟩ 1 1 [.int .i64 0] rfl rfl (cell_one_new _ _ _) (by simp [Value.oneCell']) (by omega) (by unfold maxLen; omega) (by omega) ?_); go_must (intro v' w8 hown' hgrow; obtain ⟨g', cap', rfl⟩ := ownsRow_succ hown'); go_must (have HO9 := Lib.hid (HU.out.widened _ HZ1.out HZ.out hown' hgrow (N' := N + 200) (K := K) (by omega) (by omega) (by omega) (by omega))); go_must (have hc9 : w8.cell? ⟨g, 0, none⟩ = some (.slice (some ⟨b0, 0, none⟩) k k) := (World.cell?_of_block (hgrow.block g (by simp; omega) (by simp))).trans ((World.cell?_alloc_lt w7 _ ⟨g, 0, none⟩ hlg).trans hb0)); go_must (have hf9 : w8.frozen? ⟨g, 0, none⟩ = false := (World.frozen?_of_block (hgrow.block g (by simp; omega) (by simp))).trans ((World.frozen?_alloc_past _ g 0 hlg).trans hfg)); clear hown' hgrow)
                  go_ret
                  exact HO9.out
      · have hxb : (x == 0) = false := by simp [hxz]
        clear hxz
        go_wp2_with fail
        refine (odd_any n₀ B _ odd _ HO5.out.rd (by omega) (by omega) ho0).mono ?_
        rintro e w6 ⟨yes, rfl, hR6, hg6, -⟩
        have HT := Lib.hid (HO5.out.pick hR6 hg6)
        clear hR6 hg6 HO5
        cases yes with
        | false =>
          go_wp2_with fail
          go_ret
          exact HT.out.drawn (by omega) (by omega) (by omega) (by omega)
        | true =>
          go_wp2_with fail
          refine (pick_any n₀ B _ 3 _ HT.out.rd (by omega)).mono ?_
          rintro e w7 ⟨t, ⟨rfl, ht0, ht1, _⟩, hR7, hg7, -⟩
          have HU := Lib.hid (HT.out.pick hR7 hg7)
          clear hR7 hg7 HT ht1
          by_cases ht2 : t = 0
          · have hb : (t == 0) = true := by simp [ht2]
            clear ht2
            go_wp2_with fail
            go_ret
            exact HU.out.drawn_none _ (by omega) _ _
          · have hb : (t == 0) = false := by simp [ht2]
            clear ht2
            obtain ⟨b0, hb0, hb1, hI0⟩ := HU.out.row (show 0 < k by omega)
            by_cases ht3 : t = 1
            · have hb2 : (t == 1) = true := by simp [ht3]
              clear ht3
              obtain ⟨y, hy⟩ := hI0.cell (show 0 < k by omega)
              have hfz := hI0.frozen 0
              have HI9 := Lib.hid (HU.out.store hb1 hI0 0 2)
              clear hI0
              go_wp2_with fail
              go_ret
              exact HI9.out.drawn (by omega) (by omega) (by omega) (by omega)
            · have hb2 : (t == 1) = false := by simp [ht3]
              clear ht3
              obtain ⟨zs, hz1', hz2', hz3'⟩ := hI0.values
              have HZ := Lib.hid hz3'
              have HZ2 := Lib.hid hz2'
              have HZ1 := Lib.hid hz1'
              have hlt0 : b0 < w7.heap.size := hI0.lt
              have hlg : g < w7.heap.size := World.block_lt_of_cell? _ _ hb0
              have hfg : w7.frozen? ⟨g, 0, none⟩ = false := by obtain ⟨vs, ho, _⟩ := HU.out.own; exact ho.frozenAt 0
              clear hz3' hz2' hz1' hI0
              go_wp2_with (at_builtin; go_must (refine wpList_append_grows _ rfl _ _ 47 rfl 3 i1 (.int .i64 0) 1 8 Try.underlying47 hj hy0 hy1 hy2 rfl (by decide) (some ⟨b0, 0, none⟩) k k zs rfl (fun h => by cases h) (by rw [HZ1.out]; omega) (fun b hb j u hu => by cases hb; rw [show ((⟨b0, 0, none⟩ : Addr).add j) = ⟨b0, j, none⟩ from by unfold Addr.add; split <;> simp_all]; exact (World.cell?_alloc_lt w7 _ ⟨b0, j, none⟩ hlt0).trans (HZ2.out j u hu)) ⟨w7.heap.size, 0, none⟩ 1 1 [.int .i64 0] rfl rfl (cell_one_new _ _ _) (by simp [Value.oneCell']) (by omega) (by unfold maxLen; omega) (by omega) ?_); go_must (intro v' w8 hown' hgrow; obtain ⟨g', cap', rfl⟩ := ownsRow_succ hown'); go_must (have HO9 := Lib.hid (HU.out.widened _ HZ1.out HZ.out hown' hgrow (N' := N + 200) (K := K) (by omega) (by omega) (by omega) (by omega))); go_must (have hc9 : w8.cell? ⟨g, 0, none⟩ = some (.slice (some ⟨b0, 0, none⟩) k k) := (World.cell?_of_block (hgrow.block g (by simp; omega) (by simp))).trans ((World.cell?_alloc_lt w7 _ ⟨g, 0, none⟩ hlg).trans hb0)); go_must (have hf9 : w8.frozen? ⟨g, 0, none⟩ = false := (World.frozen?_of_block (hgrow.block g (by simp; omega) (by simp))).trans ((World.frozen?_alloc_past _ g 0 hlg).trans hfg)); clear hown' hgrow)
              go_ret
              exact HO9.out

theorem graph_any (n₀ B N : Nat) (most odd : Int) (w : World) (hR : Rd n₀ B w N) (hN : N ≤ 500000) (h1 : 1 ≤ most) (h9 : most ≤ 9) (ho0 : 0 ≤ odd) (ho1 : odd ≤ 1000) :
    Calls Try.prog 30 #[.pointer (some ⟨B, 0, none⟩), .int .i64 most, .int .i64 odd] w (DrawnG n₀ B (N + 200) w) :=
  (graph_anyK n₀ B N 9 most odd w hR hN h1 h9 ho0 ho1 (by omega)).mono fun _ _ h => h.drawn

end Go.Proofs.Ytofpjepndhpciaa
