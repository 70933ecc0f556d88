/-
  The reader of a code (spec.l20Rd): one number is drawn. What the laws' own draws rest on.
-/
import Derived.Test.YtmohmecdhabapacA3
import Derived.Deep.Draws
import Derived.Deep.AppendLies
import Derived.Maps.AppendAt
namespace Go.Proofs.Ytmohmecdhabapac
open Go.RowKit Go.Shelf

theorem xor_i64_nat (a b : Nat) (ha : a < 4611686018427387904) (hb : b < 4611686018427387904) : bits .xor .i64 (a : Int) (b : Int) = ((a ^^^ b : Nat) : Int) := by
  show IntKind.i64.wrap ((BitVec.ofInt 64 (a : Int) ^^^ BitVec.ofInt 64 (b : Int)).toNat : Int) = _
  rw [BitVec.toNat_xor, ofInt_u64 a (by omega), ofInt_u64 b (by omega)]
  have h1 : a ^^^ b < 2 ^ 62 := Nat.xor_lt_two_pow (by omega) (by omega)
  simp [IntKind.wrap, IntKind.bits, IntKind.signed]
  omega

theorem xor_nn (X : Int) (h0 : 0 ≤ X) (h1 : X ≤ 4000000000000000000) : 0 ≤ bits .xor .i64 X (X / 64) := by
  obtain ⟨k, rfl⟩ := Int.eq_ofNat_of_zero_le h0
  have e : ((k : Int) / 64) = ((k / 64 : Nat) : Int) := by omega
  rw [e, xor_i64_nat k (k / 64) (by omega) (by omega)]
  omega

/-- THE BYTES that a code holds: n of them from a on, in a block below n₀. -/
def Bytes (n₀ : Nat) (W : World) (a : Option Addr) (n : Nat) : Prop :=
  0 < n → ∃ b o, a = some ⟨b, o, none⟩ ∧ b < n₀ ∧ ∀ j, j < n → ∃ v : Int, W.cell? ⟨b, o + j, none⟩ = some (.int .u8 v) ∧ 0 ≤ v ∧ v ≤ 255
theorem Bytes.keep {n₀ n : Nat} {A B : World} {a : Option Addr} (h : Bytes n₀ A a n) (hk : ∀ p : Addr, p.block < n₀ → B.cell? p = A.cell? p) : Bytes n₀ B a n := fun hn => by
  obtain ⟨b, o, e, hb, hc⟩ := h hn
  refine ⟨b, o, e, hb, fun j hj => ?_⟩
  obtain ⟨v, h1, h2⟩ := hc j hj
  exact ⟨v, (hk ⟨b, o + j, none⟩ hb).trans h1, h2⟩

/-- THE READER lies in block B: its code, and a place of at most N. -/
def Rd (n₀ B : Nat) (W : World) (N : Nat) : Prop :=
  ∃ (a : Option Addr) (n c p : Nat), W.heap[B]? = some (.cells #[.slice a n c, .int .i64 (p : Int)] 69 (0, 0)) ∧ n ≤ 2000 ∧ p ≤ N ∧ n₀ ≤ B ∧ Bytes n₀ W a n
theorem Rd.lt {n₀ B N : Nat} {W : World} (h : Rd n₀ B W N) : B < W.heap.size := by
  obtain ⟨a, n, c, p, h1, _⟩ := h
  exact (Array.getElem?_eq_some_iff.1 h1).1
theorem Rd.more {n₀ B N N' : Nat} {W : World} (h : Rd n₀ B W N) (hN : N ≤ N') : Rd n₀ B W N' := by
  obtain ⟨a, n, c, p, h1, h2, h3, h4⟩ := h
  exact ⟨a, n, c, p, h1, h2, by omega, h4⟩
theorem Rd.keep {n₀ B N : Nat} {W W' : World} (h : Rd n₀ B W N) {row : Option Nat} (hg : W.grownBy W' row) (hr : ∀ r, row = some r → B < r) : Rd n₀ B W' N := by
  have hlt := h.lt
  obtain ⟨a, n, c, p, h1, h2, h3, h4, h5⟩ := h
  refine ⟨a, n, c, p, (hg.block B hlt (fun e => by have := hr B e.symm; omega)).trans h1, h2, h3, h4, h5.keep fun q hq => World.cell?_of_block (hg.block q.block (by omega) (fun e => by have := hr _ e.symm; omega))⟩

/-- A NUMBER IS DRAWN: x in 0 .. m - 1; nothing but the reader's place has turned. -/
def Drawn (n₀ B N : Nat) (m : Int) (w : World) (e : Ending) (w' : World) : Prop :=
  ∃ x : Int, (e = .returned (.int .i64 x) ∧ 0 ≤ x ∧ (1 ≤ m → x < m) ∧ (m < 1 → x = 0)) ∧ Rd n₀ B w' (N + 1) ∧ w.grownBy w' (some B) ∧ w'.heap.size = w.heap.size

theorem rd_cells {B : Nat} {W : World} {a : Option Addr} {n c p : Nat} (h : W.heap[B]? = some (.cells #[.slice a n c, .int .i64 (p : Int)] 69 (0, 0))) :
    W.cell? ⟨B, 0, none⟩ = some (.slice a n c) ∧ W.cell? ⟨B, 1, none⟩ = some (.int .i64 (p : Int)) ∧ (∀ i, W.frozen? ⟨B, i, none⟩ = false) := by
  refine ⟨by simp [World.cell?, h], by simp [World.cell?, h], fun i => by simp [World.frozen?, h]⟩

theorem drawn_mk {n₀ B N : Nat} {w : World} {a : Option Addr} {n c p : Nat} (h : w.heap[B]? = some (.cells #[.slice a n c, .int .i64 (p : Int)] 69 (0, 0))) (hn : n ≤ 2000) (hp : p ≤ N) (hb : n₀ ≤ B) (hy : Bytes n₀ w a n) (k : Nat) :
    Rd n₀ B ((w.setCell ⟨B, 1, none⟩ (.int .i64 ((p : Int) + 1))).drewN k) (N + 1) ∧ w.grownBy ((w.setCell ⟨B, 1, none⟩ (.int .i64 ((p : Int) + 1))).drewN k) (some B) ∧ ((w.setCell ⟨B, 1, none⟩ (.int .i64 ((p : Int) + 1))).drewN k).heap.size = w.heap.size := by
  have hg : w.grownBy (w.setCell ⟨B, 1, none⟩ (.int .i64 ((p : Int) + 1))) (some B) :=
    ⟨rfl, rfl, rfl, by simp, fun i hi hne => Below.heap_setCell w ⟨B, 1, none⟩ _ i (fun e => hne (by rw [e]))⟩
  refine ⟨⟨a, n, c, p + 1, ?_, hn, by omega, hb, hy.keep fun q hq => hg.cell_far q ?_ ?_⟩, ⟨hg.os, hg.tape, hg.output, hg.size, hg.block⟩, by simp⟩
  · show (w.heap.modify B _)[B]? = _
    simp [Array.getElem?_modify, h]
  · have := (Array.getElem?_eq_some_iff.1 h).1; omega
  · intro e; cases e; omega

set_option maxRecDepth 100000 in
set_option maxHeartbeats 2000000 in
theorem pick_zero (n₀ B N : Nat) (m : Int) (w : World) (hR : Rd n₀ B w N) (hN : N ≤ 1000000) (hm : m < 1) :
    Calls Try.prog 30 #[.pointer (some ⟨B, 0, none⟩), .int .i64 m] w (Drawn n₀ B N m w) := by
  obtain ⟨a, n, c, p, h1, h2, h3, h4, h5⟩ := hR
  have H1 := Lib.hid h1
  obtain ⟨c0, c1, c2⟩ := rd_cells h1
  clear h1
  go_enter Try.func30, Try.ntmps30
  go_wp2
  go_ret
  exact ⟨0, ⟨rfl, by omega, by omega, by omega⟩, drawn_mk H1.out h2 h3 h4 h5 0⟩

set_option maxRecDepth 100000 in
set_option maxHeartbeats 2000000 in
theorem pick_none (n₀ B N : Nat) (m : Int) (w : World) (a : Option Addr) (c p : Nat) (h1 : w.heap[B]? = some (.cells #[.slice a 0 c, .int .i64 (p : Int)] 69 (0, 0))) (h3 : p ≤ N) (h4 : n₀ ≤ B) (hN : N ≤ 1000000) (hm : 1 ≤ m) :
    Calls Try.prog 30 #[.pointer (some ⟨B, 0, none⟩), .int .i64 m] w (Drawn n₀ B N m w) := by
  have H1 := Lib.hid h1
  obtain ⟨c0, c1, c2⟩ := rd_cells h1
  clear h1
  go_enter Try.func30, Try.ntmps30
  go_wp2
  go_ret
  exact ⟨0, ⟨rfl, by omega, by omega, by omega⟩, drawn_mk H1.out (by omega) h3 h4 (fun h => absurd h (by omega)) 0⟩

set_option maxRecDepth 100000 in
set_option maxHeartbeats 2000000 in
theorem pick_in (n₀ B N : Nat) (m : Int) (w : World) (b o n c p : Nat) (h1 : w.heap[B]? = some (.cells #[.slice (some ⟨b, o, none⟩) n c, .int .i64 (p : Int)] 69 (0, 0))) (hn : n ≤ 2000) (h3 : p ≤ N) (h4 : n₀ ≤ B) (h5 : Bytes n₀ w (some ⟨b, o, none⟩) n)
    (_hN : N ≤ 1000000) (hm : 1 ≤ m) (hpn : p < n) (v : Int) (hv : w.cell? ⟨b, o + p, none⟩ = some (.int .u8 v)) (hv0 : 0 ≤ v) (hv1 : v ≤ 255) (hbB : b ≠ B) :
    Calls Try.prog 30 #[.pointer (some ⟨B, 0, none⟩), .int .i64 m] w (Drawn n₀ B N m w) := by
  have H1 := Lib.hid h1
  obtain ⟨c0, c1, c2⟩ := rd_cells h1
  have hv' : ∀ u, (w.setCell ⟨B, 1, none⟩ u).cell? ⟨b, o + p, none⟩ = some (.int .u8 v) := fun u => (World.cell?_setCell_other w ⟨B, 1, none⟩ ⟨b, o + p, none⟩ u (fun e => hbB (congrArg Addr.block e).symm)).trans hv
  clear h1 hv hbB
  have hn0 : ((n : Int) == 0) = false := by simp; omega
  go_enter Try.func30, Try.ntmps30
  go_wp2
  go_ret
  refine ⟨_, ⟨rfl, ?_, fun _ => ?_, by omega⟩, drawn_mk H1.out hn h3 h4 h5 0⟩
  · exact Int.emod_nonneg _ (by omega)
  · exact Int.emod_lt_of_pos _ (by omega)

set_option maxRecDepth 100000 in
set_option maxHeartbeats 4000000 in
theorem pick_past (n₀ B N : Nat) (m : Int) (w : World) (b o n c p : Nat) (h1 : w.heap[B]? = some (.cells #[.slice (some ⟨b, o, none⟩) n c, .int .i64 (p : Int)] 69 (0, 0))) (hn : n ≤ 2000) (h3 : p ≤ N) (h4 : n₀ ≤ B) (h5 : Bytes n₀ w (some ⟨b, o, none⟩) n)
    (hN : N ≤ 1000000) (hm : 1 ≤ m) (hnp : n ≤ p) (h0n : 0 < n) (v : Int) (hv : w.cell? ⟨b, o + p % n, none⟩ = some (.int .u8 v)) (hv0 : 0 ≤ v) (hv1 : v ≤ 255)
    (u : Int) (hu : w.cell? ⟨b, o + (p * 7 + 3) % n, none⟩ = some (.int .u8 u)) (hu0 : 0 ≤ u) (hu1 : u ≤ 255) (hbB : b ≠ B) :
    Calls Try.prog 30 #[.pointer (some ⟨B, 0, none⟩), .int .i64 m] w (Drawn n₀ B N m w) := by
  have H1 := Lib.hid h1
  obtain ⟨c0, c1, c2⟩ := rd_cells h1
  have hv' : ∀ y, (w.setCell ⟨B, 1, none⟩ y).cell? ⟨b, o + p % n, none⟩ = some (.int .u8 v) := fun y => (World.cell?_setCell_other w ⟨B, 1, none⟩ ⟨b, o + p % n, none⟩ y (fun e => hbB (congrArg Addr.block e).symm)).trans hv
  have hu' : ∀ y, (w.setCell ⟨B, 1, none⟩ y).cell? ⟨b, o + (p * 7 + 3) % n, none⟩ = some (.int .u8 u) := fun y => (World.cell?_setCell_other w ⟨B, 1, none⟩ ⟨b, o + (p * 7 + 3) % n, none⟩ y (fun e => hbB (congrArg Addr.block e).symm)).trans hu
  clear h1 hv hu hbB
  have hn0 : ((n : Int) == 0) = false := by simp; omega
  have hq0 : 0 ≤ (p : Int) / n := Int.ediv_nonneg (by omega) (by omega)
  have hq1 : (p : Int) / n ≤ p := Int.ediv_le_self _ (by omega)
  have hr0 : 0 ≤ (p : Int) % n := Int.emod_nonneg _ (by omega)
  have hr1 : (p : Int) % n < n := Int.emod_lt_of_pos _ (by omega)
  have hs0 : 0 ≤ ((p : Int) * 7 + 3) % n := Int.emod_nonneg _ (by omega)
  have hs1 : ((p : Int) * 7 + 3) % n < n := Int.emod_lt_of_pos _ (by omega)
  go_enter Try.func30, Try.ntmps30
  go_wp2
  go_quiet (fail)
  go_wp2
  go_ret
  refine ⟨_, ⟨rfl, ?_, fun _ => ?_, by omega⟩, drawn_mk H1.out hn h3 h4 h5 _⟩
  · exact Int.tmod_nonneg _ (xor_nn _ (by omega) (by omega))
  · exact Int.tmod_lt_of_pos _ (by omega)

theorem pick_any (n₀ B N : Nat) (m : Int) (w : World) (hR : Rd n₀ B w N) (hN : N ≤ 1000000) :
    Calls Try.prog 30 #[.pointer (some ⟨B, 0, none⟩), .int .i64 m] w (Drawn n₀ B N m w) := by
  by_cases hm : m < 1
  · exact pick_zero n₀ B N m w hR hN hm
  obtain ⟨a, n, c, p, h1, h2, h3, h4, h5⟩ := hR
  rcases Nat.eq_zero_or_pos n with rfl | hn
  · exact pick_none n₀ B N m w a c p h1 h3 h4 hN (by omega)
  obtain ⟨b, o, rfl, hb, hc⟩ := h5 hn
  by_cases hp : p < n
  · obtain ⟨v, hv, hv0, hv1⟩ := hc p hp
    exact pick_in n₀ B N m w b o n c p h1 h2 h3 h4 h5 hN (by omega) hp v hv hv0 hv1 (by omega)
  · obtain ⟨v, hv, hv0, hv1⟩ := hc (p % n) (Nat.mod_lt _ hn)
    obtain ⟨u, hu, hu0, hu1⟩ := hc ((p * 7 + 3) % n) (Nat.mod_lt _ hn)
    exact pick_past n₀ B N m w b o n c p h1 h2 h3 h4 h5 hN (by omega) (by omega) hn v hv hv0 hv1 u hu hu0 hu1 (by omega)

/-- A YES OR NO IS DRAWN. -/
def DrawnB (n₀ B N : Nat) (w : World) (e : Ending) (w' : World) : Prop :=
  ∃ x : Bool, e = .returned (.bool x) ∧ Rd n₀ B w' (N + 1) ∧ w.grownBy w' (some B) ∧ w'.heap.size = w.heap.size

set_option maxHeartbeats 400000 in
theorem odd_any (n₀ B N : Nat) (m : Int) (w : World) (hR : Rd n₀ B w N) (hN : N ≤ 1000000) (hm : m ≤ 1000000) (hm0 : 0 ≤ m) :
    Calls Try.prog 31 #[.pointer (some ⟨B, 0, none⟩), .int .i64 m] w (DrawnB n₀ B N w) := by
  by_cases h0 : 0 < m
  · go_enter Try.func31, Try.ntmps31
    go_wp2_with (go_at_call 30; refine (pick_any _ _ _ _ _ hR hN).mono ?_; rintro e w' ⟨x, ⟨rfl, hx0, hx1, hx2⟩, hR', hg, hz⟩; have HH := Lib.hid (And.intro hR' (And.intro hg hz)); clear hR' hg hz hR)
    go_ret
    exact ⟨_, rfl, HH.out⟩
  · go_enter Try.func31, Try.ntmps31
    go_wp2_with fail
    go_ret
    exact ⟨_, rfl, hR.more (by omega), World.grownBy.refl _ _, rfl⟩

end Go.Proofs.Ytmohmecdhabapac
