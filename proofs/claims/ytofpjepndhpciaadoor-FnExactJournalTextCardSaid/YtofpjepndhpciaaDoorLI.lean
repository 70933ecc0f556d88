/-
  The laws' helpers for lists of deeds: sizes, copies, equality.
-/
import Derived.Test.YtofpjepndhpciaaDoorLF
import Derived.Test.YtofpjepndhpciaaDoorLH
import Derived.StillTailTactics
namespace Go.Proofs.YtofpjepndhpciaaDoor
open Go.RowKit Go.Shelf Go.Deep

theorem szDs_any (a : Option Addr) (n c : Nat) (left : Int) (w : World) (hn : n ≤ 9223372036854775807) (h0 : 0 ≤ left) (h1 : left ≤ 1048576) :
    Calls Tryd.prog 24 #[.slice a n c, .int .i64 left] w fun e w' => ∃ r : Int, (e = .returned (.int .i64 r) ∧ w' = w) ∧ (0 ≤ r → (n : Int) ≤ left) := by
  have hw : IntKind.i64.wrap (left - (n : Int)) = left - (n : Int) := by simp [IntKind.wrap, IntKind.bits, IntKind.signed]; omega
  by_cases h : left - (n : Int) < 0
  · go_enter Tryd.func24, Tryd.ntmps24
    go_wp2_with fail
    go_ret
    exact ⟨-1, ⟨rfl, rfl⟩, fun h => by omega⟩
  · go_enter Tryd.func24, Tryd.ntmps24
    go_wp2_with fail
    go_ret
    exact ⟨_, ⟨rfl, rfl⟩, fun _ => by omega⟩

/-- THE BLOCK b HOLDS THE FIRST k DEEDS, zeros behind. -/
def RowD (W : World) (b : Nat) (l : List Dd) (k : Nat) : Prop := W.rowIs b 24 (l.length * 3) (fun j => if j < k * 3 then ((ddC l)[j]?.getD (.int .i64 0)) else .int .i64 0)
theorem RowD.start (w : World) (l : List Dd) : RowD (w.alloc (.cells (madeCells #[.int .i64 0, .int .i64 0, .int .i64 0] (l.length * 3)) 24)) w.heap.size l 0 := by
  refine ⟨_, heap_alloc_new w _, size_madeCells _ _, fun i hi => ?_⟩
  show _ = some (if i < 0 * 3 then _ else _)
  rw [if_neg (by omega)]
  have h3 : i % 3 = 0 ∨ i % 3 = 1 ∨ i % 3 = 2 := by omega
  rcases h3 with h | h | h <;> simp [madeCells, hi, h]
theorem RowD.cells {W : World} {b k : Nat} {l : List Dd} (h : RowD W b l k) (hk : k < l.length) : (W.cell? ⟨b, k * 3, none⟩ = some (.int .i64 0) ∧ W.cell? ⟨b, k * 3 + 1, none⟩ = some (.int .i64 0) ∧ W.cell? ⟨b, k * 3 + 2, none⟩ = some (.int .i64 0)) ∧ ∀ i, W.frozen? ⟨b, i, none⟩ = false := by
  have hc := fun (i : Nat) (hi : i < l.length * 3) => World.rowIs.cell (i := i) h hi
  refine ⟨⟨?_, ?_, ?_⟩, World.rowIs.frozen h⟩
  · rw [hc _ (by omega), if_neg (by omega)]
  · rw [hc _ (by omega), if_neg (by omega)]
  · rw [hc _ (by omega), if_neg (by omega)]
abbrev putD (W : World) (b k : Nat) (d : Dd) : World := ((W.setCell ⟨b, k * 3, none⟩ (.int .i64 d.k)).setCell ⟨b, k * 3 + 1, none⟩ (.int .i64 d.a)).setCell ⟨b, k * 3 + 2, none⟩ (.int .i64 d.b)
theorem RowD.put {W : World} {b k : Nat} {l : List Dd} {d : Dd} (h : RowD W b l k) (hd : l[k]? = some d) :
    (W.cell? ⟨b, k * 3, none⟩ = some (.int .i64 0) ∧ W.frozen? ⟨b, k * 3, none⟩ = false) ∧
    ((W.setCell ⟨b, k * 3, none⟩ (.int .i64 d.k)).cell? ⟨b, k * 3 + 1, none⟩ = some (.int .i64 0) ∧ (W.setCell ⟨b, k * 3, none⟩ (.int .i64 d.k)).frozen? ⟨b, k * 3 + 1, none⟩ = false) ∧
    (((W.setCell ⟨b, k * 3, none⟩ (.int .i64 d.k)).setCell ⟨b, k * 3 + 1, none⟩ (.int .i64 d.a)).cell? ⟨b, k * 3 + 2, none⟩ = some (.int .i64 0) ∧ ((W.setCell ⟨b, k * 3, none⟩ (.int .i64 d.k)).setCell ⟨b, k * 3 + 1, none⟩ (.int .i64 d.a)).frozen? ⟨b, k * 3 + 2, none⟩ = false) ∧ RowD (putD W b k d) b l (k + 1) := by
  have hk := (List.getElem?_eq_some_iff.1 hd).1
  obtain ⟨c0, _⟩ := h.cells hk
  have h1 := World.rowIs.set h (k * 3) (.int .i64 d.k)
  have h2 := World.rowIs.set h1 (k * 3 + 1) (.int .i64 d.a)
  have h3 := World.rowIs.set h2 (k * 3 + 2) (.int .i64 d.b)
  obtain ⟨e1, e2, e3⟩ := ddC_get hd
  refine ⟨⟨c0.1, World.rowIs.frozen h _⟩, ⟨?_, World.rowIs.frozen h1 _⟩, ⟨?_, World.rowIs.frozen h2 _⟩, h3.congr fun j hj => ?_⟩
  · rw [World.rowIs.cell h1 (i := k * 3 + 1) (by omega), if_neg (by omega), if_neg (by omega)]
  · rw [World.rowIs.cell h2 (i := k * 3 + 2) (by omega), if_neg (by omega), if_neg (by omega), if_neg (by omega)]
  · by_cases j2 : j = k * 3 + 2
    · subst j2; rw [if_pos rfl, if_pos (by omega), e3]; rfl
    · rw [if_neg j2]
      by_cases j1 : j = k * 3 + 1
      · subst j1; rw [if_pos rfl, if_pos (by omega), e2]; rfl
      · rw [if_neg j1]
        by_cases j0 : j = k * 3
        · subst j0; rw [if_pos rfl, if_pos (by omega), e1]; rfl
        · rw [if_neg j0]
          by_cases jl : j < k * 3
          · rw [if_pos jl, if_pos (by omega)]
          · rw [if_neg jl, if_neg (by omega)]
theorem RowD.deeds {W : World} {b : Nat} {l : List Dd} (h : RowD W b l l.length) : Deeds W.heap.size W (some ⟨b, 0, none⟩) l := fun _ => by
  refine ⟨b, 0, rfl, World.rowIs.lt h, fun i d hd => ?_⟩
  have hi := (List.getElem?_eq_some_iff.1 hd).1
  obtain ⟨e1, e2, e3⟩ := ddC_get hd
  rw [Nat.zero_add]
  refine ⟨?_, ?_, ?_⟩
  · rw [World.rowIs.cell h (i := i * 3) (by omega), if_pos (by omega), e1]; rfl
  · rw [World.rowIs.cell h (i := i * 3 + 1) (by omega), if_pos (by omega), e2]; rfl
  · rw [World.rowIs.cell h (i := i * 3 + 2) (by omega), if_pos (by omega), e3]; rfl
/-- A COPY OF THE DEEDS LIES IN A NEW BLOCK. -/
def CopyD (l : List Dd) (w : World) (e : Ending) (w' : World) : Prop := e = .returned (.slice (some ⟨w.heap.size, 0, none⟩) l.length l.length) ∧ Below w.heap.size w w' ∧ Deeds w'.heap.size w' (some ⟨w.heap.size, 0, none⟩) l

set_option maxRecDepth 100000 in
set_option maxHeartbeats 4000000 in
theorem toDs_any (a : Option Addr) (c : Nat) (l : List Dd) (n₀ : Nat) (w : World) (hM : Deeds n₀ w a l) (hl : l.length ≤ 1048576) (hn : n₀ ≤ w.heap.size) :
    Calls Tryd.prog 25 #[.slice a l.length c] w (CopyD l w) := by
  obtain ⟨i1, hj, hy0, hy1, hy2⟩ := info_parts infoDeed
  have hmk : ∀ W : World, (Instr.makeSlice 32 (.int .i64 (l.length : Int)) (.int .i64 (l.length : Int))).run Tryd.prog W = .ok (.slice (some ⟨W.heap.size, 0, none⟩) l.length l.length) (W.alloc (.cells (madeCells #[.int .i64 0, .int .i64 0, .int .i64 0] (l.length * 3)) 24)) := fun W => by
    have h := run_make (P := Tryd.prog) W 32 24 i1 (.agg #[.int .i64 0, .int .i64 0, .int .i64 0]) Tryd.underlying32 hj hy0 .i64 .i64 l.length l.length (by omega) (Int.le_refl _) (by rw [hy2]; omega) (by omega)
    simp only [Int.toNat_natCast, hy1] at h
    exact h
  go_enter Tryd.func25, Tryd.ntmps25
  go_wp2_with fail
  clear hmk
  go_loopw [4] (fun i wr => ∃ k : Nat, k ≤ l.length ∧ i = .int .i64 k ∧ Below w.heap.size w wr ∧ Hid (RowD wr w.heap.size l k)) (fun i _ => l.length - (intOf i).toNat)
  case atStart => exact ⟨0, Nat.zero_le _, rfl, (Below.refl _ _).alloc (Nat.le_refl _) _, Lib.hid (RowD.start w l)⟩
  case round =>
    obtain ⟨k, hk, rfl, hB, HR⟩ := hrel
    by_cases hlt : k < l.length
    · obtain ⟨b, o, d, rfl, hb, HD, p1, p2, p3⟩ := hM.at_ hlt
      have q1 : wr.cell? ⟨b, o + k * 3, none⟩ = some (.int .i64 d.k) := (hB.cell (p := ⟨b, o + k * 3, none⟩) (by show b < _; omega)).trans p1
      have q2 : wr.cell? ⟨b, o + k * 3 + 1, none⟩ = some (.int .i64 d.a) := (hB.cell (p := ⟨b, o + k * 3 + 1, none⟩) (by show b < _; omega)).trans p2
      have q3 : wr.cell? ⟨b, o + k * 3 + 2, none⟩ = some (.int .i64 d.b) := (hB.cell (p := ⟨b, o + k * 3 + 2, none⟩) (by show b < _; omega)).trans p3
      have hkl : (k : Int) < (l.length : Int) := by omega
      have hws := hB.size
      clear p1 p2 p3
      go_wp2_with fail
      refine (toDeed_any d.k d.a d.b wr).mono ?_
      rintro e w3 ⟨rfl, hB3⟩
      have hR3 : RowD w3 w.heap.size l k := World.rowIs.of_block HR.out (hB3.block _ (World.rowIs.lt HR.out))
      have HB4 := Lib.hid (hB.trans (hB3.mono hws))
      obtain ⟨⟨s1, s2⟩, ⟨s3, s4⟩, ⟨s5, s6⟩, hR4⟩ := hR3.put HD.out
      have HR4 := Lib.hid hR4
      clear q1 q2 q3 hB3 hR3 hR4 HR
      go_wp2_with fail
      go_roundw
      case rel => exact ⟨k + 1, by omega, by go_num, ((HB4.out.setCell (p := ⟨w.heap.size, k * 3, none⟩) (Nat.le_refl _) _).setCell (p := ⟨w.heap.size, k * 3 + 1, none⟩) (Nat.le_refl _) _).setCell (p := ⟨w.heap.size, k * 3 + 2, none⟩) (Nat.le_refl _) _, HR4⟩
      case measure => simp [intOf]; omega
    · obtain rfl : k = l.length := by omega
      go_wp2_with fail
      go_ret
      exact ⟨rfl, hB, HR.out.deeds⟩

set_option maxRecDepth 100000 in
set_option maxHeartbeats 4000000 in
theorem eqDs_same (a b : Option Addr) (c c' : Nat) (l : List Dd) (w : World) (hA : Deeds w.heap.size w a l) (hB : Deeds w.heap.size w b l) (hl : l.length ≤ 1048576) :
    Calls Tryd.prog 26 #[.slice a l.length c, .slice b l.length c'] w (Ans (.bool true) w) := by
  have hll : ((l.length : Int) != (l.length : Int)) = false := bne_self_eq_false _
  go_enter Tryd.func26, Tryd.ntmps26
  go_wp2_with fail
  go_loopw [5] (fun i wr => ∃ k : Nat, k ≤ l.length ∧ i = .int .i64 k ∧ Below w.heap.size w wr) (fun i _ => l.length - (intOf i).toNat)
  case atStart => exact ⟨0, Nat.zero_le _, rfl, Below.refl _ _⟩
  case round =>
    obtain ⟨k, hk, rfl, hBw⟩ := hrel
    by_cases hlt : k < l.length
    · obtain ⟨b1, o1, d, rfl, hb1, HD1, p1, p2, p3⟩ := (hA.below hBw).at_ hlt
      obtain ⟨b2, o2, d2, rfl, hb2, HD2, q1, q2, q3⟩ := (hB.below hBw).at_ hlt
      obtain rfl : d = d2 := Option.some.inj (HD1.out.symm.trans HD2.out)
      have hkl : (k : Int) < (l.length : Int) := by omega
      have hws := hBw.size
      clear HD1 HD2 hll
      go_wp2_with fail
      go_still_tail 8, (by kernel_rfl)
      go_wp2_with fail
      refine (eqDeed_any d d _).mono ?_
      rw [eqD_yes]
      rintro e w6 ⟨rfl, hB6⟩
      have HB7 := Lib.hid ((below_drewN hBw 1).trans (hB6.mono hws))
      clear hB6 p1 p2 p3 q1 q2 q3
      go_wp2_with fail
      go_roundw
      case rel => exact ⟨k + 1, by omega, by go_num, HB7.out⟩
      case measure => simp [intOf]; omega
    · have hkl : ¬ (k : Int) < (l.length : Int) := by omega
      go_wp2_with fail
      go_ret
      exact ⟨rfl, hBw⟩

end Go.Proofs.YtofpjepndhpciaaDoor
