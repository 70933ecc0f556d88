/-
  spec.TestAt, walked; the draws of the laws of chapter 9 that start no goroutine.
-/
import Derived.Test.YtdaoifpmmgfpbaaXA
import Derived.Test.YtdaoifpmmgfpbaaZA
import Derived.Test.YtdaoifpmmgfpbaaM8
import Derived.Test.YtdaoifpmmgfpbaaZP
namespace Go.Proofs.Ytdaoifpmmgfpbaa
open Go.RowKit Go.Shelf Go.Deep

attribute [local go_sem] Oper.semAt_some

theorem litOne_below (z : Int) (w : World) : Below w.heap.size w ((w.alloc (.cells #[.int .i64 z] 3)).alloc (.cells #[.slice (some ⟨w.heap.size, 0, none⟩) 1 1] 31)) :=
  ((Below.refl _ _).alloc (Nat.le_refl _) _).alloc (by simp) _
theorem litOne (z : Int) (w : World) : OwnMat w.heap.size ((w.alloc (.cells #[.int .i64 z] 3)).alloc (.cells #[.slice (some ⟨w.heap.size, 0, none⟩) 1 1] 31)) (.slice (some ⟨w.heap.size + 1, 0, none⟩) 1 1) [[z]] := by
  have r1 : (w.alloc (.cells #[.int .i64 z] 3)).ownsRow w.heap.size 3 1 (.slice (some ⟨w.heap.size, 0, none⟩) 1 1) 1 [.int .i64 z] := World.ownsRow_lit (size := 1) w #[.int .i64 z] 1 (Nat.le_refl _) (by decide) rfl
  have r2 : ((w.alloc (.cells #[.int .i64 z] 3)).alloc (.cells #[.slice (some ⟨w.heap.size, 0, none⟩) 1 1] 31)).ownsRow w.heap.size 31 1 (.slice (some ⟨w.heap.size + 1, 0, none⟩) 1 1) 1 [.slice (some ⟨w.heap.size, 0, none⟩) 1 1] := by
    have := World.ownsRow_lit (size := 1) (base := w.heap.size) (e := 31) (w.alloc (.cells #[.int .i64 z] 3)) #[.slice (some ⟨w.heap.size, 0, none⟩) 1 1] 1 (by simp) (by decide) rfl
    rwa [World.size_alloc] at this
  refine ⟨_, r2, fun i x xs hx hxs => ?_⟩
  match i with
  | 0 =>
    cases hx; cases hxs
    exact r1.alloc _
  | i + 1 => simp at hx
theorem litOne_mat (z : Int) (w : World) : Mat ((w.alloc (.cells #[.int .i64 z] 3)).alloc (.cells #[.slice (some ⟨w.heap.size, 0, none⟩) 1 1] 31)).heap.size ((w.alloc (.cells #[.int .i64 z] 3)).alloc (.cells #[.slice (some ⟨w.heap.size, 0, none⟩) 1 1] 31)) (some ⟨w.heap.size + 1, 0, none⟩) [[z]] := OwnMat.mat (c := 1) (litOne z w)
/-- Two rows of two, laid down. -/
abbrev lit2 (a b c d : Int) (w : World) : World := ((w.alloc (.cells #[.int .i64 a, .int .i64 b] 3)).alloc (.cells #[.int .i64 c, .int .i64 d] 3)).alloc (.cells #[.slice (some ⟨w.heap.size, 0, none⟩) 2 2, .slice (some ⟨w.heap.size + 1, 0, none⟩) 2 2] 31)
theorem litTwo_below (a b c d : Int) (w : World) : Below w.heap.size w (lit2 a b c d w) :=
  (((Below.refl _ _).alloc (Nat.le_refl _) _).alloc (by simp) _).alloc (by simp; omega) _
theorem litTwo (a b c d : Int) (w : World) : OwnMat w.heap.size (lit2 a b c d w) (.slice (some ⟨w.heap.size + 1 + 1, 0, none⟩) 2 2) [[a, b], [c, d]] := by
  have r1 : (w.alloc (.cells #[.int .i64 a, .int .i64 b] 3)).ownsRow w.heap.size 3 1 (.slice (some ⟨w.heap.size, 0, none⟩) 2 2) 2 [.int .i64 a, .int .i64 b] := World.ownsRow_lit (size := 1) w #[.int .i64 a, .int .i64 b] 2 (Nat.le_refl _) (by decide) rfl
  have r2 : ((w.alloc (.cells #[.int .i64 a, .int .i64 b] 3)).alloc (.cells #[.int .i64 c, .int .i64 d] 3)).ownsRow w.heap.size 3 1 (.slice (some ⟨w.heap.size + 1, 0, none⟩) 2 2) 2 [.int .i64 c, .int .i64 d] := by
    have := World.ownsRow_lit (size := 1) (base := w.heap.size) (e := 3) (w.alloc (.cells #[.int .i64 a, .int .i64 b] 3)) #[.int .i64 c, .int .i64 d] 2 (by simp) (by decide) rfl
    rwa [World.size_alloc] at this
  have r3 : (lit2 a b c d w).ownsRow w.heap.size 31 1 (.slice (some ⟨w.heap.size + 1 + 1, 0, none⟩) 2 2) 2 [.slice (some ⟨w.heap.size, 0, none⟩) 2 2, .slice (some ⟨w.heap.size + 1, 0, none⟩) 2 2] := by
    have := World.ownsRow_lit (size := 1) (base := w.heap.size) (e := 31) ((w.alloc (.cells #[.int .i64 a, .int .i64 b] 3)).alloc (.cells #[.int .i64 c, .int .i64 d] 3)) #[.slice (some ⟨w.heap.size, 0, none⟩) 2 2, .slice (some ⟨w.heap.size + 1, 0, none⟩) 2 2] 2 (by simp; omega) (by decide) rfl
    rwa [World.size_alloc, World.size_alloc] at this
  refine ⟨_, r3, fun i x xs hx hxs => ?_⟩
  match i with
  | 0 =>
    cases hx; cases hxs
    exact (r1.alloc _).alloc _
  | 1 =>
    cases hx; cases hxs
    exact r2.alloc _
  | i + 2 => simp at hx

set_option maxHeartbeats 1000000 in
theorem specTst (z : Int) (w : World) : Calls Try.prog 16 #[.int .i64 z] w (MadeO (tstI z) w) := by
  by_cases h : 0 ≤ z ∧ z ≤ 17
  · obtain ⟨n, rfl⟩ : ∃ n : Nat, z = (n : Int) := ⟨z.toNat, by omega⟩
    have HIn := Lib.hid (in_yes (n : Int) 0 17 w h.1 h.2)
    have hn18 : n < 18 := by omega
    rw [tst_yes hn18]
    clear h
    by_cases h2 : n < 2
    · have d2 : decide ((n : Int) < 2) = true := decide_eq_true (by omega)
      have HT : Hid (tstL n = [[(n : Int)]]) := Lib.hid (if_pos h2)
      rw [HT.out]
      clear h2
      go_enter Try.func16, Try.ntmps16
      go_wp2_with fail
      refine HIn.out.mono ?_
      rintro e wq ⟨rfl, rfl⟩
      go_wp2_with fail
      go_ret
      exact ⟨_, 1, ⟨rfl, litOne_below _ _⟩, litOne _ _⟩
    · have d2 : decide ((n : Int) < 2) = false := decide_eq_false (by omega)
      have HT : Hid (tstL n = [[(((n - 2) % 2 : Nat) : Int), (((n - 2) / 2 % 2 : Nat) : Int)], [(((n - 2) / 4 % 2 : Nat) : Int), (((n - 2) / 8 % 2 : Nat) : Int)]]) := Lib.hid (by
        unfold tstL
        rw [if_neg h2])
      rw [HT.out]
      obtain ⟨m, hm⟩ : ∃ m, n - 2 = m := ⟨_, rfl⟩
      have hm16 : m < 16 := by omega
      obtain rfl : n = m + 2 := by omega
      have hm0 : ((m + 2 : Nat) : Int) - 2 = (m : Int) := by omega
      have q1 : Int.tdiv (m : Int) 2 = ((m / 2 : Nat) : Int) := rfl
      have q2 : Int.tdiv (m : Int) 4 = ((m / 4 : Nat) : Int) := rfl
      have q3 : Int.tdiv (m : Int) 8 = ((m / 8 : Nat) : Int) := rfl
      have p0 : Int.tmod (m : Int) 2 = ((m % 2 : Nat) : Int) := rfl
      have p1 : Int.tmod ((m / 2 : Nat) : Int) 2 = ((m / 2 % 2 : Nat) : Int) := rfl
      have p2 : Int.tmod ((m / 4 : Nat) : Int) 2 = ((m / 4 % 2 : Nat) : Int) := rfl
      rw [show m + 2 - 2 = m by omega]
      have h8 : m / 8 % 2 = m / 8 := Nat.mod_eq_of_lt (by omega)
      rw [h8]
      clear h2 HT hm h8 hn18
      go_enter Try.func16, Try.ntmps16
      go_wp2_with fail
      refine HIn.out.mono ?_
      rintro e wq ⟨rfl, rfl⟩
      go_wp2_with fail
      go_ret
      exact ⟨_, 2, ⟨rfl, litTwo_below _ _ _ _ _⟩, litTwo _ _ _ _ _⟩
  · have HI0 := in_any z 0 17 w
    rw [decide_eq_false h] at HI0
    have HIn := Lib.hid HI0
    clear HI0
    rw [tst_no h]
    clear h
    go_enter Try.func16, Try.ntmps16
    go_wp2_with fail
    refine HIn.out.mono ?_
    rintro e wq ⟨rfl, rfl⟩
    go_wp2_with fail
    go_ret
    exact ⟨_, 0, ⟨rfl, (Below.refl _ _).alloc (Nat.le_refl _) _⟩, OwnMat.start w (Nat.le_refl _)⟩

theorem specTstR (z : Int) (w : World) : Calls Try.prog 16 #[.int .i64 z] w (ReadM (tstI z) w) :=
  (specTst z w).mono fun _ _ h => by
    obtain ⟨a, c, h1, h2⟩ := h
    exact ⟨a, c, h1, h2.mat⟩

set_option maxRecDepth 100000 in
set_option maxHeartbeats 2000000 in
theorem drawTestAt_any (a : Option Addr) (n c : Nat) (w : World) (hn : n ≤ 1048576) (hc : n ≤ c) (hy : Bytes w.heap.size w a n) :
    Calls Try.prog 13 #[.slice a n c] w fun e w' => ∃ z : Int, e = .returned (.int .i64 z) ∧ (-1 ≤ z ∧ z ≤ 18) ∧ Below w.heap.size w w' := by
  go_enter Try.func13, Try.ntmps13
  go_wp2_with fail
  refine (open_any a n c w hn hc hy).mono ?_
  rintro e w1 ⟨rfl, hR1, hB⟩
  have hz1 := hB.size
  obtain ⟨B, hBe⟩ : ∃ B, w.heap.size = B := ⟨_, rfl⟩
  have HB1 := Lib.hid hB
  rw [hBe] at hR1 ⊢
  have HBE := Lib.hid hBe
  clear hB hBe hy
  go_wp2_with fail
  refine (pick_any B B (0) 20 w1 hR1 (by omega)).mono ?_
  rintro e w2 ⟨z, ⟨rfl, z0, z1, _⟩, hR2, hg2, -⟩
  have z2 := z1 (by omega)
  clear z1
  have HB2 := Lib.hid (HB1.out.grown hg2 hz1 (fun k e => by cases e; exact Nat.le_of_eq HBE.out))
  have hz2 := HB2.out.size
  clear hg2 hR1 HB1 hz1
  go_wp2_with fail
  go_ret
  exact ⟨_, rfl, ⟨by omega, by omega⟩, HB2.out⟩

set_option maxRecDepth 100000 in
set_option maxHeartbeats 2000000 in
theorem drawOnePartOk_any (a : Option Addr) (n c : Nat) (w : World) (hn : n ≤ 1048576) (hc : n ≤ c) (hy : Bytes w.heap.size w a n) :
    Calls Try.prog 31 #[.slice a n c] w (DrawnMK 5 w) := by
  go_enter Try.func31, Try.ntmps31
  go_wp2_with fail
  refine (open_any a n c w hn hc hy).mono ?_
  rintro e w1 ⟨rfl, hR1, hB⟩
  have hz1 := hB.size
  obtain ⟨B, hBe⟩ : ∃ B, w.heap.size = B := ⟨_, rfl⟩
  have HB1 := Lib.hid hB
  rw [hBe] at hR1 ⊢
  have HBE := Lib.hid hBe
  clear hB hBe hy
  go_wp2_with fail
  refine (graph_anyK B B (0) 5 5 9 w1 hR1 (by omega) (by omega) (by omega) (by omega) (by omega) (by omega)).mono ?_
  rintro e w2 ⟨aG, cG, G, rfl, hFG, hG2, hR2, hg2, hlG⟩
  have HFG := Lib.hid hFG
  have HG2 := Lib.hid hG2
  clear hFG hG2
  have HB2 := Lib.hid (HB1.out.grown hg2 hz1 (fun k e => by cases e; exact Nat.le_of_eq HBE.out))
  have hz2 := HB2.out.size
  clear hg2 hR1 HB1 hz1
  have LG := Lib.hid (HG2.out.laid hR2)
  go_wp2_with fail
  go_ret
  exact ⟨_, _, _, rfl, ⟨HFG.out, LG.out, hlG⟩, HB2.out⟩

end Go.Proofs.Ytdaoifpmmgfpbaa
