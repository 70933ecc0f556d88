/-
  Several texts in one.
  Two small graphs drawn (l20Little), a map drawn if there is any (l20Some); DrawTimesOf, DrawSideOf, DrawSquareOf.
  A map drawn if there is any: l20Some; DrawPairedOf, DrawJoinedOf.
-/
import Derived.Test.YtimjijbjadkfnaaZK
import Derived.Test.YtimjijbjadkfnaaD6
import Derived.Test.YtimjijbjadkfnaaC2
import Derived.Test.YtimjijbjadkfnaaZA
namespace Go.Proofs.Ytimjijbjadkfnaa
open Go.RowKit Go.Shelf Go.Deep

/-- TWO GRAPHS, or what are none, ARE DRAWN, each of at most m nodes. -/
def DrawnPK (n₀ B N m : Nat) (w : World) (e : Ending) (w' : World) : Prop :=
  ∃ (a : Option Addr) (c : Nat) (xss : List (List Int)) (a' : Option Addr) (c' : Nat) (yss : List (List Int)), e = .returned (.tuple #[.slice a xss.length c, .slice a' yss.length c']) ∧
    (Fit xss ∧ Mat w'.heap.size (w'.setRow B #[]) a xss ∧ xss.length ≤ m) ∧ (Fit yss ∧ Mat w'.heap.size (w'.setRow B #[]) a' yss ∧ yss.length ≤ m) ∧ Rd n₀ B w' N ∧ w.grownBy w' (some B)

set_option maxHeartbeats 1000000 in
theorem little_any (n₀ B N : Nat) (odd : Int) (w : World) (hR : Rd n₀ B w N) (hN : N ≤ 300000) (ho0 : 0 ≤ odd) (ho1 : odd ≤ 1000) :
    Calls Try.prog 54 #[.pointer (some ⟨B, 0, none⟩), .int .i64 odd] w (DrawnPK n₀ B (N + 400) 3 w) := by
  have hBw := hR.lt
  go_enter Try.func54, Try.ntmps54
  go_wp2_with fail
  refine (graph_anyK n₀ B N 3 3 odd w hR (by omega) (by omega) (by omega) (by omega) (by omega) (by omega)).mono ?_
  rintro e w1 ⟨a1, c1, xss, rfl, hF1, hM1, hR1, hg1, hl1⟩
  have HF1 := Lib.hid hF1
  have HM1 := Lib.hid hM1
  clear hF1 hM1
  go_wp2_with fail
  refine (graph_anyK n₀ B (N + 200) 3 3 odd w1 hR1 (by omega) (by omega) (by omega) (by omega) (by omega) (by omega)).mono ?_
  rintro e w2 ⟨a2, c2, yss, rfl, hF2, hM2, hR2, hg2, hl2⟩
  have HF2 := Lib.hid hF2
  have HM2 := Lib.hid hM2
  have HX2 := Lib.hid (HM1.out.erasedKept hR1 hg2 hg2.size)
  have HG2 := Lib.hid (grow_B hg1 hg2 (fun r e => by cases e; exact .inr rfl))
  have HR2 := Lib.hid hR2
  clear hF2 hM2 HM1 hg1 hg2 hR1 hR hR2
  go_wp2_with fail
  go_ret2
  exact ⟨_, _, _, _, _, _, rfl, ⟨HF1.out, HX2.out, hl1⟩, ⟨HF2.out, HM2.out, hl2⟩, HR2.out, HG2.out⟩

/-- A GRAPH, or what is none, of at most m nodes IS DRAWN. -/
def DrawnMK (m : Nat) (w : World) (e : Ending) (w' : World) : Prop :=
  ∃ (a : Option Addr) (c : Nat) (xss : List (List Int)), e = .returned (.slice a xss.length c) ∧ (Fit xss ∧ Mat w'.heap.size w' a xss ∧ xss.length ≤ m) ∧ Below w.heap.size w w'
set_option maxHeartbeats 400000 in
theorem drawSquareOf_any (a : Option Addr) (n c : Nat) (w : World) (hn : n ≤ 1048576) (hc : n ≤ c) (hy : Bytes w.heap.size w a n) :
    Calls Try.prog 35 #[.slice a n c] w (DrawnMK 4 w) := by
  go_enter Try.func35, Try.ntmps35
  go_wp2_with fail
  refine (open_any a n c w hn hc hy).mono ?_
  rintro e w1 ⟨rfl, hR, hB⟩
  have hz1 := hB.size
  go_wp2_with fail
  refine (graph_anyK w.heap.size w.heap.size 0 4 4 9 w1 hR (by omega) (by omega) (by omega) (by omega) (by omega) (by omega)).mono ?_
  rintro e w2 ⟨a2, c2, xss, rfl, hF, hM, hR2, hg2, hl⟩
  have HB2 := Lib.hid (hB.grown hg2 hz1 (fun k e => by cases e; exact Nat.le_refl _))
  have HF := Lib.hid hF
  have HM := Lib.hid (hM.laid hR2)
  clear hF hM hg2 hR2 hB hR hy hz1
  go_wp2_with fail
  go_ret
  exact ⟨a2, c2, xss, rfl, ⟨HF.out, HM.out, hl⟩, HB2.out⟩

/-- TWO GRAPHS, or what are none, of at most m nodes ARE DRAWN. -/
def DrawnMMK (m : Nat) (w : World) (e : Ending) (w' : World) : Prop :=
  ∃ (a : Option Addr) (c : Nat) (xss : List (List Int)) (a' : Option Addr) (c' : Nat) (yss : List (List Int)), e = .returned (.tuple #[.slice a xss.length c, .slice a' yss.length c']) ∧
    (Fit xss ∧ Mat w'.heap.size w' a xss ∧ xss.length ≤ m) ∧ (Fit yss ∧ Mat w'.heap.size w' a' yss ∧ yss.length ≤ m) ∧ Below w.heap.size w w'
set_option maxHeartbeats 1000000 in
theorem drawTimesOf_any (a : Option Addr) (n c : Nat) (w : World) (hn : n ≤ 1048576) (hc : n ≤ c) (hy : Bytes w.heap.size w a n) :
    Calls Try.prog 32 #[.slice a n c] w (DrawnMMK 5 w) := by
  go_enter Try.func32, Try.ntmps32
  go_wp2_with fail
  refine (open_any a n c w hn hc hy).mono ?_
  rintro e w1 ⟨rfl, hR, hB⟩
  have hz1 := hB.size
  obtain ⟨B, hBe⟩ : ∃ B, w.heap.size = B := ⟨_, rfl⟩
  have HB1 := Lib.hid hB
  rw [hBe] at hR ⊢
  have HBE := Lib.hid hBe
  clear hB hBe hy
  go_wp2_with fail
  refine (pick_any B B 0 8 w1 hR (by omega)).mono ?_
  rintro e w2 ⟨x, ⟨rfl, hx0, hx1, _⟩, hR2, hg2, -⟩
  have HB2 := Lib.hid (HB1.out.grown hg2 hz1 (fun k e => by cases e; exact Nat.le_of_eq HBE.out))
  have hz2 := HB2.out.size
  clear hx1 hg2 hR HB1 hz1
  by_cases hx : x = 0
  · have hxb : (x == 0) = true := by simp [hx]
    clear hx
    go_wp2_with fail
    refine (graph_anyK B B (0 + 1) 5 5 9 w2 hR2 (by omega) (by omega) (by omega) (by omega) (by omega) (by omega)).mono ?_
    rintro e w3 ⟨a3, c3, xss, rfl, hF3, hM3, hR3, hg3, hl3⟩
    have HB3 := Lib.hid (HB2.out.grown hg3 hz2 (fun k e => by cases e; exact Nat.le_of_eq HBE.out))
    have hz3 := HB3.out.size
    have HF3 := Lib.hid hF3
    have HM3 := Lib.hid hM3
    clear hF3 hM3 hg3 hR2 HB2 hz2
    go_wp2_with fail
    refine (graph_anyK B B (0 + 1 + 200) 5 5 9 w3 hR3 (by omega) (by omega) (by omega) (by omega) (by omega) (by omega)).mono ?_
    rintro e w4 ⟨a4, c4, yss, rfl, hF4, hM4, hR4, hg4, hl4⟩
    have HB4 := Lib.hid (HB3.out.grown hg4 hz3 (fun k e => by cases e; exact Nat.le_of_eq HBE.out))
    have HF4 := Lib.hid hF4
    have HX4 := Lib.hid ((HM3.out.erasedKept hR3 hg4 hg4.size).laid hR4)
    have HY4 := Lib.hid (hM4.laid hR4)
    clear hF4 hM4 hg4 hR3 hR4 HB3 hz3 HM3
    go_wp2_with fail
    go_ret2
    exact ⟨_, _, _, _, _, _, rfl, ⟨HF3.out, HX4.out, hl3⟩, ⟨HF4.out, HY4.out, hl4⟩, HB4.out⟩
  · have hxb : (x == 0) = false := by simp [hx]
    clear hx
    go_wp2_with fail
    refine (little_any B B (0 + 1) 12 w2 hR2 (by omega) (by omega) (by omega)).mono ?_
    rintro e w3 ⟨a3, c3, xss, a4, c4, yss, rfl, ⟨hF3, hX3, hl3⟩, ⟨hF4, hY3, hl4⟩, hR3, hg3⟩
    have HB3 := Lib.hid (HB2.out.grown hg3 hz2 (fun k e => by cases e; exact Nat.le_of_eq HBE.out))
    have HF3 := Lib.hid hF3
    have HF4 := Lib.hid hF4
    have HX3 := Lib.hid (hX3.laid hR3)
    have HY3 := Lib.hid (hY3.laid hR3)
    clear hF3 hX3 hF4 hY3 hR2 hR3 hg3 HB2 hz2
    go_wp2_with fail
    go_ret2
    exact ⟨_, _, _, _, _, _, rfl, ⟨HF3.out, HX3.out, by omega⟩, ⟨HF4.out, HY3.out, by omega⟩, HB3.out⟩

/-- TWO GRAPHS, or what are none, AND A NUMBER ARE DRAWN. -/
def DrawnMMI (m : Nat) (w : World) (e : Ending) (w' : World) : Prop :=
  ∃ (a : Option Addr) (c : Nat) (xss : List (List Int)) (a' : Option Addr) (c' : Nat) (yss : List (List Int)) (s : Int), e = .returned (.tuple #[.slice a xss.length c, .slice a' yss.length c', .int .i64 s]) ∧
    (Fit xss ∧ Mat w'.heap.size w' a xss ∧ xss.length ≤ m) ∧ (Fit yss ∧ Mat w'.heap.size w' a' yss ∧ yss.length ≤ m) ∧ Below w.heap.size w w'
end Go.Proofs.Ytimjijbjadkfnaa

namespace Go.Proofs.Ytimjijbjadkfnaa
open Go.RowKit Go.Shelf Go.Deep

theorem results_tmp5' {fn : Func} {t u v x y : Tmp} (h : fn.results = #[.tmp t, .tmp u, .tmp v, .tmp x, .tmp y]) (tmps : Array Value) (P : Program) (w : World) :
    (results fn tmps).run P w = .ok (.tuple #[tmps.getD t undef, tmps.getD u undef, tmps.getD v undef, tmps.getD x undef, tmps.getD y undef]) w := by
  simp [results, h]

/-- A LIST IS DRAWN. -/
def DrawnL (n₀ B N : Nat) (w : World) (e : Ending) (w' : World) : Prop :=
  ∃ (a : Option Addr) (c : Nat) (f : List Int), e = .returned (.slice a f.length c) ∧ (f.length ≤ 1048576 ∧ Ints w'.heap.size (w'.setRow B #[]) a f) ∧ Rd n₀ B w' N ∧ w.grownBy w' (some B)

theorem made_zeros {n₀ B N : Nat} (w : World) (n : Nat) (hR : Rd n₀ B w N) : Ints (w.heap.size + 1) ((w.alloc (.cells (madeCells #[.int .i64 0] n) 3)).setRow B #[]) (some ⟨w.heap.size, 0, none⟩) (List.replicate n 0) := by
  have hB := hR.lt
  refine fun _ => ⟨w.heap.size, 0, rfl, by omega, fun j hj => ?_⟩
  rw [List.length_replicate] at hj
  have h := (World.rowIs_made w (.int .i64 0) n 3).cell hj
  have hs := setRow_other (w.alloc (.cells (madeCells #[.int .i64 0] n) 3)) B w.heap.size #[] (by omega)
  rw [World.cell?_of_block (a := ⟨w.heap.size, 0 + j, none⟩) hs, Nat.zero_add, h]
  simp [hj]

/-- THREE GRAPHS, or what are none, AND TWO LISTS ARE DRAWN. -/
def DrawnMMMLL (m : Nat) (w : World) (e : Ending) (w' : World) : Prop :=
  ∃ (a : Option Addr) (c : Nat) (xss : List (List Int)) (a' : Option Addr) (c' : Nat) (yss : List (List Int)) (a'' : Option Addr) (c'' : Nat) (zss : List (List Int)) (a3 : Option Addr) (c3 : Nat) (f : List Int) (a4 : Option Addr) (c4 : Nat) (g : List Int),
    e = .returned (.tuple #[.slice a xss.length c, .slice a' yss.length c', .slice a'' zss.length c'', .slice a3 f.length c3, .slice a4 g.length c4]) ∧
    (Fit xss ∧ Mat w'.heap.size w' a xss ∧ xss.length ≤ m) ∧ (Fit yss ∧ Mat w'.heap.size w' a' yss ∧ yss.length ≤ m) ∧ (Fit zss ∧ Mat w'.heap.size w' a'' zss ∧ zss.length ≤ m) ∧ (f.length ≤ 1048576 ∧ Ints w'.heap.size w' a3 f) ∧ (g.length ≤ 1048576 ∧ Ints w'.heap.size w' a4 g) ∧ Below w.heap.size w w'

end Go.Proofs.Ytimjijbjadkfnaa
