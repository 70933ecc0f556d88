/-
  Several texts in one.
  Two small graphs drawn (l20Little), a map drawn if there is any (l20Some); DrawTimesOf, DrawSideOf, DrawSquareOf.
  A map drawn if there is any: l20Some; DrawPairedOf, DrawJoinedOf.
-/
import Derived.Test.YtpcmenhchabgiaaZK
import Derived.Test.YtpcmenhchabgiaaZH
import Derived.Test.YtpcmenhchabgiaaC2
import Derived.Test.YtpcmenhchabgiaaZA
namespace Go.Proofs.Ytpcmenhchabgiaa
open Go.RowKit Go.Shelf Go.Deep

/-- TWO GRAPHS, or what are none, ARE DRAWN, each of at most m nodes. -/
def DrawnPK (n₀ B N m : Nat) (w : World) (e : Ending) (w' : World) : Prop :=
  ∃ (a : Option Addr) (c : Nat) (xss : List (List Int)) (a' : Option Addr) (c' : Nat) (yss : List (List Int)), e = .returned (.tuple #[.slice a xss.length c, .slice a' yss.length c']) ∧
    (Fit xss ∧ Mat w'.heap.size (w'.setRow B #[]) a xss ∧ xss.length ≤ m) ∧ (Fit yss ∧ Mat w'.heap.size (w'.setRow B #[]) a' yss ∧ yss.length ≤ m) ∧ Rd n₀ B w' N ∧ w.grownBy w' (some B)

/-- A GRAPH, or what is none, of at most m nodes IS DRAWN. -/
def DrawnMK (m : Nat) (w : World) (e : Ending) (w' : World) : Prop :=
  ∃ (a : Option Addr) (c : Nat) (xss : List (List Int)), e = .returned (.slice a xss.length c) ∧ (Fit xss ∧ Mat w'.heap.size w' a xss ∧ xss.length ≤ m) ∧ Below w.heap.size w w'
/-- TWO GRAPHS, or what are none, of at most m nodes ARE DRAWN. -/
def DrawnMMK (m : Nat) (w : World) (e : Ending) (w' : World) : Prop :=
  ∃ (a : Option Addr) (c : Nat) (xss : List (List Int)) (a' : Option Addr) (c' : Nat) (yss : List (List Int)), e = .returned (.tuple #[.slice a xss.length c, .slice a' yss.length c']) ∧
    (Fit xss ∧ Mat w'.heap.size w' a xss ∧ xss.length ≤ m) ∧ (Fit yss ∧ Mat w'.heap.size w' a' yss ∧ yss.length ≤ m) ∧ Below w.heap.size w w'
/-- TWO GRAPHS, or what are none, AND A NUMBER ARE DRAWN. -/
def DrawnMMI (m : Nat) (w : World) (e : Ending) (w' : World) : Prop :=
  ∃ (a : Option Addr) (c : Nat) (xss : List (List Int)) (a' : Option Addr) (c' : Nat) (yss : List (List Int)) (s : Int), e = .returned (.tuple #[.slice a xss.length c, .slice a' yss.length c', .int .i64 s]) ∧
    (Fit xss ∧ Mat w'.heap.size w' a xss ∧ xss.length ≤ m) ∧ (Fit yss ∧ Mat w'.heap.size w' a' yss ∧ yss.length ≤ m) ∧ Below w.heap.size w w'
end Go.Proofs.Ytpcmenhchabgiaa

namespace Go.Proofs.Ytpcmenhchabgiaa
open Go.RowKit Go.Shelf Go.Deep

theorem results_tmp5' {fn : Func} {t u v x y : Tmp} (h : fn.results = #[.tmp t, .tmp u, .tmp v, .tmp x, .tmp y]) (tmps : Array Value) (P : Program) (w : World) :
    (results fn tmps).run P w = .ok (.tuple #[tmps.getD t undef, tmps.getD u undef, tmps.getD v undef, tmps.getD x undef, tmps.getD y undef]) w := by
  simp [results, h]

/-- A LIST IS DRAWN. -/
def DrawnL (n₀ B N : Nat) (w : World) (e : Ending) (w' : World) : Prop :=
  ∃ (a : Option Addr) (c : Nat) (f : List Int), e = .returned (.slice a f.length c) ∧ (f.length ≤ 1048576 ∧ Ints w'.heap.size (w'.setRow B #[]) a f) ∧ Rd n₀ B w' N ∧ w.grownBy w' (some B)

theorem made_zeros {n₀ B N : Nat} (w : World) (n : Nat) (hR : Rd n₀ B w N) : Ints (w.heap.size + 1) ((w.alloc (.cells (madeCells #[.int .i64 0] n) 3)).setRow B #[]) (some ⟨w.heap.size, 0, none⟩) (List.replicate n 0) := by
  have hB := hR.lt
  refine fun _ => ⟨w.heap.size, 0, rfl, by omega, fun j hj => ?_⟩
  rw [List.length_replicate] at hj
  have h := (World.rowIs_made w (.int .i64 0) n 3).cell hj
  have hs := setRow_other (w.alloc (.cells (madeCells #[.int .i64 0] n) 3)) B w.heap.size #[] (by omega)
  rw [World.cell?_of_block (a := ⟨w.heap.size, 0 + j, none⟩) hs, Nat.zero_add, h]
  simp [hj]

set_option maxRecDepth 100000 in
set_option maxHeartbeats 4000000 in
theorem some_any (n₀ B N : Nat) (a1 : Option Addr) (c1 : Nat) (xss : List (List Int)) (a2 : Option Addr) (c2 : Nat) (yss : List (List Int)) (w1 : World) (hR1 : Rd n₀ B w1 N) (hN : N ≤ 200000) (hX : Mat w1.heap.size (w1.setRow B #[]) a1 xss) (hY : Mat w1.heap.size (w1.setRow B #[]) a2 yss) (hF : Fit xss) (hF' : Fit yss) (hx9 : xss.length ≤ 1000) :
    Calls Try.prog 66 #[.pointer (some ⟨B, 0, none⟩), .slice a1 xss.length c1, .slice a2 yss.length c2] w1 (DrawnL n₀ B (N + 2) w1) := by
  have hB1 : B < w1.heap.size := hR1.lt
  have HF := Lib.hid hF
  have HF' := Lib.hid hF'
  have hlx := hF.1
  go_enter Try.func66, Try.ntmps66
  go_wp2_with fail
  refine (specMapsOfO _ _ _ _ xss yss _ w1 (hX.laid hR1) (hY.laid hR1) (Nat.le_refl _) HF.out HF'.out).mono ?_
  obtain ⟨ls, hls⟩ : ∃ ls, mapsL xss yss = ls := ⟨_, rfl⟩
  have HLF : Hid (Fit ls) := Lib.hid (by rw [← hls]; exact mapsL_fit _ _)
  have hl7 : ls.length ≤ 7000 := by rw [← hls]; exact mapsL_le _ _
  rw [hls]
  clear hls hF hF'
  rintro e w2 ⟨a3, c3, ⟨rfl, hB2⟩, hO⟩
  have hg2 : w1.grownBy w2 none := grown_of_below hB2
  have hg2' : w1.grownBy w2 (some B) := ⟨hB2.os, hB2.tape, hB2.output, hB2.size, fun k hk _ => hB2.block k hk⟩
  have hR2 : Rd n₀ B w2 N := hR1.keep hg2 (fun r e => by cases e)
  have HL2 := Lib.hid (hO.matErased hB1)
  have HG2 := Lib.hid hg2'
  have hB2' : B < w2.heap.size := hR2.lt
  clear hX hY hO hB2 hg2 hg2' hR1 hB1
  have hmk := run_make_row' (P := Try.prog) 33 3 (.int .i64 0) 8 Try.underlying33 infoInt rfl .i64 .i64 xss.length (by omega) (by omega)
  by_cases h0 : ls.length = 0
  · rw [h0]
    clear HL2 HLF hl7
    have HI := Lib.hid (made_zeros w2 xss.length hR2)
    have HR9 := Lib.hid ((hR2.keep (World.grownBy_alloc w2 (.cells (madeCells #[.int .i64 0] xss.length) 3) none) (fun r e => by cases e)).more (show N ≤ N + 2 by omega))
    have HG9 := Lib.hid (grow_B HG2.out (World.grownBy_alloc w2 (.cells (madeCells #[.int .i64 0] xss.length) 3) (some B)) (fun r e => by cases e; exact .inr rfl))
    clear hR2 HG2
    go_wp2_with fail
    go_ret
    exact ⟨_, _, List.replicate xss.length 0, by rw [List.length_replicate]; rfl, ⟨by rw [List.length_replicate]; omega, by simpa using HI.out⟩, HR9.out, HG9.out⟩
  · have hlp : (0 : Int) < (ls.length : Int) := by omega
    have hl0 : ((ls.length : Int) == 0) = false := by simp; intro e; rw [e] at h0; exact h0 rfl
    clear h0
    go_wp2_with fail
    refine (odd_any n₀ B N 20 w2 hR2 (by omega) (by omega) (by omega)).mono ?_
    rintro e w3 ⟨x, rfl, hR3, hg3, -⟩
    have HL3 := Lib.hid (HL2.out.erasedKept hR2 hg3 hg3.size)
    have HG3 := Lib.hid (grow_B HG2.out hg3 (fun r e => by cases e; exact .inr rfl))
    have hB3' : B < w3.heap.size := hR3.lt
    clear hR2 hg3 HL2 HG2 hB2'
    cases x with
    | true =>
      have HI := Lib.hid (made_zeros w3 xss.length hR3)
      have HR9 := Lib.hid ((hR3.keep (World.grownBy_alloc w3 (.cells (madeCells #[.int .i64 0] xss.length) 3) none) (fun r e => by cases e)).more (show N + 1 ≤ N + 2 by omega))
      have HG9 := Lib.hid (grow_B HG3.out (World.grownBy_alloc w3 (.cells (madeCells #[.int .i64 0] xss.length) 3) (some B)) (fun r e => by cases e; exact .inr rfl))
      clear hR3 HG3 HL3 HLF
      go_wp2_with fail
      go_ret
      exact ⟨_, _, List.replicate xss.length 0, by rw [List.length_replicate]; rfl, ⟨by rw [List.length_replicate]; omega, by simpa using HI.out⟩, HR9.out, HG9.out⟩
    | false =>
      clear hmk
      go_wp2_with fail
      refine (pick_any n₀ B (N + 1) (ls.length : Int) w3 hR3 (by omega)).mono ?_
      rintro e w5 ⟨y, ⟨rfl, hy0, hy1, _⟩, hR5, hg5, -⟩
      have hy2 := hy1 (by omega)
      obtain ⟨q, rfl⟩ : ∃ q : Nat, y = (q : Int) := ⟨y.toNat, by omega⟩
      have hql : q < ls.length := by omega
      have HL5 := Lib.hid (HL3.out.erasedKept hR3 hg5 hg5.size)
      have HG5 := Lib.hid (grow_B HG3.out hg5 (fun r e => by cases e; exact .inr rfl))
      obtain ⟨b5, o5, a5, c5, fs, rfl, hb5, hc5, hI5, HI5⟩ := HL5.out.at_ hql
      have hc6 := (erased_sub (rd_block hR5).choose_spec.choose_spec.choose_spec (fun _ _ _ => rfl)) _ _ hc5
      have hfl : fs.length ≤ 1048576 := HLF.out.at_ HI5.out
      have HI6 := Lib.hid hI5
      have HR5 := Lib.hid hR5
      clear hy1 hI5 hc5 hg5 hR3 HL3 HG3 hR5
      go_wp2_with fail
      go_ret
      exact ⟨a5, c5, fs, rfl, ⟨hfl, HI6.out⟩, HR5.out.more (by omega), HG5.out⟩

/-- THREE GRAPHS, or what are none, AND TWO LISTS ARE DRAWN. -/
def DrawnMMMLL (m : Nat) (w : World) (e : Ending) (w' : World) : Prop :=
  ∃ (a : Option Addr) (c : Nat) (xss : List (List Int)) (a' : Option Addr) (c' : Nat) (yss : List (List Int)) (a'' : Option Addr) (c'' : Nat) (zss : List (List Int)) (a3 : Option Addr) (c3 : Nat) (f : List Int) (a4 : Option Addr) (c4 : Nat) (g : List Int),
    e = .returned (.tuple #[.slice a xss.length c, .slice a' yss.length c', .slice a'' zss.length c'', .slice a3 f.length c3, .slice a4 g.length c4]) ∧
    (Fit xss ∧ Mat w'.heap.size w' a xss ∧ xss.length ≤ m) ∧ (Fit yss ∧ Mat w'.heap.size w' a' yss ∧ yss.length ≤ m) ∧ (Fit zss ∧ Mat w'.heap.size w' a'' zss ∧ zss.length ≤ m) ∧ (f.length ≤ 1048576 ∧ Ints w'.heap.size w' a3 f) ∧ (g.length ≤ 1048576 ∧ Ints w'.heap.size w' a4 g) ∧ Below w.heap.size w w'

end Go.Proofs.Ytpcmenhchabgiaa
