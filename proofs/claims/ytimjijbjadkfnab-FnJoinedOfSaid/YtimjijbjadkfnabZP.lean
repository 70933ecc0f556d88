/-
  Several texts in one.
  Two small graphs drawn (l20Little), a map drawn if there is any (l20Some); DrawTimesOf, DrawSideOf, DrawSquareOf.
  A map drawn if there is any: l20Some; DrawPairedOf, DrawJoinedOf.
-/
import Derived.Test.YtimjijbjadkfnabZK
import Derived.Test.YtimjijbjadkfnabD6
import Derived.Test.YtimjijbjadkfnabC2
import Derived.Test.YtimjijbjadkfnabZA
namespace Go.Proofs.Ytimjijbjadkfnab
open Go.RowKit Go.Shelf Go.Deep

/-- TWO GRAPHS, or what are none, ARE DRAWN, each of at most m nodes. -/
def DrawnPK (n₀ B N m : Nat) (w : World) (e : Ending) (w' : World) : Prop :=
  ∃ (a : Option Addr) (c : Nat) (xss : List (List Int)) (a' : Option Addr) (c' : Nat) (yss : List (List Int)), e = .returned (.tuple #[.slice a xss.length c, .slice a' yss.length c']) ∧
    (Fit xss ∧ Mat w'.heap.size (w'.setRow B #[]) a xss ∧ xss.length ≤ m) ∧ (Fit yss ∧ Mat w'.heap.size (w'.setRow B #[]) a' yss ∧ yss.length ≤ m) ∧ Rd n₀ B w' N ∧ w.grownBy w' (some B)

set_option maxHeartbeats 1000000 in
theorem little_any (n₀ B N : Nat) (odd : Int) (w : World) (hR : Rd n₀ B w N) (hN : N ≤ 300000) (ho0 : 0 ≤ odd) (ho1 : odd ≤ 1000) :
    Calls Try.prog 32 #[.pointer (some ⟨B, 0, none⟩), .int .i64 odd] w (DrawnPK n₀ B (N + 400) 3 w) := by
  have hBw := hR.lt
  go_enter Try.func32, Try.ntmps32
  go_wp2_with fail
  refine (graph_anyK n₀ B N 3 3 odd w hR (by omega) (by omega) (by omega) (by omega) (by omega) (by omega)).mono ?_
  rintro e w1 ⟨a1, c1, xss, rfl, hF1, hM1, hR1, hg1, hl1⟩
  have HF1 := Lib.hid hF1
  have HM1 := Lib.hid hM1
  clear hF1 hM1
  go_wp2_with fail
  refine (graph_anyK n₀ B (N + 200) 3 3 odd w1 hR1 (by omega) (by omega) (by omega) (by omega) (by omega) (by omega)).mono ?_
  rintro e w2 ⟨a2, c2, yss, rfl, hF2, hM2, hR2, hg2, hl2⟩
  have HF2 := Lib.hid hF2
  have HM2 := Lib.hid hM2
  have HX2 := Lib.hid (HM1.out.erasedKept hR1 hg2 hg2.size)
  have HG2 := Lib.hid (grow_B hg1 hg2 (fun r e => by cases e; exact .inr rfl))
  have HR2 := Lib.hid hR2
  clear hF2 hM2 HM1 hg1 hg2 hR1 hR hR2
  go_wp2_with fail
  go_ret2
  exact ⟨_, _, _, _, _, _, rfl, ⟨HF1.out, HX2.out, hl1⟩, ⟨HF2.out, HM2.out, hl2⟩, HR2.out, HG2.out⟩

/-- A GRAPH, or what is none, of at most m nodes IS DRAWN. -/
def DrawnMK (m : Nat) (w : World) (e : Ending) (w' : World) : Prop :=
  ∃ (a : Option Addr) (c : Nat) (xss : List (List Int)), e = .returned (.slice a xss.length c) ∧ (Fit xss ∧ Mat w'.heap.size w' a xss ∧ xss.length ≤ m) ∧ Below w.heap.size w w'
/-- TWO GRAPHS, or what are none, of at most m nodes ARE DRAWN. -/
def DrawnMMK (m : Nat) (w : World) (e : Ending) (w' : World) : Prop :=
  ∃ (a : Option Addr) (c : Nat) (xss : List (List Int)) (a' : Option Addr) (c' : Nat) (yss : List (List Int)), e = .returned (.tuple #[.slice a xss.length c, .slice a' yss.length c']) ∧
    (Fit xss ∧ Mat w'.heap.size w' a xss ∧ xss.length ≤ m) ∧ (Fit yss ∧ Mat w'.heap.size w' a' yss ∧ yss.length ≤ m) ∧ Below w.heap.size w w'
/-- TWO GRAPHS, or what are none, AND A NUMBER ARE DRAWN. -/
def DrawnMMI (m : Nat) (w : World) (e : Ending) (w' : World) : Prop :=
  ∃ (a : Option Addr) (c : Nat) (xss : List (List Int)) (a' : Option Addr) (c' : Nat) (yss : List (List Int)) (s : Int), e = .returned (.tuple #[.slice a xss.length c, .slice a' yss.length c', .int .i64 s]) ∧
    (Fit xss ∧ Mat w'.heap.size w' a xss ∧ xss.length ≤ m) ∧ (Fit yss ∧ Mat w'.heap.size w' a' yss ∧ yss.length ≤ m) ∧ Below w.heap.size w w'
end Go.Proofs.Ytimjijbjadkfnab

namespace Go.Proofs.Ytimjijbjadkfnab
open Go.RowKit Go.Shelf Go.Deep

theorem results_tmp5' {fn : Func} {t u v x y : Tmp} (h : fn.results = #[.tmp t, .tmp u, .tmp v, .tmp x, .tmp y]) (tmps : Array Value) (P : Program) (w : World) :
    (results fn tmps).run P w = .ok (.tuple #[tmps.getD t undef, tmps.getD u undef, tmps.getD v undef, tmps.getD x undef, tmps.getD y undef]) w := by
  simp [results, h]

/-- A LIST IS DRAWN. -/
def DrawnL (n₀ B N : Nat) (w : World) (e : Ending) (w' : World) : Prop :=
  ∃ (a : Option Addr) (c : Nat) (f : List Int), e = .returned (.slice a f.length c) ∧ (f.length ≤ 1048576 ∧ Ints w'.heap.size (w'.setRow B #[]) a f) ∧ Rd n₀ B w' N ∧ w.grownBy w' (some B)

theorem made_zeros {n₀ B N : Nat} (w : World) (n : Nat) (hR : Rd n₀ B w N) : Ints (w.heap.size + 1) ((w.alloc (.cells (madeCells #[.int .i64 0] n) 3)).setRow B #[]) (some ⟨w.heap.size, 0, none⟩) (List.replicate n 0) := by
  have hB := hR.lt
  refine fun _ => ⟨w.heap.size, 0, rfl, by omega, fun j hj => ?_⟩
  rw [List.length_replicate] at hj
  have h := (World.rowIs_made w (.int .i64 0) n 3).cell hj
  have hs := setRow_other (w.alloc (.cells (madeCells #[.int .i64 0] n) 3)) B w.heap.size #[] (by omega)
  rw [World.cell?_of_block (a := ⟨w.heap.size, 0 + j, none⟩) hs, Nat.zero_add, h]
  simp [hj]

set_option maxRecDepth 100000 in
set_option maxHeartbeats 4000000 in
theorem some_any (n₀ B N : Nat) (a1 : Option Addr) (c1 : Nat) (xss : List (List Int)) (a2 : Option Addr) (c2 : Nat) (yss : List (List Int)) (w1 : World) (hR1 : Rd n₀ B w1 N) (hN : N ≤ 200000) (hX : Mat w1.heap.size (w1.setRow B #[]) a1 xss) (hY : Mat w1.heap.size (w1.setRow B #[]) a2 yss) (hF : Fit xss) (hF' : Fit yss) (hx9 : xss.length ≤ 1000) :
    Calls Try.prog 34 #[.pointer (some ⟨B, 0, none⟩), .slice a1 xss.length c1, .slice a2 yss.length c2] w1 (DrawnL n₀ B (N + 2) w1) := by
  have hB1 : B < w1.heap.size := hR1.lt
  have HF := Lib.hid hF
  have HF' := Lib.hid hF'
  have hlx := hF.1
  go_enter Try.func34, Try.ntmps34
  go_wp2_with fail
  refine (specMapsOfO _ _ _ _ xss yss _ w1 (hX.laid hR1) (hY.laid hR1) (Nat.le_refl _) HF.out HF'.out).mono ?_
  obtain ⟨ls, hls⟩ : ∃ ls, mapsL xss yss = ls := ⟨_, rfl⟩
  have HLF : Hid (Fit ls) := Lib.hid (by rw [← hls]; exact mapsL_fit _ _)
  have hl7 : ls.length ≤ 7000 := by rw [← hls]; exact mapsL_le _ _
  rw [hls]
  clear hls hF hF'
  rintro e w2 ⟨a3, c3, ⟨rfl, hB2⟩, hO⟩
  have hg2 : w1.grownBy w2 none := grown_of_below hB2
  have hg2' : w1.grownBy w2 (some B) := ⟨hB2.os, hB2.tape, hB2.output, hB2.size, fun k hk _ => hB2.block k hk⟩
  have hR2 : Rd n₀ B w2 N := hR1.keep hg2 (fun r e => by cases e)
  have HL2 := Lib.hid (hO.matErased hB1)
  have HG2 := Lib.hid hg2'
  have hB2' : B < w2.heap.size := hR2.lt
  clear hX hY hO hB2 hg2 hg2' hR1 hB1
  have hmk := run_make_row' (P := Try.prog) 24 3 (.int .i64 0) 8 Try.underlying24 infoInt rfl .i64 .i64 xss.length (by omega) (by omega)
  by_cases h0 : ls.length = 0
  · rw [h0]
    clear HL2 HLF hl7
    have HI := Lib.hid (made_zeros w2 xss.length hR2)
    have HR9 := Lib.hid ((hR2.keep (World.grownBy_alloc w2 (.cells (madeCells #[.int .i64 0] xss.length) 3) none) (fun r e => by cases e)).more (show N ≤ N + 2 by omega))
    have HG9 := Lib.hid (grow_B HG2.out (World.grownBy_alloc w2 (.cells (madeCells #[.int .i64 0] xss.length) 3) (some B)) (fun r e => by cases e; exact .inr rfl))
    clear hR2 HG2
    go_wp2_with fail
    go_ret
    exact ⟨_, _, List.replicate xss.length 0, by rw [List.length_replicate]; rfl, ⟨by rw [List.length_replicate]; omega, by simpa using HI.out⟩, HR9.out, HG9.out⟩
  · have hlp : (0 : Int) < (ls.length : Int) := by omega
    have hl0 : ((ls.length : Int) == 0) = false := by simp; intro e; rw [e] at h0; exact h0 rfl
    clear h0
    go_wp2_with fail
    refine (odd_any n₀ B N 20 w2 hR2 (by omega) (by omega) (by omega)).mono ?_
    rintro e w3 ⟨x, rfl, hR3, hg3, -⟩
    have HL3 := Lib.hid (HL2.out.erasedKept hR2 hg3 hg3.size)
    have HG3 := Lib.hid (grow_B HG2.out hg3 (fun r e => by cases e; exact .inr rfl))
    have hB3' : B < w3.heap.size := hR3.lt
    clear hR2 hg3 HL2 HG2 hB2'
    cases x with
    | true =>
      have HI := Lib.hid (made_zeros w3 xss.length hR3)
      have HR9 := Lib.hid ((hR3.keep (World.grownBy_alloc w3 (.cells (madeCells #[.int .i64 0] xss.length) 3) none) (fun r e => by cases e)).more (show N + 1 ≤ N + 2 by omega))
      have HG9 := Lib.hid (grow_B HG3.out (World.grownBy_alloc w3 (.cells (madeCells #[.int .i64 0] xss.length) 3) (some B)) (fun r e => by cases e; exact .inr rfl))
      clear hR3 HG3 HL3 HLF
      go_wp2_with fail
      go_ret
      exact ⟨_, _, List.replicate xss.length 0, by rw [List.length_replicate]; rfl, ⟨by rw [List.length_replicate]; omega, by simpa using HI.out⟩, HR9.out, HG9.out⟩
    | false =>
      clear hmk
      go_wp2_with fail
      refine (pick_any n₀ B (N + 1) (ls.length : Int) w3 hR3 (by omega)).mono ?_
      rintro e w5 ⟨y, ⟨rfl, hy0, hy1, _⟩, hR5, hg5, -⟩
      have hy2 := hy1 (by omega)
      obtain ⟨q, rfl⟩ : ∃ q : Nat, y = (q : Int) := ⟨y.toNat, by omega⟩
      have hql : q < ls.length := by omega
      have HL5 := Lib.hid (HL3.out.erasedKept hR3 hg5 hg5.size)
      have HG5 := Lib.hid (grow_B HG3.out hg5 (fun r e => by cases e; exact .inr rfl))
      obtain ⟨b5, o5, a5, c5, fs, rfl, hb5, hc5, hI5, HI5⟩ := HL5.out.at_ hql
      have hc6 := (erased_sub (rd_block hR5).choose_spec.choose_spec.choose_spec (fun _ _ _ => rfl)) _ _ hc5
      have hfl : fs.length ≤ 1048576 := HLF.out.at_ HI5.out
      have HI6 := Lib.hid hI5
      have HR5 := Lib.hid hR5
      clear hy1 hI5 hc5 hg5 hR3 HL3 HG3 hR5
      go_wp2_with fail
      go_ret
      exact ⟨a5, c5, fs, rfl, ⟨hfl, HI6.out⟩, HR5.out.more (by omega), HG5.out⟩

/-- THREE GRAPHS, or what are none, AND TWO LISTS ARE DRAWN. -/
def DrawnMMMLL (m : Nat) (w : World) (e : Ending) (w' : World) : Prop :=
  ∃ (a : Option Addr) (c : Nat) (xss : List (List Int)) (a' : Option Addr) (c' : Nat) (yss : List (List Int)) (a'' : Option Addr) (c'' : Nat) (zss : List (List Int)) (a3 : Option Addr) (c3 : Nat) (f : List Int) (a4 : Option Addr) (c4 : Nat) (g : List Int),
    e = .returned (.tuple #[.slice a xss.length c, .slice a' yss.length c', .slice a'' zss.length c'', .slice a3 f.length c3, .slice a4 g.length c4]) ∧
    (Fit xss ∧ Mat w'.heap.size w' a xss ∧ xss.length ≤ m) ∧ (Fit yss ∧ Mat w'.heap.size w' a' yss ∧ yss.length ≤ m) ∧ (Fit zss ∧ Mat w'.heap.size w' a'' zss ∧ zss.length ≤ m) ∧ (f.length ≤ 1048576 ∧ Ints w'.heap.size w' a3 f) ∧ (g.length ≤ 1048576 ∧ Ints w'.heap.size w' a4 g) ∧ Below w.heap.size w w'

set_option maxRecDepth 100000 in
set_option maxHeartbeats 4000000 in
theorem drawJoinedOf_any (a : Option Addr) (n c : Nat) (w : World) (hn : n ≤ 1048576) (hc : n ≤ c) (hy : Bytes w.heap.size w a n) :
    Calls Try.prog 9 #[.slice a n c] w (DrawnMMMLL 4 w) := by
  go_enter Try.func9, Try.ntmps9
  go_wp2_with fail
  refine (open_any a n c w hn hc hy).mono ?_
  rintro e w1 ⟨rfl, hR, hB⟩
  have hz1 := hB.size
  obtain ⟨B, hBe⟩ : ∃ B, w.heap.size = B := ⟨_, rfl⟩
  have HB1 := Lib.hid hB
  rw [hBe] at hR ⊢
  have HBE := Lib.hid hBe
  clear hB hBe hy
  go_wp2_with fail
  refine (little_any B B 0 14 w1 hR (by omega) (by omega) (by omega)).mono ?_
  rintro e w3 ⟨aG, cG, G, aH, cH, H, rfl, ⟨hFG, hG3, hlG⟩, ⟨hFH, hH3, hlH⟩, hR3, hg3⟩
  have HB3 := Lib.hid (HB1.out.grown hg3 hz1 (fun k e => by cases e; exact Nat.le_of_eq HBE.out))
  have hz3 := HB3.out.size
  have HFG := Lib.hid hFG
  have HFH := Lib.hid hFH
  have HG3 := Lib.hid hG3
  have HH3 := Lib.hid hH3
  clear hFG hG3 hFH hH3 hR hg3 HB1 hz1
  go_wp2_with fail
  refine (graph_anyK B B (0 + 400) 4 4 14 w3 hR3 (by omega) (by omega) (by omega) (by omega) (by omega) (by omega)).mono ?_
  rintro e w4 ⟨aK, cK, K, rfl, hFK, hK4, hR4, hg4, hlK⟩
  have HB4 := Lib.hid (HB3.out.grown hg4 hz3 (fun k e => by cases e; exact Nat.le_of_eq HBE.out))
  have hz4 := HB4.out.size
  have HFK := Lib.hid hFK
  have HK4 := Lib.hid hK4
  have HG4 := Lib.hid (HG3.out.erasedKept hR3 hg4 hg4.size)
  have HH4 := Lib.hid (HH3.out.erasedKept hR3 hg4 hg4.size)
  clear hFK hK4 hg4 hR3 HB3 hz3 HG3 HH3
  go_wp2_with fail
  refine (some_any B B (0 + 400 + 200) aG cG G aK cK K w4 hR4 (by omega) HG4.out HK4.out HFG.out HFK.out (by omega)).mono ?_
  rintro e w5 ⟨a5, c5, f5, rfl, ⟨hl5, hI5⟩, hR5, hg5⟩
  have HB5 := Lib.hid (HB4.out.grown hg5 hz4 (fun k e => by cases e; exact Nat.le_of_eq HBE.out))
  have hz5 := HB5.out.size
  have HI5 := Lib.hid hI5
  have HG5 := Lib.hid (HG4.out.erasedKept hR4 hg5 hg5.size)
  have HH5 := Lib.hid (HH4.out.erasedKept hR4 hg5 hg5.size)
  have HK5 := Lib.hid (HK4.out.erasedKept hR4 hg5 hg5.size)
  clear hI5 hg5 hR4 HB4 hz4 HG4 HH4 HK4
  go_wp2_with fail
  refine (some_any B B (0 + 400 + 200 + 2) aH cH H aK cK K w5 hR5 (by omega) HH5.out HK5.out HFH.out HFK.out (by omega)).mono ?_
  rintro e w6 ⟨a6, c6, f6, rfl, ⟨hl6, hI6⟩, hR6, hg6⟩
  have HB6 := Lib.hid (HB5.out.grown hg6 hz5 (fun k e => by cases e; exact Nat.le_of_eq HBE.out))
  have HI6 := Lib.hid (hI6.laid hR6)
  have HI5' := Lib.hid ((HI5.out.erasedKept hR5 hg6 hg6.size).laid hR6)
  have HG6 := Lib.hid ((HG5.out.erasedKept hR5 hg6 hg6.size).laid hR6)
  have HH6 := Lib.hid ((HH5.out.erasedKept hR5 hg6 hg6.size).laid hR6)
  have HK6 := Lib.hid ((HK5.out.erasedKept hR5 hg6 hg6.size).laid hR6)
  clear hI6 hg6 hR5 hR6 HB5 hz5 HG5 HH5 HK5 HI5
  go_wp2_with fail
  (try simp only [Exit.inBlock, Exit.then])
  refine bodyPost_ret (results_tmp5' rfl _ _ _) rfl ?_
  exact ⟨_, _, _, _, _, _, _, _, _, _, _, _, _, _, _, rfl, ⟨HFG.out, HG6.out, by omega⟩, ⟨HFH.out, HH6.out, by omega⟩, ⟨HFK.out, HK6.out, by omega⟩, ⟨hl5, HI5'.out⟩, ⟨hl6, HI6.out⟩, HB6.out⟩

end Go.Proofs.Ytimjijbjadkfnab
