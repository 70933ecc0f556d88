/-
  Several texts in one.
  The plain draws of stage 7: DrawPathOf, DrawLineOf, DrawRingOf, DrawLongestIn, DrawHeightsOf.
  A graph of chapter 7 drawn: l20Level; DrawLevelsOf, DrawRingsFor.
  DrawLevelsOf, DrawRingsFor.
-/
import Derived.Test.YtkkifphpogfjfaaO2
import Derived.Test.YtkkifphpogfjfaaK3
import Derived.Test.YtkkifphpogfjfaaZP
import Derived.Test.YtkkifphpogfjfaaWB
import Derived.Test.YtkkifphpogfjfaaD6
import Derived.Test.YtkkifphpogfjfaaK2
import Derived.StillTailTactics
namespace Go.Proofs.Ytkkifphpogfjfaa
open Go.RowKit Go.Shelf

/-- A number of 0 .. m - 1. -/
def DrawnZ (m : Int) (w : World) (e : Ending) (w' : World) : Prop := ∃ x : Int, e = .returned (.int .i64 x) ∧ (0 ≤ x ∧ x < m) ∧ Below w.heap.size w w'

set_option maxRecDepth 100000 in
set_option maxHeartbeats 1000000 in
theorem drawPathOf_any (a : Option Addr) (n c : Nat) (w : World) (hn : n ≤ 1048576) (hc : n ≤ c) (hy : Bytes w.heap.size w a n) :
    Calls Try.prog 17 #[.slice a n c] w (DrawnZ 11 w) := by
  go_enter Try.func17, Try.ntmps17
  go_wp2_with fail
  refine (open_any a n c w hn hc hy).mono ?_
  rintro e w1 ⟨rfl, hR1, hB⟩
  have hz1 := hB.size
  obtain ⟨B, hBe⟩ : ∃ B, w.heap.size = B := ⟨_, rfl⟩
  have HB1 := Lib.hid hB
  rw [hBe] at hR1 ⊢
  have HBE := Lib.hid hBe
  clear hB hBe hy
  go_wp2_with fail
  refine (pick_any B B (0) 11 w1 hR1 (by omega)).mono ?_
  rintro e w2 ⟨z, ⟨rfl, z0, z1, _⟩, hR2, hg2, -⟩
  have z2 := z1 (by omega)
  clear z1
  have HB2 := Lib.hid (HB1.out.grown hg2 hz1 (fun k e => by cases e; exact Nat.le_of_eq HBE.out))
  have hz2 := HB2.out.size
  clear hg2 hR1 HB1 hz1 
  go_wp2_with fail
  go_ret
  exact ⟨_, rfl, ⟨z0, z2⟩, HB2.out⟩

set_option maxRecDepth 100000 in
set_option maxHeartbeats 1000000 in
theorem drawLineOf_any (a : Option Addr) (n c : Nat) (w : World) (hn : n ≤ 1048576) (hc : n ≤ c) (hy : Bytes w.heap.size w a n) :
    Calls Try.prog 26 #[.slice a n c] w (DrawnZ 11 w) := by
  go_enter Try.func26, Try.ntmps26
  go_wp2_with fail
  refine (open_any a n c w hn hc hy).mono ?_
  rintro e w1 ⟨rfl, hR1, hB⟩
  have hz1 := hB.size
  obtain ⟨B, hBe⟩ : ∃ B, w.heap.size = B := ⟨_, rfl⟩
  have HB1 := Lib.hid hB
  rw [hBe] at hR1 ⊢
  have HBE := Lib.hid hBe
  clear hB hBe hy
  go_wp2_with fail
  refine (pick_any B B (0) 11 w1 hR1 (by omega)).mono ?_
  rintro e w2 ⟨z, ⟨rfl, z0, z1, _⟩, hR2, hg2, -⟩
  have z2 := z1 (by omega)
  clear z1
  have HB2 := Lib.hid (HB1.out.grown hg2 hz1 (fun k e => by cases e; exact Nat.le_of_eq HBE.out))
  have hz2 := HB2.out.size
  clear hg2 hR1 HB1 hz1 
  go_wp2_with fail
  go_ret
  exact ⟨_, rfl, ⟨z0, z2⟩, HB2.out⟩

set_option maxRecDepth 100000 in
set_option maxHeartbeats 1000000 in
theorem drawRingOf_any (a : Option Addr) (n c : Nat) (w : World) (hn : n ≤ 1048576) (hc : n ≤ c) (hy : Bytes w.heap.size w a n) :
    Calls Try.prog 30 #[.slice a n c] w (DrawnZ 11 w) := by
  go_enter Try.func30, Try.ntmps30
  go_wp2_with fail
  refine (open_any a n c w hn hc hy).mono ?_
  rintro e w1 ⟨rfl, hR1, hB⟩
  have hz1 := hB.size
  obtain ⟨B, hBe⟩ : ∃ B, w.heap.size = B := ⟨_, rfl⟩
  have HB1 := Lib.hid hB
  rw [hBe] at hR1 ⊢
  have HBE := Lib.hid hBe
  clear hB hBe hy
  go_wp2_with fail
  refine (pick_any B B (0) 11 w1 hR1 (by omega)).mono ?_
  rintro e w2 ⟨z, ⟨rfl, z0, z1, _⟩, hR2, hg2, -⟩
  have z2 := z1 (by omega)
  clear z1
  have HB2 := Lib.hid (HB1.out.grown hg2 hz1 (fun k e => by cases e; exact Nat.le_of_eq HBE.out))
  have hz2 := HB2.out.size
  clear hg2 hR1 HB1 hz1 
  go_wp2_with fail
  go_ret
  exact ⟨_, rfl, ⟨z0, z2⟩, HB2.out⟩

set_option maxRecDepth 100000 in
set_option maxHeartbeats 1000000 in
theorem drawLongestIn_any (a : Option Addr) (n c : Nat) (w : World) (hn : n ≤ 1048576) (hc : n ≤ c) (hy : Bytes w.heap.size w a n) :
    Calls Try.prog 33 #[.slice a n c] w (DrawnMK 5 w) := by
  go_enter Try.func33, Try.ntmps33
  go_wp2_with fail
  refine (open_any a n c w hn hc hy).mono ?_
  rintro e w1 ⟨rfl, hR1, hB⟩
  have hz1 := hB.size
  obtain ⟨B, hBe⟩ : ∃ B, w.heap.size = B := ⟨_, rfl⟩
  have HB1 := Lib.hid hB
  rw [hBe] at hR1 ⊢
  have HBE := Lib.hid hBe
  clear hB hBe hy
  go_wp2_with fail
  refine (graph_anyK B B (0) 5 5 9 w1 hR1 (by omega) (by omega) (by omega) (by omega) (by omega) (by omega)).mono ?_
  rintro e w2 ⟨aG, cG, G, rfl, hFG, hG2, hR2, hg2, hlG⟩
  have HFG := Lib.hid hFG
  have HG2 := Lib.hid hG2
  clear hFG hG2
  have HB2 := Lib.hid (HB1.out.grown hg2 hz1 (fun k e => by cases e; exact Nat.le_of_eq HBE.out))
  have hz2 := HB2.out.size
  clear hg2 hR1 HB1 hz1 
  have LG := Lib.hid (HG2.out.laid hR2)
  go_wp2_with fail
  go_ret
  exact ⟨_, _, _, rfl, ⟨HFG.out, LG.out, hlG⟩, HB2.out⟩

set_option maxRecDepth 100000 in
set_option maxHeartbeats 1000000 in
theorem drawHeightsOf_any (a : Option Addr) (n c : Nat) (w : World) (hn : n ≤ 1048576) (hc : n ≤ c) (hy : Bytes w.heap.size w a n) :
    Calls Try.prog 48 #[.slice a n c] w (DrawnMK 5 w) := by
  go_enter Try.func48, Try.ntmps48
  go_wp2_with fail
  refine (open_any a n c w hn hc hy).mono ?_
  rintro e w1 ⟨rfl, hR1, hB⟩
  have hz1 := hB.size
  obtain ⟨B, hBe⟩ : ∃ B, w.heap.size = B := ⟨_, rfl⟩
  have HB1 := Lib.hid hB
  rw [hBe] at hR1 ⊢
  have HBE := Lib.hid hBe
  clear hB hBe hy
  go_wp2_with fail
  refine (graph_anyK B B (0) 5 5 9 w1 hR1 (by omega) (by omega) (by omega) (by omega) (by omega) (by omega)).mono ?_
  rintro e w2 ⟨aG, cG, G, rfl, hFG, hG2, hR2, hg2, hlG⟩
  have HFG := Lib.hid hFG
  have HG2 := Lib.hid hG2
  clear hFG hG2
  have HB2 := Lib.hid (HB1.out.grown hg2 hz1 (fun k e => by cases e; exact Nat.le_of_eq HBE.out))
  have hz2 := HB2.out.size
  clear hg2 hR1 HB1 hz1 
  have LG := Lib.hid (HG2.out.laid hR2)
  go_wp2_with fail
  go_ret
  exact ⟨_, _, _, rfl, ⟨HFG.out, LG.out, hlG⟩, HB2.out⟩

end Go.Proofs.Ytkkifphpogfjfaa

namespace Go.Proofs.Ytkkifphpogfjfaa
open Go.RowKit Go.Shelf Go.Deep

theorem owned_drawn {n₀ B N : Nat} {w W W' : World} {a : Option Addr} {c : Nat} {xss : List (List Int)} (hg : w.grownBy W (some B)) (hR : Rd n₀ B W N) (hB : Below W.heap.size W W') (hO : OwnMat W.heap.size W' (.slice a xss.length c) xss) (hF : Fit xss) : DrawnG n₀ B N w (.returned (.slice a xss.length c)) W' :=
  ⟨a, c, xss, rfl, hF, hO.matErased hR.lt, hR.keep (grown_of_below hB) (fun r e => by cases e), grow_B hg (grown_of_below hB) (fun r e => by cases e)⟩
theorem RowsD.keptB {base k m B : Nat} {W W' : World} {v : Value} {xss : List (List Int)} {G : Nat → Nat} (h : RowsD base W v k m xss G) (hg : W.grownBy W' (some B)) (hB : B < base) : RowsD base W' v k m xss G := by
  refine ⟨World.ownsRow.kept h.own hg (.inr fun e => by have := (World.ownsRow.lt h.own B e).1; omega), h.len, fun i ys hy => ?_, h.inj⟩
  obtain ⟨k1, k2, k3⟩ := h.row i ys hy
  exact ⟨k1, k2, k3.kept hg (by simp; omega)⟩
theorem RowsD.fit {base k m : Nat} {W : World} {v : Value} {xss : List (List Int)} {G : Nat → Nat} (h : RowsD base W v k m xss G) (hk : k ≤ 1000) (hm : m ≤ 1000) : Fit xss :=
  ⟨by rw [h.len]; omega, fun xs hx => by
    obtain ⟨i, hi⟩ := List.mem_iff_getElem?.1 hx
    have := (h.row i xs hi).1
    omega⟩
theorem bes_fitD (xss yss : List (List Int)) : Fit (besL xss yss) := by
  by_cases h : besOk xss yss = true
  · exact (bes_good h).fit
  · rw [besL_no (by simpa using h)]
    exact ⟨by simp, fun xs hx => by cases hx⟩
theorem rinI_fit (z : Int) : Fit (rinI z) ∧ (rinI z).length ≤ 9 := by
  by_cases h : 1 ≤ z ∧ z ≤ 9
  · unfold rinI
    rw [if_pos h]
    exact ⟨(rin_good (by omega) (by omega)).fit, by rw [rin_len]; omega⟩
  · rw [rinI_no h]
    exact ⟨⟨by simp, fun xs hx => by simp at hx⟩, by simp⟩

set_option maxRecDepth 100000 in
set_option maxHeartbeats 8000000 in
theorem level_any (n₀ B N : Nat) (odd : Int) (w : World) (hR : Rd n₀ B w N) (hN : N ≤ 200000) (ho0 : 0 ≤ odd) (ho1 : odd ≤ 1000) :
    Calls Try.prog 74 #[.pointer (some ⟨B, 0, none⟩), .int .i64 odd] w (DrawnG n₀ B (N + 300) w) := by
  go_enter Try.func74, Try.ntmps74
  go_wp2_with fail
  refine (pick_any n₀ B N 4 w hR (by omega)).mono ?_
  rintro e w1 ⟨x, ⟨rfl, x0, x1, _⟩, hR1, hg1, -⟩
  have x4 := x1 (by omega)
  have hx : x = 0 ∨ x = 1 ∨ x = 2 ∨ x = 3 := by omega
  have hwB := hR.lt
  clear x0 x1 x4 hR
  rcases hx with rfl | rfl | rfl | rfl
  · go_wp2_with fail
    refine (pick_any n₀ B (N + 1) 6 w1 hR1 (by omega)).mono ?_
    rintro e w2 ⟨p, ⟨rfl, p0, p1, _⟩, hR2, hg2, -⟩
    have p6 := p1 (by omega)
    have HG2 := Lib.hid (grow_B hg1 hg2 (fun r e => by cases e; exact .inr rfl))
    have HR2 := Lib.hid (hR2.more (show N + 1 + 1 ≤ N + 300 by omega))
    clear p1 hR1 hg1 hg2 hR2
    go_wp2_with fail
    refine (specRinD (1 + p) w2).mono ?_
    obtain ⟨L, hL⟩ : ∃ L, rinI (1 + p) = L := ⟨_, rfl⟩
    have hF := rinI_fit (1 + p)
    rw [hL] at hF ⊢
    clear hL
    rintro e w3 h
    obtain ⟨a3, c3, ⟨rfl, hB3⟩, hO3⟩ := h.made (by omega)
    have HD := Lib.hid (owned_drawn HG2.out HR2.out hB3 hO3 hF.1)
    clear h hB3 hO3
    go_wp2_with fail
    go_ret
    exact HD.out
  · go_wp2_with fail
    refine (pick_any n₀ B (N + 1) 3 w1 hR1 (by omega)).mono ?_
    rintro e w2 ⟨p, ⟨rfl, p0, p1, _⟩, hR2, hg2, -⟩
    have p3 := p1 (by omega)
    have HG2 := Lib.hid (grow_B hg1 hg2 (fun r e => by cases e; exact .inr rfl))
    clear p1 hR1 hg1 hg2
    go_wp2_with fail
    refine (specRinD (2 + p) w2).mono ?_
    obtain ⟨L, hL⟩ : ∃ L, rinI (2 + p) = L := ⟨_, rfl⟩
    have hF := rinI_fit (2 + p)
    rw [hL] at hF ⊢
    clear hL
    rintro e w3 h
    obtain ⟨a3, c3, ⟨rfl, hB3⟩, hO3⟩ := h.made (by omega)
    have HFL := Lib.hid hF.1
    have hLl := hF.2
    have hg3 := grown_of_below hB3
    have HX3 := Lib.hid (hO3.matErased hR2.lt)
    have hR3 : Rd n₀ B w3 (N + 1 + 1) := hR2.keep hg3 (fun r e => by cases e)
    have HG3 := Lib.hid (grow_B HG2.out hg3 (fun r e => by cases e))
    clear h hB3 hO3 hF hR2 HG2 hg3
    go_wp2_with fail
    refine (pick_any n₀ B (N + 1 + 1) 4 w3 hR3 (by omega)).mono ?_
    rintro e w4 ⟨q, ⟨rfl, q0, q1, _⟩, hR4, hg4, -⟩
    have q4 := q1 (by omega)
    have HG4 := Lib.hid (grow_B HG3.out hg4 (fun r e => by cases e; exact .inr rfl))
    have HX4 := Lib.hid (HX3.out.erasedKept hR3 hg4 hg4.size)
    clear q1 hR3 hg4 HX3 HG3
    go_wp2_with fail
    refine (specRinD (1 + q) w4).mono ?_
    obtain ⟨K, hK⟩ : ∃ K, rinI (1 + q) = K := ⟨_, rfl⟩
    have hF := rinI_fit (1 + q)
    rw [hK] at hF ⊢
    clear hK
    rintro e w5 h
    obtain ⟨a5, c5, ⟨rfl, hB5⟩, hO5⟩ := h.made (by omega)
    have HFK := Lib.hid hF.1
    have hKl := hF.2
    have hg5 := grown_of_below hB5
    have hg5' : w4.grownBy w5 (some B) := ⟨hB5.os, hB5.tape, hB5.output, hB5.size, fun k hk _ => hB5.block k hk⟩
    have HY5 := Lib.hid (hO5.matErased hR4.lt)
    have HX5 := Lib.hid (HX4.out.erasedKept hR4 hg5' hg5.size)
    have hR5 : Rd n₀ B w5 (N + 1 + 1 + 1) := hR4.keep hg5 (fun r e => by cases e)
    have HG5 := Lib.hid (grow_B HG4.out hg5 (fun r e => by cases e))
    clear h hB5 hO5 hF hR4 HG4 hg5 hg5' HX4
    go_wp2_with fail
    refine (specBesideO a3 a5 c3 c5 L K w5.heap.size w5 (HX5.out.laid hR5) (HY5.out.laid hR5) (Nat.le_refl _) HFL.out HFK.out).mono ?_
    obtain ⟨M, hM⟩ : ∃ M, besL L K = M := ⟨_, rfl⟩
    obtain ⟨y, hy⟩ : ∃ y, besOk L K = y := ⟨_, rfl⟩
    have HFM : Hid (Fit M) := Lib.hid (by rw [← hM]; exact bes_fitD L K)
    rw [hM, hy]
    clear hM hy
    rintro e w6 ⟨a6, c6, ⟨rfl, hB6⟩, hO6⟩
    cases y with
    | true =>
      have HD := Lib.hid (owned_drawn HG5.out (hR5.more (show N + 1 + 1 + 1 ≤ N + 300 by omega)) hB6 hO6 HFM.out)
      clear hB6 hO6
      go_wp2_with fail
      go_ret
      exact HD.out
    | false =>
      have hg6 := grown_of_below hB6
      have hg6' : w5.grownBy w6 (some B) := ⟨hB6.os, hB6.tape, hB6.output, hB6.size, fun k hk _ => hB6.block k hk⟩
      have HX6 := Lib.hid (HX5.out.erasedKept hR5 hg6' hg6.size)
      have HR6 : Hid (Rd n₀ B w6 (N + 300)) := Lib.hid ((hR5.keep hg6 (fun r e => by cases e)).more (by omega))
      have HG6 := Lib.hid (grow_B HG5.out hg6 (fun r e => by cases e))
      clear hB6 hO6 hg6 hg6' hR5 HG5 HX5 HY5
      go_wp2_with fail
      go_ret
      exact ⟨a3, c3, L, rfl, HFL.out, HX6.out, HR6.out, HG6.out⟩
  · go_wp2_with fail
    refine (pick_any n₀ B (N + 1) 4 w1 hR1 (by omega)).mono ?_
    rintro e w2 ⟨p, ⟨rfl, p0, p1, _⟩, hR2, hg2, -⟩
    have p4 := p1 (by omega)
    have HG2 := Lib.hid (grow_B hg1 hg2 (fun r e => by cases e; exact .inr rfl))
    clear p1 hR1 hg1 hg2
    go_wp2_with fail
    refine (specPatD (2 + p) w2).mono ?_
    obtain ⟨n, hn2, hn5, hE⟩ : ∃ n : Nat, 2 ≤ n ∧ n ≤ 5 ∧ patI (2 + p) = patL n := ⟨(2 + p).toNat, by omega, by omega, by
      have := patI_yes (n := (2 + p).toNat) (by omega) (by omega)
      rwa [show (((2 + p).toNat : Nat) : Int) = 2 + p by omega] at this⟩
    rw [hE]
    clear hE
    rintro e w3 h
    obtain ⟨g, cap, GG, ⟨he, hB3⟩, hD3⟩ := h
    rw [pat_len] at he hD3
    subst he
    have hwz : w.heap.size ≤ w2.heap.size := HG2.out.size
    have hg3 := grown_of_below hB3
    have hR3 : Rd n₀ B w3 (N + 1 + 1) := hR2.keep hg3 (fun r e => by cases e)
    have HG3 := Lib.hid (grow_B HG2.out hg3 (fun r e => by cases e))
    have hB2 := hR2.lt
    clear hB3 hR2 HG2 hg3
    have hnp : (1 : Int) ≤ (n : Int) := by omega
    go_wp2_with fail
    refine (pick_any n₀ B (N + 1 + 1) (n : Int) w3 hR3 (by omega)).mono ?_
    rintro e w4 ⟨q, ⟨rfl, q0, q1, _⟩, hR4, hg4, -⟩
    have qn := q1 hnp
    obtain ⟨k, rfl⟩ : ∃ k : Nat, q = (k : Int) := ⟨q.toNat, by omega⟩
    have hkn : k < n := by omega
    have HG4 := Lib.hid (grow_B HG3.out hg4 (fun r e => by cases e; exact .inr rfl))
    have hD4 := hD3.keptB hg4 hB2
    clear q1 hR3 hg4 HG3 hD3
    obtain ⟨t, ht⟩ : ∃ t : Nat, t = (k + n - 1) % n := ⟨_, rfl⟩
    have htn : t < n := by rw [ht]; exact Nat.mod_lt _ (by omega)
    have hmd : Int.tmod ((k : Int) + (n : Int) - 1) (n : Int) = (t : Int) := by rw [ht, show (k : Int) + (n : Int) - 1 = ((k + n - 1 : Nat) : Int) by omega]; exact rem_lv (k + n - 1) n
    have hn0 : ¬ (n : Int) = 0 := by omega
    have hnz : ¬ n = 0 := by omega
    have hw1 : IntKind.i64.wrap ((k : Int) + (n : Int)) = (k : Int) + (n : Int) := by rw [IntKind.wrap_i64]; omega
    have hw2 : IntKind.i64.wrap ((k : Int) + (n : Int) - 1) = (k : Int) + (n : Int) - 1 := by rw [IntKind.wrap_i64]; omega
    have hki : (k : Int) < (n : Int) := by omega
    have hti : (t : Int) < (n : Int) := by omega
    obtain ⟨row, hrow⟩ : ∃ row, (patL n)[k]? = some row := ⟨_, List.getElem?_eq_getElem (by rw [pat_len]; exact hkn)⟩
    obtain ⟨hrl, hgb, hrb⟩ := hD4.row k row hrow
    have hcg := hD4.head hkn
    obtain ⟨yo, hyo⟩ := hrb.blk.cell (i := t) (by rw [hrl]; exact htn)
    have hfz := hrb.blk.frozen t
    have hS := hD4.store hrow t 1
    have hSF := hS.fit (by omega) (by omega)
    have hSL := hS.len
    have hg5 := grownBy_set w4 (GG k) t (.int .i64 1)
    have HR5 : Hid (Rd n₀ B (w4.setCell ⟨GG k, t, none⟩ (.int .i64 1)) (N + 300)) := Lib.hid ((hR4.keep hg5 (fun r e => by cases e; omega)).more (by omega))
    have HG5 : Hid (w.grownBy (w4.setCell ⟨GG k, t, none⟩ (.int .i64 1)) (some B)) := Lib.hid (grow_B HG4.out hg5 (fun r e => by cases e; exact .inl (Nat.le_trans hwz hgb)))
    have HO5 := Lib.hid (hS.ownMat (by omega))
    obtain ⟨xs, hxs⟩ : ∃ xs, (patL n).set k (row.set t 1) = xs := ⟨_, rfl⟩
    rw [hxs] at hSF hSL HO5
    have HXF := Lib.hid hSF
    have HXL := Lib.hid hSL
    clear hS hSF hSL hg5 hxs hrl hrb hrow ht hR4 HG4 hD4
    go_wp2_with fail
    go_still_tail 13, (by kernel_rfl)
    go_wp2_with fail
    go_ret
    have h := HO5.out
    rw [← HXL.out] at h ⊢
    exact ⟨some ⟨g, 0, none⟩, cap, xs, rfl, HXF.out, h.matErased hB2, HR5.out, ⟨HG5.out.os, HG5.out.tape, HG5.out.output, HG5.out.size, HG5.out.block⟩⟩
  · go_wp2_with fail
    refine (graph_anyK n₀ B (N + 1) 4 4 odd w1 hR1 (by omega) (by omega) (by omega) ho0 ho1 (by omega)).mono ?_
    rintro e w2 ⟨aG, cG, G, rfl, hF, hM, hR2, hg2, hl⟩
    have HD : Hid (DrawnG n₀ B (N + 300) w (.returned (.slice aG G.length cG)) w2) := Lib.hid ⟨aG, cG, G, rfl, hF, hM, hR2.more (by omega), grow_B hg1 hg2 (fun r e => by cases e; exact .inr rfl)⟩
    clear hF hM hR2 hg2 hl
    go_wp2_with fail
    go_ret
    exact HD.out

end Go.Proofs.Ytkkifphpogfjfaa

namespace Go.Proofs.Ytkkifphpogfjfaa
open Go.RowKit Go.Shelf Go.Deep

/-- A graph, or what is none. -/
def DrawnGr (w : World) (e : Ending) (w' : World) : Prop :=
  ∃ (a : Option Addr) (c : Nat) (xss : List (List Int)), e = .returned (.slice a xss.length c) ∧ (Fit xss ∧ Mat w'.heap.size w' a xss) ∧ Below w.heap.size w w'
/-- A graph, or what is none, and a number. -/
def DrawnGZ (m : Int) (w : World) (e : Ending) (w' : World) : Prop :=
  ∃ (a : Option Addr) (c : Nat) (xss : List (List Int)) (z : Int), e = .returned (.tuple #[.slice a xss.length c, .int .i64 z]) ∧ (Fit xss ∧ Mat w'.heap.size w' a xss) ∧ (0 ≤ z ∧ z < m) ∧ Below w.heap.size w w'

set_option maxRecDepth 100000 in
set_option maxHeartbeats 1000000 in
theorem drawRingsFor_any (a : Option Addr) (n c : Nat) (w : World) (hn : n ≤ 1048576) (hc : n ≤ c) (hy : Bytes w.heap.size w a n) :
    Calls Try.prog 42 #[.slice a n c] w (DrawnGr w) := by
  go_enter Try.func42, Try.ntmps42
  go_wp2_with fail
  refine (open_any a n c w hn hc hy).mono ?_
  rintro e w1 ⟨rfl, hR1, hB⟩
  have hz1 := hB.size
  obtain ⟨B, hBe⟩ : ∃ B, w.heap.size = B := ⟨_, rfl⟩
  have HB1 := Lib.hid hB
  rw [hBe] at hR1 ⊢
  have HBE := Lib.hid hBe
  clear hB hBe hy
  go_wp2_with fail
  refine (level_any B B (0) 9 w1 hR1 (by omega) (by omega) (by omega)).mono ?_
  rintro e w2 ⟨aG, cG, G, rfl, hFG, hG2, hR2, hg2⟩
  have HFG := Lib.hid hFG
  have HG2 := Lib.hid hG2
  clear hFG hG2
  have HB2 := Lib.hid (HB1.out.grown hg2 hz1 (fun k e => by cases e; exact Nat.le_of_eq HBE.out))
  have hz2 := HB2.out.size
  clear hg2 hR1 HB1 hz1 
  have LG := Lib.hid (HG2.out.laid hR2)
  go_wp2_with fail
  go_ret
  exact ⟨_, _, _, rfl, ⟨HFG.out, LG.out⟩, HB2.out⟩

set_option maxRecDepth 100000 in
set_option maxHeartbeats 1000000 in
theorem drawLevelsOf_any (a : Option Addr) (n c : Nat) (w : World) (hn : n ≤ 1048576) (hc : n ≤ c) (hy : Bytes w.heap.size w a n) :
    Calls Try.prog 36 #[.slice a n c] w (DrawnGZ 11 w) := by
  go_enter Try.func36, Try.ntmps36
  go_wp2_with fail
  refine (open_any a n c w hn hc hy).mono ?_
  rintro e w1 ⟨rfl, hR1, hB⟩
  have hz1 := hB.size
  obtain ⟨B, hBe⟩ : ∃ B, w.heap.size = B := ⟨_, rfl⟩
  have HB1 := Lib.hid hB
  rw [hBe] at hR1 ⊢
  have HBE := Lib.hid hBe
  clear hB hBe hy
  go_wp2_with fail
  refine (level_any B B (0) 9 w1 hR1 (by omega) (by omega) (by omega)).mono ?_
  rintro e w2 ⟨aG, cG, G, rfl, hFG, hG2, hR2, hg2⟩
  have HFG := Lib.hid hFG
  have HG2 := Lib.hid hG2
  clear hFG hG2
  have HB2 := Lib.hid (HB1.out.grown hg2 hz1 (fun k e => by cases e; exact Nat.le_of_eq HBE.out))
  have hz2 := HB2.out.size
  clear hg2 hR1 HB1 hz1 
  go_wp2_with fail
  refine (pick_any B B (0 + 300) 11 w2 hR2 (by omega)).mono ?_
  rintro e w3 ⟨z, ⟨rfl, z0, z1, _⟩, hR3, hg3, -⟩
  have z2 := z1 (by omega)
  clear z1
  have HB3 := Lib.hid (HB2.out.grown hg3 hz2 (fun k e => by cases e; exact Nat.le_of_eq HBE.out))
  have hz3 := HB3.out.size
  have HG3 := Lib.hid (HG2.out.erasedKept hR2 hg3 hg3.size)
  clear hg3 hR2 HB2 hz2 HG2
  have LG := Lib.hid (HG3.out.laid hR3)
  go_wp2_with fail
  go_ret2
  exact ⟨_, _, _, _, rfl, ⟨HFG.out, LG.out⟩, ⟨z0, z2⟩, HB3.out⟩

end Go.Proofs.Ytkkifphpogfjfaa
