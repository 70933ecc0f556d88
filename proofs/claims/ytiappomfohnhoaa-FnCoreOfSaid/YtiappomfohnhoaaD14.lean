/-
  The draws of stage 5: l20Loose; DrawStaysOk, DrawImageOf, DrawStaysOf, DrawCoreOf, DrawCoreOk, DrawTurnsOf, DrawRigidOk.
-/
import Derived.Test.YtiappomfohnhoaaZP
import Derived.Test.YtiappomfohnhoaaZV
namespace Go.Proofs.Ytiappomfohnhoaa
open Go.RowKit Go.Shelf Go.Deep

/-- Two nodes, each with an arrow to the other one. -/
def turnG : List (List Int) := [[0, 1], [1, 0]]
theorem turnG_fit : Fit turnG := ⟨by decide, fun xs hx => by
  simp only [turnG, List.mem_cons, List.not_mem_nil, or_false] at hx
  rcases hx with rfl | rfl <;> decide⟩
theorem turn_lit (w : World) {B : Nat} (hB : B < w.heap.size) (hs : ∀ (W : World) (k : Nat), k ≠ B → (W.setRow B #[]).heap[k]? = W.heap[k]?) :
    Mat (((w.alloc (.cells #[.int .i64 0, .int .i64 1] 3)).alloc (.cells #[.int .i64 1, .int .i64 0] 3)).alloc (.cells #[.slice (some ⟨w.heap.size, 0, none⟩) 2 2, .slice (some ⟨w.heap.size + 1, 0, none⟩) 2 2] 29)).heap.size
      ((((w.alloc (.cells #[.int .i64 0, .int .i64 1] 3)).alloc (.cells #[.int .i64 1, .int .i64 0] 3)).alloc (.cells #[.slice (some ⟨w.heap.size, 0, none⟩) 2 2, .slice (some ⟨w.heap.size + 1, 0, none⟩) 2 2] 29)).setRow B #[]) (some ⟨w.heap.size + 2, 0, none⟩) turnG := by
  have e1 : (((w.alloc (.cells #[.int .i64 0, .int .i64 1] 3)).alloc (.cells #[.int .i64 1, .int .i64 0] 3)).alloc (.cells #[.slice (some ⟨w.heap.size, 0, none⟩) 2 2, .slice (some ⟨w.heap.size + 1, 0, none⟩) 2 2] 29)).heap[w.heap.size + 2]? = some (.cells #[.slice (some ⟨w.heap.size, 0, none⟩) 2 2, .slice (some ⟨w.heap.size + 1, 0, none⟩) 2 2] 29) := by
    have h := World.alloc_heap_new ((w.alloc (.cells #[.int .i64 0, .int .i64 1] 3)).alloc (.cells #[.int .i64 1, .int .i64 0] 3)) (.cells #[.slice (some ⟨w.heap.size, 0, none⟩) 2 2, .slice (some ⟨w.heap.size + 1, 0, none⟩) 2 2] 29)
    simpa using h
  have e2 : (((w.alloc (.cells #[.int .i64 0, .int .i64 1] 3)).alloc (.cells #[.int .i64 1, .int .i64 0] 3)).alloc (.cells #[.slice (some ⟨w.heap.size, 0, none⟩) 2 2, .slice (some ⟨w.heap.size + 1, 0, none⟩) 2 2] 29)).heap[w.heap.size + 1]? = some (.cells #[.int .i64 1, .int .i64 0] 3) := by
    have h := World.alloc_heap_new (w.alloc (.cells #[.int .i64 0, .int .i64 1] 3)) (.cells #[.int .i64 1, .int .i64 0] 3)
    rw [Below.heap_alloc _ _ _ (by simp)]
    simpa using h
  have e3 : (((w.alloc (.cells #[.int .i64 0, .int .i64 1] 3)).alloc (.cells #[.int .i64 1, .int .i64 0] 3)).alloc (.cells #[.slice (some ⟨w.heap.size, 0, none⟩) 2 2, .slice (some ⟨w.heap.size + 1, 0, none⟩) 2 2] 29)).heap[w.heap.size]? = some (.cells #[.int .i64 0, .int .i64 1] 3) := by
    have h := World.alloc_heap_new w (.cells #[.int .i64 0, .int .i64 1] 3)
    rw [Below.heap_alloc _ _ _ (by simp; omega), Below.heap_alloc _ _ _ (by simp)]
    exact h
  generalize (((w.alloc (.cells #[.int .i64 0, .int .i64 1] 3)).alloc (.cells #[.int .i64 1, .int .i64 0] 3)).alloc (.cells #[.slice (some ⟨w.heap.size, 0, none⟩) 2 2, .slice (some ⟨w.heap.size + 1, 0, none⟩) 2 2] 29)) = V at e1 e2 e3 ⊢
  have s1 := (hs V (w.heap.size + 2) (by omega)).trans e1
  have s2 := (hs V (w.heap.size + 1) (by omega)).trans e2
  have s3 := (hs V w.heap.size (by omega)).trans e3
  have l1 : w.heap.size + 2 < V.heap.size := (Array.getElem?_eq_some_iff.1 e1).1
  generalize V.setRow B #[] = U at s1 s2 s3 ⊢
  refine fun _ => ⟨w.heap.size + 2, 0, rfl, l1, fun i hi => ?_⟩
  have hi2 : i = 0 ∨ i = 1 := by simp [turnG] at hi; omega
  rcases hi2 with rfl | rfl
  · refine ⟨some ⟨w.heap.size, 0, none⟩, 2, by simp [World.cell?, s1, turnG], fun _ => ⟨w.heap.size, 0, rfl, by omega, fun j hj => ?_⟩⟩
    have hj2 : j = 0 ∨ j = 1 := by simp [turnG] at hj; omega
    rcases hj2 with rfl | rfl <;> simp [World.cell?, s3, turnG]
  · refine ⟨some ⟨w.heap.size + 1, 0, none⟩, 2, by simp [World.cell?, s1, turnG], fun _ => ⟨w.heap.size + 1, 0, rfl, by omega, fun j hj => ?_⟩⟩
    have hj2 : j = 0 ∨ j = 1 := by simp [turnG] at hj; omega
    rcases hj2 with rfl | rfl <;> simp [World.cell?, s2, turnG]
theorem bes_turn {H : List (List Int)} (h2 : H.length ≤ 2) : (besL turnG H).length ≤ 4 ∧ Fit (besL turnG H) := by
  by_cases h : besOk turnG H = true
  · have := bes_length h
    exact ⟨by rw [this]; simp [turnG]; omega, (bes_good h).fit⟩
  · rw [besL_no (by simpa using h)]
    exact ⟨by simp, by simp, fun xs hx => by cases hx⟩

set_option maxRecDepth 100000 in
set_option maxHeartbeats 2000000 in
theorem loose_any (n₀ B N : Nat) (odd : Int) (w : World) (hR : Rd n₀ B w N) (hN : N ≤ 300000) (ho0 : 0 ≤ odd) (ho1 : odd ≤ 1000) :
    Calls Try.prog 61 #[.pointer (some ⟨B, 0, none⟩), .int .i64 odd] w (DrawnGK n₀ B (N + 201) 4 w) := by
  have hBw := hR.lt
  go_enter Try.func61, Try.ntmps61
  go_wp2_with fail
  refine (pick_any n₀ B N 3 w hR (by omega)).mono ?_
  rintro e w0 ⟨x, ⟨rfl, hx0, hx1, _⟩, hR0, hg0, -⟩
  clear hx1 hR
  by_cases hx : x = 0
  · have hxb : (x == 0) = true := by simp [hx]
    clear hx
    have hB0 : B < w0.heap.size := hR0.lt
    have HL := Lib.hid (turn_lit w0 hB0 (fun W k hk => setRow_other W B k #[] hk))
    have ha := ((World.grownBy_alloc w0 (.cells #[.int .i64 0, .int .i64 1] 3) (some B)))
    have hb := World.grownBy_alloc (w0.alloc (.cells #[.int .i64 0, .int .i64 1] 3)) (.cells #[.int .i64 1, .int .i64 0] 3) (some B)
    have hc := World.grownBy_alloc ((w0.alloc (.cells #[.int .i64 0, .int .i64 1] 3)).alloc (.cells #[.int .i64 1, .int .i64 0] 3)) (.cells #[.slice (some ⟨w0.heap.size, 0, none⟩) 2 2, .slice (some ⟨w0.heap.size + 1, 0, none⟩) 2 2] 29) (some B)
    have hg1 := grow_B (grow_B (grow_B hg0 ha (fun r e => by cases e; exact .inr rfl)) hb (fun r e => by cases e; exact .inr rfl)) hc (fun r e => by cases e; exact .inr rfl)
    have hR1 := ((hR0.keep (World.grownBy_alloc w0 (.cells #[.int .i64 0, .int .i64 1] 3) none) (fun r e => by cases e)).keep (World.grownBy_alloc _ (.cells #[.int .i64 1, .int .i64 0] 3) none) (fun r e => by cases e)).keep (World.grownBy_alloc _ (.cells #[.slice (some ⟨w0.heap.size, 0, none⟩) 2 2, .slice (some ⟨w0.heap.size + 1, 0, none⟩) 2 2] 29) none) (fun r e => by cases e)
    clear ha hb hc hg0 hR0
    go_wp2_with fail
    obtain ⟨V, hV⟩ : ∃ V, ((w0.alloc (.cells #[.int .i64 0, .int .i64 1] 3)).alloc (.cells #[.int .i64 1, .int .i64 0] 3)).alloc (.cells #[.slice (some ⟨w0.heap.size, 0, none⟩) 2 2, .slice (some ⟨w0.heap.size + 1, 0, none⟩) 2 2] 29) = V := ⟨_, rfl⟩
    rw [hV] at HL hg1 hR1 ⊢
    clear hV
    refine (graph_anyK n₀ B (N + 1) 2 2 0 V hR1 (by omega) (by omega) (by omega) (by omega) (by omega) (by omega)).mono ?_
    rintro e w2 ⟨a2, c2, H, rfl, hF2, hM2, hR2, hg2, hl2⟩
    have HF2 := Lib.hid hF2
    have HX := Lib.hid (HL.out.erasedKept hR1 hg2 hg2.size)
    have HG := Lib.hid (grow_B hg1 hg2 (fun r e => by cases e; exact .inr rfl))
    have hB2 : B < w2.heap.size := hR2.lt
    obtain ⟨T, HT⟩ : ∃ T, Hid (besL turnG H = T) := ⟨_, rfl⟩
    have HBT := Lib.hid (bes_turn hl2)
    rw [HT.out] at HBT
    have htl := HBT.out.1
    have hsp := specBesideO (some ⟨w0.heap.size + 2, 0, none⟩) a2 2 c2 turnG H w2.heap.size w2 (HX.out.laid hR2) (hM2.laid hR2) (Nat.le_refl _) turnG_fit hF2
    rw [HT.out, show turnG.length = 2 from rfl] at hsp
    have HSP := Lib.hid hsp
    clear hF2 hM2 hg1 hg2 hR1 HL hsp
    go_wp2_with fail
    refine HSP.out.mono ?_
    rintro e w3 ⟨a3, c3, ⟨rfl, hD⟩, hO⟩
    have hg3 : w2.grownBy w3 none := grown_of_below hD
    have hg3' : w2.grownBy w3 (some B) := ⟨hD.os, hD.tape, hD.output, hD.size, fun k hk _ => hD.block k hk⟩
    have HR3 : Hid (Rd n₀ B w3 (N + 201)) := Lib.hid (hR2.keep hg3 (fun r e => by cases e))
    have HM3 := Lib.hid (hO.matErased hB2)
    have HG3 := Lib.hid (grow_B HG.out hg3' (fun r e => by cases e; exact .inr rfl))
    clear hD hO hg3 hg3' hR2
    go_wp2_with fail
    go_ret
    exact ⟨a3, c3, T, rfl, HBT.out.2, HM3.out, HR3.out, HG3.out, HBT.out.1⟩
  · have hxb : (x == 0) = false := by simp [hx]
    clear hx
    go_wp2_with fail
    refine (graph_anyK n₀ B (N + 1) 4 4 odd w0 hR0 (by omega) (by omega) (by omega) (by omega) (by omega) (by omega)).mono ?_
    rintro e w1 ⟨a1, c1, xss, rfl, hF1, hM1, hR1, hg1, hl1⟩
    have HF1 := Lib.hid hF1
    have HM1 := Lib.hid hM1
    have HG1 := Lib.hid (grow_B hg0 hg1 (fun r e => by cases e; exact .inr rfl))
    have HR1 := Lib.hid hR1
    clear hF1 hM1 hg0 hg1 hR0 hR1
    go_wp2_with fail
    go_ret
    exact ⟨_, _, _, rfl, HF1.out, HM1.out, HR1.out.more (by omega), HG1.out, hl1⟩

set_option maxRecDepth 100000 in
set_option maxHeartbeats 1000000 in
theorem drawStaysOf_any (a : Option Addr) (n c : Nat) (w : World) (hn : n ≤ 1048576) (hc : n ≤ c) (hy : Bytes w.heap.size w a n) :
    Calls Try.prog 56 #[.slice a n c] w (DrawnMK 4 w) := by
  go_enter Try.func56, Try.ntmps56
  go_wp2_with fail
  refine (open_any a n c w hn hc hy).mono ?_
  rintro e w1 ⟨rfl, hR1, hB⟩
  have hz1 := hB.size
  obtain ⟨B, hBe⟩ : ∃ B, w.heap.size = B := ⟨_, rfl⟩
  have HB1 := Lib.hid hB
  rw [hBe] at hR1 ⊢
  have HBE := Lib.hid hBe
  clear hB hBe hy
  go_wp2_with fail
  refine (loose_any B B (0) 9 w1 hR1 (by omega) (by omega) (by omega)).mono ?_
  rintro e w2 ⟨aG, cG, G, rfl, hFG, hG2, hR2, hg2, hlG⟩
  have HFG := Lib.hid hFG
  have HG2 := Lib.hid hG2
  clear hFG hG2
  have HB2 := Lib.hid (HB1.out.grown hg2 hz1 (fun k e => by cases e; exact Nat.le_of_eq HBE.out))
  have hz2 := HB2.out.size
  clear hg2 hR1 HB1 hz1 
  have LG := Lib.hid (HG2.out.laid hR2)
  clear HG2 hR2
  go_wp2_with fail
  go_ret
  exact ⟨_, _, _, rfl, ⟨HFG.out, LG.out, hlG⟩, HB2.out⟩

set_option maxRecDepth 100000 in
set_option maxHeartbeats 1000000 in
theorem drawCoreOf_any (a : Option Addr) (n c : Nat) (w : World) (hn : n ≤ 1048576) (hc : n ≤ c) (hy : Bytes w.heap.size w a n) :
    Calls Try.prog 17 #[.slice a n c] w (DrawnMK 4 w) := by
  go_enter Try.func17, Try.ntmps17
  go_wp2_with fail
  refine (open_any a n c w hn hc hy).mono ?_
  rintro e w1 ⟨rfl, hR1, hB⟩
  have hz1 := hB.size
  obtain ⟨B, hBe⟩ : ∃ B, w.heap.size = B := ⟨_, rfl⟩
  have HB1 := Lib.hid hB
  rw [hBe] at hR1 ⊢
  have HBE := Lib.hid hBe
  clear hB hBe hy
  go_wp2_with fail
  refine (loose_any B B (0) 9 w1 hR1 (by omega) (by omega) (by omega)).mono ?_
  rintro e w2 ⟨aG, cG, G, rfl, hFG, hG2, hR2, hg2, hlG⟩
  have HFG := Lib.hid hFG
  have HG2 := Lib.hid hG2
  clear hFG hG2
  have HB2 := Lib.hid (HB1.out.grown hg2 hz1 (fun k e => by cases e; exact Nat.le_of_eq HBE.out))
  have hz2 := HB2.out.size
  clear hg2 hR1 HB1 hz1 
  have LG := Lib.hid (HG2.out.laid hR2)
  clear HG2 hR2
  go_wp2_with fail
  go_ret
  exact ⟨_, _, _, rfl, ⟨HFG.out, LG.out, hlG⟩, HB2.out⟩

set_option maxRecDepth 100000 in
set_option maxHeartbeats 1000000 in
theorem drawTurnsOf_any (a : Option Addr) (n c : Nat) (w : World) (hn : n ≤ 1048576) (hc : n ≤ c) (hy : Bytes w.heap.size w a n) :
    Calls Try.prog 60 #[.slice a n c] w (DrawnMK 4 w) := by
  go_enter Try.func60, Try.ntmps60
  go_wp2_with fail
  refine (open_any a n c w hn hc hy).mono ?_
  rintro e w1 ⟨rfl, hR1, hB⟩
  have hz1 := hB.size
  obtain ⟨B, hBe⟩ : ∃ B, w.heap.size = B := ⟨_, rfl⟩
  have HB1 := Lib.hid hB
  rw [hBe] at hR1 ⊢
  have HBE := Lib.hid hBe
  clear hB hBe hy
  go_wp2_with fail
  refine (loose_any B B (0) 9 w1 hR1 (by omega) (by omega) (by omega)).mono ?_
  rintro e w2 ⟨aG, cG, G, rfl, hFG, hG2, hR2, hg2, hlG⟩
  have HFG := Lib.hid hFG
  have HG2 := Lib.hid hG2
  clear hFG hG2
  have HB2 := Lib.hid (HB1.out.grown hg2 hz1 (fun k e => by cases e; exact Nat.le_of_eq HBE.out))
  have hz2 := HB2.out.size
  clear hg2 hR1 HB1 hz1 
  have LG := Lib.hid (HG2.out.laid hR2)
  clear HG2 hR2
  go_wp2_with fail
  go_ret
  exact ⟨_, _, _, rfl, ⟨HFG.out, LG.out, hlG⟩, HB2.out⟩

set_option maxRecDepth 100000 in
set_option maxHeartbeats 1000000 in
theorem drawRigidOk_any (a : Option Addr) (n c : Nat) (w : World) (hn : n ≤ 1048576) (hc : n ≤ c) (hy : Bytes w.heap.size w a n) :
    Calls Try.prog 54 #[.slice a n c] w (DrawnMK 4 w) := by
  go_enter Try.func54, Try.ntmps54
  go_wp2_with fail
  refine (open_any a n c w hn hc hy).mono ?_
  rintro e w1 ⟨rfl, hR1, hB⟩
  have hz1 := hB.size
  obtain ⟨B, hBe⟩ : ∃ B, w.heap.size = B := ⟨_, rfl⟩
  have HB1 := Lib.hid hB
  rw [hBe] at hR1 ⊢
  have HBE := Lib.hid hBe
  clear hB hBe hy
  go_wp2_with fail
  refine (graph_anyK B B (0) 4 4 9 w1 hR1 (by omega) (by omega) (by omega) (by omega) (by omega) (by omega)).mono ?_
  rintro e w2 ⟨aG, cG, G, rfl, hFG, hG2, hR2, hg2, hlG⟩
  have HFG := Lib.hid hFG
  have HG2 := Lib.hid hG2
  clear hFG hG2
  have HB2 := Lib.hid (HB1.out.grown hg2 hz1 (fun k e => by cases e; exact Nat.le_of_eq HBE.out))
  have hz2 := HB2.out.size
  clear hg2 hR1 HB1 hz1 
  have LG := Lib.hid (HG2.out.laid hR2)
  clear HG2 hR2
  go_wp2_with fail
  go_ret
  exact ⟨_, _, _, rfl, ⟨HFG.out, LG.out, hlG⟩, HB2.out⟩

/-- A GRAPH, or what is none, AND A LIST ARE DRAWN. -/
def DrawnML (m : Nat) (w : World) (e : Ending) (w' : World) : Prop :=
  ∃ (a : Option Addr) (c : Nat) (xss : List (List Int)) (a3 : Option Addr) (c3 : Nat) (f : List Int), e = .returned (.tuple #[.slice a xss.length c, .slice a3 f.length c3]) ∧
    (Fit xss ∧ Mat w'.heap.size w' a xss ∧ xss.length ≤ m) ∧ (f.length ≤ 1048576 ∧ Ints w'.heap.size w' a3 f) ∧ Below w.heap.size w w'

set_option maxRecDepth 100000 in
set_option maxHeartbeats 4000000 in
theorem drawStaysOk_any (a : Option Addr) (n c : Nat) (w : World) (hn : n ≤ 1048576) (hc : n ≤ c) (hy : Bytes w.heap.size w a n) :
    Calls Try.prog 58 #[.slice a n c] w (DrawnML 4 w) := by
  go_enter Try.func58, Try.ntmps58
  go_wp2_with fail
  refine (open_any a n c w hn hc hy).mono ?_
  rintro e w1 ⟨rfl, hR1, hB⟩
  have hz1 := hB.size
  obtain ⟨B, hBe⟩ : ∃ B, w.heap.size = B := ⟨_, rfl⟩
  have HB1 := Lib.hid hB
  rw [hBe] at hR1 ⊢
  have HBE := Lib.hid hBe
  clear hB hBe hy
  go_wp2_with fail
  refine (graph_anyK B B (0) 4 4 12 w1 hR1 (by omega) (by omega) (by omega) (by omega) (by omega) (by omega)).mono ?_
  rintro e w2 ⟨aG, cG, G, rfl, hFG, hG2, hR2, hg2, hlG⟩
  have HFG := Lib.hid hFG
  have HG2 := Lib.hid hG2
  clear hFG hG2
  have HB2 := Lib.hid (HB1.out.grown hg2 hz1 (fun k e => by cases e; exact Nat.le_of_eq HBE.out))
  have hz2 := HB2.out.size
  clear hg2 hR1 HB1 hz1 
  go_wp2_with fail
  refine (some_any B B (0 + 200) aG cG G aG cG G w2 hR2 (by omega) HG2.out HG2.out HFG.out HFG.out (by omega)).mono ?_
  rintro e w3 ⟨af, cf, f, rfl, ⟨hlf, hf3⟩, hR3, hg3⟩
  have Hf3 := Lib.hid hf3
  clear hf3
  have HB3 := Lib.hid (HB2.out.grown hg3 hz2 (fun k e => by cases e; exact Nat.le_of_eq HBE.out))
  have hz3 := HB3.out.size
  have HG3 := Lib.hid (HG2.out.erasedKept hR2 hg3 hg3.size)
  clear hg3 hR2 HB2 hz2 HG2
  have LG := Lib.hid (HG3.out.laid hR3)
  have Lf := Lib.hid (Hf3.out.laid hR3)
  clear HG3 Hf3 hR3
  go_wp2_with fail
  go_ret2
  exact ⟨_, _, _, _, _, _, rfl, ⟨HFG.out, LG.out, hlG⟩, ⟨hlf, Lf.out⟩, HB3.out⟩

set_option maxRecDepth 100000 in
set_option maxHeartbeats 2000000 in
theorem drawCoreOk_any (a : Option Addr) (n c : Nat) (w : World) (hn : n ≤ 1048576) (hc : n ≤ c) (hy : Bytes w.heap.size w a n) :
    Calls Try.prog 25 #[.slice a n c] w (DrawnMK 4 w) := by
  go_enter Try.func25, Try.ntmps25
  go_wp2_with fail
  refine (open_any a n c w hn hc hy).mono ?_
  rintro e w1 ⟨rfl, hR1, hB⟩
  have hz1 := hB.size
  obtain ⟨B, hBe⟩ : ∃ B, w.heap.size = B := ⟨_, rfl⟩
  have HB1 := Lib.hid hB
  rw [hBe] at hR1 ⊢
  have HBE := Lib.hid hBe
  clear hB hBe hy
  go_wp2_with fail
  refine (loose_any B B (0) 9 w1 hR1 (by omega) (by omega) (by omega)).mono ?_
  rintro e w2 ⟨aG, cG, G, rfl, hFG, hG2, hR2, hg2, hlG⟩
  have HFG := Lib.hid hFG
  have HG2 := Lib.hid hG2
  clear hFG hG2
  have HB2 := Lib.hid (HB1.out.grown hg2 hz1 (fun k e => by cases e; exact Nat.le_of_eq HBE.out))
  have hz2 := HB2.out.size
  clear hg2 hR1 HB1 hz1 
  go_wp2_with fail
  refine (pick_any B B (0 + 201) 2 w2 hR2 (by omega)).mono ?_
  rintro e w3 ⟨x, ⟨rfl, x0, x1, _⟩, hR3, hg3, -⟩
  have x2 := x1 (by omega)
  clear x1
  have HB3 := Lib.hid (HB2.out.grown hg3 hz2 (fun k e => by cases e; exact Nat.le_of_eq HBE.out))
  have hz3 := HB3.out.size
  have HG3 := Lib.hid (HG2.out.erasedKept hR2 hg3 hg3.size)
  clear hg3 hR2 HB2 hz2 HG2
  have LG := Lib.hid (HG3.out.laid hR3)
  clear HG3 hR3
  by_cases hx : x = 0
  · have hxb : (x == 0) = true := by simp [hx]
    clear hx
    have HSC := Lib.hid (specCoreOf aG cG G w3.heap.size w3 LG.out (Nat.le_refl _) HFG.out)
    obtain ⟨T, HT, HTF⟩ : ∃ T, Hid (corL G = T) ∧ Hid (Fit T) := ⟨_, rfl, cor_fit⟩
    obtain ⟨z, HZ⟩ : ∃ z, Hid (g5 G = z) := ⟨_, rfl⟩
    have htl := HTF.out.1
    have HT4 : Hid (T.length ≤ 4) := Lib.hid (by
      rw [← HT.out]
      cases h : g5 G with
      | true => rw [cor_length h]; exact Nat.le_trans (imgL_le _) hlG
      | false => rw [corL_no h]; simp)
    go_wp2_with fail
    refine HSC.out.mono ?_
    rw [HT.out, HZ.out]
    rintro e w4 ⟨aT, cT, ⟨rfl, hD⟩, hT4⟩
    have HB4 := Lib.hid (HB3.out.trans (hD.mono HB3.out.size))
    have LG4 := Lib.hid ((LG.out.below hD).more hD.size)
    have LT4 := Lib.hid hT4
    clear hD hT4 HSC HT HZ
    cases z with
    | true =>
      go_wp2_with fail
      go_ret
      exact ⟨_, _, _, rfl, ⟨HTF.out, LT4.out, HT4.out⟩, HB4.out⟩
    | false =>
      go_wp2_with fail
      go_ret
      exact ⟨_, _, _, rfl, ⟨HFG.out, LG4.out, hlG⟩, HB4.out⟩
  · have hxb : (x == 0) = false := by simp [hx]
    clear hx
    go_wp2_with fail
    go_ret
    exact ⟨_, _, _, rfl, ⟨HFG.out, LG.out, hlG⟩, HB3.out⟩

end Go.Proofs.Ytiappomfohnhoaa
