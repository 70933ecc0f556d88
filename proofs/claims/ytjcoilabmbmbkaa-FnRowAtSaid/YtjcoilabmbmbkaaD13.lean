/-
  The draws of stage 4: l20Powered; DrawPowerOf, DrawRowAt, DrawNumberAt, DrawLiftedOf, DrawLoweredOf.
-/
import Derived.Test.YtjcoilabmbmbkaaZP
import Derived.Test.YtjcoilabmbmbkaaY6
namespace Go.Proofs.Ytjcoilabmbmbkaa
open Go.RowKit Go.Shelf Go.Deep

theorem results_tmp4' {fn : Func} {t u v x : Tmp} (h : fn.results = #[.tmp t, .tmp u, .tmp v, .tmp x]) (tmps : Array Value) (P : Program) (w : World) :
    (results fn tmps).run P w = .ok (.tuple #[tmps.getD t undef, tmps.getD u undef, tmps.getD v undef, tmps.getD x undef]) w := by
  simp [results, h]

set_option maxHeartbeats 1000000 in
theorem powered_any (n₀ B N : Nat) (odd : Int) (w : World) (hR : Rd n₀ B w N) (hN : N ≤ 300000) (ho0 : 0 ≤ odd) (ho1 : odd ≤ 1000) :
    Calls Try.prog 46 #[.pointer (some ⟨B, 0, none⟩), .int .i64 odd] w (DrawnPK n₀ B (N + 401) 3 w) := by
  have hBw := hR.lt
  go_enter Try.func46, Try.ntmps46
  go_wp2_with fail
  refine (pick_any n₀ B N 3 w hR (by omega)).mono ?_
  rintro e w0 ⟨x, ⟨rfl, hx0, hx1, _⟩, hR0, hg0, -⟩
  clear hx1 hR
  by_cases hx : x = 0
  · have hxb : (x == 0) = true := by simp [hx]
    clear hx
    go_wp2_with fail
    refine (graph_anyK n₀ B (N + 1) 3 3 odd w0 hR0 (by omega) (by omega) (by omega) (by omega) (by omega) (by omega)).mono ?_
    rintro e w1 ⟨a1, c1, xss, rfl, hF1, hM1, hR1, hg1, hl1⟩
    have HF1 := Lib.hid hF1
    have HM1 := Lib.hid hM1
    have hg01 := grow_B hg0 hg1 (fun r e => by cases e; exact .inr rfl)
    clear hF1 hM1 hg0 hg1 hR0
    go_wp2_with fail
    refine (graph_anyK n₀ B (N + 1 + 200) 3 2 odd w1 hR1 (by omega) (by omega) (by omega) (by omega) (by omega) (by omega)).mono ?_
    rintro e w2 ⟨a2, c2, yss, rfl, hF2, hM2, hR2, hg2, hl2⟩
    have HF2 := Lib.hid hF2
    have HM2 := Lib.hid hM2
    have HX2 := Lib.hid (HM1.out.erasedKept hR1 hg2 hg2.size)
    have HG2 := Lib.hid (grow_B hg01 hg2 (fun r e => by cases e; exact .inr rfl))
    have HR2 := Lib.hid hR2
    clear hF2 hM2 HM1 hg01 hg2 hR1 hR2
    go_wp2_with fail
    go_ret2
    exact ⟨_, _, _, _, _, _, rfl, ⟨HF1.out, HX2.out, hl1⟩, ⟨HF2.out, HM2.out, hl2⟩, HR2.out.more (by omega), HG2.out⟩
  · have hxb : (x == 0) = false := by simp [hx]
    clear hx
    go_wp2_with fail
    refine (graph_anyK n₀ B (N + 1) 3 2 odd w0 hR0 (by omega) (by omega) (by omega) (by omega) (by omega) (by omega)).mono ?_
    rintro e w1 ⟨a1, c1, xss, rfl, hF1, hM1, hR1, hg1, hl1⟩
    have HF1 := Lib.hid hF1
    have HM1 := Lib.hid hM1
    have hg01 := grow_B hg0 hg1 (fun r e => by cases e; exact .inr rfl)
    clear hF1 hM1 hg0 hg1 hR0
    go_wp2_with fail
    refine (graph_anyK n₀ B (N + 1 + 200) 3 3 odd w1 hR1 (by omega) (by omega) (by omega) (by omega) (by omega) (by omega)).mono ?_
    rintro e w2 ⟨a2, c2, yss, rfl, hF2, hM2, hR2, hg2, hl2⟩
    have HF2 := Lib.hid hF2
    have HM2 := Lib.hid hM2
    have HX2 := Lib.hid (HM1.out.erasedKept hR1 hg2 hg2.size)
    have HG2 := Lib.hid (grow_B hg01 hg2 (fun r e => by cases e; exact .inr rfl))
    have HR2 := Lib.hid hR2
    clear hF2 hM2 HM1 hg01 hg2 hR1 hR2
    go_wp2_with fail
    go_ret2
    exact ⟨_, _, _, _, _, _, rfl, ⟨HF1.out, HX2.out, hl1⟩, ⟨HF2.out, HM2.out, hl2⟩, HR2.out.more (by omega), HG2.out⟩

set_option maxRecDepth 100000 in
set_option maxHeartbeats 1000000 in
theorem drawPowerOf_any (a : Option Addr) (n c : Nat) (w : World) (hn : n ≤ 1048576) (hc : n ≤ c) (hy : Bytes w.heap.size w a n) :
    Calls Try.prog 13 #[.slice a n c] w (DrawnMMK 5 w) := by
  go_enter Try.func13, Try.ntmps13
  go_wp2_with fail
  refine (open_any a n c w hn hc hy).mono ?_
  rintro e w1 ⟨rfl, hR1, hB⟩
  have hz1 := hB.size
  obtain ⟨B, hBe⟩ : ∃ B, w.heap.size = B := ⟨_, rfl⟩
  have HB1 := Lib.hid hB
  rw [hBe] at hR1 ⊢
  have HBE := Lib.hid hBe
  clear hB hBe hy
  go_wp2_with fail
  refine (powered_any B B (0) 12 w1 hR1 (by omega) (by omega) (by omega)).mono ?_
  rintro e w2 ⟨aG, cG, G, aH, cH, H, rfl, ⟨hFG, hG2, hlG⟩, ⟨hFH, hH2, hlH⟩, hR2, hg2⟩
  have HFG := Lib.hid hFG
  have HG2 := Lib.hid hG2
  have HFH := Lib.hid hFH
  have HH2 := Lib.hid hH2
  clear hFG hG2 hFH hH2
  have HB2 := Lib.hid (HB1.out.grown hg2 hz1 (fun k e => by cases e; exact Nat.le_of_eq HBE.out))
  have hz2 := HB2.out.size
  clear hg2 hR1 HB1 hz1 
  have LG := Lib.hid (HG2.out.laid hR2)
  have LH := Lib.hid (HH2.out.laid hR2)
  clear HG2 HH2 hR2
  go_wp2_with fail
  go_ret2
  exact ⟨_, _, _, _, _, _, rfl, ⟨HFG.out, LG.out, by omega⟩, ⟨HFH.out, LH.out, by omega⟩, HB2.out⟩

set_option maxRecDepth 100000 in
set_option maxHeartbeats 1000000 in
theorem drawRowAt_any (a : Option Addr) (n c : Nat) (w : World) (hn : n ≤ 1048576) (hc : n ≤ c) (hy : Bytes w.heap.size w a n) :
    Calls Try.prog 24 #[.slice a n c] w (DrawnMMI 3 w) := by
  go_enter Try.func24, Try.ntmps24
  go_wp2_with fail
  refine (open_any a n c w hn hc hy).mono ?_
  rintro e w1 ⟨rfl, hR1, hB⟩
  have hz1 := hB.size
  obtain ⟨B, hBe⟩ : ∃ B, w.heap.size = B := ⟨_, rfl⟩
  have HB1 := Lib.hid hB
  rw [hBe] at hR1 ⊢
  have HBE := Lib.hid hBe
  clear hB hBe hy
  go_wp2_with fail
  refine (powered_any B B (0) 12 w1 hR1 (by omega) (by omega) (by omega)).mono ?_
  rintro e w2 ⟨aG, cG, G, aH, cH, H, rfl, ⟨hFG, hG2, hlG⟩, ⟨hFH, hH2, hlH⟩, hR2, hg2⟩
  have HFG := Lib.hid hFG
  have HG2 := Lib.hid hG2
  have HFH := Lib.hid hFH
  have HH2 := Lib.hid hH2
  clear hFG hG2 hFH hH2
  have HB2 := Lib.hid (HB1.out.grown hg2 hz1 (fun k e => by cases e; exact Nat.le_of_eq HBE.out))
  have hz2 := HB2.out.size
  clear hg2 hR1 HB1 hz1 
  go_wp2_with fail
  refine (pick_any B B (0 + 401) 10 w2 hR2 (by omega)).mono ?_
  rintro e w3 ⟨x, ⟨rfl, x0, x1, _⟩, hR3, hg3, -⟩
  have x2 := x1 (by omega)
  clear x1
  have HB3 := Lib.hid (HB2.out.grown hg3 hz2 (fun k e => by cases e; exact Nat.le_of_eq HBE.out))
  have hz3 := HB3.out.size
  have HG3 := Lib.hid (HG2.out.erasedKept hR2 hg3 hg3.size)
  have HH3 := Lib.hid (HH2.out.erasedKept hR2 hg3 hg3.size)
  clear hg3 hR2 HB2 hz2 HG2 HH2
  go_wp2_with fail
  refine (pick_any B B (0 + 401 + 1) 20 w3 hR3 (by omega)).mono ?_
  rintro e w4 ⟨y, ⟨rfl, y0, y1, _⟩, hR4, hg4, -⟩
  have y2 := y1 (by omega)
  clear y1
  have HB4 := Lib.hid (HB3.out.grown hg4 hz3 (fun k e => by cases e; exact Nat.le_of_eq HBE.out))
  have hz4 := HB4.out.size
  have HG4 := Lib.hid (HG3.out.erasedKept hR3 hg4 hg4.size)
  have HH4 := Lib.hid (HH3.out.erasedKept hR3 hg4 hg4.size)
  clear hg4 hR3 HB3 hz3 HG3 HH3
  have LG := Lib.hid (HG4.out.laid hR4)
  have LH := Lib.hid (HH4.out.laid hR4)
  clear HG4 HH4 hR4
  go_wp2_with fail
  go_ret3
  exact ⟨_, _, _, _, _, _, _, rfl, ⟨HFG.out, LG.out, by omega⟩, ⟨HFH.out, LH.out, by omega⟩, HB4.out⟩

/-- TWO GRAPHS, or what are none, AND A LIST ARE DRAWN. -/
def DrawnMML (m : Nat) (w : World) (e : Ending) (w' : World) : Prop :=
  ∃ (a : Option Addr) (c : Nat) (xss : List (List Int)) (a' : Option Addr) (c' : Nat) (yss : List (List Int)) (a3 : Option Addr) (c3 : Nat) (f : List Int), e = .returned (.tuple #[.slice a xss.length c, .slice a' yss.length c', .slice a3 f.length c3]) ∧
    (Fit xss ∧ Mat w'.heap.size w' a xss ∧ xss.length ≤ m) ∧ (Fit yss ∧ Mat w'.heap.size w' a' yss ∧ yss.length ≤ m) ∧ (f.length ≤ 1048576 ∧ Ints w'.heap.size w' a3 f) ∧ Below w.heap.size w w'

set_option maxRecDepth 100000 in
set_option maxHeartbeats 4000000 in
theorem drawNumberAt_any (a : Option Addr) (n c : Nat) (w : World) (hn : n ≤ 1048576) (hc : n ≤ c) (hy : Bytes w.heap.size w a n) :
    Calls Try.prog 28 #[.slice a n c] w (DrawnMML 3 w) := by
  go_enter Try.func28, Try.ntmps28
  go_wp2_with fail
  refine (open_any a n c w hn hc hy).mono ?_
  rintro e w1 ⟨rfl, hR1, hB⟩
  have hz1 := hB.size
  obtain ⟨B, hBe⟩ : ∃ B, w.heap.size = B := ⟨_, rfl⟩
  have HB1 := Lib.hid hB
  rw [hBe] at hR1 ⊢
  have HBE := Lib.hid hBe
  clear hB hBe hy
  go_wp2_with fail
  refine (powered_any B B (0) 12 w1 hR1 (by omega) (by omega) (by omega)).mono ?_
  rintro e w2 ⟨aH, cH, H, aG, cG, G, rfl, ⟨hFH, hH2, hlH⟩, ⟨hFG, hG2, hlG⟩, hR2, hg2⟩
  have HFH := Lib.hid hFH
  have HH2 := Lib.hid hH2
  have HFG := Lib.hid hFG
  have HG2 := Lib.hid hG2
  clear hFH hH2 hFG hG2
  have HB2 := Lib.hid (HB1.out.grown hg2 hz1 (fun k e => by cases e; exact Nat.le_of_eq HBE.out))
  have hz2 := HB2.out.size
  clear hg2 hR1 HB1 hz1 
  obtain ⟨i1, hj, hy0, hy1, hy2⟩ := info_parts infoInt
  go_wp2_with fail
  have hB2' : B < w2.heap.size := hR2.lt
  have HI0 := Lib.hid (IOut.start hR2 hB2')
  have hsz : w2.heap.size ≤ (w2.alloc (.cells #[] 3)).heap.size := by simp
  go_loopw [8, 9] (fun v i wr => ∃ (k g cap : Nat), k ≤ G.length ∧ i = .int .i64 k ∧ v = .slice (some ⟨g, 0, none⟩) k cap ∧ Hid (IOut B B w2 wr (.slice (some ⟨g, 0, none⟩) k cap) k (0 + 401 + 2 * k)))
    (fun _ i _ => G.length - (intOf i).toNat)
  case atStart => exact ⟨0, _, _, Nat.zero_le _, rfl, rfl, HI0⟩
  case round =>
    obtain ⟨k, g, cap, hk, rfl, rfl, HO⟩ := hrel
    clear HI0
    by_cases hlt : k < G.length
    · go_wp2_with fail
      all_goals
        refine (pick_any B B (0 + 401 + 2 * k) _ _ HO.out.1 (by omega)).mono ?_
        rintro e w4 ⟨x4, ⟨rfl, hp0, hp1, _⟩, hR4, hg4, -⟩
        have hp2 := hp1 (by omega)
        have HO4 := Lib.hid (HO.out.pick hR4 hg4)
        clear hp1 hR4 hg4 HO
        go_wp2_with fail
        refine (pick_any B B (0 + 401 + 2 * k + 1) _ _ HO4.out.1 (by omega)).mono ?_
        rintro e w5 ⟨x5, ⟨rfl, hq0, hq1, _⟩, hR5, hg5, -⟩
        have hq2 := hq1 (by omega)
        have HO6 := Lib.hid (HO4.out.pick hR5 hg5)
        clear hq1 hR5 hg5 HO4
        obtain ⟨ys, hyl, hown⟩ := HO6.out.2.2.2
        have hsz6 := HO6.out.2.1.size
        go_wp2_with (at_builtin; refine wpList_append_own _ rfl _ _ 30 rfl w2.heap.size 3 i1 (.int .i64 0) 1 8 Try.underlying30 hj hy0 hy1 hy2 rfl (by decide) _ _ _ rfl (hown.alloc _) ⟨w5.heap.size, 0, none⟩ 1 1 _ rfl rfl (cell_one_new _ _ _) (by simp [Value.oneCell']) (by unfold maxLen; omega) (by omega) (by simp; omega) ?_; intro v' w7 hown' hgrow _; obtain ⟨g', cap', rfl⟩ := ownsRow_succ hown'; have HO7 := Lib.hid (HO6.out.appended hyl hown hown' hgrow); clear hown' hgrow hown)
        go_roundw
        case rel => exact ⟨k + 1, g', cap', by omega, by go_num, rfl, Lib.hid (HO7.out.more (by omega))⟩
        case measure => simp [intOf]; omega
    · obtain rfl : k = G.length := by omega
      go_wp2_with fail
      refine (odd_any B B (0 + 401 + 2 * G.length) 14 _ HO.out.1 (by omega) (by omega) (by omega)).mono ?_
      rintro e w8 ⟨x, rfl, hR8, hg8, -⟩
      have HO8 := Lib.hid (HO.out.pick hR8 hg8)
      clear hR8 hg8 HO
      cases x with
      | false =>
        obtain ⟨ys, hyl, HI⟩ := HO8.out.ints
        have HR9 := HO8.out.1
        have HG9 := HO8.out.2.1
        have HX9 := Lib.hid ((HH2.out.erasedKept hR2 HG9 HG9.size).laid HR9)
        have HY9 := Lib.hid ((HG2.out.erasedKept hR2 HG9 HG9.size).laid HR9)
        have HB9 := Lib.hid (HB2.out.grown HG9 hz2 (fun k e => by cases e; exact Nat.le_of_eq HBE.out))
        have HI9 := Lib.hid (HI.laid HR9)
        clear HI HO8 HR9 HG9
        go_wp2_with fail
        go_ret3
        exact ⟨_, _, _, _, _, _, _, _, ys, by rw [hyl]; rfl, ⟨HFH.out, HX9.out, hlH⟩, ⟨HFG.out, HY9.out, hlG⟩, ⟨by omega, HI9.out⟩, HB9.out⟩
      | true =>
        obtain ⟨ys, hyl, hown⟩ := HO8.out.2.2.2
        have hsz6 := HO8.out.2.1.size
        go_wp2_with (at_builtin; refine wpList_append_own _ rfl _ _ 30 rfl w2.heap.size 3 i1 (.int .i64 0) 1 8 Try.underlying30 hj hy0 hy1 hy2 rfl (by decide) _ _ _ rfl (hown.alloc _) ⟨w8.heap.size, 0, none⟩ 1 1 _ rfl rfl (cell_one_new _ _ _) (by simp [Value.oneCell']) (by unfold maxLen; omega) (by omega) (by simp; omega) ?_; intro v' w7 hown' hgrow _; obtain ⟨g', cap', rfl⟩ := ownsRow_succ hown'; have HO7 := Lib.hid (HO8.out.appended hyl hown hown' hgrow); clear hown' hgrow hown)
        obtain ⟨zs, hzl, HI⟩ := HO7.out.ints
        have HR9 := HO7.out.1
        have HG9 := HO7.out.2.1
        have HX9 := Lib.hid ((HH2.out.erasedKept hR2 HG9 HG9.size).laid HR9)
        have HY9 := Lib.hid ((HG2.out.erasedKept hR2 HG9 HG9.size).laid HR9)
        have HB9 := Lib.hid (HB2.out.grown HG9 hz2 (fun k e => by cases e; exact Nat.le_of_eq HBE.out))
        have HI9 := Lib.hid (HI.laid HR9)
        clear HI HO8 HO7 HR9 HG9
        go_ret3
        exact ⟨_, _, _, _, _, _, _, _, zs, by rw [hzl]; rfl, ⟨HFH.out, HX9.out, hlH⟩, ⟨HFG.out, HY9.out, hlG⟩, ⟨by omega, HI9.out⟩, HB9.out⟩

/-- THREE GRAPHS, or what are none, AND A LIST ARE DRAWN. -/
def DrawnMMML (m : Nat) (w : World) (e : Ending) (w' : World) : Prop :=
  ∃ (a : Option Addr) (c : Nat) (xss : List (List Int)) (a' : Option Addr) (c' : Nat) (yss : List (List Int)) (a'' : Option Addr) (c'' : Nat) (zss : List (List Int)) (a3 : Option Addr) (c3 : Nat) (f : List Int),
    e = .returned (.tuple #[.slice a xss.length c, .slice a' yss.length c', .slice a'' zss.length c'', .slice a3 f.length c3]) ∧
    (Fit xss ∧ Mat w'.heap.size w' a xss ∧ xss.length ≤ m) ∧ (Fit yss ∧ Mat w'.heap.size w' a' yss ∧ yss.length ≤ m) ∧ (Fit zss ∧ Mat w'.heap.size w' a'' zss ∧ zss.length ≤ m) ∧ (f.length ≤ 1048576 ∧ Ints w'.heap.size w' a3 f) ∧ Below w.heap.size w w'

set_option maxRecDepth 100000 in
set_option maxHeartbeats 4000000 in
theorem drawLiftedOf_any (a : Option Addr) (n c : Nat) (w : World) (hn : n ≤ 1048576) (hc : n ≤ c) (hy : Bytes w.heap.size w a n) :
    Calls Try.prog 30 #[.slice a n c] w (DrawnMMML 3 w) := by
  go_enter Try.func30, Try.ntmps30
  go_wp2_with fail
  refine (open_any a n c w hn hc hy).mono ?_
  rintro e w1 ⟨rfl, hR1, hB⟩
  have hz1 := hB.size
  obtain ⟨B, hBe⟩ : ∃ B, w.heap.size = B := ⟨_, rfl⟩
  have HB1 := Lib.hid hB
  rw [hBe] at hR1 ⊢
  have HBE := Lib.hid hBe
  clear hB hBe hy
  go_wp2_with fail
  refine (powered_any B B (0) 14 w1 hR1 (by omega) (by omega) (by omega)).mono ?_
  rintro e w2 ⟨aH, cH, H, aG, cG, G, rfl, ⟨hFH, hH2, hlH⟩, ⟨hFG, hG2, hlG⟩, hR2, hg2⟩
  have HFH := Lib.hid hFH
  have HH2 := Lib.hid hH2
  have HFG := Lib.hid hFG
  have HG2 := Lib.hid hG2
  clear hFH hH2 hFG hG2
  have HB2 := Lib.hid (HB1.out.grown hg2 hz1 (fun k e => by cases e; exact Nat.le_of_eq HBE.out))
  have hz2 := HB2.out.size
  clear hg2 hR1 HB1 hz1 
  go_wp2_with fail
  refine (graph_anyK B B (0 + 401) 2 2 14 w2 hR2 (by omega) (by omega) (by omega) (by omega) (by omega) (by omega)).mono ?_
  rintro e w3 ⟨aK, cK, K, rfl, hFK, hK3, hR3, hg3, hlK⟩
  have HFK := Lib.hid hFK
  have HK3 := Lib.hid hK3
  clear hFK hK3
  have HB3 := Lib.hid (HB2.out.grown hg3 hz2 (fun k e => by cases e; exact Nat.le_of_eq HBE.out))
  have hz3 := HB3.out.size
  have HH3 := Lib.hid (HH2.out.erasedKept hR2 hg3 hg3.size)
  have HG3 := Lib.hid (HG2.out.erasedKept hR2 hg3 hg3.size)
  clear hg3 hR2 HB2 hz2 HH2 HG2
  have hBw3 : B < w3.heap.size := hR3.lt
  go_wp2_with fail
  refine (specTimesO _ _ _ _ K G _ w3 (HK3.out.laid hR3) (HG3.out.laid hR3) (Nat.le_refl _) HFK.out HFG.out).mono ?_
  obtain ⟨T, hET⟩ : ∃ L, timL K G = L := ⟨_, rfl⟩
  have HFT : Hid (Fit T) := Lib.hid (by rw [← hET]; exact tim_fit)
  have hflT := HFT.out.1
  have hT9 : T.length ≤ 9 := by
    rw [← hET]
    by_cases h : timOk K G = true
    · exact (tim_good h).2.1
    · rw [timL_no (by simpa using h)]; simp
  rw [hET]
  clear hET
  rintro e w4 ⟨aT, cT, ⟨rfl, hD⟩, hO⟩
  have hg0 : w3.grownBy w4 none := grown_of_below hD
  have hg4 : w3.grownBy w4 (some B) := ⟨hD.os, hD.tape, hD.output, hD.size, fun k hk _ => hD.block k hk⟩
  have hR4 : Rd B B w4 (0 + 401 + 200) := hR3.keep hg0 (fun r e => by cases e)
  have HT4 := Lib.hid (hO.matErased hBw3)
  clear hO hD hg0 hBw3
  have HB4 := Lib.hid (HB3.out.grown hg4 hz3 (fun k e => by cases e; exact Nat.le_of_eq HBE.out))
  have hz4 := HB4.out.size
  have HH4 := Lib.hid (HH3.out.erasedKept hR3 hg4 hg4.size)
  have HG4 := Lib.hid (HG3.out.erasedKept hR3 hg4 hg4.size)
  have HK4 := Lib.hid (HK3.out.erasedKept hR3 hg4 hg4.size)
  clear hg4 hR3 HB3 hz3 HH3 HG3 HK3
  go_wp2_with fail
  refine (some_any B B (0 + 401 + 200) aT cT T aH cH H w4 hR4 (by omega) HT4.out HH4.out HFT.out HFH.out (by omega)).mono ?_
  rintro e w5 ⟨af, cf, f, rfl, ⟨hlf, hf5⟩, hR5, hg5⟩
  have Hf5 := Lib.hid hf5
  clear hf5
  have HB5 := Lib.hid (HB4.out.grown hg5 hz4 (fun k e => by cases e; exact Nat.le_of_eq HBE.out))
  have hz5 := HB5.out.size
  have HH5 := Lib.hid (HH4.out.erasedKept hR4 hg5 hg5.size)
  have HG5 := Lib.hid (HG4.out.erasedKept hR4 hg5 hg5.size)
  have HK5 := Lib.hid (HK4.out.erasedKept hR4 hg5 hg5.size)
  have HT5 := Lib.hid (HT4.out.erasedKept hR4 hg5 hg5.size)
  clear hg5 hR4 HB4 hz4 HH4 HG4 HK4 HT4
  have LH := Lib.hid (HH5.out.laid hR5)
  have LG := Lib.hid (HG5.out.laid hR5)
  have LK := Lib.hid (HK5.out.laid hR5)
  have LT := Lib.hid (HT5.out.laid hR5)
  have Lf := Lib.hid (Hf5.out.laid hR5)
  clear HK5 HG5 HH5 Hf5 HT5 hR5
  go_wp2_with fail
  (try simp only [Exit.inBlock, Exit.then])
  refine bodyPost_ret (results_tmp4' rfl _ _ _) rfl ?_
  exact ⟨_, _, _, _, _, _, _, _, _, _, _, _, rfl, ⟨HFK.out, LK.out, by omega⟩, ⟨HFG.out, LG.out, by omega⟩, ⟨HFH.out, LH.out, by omega⟩, ⟨hlf, Lf.out⟩, HB5.out⟩

set_option maxRecDepth 100000 in
set_option maxHeartbeats 4000000 in
theorem drawLoweredOf_any (a : Option Addr) (n c : Nat) (w : World) (hn : n ≤ 1048576) (hc : n ≤ c) (hy : Bytes w.heap.size w a n) :
    Calls Try.prog 34 #[.slice a n c] w (DrawnMMML 3 w) := by
  go_enter Try.func34, Try.ntmps34
  go_wp2_with fail
  refine (open_any a n c w hn hc hy).mono ?_
  rintro e w1 ⟨rfl, hR1, hB⟩
  have hz1 := hB.size
  obtain ⟨B, hBe⟩ : ∃ B, w.heap.size = B := ⟨_, rfl⟩
  have HB1 := Lib.hid hB
  rw [hBe] at hR1 ⊢
  have HBE := Lib.hid hBe
  clear hB hBe hy
  go_wp2_with fail
  refine (powered_any B B (0) 14 w1 hR1 (by omega) (by omega) (by omega)).mono ?_
  rintro e w2 ⟨aH, cH, H, aG, cG, G, rfl, ⟨hFH, hH2, hlH⟩, ⟨hFG, hG2, hlG⟩, hR2, hg2⟩
  have HFH := Lib.hid hFH
  have HH2 := Lib.hid hH2
  have HFG := Lib.hid hFG
  have HG2 := Lib.hid hG2
  clear hFH hH2 hFG hG2
  have HB2 := Lib.hid (HB1.out.grown hg2 hz1 (fun k e => by cases e; exact Nat.le_of_eq HBE.out))
  have hz2 := HB2.out.size
  clear hg2 hR1 HB1 hz1 
  go_wp2_with fail
  refine (graph_anyK B B (0 + 401) 2 2 14 w2 hR2 (by omega) (by omega) (by omega) (by omega) (by omega) (by omega)).mono ?_
  rintro e w3 ⟨aK, cK, K, rfl, hFK, hK3, hR3, hg3, hlK⟩
  have HFK := Lib.hid hFK
  have HK3 := Lib.hid hK3
  clear hFK hK3
  have HB3 := Lib.hid (HB2.out.grown hg3 hz2 (fun k e => by cases e; exact Nat.le_of_eq HBE.out))
  have hz3 := HB3.out.size
  have HH3 := Lib.hid (HH2.out.erasedKept hR2 hg3 hg3.size)
  have HG3 := Lib.hid (HG2.out.erasedKept hR2 hg3 hg3.size)
  clear hg3 hR2 HB2 hz2 HH2 HG2
  have hBw3 : B < w3.heap.size := hR3.lt
  go_wp2_with fail
  refine (specPowO _ _ _ _ H G _ w3 (HH3.out.laid hR3) (HG3.out.laid hR3) (Nat.le_refl _) HFH.out HFG.out).mono ?_
  obtain ⟨T, hET⟩ : ∃ L, powL H G = L := ⟨_, rfl⟩
  have HFT : Hid (Fit T) := Lib.hid (by rw [← hET]; exact pow_fit)
  have hflT := HFT.out.1
  rw [hET]
  clear hET
  rintro e w4 ⟨aT, cT, ⟨rfl, hD⟩, hO⟩
  have hg0 : w3.grownBy w4 none := grown_of_below hD
  have hg4 : w3.grownBy w4 (some B) := ⟨hD.os, hD.tape, hD.output, hD.size, fun k hk _ => hD.block k hk⟩
  have hR4 : Rd B B w4 (0 + 401 + 200) := hR3.keep hg0 (fun r e => by cases e)
  have HT4 := Lib.hid (hO.matErased hBw3)
  clear hO hD hg0 hBw3
  have HB4 := Lib.hid (HB3.out.grown hg4 hz3 (fun k e => by cases e; exact Nat.le_of_eq HBE.out))
  have hz4 := HB4.out.size
  have HH4 := Lib.hid (HH3.out.erasedKept hR3 hg4 hg4.size)
  have HG4 := Lib.hid (HG3.out.erasedKept hR3 hg4 hg4.size)
  have HK4 := Lib.hid (HK3.out.erasedKept hR3 hg4 hg4.size)
  clear hg4 hR3 HB3 hz3 HH3 HG3 HK3
  go_wp2_with fail
  refine (some_any B B (0 + 401 + 200) aK cK K aT cT T w4 hR4 (by omega) HK4.out HT4.out HFK.out HFT.out (by omega)).mono ?_
  rintro e w5 ⟨af, cf, f, rfl, ⟨hlf, hf5⟩, hR5, hg5⟩
  have Hf5 := Lib.hid hf5
  clear hf5
  have HB5 := Lib.hid (HB4.out.grown hg5 hz4 (fun k e => by cases e; exact Nat.le_of_eq HBE.out))
  have hz5 := HB5.out.size
  have HH5 := Lib.hid (HH4.out.erasedKept hR4 hg5 hg5.size)
  have HG5 := Lib.hid (HG4.out.erasedKept hR4 hg5 hg5.size)
  have HK5 := Lib.hid (HK4.out.erasedKept hR4 hg5 hg5.size)
  have HT5 := Lib.hid (HT4.out.erasedKept hR4 hg5 hg5.size)
  clear hg5 hR4 HB4 hz4 HH4 HG4 HK4 HT4
  have LH := Lib.hid (HH5.out.laid hR5)
  have LG := Lib.hid (HG5.out.laid hR5)
  have LK := Lib.hid (HK5.out.laid hR5)
  have LT := Lib.hid (HT5.out.laid hR5)
  have Lf := Lib.hid (Hf5.out.laid hR5)
  clear HK5 HG5 HH5 Hf5 HT5 hR5
  go_wp2_with fail
  (try simp only [Exit.inBlock, Exit.then])
  refine bodyPost_ret (results_tmp4' rfl _ _ _) rfl ?_
  exact ⟨_, _, _, _, _, _, _, _, _, _, _, _, rfl, ⟨HFK.out, LK.out, by omega⟩, ⟨HFG.out, LG.out, by omega⟩, ⟨HFH.out, LH.out, by omega⟩, ⟨hlf, Lf.out⟩, HB5.out⟩

end Go.Proofs.Ytjcoilabmbmbkaa
