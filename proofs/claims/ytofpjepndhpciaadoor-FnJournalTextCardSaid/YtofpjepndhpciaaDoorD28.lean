/-
  Deeds are drawn (l20Deeds); those that have texts (l20Written); the draw of JournalText.
-/
import Derived.Test.YtofpjepndhpciaaDoorD27
import Derived.Test.YtofpjepndhpciaaDoorLG
import Derived.Test.YtofpjepndhpciaaDoorYU
namespace Go.Proofs.YtofpjepndhpciaaDoor
open Go.RowKit Go.Shelf Go.Deep

/-- DEEDS ARE BEING DRAWN: the reader, and a list of one's own. -/
def DsOut (n₀ B : Nat) (w W : World) (g cap n : Nat) (L : List Dd) (N : Nat) : Prop :=
  Rd n₀ B W N ∧ w.grownBy W (some B) ∧ B < w.heap.size ∧ n = L.length ∧ W.ownsRow w.heap.size 24 3 (.slice (some ⟨g, 0, none⟩) n cap) n (ddC L)
theorem DsOut.start {n₀ B N : Nat} {w : World} (hr : Rd n₀ B w N) : DsOut n₀ B w (w.alloc (.cells #[] 24)) w.heap.size 0 0 [] N :=
  ⟨hr.keep (World.grownBy_alloc w _ none) (fun r e => by cases e), World.grownBy_alloc w _ _, hr.lt, rfl, World.ownsRow_lit (size := 3) w #[] 0 (Nat.le_refl _) (Nat.zero_le _) rfl⟩
theorem DsOut.pick {n₀ B g cap n N N' : Nat} {w W W' : World} {L : List Dd} (h : DsOut n₀ B w W g cap n L N) (hr : Rd n₀ B W' N') (hg : W.grownBy W' (some B)) : DsOut n₀ B w W' g cap n L N' := by
  obtain ⟨_, h2, h3, h4, ho⟩ := h
  exact ⟨hr, grow_B h2 hg (fun r e => by cases e; exact .inr rfl), h3, h4, ho.kept hg (.inr (fun e => by have := (ho.lt B e).1; omega))⟩
theorem DsOut.alloc {n₀ B g cap n N : Nat} {w W : World} {L : List Dd} (h : DsOut n₀ B w W g cap n L N) (o : Obj) : DsOut n₀ B w (W.alloc o) g cap n L N := by
  obtain ⟨h1, h2, h3, h4, ho⟩ := h
  exact ⟨h1.keep (World.grownBy_alloc W o none) (fun r e => by cases e), grow_B h2 (World.grownBy_alloc W o none) (fun r e => by cases e), h3, h4, ho.alloc o⟩
theorem DsOut.appended {n₀ B g cap n N g' cap' : Nat} {w W W' : World} {L : List Dd} {d : Dd} (h : DsOut n₀ B w W g cap n L N)
    (ho : W'.ownsRow w.heap.size 24 3 (.slice (some ⟨g', 0, none⟩) (n + 1) cap') (n + 1) (ddC L ++ [.int .i64 d.k, .int .i64 d.a, .int .i64 d.b])) (hg : W.grownBy W' (Value.slice (some ⟨g, 0, none⟩) n cap).ownBlock) :
    DsOut n₀ B w W' g' cap' (n + 1) (L ++ [d]) N := by
  obtain ⟨h1, h2, h3, h4, ho0⟩ := h
  have hlt := (ho0.lt g rfl).1
  have hg' : W.grownBy W' (some g) := hg
  exact ⟨h1.keep hg' (fun r e => by cases e; omega), grow_B h2 hg' (fun r e => by cases e; exact .inl hlt), h3, by rw [List.length_append, h4]; rfl, by rw [ddC_app]; exact ho⟩
theorem DsOut.more {n₀ B g cap n N N' : Nat} {w W : World} {L : List Dd} (h : DsOut n₀ B w W g cap n L N) (hN : N ≤ N') : DsOut n₀ B w W g cap n L N' := ⟨h.1.more hN, h.2⟩
/-- DEEDS ARE DRAWN. -/
def DrawnDs (n₀ B N : Nat) (w : World) (e : Ending) (w' : World) : Prop := ∃ (g cap n : Nat) (L : List Dd), e = .returned (.slice (some ⟨g, 0, none⟩) n cap) ∧ n ≤ 5 ∧ DsOut n₀ B w w' g cap n L N

set_option maxRecDepth 100000 in
set_option maxHeartbeats 4000000 in
theorem deeds_any (n₀ B N : Nat) (a : Option Addr) (m c : Nat) (w : World) (hR : Rd n₀ B w N) (hN : N ≤ 400000) (hm : m ≤ 1048576) :
    Calls Tryd.prog 52 #[.pointer (some ⟨B, 0, none⟩), .slice a m c] w (DrawnDs n₀ B (N + 100) w) := by
  obtain ⟨i1, hj, hy0, hy1, hy2⟩ := info_parts infoDeed
  have h0 := DsOut.start hR
  go_enter Tryd.func52, Tryd.ntmps52
  go_wp2_with fail
  refine (pick_any n₀ B N 6 _ h0.1 (by omega)).mono ?_
  rintro e w1 ⟨x, ⟨rfl, hx0, hx1, _⟩, hR1, hg1, -⟩
  have hx2 := hx1 (by omega)
  obtain ⟨x, rfl⟩ : ∃ z : Nat, x = (z : Int) := ⟨x.toNat, by omega⟩
  have H1 := Lib.hid (h0.pick hR1 hg1)
  clear h0 hR hR1 hg1 hx1
  go_wp2_with fail
  go_loopw [5, 6] (fun v i wr => ∃ (k g cap n : Nat) (L : List Dd), k + n ≤ 5 ∧ i = .int .i64 k ∧ v = .slice (some ⟨g, 0, none⟩) n cap ∧ Hid (DsOut n₀ B w wr g cap n L (N + 1 + 10 * n))) (fun _ i _ => (intOf i).toNat)
  case atStart => exact ⟨x, _, _, 0, [], by omega, rfl, rfl, H1⟩
  case round =>
    obtain ⟨k, g, cap, n, L, hk, rfl, rfl, HD⟩ := hrel
    by_cases hlt : 0 < k
    · obtain ⟨k, rfl⟩ : ∃ j, k = j + 1 := ⟨k - 1, by omega⟩
      have hki : (0 : Int) < ((k + 1 : Nat) : Int) := by omega
      go_wp2_with fail
      refine (deed_any n₀ B (N + 1 + 10 * n) a m c wr HD.out.1 (by omega) hm).mono ?_
      rintro e w3 ⟨d, rfl, -, hR3, hg3⟩
      have HD5 := Lib.hid ((HD.out.pick hR3 hg3).alloc (.cells #[.int .i64 d.k, .int .i64 d.a, .int .i64 d.b] 24))
      have hz5 := HD5.out.2.1.size
      have HNW := Lib.hid (World.news_of_block (cs := #[.int .i64 d.k, .int .i64 d.a, .int .i64 d.b]) (t := 24) (fr := (0, 0)) (heap_alloc_new w3 (.cells #[.int .i64 d.k, .int .i64 d.a, .int .i64 d.b] 24)))
      clear hR3 hg3
      go_wp2_with (at_builtin; go_must (refine wpList_append_own _ rfl _ _ 32 rfl w.heap.size 24 i1 (.agg #[.int .i64 0, .int .i64 0, .int .i64 0]) 3 24 Tryd.underlying32 hj hy0 hy1 hy2 rfl (by decide) _ _ _ rfl HD5.out.2.2.2.2 ⟨w3.heap.size, 0, none⟩ 1 1 [.int .i64 d.k, .int .i64 d.a, .int .i64 d.b] rfl rfl HNW.out (by simp [Value.oneCell']) (by unfold maxLen; omega) (by omega) (by simpa using hz5) ?_); go_must (intro v' w4 hown' hgrow _; obtain ⟨g2, cap2, rfl⟩ := ownsRow_succ hown'); go_must (have HD6 := Lib.hid (HD5.out.appended (d := d) hown' hgrow)); clear hown' hgrow)
      go_roundw
      case rel => exact ⟨k, g2, cap2, n + 1, L ++ [d], by omega, by go_num, rfl, Lib.hid (HD6.out.more (by omega))⟩
      case measure => simp [intOf]
    · obtain rfl : k = 0 := by omega
      go_wp2_with fail
      go_ret
      exact ⟨g, cap, n, L, rfl, by omega, HD.out.more (by omega)⟩

set_option maxRecDepth 100000 in
set_option maxHeartbeats 4000000 in
theorem written_any (n₀ B N : Nat) (w : World) (hR : Rd n₀ B w N) (hN : N ≤ 300000) :
    Calls Tryd.prog 45 #[.pointer (some ⟨B, 0, none⟩)] w (DrawnDs n₀ B (N + 300) w) := by
  obtain ⟨i1, hj, hy0, hy1, hy2⟩ := info_parts infoDeed
  have h0 := DsOut.start hR
  go_enter Tryd.func45, Tryd.ntmps45
  go_wp2_with fail
  refine (graph_anyK n₀ B N 5 5 0 _ h0.1 (by omega) (by omega) (by omega) (by omega) (by omega) (by omega)).mono ?_
  rintro e w2 ⟨a2, c2, xss, rfl, -, -, hR2, hg2, hx4⟩
  have hl2 : xss.length ≤ 1048576 := by omega
  have h2 := h0.pick hR2 hg2
  have H2 := Lib.hid h2
  clear h0 hR hR2 hg2 h2
  go_wp2_with fail
  refine (deeds_any n₀ B (N + 200) a2 xss.length c2 w2 H2.out.1 (by omega) hl2).mono ?_
  rintro e w3 ⟨g3, cap3, n3, L3, rfl, hn3, hD3⟩
  obtain ⟨hR3, hg3, -, hn3L, hO3⟩ := hD3
  have H3 := Lib.hid (H2.out.pick hR3 hg3)
  rw [hn3L] at hO3
  have hM3 : Deeds w3.heap.size w3 (some ⟨g3, 0, none⟩) L3 := by
    obtain ⟨a', c', e', h'⟩ := OwnD.deeds (base := w2.heap.size) (v := .slice (some ⟨g3, 0, none⟩) L3.length cap3) hO3
    cases e'; exact h'
  subst hn3L
  clear hR3 hg3 hO3 H2 hl2 hx4
  have HS3 := Lib.hid (Nat.le_refl w3.heap.size)
  go_wp2_with fail
  go_loopw [3, 5] (fun v i wr => ∃ (k g cap n : Nat) (L : List Dd), k ≤ L3.length ∧ n ≤ k ∧ i = .int .i64 k ∧ v = .slice (some ⟨g, 0, none⟩) n cap ∧ Hid (n = L.length ∧ wr.ownsRow w.heap.size 24 3 (.slice (some ⟨g, 0, none⟩) n cap) n (ddC L)) ∧ (w3.heap.size ≤ g ∨ cap ≤ n) ∧ Below w3.heap.size w3 wr) (fun _ i _ => L3.length - (intOf i).toNat)
  case atStart => exact ⟨0, _, 0, 0, [], Nat.zero_le _, Nat.le_refl _, rfl, rfl, Lib.hid ⟨rfl, H3.out.2.2.2.2⟩, .inr (Nat.le_refl _), Below.refl _ _⟩
  case round =>
    obtain ⟨k, g, cap, n, L, hk, hn, rfl, rfl, HO, hup, hB⟩ := hrel
    have hws := hB.size
    have HUP := Lib.hid hup
    clear hup
    by_cases hlt : k < L3.length
    · have hM := hM3.below hB
      obtain ⟨b, o, d, hao, hb, -, q1, q2, q3⟩ := hM.at_ hlt
      cases hao
      have hcc : ∀ W : World, Below w3.heap.size wr W → W.cell? ⟨g3, 0 + k * 3, none⟩ = some (.int .i64 d.k) ∧ W.cell? ⟨g3, 0 + k * 3 + 1, none⟩ = some (.int .i64 d.a) ∧ W.cell? ⟨g3, 0 + k * 3 + 2, none⟩ = some (.int .i64 d.b) := fun W hW =>
        ⟨(hW.cell (p := ⟨g3, 0 + k * 3, none⟩) (by show g3 < _; omega)).trans q1, (hW.cell (p := ⟨g3, 0 + k * 3 + 1, none⟩) (by show g3 < _; omega)).trans q2, (hW.cell (p := ⟨g3, 0 + k * 3 + 2, none⟩) (by show g3 < _; omega)).trans q3⟩
      rw [Nat.zero_add] at hcc q1 q2 q3
      have HCC := Lib.hid hcc
      have hkl : (k : Int) < (L3.length : Int) := by omega
      clear hcc hM
      go_wp2_with fail
      refine (specDdt d.k d.a d.b wr).mono ?_
      rintro e w5 ⟨rfl, hB5⟩
      have hB6 := hB.trans (hB5.mono hws)
      obtain ⟨c1, c2, c3⟩ := HCC.out w5 (hB5.mono hws)
      have hO6 : w5.ownsRow w.heap.size 24 3 (.slice (some ⟨g, 0, none⟩) n cap) n (ddC L) := HO.out.2.kept (grown_of_below hB5) (by simp [Value.ownBlock])
      have HO6 := Lib.hid hO6
      have HNL := Lib.hid HO.out.1
      have hz6 := hB6.size
      clear hB hB5 hO6 q1 q2 q3 HO HCC
      by_cases he : ddT d = []
      · have hTs : (tB (ddT d)).toList.isEmpty = true := by rw [ByteArray.toList_eq, he]; rfl
        obtain ⟨T, hT⟩ : ∃ T, tB (ddT d) = T := ⟨_, rfl⟩
        change (tB (ddT ⟨d.k, d.a, d.b⟩)) = T at hT
        rw [hT] at hTs ⊢
        clear he hT
        go_wp2_with fail
        go_roundw
        case rel => exact ⟨k + 1, g, cap, n, L, by omega, by omega, by go_num, rfl, Lib.hid ⟨HNL.out, HO6.out⟩, HUP.out, hB6⟩
        case measure => simp [intOf]; omega
      · have hTs : (tB (ddT d)).toList.isEmpty = false := by rw [ByteArray.toList_eq, Bool.eq_false_iff, ne_eq, List.isEmpty_iff]; exact he
        obtain ⟨T, hT⟩ : ∃ T, tB (ddT d) = T := ⟨_, rfl⟩
        change (tB (ddT ⟨d.k, d.a, d.b⟩)) = T at hT
        rw [hT] at hTs ⊢
        clear he hT
        have HO7 := Lib.hid (HO6.out.alloc (.cells #[.int .i64 d.k, .int .i64 d.a, .int .i64 d.b] 24))
        have HB7 := Lib.hid (hB6.alloc hz6 (.cells #[.int .i64 d.k, .int .i64 d.a, .int .i64 d.b] 24))
        have hz7 := HB7.out.size
        have HNW := Lib.hid (World.news_of_block (cs := #[.int .i64 d.k, .int .i64 d.a, .int .i64 d.b]) (t := 24) (fr := (0, 0)) (heap_alloc_new w5 (.cells #[.int .i64 d.k, .int .i64 d.a, .int .i64 d.b] 24)))
        have hws0 : w.heap.size ≤ w3.heap.size := H3.out.2.1.size
        go_wp2_with (at_builtin; go_must (refine wpList_append_up rfl _ _ 32 rfl w.heap.size w3.heap.size 24 i1 (.agg #[.int .i64 0, .int .i64 0, .int .i64 0]) 3 24 Tryd.underlying32 hj hy0 hy1 hy2 rfl (by decide) _ _ _ _ rfl HO7.out HUP.out hws0 hz7 ⟨w5.heap.size, 0, none⟩ 1 1 [.int .i64 d.k, .int .i64 d.a, .int .i64 d.b] rfl rfl HNW.out (by simp [Value.oneCell']) (by unfold maxLen; omega) (by omega) (by omega) ?_); go_must (intro g2 cap2 w6 hown' hge hbel); go_must (have HO8 := Lib.hid (And.intro hown' hge)); go_must (have HB8 := Lib.hid (HB7.out.trans hbel)); clear hown' hge hbel)
        go_roundw
        case rel => exact ⟨k + 1, g2, cap2, n + 1, L ++ [d], by omega, by omega, by go_num, rfl, Lib.hid ⟨by rw [List.length_append, HNL.out]; rfl, by rw [ddC_app]; exact HO8.out.1⟩, .inl HO8.out.2, HB8.out⟩
        case measure => simp [intOf]; omega
    · have hkl : ¬ (k : Int) < (L3.length : Int) := by omega
      go_wp2_with fail
      go_ret
      obtain ⟨hnL, hown⟩ := HO.out
      have hgg := grown_of_below hB
      exact ⟨g, cap, n, L, rfl, by omega, (H3.out.1.keep hgg (fun r e => by cases e)).more (by omega), grow_B H3.out.2.1 hgg (fun r e => by cases e), H3.out.2.2.1, hnL, hown⟩

/-- DEEDS ARE DRAWN, and lie in memory. -/
def DrawnJr (w : World) (e : Ending) (w' : World) : Prop := ∃ (g c : Nat) (l : List Dd), e = .returned (.slice (some ⟨g, 0, none⟩) l.length c) ∧ l.length ≤ 6 ∧ Deeds w'.heap.size w' (some ⟨g, 0, none⟩) l ∧ Below w.heap.size w w'
theorem DsOut.drawn {n₀ B g cap n N : Nat} {w0 w W : World} {L : List Dd} (h : DsOut n₀ B w W g cap n L N) (hB : Below w0.heap.size w0 w) (hb : w0.heap.size ≤ B) (hn : n ≤ 6) : DrawnJr w0 (.returned (.slice (some ⟨g, 0, none⟩) n cap)) W := by
  obtain ⟨_, h2, h3, rfl, h5⟩ := h
  obtain ⟨a', c', e', h'⟩ := OwnD.deeds (base := w.heap.size) (v := .slice (some ⟨g, 0, none⟩) L.length cap) h5
  cases e'
  exact ⟨g, cap, L, rfl, hn, h', hB.grown h2 hB.size (fun k e => by cases e; exact hb)⟩

set_option maxRecDepth 100000 in
set_option maxHeartbeats 4000000 in
theorem drawJrt_any (a : Option Addr) (n c : Nat) (w : World) (hn : n ≤ 1048576) (hc : n ≤ c) (hy : Bytes w.heap.size w a n) :
    Calls Tryd.prog 17 #[.slice a n c] w (DrawnJr w) := by
  obtain ⟨i1, hj, hy0, hy1, hy2⟩ := info_parts infoDeed
  go_enter Tryd.func17, Tryd.ntmps17
  go_wp2_with fail
  refine (open_any a n c w hn hc hy).mono ?_
  rintro e w1 ⟨rfl, hR, hB⟩
  have HB1 := Lib.hid hB
  obtain ⟨B, hBe⟩ : ∃ B, w.heap.size = B := ⟨_, rfl⟩
  rw [hBe] at hR ⊢
  have HBE := Lib.hid hBe
  clear hB hBe hy
  go_wp2_with fail
  refine (written_any B B 0 w1 hR (by omega)).mono ?_
  rintro e w2 ⟨g, cap, m, L, rfl, hm, hD⟩
  have HD := Lib.hid hD
  clear hD hR
  go_wp2_with fail
  refine (odd_any B B (0 + 300) 12 w2 HD.out.1 (by omega) (by omega) (by omega)).mono ?_
  rintro e w3 ⟨bb, rfl, hR3, hg3, -⟩
  have HD3 := Lib.hid (HD.out.pick hR3 hg3)
  clear hR3 hg3 HD
  cases bb with
  | false =>
    go_wp2_with fail
    go_ret
    exact HD3.out.drawn HB1.out (Nat.le_of_eq HBE.out) (by omega)
  | true =>
    have HD5 := Lib.hid (HD3.out.alloc (.cells #[.int .i64 9, .int .i64 0, .int .i64 0] 24))
    have hz5 := HD5.out.2.1.size
    have HNW := Lib.hid (World.news_of_block (cs := #[.int .i64 9, .int .i64 0, .int .i64 0]) (t := 24) (fr := (0, 0)) (heap_alloc_new w3 (.cells #[.int .i64 9, .int .i64 0, .int .i64 0] 24)))
    go_wp2_with (at_builtin; go_must (refine wpList_append_own _ rfl _ _ 32 rfl w1.heap.size 24 i1 (.agg #[.int .i64 0, .int .i64 0, .int .i64 0]) 3 24 Tryd.underlying32 hj hy0 hy1 hy2 rfl (by decide) _ _ _ rfl HD5.out.2.2.2.2 ⟨w3.heap.size, 0, none⟩ 1 1 [.int .i64 9, .int .i64 0, .int .i64 0] rfl rfl HNW.out (by simp [Value.oneCell']) (by unfold maxLen; omega) (by omega) (by simpa using hz5) ?_); go_must (intro v' w4 hown' hgrow _; obtain ⟨g2, cap2, rfl⟩ := ownsRow_succ hown'); go_must (have HD6 := Lib.hid (HD5.out.appended (d := ⟨9, 0, 0⟩) hown' hgrow)); clear hown' hgrow)
    go_ret
    exact HD6.out.drawn HB1.out (Nat.le_of_eq HBE.out) (by omega)

end Go.Proofs.YtofpjepndhpciaaDoor
