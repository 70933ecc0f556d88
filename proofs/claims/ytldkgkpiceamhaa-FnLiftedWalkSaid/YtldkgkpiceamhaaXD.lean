/-
  Several texts in one.
  A walk drawn: l20Walk.
  A cover drawn, most often: l20Cover.
  The draws of the laws of chapter 10.
-/
import Derived.Test.YtldkgkpiceamhaaZK
import Derived.Test.YtldkgkpiceamhaaZA
import Derived.Test.YtldkgkpiceamhaaZH
import Derived.Test.YtldkgkpiceamhaaWC
import Derived.Test.YtldkgkpiceamhaaXC
import Derived.Test.YtldkgkpiceamhaaZP
import Derived.Test.YtldkgkpiceamhaaZQ
namespace Go.Proofs.Ytldkgkpiceamhaa
open Go.RowKit Go.Shelf Go.Deep

theorem IOut.below {n₀ B k N : Nat} {w W W' : World} {v : Value} (h : IOut n₀ B w W v k N) (hb : Below W.heap.size W W') : IOut n₀ B w W' v k N := by
  obtain ⟨h1, h2, h3, ys, hl, ho⟩ := h
  exact ⟨h1.keep (grown_of_below hb) (fun r e => by cases e), grow_B h2 (grown_of_below hb) (fun r e => by cases e), h3, ys, hl, ownsRow_below ho hb⟩
theorem IOut.one {n₀ B N : Nat} {w : World} (hr : Rd n₀ B w N) (hB : B < w.heap.size) (z : Int) : IOut n₀ B w (w.alloc (.cells #[.int .i64 z] 3)) (.slice (some ⟨w.heap.size, 0, none⟩) 1 1) 1 N :=
  ⟨hr.keep (World.grownBy_alloc w _ none) (fun r e => by cases e), World.grownBy_alloc w _ _, hB, [z], rfl, World.ownsRow_lit (size := 1) w #[.int .i64 z] 1 (Nat.le_refl _) (by decide) rfl⟩
/-- A LIST built by append is drawn. -/
def DrawnWk (n₀ B N K : Nat) (w : World) (e : Ending) (w' : World) : Prop :=
  ∃ (g c k : Nat), e = .returned (.slice (some ⟨g, 0, none⟩) k c) ∧ (1 ≤ k ∧ k ≤ K) ∧ IOut n₀ B w w' (.slice (some ⟨g, 0, none⟩) k c) k N

set_option maxRecDepth 100000 in
set_option maxHeartbeats 4000000 in
theorem walk_any (n₀ B N : Nat) (a : Option Addr) (c : Nat) (G : List (List Int)) (z : Int) (w : World) (hR : Rd n₀ B w N) (hN : N ≤ 300000) (hM : Mat w.heap.size (w.setRow B #[]) a G) (hF : Fit G) :
    Calls Try.prog 65 #[.pointer (some ⟨B, 0, none⟩), .slice a G.length c, .int .i64 z] w (DrawnWk n₀ B (N + 10) 7 w) := by
  have hBw := hR.lt
  have hlG := hF.1
  have HF := Lib.hid hF
  have HR := Lib.hid hR
  have HM := Lib.hid hM
  obtain ⟨i1, hj, hy0, hy1, hy2⟩ := info_parts infoInt
  have HI0 := Lib.hid (IOut.one hR hBw z)
  obtain ⟨g0, hg0⟩ : ∃ g, w.heap.size = g := ⟨_, rfl⟩
  have hsz0 : w.heap.size ≤ (w.alloc (.cells #[.int .i64 z] 3)).heap.size := by simp
  obtain ⟨w0, hw0⟩ : ∃ w0, w.alloc (.cells #[.int .i64 z] 3) = w0 := ⟨_, rfl⟩
  rw [hw0] at HI0 hsz0
  clear hR hM hF hg0 g0
  go_enter Try.func65, Try.ntmps65
  go_wp2_with fail
  refine (pick_any n₀ B N 6 w0 HI0.out.1 (by omega)).mono ?_
  rintro e w1 ⟨x, ⟨rfl, hx0, hx1, _⟩, hR1, hg1, -⟩
  have hx2 := hx1 (by omega)
  obtain ⟨kl0, rfl⟩ : ∃ q : Nat, x = (q : Int) := ⟨x.toNat, by omega⟩
  have HI1 := Lib.hid (HI0.out.pick hR1 hg1)
  clear hx1 hR1 hg1 HI0 hw0
  go_wp2_with fail
  go_loopw [7, 8, 9] (fun v u i wr => ∃ (kl m g cap : Nat) (x : Int), m + kl ≤ 6 ∧ 1 ≤ m ∧ i = .int .i64 kl ∧ u = .int .i64 x ∧ v = .slice (some ⟨g, 0, none⟩) m cap ∧ Hid (IOut n₀ B w wr (.slice (some ⟨g, 0, none⟩) m cap) m (N + m))) (fun _ _ i _ => (intOf i).toNat)
  case atStart => exact ⟨kl0, 1, _, _, z, by omega, Nat.le_refl _, rfl, rfl, rfl, HI1⟩
  case round =>
    obtain ⟨kl, m, g, cap, x, hkm, hm1, rfl, rfl, rfl, HO⟩ := hrel
    clear HI1
    by_cases hk0 : 0 < kl
    · have hk0i : (0 : Int) < (kl : Int) := by omega
      have HIn := Lib.hid (in_any x 0 ((G.length : Int) - 1) wr)
      by_cases hx : 0 ≤ x ∧ x < (G.length : Int)
      · have hd : decide ((0 : Int) ≤ x ∧ x ≤ (G.length : Int) - 1) = true := decide_eq_true (by omega)
        rw [hd] at HIn
        obtain ⟨y, rfl⟩ : ∃ y : Nat, x = (y : Int) := ⟨x.toNat, by omega⟩
        have hy : y < G.length := by omega
        have hyi : (y : Int) < (G.length : Int) := by omega
        have hMr : Mat wr.heap.size wr a G := ((HM.out.erasedKept HR.out HO.out.2.1 HO.out.2.1.size).laid HO.out.1)
        obtain ⟨b1, o1, a5, c5, rs, rfl, hb1, hc1, hI1, HRS⟩ := hMr.at_ hy
        have hrl := HF.out.at_ HRS.out
        have hws := HO.out.2.1.size
        obtain ⟨wx, rfl⟩ : ∃ wx : World, wx = wr := ⟨_, rfl⟩
        have hl0 : (wx.alloc (.cells #[] 3)).ownsRow wx.heap.size 3 1 (.slice (some ⟨wx.heap.size, 0, none⟩) 0 0) 0 [] := World.ownsRow_lit (size := 1) wx #[] 0 (Nat.le_refl _) (Nat.zero_le _) rfl
        have hlb : Below wx.heap.size wx (wx.alloc (.cells #[] 3)) := (Below.refl _ _).alloc (Nat.le_refl _) _
        have HL0 : Hid (∃ ys : List Int, ys.length = 0 ∧ (wx.alloc (.cells #[] 3)).ownsRow wx.heap.size 3 1 (.slice (some ⟨wx.heap.size, 0, none⟩) 0 0) 0 (ys.map (Value.int .i64))) := Lib.hid ⟨[], rfl, hl0⟩
        have HLB := Lib.hid hlb
        clear hd hx hMr hl0 hlb hk0
        go_wp2_with fail
        refine HIn.out.mono ?_
        rintro e wq ⟨rfl, rfl⟩
        go_wp2_with fail
        go_loopw [10, 11] (fun v i wr => ∃ (j q g' cap' : Nat), j ≤ rs.length ∧ q ≤ j ∧ i = .int .i64 j ∧ v = .slice (some ⟨g', 0, none⟩) q cap' ∧ Hid (∃ ys : List Int, ys.length = q ∧ wr.ownsRow wx.heap.size 3 1 (.slice (some ⟨g', 0, none⟩) q cap') q (ys.map (Value.int .i64))) ∧ Hid (Below wx.heap.size wx wr)) (fun _ i _ => rs.length - (intOf i).toNat)
        case atStart => exact ⟨0, 0, _, _, Nat.zero_le _, Nat.zero_le _, rfl, rfl, HL0, HLB⟩
        case round =>
          obtain ⟨j, q, g', cap', hjl, hqj, rfl, rfl, HL, HB⟩ := hrel
          clear HL0 HLB
          have hcr : wr.cell? ⟨b1, o1 + y, none⟩ = some (.slice a5 rs.length c5) := (HB.out.cell (p := ⟨b1, o1 + y, none⟩) hb1).trans hc1
          by_cases hlt : j < rs.length
          · obtain ⟨b7, o7, v7, rfl, hb7, hc7, _⟩ := hI1.at_ hlt
            have hc7r : wr.cell? ⟨b7, o7 + j, none⟩ = some (.int .i64 v7) := (HB.out.cell (p := ⟨b7, o7 + j, none⟩) hb7).trans hc7
            have hji : (j : Int) < (rs.length : Int) := by omega
            by_cases h1 : v7 = 1
            · have hv : (v7 == 1) = true := by rw [h1]; rfl
              obtain ⟨ys, hyl, hown⟩ := HL.out
              have hBs := HB.out.size
              have hlg := hown.lt g' (by simp [Value.ownBlock])
              clear hc1 hc7 h1
              go_wp2_with (at_builtin; refine wpList_append_own _ rfl _ _ 24 rfl wx.heap.size 3 i1 (.int .i64 0) 1 8 Try.underlying24 hj hy0 hy1 hy2 rfl (by decide) _ _ _ rfl (hown.alloc _) ⟨wr.heap.size, 0, none⟩ 1 1 [.int .i64 (j : Int)] rfl rfl (cell_one_new _ _ _) (by simp [Value.oneCell']) (by unfold maxLen; omega) (by omega) (by simp; omega) ?_; intro v' w7 hown' hgrow _; obtain ⟨g2, cap2, rfl⟩ := ownsRow_succ hown'; have HO7 : Hid (∃ ys : List Int, ys.length = q + 1 ∧ w7.ownsRow wx.heap.size 3 1 (.slice (some ⟨g2, 0, none⟩) (q + 1) cap2) (q + 1) (ys.map (Value.int .i64))) := Lib.hid ⟨ys ++ [(j : Int)], by simp [hyl], by simpa using hown'⟩; have HB7 : Hid (Below wx.heap.size wx w7) := Lib.hid ((HB.out.alloc hBs _).grown hgrow (by simp; omega) (fun r e => by have e' : some g' = some r := e; cases e'; exact hlg.1)); clear hown' hgrow)
              go_roundw
              case rel => exact ⟨j + 1, q + 1, g2, cap2, by omega, by omega, by go_num, rfl, HO7, HB7⟩
              case measure => simp [intOf]; omega
            · have hv : (v7 == 1) = false := beq_eq_false_iff_ne.2 h1
              clear hc1 hc7 h1
              go_wp2_with fail
              go_roundw
              case rel => exact ⟨j + 1, q, g', cap', by omega, by omega, by go_num, rfl, HL, HB⟩
              case measure => simp [intOf]; omega
          · obtain rfl : j = rs.length := by omega
            have HO2 := Lib.hid (HO.out.below HB.out)
            by_cases hq0 : q = 0
            · subst hq0
              clear HL
              go_wp2_with fail
              go_ret
              exact ⟨g, cap, m, rfl, ⟨hm1, by omega⟩, HO2.out.more (by omega)⟩
            · have hqn : ((q : Int) == 0) = false := beq_eq_false_iff_ne.2 (by omega)
              obtain ⟨ys, hyl, hlo⟩ := HL.out
              have hBlt : B < wx.heap.size := Nat.lt_of_lt_of_le hBw hws
              clear hc1 HL HB
              go_wp2_with fail
              refine (pick_any n₀ B (N + m) (q : Int) wr HO2.out.1 (by omega)).mono ?_
              rintro e w4 ⟨x, ⟨rfl, hx0, hx1, _⟩, hR4, hg4, -⟩
              have hx2 := hx1 (by omega)
              obtain ⟨t, rfl⟩ : ∃ t : Nat, x = (t : Int) := ⟨x.toNat, by omega⟩
              have htq : t < q := by omega
              have hlo4 := hlo.kept hg4 (.inr (own_ne_rd1 hlo hBlt))
              obtain ⟨u, hu⟩ : ∃ u, ys[t]? = some u := ⟨_, List.getElem?_eq_getElem (by omega)⟩
              have hcu : w4.cell? ⟨g', t, none⟩ = some (.int .i64 u) := by
                rw [hlo4.cellAt t (by omega), List.getElem?_map, hu]; rfl
              have HO4 := Lib.hid (HO2.out.pick hR4 hg4)
              obtain ⟨zs, hzl, hown⟩ := HO4.out.2.2.2
              have hsz4 := HO4.out.2.1.size
              have hti : (t : Int) < (q : Int) := by omega
              clear hR4 hg4 hlo hlo4 hu hx1 hyl hcr HO HO2
              go_wp2_with (at_builtin; refine wpList_append_own _ rfl _ _ 24 rfl w.heap.size 3 i1 (.int .i64 0) 1 8 Try.underlying24 hj hy0 hy1 hy2 rfl (by decide) _ _ _ rfl (hown.alloc _) ⟨w4.heap.size, 0, none⟩ 1 1 [.int .i64 u] rfl rfl (cell_one_new _ _ _) (by simp [Value.oneCell']) (by unfold maxLen; omega) (by omega) (by simp; omega) ?_; intro v' w7 hown' hgrow _; obtain ⟨g2, cap2, rfl⟩ := ownsRow_succ hown'; have HO7 : Hid (IOut n₀ B w w7 (.slice (some ⟨g2, 0, none⟩) (m + 1) cap2) (m + 1) (N + (m + 1))) := Lib.hid ((HO4.out.appended hzl hown hown' hgrow).more (by omega)); clear hown' hgrow)
              go_roundw
              case rel => exact ⟨kl - 1, m + 1, g2, cap2, u, by omega, by omega, by go_num, rfl, rfl, HO7⟩
              case measure => simp [intOf]; omega
      · have hd : decide ((0 : Int) ≤ x ∧ x ≤ (G.length : Int) - 1) = false := decide_eq_false (by omega)
        rw [hd] at HIn
        clear hd hx hk0
        go_wp2_with fail
        refine HIn.out.mono ?_
        rintro e wq ⟨rfl, rfl⟩
        go_wp2_with fail
        refine (odd_any n₀ B (N + m) 14 wr HO.out.1 (by omega) (by omega) (by omega)).mono ?_
        rintro e w4 ⟨b, rfl, hR4, hg4, -⟩
        have HO4 := Lib.hid (HO.out.pick hR4 hg4)
        clear hR4 hg4 HO
        cases b with
        | true =>
          obtain ⟨ys, hyl, hown⟩ := HO4.out.2.2.2
          have hsz4 := HO4.out.2.1.size
          go_wp2_with (at_builtin; refine wpList_append_own _ rfl _ _ 24 rfl w.heap.size 3 i1 (.int .i64 0) 1 8 Try.underlying24 hj hy0 hy1 hy2 rfl (by decide) _ _ _ rfl (hown.alloc _) ⟨w4.heap.size, 0, none⟩ 1 1 [.int .i64 9] rfl rfl (cell_one_new _ _ _) (by simp [Value.oneCell']) (by unfold maxLen; omega) (by omega) (by simp; omega) ?_; intro v' w7 hown' hgrow _; obtain ⟨g2, cap2, rfl⟩ := ownsRow_succ hown'; have HO7 := Lib.hid (HO4.out.appended hyl hown hown' hgrow); clear hown' hgrow)
          go_ret
          exact ⟨g2, cap2, m + 1, rfl, ⟨by omega, by omega⟩, HO7.out.more (by omega)⟩
        | false =>
          go_wp2_with fail
          go_ret
          exact ⟨g, cap, m, rfl, ⟨hm1, by omega⟩, HO4.out.more (by omega)⟩
    · obtain rfl : kl = 0 := by omega
      go_wp2_with fail
      refine (odd_any n₀ B (N + m) 14 wr HO.out.1 (by omega) (by omega) (by omega)).mono ?_
      rintro e w4 ⟨b, rfl, hR4, hg4, -⟩
      have HO4 := Lib.hid (HO.out.pick hR4 hg4)
      clear hR4 hg4 HO
      cases b with
      | true =>
        obtain ⟨ys, hyl, hown⟩ := HO4.out.2.2.2
        have hsz4 := HO4.out.2.1.size
        go_wp2_with (at_builtin; refine wpList_append_own _ rfl _ _ 24 rfl w.heap.size 3 i1 (.int .i64 0) 1 8 Try.underlying24 hj hy0 hy1 hy2 rfl (by decide) _ _ _ rfl (hown.alloc _) ⟨w4.heap.size, 0, none⟩ 1 1 [.int .i64 9] rfl rfl (cell_one_new _ _ _) (by simp [Value.oneCell']) (by unfold maxLen; omega) (by omega) (by simp; omega) ?_; intro v' w7 hown' hgrow _; obtain ⟨g2, cap2, rfl⟩ := ownsRow_succ hown'; have HO7 := Lib.hid (HO4.out.appended hyl hown hown' hgrow); clear hown' hgrow)
        go_ret
        exact ⟨g2, cap2, m + 1, rfl, ⟨by omega, by omega⟩, HO7.out.more (by omega)⟩
      | false =>
        go_wp2_with fail
        go_ret
        exact ⟨g, cap, m, rfl, ⟨hm1, by omega⟩, HO4.out.more (by omega)⟩
end Go.Proofs.Ytldkgkpiceamhaa

namespace Go.Proofs.Ytldkgkpiceamhaa
open Go.RowKit Go.Shelf Go.Deep

/-- TWO GRAPHS, or what are none, AND A ROW. -/
def DrawnCv (n₀ B N : Nat) (w : World) (e : Ending) (w' : World) : Prop :=
  ∃ (a : Option Addr) (c : Nat) (xss : List (List Int)) (a' : Option Addr) (c' : Nat) (yss : List (List Int)) (a3 : Option Addr) (c3 : Nat) (f : List Int), e = .returned (.tuple #[.slice a xss.length c, .slice a' yss.length c', .slice a3 f.length c3]) ∧
    (Fit xss ∧ Mat w'.heap.size (w'.setRow B #[]) a xss ∧ xss.length ≤ 9) ∧ (Fit yss ∧ Mat w'.heap.size (w'.setRow B #[]) a' yss ∧ yss.length ≤ 4) ∧ (f.length ≤ 1048576 ∧ Ints w'.heap.size (w'.setRow B #[]) a3 f) ∧ Rd n₀ B w' N ∧ w.grownBy w' (some B)
theorem bes_len9 (xss yss : List (List Int)) : (besL xss yss).length ≤ 9 := by
  by_cases h : besOk xss yss = true
  · exact (bes_good h).2.1
  · rw [besL_no (by simpa using h)]; simp
theorem bes_empty {xss yss : List (List Int)} (h : 0 < (besL xss yss).length) : 1 ≤ xss.length := by
  by_cases hb : besOk xss yss = true
  · exact (besOk_of hb).1.1
  · rw [besL_no (by simpa using hb)] at h; simp at h
theorem tw_len9 (G : List (List Int)) : (twL G).length ≤ 9 := by
  cases h : g4 G with
  | true => rw [tw_len h]; have := (g4_iff.1 h).2; omega
  | false => rw [tw_no h]; simp
theorem rin_len4 {z : Int} (h : z ≤ 3) : (rinI z).length ≤ 4 := by
  by_cases h1 : 1 ≤ z ∧ z ≤ 9
  · unfold rinI
    rw [if_pos h1, rin_len]; omega
  · rw [rinI_no h1]; simp

set_option maxRecDepth 100000 in
set_option maxHeartbeats 8000000 in
theorem cover_any (n₀ B N : Nat) (w : World) (hR : Rd n₀ B w N) (hN : N ≤ 100000) :
    Calls Try.prog 54 #[.pointer (some ⟨B, 0, none⟩)] w (DrawnCv n₀ B (N + 700) w) := by
  have hBw := hR.lt
  obtain ⟨i1, hj, hy0, hy1, hy2⟩ := info_parts infoInt
  go_enter Try.func54, Try.ntmps54
  go_wp2_with fail
  refine (pick_any n₀ B N 4 w hR (by omega)).mono ?_
  rintro e w1 ⟨x, ⟨rfl, x0, x1, _⟩, hR1, hg1, -⟩
  have x4 := x1 (by omega)
  have hx : x = 0 ∨ x = 1 ∨ x = 2 ∨ x = 3 := by omega
  have HG1 := Lib.hid hg1
  clear x0 x1 x4 hR hg1
  rcases hx with rfl | rfl | rfl | rfl
  · go_wp2_with fail
    refine (map_any n₀ B (N + 1) w1 hR1 (by omega)).mono ?_
    rintro e w2 ⟨a, c, xss, a', c', yss, a3, c3, f, rfl, ⟨hF, hX, hx4⟩, ⟨hF', hY, hy4⟩, ⟨hfl, hI⟩, hR2, hg2⟩
    have HG2 := Lib.hid (grow_B HG1.out hg2 (fun r e => by cases e; exact .inr rfl))
    have HA := Lib.hid (And.intro hF (And.intro hX (show xss.length ≤ 9 by omega)))
    have HB := Lib.hid (And.intro hF' (And.intro hY hy4))
    have HC := Lib.hid (And.intro hfl hI)
    have HR2 := Lib.hid (hR2.more (show N + 1 + 600 ≤ N + 700 by omega))
    clear hF hX hF' hY hI hR2 hg2 hR1
    go_wp2_with fail
    go_ret3
    exact ⟨a, c, xss, a', c', yss, a3, c3, f, rfl, HA.out, HB.out, HC.out, HR2.out, HG2.out⟩
  · go_wp2_with fail
    refine (pick_any n₀ B (N + 1) 3 w1 hR1 (by omega)).mono ?_
    rintro e w2 ⟨p, ⟨rfl, p0, p1, _⟩, hR2, hg2, -⟩
    have p3 := p1 (by omega)
    have HG2 := Lib.hid (grow_B HG1.out hg2 (fun r e => by cases e; exact .inr rfl))
    obtain ⟨n, hn⟩ : ∃ n : Nat, (1 : Int) + p = (n : Int) := ⟨(1 + p).toNat, by omega⟩
    clear p1 hR1 hg2
    go_wp2_with fail
    refine (pick_any n₀ B (N + 1 + 1) 3 w2 hR2 (by omega)).mono ?_
    rintro e w3 ⟨q, ⟨rfl, q0, q1, _⟩, hR3, hg3, -⟩
    have q3 := q1 (by omega)
    have HG3 := Lib.hid (grow_B HG2.out hg3 (fun r e => by cases e; exact .inr rfl))
    obtain ⟨m, hm⟩ : ∃ m : Nat, (1 : Int) + q = (m : Int) := ⟨(1 + q).toNat, by omega⟩
    have hn3 : n ≤ 3 := by omega
    have hm3 : m ≤ 3 := by omega
    have hn0 : ¬ n = 0 := by omega
    have hn0i : ¬ (n : Int) = 0 := by omega
    obtain ⟨M, hM⟩ : ∃ M, n * m = M := ⟨_, rfl⟩
    have hM9 : M ≤ 9 := by rw [← hM]; exact Nat.mul_le_mul hn3 hm3
    have hMi : (n : Int) * (m : Int) = (M : Int) := by rw [← hM, Int.natCast_mul]
    clear q1 hR2 hg3 hM
    go_wp2_with fail
    refine (specRinD (M : Int) w3).mono ?_
    obtain ⟨L, hL⟩ : ∃ L, rinI (M : Int) = L := ⟨_, rfl⟩
    have hF := rinI_fit (M : Int)
    rw [hL] at hF ⊢
    clear hL
    rintro e w4 h
    obtain ⟨a4, c4, ⟨rfl, hB4⟩, hO4⟩ := h.made (by omega)
    have HFL := Lib.hid hF.1
    have hLl := hF.2
    have hg4 := grown_of_below hB4
    have HX4 := Lib.hid (hO4.matErased hR3.lt)
    have hRS : Rd n₀ B w4 (N + 1 + 1 + 1) := hR3.keep hg4 (fun r e => by cases e)
    have HRS := Lib.hid hRS
    have HG4 := Lib.hid (grow_B HG3.out hg4 (fun r e => by cases e))
    have hBl := hRS.lt
    clear h hB4 hO4 hF hR3 HG3 hg4
    go_wp2_with fail
    have HI0 := Lib.hid (IOut.start hRS hBl)
    go_loopw [8, 9] (fun v i wr => ∃ (k g cap : Nat), k ≤ M ∧ i = .int .i64 k ∧ v = .slice (some ⟨g, 0, none⟩) k cap ∧ Hid (IOut n₀ B w4 wr (.slice (some ⟨g, 0, none⟩) k cap) k (N + 1 + 1 + 1)))
      (fun _ i _ => M - (intOf i).toNat)
    case atStart => exact ⟨0, _, _, Nat.zero_le _, rfl, rfl, HI0⟩
    case round =>
      obtain ⟨k, g, cap, hk, rfl, rfl, HO⟩ := hrel
      clear HI0
      by_cases hlt : k < M
      · skip
        obtain ⟨ys, hyl, hown⟩ := HO.out.2.2.2
        have hszr := HO.out.2.1.size
        go_wp2_with (at_builtin; refine wpList_append_own _ rfl _ _ 24 rfl w4.heap.size 3 i1 (.int .i64 0) 1 8 Try.underlying24 hj hy0 hy1 hy2 rfl (by decide) _ _ _ rfl (hown.alloc _) ⟨wr.heap.size, 0, none⟩ 1 1 _ rfl rfl (cell_one_new _ _ _) (by simp [Value.oneCell']) (by unfold maxLen; omega) (by omega) (by simp; omega) ?_; intro v' w7 hown' hgrow _; obtain ⟨g2, cap2, rfl⟩ := ownsRow_succ hown'; have HO7 := Lib.hid (HO.out.appended hyl hown hown' hgrow); clear hown' hgrow)
        go_roundw
        case rel => exact ⟨k + 1, g2, cap2, by omega, by go_num, rfl, HO7⟩
        case measure => simp [intOf]; omega
      · obtain rfl : k = M := by omega
        obtain ⟨ys, hyl, HI⟩ := HO.out.ints
        have hgS := HO.out.2.1
        have hR9 := HO.out.1
        have HI9 := Lib.hid HI
        clear HI HO
        have HX5 := Lib.hid (HX4.out.erasedKept HRS.out hgS hgS.size)
        have HG5 := Lib.hid (grow_B HG4.out hgS (fun r e => by cases e; exact .inr rfl))
        obtain ⟨w5, rfl⟩ : ∃ w5 : World, w5 = wr := ⟨_, rfl⟩
        clear hgS HX4 hRS
        go_wp2_with fail
        refine (specRinD (n : Int) w5).mono ?_
        obtain ⟨K, hK⟩ : ∃ K, rinI (n : Int) = K := ⟨_, rfl⟩
        have hF := rinI_fit (n : Int)
        have hK4 := rin_len4 (z := (n : Int)) (by omega)
        rw [hK] at hF hK4 ⊢
        clear hK
        rintro e w6 h
        obtain ⟨a6, c6, ⟨rfl, hB6⟩, hO6⟩ := h.made (by omega)
        have HFK := Lib.hid hF.1
        have hg6 := grown_of_below hB6
        have hg6' : w5.grownBy w6 (some B) := ⟨hB6.os, hB6.tape, hB6.output, hB6.size, fun k hk _ => hB6.block k hk⟩
        have HY6 := Lib.hid (hO6.matErased hR9.lt)
        have HX6 := Lib.hid (HX5.out.erasedKept hR9 hg6' hg6.size)
        have HI6 := Lib.hid (HI9.out.erasedKept hR9 hg6' hg6.size)
        have HR6 := Lib.hid ((hR9.keep hg6 (fun r e => by cases e)).more (show N + 1 + 1 + 1 ≤ N + 700 by omega))
        have HG6 := Lib.hid (grow_B HG5.out hg6 (fun r e => by cases e))
        clear h hB6 hO6 hF hg6 hg6' hR9 HX5 HI9 HG5
        go_wp2_with fail
        go_ret3
        exact ⟨a4, c4, L, a6, c6, K, some ⟨g, 0, none⟩, cap, ys, by rw [hyl]; rfl, ⟨HFL.out, HX6.out, hLl⟩, ⟨HFK.out, HY6.out, hK4⟩, ⟨by omega, HI6.out⟩, HR6.out, HG6.out⟩
  · go_wp2_with fail
    refine (graph_anyK n₀ B (N + 1) 4 4 20 w1 hR1 (by omega) (by omega) (by omega) (by omega) (by omega) (by omega)).mono ?_
    rintro e w2 ⟨aH, cH, H, rfl, hF, hX, hRS, hg2, hH4⟩
    have HF := Lib.hid hF
    have HX2 := Lib.hid hX
    have HG2 := Lib.hid (grow_B HG1.out hg2 (fun r e => by cases e; exact .inr rfl))
    have HRS := Lib.hid hRS
    have hBl := hRS.lt
    clear hF hX hg2 hR1
    obtain ⟨M, hM⟩ : ∃ M, 2 * H.length = M := ⟨_, rfl⟩
    have hM8 : M ≤ 8 := by omega
    have hMi : (2 : Int) * (H.length : Int) = (M : Int) := by omega
    have hmx0 : ¬ max (H.length : Int) 1 = 0 := by omega
    have hmx1 : ¬ (if (H.length : Int) < 1 then (1 : Int) else (H.length : Int)) = 0 := by split <;> omega
    clear hM
    go_wp2_with fail
    have HI0 := Lib.hid (IOut.start hRS hBl)
    go_loopw [11, 12] (fun v i wr => ∃ (k g cap : Nat), k ≤ M ∧ i = .int .i64 k ∧ v = .slice (some ⟨g, 0, none⟩) k cap ∧ Hid (IOut n₀ B w2 wr (.slice (some ⟨g, 0, none⟩) k cap) k (N + 1 + 200)))
      (fun _ i _ => M - (intOf i).toNat)
    case atStart => exact ⟨0, _, _, Nat.zero_le _, rfl, rfl, HI0⟩
    case round =>
      obtain ⟨k, g, cap, hk, rfl, rfl, HO⟩ := hrel
      clear HI0
      by_cases hlt : k < M
      · skip
        obtain ⟨ys, hyl, hown⟩ := HO.out.2.2.2
        have hszr := HO.out.2.1.size
        go_wp2_with (at_builtin; refine wpList_append_own _ rfl _ _ 24 rfl w2.heap.size 3 i1 (.int .i64 0) 1 8 Try.underlying24 hj hy0 hy1 hy2 rfl (by decide) _ _ _ rfl (hown.alloc _) ⟨wr.heap.size, 0, none⟩ 1 1 _ rfl rfl (cell_one_new _ _ _) (by simp [Value.oneCell']) (by unfold maxLen; omega) (by omega) (by simp; omega) ?_; intro v' w7 hown' hgrow _; obtain ⟨g2, cap2, rfl⟩ := ownsRow_succ hown'; have HO7 := Lib.hid (HO.out.appended hyl hown hown' hgrow); clear hown' hgrow)
        go_roundw
        case rel => exact ⟨k + 1, g2, cap2, by omega, by go_num, rfl, HO7⟩
        case measure => simp [intOf]; omega
      · obtain rfl : k = M := by omega
        obtain ⟨ys, hyl, HI⟩ := HO.out.ints
        have hgS := HO.out.2.1
        have hR9 := HO.out.1
        have HI9 := Lib.hid HI
        clear HI HO
        have HX5 := Lib.hid (HX2.out.erasedKept HRS.out hgS hgS.size)
        have HG5 := Lib.hid (grow_B HG2.out hgS (fun r e => by cases e; exact .inr rfl))
        obtain ⟨w5, rfl⟩ : ∃ w5 : World, w5 = wr := ⟨_, rfl⟩
        clear hgS HX2 hRS
        go_wp2_with fail
        refine (specTwO aH cH H w5.heap.size w5 (HX5.out.laid hR9) (Nat.le_refl _) HF.out).mono ?_
        obtain ⟨K, hK⟩ : ∃ K, twL H = K := ⟨_, rfl⟩
        have hFK : Fit (twL H) := tw_fit
        have hK9 := tw_len9 H
        rw [hK] at hFK hK9 ⊢
        clear hK
        rintro e w6 ⟨a6, c6, ⟨rfl, hB6⟩, hO6⟩
        have HFK := Lib.hid hFK
        have hg6 := grown_of_below hB6
        have hg6' : w5.grownBy w6 (some B) := ⟨hB6.os, hB6.tape, hB6.output, hB6.size, fun k hk _ => hB6.block k hk⟩
        have HY6 := Lib.hid (hO6.matErased hR9.lt)
        have HX6 := Lib.hid (HX5.out.erasedKept hR9 hg6' hg6.size)
        have HI6 := Lib.hid (HI9.out.erasedKept hR9 hg6' hg6.size)
        have HR6 := Lib.hid ((hR9.keep hg6 (fun r e => by cases e)).more (show N + 1 + 200 ≤ N + 700 by omega))
        have HG6 := Lib.hid (grow_B HG5.out hg6 (fun r e => by cases e))
        clear hFK hB6 hO6 hg6 hg6' hR9 HX5 HI9 HG5
        go_wp2_with fail
        go_ret3
        exact ⟨a6, c6, K, aH, cH, H, some ⟨g, 0, none⟩, cap, ys, by rw [hyl]; rfl, ⟨HFK.out, HY6.out, hK9⟩, ⟨HF.out, HX6.out, hH4⟩, ⟨by omega, HI6.out⟩, HR6.out, HG6.out⟩
  · go_wp2_with fail
    refine (graph_anyK n₀ B (N + 1) 4 4 20 w1 hR1 (by omega) (by omega) (by omega) (by omega) (by omega) (by omega)).mono ?_
    rintro e w2 ⟨aH, cH, H, rfl, hF, hX, hRS, hg2, hH4⟩
    have HF := Lib.hid hF
    have HX2 := Lib.hid hX
    have HG2 := Lib.hid (grow_B HG1.out hg2 (fun r e => by cases e; exact .inr rfl))
    have HRS := Lib.hid hRS
    have hBl := hRS.lt
    clear hF hX hg2 hR1
    go_wp2_with fail
    refine (specBesideO aH aH cH cH H H w2.heap.size w2 (HX2.out.laid hRS) (HX2.out.laid hRS) (Nat.le_refl _) HF.out HF.out).mono ?_
    obtain ⟨M, hM⟩ : ∃ M, besL H H = M := ⟨_, rfl⟩
    obtain ⟨y, hy⟩ : ∃ y, besOk H H = y := ⟨_, rfl⟩
    have HFM : Hid (Fit M) := Lib.hid (by rw [← hM]; exact bes_fitD H H)
    have hM9 : M.length ≤ 9 := by rw [← hM]; exact bes_len9 H H
    have HE : Hid (0 < M.length → 1 ≤ H.length) := Lib.hid fun h => by rw [← hM] at h; exact bes_empty h
    rw [hM, hy]
    clear hM hy
    rintro e w3 ⟨a3, c3, ⟨rfl, hB3⟩, hO3⟩
    have hg3 := grown_of_below hB3
    have hg3' : w2.grownBy w3 (some B) := ⟨hB3.os, hB3.tape, hB3.output, hB3.size, fun k hk _ => hB3.block k hk⟩
    have HY3 := Lib.hid (hO3.matErased hBl)
    have HX3 := Lib.hid (HX2.out.erasedKept hRS hg3' hg3.size)
    have hRT : Rd n₀ B w3 (N + 1 + 200) := hRS.keep hg3 (fun r e => by cases e)
    have HRT := Lib.hid hRT
    have HG3 := Lib.hid (grow_B HG2.out hg3 (fun r e => by cases e))
    have hBl := hRT.lt
    clear hB3 hO3 hg3 hg3' hRS HX2 HG2 HRS
    go_wp2_with fail
    have HI0 := Lib.hid (IOut.start hRT hBl)
    go_loopw [16, 17] (fun v i wr => ∃ (k g cap : Nat), k ≤ M.length ∧ i = .int .i64 k ∧ v = .slice (some ⟨g, 0, none⟩) k cap ∧ Hid (IOut n₀ B w3 wr (.slice (some ⟨g, 0, none⟩) k cap) k (N + 1 + 200)))
      (fun _ i _ => M.length - (intOf i).toNat)
    case atStart => exact ⟨0, _, _, Nat.zero_le _, rfl, rfl, HI0⟩
    case round =>
      obtain ⟨k, g, cap, hk, rfl, rfl, HO⟩ := hrel
      clear HI0
      by_cases hlt : k < M.length
      · skip
        have hH1 := HE.out (by omega)
        have hH0 : ¬ H.length = 0 := by omega
        have hH0i : ¬ (H.length : Int) = 0 := by omega
        obtain ⟨ys, hyl, hown⟩ := HO.out.2.2.2
        have hszr := HO.out.2.1.size
        go_wp2_with (at_builtin; refine wpList_append_own _ rfl _ _ 24 rfl w3.heap.size 3 i1 (.int .i64 0) 1 8 Try.underlying24 hj hy0 hy1 hy2 rfl (by decide) _ _ _ rfl (hown.alloc _) ⟨wr.heap.size, 0, none⟩ 1 1 _ rfl rfl (cell_one_new _ _ _) (by simp [Value.oneCell']) (by unfold maxLen; omega) (by omega) (by simp; omega) ?_; intro v' w7 hown' hgrow _; obtain ⟨g2, cap2, rfl⟩ := ownsRow_succ hown'; have HO7 := Lib.hid (HO.out.appended hyl hown hown' hgrow); clear hown' hgrow)
        go_roundw
        case rel => exact ⟨k + 1, g2, cap2, by omega, by go_num, rfl, HO7⟩
        case measure => simp [intOf]; omega
      · obtain rfl : k = M.length := by omega
        obtain ⟨ys, hyl, HI⟩ := HO.out.ints
        have hgS := HO.out.2.1
        have hR9 := HO.out.1
        have HI9 := Lib.hid HI
        clear HI HO
        have HX5 := Lib.hid (HX3.out.erasedKept HRT.out hgS hgS.size)
        have HY5 := Lib.hid (HY3.out.erasedKept HRT.out hgS hgS.size)
        have HG5 := Lib.hid (grow_B HG3.out hgS (fun r e => by cases e; exact .inr rfl))
        have HR9 := Lib.hid (hR9.more (show N + 1 + 200 ≤ N + 700 by omega))
        clear hgS HX3 HY3 hRT hR9
        go_wp2_with fail
        go_ret3
        exact ⟨a3, c3, M, aH, cH, H, some ⟨g, 0, none⟩, cap, ys, by rw [hyl]; rfl, ⟨HFM.out, HY5.out, hM9⟩, ⟨HF.out, HX5.out, hH4⟩, ⟨by omega, HI9.out⟩, HR9.out, HG5.out⟩

end Go.Proofs.Ytldkgkpiceamhaa

namespace Go.Proofs.Ytldkgkpiceamhaa
open Go.RowKit Go.Shelf Go.Deep

/-- TWO GRAPHS, or what are none, AND A ROW, laid. -/
def DrawnC3 (w : World) (e : Ending) (w' : World) : Prop :=
  ∃ (a : Option Addr) (c : Nat) (xss : List (List Int)) (a' : Option Addr) (c' : Nat) (yss : List (List Int)) (a3 : Option Addr) (c3 : Nat) (f : List Int), e = .returned (.tuple #[.slice a xss.length c, .slice a' yss.length c', .slice a3 f.length c3]) ∧
    (Fit xss ∧ Mat w'.heap.size w' a xss ∧ xss.length ≤ 9) ∧ (Fit yss ∧ Mat w'.heap.size w' a' yss ∧ yss.length ≤ 4) ∧ (f.length ≤ 1048576 ∧ Ints w'.heap.size w' a3 f) ∧ Below w.heap.size w w'
/-- A GRAPH, or what is none, AND A ROW. -/
def DrawnC2 (w : World) (e : Ending) (w' : World) : Prop :=
  ∃ (a : Option Addr) (c : Nat) (xss : List (List Int)) (a3 : Option Addr) (c3 : Nat) (f : List Int), e = .returned (.tuple #[.slice a xss.length c, .slice a3 f.length c3]) ∧
    (Fit xss ∧ Mat w'.heap.size w' a xss ∧ xss.length ≤ 9) ∧ ((1 ≤ f.length ∧ f.length ≤ 20 ∧ f.length ≤ c3) ∧ Ints w'.heap.size w' a3 f) ∧ Below w.heap.size w w'
/-- TWO GRAPHS, A ROW, A WALK AND A NODE. -/
def DrawnC5 (w : World) (e : Ending) (w' : World) : Prop :=
  ∃ (a : Option Addr) (c : Nat) (xss : List (List Int)) (a' : Option Addr) (c' : Nat) (yss : List (List Int)) (a3 : Option Addr) (c3 : Nat) (f : List Int) (a4 : Option Addr) (c4 : Nat) (wl : List Int) (z : Int), e = .returned (.tuple #[.slice a xss.length c, .slice a' yss.length c', .slice a3 f.length c3, .slice a4 wl.length c4, .int .i64 z]) ∧
    (Fit xss ∧ Mat w'.heap.size w' a xss ∧ xss.length ≤ 9) ∧ (Fit yss ∧ Mat w'.heap.size w' a' yss ∧ yss.length ≤ 4) ∧ (f.length ≤ 1048576 ∧ Ints w'.heap.size w' a3 f) ∧ ((1 ≤ wl.length ∧ wl.length ≤ 20 ∧ wl.length ≤ c4) ∧ Ints w'.heap.size w' a4 wl) ∧ (0 ≤ z ∧ z ≤ 1000) ∧ Below w.heap.size w w'
/-- TWO GRAPHS. -/
def DrawnCC (w : World) (e : Ending) (w' : World) : Prop :=
  ∃ (a : Option Addr) (c : Nat) (xss : List (List Int)) (a' : Option Addr) (c' : Nat) (yss : List (List Int)), e = .returned (.tuple #[.slice a xss.length c, .slice a' yss.length c']) ∧
    (Fit xss ∧ Mat w'.heap.size w' a xss ∧ xss.length ≤ 9) ∧ (Fit yss ∧ Mat w'.heap.size w' a' yss ∧ yss.length ≤ 9) ∧ Below w.heap.size w w'
theorem own_intsD {W : World} {base c n : Nat} {a : Option Addr} {xs : List Int} (hn : xs.length = n) (h : W.ownsRow base 3 1 (.slice a n c) n (xs.map (Value.int .i64))) : Ints W.heap.size W a xs := by
  subst hn
  obtain ⟨_, _, e, h⟩ := own_ints h
  cases e
  exact h
theorem own_succD (m : Nat) : ownL (m + 1) = ownL m ++ [(m : Int)] := by simp [ownL, List.range_succ]
theorem own_lenD (m : Nat) : (ownL m).length = m := by simp [ownL]
theorem IOut.cap3 {n₀ B k N g c : Nat} {w W : World} (h : IOut n₀ B w W (.slice (some ⟨g, 0, none⟩) k c) k N) : k ≤ c := by
  obtain ⟨_, _, _, ys, _, ho⟩ := h
  rcases ho.2 with ⟨e, _⟩ | ⟨g', c', cur, e, _, _, hnc, _⟩
  · cases e
  · cases e; exact hnc
theorem IOut.intsLaid {n₀ B k N : Nat} {w W : World} {a : Option Addr} {c : Nat} (h : IOut n₀ B w W (.slice a k c) k N) : ∃ ys : List Int, ys.length = k ∧ Ints W.heap.size W a ys := by
  obtain ⟨_, _, _, ys, rfl, ho⟩ := h
  obtain ⟨a', c', e, hI⟩ := own_ints ho
  cases e
  exact ⟨ys, rfl, hI⟩

set_option maxRecDepth 100000 in
set_option maxHeartbeats 4000000 in
theorem drawCoverOk_any (a : Option Addr) (n c : Nat) (w : World) (hn : n ≤ 1048576) (hc : n ≤ c) (hy : Bytes w.heap.size w a n) :
    Calls Try.prog 15 #[.slice a n c] w (DrawnC3 w) := by
  obtain ⟨i1, hj, hy0, hy1, hy2⟩ := info_parts infoInt
  go_enter Try.func15, Try.ntmps15
  go_wp2_with fail
  refine (open_any a n c w hn hc hy).mono ?_
  rintro e w1 ⟨rfl, hR1, hB⟩
  have hz1 := hB.size
  obtain ⟨B, hBe⟩ : ∃ B, w.heap.size = B := ⟨_, rfl⟩
  have HB1 := Lib.hid hB
  rw [hBe] at hR1 ⊢
  have HBE := Lib.hid hBe
  have hB1 : B < w1.heap.size := hR1.lt
  have HS : Hid (∀ W', w1.grownBy W' (some B) → Below w.heap.size w W') := Lib.hid fun W' hg => HB1.out.grown hg hz1 (fun k e => by cases e; exact Nat.le_of_eq HBE.out)
  clear hB hBe hy
  go_wp2_with fail
  refine (cover_any B B 0 w1 hR1 (by omega)).mono ?_
  rintro e w2 ⟨aG, cG, G, aH, cH, H, aF, cF, F, rfl, ⟨hF, hX, hG9⟩, ⟨hF', hY, hH4⟩, ⟨hfl, hI⟩, hR2, hg2⟩
  have HF := Lib.hid hF
  have HF' := Lib.hid hF'
  have HX := Lib.hid (hX.laid hR2)
  have HY := Lib.hid (hY.laid hR2)
  have HI := Lib.hid (hI.laid hR2)
  have HB2 := Lib.hid (HS.out _ hg2)
  clear hF hF' hX hY hI hR2 hg2 hR1
  go_wp2_with fail
  go_ret3
  exact ⟨aG, cG, G, aH, cH, H, aF, cF, F, rfl, ⟨HF.out, HX.out, hG9⟩, ⟨HF'.out, HY.out, hH4⟩, ⟨hfl, HI.out⟩, HB2.out⟩

set_option maxRecDepth 100000 in
set_option maxHeartbeats 4000000 in
theorem drawSheetsOf_any (a : Option Addr) (n c : Nat) (w : World) (hn : n ≤ 1048576) (hc : n ≤ c) (hy : Bytes w.heap.size w a n) :
    Calls Try.prog 29 #[.slice a n c] w (DrawnC3 w) := by
  obtain ⟨i1, hj, hy0, hy1, hy2⟩ := info_parts infoInt
  go_enter Try.func29, Try.ntmps29
  go_wp2_with fail
  refine (open_any a n c w hn hc hy).mono ?_
  rintro e w1 ⟨rfl, hR1, hB⟩
  have hz1 := hB.size
  obtain ⟨B, hBe⟩ : ∃ B, w.heap.size = B := ⟨_, rfl⟩
  have HB1 := Lib.hid hB
  rw [hBe] at hR1 ⊢
  have HBE := Lib.hid hBe
  have hB1 : B < w1.heap.size := hR1.lt
  have HS : Hid (∀ W', w1.grownBy W' (some B) → Below w.heap.size w W') := Lib.hid fun W' hg => HB1.out.grown hg hz1 (fun k e => by cases e; exact Nat.le_of_eq HBE.out)
  clear hB hBe hy
  go_wp2_with fail
  refine (cover_any B B 0 w1 hR1 (by omega)).mono ?_
  rintro e w2 ⟨aG, cG, G, aH, cH, H, aF, cF, F, rfl, ⟨hF, hX, hG9⟩, ⟨hF', hY, hH4⟩, ⟨hfl, hI⟩, hR2, hg2⟩
  have HF := Lib.hid hF
  have HF' := Lib.hid hF'
  have HX := Lib.hid (hX.laid hR2)
  have HY := Lib.hid (hY.laid hR2)
  have HI := Lib.hid (hI.laid hR2)
  have HB2 := Lib.hid (HS.out _ hg2)
  clear hF hF' hX hY hI hR2 hg2 hR1
  go_wp2_with fail
  go_ret3
  exact ⟨aG, cG, G, aH, cH, H, aF, cF, F, rfl, ⟨HF.out, HX.out, hG9⟩, ⟨HF'.out, HY.out, hH4⟩, ⟨hfl, HI.out⟩, HB2.out⟩

set_option maxRecDepth 100000 in
set_option maxHeartbeats 4000000 in
theorem drawWalkOk_any (a : Option Addr) (n c : Nat) (w : World) (hn : n ≤ 1048576) (hc : n ≤ c) (hy : Bytes w.heap.size w a n) :
    Calls Try.prog 21 #[.slice a n c] w (DrawnC2 w) := by
  obtain ⟨i1, hj, hy0, hy1, hy2⟩ := info_parts infoInt
  go_enter Try.func21, Try.ntmps21
  go_wp2_with fail
  refine (open_any a n c w hn hc hy).mono ?_
  rintro e w1 ⟨rfl, hR1, hB⟩
  have hz1 := hB.size
  obtain ⟨B, hBe⟩ : ∃ B, w.heap.size = B := ⟨_, rfl⟩
  have HB1 := Lib.hid hB
  rw [hBe] at hR1 ⊢
  have HBE := Lib.hid hBe
  have hB1 : B < w1.heap.size := hR1.lt
  have HS : Hid (∀ W', w1.grownBy W' (some B) → Below w.heap.size w W') := Lib.hid fun W' hg => HB1.out.grown hg hz1 (fun k e => by cases e; exact Nat.le_of_eq HBE.out)
  clear hB hBe hy
  go_wp2_with fail
  refine (graph_anyK B B 0 5 5 9 w1 hR1 (by omega) (by omega) (by omega) (by omega) (by omega) (by omega)).mono ?_
  rintro e w2 ⟨aG, cG, G, rfl, hF, hX, hR2, hg2, hG5⟩
  have HF := Lib.hid hF
  have HX2 := Lib.hid hX
  have HR2 := Lib.hid hR2
  have HG2 := Lib.hid hg2
  clear hF hX hg2 hR1
  go_wp2_with fail
  all_goals
    refine (pick_any B B (0 + 200) _ w2 hR2 (by omega)).mono ?_
    rintro e w3 ⟨x, ⟨rfl, x0, x1, _⟩, hR3, hg3, -⟩
    have HX3 := Lib.hid (HX2.out.erasedKept HR2.out hg3 hg3.size)
    have HG3 := Lib.hid (grow_B HG2.out hg3 (fun r e => by cases e; exact .inr rfl))
    have HR3 := Lib.hid hR3
    clear x1 hg3 hR2
    go_wp2_with fail
    refine (walk_any B B (0 + 200 + 1) aG cG G x w3 hR3 (by omega) HX3.out HF.out).mono ?_
    rintro e w4 ⟨g4, c4, k4, rfl, ⟨hk1, hk7⟩, hO4⟩
    have HO4 := Lib.hid hO4
    clear hO4 hR3
    go_wp2_with fail
    refine (pick_any B B (0 + 200 + 1 + 10) 4 w4 HO4.out.1 (by omega)).mono ?_
    rintro e w5 ⟨y, ⟨rfl, y0, y1, _⟩, hR5, hg5, -⟩
    have HO5 := Lib.hid (HO4.out.pick hR5 hg5)
    clear y1 hR5 hg5 HO4
    by_cases hy : y = 0
    · subst hy
      go_wp2_with fail
      refine (pick_any B B (0 + 200 + 1 + 10 + 1) 5 w5 HO5.out.1 (by omega)).mono ?_
      rintro e w6 ⟨u, ⟨rfl, u0, u1, _⟩, hR6, hg6, -⟩
      have HO6 := Lib.hid (HO5.out.pick hR6 hg6)
      obtain ⟨ys, hyl, hown⟩ := HO6.out.2.2.2
      have hszr := HO6.out.2.1.size
      clear u1 hR6 hg6 HO5
      go_wp2_with (at_builtin; refine wpList_append_own _ rfl _ _ 24 rfl w3.heap.size 3 i1 (.int .i64 0) 1 8 Try.underlying24 hj hy0 hy1 hy2 rfl (by decide) _ _ _ rfl (hown.alloc _) ⟨w6.heap.size, 0, none⟩ 1 1 _ rfl rfl (cell_one_new _ _ _) (by simp [Value.oneCell']) (by unfold maxLen; omega) (by omega) (by simp; omega) ?_; intro v' w7 hown' hgrow _; obtain ⟨g2, cap2, rfl⟩ := ownsRow_succ hown'; have HO7 := Lib.hid (HO6.out.appended hyl hown hown' hgrow); clear hown' hgrow)
      obtain ⟨zs, hzl, HI⟩ := HO7.out.intsLaid
      have HX7 := Lib.hid ((HX3.out.erasedKept HR3.out HO7.out.2.1 HO7.out.2.1.size).laid HO7.out.1)
      have HB7 := Lib.hid (HS.out _ (grow_B HG3.out HO7.out.2.1 (fun r e => by cases e; exact .inr rfl)))
      have HI7 := Lib.hid HI
      clear HI HO6 hown
      go_ret2
      exact ⟨aG, cG, G, some ⟨g2, 0, none⟩, cap2, zs, by rw [hzl]; rfl, ⟨HF.out, HX7.out, by omega⟩, ⟨⟨by omega, by omega, by have := HO7.out.cap3; omega⟩, HI7.out⟩, HB7.out⟩
    · have hyn : (y == 0) = false := beq_eq_false_iff_ne.2 hy
      obtain ⟨zs, hzl, HI⟩ := HO5.out.intsLaid
      have hcap5 := HO5.out.cap3
      have HX7 := Lib.hid ((HX3.out.erasedKept HR3.out HO5.out.2.1 HO5.out.2.1.size).laid HO5.out.1)
      have HB7 := Lib.hid (HS.out _ (grow_B HG3.out HO5.out.2.1 (fun r e => by cases e; exact .inr rfl)))
      have HI7 := Lib.hid HI
      clear HI hy
      go_wp2_with fail
      go_ret2
      exact ⟨aG, cG, G, some ⟨g4, 0, none⟩, c4, zs, by rw [hzl]; rfl, ⟨HF.out, HX7.out, by omega⟩, ⟨⟨by omega, by omega, by have := HO5.out.cap3; omega⟩, HI7.out⟩, HB7.out⟩

set_option maxRecDepth 100000 in
set_option maxHeartbeats 4000000 in
theorem drawLiftedWalk_any (a : Option Addr) (n c : Nat) (w : World) (hn : n ≤ 1048576) (hc : n ≤ c) (hy : Bytes w.heap.size w a n) :
    Calls Try.prog 25 #[.slice a n c] w (DrawnC5 w) := by
  obtain ⟨i1, hj, hy0, hy1, hy2⟩ := info_parts infoInt
  go_enter Try.func25, Try.ntmps25
  go_wp2_with fail
  refine (open_any a n c w hn hc hy).mono ?_
  rintro e w1 ⟨rfl, hR1, hB⟩
  have hz1 := hB.size
  obtain ⟨B, hBe⟩ : ∃ B, w.heap.size = B := ⟨_, rfl⟩
  have HB1 := Lib.hid hB
  rw [hBe] at hR1 ⊢
  have HBE := Lib.hid hBe
  have hB1 : B < w1.heap.size := hR1.lt
  have HS : Hid (∀ W', w1.grownBy W' (some B) → Below w.heap.size w W') := Lib.hid fun W' hg => HB1.out.grown hg hz1 (fun k e => by cases e; exact Nat.le_of_eq HBE.out)
  clear hB hBe hy
  go_wp2_with fail
  refine (cover_any B B 0 w1 hR1 (by omega)).mono ?_
  rintro e w2 ⟨aG, cG, G, aH, cH, H, aF, cF, F, rfl, ⟨hF, hX, hG9⟩, ⟨hF', hY, hH4⟩, ⟨hfl, hI⟩, hR2, hg2⟩
  have HF := Lib.hid hF
  have HF' := Lib.hid hF'
  have HX2 := Lib.hid hX
  have HY2 := Lib.hid hY
  have HI2 := Lib.hid hI
  have HG2 := Lib.hid hg2
  have HR2 := Lib.hid hR2
  clear hF hF' hX hY hI hg2 hR1
  go_wp2_with fail
  all_goals
    refine (pick_any B B (0 + 700) _ w2 hR2 (by omega)).mono ?_
    rintro e w3 ⟨x, ⟨rfl, x0, x1, _⟩, hR3, hg3, -⟩
    have x9 : x ≤ 9 := by have := x1 (by omega); omega
    have HX3 := Lib.hid (HX2.out.erasedKept HR2.out hg3 hg3.size)
    have HY3 := Lib.hid (HY2.out.erasedKept HR2.out hg3 hg3.size)
    have HI3 := Lib.hid (HI2.out.erasedKept HR2.out hg3 hg3.size)
    have HG3 := Lib.hid (grow_B HG2.out hg3 (fun r e => by cases e; exact .inr rfl))
    have HR3 := Lib.hid hR3
    obtain ⟨x, rfl⟩ : ∃ y : Nat, x = (y : Int) := ⟨x.toNat, by omega⟩
    clear x1 hg3 hR2 hR3 HX2 HY2 HI2 HG2
    by_cases hxf : x < F.length
    · have hxi : (x : Int) < (F.length : Int) := by omega
      obtain ⟨b6, o6, v, rfl, hb6, hc6, _⟩ := (HI3.out.laid HR3.out).at_ hxf
      have HW4 := Lib.hid (walk_any B B (0 + 700 + 1) aH cH H v w3 HR3.out (by omega) HY3.out HF'.out)
      go_wp2_with fail
      refine HW4.out.mono ?_
      rintro e w4 ⟨g4, c4, k4, rfl, ⟨hk1, hk7⟩, hO4⟩
      have HO4 := Lib.hid hO4
      clear hO4 HW4
      go_wp2_with fail
      refine (pick_any B B (0 + 700 + 1 + 10) 20 w4 HO4.out.1 (by omega)).mono ?_
      rintro e w5 ⟨y, ⟨rfl, y0, y1, _⟩, hR5, hg5, -⟩
      have y19 := y1 (by omega)
      obtain ⟨t, rfl⟩ : ∃ t : Nat, y = (t : Int) := ⟨y.toNat, by omega⟩
      have ht : t < 20 := by omega
      have hq : Int.tdiv (t : Int) 19 = ((t / 19 : Nat) : Int) := rfl
      obtain ⟨q, hqq⟩ : ∃ q, t / 19 = q := ⟨_, rfl⟩
      have hq1 : q ≤ 1 := by omega
      rw [hqq] at hq
      have HO5 := Lib.hid (HO4.out.pick hR5 hg5)
      obtain ⟨zs, hzl, HI⟩ := HO5.out.intsLaid
      have hcap5 := HO5.out.cap3
      have HX7 := Lib.hid ((HX3.out.erasedKept HR3.out HO5.out.2.1 HO5.out.2.1.size).laid HO5.out.1)
      have HY7 := Lib.hid ((HY3.out.erasedKept HR3.out HO5.out.2.1 HO5.out.2.1.size).laid HO5.out.1)
      have HF7 := Lib.hid ((HI3.out.erasedKept HR3.out HO5.out.2.1 HO5.out.2.1.size).laid HO5.out.1)
      have HB7 := Lib.hid (HS.out _ (grow_B HG3.out HO5.out.2.1 (fun r e => by cases e; exact .inr rfl)))
      have HI7 := Lib.hid HI
      clear HI y1 hR5 hg5 HO4 HO5 hqq
      go_wp2_with fail
      refine bodyPost_ret (results_tmp5 rfl _ _ _) rfl ?_
      exact ⟨aG, cG, G, aH, cH, H, _, cF, F, some ⟨g4, 0, none⟩, c4, zs, (x : Int) + (q : Int) * 9, by rw [hzl]; rfl, ⟨HF.out, HX7.out, hG9⟩, ⟨HF'.out, HY7.out, hH4⟩, ⟨hfl, HF7.out⟩, ⟨⟨by omega, by omega, by omega⟩, HI7.out⟩, ⟨by omega, by omega⟩, HB7.out⟩
    · have hxi : ¬ (x : Int) < (F.length : Int) := by omega
      have HW4 := Lib.hid (walk_any B B (0 + 700 + 1) aH cH H 0 w3 HR3.out (by omega) HY3.out HF'.out)
      go_wp2_with fail
      refine HW4.out.mono ?_
      rintro e w4 ⟨g4, c4, k4, rfl, ⟨hk1, hk7⟩, hO4⟩
      have HO4 := Lib.hid hO4
      clear hO4 HW4
      go_wp2_with fail
      refine (pick_any B B (0 + 700 + 1 + 10) 20 w4 HO4.out.1 (by omega)).mono ?_
      rintro e w5 ⟨y, ⟨rfl, y0, y1, _⟩, hR5, hg5, -⟩
      have y19 := y1 (by omega)
      obtain ⟨t, rfl⟩ : ∃ t : Nat, y = (t : Int) := ⟨y.toNat, by omega⟩
      have ht : t < 20 := by omega
      have hq : Int.tdiv (t : Int) 19 = ((t / 19 : Nat) : Int) := rfl
      obtain ⟨q, hqq⟩ : ∃ q, t / 19 = q := ⟨_, rfl⟩
      have hq1 : q ≤ 1 := by omega
      rw [hqq] at hq
      have HO5 := Lib.hid (HO4.out.pick hR5 hg5)
      obtain ⟨zs, hzl, HI⟩ := HO5.out.intsLaid
      have hcap5 := HO5.out.cap3
      have HX7 := Lib.hid ((HX3.out.erasedKept HR3.out HO5.out.2.1 HO5.out.2.1.size).laid HO5.out.1)
      have HY7 := Lib.hid ((HY3.out.erasedKept HR3.out HO5.out.2.1 HO5.out.2.1.size).laid HO5.out.1)
      have HF7 := Lib.hid ((HI3.out.erasedKept HR3.out HO5.out.2.1 HO5.out.2.1.size).laid HO5.out.1)
      have HB7 := Lib.hid (HS.out _ (grow_B HG3.out HO5.out.2.1 (fun r e => by cases e; exact .inr rfl)))
      have HI7 := Lib.hid HI
      clear HI y1 hR5 hg5 HO4 HO5 hqq
      go_wp2_with fail
      refine bodyPost_ret (results_tmp5 rfl _ _ _) rfl ?_
      exact ⟨aG, cG, G, aH, cH, H, _, cF, F, some ⟨g4, 0, none⟩, c4, zs, (x : Int) + (q : Int) * 9, by rw [hzl]; rfl, ⟨HF.out, HX7.out, hG9⟩, ⟨HF'.out, HY7.out, hH4⟩, ⟨hfl, HF7.out⟩, ⟨⟨by omega, by omega, by omega⟩, HI7.out⟩, ⟨by omega, by omega⟩, HB7.out⟩

set_option maxRecDepth 100000 in
set_option maxHeartbeats 4000000 in
theorem drawCoversOf_any (a : Option Addr) (n c : Nat) (w : World) (hn : n ≤ 1048576) (hc : n ≤ c) (hy : Bytes w.heap.size w a n) :
    Calls Try.prog 33 #[.slice a n c] w (DrawnCC w) := by
  obtain ⟨i1, hj, hy0, hy1, hy2⟩ := info_parts infoInt
  go_enter Try.func33, Try.ntmps33
  go_wp2_with fail
  refine (open_any a n c w hn hc hy).mono ?_
  rintro e w1 ⟨rfl, hR1, hB⟩
  have hz1 := hB.size
  obtain ⟨B, hBe⟩ : ∃ B, w.heap.size = B := ⟨_, rfl⟩
  have HB1 := Lib.hid hB
  rw [hBe] at hR1 ⊢
  have HBE := Lib.hid hBe
  have hB1 : B < w1.heap.size := hR1.lt
  have HS : Hid (∀ W', w1.grownBy W' (some B) → Below w.heap.size w W') := Lib.hid fun W' hg => HB1.out.grown hg hz1 (fun k e => by cases e; exact Nat.le_of_eq HBE.out)
  clear hB hBe hy
  go_wp2_with fail
  refine (pick_any B B 0 2 w1 hR1 (by omega)).mono ?_
  rintro e w2 ⟨x, ⟨rfl, x0, x1, _⟩, hR2, hg2, -⟩
  have HG2 := Lib.hid hg2
  clear x1 hR1 hg2
  by_cases hx : x = 0
  · subst hx
    go_wp2_with fail
    refine (pick_any B B (0 + 1) 5 w2 hR2 (by omega)).mono ?_
    rintro e w3 ⟨p, ⟨rfl, p0, p1, _⟩, hR3, hg3, -⟩
    have p5 := p1 (by omega)
    have HG3 := Lib.hid (grow_B HG2.out hg3 (fun r e => by cases e; exact .inr rfl))
    clear p1 hR2 hg3 HG2
    go_wp2_with fail
    refine (specRinD (1 + p) w3).mono ?_
    obtain ⟨L, hL⟩ : ∃ L, rinI (1 + p) = L := ⟨_, rfl⟩
    have hF := rinI_fit (1 + p)
    rw [hL] at hF ⊢
    clear hL
    rintro e w4 h
    obtain ⟨a4, c4, ⟨rfl, hB4⟩, hO4⟩ := h.made (by omega)
    have HFL := Lib.hid hF.1
    have hLl := hF.2
    have hg4 := grown_of_below hB4
    have HX4 := Lib.hid (hO4.matErased hR3.lt)
    have hR4 : Rd B B w4 (0 + 1 + 1) := hR3.keep hg4 (fun r e => by cases e)
    have HG4 := Lib.hid (grow_B HG3.out hg4 (fun r e => by cases e))
    clear h hB4 hO4 hF hR3 HG3 hg4
    go_wp2_with fail
    refine (pick_any B B (0 + 1 + 1) 4 w4 hR4 (by omega)).mono ?_
    rintro e w5 ⟨q, ⟨rfl, q0, q1, _⟩, hR5, hg5, -⟩
    have q4 := q1 (by omega)
    have HX5 := Lib.hid (HX4.out.erasedKept hR4 hg5 hg5.size)
    have HG5 := Lib.hid (grow_B HG4.out hg5 (fun r e => by cases e; exact .inr rfl))
    clear q1 hR4 hg5 HG4 HX4
    go_wp2_with fail
    refine (specRinD (1 + q) w5).mono ?_
    obtain ⟨K, hK⟩ : ∃ K, rinI (1 + q) = K := ⟨_, rfl⟩
    have hF := rinI_fit (1 + q)
    rw [hK] at hF ⊢
    clear hK
    rintro e w6 h
    obtain ⟨a6, c6, ⟨rfl, hB6⟩, hO6⟩ := h.made (by omega)
    have HFK := Lib.hid hF.1
    have hKl := hF.2
    have hg6 := grown_of_below hB6
    have hg6' : w5.grownBy w6 (some B) := ⟨hB6.os, hB6.tape, hB6.output, hB6.size, fun k hk _ => hB6.block k hk⟩
    have hR6 : Rd B B w6 (0 + 1 + 1 + 1) := hR5.keep hg6 (fun r e => by cases e)
    have HX6 := Lib.hid ((HX5.out.erasedKept hR5 hg6' hg6.size).laid hR6)
    have HY6 := Lib.hid ((hO6.matErased hR5.lt).laid hR6)
    have HB6 := Lib.hid (HS.out _ (grow_B HG5.out hg6 (fun r e => by cases e)))
    clear h hB6 hO6 hF hR5 HG5 hg6 hg6' hR6 HX5
    go_wp2_with fail
    go_ret2
    exact ⟨a4, c4, L, a6, c6, K, rfl, ⟨HFL.out, HX6.out, hLl⟩, ⟨HFK.out, HY6.out, hKl⟩, HB6.out⟩
  · have hxn : (x == 0) = false := beq_eq_false_iff_ne.2 hx
    clear hx
    go_wp2_with fail
    refine (pair_any B B (0 + 1) 12 w2 hR2 (by omega) (by omega) (by omega)).mono ?_
    rintro e w3 ⟨a1, c1, xss, a2, c2, yss, rfl, ⟨hF, hX, hx4⟩, ⟨hF', hY, hy4⟩, hR3, hg3⟩
    have HF := Lib.hid hF
    have HF' := Lib.hid hF'
    have HX := Lib.hid (hX.laid hR3)
    have HY := Lib.hid (hY.laid hR3)
    have HB3 := Lib.hid (HS.out _ (grow_B HG2.out hg3 (fun r e => by cases e; exact .inr rfl)))
    clear hF hF' hX hY hR3 hg3 hR2
    go_wp2_with fail
    go_ret2
    exact ⟨a1, c1, xss, a2, c2, yss, rfl, ⟨HF.out, HX.out, by omega⟩, ⟨HF'.out, HY.out, by omega⟩, HB3.out⟩

end Go.Proofs.Ytldkgkpiceamhaa
