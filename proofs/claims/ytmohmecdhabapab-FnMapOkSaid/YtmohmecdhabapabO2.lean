/-
  The walk of the law of P5 (MapOk).
-/
import Derived.Test.YtmohmecdhabapabD6
import Derived.Test.YtmohmecdhabapabJ5
import Derived.Test.YtmohmecdhabapabL3
import Derived.Test.YtmohmecdhabapabM3c
import Derived.Test.YtmohmecdhabapabM10
namespace Go.Proofs.Ytmohmecdhabapab
open Go.RowKit Go.Shelf

/-- TWO GRAPHS, or what are none, AND A ROW ARE DRAWN. -/
def DrawnMF (w : World) (e : Ending) (w' : World) : Prop :=
  ∃ (a : Option Addr) (c : Nat) (xss : List (List Int)) (a' : Option Addr) (c' : Nat) (yss : List (List Int)) (a3 : Option Addr) (c3 : Nat) (f : List Int), e = .returned (.tuple #[.slice a xss.length c, .slice a' yss.length c', .slice a3 f.length c3]) ∧
    (Fit xss ∧ Mat w'.heap.size w' a xss ∧ xss.length ≤ 4) ∧ (Fit yss ∧ Mat w'.heap.size w' a' yss ∧ yss.length ≤ 4) ∧ (f.length ≤ 1048576 ∧ Ints w'.heap.size w' a3 f) ∧ Below w.heap.size w w'
set_option maxHeartbeats 400000 in
theorem drawMapOk_any (a : Option Addr) (n c : Nat) (w : World) (hn : n ≤ 1048576) (hc : n ≤ c) (hy : Bytes w.heap.size w a n) :
    Calls Try.prog 15 #[.slice a n c] w (DrawnMF w) := by
  go_enter Try.func15, Try.ntmps15
  go_wp2_with fail
  refine (open_any a n c w hn hc hy).mono ?_
  rintro e w1 ⟨rfl, hR, hB⟩
  have hz1 := hB.size
  go_wp2_with fail
  refine (map_any w.heap.size w.heap.size 0 w1 hR (by omega)).mono ?_
  rintro e w2 ⟨a2, c2, xss, a3, c3, yss, a4, c4, f, rfl, ⟨hF, hM, hl⟩, ⟨hF3, hM3, hl3⟩, ⟨hfl, hI⟩, hR2, hg2⟩
  have HB2 := Lib.hid (hB.grown hg2 hz1 (fun k e => by cases e; exact Nat.le_refl _))
  have HF := Lib.hid hF
  have HM := Lib.hid (hM.laid hR2)
  have HF3 := Lib.hid hF3
  have HM3 := Lib.hid (hM3.laid hR2)
  have HI := Lib.hid (hI.laid hR2)
  clear hF hM hF3 hM3 hI hg2 hR2 hB hR hy hz1
  go_wp2_with fail
  go_ret3
  exact ⟨a2, c2, xss, a3, c3, yss, a4, c4, f, rfl, ⟨HF.out, HM.out, hl⟩, ⟨HF3.out, HM3.out, hl3⟩, ⟨hfl, HI.out⟩, HB2.out⟩

/-- k rows, each of n times the same number. -/
def cst (x : Int) (n k : Nat) : List (List Int) := List.replicate k (List.replicate n x)
theorem cst_length (x : Int) (n k : Nat) : (cst x n k).length = k := List.length_replicate
theorem cst_succ (x : Int) (n k : Nat) : cst x n (k + 1) = cst x n k ++ [List.replicate n x] := List.replicate_succ'
theorem cst_good {x : Int} {n : Nat} (hx : x = 0 ∨ x = 1) (h1 : 1 ≤ n) (h9 : n ≤ 9) : Good (cst x n n) := by
  refine ⟨by rw [cst_length]; exact h1, by rw [cst_length]; exact h9, fun xs h => ?_⟩
  have := List.eq_of_mem_replicate h
  subst this
  exact ⟨by rw [cst_length]; simp, fun y hy => by rw [List.eq_of_mem_replicate hy]; exact hx⟩
theorem cst_arw {x : Int} {n i j : Nat} (hi : i < n) (hj : j < n) : arw (cst x n n) i j = (x == 1) := by
  simp [arw, ent, cst, hi, hj]
theorem map_cst1 {G H : List (List Int)} {f : List Int} (h : mapOkI G H f = true) : mapOkI G (cst 1 H.length H.length) f = true := by
  obtain ⟨⟨h1, h2⟩, h3, h4⟩ := mapOk_iff.1 h
  refine mapOk_iff.2 ⟨⟨h1, gOk_true (cst_good (.inr rfl) (good_of h2).1 (good_of h2).2.1)⟩, by rw [cst_length]; exact h3, fun i j hi hj _ => ?_⟩
  rw [cst_arw (nd_tells h3 hi) (nd_tells h3 hj)]; rfl
theorem map_cst0 {G H : List (List Int)} {f : List Int} (h : mapOkI G H f = true) : mapOkI (cst 0 G.length G.length) H f = true := by
  obtain ⟨⟨h1, h2⟩, h3, h4⟩ := mapOk_iff.1 h
  refine mapOk_iff.2 ⟨⟨gOk_true (cst_good (.inl rfl) (good_of h1).1 (good_of h1).2.1), h2⟩, by rw [cst_length]; exact h3, fun i j hi hj ha => ?_⟩
  rw [cst_length] at hi hj
  rw [cst_arw hi hj] at ha
  cases ha
theorem mapOk_turned {G H : List (List Int)} {f : List Int} (hG : Good G) (hH : Good H) : mapOkI (turnedL G) (turnedL H) f = mapOkI G H f := by
  rw [Bool.eq_iff_iff, mapOk_iff, mapOk_iff, map_turned_iff hG hH]
  simp [gOk_true hG, gOk_true hH, gOk_true (turned_good hG), gOk_true (turned_good hH)]
theorem made_own {w : World} (m : Nat) (hm : m ≤ 1000) : (w.alloc (.cells (madeCells #[.int .i64 0] m) 3)).ownsRow w.heap.size 3 1 (.slice (some ⟨w.heap.size, 0, none⟩) m m) (List.replicate m (0 : Int)).length ((List.replicate m (0 : Int)).map (Value.int .i64)) := by
  have h := World.ownsRow_lit (base := w.heap.size) (e := 3) (size := 1) w (madeCells #[.int .i64 0] m) m (Nat.le_refl _) (by unfold maxLen; omega) (by rw [size_madeCells]; omega)
  rw [made_list] at h
  rw [List.length_replicate, List.map_replicate]
  exact h

set_option maxRecDepth 100000 in
set_option maxHeartbeats 4000000 in
theorem mapOk_any (a : Option Addr) (n c : Nat) (w : World) (hc : n ≤ c) (hl : n ≤ 9223372036854775807) (hy : Bytes w.heap.size w a n) :
    Calls Try.prog 4 #[.slice a n c] w (Ans (.bool true) w) := by
  by_cases hbig : 1048576 < n
  · go_enter Try.func4, Try.ntmps4
    go_wp2_with fail
    go_ret
    exact ⟨rfl, Below.refl _ _⟩
  obtain ⟨i0, hi, hz0, hz1, hz2⟩ := info_parts infoInts
  obtain ⟨i1, hj, hy0, hy1, hy2⟩ := info_parts infoInt
  go_enter Try.func4, Try.ntmps4
  go_wp2_with fail
  refine (drawMapOk_any a n c w (by omega) hc hy).mono ?_
  rintro e w1 ⟨a1, c1, xss, a1', c1', yss, a3, c3, f, rfl, ⟨hF, x1, hx4⟩, ⟨hF', y1, hy4⟩, ⟨hfl, f1⟩, hB⟩
  have HB1 := Lib.hid hB
  have HF := Lib.hid hF
  have HF' := Lib.hid hF'
  have hlx := hF.1
  have hly := hF'.1
  obtain ⟨z, HZ⟩ : ∃ z, Hid (mapOkI xss yss f = z) := ⟨_, rfl⟩
  have hzz : (z != z) = false := by simp
  clear hB hF hF' hy
  go_wp2_with fail
  refine (implMapOk _ _ _ _ _ _ _ _ _ _ x1 y1 f1 HF.out HF'.out hfl).mono ?_
  rw [HZ.out]
  rintro e w2 ⟨rfl, hB2⟩
  have hz2 := hB2.size
  have x2 := (x1.below hB2).more hz2
  have y2 := (y1.below hB2).more hz2
  have f2 := (f1.below hB2).more hz2
  have HB2 := Lib.hid (HB1.out.trans (hB2.mono HB1.out.size))
  clear hB2 hz2 x1 y1 f1
  go_wp2_with fail
  refine (specMapOk _ _ _ _ _ _ _ _ _ _ _ x2 y2 f2 HF.out HF'.out hfl).mono ?_
  rw [HZ.out]
  rintro e w3 h3
  obtain ⟨rfl, hB3⟩ := h3.below
  clear h3
  have hz3 := hB3.size
  have x3 := (x2.below hB3).more hz3
  have y3 := (y2.below hB3).more hz3
  have f3 := (f2.below hB3).more hz3
  have HB3 := Lib.hid (HB2.out.trans (hB3.mono HB2.out.size))
  clear hB3 hz3 x2 y2 f2
  go_wp2_with fail
  refine (specOk_any _ _ _ _ _ x3 HF.out).mono ?_
  rintro e wq ⟨rfl, rfl⟩
  by_cases hg : gOk xss = true
  · rw [hg]
    go_wp2_with fail
    refine (specOk_any _ _ _ _ _ y3 HF'.out).mono ?_
    rintro e wq ⟨rfl, rfl⟩
    by_cases hg' : gOk yss = true
    · rw [hg']
      have HG := Lib.hid (good_of hg)
      have HG' := Lib.hid (good_of hg')
      go_wp2_with fail
      refine (implTurned _ _ xss _ x3 HF.out).mono ?_
      rintro e w4 ⟨b4, c4, ⟨rfl, hB4⟩, hO4⟩
      have tx4 := hO4.mat
      clear hO4
      have hz4 := hB4.size
      have x4 := (x3.below hB4).more hz4
      have y4 := (y3.below hB4).more hz4
      have f4 := (f3.below hB4).more hz4
      have HB4 := Lib.hid (HB3.out.trans (hB4.mono HB3.out.size))
      clear hB4 hz4 x3 y3 f3
      go_wp2_with fail
      refine (implTurned _ _ yss _ y4 HF'.out).mono ?_
      rintro e w5 ⟨b5, c5, ⟨rfl, hB5⟩, hO5⟩
      have ty5 := hO5.mat
      clear hO5
      have hz5 := hB5.size
      have x5 := (x4.below hB5).more hz5
      have y5 := (y4.below hB5).more hz5
      have f5 := (f4.below hB5).more hz5
      have tx5 := (tx4.below hB5).more hz5
      have HB5 := Lib.hid (HB4.out.trans (hB5.mono HB4.out.size))
      clear hB5 hz5 x4 y4 f4 tx4
      go_wp2_with fail
      refine (implMapOk _ _ _ _ _ _ (turnedL xss) (turnedL yss) _ _ tx5 ty5 f5 turned_fit turned_fit hfl).mono ?_
      rw [mapOk_turned HG.out HG'.out, HZ.out]
      rintro e w6 ⟨rfl, hB6⟩
      have hz6 := hB6.size
      have x6 := (x5.below hB6).more hz6
      have y6 := (y5.below hB6).more hz6
      have f6 := (f5.below hB6).more hz6
      have tx6 := (tx5.below hB6).more hz6
      have ty6 := (ty5.below hB6).more hz6
      have HB6 := Lib.hid (HB5.out.trans (hB6.mono HB5.out.size))
      clear hB6 hz6 x5 y5 f5 tx5 ty5
      clear tx6 ty6
      go_wp2_with fail
      go_loopw [7, 8] (fun v i wr => ∃ (k g cap : Nat), k ≤ yss.length ∧ i = .int .i64 k ∧ v = .slice (some ⟨g, 0, none⟩) k cap ∧ Hid (OwnMat w6.heap.size wr (.slice (some ⟨g, 0, none⟩) k cap) (cst 1 yss.length k)) ∧ Below w6.heap.size w6 wr)
        (fun _ i _ => yss.length - (intOf i).toNat)
      case atStart => exact ⟨0, _, _, Nat.zero_le _, rfl, rfl, OwnMat.start w6 (Nat.le_refl _), (Below.refl _ _).alloc (Nat.le_refl _) _⟩
      case round =>
        obtain ⟨k, g, cap, hk, rfl, rfl, HO, hB⟩ := hrel
        have hws := hB.size
        by_cases hlt : k < yss.length
        · obtain ⟨wo, rfl⟩ : ∃ wo : World, wo = wr := ⟨_, rfl⟩
          clear x6 y6 f6
          go_wp2_with fail
          go_loopw [9, 10] (fun v i wi => ∃ (j g' cap' : Nat), j ≤ yss.length ∧ i = .int .i64 j ∧ v = .slice (some ⟨g', 0, none⟩) j cap' ∧ Hid (wi.ownsRow wo.heap.size 3 1 (.slice (some ⟨g', 0, none⟩) j cap') j ((List.replicate j (1 : Int)).map (Value.int .i64))) ∧ Below wo.heap.size wo wi)
            (fun _ i _ => yss.length - (intOf i).toNat)
          case atStart => exact ⟨0, _, _, Nat.zero_le _, rfl, rfl, World.ownsRow_lit (size := 1) wo #[] 0 (Nat.le_refl _) (Nat.zero_le _) rfl, (Below.refl _ _).alloc (Nat.le_refl _) _⟩
          case round =>
            obtain ⟨j, g', cap', hj', rfl, rfl, HR, hB2⟩ := hrel
            by_cases hltj : j < yss.length
            · have hown := HR.out
              have hBs := hB2.size
              have hlg := HR.out.lt g' (by simp [Value.ownBlock])
              go_wp2_with (at_builtin; go_must (refine wpList_append_own _ rfl _ _ 29 rfl wo.heap.size 3 i1 (.int .i64 0) 1 8 Try.underlying29 hj hy0 hy1 hy2 rfl (by decide) _ _ _ rfl (hown.alloc _) ⟨wr.heap.size, 0, none⟩ 1 1 [.int .i64 1] rfl rfl (cell_one_new _ _ _) (by simp [Value.oneCell']) (by unfold maxLen; omega) (by omega) (by simp; omega) ?_); go_must (intro v' w4 hown' hgrow _; obtain ⟨g2, cap2, rfl⟩ := ownsRow_succ hown'); go_must (have HO4 := Lib.hid hown'); go_must (have hB4 : Below wo.heap.size wo w4 := (hB2.alloc hBs _).grown hgrow (by simp; omega) (fun r e => by have e' : some g' = some r := e; cases e'; exact hlg.1)); clear hown' hgrow)
              go_roundw
              case rel => exact ⟨j + 1, g2, cap2, by omega, by go_num, rfl, Lib.hid (by rw [List.replicate_succ', List.map_append]; exact HO4.out), hB4⟩
              case measure => simp [intOf]; omega
            · obtain rfl : j = yss.length := by omega
              have HO2 := HO.out.below hB2
              obtain ⟨vs, hown, hrows⟩ := HO2
              rw [cst_length] at hown
              have HW := Lib.hid hrows
              clear hrows
              have hBs := hB2.size
              have hlg := hown.lt g (by simp [Value.ownBlock])
              have HR2 : Hid (wr.ownsRow w6.heap.size 3 1 (.slice (some ⟨g', 0, none⟩) yss.length cap') (List.replicate yss.length (1 : Int)).length ((List.replicate yss.length (1 : Int)).map (Value.int .i64))) := by
                rw [List.length_replicate]; exact Joins.ownsRow_le HR.out hws
              have hBr : Below w6.heap.size w6 wr := hB.trans (hB2.mono hws)
              go_wp2_with (at_builtin; go_must (refine wpList_append_own _ rfl _ _ 23 rfl w6.heap.size 29 i0 (.slice none 0 0) 1 24 Try.underlying23 hi hz0 hz1 hz2 rfl (by decide) _ _ _ rfl (hown.alloc _) ⟨wr.heap.size, 0, none⟩ 1 1 [.slice (some ⟨g', 0, none⟩) yss.length cap'] rfl rfl (cell_one_new _ _ _) (by simp [Value.oneCell']) (by unfold maxLen; omega) (by omega) (by simp; omega) ?_); go_must (intro v' w4 hown' hgrow _; obtain ⟨g2, cap2, rfl⟩ := ownsRow_succ hown'); go_must (have HO4 := Lib.hid (OwnMat.appended (by rw [cst_length]; exact hown) HW.out HR2.out (by rw [cst_length]; exact hown') hgrow)); go_must (have hB4 : Below w6.heap.size w6 w4 := (hBr.alloc (by omega) _).grown hgrow (by simp; omega) (fun r e => by have e' : some g = some r := e; cases e'; exact hlg.1)); clear hown' hgrow)
              go_roundw
              case rel => exact ⟨k + 1, g2, cap2, by omega, by go_num, rfl, Lib.hid (by rw [cst_succ]; exact HO4.out), hB4⟩
              case measure => simp [intOf]; omega
        · obtain rfl : k = yss.length := by omega
          have x7 := (x6.below hB).more hws
          have y7 := (y6.below hB).more hws
          have f7 := (f6.below hB).more hws
          have HOA : OwnMat w6.heap.size wr (.slice (some ⟨g, 0, none⟩) (cst 1 yss.length yss.length).length cap) (cst 1 yss.length yss.length) := by rw [cst_length]; exact HO.out
          have hma := HOA.mat
          have HB7 := Lib.hid (HB6.out.trans (hB.mono HB6.out.size))
          obtain ⟨w7, rfl⟩ : ∃ w7 : World, w7 = wr := ⟨_, rfl⟩
          clear x6 y6 f6 HO HOA hB hws
          go_wp2_with fail
          go_loopw [11, 12] (fun v i wr => ∃ (k g cap : Nat), k ≤ xss.length ∧ i = .int .i64 k ∧ v = .slice (some ⟨g, 0, none⟩) k cap ∧ Hid (OwnMat w7.heap.size wr (.slice (some ⟨g, 0, none⟩) k cap) (cst 0 xss.length k)) ∧ Below w7.heap.size w7 wr)
            (fun _ i _ => xss.length - (intOf i).toNat)
          case atStart => exact ⟨0, _, _, Nat.zero_le _, rfl, rfl, OwnMat.start w7 (Nat.le_refl _), (Below.refl _ _).alloc (Nat.le_refl _) _⟩
          case round =>
            obtain ⟨k, g2, cap2, hk, rfl, rfl, HO, hB⟩ := hrel
            have hws := hB.size
            by_cases hlt : k < xss.length
            · have hmk := run_make_row' (P := Try.prog) 29 3 (.int .i64 0) 8 Try.underlying29 infoInt rfl .i64 .i64 xss.length (by omega) (by omega)
              obtain ⟨wo, rfl⟩ : ∃ wo : World, wo = wr := ⟨_, rfl⟩
              have hmade := made_own (w := wo) xss.length (by omega)
              have HO2 := HO.out.below ((Below.refl wo.heap.size wo).alloc (Nat.le_refl _) (.cells (madeCells #[.int .i64 0] xss.length) 3))
              obtain ⟨vs, hown, hrows⟩ := HO2
              rw [cst_length] at hown
              have HW := Lib.hid hrows
              have HR2 := Lib.hid (Joins.ownsRow_le hmade hws)
              have hcn := cell_one_new (wo.alloc (.cells (madeCells #[.int .i64 0] xss.length) 3)) (.slice (some ⟨wo.heap.size, 0, none⟩) xss.length xss.length) 29
              rw [show (wo.alloc (.cells (madeCells #[.int .i64 0] xss.length) 3)).heap.size = wo.heap.size + 1 from by simp] at hcn
              have HCN := Lib.hid hcn
              clear hrows hmade x7 y7 f7 hma hcn
              have hlg := hown.lt g2 (by simp [Value.ownBlock])
              go_wp2_with (at_builtin; go_must (refine wpList_append_own _ rfl _ _ 23 rfl w7.heap.size 29 i0 (.slice none 0 0) 1 24 Try.underlying23 hi hz0 hz1 hz2 rfl (by decide) _ _ _ rfl (hown.alloc _) ⟨wo.heap.size + 1, 0, none⟩ 1 1 [.slice (some ⟨wo.heap.size, 0, none⟩) xss.length xss.length] rfl rfl HCN.out (by simp [Value.oneCell']) (by unfold maxLen; omega) (by omega) (by simp; omega) ?_); go_must (intro v' w4 hown' hgrow _; obtain ⟨g3, cap3, rfl⟩ := ownsRow_succ hown'); go_must (have HO4 := Lib.hid (OwnMat.appended (by rw [cst_length]; exact hown) HW.out HR2.out (by rw [cst_length]; exact hown') hgrow)); go_must (have hB4 : Below w7.heap.size w7 w4 := ((hB.alloc hws _).alloc (by simp; omega) _).grown hgrow (by simp; omega) (fun r e => by have e' : some g2 = some r := e; cases e'; exact hlg.1)); clear hown' hgrow)
              go_roundw
              case rel => exact ⟨k + 1, g3, cap3, by omega, by go_num, rfl, Lib.hid (by rw [cst_succ]; exact HO4.out), hB4⟩
              case measure => simp [intOf]; omega
            · obtain rfl : k = xss.length := by omega
              have x8 := (x7.below hB).more hws
              have y8 := (y7.below hB).more hws
              have f8 := (f7.below hB).more hws
              have ma8 := (hma.below hB).more hws
              have HOA : OwnMat w7.heap.size wr (.slice (some ⟨g2, 0, none⟩) (cst 0 xss.length xss.length).length cap2) (cst 0 xss.length xss.length) := by rw [cst_length]; exact HO.out
              have mb8 := HOA.mat
              have HB8 := Lib.hid (HB7.out.trans (hB.mono HB7.out.size))
              clear x7 y7 f7 hma HO HOA hB hws
              obtain ⟨w8, rfl⟩ : ∃ w8 : World, w8 = wr := ⟨_, rfl⟩
              cases z with
              | false =>
                clear x8 y8 f8 ma8 mb8
                go_wp2_with fail
                go_ret
                exact ⟨rfl, HB8.out⟩
              | true =>
                have H1 := Lib.hid (map_cst1 HZ.out)
                have H0 := Lib.hid (map_cst0 HZ.out)
                have HI1 := Lib.hid (implMapOk a1 c1 (some ⟨g, 0, none⟩) cap a3 c3 xss (cst 1 yss.length yss.length) f w8 x8 ma8 f8 HF.out (cst_good (.inr rfl) HG'.out.1 HG'.out.2.1).fit hfl)
                rw [H1.out, cst_length] at HI1
                go_wp2_with fail
                refine HI1.out.mono ?_
                rintro e w9 ⟨rfl, hB9⟩
                have hz9 := hB9.size
                have y9 := (y8.below hB9).more hz9
                have f9 := (f8.below hB9).more hz9
                have mb9 := (mb8.below hB9).more hz9
                have HB9 := Lib.hid (HB8.out.trans (hB9.mono HB8.out.size))
                clear hB9 hz9 x8 y8 f8 ma8 mb8 HI1
                have HI0 := Lib.hid (implMapOk (some ⟨g2, 0, none⟩) cap2 a1' c1' a3 c3 (cst 0 xss.length xss.length) yss f w9 mb9 y9 f9 (cst_good (.inl rfl) HG.out.1 HG.out.2.1).fit HF'.out hfl)
                rw [H0.out, cst_length] at HI0
                clear y9 f9 mb9
                go_wp2_with fail
                refine HI0.out.mono ?_
                rintro e w10 ⟨rfl, hB10⟩
                have HB10 := Lib.hid (HB9.out.trans (hB10.mono HB9.out.size))
                clear hB10
                go_wp2_with fail
                go_ret
                exact ⟨rfl, HB10.out⟩
    · have hn : gOk yss = false := by simpa using hg'
      obtain rfl : z = false := HZ.out.symm.trans (mapOk_no2 hn)
      rw [hn]
      clear hg' hzz
      clear x3 y3 f3
      go_wp2_with fail
      refine (alive_any _).mono ?_
      rintro e w4 ⟨rfl, hB4⟩
      have hz4 := hB4.size
      have HB4 := Lib.hid (HB3.out.trans (hB4.mono HB3.out.size))
      clear hB4 hz4 
      go_wp2_with fail
      go_ret
      exact ⟨rfl, HB4.out⟩
  · have hn : gOk xss = false := by simpa using hg
    obtain rfl : z = false := HZ.out.symm.trans (mapOk_no1 hn)
    rw [hn]
    clear hg hzz
    clear x3 y3 f3
    go_wp2_with fail
    refine (alive_any _).mono ?_
    rintro e w4 ⟨rfl, hB4⟩
    have hz4 := hB4.size
    have HB4 := Lib.hid (HB3.out.trans (hB4.mono HB3.out.size))
    clear hB4 hz4 
    go_wp2_with fail
    go_ret
    exact ⟨rfl, HB4.out⟩

end Go.Proofs.Ytmohmecdhabapab
