/-
  The walk of the law of P9 (BehindOf).
-/
import Derived.Test.YtmohmecdhabapabD7
import Derived.Test.YtmohmecdhabapabG1
import Derived.Test.YtmohmecdhabapabL3
import Derived.Test.YtmohmecdhabapabM3c
import Derived.Test.YtmohmecdhabapabM10b
import Derived.Test.YtmohmecdhabapabN6a
namespace Go.Proofs.Ytmohmecdhabapab
open Go.RowKit Go.Shelf

theorem ownL_length (m : Nat) : (ownL m).length = m := by simp [ownL]
theorem ownL_succ (m : Nat) : ownL (m + 1) = ownL m ++ [(m : Int)] := by simp [ownL, List.range_succ]
theorem nd_get {f : List Int} {m n j : Nat} (h : Tells m n f) (hj : j < m) : f[j]? = some (nd f j : Int) := by
  obtain ⟨p, h1, h2, _⟩ := tells_at h hj
  rw [h1, h2]
theorem beh_own_first {m n : Nat} {f : List Int} (h : Tells m n f) : behL (ownL m) f = f := by
  apply List.ext_getElem?
  intro j
  by_cases hj : j < m
  · rw [nd_get h hj]
    simp only [behL, List.getElem?_map, ownL, List.getElem?_range hj, Option.map_some]
    rw [show ((j : Int)).toNat = j from rfl, nd_get h hj]; rfl
  · rw [List.getElem?_eq_none (by simp [behL, ownL]; omega), List.getElem?_eq_none (by rw [h.1]; omega)]
theorem beh_own_last {m n : Nat} {f : List Int} (h : Tells m n f) : behL f (ownL n) = f := by
  apply List.ext_getElem?
  intro j
  by_cases hj : j < m
  · have h2 := nd_tells h hj
    rw [nd_get h hj]
    simp only [behL, List.getElem?_map, nd_get h hj, Option.map_some]
    rw [show ((nd f j : Nat) : Int).toNat = nd f j from rfl]
    simp [ownL, h2]
  · rw [List.getElem?_eq_none (by simp [behL, h.1]; omega), List.getElem?_eq_none (by rw [h.1]; omega)]
theorem mapOk_own {G : List (List Int)} (h : gOk G = true) : mapOkI G G (ownL G.length) = true := mapOk_iff.2 ⟨⟨h, h⟩, own_map G⟩
theorem beh_not_nil {G H K : List (List Int)} {f e : List Int} (h : behI G H K f e ≠ []) : mapOkI G H f = true ∧ mapOkI H K e = true := by
  by_cases hh : mapOkI G H f = true ∧ mapOkI H K e = true
  · exact hh
  · exact absurd (behI_no hh) h

set_option maxRecDepth 100000 in
set_option maxHeartbeats 4000000 in
theorem behindOf_any (a : Option Addr) (n c : Nat) (w : World) (hc : n ≤ c) (hl : n ≤ 9223372036854775807) (hy : Bytes w.heap.size w a n) :
    Calls Try.prog 8 #[.slice a n c] w (Ans (.bool true) w) := by
  by_cases hbig : 1048576 < n
  · go_enter Try.func8, Try.ntmps8
    go_wp2_with fail
    go_ret
    exact ⟨rfl, Below.refl _ _⟩
  obtain ⟨i1, hj, hy0, hy1, hy2⟩ := info_parts infoInt
  go_enter Try.func8, Try.ntmps8
  go_wp2_with fail
  refine (drawBehindOf_any a n c w (by omega) hc hy).mono ?_
  rintro e w1 ⟨a1, c1, xss, a1', c1', yss, a1'', c1'', kss, a3, c3, f, a4, c4, h, rfl, ⟨hF, x1⟩, ⟨hF', y1⟩, ⟨hFk, k1⟩, ⟨hfl, f1⟩, ⟨hhl, h1⟩, hB⟩
  have HB1 := Lib.hid hB
  have HF := Lib.hid hF
  have HF' := Lib.hid hF'
  have HFk := Lib.hid hFk
  have hlx := hF.1
  have hly := hF'.1
  obtain ⟨zs, HZ⟩ : ∃ zs, Hid (behI xss yss kss f h = zs) := ⟨_, rfl⟩
  have hzl : zs.length ≤ 1048576 := by rw [← HZ.out]; exact behI_le hfl
  clear hB hF hF' hFk hy
  go_wp2_with fail
  refine (implBehind _ _ _ _ _ _ _ _ _ _ _ _ _ _ _ _ x1 y1 k1 f1 h1 HF.out HF'.out HFk.out hfl hhl).mono ?_
  rw [HZ.out]
  rintro e w2 ⟨b2, d2, ⟨rfl, hB2⟩, hO2⟩
  have z2 := hO2.ints
  clear hO2
  have hz2 := hB2.size
  have x2 := (x1.below hB2).more hz2
  have y2 := (y1.below hB2).more hz2
  have k2 := (k1.below hB2).more hz2
  have f2 := (f1.below hB2).more hz2
  have h2 := (h1.below hB2).more hz2
  have HB2 := Lib.hid (HB1.out.trans (hB2.mono HB1.out.size))
  clear hB2 hz2 x1 y1 k1 f1 h1
  go_wp2_with fail
  refine (specBehind _ _ _ _ _ _ _ _ _ _ _ _ _ _ _ _ _ x2 y2 k2 f2 h2 (Nat.le_refl _) HF.out HF'.out HFk.out hfl hhl).mono ?_
  rw [HZ.out]
  rintro e w3 ⟨b3, d3, ⟨rfl, hB3⟩, s3⟩
  have hz3 := hB3.size
  have x3 := (x2.below hB3).more hz3
  have y3 := (y2.below hB3).more hz3
  have k3 := (k2.below hB3).more hz3
  have f3 := (f2.below hB3).more hz3
  have h3 := (h2.below hB3).more hz3
  have z3 := (z2.below hB3).more hz3
  have HB3 := Lib.hid (HB2.out.trans (hB3.mono HB2.out.size))
  clear hB3 hz3 x2 y2 k2 f2 h2 z2
  go_wp2_with fail
  refine (sameS_same _ _ _ _ _ _ _ z3 s3 hzl).mono ?_
  rintro e w4 h4x
  obtain ⟨rfl, hB4⟩ := h4x.below
  clear h4x
  have hz4 := hB4.size
  have x4 := (x3.below hB4).more hz4
  have y4 := (y3.below hB4).more hz4
  have k4 := (k3.below hB4).more hz4
  have f4 := (f3.below hB4).more hz4
  have h4 := (h3.below hB4).more hz4
  have z4 := (z3.below hB4).more hz4
  have s4 := (s3.below hB4).more hz4
  have HB4 := Lib.hid (HB3.out.trans (hB4.mono HB3.out.size))
  clear hB4 hz4 x3 y3 k3 f3 h3 z3 s3
  clear s4
  by_cases h0 : zs.length = 0
  · rw [h0]
    clear x4 y4 k4 f4 h4 z4
    go_wp2_with fail
    refine (alive_any _).mono ?_
    rintro e w5 ⟨rfl, hB5⟩
    have hz5 := hB5.size
    have HB5 := Lib.hid (HB4.out.trans (hB5.mono HB4.out.size))
    clear hB5 hz5 
    go_wp2_with fail
    go_ret
    exact ⟨rfl, HB5.out⟩
  · have hm := beh_not_nil (show behI xss yss kss f h ≠ [] by rw [HZ.out]; rintro rfl; exact h0 rfl)
    have HM1 := Lib.hid hm.1
    have HM2 := Lib.hid hm.2
    have hzb : ((zs.length : Int) == 0) = false := beq_eq_false_iff_ne.2 (by omega)
    have HZB : Hid (zs = behL f h) := Lib.hid (by rw [← HZ.out]; exact behI_yes hm.1 hm.2)
    have HG := Lib.hid (mapOk_iff.1 hm.1).1.1
    have HGy := Lib.hid (mapOk_iff.1 hm.1).1.2
    have HGk := Lib.hid (mapOk_iff.1 hm.2).1.2
    have HMz : Hid (mapOkI xss kss zs = true) := Lib.hid (by rw [HZB.out]; exact mapOk_iff.2 ⟨⟨HG.out, HGk.out⟩, beh_map (mapOk_iff.1 hm.1).2 (mapOk_iff.1 hm.2).2⟩)
    have HO1 : Hid (behI xss xss yss (ownL xss.length) f = f) := Lib.hid (by rw [behI_yes (mapOk_own HG.out) hm.1]; exact beh_own_first (mapOk_iff.1 hm.1).2.1)
    have HO2 : Hid (behI xss yss yss f (ownL yss.length) = f) := Lib.hid (by rw [behI_yes hm.1 (mapOk_own HGy.out)]; exact beh_own_last (mapOk_iff.1 hm.1).2.1)
    have hx9 : xss.length ≤ 9 := (good_of HG.out).2.1
    have hy9 : yss.length ≤ 9 := (good_of HGy.out).2.1
    clear hm h0
    go_wp2_with fail
    go_loopw [9, 10] (fun v i wr => ∃ (k g cap : Nat), k ≤ xss.length ∧ i = .int .i64 k ∧ v = .slice (some ⟨g, 0, none⟩) k cap ∧ Hid (wr.ownsRow w4.heap.size 3 1 (.slice (some ⟨g, 0, none⟩) k cap) k ((ownL k).map (Value.int .i64))) ∧ Below w4.heap.size w4 wr)
      (fun _ i _ => xss.length - (intOf i).toNat)
    case atStart => exact ⟨0, _, _, Nat.zero_le _, rfl, rfl, World.ownsRow_lit (size := 1) w4 #[] 0 (Nat.le_refl _) (Nat.zero_le _) rfl, (Below.refl _ _).alloc (Nat.le_refl _) _⟩
    case round =>
      obtain ⟨j, g', cap', hj', rfl, rfl, HR, hB2⟩ := hrel
      by_cases hltj : j < xss.length
      · have hown := HR.out
        have hBs := hB2.size
        have hlg := HR.out.lt g' (by simp [Value.ownBlock])
        clear x4 y4 k4 f4 h4 z4
        go_wp2_with (at_builtin; go_must (refine wpList_append_own _ rfl _ _ 29 rfl w4.heap.size 3 i1 (.int .i64 0) 1 8 Try.underlying29 hj hy0 hy1 hy2 rfl (by decide) _ _ _ rfl (hown.alloc _) ⟨wr.heap.size, 0, none⟩ 1 1 [.int .i64 j] rfl rfl (cell_one_new _ _ _) (by simp [Value.oneCell']) (by unfold maxLen; omega) (by omega) (by simp; omega) ?_); go_must (intro v' w9 hown' hgrow _; obtain ⟨g2, cap2, rfl⟩ := ownsRow_succ hown'); go_must (have HO9 := Lib.hid hown'); go_must (have hB9 : Below w4.heap.size w4 w9 := (hB2.alloc hBs _).grown hgrow (by simp; omega) (fun r e => by have e' : some g' = some r := e; cases e'; exact hlg.1)); clear hown' hgrow)
        go_roundw
        case rel => exact ⟨j + 1, g2, cap2, by omega, by go_num, rfl, Lib.hid (by rw [ownL_succ, List.map_append]; exact HO9.out), hB9⟩
        case measure => simp [intOf]; omega
      · obtain rfl : j = xss.length := by omega
        have hB5 := hB2
        obtain ⟨ap, cp, ep, p5⟩ := own_ints (xs := ownL xss.length) (by rw [ownL_length]; exact HR.out)
        rw [ownL_length] at ep
        obtain ⟨rfl, -, rfl⟩ := (by simpa using ep : some (⟨g', 0, none⟩ : Addr) = ap ∧ True ∧ cap' = cp)
        clear HR hB2 ep
        obtain ⟨w5, rfl⟩ : ∃ w5 : World, w5 = wr := ⟨_, rfl⟩
        have hz5 := hB5.size
        have x5 := (x4.below hB5).more hz5
        have y5 := (y4.below hB5).more hz5
        have k5 := (k4.below hB5).more hz5
        have f5 := (f4.below hB5).more hz5
        have h5 := (h4.below hB5).more hz5
        have z5 := (z4.below hB5).more hz5
        have HB5 := Lib.hid (HB4.out.trans (hB5.mono HB4.out.size))
        clear hB5 hz5 x4 y4 k4 f4 h4 z4
        go_wp2_with fail
        go_loopw [11, 12] (fun v i wr => ∃ (k g cap : Nat), k ≤ yss.length ∧ i = .int .i64 k ∧ v = .slice (some ⟨g, 0, none⟩) k cap ∧ Hid (wr.ownsRow w5.heap.size 3 1 (.slice (some ⟨g, 0, none⟩) k cap) k ((ownL k).map (Value.int .i64))) ∧ Below w5.heap.size w5 wr)
          (fun _ i _ => yss.length - (intOf i).toNat)
        case atStart => exact ⟨0, _, _, Nat.zero_le _, rfl, rfl, World.ownsRow_lit (size := 1) w5 #[] 0 (Nat.le_refl _) (Nat.zero_le _) rfl, (Below.refl _ _).alloc (Nat.le_refl _) _⟩
        case round =>
          obtain ⟨j, g'2, cap'2, hj', rfl, rfl, HR, hB2⟩ := hrel
          by_cases hltj : j < yss.length
          · have hown := HR.out
            have hBs := hB2.size
            have hlg := HR.out.lt g'2 (by simp [Value.ownBlock])
            clear x5 y5 k5 f5 h5 z5 p5
            go_wp2_with (at_builtin; go_must (refine wpList_append_own _ rfl _ _ 29 rfl w5.heap.size 3 i1 (.int .i64 0) 1 8 Try.underlying29 hj hy0 hy1 hy2 rfl (by decide) _ _ _ rfl (hown.alloc _) ⟨wr.heap.size, 0, none⟩ 1 1 [.int .i64 j] rfl rfl (cell_one_new _ _ _) (by simp [Value.oneCell']) (by unfold maxLen; omega) (by omega) (by simp; omega) ?_); go_must (intro v' w9 hown' hgrow _; obtain ⟨g2, cap2, rfl⟩ := ownsRow_succ hown'); go_must (have HO9 := Lib.hid hown'); go_must (have hB9 : Below w5.heap.size w5 w9 := (hB2.alloc hBs _).grown hgrow (by simp; omega) (fun r e => by have e' : some g'2 = some r := e; cases e'; exact hlg.1)); clear hown' hgrow)
            go_roundw
            case rel => exact ⟨j + 1, g2, cap2, by omega, by go_num, rfl, Lib.hid (by rw [ownL_succ, List.map_append]; exact HO9.out), hB9⟩
            case measure => simp [intOf]; omega
          · obtain rfl : j = yss.length := by omega
            have hB6 := hB2
            obtain ⟨aq, cq, eq, q6⟩ := own_ints (xs := ownL yss.length) (by rw [ownL_length]; exact HR.out)
            rw [ownL_length] at eq
            obtain ⟨rfl, -, rfl⟩ := (by simpa using eq : some (⟨g'2, 0, none⟩ : Addr) = aq ∧ True ∧ cap'2 = cq)
            clear HR hB2 eq
            obtain ⟨w6, rfl⟩ : ∃ w6 : World, w6 = wr := ⟨_, rfl⟩
            have hz6 := hB6.size
            have x6 := (x5.below hB6).more hz6
            have y6 := (y5.below hB6).more hz6
            have k6 := (k5.below hB6).more hz6
            have f6 := (f5.below hB6).more hz6
            have h6 := (h5.below hB6).more hz6
            have z6 := (z5.below hB6).more hz6
            have p6 := (p5.below hB6).more hz6
            have HB6 := Lib.hid (HB5.out.trans (hB6.mono HB5.out.size))
            clear hB6 hz6 x5 y5 k5 f5 h5 z5 p5
            go_wp2_with fail
            refine (implMapOk _ _ _ _ _ _ _ _ _ _ x6 k6 z6 HF.out HFk.out hzl).mono ?_
            rw [HMz.out]
            rintro e w7 ⟨rfl, hB7⟩
            have hz7 := hB7.size
            have x7 := (x6.below hB7).more hz7
            have y7 := (y6.below hB7).more hz7
            have k7 := (k6.below hB7).more hz7
            have f7 := (f6.below hB7).more hz7
            have h7 := (h6.below hB7).more hz7
            have z7 := (z6.below hB7).more hz7
            have p7 := (p6.below hB7).more hz7
            have q7 := (q6.below hB7).more hz7
            have HB7 := Lib.hid (HB6.out.trans (hB7.mono HB6.out.size))
            clear hB7 hz7 x6 y6 k6 f6 h6 z6 p6 q6
            clear k7 z7 h7
            have HC8 := Lib.hid (implBehind a1 a1 a1' (some ⟨g', 0, none⟩) a3 c1 c1 c1' cap' c3 xss xss yss (ownL xss.length) f w7 x7 x7 y7 p7 f7 HF.out HF.out HF'.out (by rw [ownL_length]; omega) hfl)
            rw [HO1.out, ownL_length] at HC8
            go_wp2_with fail
            refine HC8.out.mono ?_
            rintro e w8 ⟨b8, d8, ⟨rfl, hB8⟩, hO8⟩
            have r8 := hO8.ints
            clear hO8 HC8
            have hz8 := hB8.size
            have x8 := (x7.below hB8).more hz8
            have y8 := (y7.below hB8).more hz8
            have f8 := (f7.below hB8).more hz8
            have p8 := (p7.below hB8).more hz8
            have q8 := (q7.below hB8).more hz8
            have HB8 := Lib.hid (HB7.out.trans (hB8.mono HB7.out.size))
            clear hB8 hz8 x7 y7 f7 p7 q7
            go_wp2_with fail
            refine (sameS_same _ _ _ _ _ _ _ r8 f8 hfl).mono ?_
            rintro e w9 h9x
            obtain ⟨rfl, hB9⟩ := h9x.below
            clear h9x
            have hz9 := hB9.size
            have x9 := (x8.below hB9).more hz9
            have y9 := (y8.below hB9).more hz9
            have f9 := (f8.below hB9).more hz9
            have p9 := (p8.below hB9).more hz9
            have q9 := (q8.below hB9).more hz9
            have r9 := (r8.below hB9).more hz9
            have HB9 := Lib.hid (HB8.out.trans (hB9.mono HB8.out.size))
            clear hB9 hz9 x8 y8 f8 p8 q8 r8
            clear r9
            have HC10 := Lib.hid (implBehind a1 a1' a1' a3 (some ⟨g'2, 0, none⟩) c1 c1' c1' c3 cap'2 xss yss yss f (ownL yss.length) w9 x9 y9 y9 f9 q9 HF.out HF'.out HF'.out hfl (by rw [ownL_length]; omega))
            rw [HO2.out, ownL_length] at HC10
            go_wp2_with fail
            refine HC10.out.mono ?_
            rintro e w10 ⟨b10, d10, ⟨rfl, hB10⟩, hO10⟩
            have r10 := hO10.ints
            clear hO10 HC10
            have hz10 := hB10.size
            have x10 := (x9.below hB10).more hz10
            have y10 := (y9.below hB10).more hz10
            have f10 := (f9.below hB10).more hz10
            have p10 := (p9.below hB10).more hz10
            have q10 := (q9.below hB10).more hz10
            have HB10 := Lib.hid (HB9.out.trans (hB10.mono HB9.out.size))
            clear hB10 hz10 x9 y9 f9 p9 q9
            go_wp2_with fail
            refine (sameS_same _ _ _ _ _ _ _ r10 f10 hfl).mono ?_
            rintro e w11 h11x
            obtain ⟨rfl, hB11⟩ := h11x.below
            clear h11x
            have hz11 := hB11.size
            have x11 := (x10.below hB11).more hz11
            have y11 := (y10.below hB11).more hz11
            have f11 := (f10.below hB11).more hz11
            have p11 := (p10.below hB11).more hz11
            have q11 := (q10.below hB11).more hz11
            have r11 := (r10.below hB11).more hz11
            have HB11 := Lib.hid (HB10.out.trans (hB11.mono HB10.out.size))
            clear hB11 hz11 x10 y10 f10 p10 q10 r10
            clear r11
            go_wp2_with fail
            go_ret
            exact ⟨rfl, HB11.out⟩

end Go.Proofs.Ytmohmecdhabapab
