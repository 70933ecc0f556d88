/-
  The walk of the law of P3 (PartOf).
-/
import Derived.Test.YtmohmecdhabapacC10
import Derived.Test.YtmohmecdhabapacD8
import Derived.Test.YtmohmecdhabapacI3
import Derived.Test.YtmohmecdhabapacL4
namespace Go.Proofs.Ytmohmecdhabapac
open Go.RowKit Go.Shelf

theorem own_cap {W : World} {base k g c : Nat} {vs : List Value} (h : W.ownsRow base 3 1 (.slice (some ⟨g, 0, none⟩) k c) k vs) : k ≤ c := by
  rcases h.2 with ⟨e, h0⟩ | ⟨g', cap, cur, e, _, _, hn, _⟩
  · omega
  · simp only [Value.slice.injEq] at e
    omega

set_option maxRecDepth 100000 in
set_option maxHeartbeats 4000000 in
theorem partOf_any (a : Option Addr) (n c : Nat) (w : World) (hc : n ≤ c) (hl : n ≤ 9223372036854775807) (hy : Bytes w.heap.size w a n) :
    Calls Try.prog 3 #[.slice a n c] w (Ans (.bool true) w) := by
  by_cases hbig : 1048576 < n
  · go_enter Try.func3, Try.ntmps3
    go_wp2_with fail
    go_ret
    exact ⟨rfl, Below.refl _ _⟩
  obtain ⟨i1, hj, hy0, hy1, hy2⟩ := info_parts infoInt
  go_enter Try.func3, Try.ntmps3
  go_wp2_with fail
  refine (drawPartOf_any a n c w (by omega) hc hy).mono ?_
  rintro e w1 ⟨a1, c1, xss, a1', c1', ys, rfl, ⟨hF, x1⟩, ⟨hyl, hyc, f1⟩, hB⟩
  have HB1 := Lib.hid hB
  have HF := Lib.hid hF
  have hlx := hF.1
  obtain ⟨zs, HZ⟩ : ∃ zs, Hid (partL xss ys = zs) := ⟨_, rfl⟩
  have HZF : Hid (Fit zs) := Lib.hid (by rw [← HZ.out]; exact part_fit)
  have hzl := HZF.out.1
  clear hB hF hy
  go_wp2_with fail
  refine (implPart _ _ _ _ _ _ _ x1 f1 hyc (by omega) HF.out).mono ?_
  rw [HZ.out]
  rintro e w2 ⟨b2, d2, ⟨rfl, hB2⟩, hO2⟩
  have z2 := hO2.mat
  clear hO2
  have hz2 := hB2.size
  have x2 := (x1.below hB2).more hz2
  have f2 := (f1.below hB2).more hz2
  have HB2 := Lib.hid (HB1.out.trans (hB2.mono HB1.out.size))
  clear hB2 hz2 x1 f1
  go_wp2_with fail
  refine (specPart _ _ _ _ _ _ _ _ x2 f2 (Nat.le_refl _) (by omega) HF.out).mono ?_
  rw [HZ.out]
  rintro e w3 ⟨b3, d3, ⟨rfl, hB3⟩, s3⟩
  have hz3 := hB3.size
  have x3 := (x2.below hB3).more hz3
  have f3 := (f2.below hB3).more hz3
  have z3 := (z2.below hB3).more hz3
  have HB3 := Lib.hid (HB2.out.trans (hB3.mono HB2.out.size))
  clear hB3 hz3 x2 f2 z2
  go_wp2_with fail
  refine (sameSS_same _ _ _ _ _ _ _ z3 s3 HZF.out).mono ?_
  rintro e w4 h4x
  obtain ⟨rfl, hB4⟩ := h4x.below
  clear h4x
  have hz4 := hB4.size
  have x4 := (x3.below hB4).more hz4
  have f4 := (f3.below hB4).more hz4
  have z4 := (z3.below hB4).more hz4
  have s4 := (s3.below hB4).more hz4
  have HB4 := Lib.hid (HB3.out.trans (hB4.mono HB3.out.size))
  clear hB4 hz4 x3 f3 z3 s3
  clear s4
  by_cases h0 : zs.length = 0
  · rw [h0]
    clear x4 f4 z4
    go_wp2_with fail
    refine (alive_any _).mono ?_
    rintro e w5 ⟨rfl, hB5⟩
    have hz5 := hB5.size
    have HB5 := Lib.hid (HB4.out.trans (hB5.mono HB4.out.size))
    clear hB5 hz5 
    go_wp2_with fail
    go_ret
    exact ⟨rfl, HB5.out⟩
  · obtain ⟨hg, hy1', hN⟩ := part_some (show (partL xss ys).length ≠ 0 by rw [HZ.out]; exact h0)
    have hzb : ((zs.length : Int) == 0) = false := beq_eq_false_iff_ne.2 (by omega)
    have HZG : Hid (gOk zs = true) := Lib.hid (by rw [← HZ.out]; exact gOk_true (part_good hg hy1' hN))
    have HZL : Hid (zs.length = ys.length) := Lib.hid (by rw [← HZ.out, partL_yes hg hy1' hN, rowsP_length])
    have hzy : ((zs.length : Int) == (ys.length : Int)) = true := by rw [HZL.out]; simp
    have har : arrowsI zs ≤ arrowsI xss := by rw [← HZ.out]; exact part_arrows hg hy1' hN
    have HO := Lib.hid (part_own hg)
    have hx9 : xss.length ≤ 9 := (good_of hg).2.1
    clear hg hy1' hN h0
    go_wp2_with fail
    go_loopw [6, 7] (fun v i wr => ∃ (k g cap : Nat), k ≤ xss.length ∧ i = .int .i64 k ∧ v = .slice (some ⟨g, 0, none⟩) k cap ∧ Hid (wr.ownsRow w4.heap.size 3 1 (.slice (some ⟨g, 0, none⟩) k cap) k ((seqL 0 k).map (Value.int .i64))) ∧ Below w4.heap.size w4 wr)
      (fun _ i _ => xss.length - (intOf i).toNat)
    case atStart => exact ⟨0, _, _, Nat.zero_le _, rfl, rfl, World.ownsRow_lit (size := 1) w4 #[] 0 (Nat.le_refl _) (Nat.zero_le _) rfl, (Below.refl _ _).alloc (Nat.le_refl _) _⟩
    case round =>
      obtain ⟨j, g', cap', hj', rfl, rfl, HR, hB2⟩ := hrel
      by_cases hltj : j < xss.length
      · have hown := HR.out
        have hBs := hB2.size
        have hlg := HR.out.lt g' (by simp [Value.ownBlock])
        clear x4 f4 z4
        go_wp2_with (at_builtin; go_must (refine wpList_append_own _ rfl _ _ 24 rfl w4.heap.size 3 i1 (.int .i64 0) 1 8 Try.underlying24 hj hy0 hy1 hy2 rfl (by decide) _ _ _ rfl (hown.alloc _) ⟨wr.heap.size, 0, none⟩ 1 1 [.int .i64 j] rfl rfl (cell_one_new _ _ _) (by simp [Value.oneCell']) (by unfold maxLen; omega) (by omega) (by simp; omega) ?_); go_must (intro v' w9 hown' hgrow _; obtain ⟨g2, cap2, rfl⟩ := ownsRow_succ hown'); go_must (have HO9 := Lib.hid hown'); go_must (have hB9 : Below w4.heap.size w4 w9 := (hB2.alloc hBs _).grown hgrow (by simp; omega) (fun r e => by have e' : some g' = some r := e; cases e'; exact hlg.1)); clear hown' hgrow)
        go_roundw
        case rel => exact ⟨j + 1, g2, cap2, by omega, by go_num, rfl, Lib.hid (by rw [seqL_snoc, List.map_append, Nat.zero_add]; exact HO9.out), hB9⟩
        case measure => simp [intOf]; omega
      · obtain rfl : j = xss.length := by omega
        have hB5 := hB2
        have hcp := own_cap HR.out
        obtain ⟨ap, cp, ep, p5⟩ := own_ints (xs := seqL 0 xss.length) (by rw [seqL_length]; exact HR.out)
        rw [seqL_length] at ep
        obtain ⟨rfl, -, rfl⟩ := (by simpa using ep : some (⟨g', 0, none⟩ : Addr) = ap ∧ True ∧ cap' = cp)
        clear HR hB2 ep
        obtain ⟨w5, rfl⟩ : ∃ w5 : World, w5 = wr := ⟨_, rfl⟩
        have hz5 := hB5.size
        have x5 := (x4.below hB5).more hz5
        have f5 := (f4.below hB5).more hz5
        have z5 := (z4.below hB5).more hz5
        have HB5 := Lib.hid (HB4.out.trans (hB5.mono HB4.out.size))
        clear hB5 hz5 x4 f4 z4
        go_wp2_with fail
        refine (implOk _ _ _ _ z5 HZF.out).mono ?_
        rw [HZG.out]
        rintro e w6 ⟨rfl, hB6⟩
        have hz6 := hB6.size
        have x6 := (x5.below hB6).more hz6
        have f6 := (f5.below hB6).more hz6
        have z6 := (z5.below hB6).more hz6
        have p6 := (p5.below hB6).more hz6
        have HB6 := Lib.hid (HB5.out.trans (hB6.mono HB5.out.size))
        clear hB6 hz6 x5 f5 z5 p5
        go_wp2_with fail
        refine (implArrows _ _ _ _ z6 HZF.out).mono ?_
        rintro e w7 ⟨rfl, hB7⟩
        have hz7 := hB7.size
        have x7 := (x6.below hB7).more hz7
        have f7 := (f6.below hB7).more hz7
        have z7 := (z6.below hB7).more hz7
        have p7 := (p6.below hB7).more hz7
        have HB7 := Lib.hid (HB6.out.trans (hB7.mono HB6.out.size))
        clear hB7 hz7 x6 f6 z6 p6
        clear z7
        go_wp2_with fail
        refine (implArrows _ _ _ _ x7 HF.out).mono ?_
        rintro e w8 ⟨rfl, hB8⟩
        have hz8 := hB8.size
        have x8 := (x7.below hB8).more hz8
        have f8 := (f7.below hB8).more hz8
        have p8 := (p7.below hB8).more hz8
        have HB8 := Lib.hid (HB7.out.trans (hB8.mono HB7.out.size))
        clear hB8 hz8 x7 f7 p7
        have HC := Lib.hid (implPart a1 (some ⟨g', 0, none⟩) c1 cap' xss (seqL 0 xss.length) w8 x8 p8 (by rw [seqL_length]; exact hcp) (by rw [seqL_length]; omega) HF.out)
        rw [HO.out, seqL_length] at HC
        go_wp2_with fail
        refine HC.out.mono ?_
        rintro e w9 ⟨b9, d9, ⟨rfl, hB9⟩, hO9⟩
        have r9 := hO9.mat
        clear hO9 HC
        have hz9 := hB9.size
        have x9 := (x8.below hB9).more hz9
        have f9 := (f8.below hB9).more hz9
        have p9 := (p8.below hB9).more hz9
        have HB9 := Lib.hid (HB8.out.trans (hB9.mono HB8.out.size))
        clear hB9 hz9 x8 f8 p8
        go_wp2_with fail
        refine (sameSS_same _ _ _ _ _ _ _ r9 x9 HF.out).mono ?_
        rintro e w10 h10x
        obtain ⟨rfl, hB10⟩ := h10x.below
        clear h10x
        have hz10 := hB10.size
        have x10 := (x9.below hB10).more hz10
        have f10 := (f9.below hB10).more hz10
        have p10 := (p9.below hB10).more hz10
        have r10 := (r9.below hB10).more hz10
        have HB10 := Lib.hid (HB9.out.trans (hB10.mono HB9.out.size))
        clear hB10 hz10 x9 f9 p9 r9
        go_wp2_with fail
        go_ret
        exact ⟨rfl, HB10.out⟩

end Go.Proofs.Ytmohmecdhabapac
