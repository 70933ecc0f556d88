/-
  The walk of the law of P21 (ImageOf).
-/
import Derived.Test.YtiappomfohnhoaaD15
import Derived.Test.YtiappomfohnhoaaG3
import Derived.Test.YtiappomfohnhoaaZV
import Derived.Test.YtiappomfohnhoaaZR
import Derived.Test.YtiappomfohnhoaaZU
import Derived.Test.YtiappomfohnhoaaZG
import Derived.Test.YtiappomfohnhoaaM7
import Derived.Test.YtiappomfohnhoaaZN
import Derived.Test.YtiappomfohnhoaaC11
import Derived.Test.YtiappomfohnhoaaG1
namespace Go.Proofs.Ytiappomfohnhoaa
open Go.RowKit Go.Shelf

set_option maxRecDepth 100000 in
set_option maxHeartbeats 8000000 in
theorem imageOf_any (a : Option Addr) (n c : Nat) (w : World) (hc : n ≤ c) (hl : n ≤ 9223372036854775807) (hy : Bytes w.heap.size w a n) :
    Calls Try.prog 12 #[.slice a n c] w (Ans (.bool true) w) := by
  by_cases hbign : 1048576 < n
  · go_enter Try.func12, Try.ntmps12
    go_wp2_with fail
    go_ret
    exact ⟨rfl, Below.refl _ _⟩
  go_enter Try.func12, Try.ntmps12
  go_wp2_with fail
  refine (drawImageOf_any a n c w (by omega) hc hy).mono ?_
  rintro e w1 ⟨aG, cG, G, aH, cH, H, aF, cF, f, rfl, ⟨hF, x1, hx4⟩, ⟨hFH, y1, hy4⟩, ⟨hlf, f1⟩, hB⟩
  have HB1 := Lib.hid hB
  have HF := Lib.hid hF
  have HFH := Lib.hid hFH
  have HLF := Lib.hid hlf
  have hlH := hFH.1
  obtain ⟨m, HM⟩ : ∃ m, Hid (mapOkI G H f = m) := ⟨_, rfl⟩
  obtain ⟨ys, HY, HYL⟩ : ∃ ys, Hid (imaI G H f = ys) ∧ Hid (ys.length ≤ 1048576) := ⟨_, rfl, imaI_le⟩
  have hyl := HYL.out
  clear hB hF hFH hy
  go_wp2_with fail
  refine (implImage _ _ _ _ _ _ _ _ _ _ x1 y1 f1 HF.out HFH.out HLF.out).mono ?_
  rw [HY.out]
  rintro e w2 ⟨b2, c2, ⟨rfl, hB2⟩, hO2⟩
  have hcap := own_capQ hO2
  have g2 := own_intsQ hO2
  clear hO2
  have hz2 := hB2.size
  have x2 := (x1.below hB2).more hz2
  have y2 := (y1.below hB2).more hz2
  have f2 := (f1.below hB2).more hz2
  have HB2 := Lib.hid (HB1.out.trans (hB2.mono HB1.out.size))
  clear hB2 hz2 x1 y1 f1
  go_wp2_with fail
  refine (specImage _ _ _ _ _ _ _ _ _ _ _ x2 y2 f2 (Nat.le_refl _) HF.out HFH.out HLF.out).mono ?_
  rw [HY.out]
  rintro e w3 ⟨b3, c3, ⟨rfl, hB3⟩, t3⟩
  have hz3 := hB3.size
  have x3 := (x2.below hB3).more hz3
  have y3 := (y2.below hB3).more hz3
  have f3 := (f2.below hB3).more hz3
  have g3 := (g2.below hB3).more hz3
  have HB3 := Lib.hid (HB2.out.trans (hB3.mono HB2.out.size))
  clear hB3 hz3 x2 y2 f2 g2
  go_wp2_with fail
  refine (sameS_same _ _ _ _ _ _ _ g3 t3 HYL.out).mono ?_
  rintro e w4 h4
  obtain ⟨rfl, hB4⟩ := h4.below
  clear h4
  have hz4 := hB4.size
  have x4 := (x3.below hB4).more hz4
  have y4 := (y3.below hB4).more hz4
  have f4 := (f3.below hB4).more hz4
  have g4 := (g3.below hB4).more hz4
  have t4 := (t3.below hB4).more hz4
  have HB4 := Lib.hid (HB3.out.trans (hB4.mono HB3.out.size))
  clear hB4 hz4 x3 y3 f3 g3 t3
  clear t4
  go_wp2_with fail
  refine (specMapOk _ _ _ _ _ _ _ _ _ _ _ x4 y4 f4 HF.out HFH.out HLF.out).mono ?_
  rw [HM.out]
  rintro e w5 h5
  obtain ⟨rfl, hB5⟩ := h5.below
  clear h5
  have hz5 := hB5.size
  have x5 := (x4.below hB5).more hz5
  have y5 := (y4.below hB5).more hz5
  have f5 := (f4.below hB5).more hz5
  have g5 := (g4.below hB5).more hz5
  have HB5 := Lib.hid (HB4.out.trans (hB5.mono HB4.out.size))
  clear hB5 hz5 x4 y4 f4 g4
  cases m with
  | false =>
    obtain rfl : ys = [] := HY.out.symm.trans (imaI_no HM.out)
    clear x5 y5 f5 g5
    go_wp2_with fail
    refine (alive_any _).mono ?_
    rintro e w6 ⟨rfl, hB6⟩
    have hz6 := hB6.size
    have HB6 := Lib.hid (HB5.out.trans (hB6.mono HB5.out.size))
    clear hB6 hz6 
    go_wp2_with fail
    go_ret
    exact ⟨rfl, HB6.out⟩
  | true =>
    obtain ⟨⟨hgG, hgH⟩, hm⟩ := mapOk_iff.1 HM.out
    have hys : ys = imgL H.length f := HY.out.symm.trans (imaI_yes HM.out)
    have HHM : Hid (∀ k : Nat, k < H.length → hasB ys (k : Int) = hasB f (k : Int)) := Lib.hid fun k hk => by
      unfold hasB
      refine decide_eq_decide.2 ?_
      rw [hys, imgL_mem]
      exact ⟨fun h => h.2, fun h => ⟨⟨by omega, by omega⟩, h⟩⟩
    have HUP : Hid (Up ys) := Lib.hid (by rw [hys]; exact imgL_up _ _)
    have hpos := img_pos hm.1 (good_of hgG).1
    have hN : Nodes H.length ys := by rw [hys]; exact imgL_nodes _ _
    rw [← hys] at hpos
    have HPT : Hid (gOk (partL H ys) = true ∧ (partL H ys).length ≤ 4) := Lib.hid ⟨gOk_true (part_good hgH hpos hN), by rw [part_length hgH hpos hN]; have := nodes_le hN; omega⟩
    have HPF : Hid (Fit (partL H ys)) := Lib.hid (good_of HPT.out.1).fit
    have HBE : Hid (belowI G (partL H ys) = true) := Lib.hid ((below_iff (few_of4 hgG HPT.out.1 hx4 HPT.out.2)).2 ⟨_, (into_part hgH hpos hN hm (fun y hy => by rw [hys]; exact imgL_sub hm.1 hy)).1⟩)
    clear hgG hgH hm hys hpos hN
    go_wp2_with fail
    go_loopw [7] (fun i wr => ∃ k : Nat, k ≤ H.length ∧ i = .int .i64 k ∧ Below w5.heap.size w5 wr) (fun i _ => H.length - (intOf i).toNat)
    case atStart => exact ⟨0, Nat.zero_le _, rfl, Below.refl _ _⟩
    case round =>
      obtain ⟨k, hk, rfl, hB⟩ := hrel
      have hws := hB.size
      by_cases hlt : k < H.length
      · have HH := Lib.hid (HHM.out k hlt)
        obtain ⟨t, HT⟩ : ∃ t, Hid (hasB f (k : Int) = t) := ⟨_, rfl⟩
        have htt : (t != t) = false := by simp
        go_wp2_with fail
        refine (hasInt_any _ _ _ _ w5.heap.size wr (g5.below hB) HYL.out).mono ?_
        rw [HH.out, HT.out]
        rintro e wq ⟨rfl, rfl⟩
        go_wp2_with fail
        refine (hasInt_any _ _ _ _ w5.heap.size wr (f5.below hB) HLF.out).mono ?_
        rw [HT.out]
        rintro e wq ⟨rfl, rfl⟩
        go_wp2_with fail
        go_roundw
        case rel => exact ⟨k + 1, by omega, by go_num, hB⟩
        case measure => simp [intOf]; omega
      · have x6 := (x5.below hB).more hws
        have y6 := (y5.below hB).more hws
        have g6 := (g5.below hB).more hws
        have HB6 := Lib.hid (HB5.out.trans (hB.mono HB5.out.size))
        obtain ⟨w6, rfl⟩ : ∃ w6 : World, w6 = wr := ⟨_, rfl⟩
        clear x5 y5 f5 g5 hB hws
        go_wp2_with fail
        refine (ascend_any _ _ _ _ _ g6 HYL.out HUP.out).mono ?_
        rintro e w7 h7
        obtain ⟨rfl, hB7⟩ := h7.below
        clear h7
        have hz7 := hB7.size
        have x7 := (x6.below hB7).more hz7
        have y7 := (y6.below hB7).more hz7
        have g7 := (g6.below hB7).more hz7
        have HB7 := Lib.hid (HB6.out.trans (hB7.mono HB6.out.size))
        clear hB7 hz7 x6 y6 g6
        go_wp2_with fail
        refine (implPart _ _ _ _ _ _ _ y7 g7 hcap HYL.out HFH.out).mono ?_
        rintro e w8 ⟨b8, c8, ⟨rfl, hB8⟩, hO8⟩
        have p8 := hO8.mat
        clear hO8
        have hz8 := hB8.size
        have x8 := (x7.below hB8).more hz8
        have y8 := (y7.below hB8).more hz8
        have g8 := (g7.below hB8).more hz8
        have HB8 := Lib.hid (HB7.out.trans (hB8.mono HB7.out.size))
        clear hB8 hz8 x7 y7 g7
        go_wp2_with fail
        refine (implBelow _ _ _ _ _ _ _ x8 p8 HF.out HPF.out).mono ?_
        rw [HBE.out]
        rintro e w9 ⟨rfl, hB9⟩
        have hz9 := hB9.size
        have x9 := (x8.below hB9).more hz9
        have y9 := (y8.below hB9).more hz9
        have g9 := (g8.below hB9).more hz9
        have p9 := (p8.below hB9).more hz9
        have HB9 := Lib.hid (HB8.out.trans (hB9.mono HB8.out.size))
        clear hB9 hz9 x8 y8 g8 p8
        go_wp2_with fail
        go_ret
        exact ⟨rfl, HB9.out⟩

end Go.Proofs.Ytiappomfohnhoaa
