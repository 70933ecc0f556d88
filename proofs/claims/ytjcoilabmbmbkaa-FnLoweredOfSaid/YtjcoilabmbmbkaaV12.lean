/-
  The walk of the law of P19 (LoweredOf).
-/
import Derived.Test.YtjcoilabmbmbkaaD13
import Derived.Test.YtjcoilabmbmbkaaYF
import Derived.Test.YtjcoilabmbmbkaaYC
import Derived.Test.YtjcoilabmbmbkaaYG
import Derived.Test.YtjcoilabmbmbkaaYD
import Derived.Test.YtjcoilabmbmbkaaZS
import Derived.Test.YtjcoilabmbmbkaaG1
import Derived.Test.YtjcoilabmbmbkaaZI
namespace Go.Proofs.Ytjcoilabmbmbkaa
open Go.RowKit Go.Shelf

set_option maxRecDepth 100000 in
set_option maxHeartbeats 8000000 in
theorem loweredOf_any (a : Option Addr) (n c : Nat) (w : World) (hc : n ≤ c) (hl : n ≤ 9223372036854775807) (hy : Bytes w.heap.size w a n) :
    Calls Try.prog 7 #[.slice a n c] w (Ans (.bool true) w) := by
  by_cases hbign : 1048576 < n
  · go_enter Try.func7, Try.ntmps7
    go_wp2_with fail
    go_ret
    exact ⟨rfl, Below.refl _ _⟩
  go_enter Try.func7, Try.ntmps7
  go_wp2_with fail
  refine (drawLoweredOf_any a n c w (by omega) hc hy).mono ?_
  rintro e w1 ⟨a1, c1, K, a2, c2, G, a3, c3, H, a4, c4, f, rfl, ⟨hFK, k1, hk4⟩, ⟨hFG, x1, hx4⟩, ⟨hFH, y1, hy4⟩, ⟨hlf, f1⟩, hB⟩
  have HB1 := Lib.hid hB
  have HFK := Lib.hid hFK
  have HFG := Lib.hid hFG
  have HFH := Lib.hid hFH
  have HLF := Lib.hid hlf
  obtain ⟨zs, HZ, HZL⟩ : ∃ zs, Hid (lowI K G H f = zs) ∧ Hid (zs.length ≤ 1048576) := ⟨_, rfl, lowI_le⟩
  have hzl := HZL.out
  clear hB hFK hFG hFH hy
  go_wp2_with fail
  refine (implLowered _ _ _ _ _ _ _ _ _ _ _ _ _ k1 x1 y1 f1 HFK.out HFG.out HFH.out HLF.out).mono ?_
  rw [HZ.out]
  rintro e w2 ⟨b2, c2, ⟨rfl, hB2⟩, hO2⟩
  have p2 := hO2.ints
  clear hO2
  have hz2 := hB2.size
  have k2 := (k1.below hB2).more hz2
  have x2 := (x1.below hB2).more hz2
  have y2 := (y1.below hB2).more hz2
  have f2 := (f1.below hB2).more hz2
  have HB2 := Lib.hid (HB1.out.trans (hB2.mono HB1.out.size))
  clear hB2 hz2 k1 x1 y1 f1
  go_wp2_with fail
  refine (specLowered _ _ _ _ _ _ _ _ _ _ _ _ _ _ k2 x2 y2 f2 (Nat.le_refl _) HFK.out HFG.out HFH.out HLF.out).mono ?_
  rw [HZ.out]
  rintro e w3 ⟨b3, c3, ⟨rfl, hB3⟩, g3⟩
  have hz3 := hB3.size
  have k3 := (k2.below hB3).more hz3
  have x3 := (x2.below hB3).more hz3
  have y3 := (y2.below hB3).more hz3
  have f3 := (f2.below hB3).more hz3
  have p3 := (p2.below hB3).more hz3
  have HB3 := Lib.hid (HB2.out.trans (hB3.mono HB2.out.size))
  clear hB3 hz3 k2 x2 y2 f2 p2
  go_wp2_with fail
  refine (sameS_same _ _ _ _ _ _ _ p3 g3 HZL.out).mono ?_
  rintro e w4 h4
  obtain ⟨rfl, hB4⟩ := h4.below
  clear h4
  have hz4 := hB4.size
  have k4 := (k3.below hB4).more hz4
  have x4 := (x3.below hB4).more hz4
  have y4 := (y3.below hB4).more hz4
  have f4 := (f3.below hB4).more hz4
  have p4 := (p3.below hB4).more hz4
  have g4 := (g3.below hB4).more hz4
  have HB4 := Lib.hid (HB3.out.trans (hB4.mono HB3.out.size))
  clear hB4 hz4 k3 x3 y3 f3 p3 g3
  clear g4
  by_cases hyes : timOk K G = true ∧ powOk H G = true ∧ mapOkI K (powL H G) f = true
  · obtain ⟨hto, hpo, hm⟩ := hyes
    obtain ⟨hK, hG, h9⟩ := timOk_of hto
    obtain ⟨hH, _, hp9⟩ := powOk_of hpo
    obtain ⟨_, hM⟩ := mapOk_iff.1 hm
    have hT := hM.1
    rw [pow_length hpo] at hT
    have hzs : zs = lowL H.length G.length f := HZ.out.symm.trans (lowI_yes ⟨hto, hpo, hm⟩)
    have hK1 := mul_pos1 hK.1 hG.1
    have h0 : zs.length ≠ 0 := by rw [hzs, lowL_length, hT.1]; omega
    have h1 : ((zs.length : Int) == 0) = false := by simp; intro e; rw [e] at h0; exact h0 rfl
    obtain ⟨T, HT, HTF⟩ : ∃ T, Hid (timL K G = T) ∧ Hid (Fit T) := ⟨_, rfl, tim_fit⟩
    have HOK := Lib.hid hto
    have hMP : mapOkI (timL K G) H zs = true := by rw [hzs]; exact mapOk_iff.2 ⟨⟨gOk_true (tim_good hto), gOk_true hH⟩, low_map hto hpo hM⟩
    have HM : Hid (mapOkI T H zs = true) := Lib.hid (by rw [← HT.out]; exact hMP)
    have HLO : Hid (lifI K G H zs = f) := Lib.hid (by rw [lifI_yes ⟨hto, hpo, hMP⟩, hzs]; exact lift_low hH.1 hT)
    have htl := HTF.out.1
    clear hto hpo hm hK hG h9 hH hp9 hM hT hzs h0 hMP
    go_wp2_with fail
    refine (implTimes _ _ _ _ _ _ _ k4 x4 HFK.out HFG.out).mono ?_
    rw [HT.out, HOK.out]
    rintro e w5 ⟨b5, c5, ⟨rfl, hB5⟩, hO5⟩
    have t5 := hO5.mat
    clear hO5
    have hz5 := hB5.size
    have k5 := (k4.below hB5).more hz5
    have x5 := (x4.below hB5).more hz5
    have y5 := (y4.below hB5).more hz5
    have f5 := (f4.below hB5).more hz5
    have p5 := (p4.below hB5).more hz5
    have HB5 := Lib.hid (HB4.out.trans (hB5.mono HB4.out.size))
    clear hB5 hz5 k4 x4 y4 f4 p4
    go_wp2_with fail
    refine (implMapOk _ _ _ _ _ _ _ _ _ _ t5 y5 p5 HTF.out HFH.out HZL.out).mono ?_
    rw [HM.out]
    rintro e w6 ⟨rfl, hB6⟩
    have hz6 := hB6.size
    have k6 := (k5.below hB6).more hz6
    have x6 := (x5.below hB6).more hz6
    have y6 := (y5.below hB6).more hz6
    have f6 := (f5.below hB6).more hz6
    have p6 := (p5.below hB6).more hz6
    have t6 := (t5.below hB6).more hz6
    have HB6 := Lib.hid (HB5.out.trans (hB6.mono HB5.out.size))
    clear hB6 hz6 k5 x5 y5 f5 p5 t5
    go_wp2_with fail
    refine (implLifted _ _ _ _ _ _ _ _ _ _ _ _ _ k6 x6 y6 p6 HFK.out HFG.out HFH.out HZL.out).mono ?_
    rw [HLO.out]
    rintro e w7 ⟨b7, c7, ⟨rfl, hB7⟩, hO7⟩
    have q7 := hO7.ints
    clear hO7
    have hz7 := hB7.size
    have k7 := (k6.below hB7).more hz7
    have x7 := (x6.below hB7).more hz7
    have y7 := (y6.below hB7).more hz7
    have f7 := (f6.below hB7).more hz7
    have p7 := (p6.below hB7).more hz7
    have t7 := (t6.below hB7).more hz7
    have HB7 := Lib.hid (HB6.out.trans (hB7.mono HB6.out.size))
    clear hB7 hz7 k6 x6 y6 f6 p6 t6
    go_wp2_with fail
    refine (sameS_same _ _ _ _ _ _ _ q7 f7 HLF.out).mono ?_
    rintro e w8 h8
    obtain ⟨rfl, hB8⟩ := h8.below
    clear h8
    have hz8 := hB8.size
    have k8 := (k7.below hB8).more hz8
    have x8 := (x7.below hB8).more hz8
    have y8 := (y7.below hB8).more hz8
    have f8 := (f7.below hB8).more hz8
    have p8 := (p7.below hB8).more hz8
    have t8 := (t7.below hB8).more hz8
    have q8 := (q7.below hB8).more hz8
    have HB8 := Lib.hid (HB7.out.trans (hB8.mono HB7.out.size))
    clear hB8 hz8 k7 x7 y7 f7 p7 t7 q7
    go_wp2_with fail
    go_ret
    exact ⟨rfl, HB8.out⟩
  · obtain rfl : zs = [] := HZ.out.symm.trans (lowI_no hyes)
    clear hyes
    clear k4 x4 y4 f4 p4
    go_wp2_with fail
    refine (alive_any _).mono ?_
    rintro e w5 ⟨rfl, hB5⟩
    have hz5 := hB5.size
    have HB5 := Lib.hid (HB4.out.trans (hB5.mono HB4.out.size))
    clear hB5 hz5 
    go_wp2_with fail
    go_ret
    exact ⟨rfl, HB5.out⟩

end Go.Proofs.Ytjcoilabmbmbkaa
