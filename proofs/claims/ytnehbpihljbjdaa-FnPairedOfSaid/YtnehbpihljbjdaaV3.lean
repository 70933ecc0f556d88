/-
  The walk of the law of P12 (PairedOf).
-/
import Derived.Test.YtnehbpihljbjdaaZP
import Derived.Test.YtnehbpihljbjdaaT9
import Derived.Test.YtnehbpihljbjdaaT10
import Derived.Test.YtnehbpihljbjdaaZS
import Derived.Test.YtnehbpihljbjdaaT6
import Derived.Test.YtnehbpihljbjdaaZN
import Derived.Test.YtnehbpihljbjdaaZQ
import Derived.Test.YtnehbpihljbjdaaG1
import Derived.Test.YtnehbpihljbjdaaZI
namespace Go.Proofs.Ytnehbpihljbjdaa
open Go.RowKit Go.Shelf

set_option maxRecDepth 100000 in
set_option maxHeartbeats 8000000 in
theorem pairedOf_any (a : Option Addr) (n c : Nat) (w : World) (hc : n ≤ c) (hl : n ≤ 9223372036854775807) (hy : Bytes w.heap.size w a n) :
    Calls Try.prog 5 #[.slice a n c] w (Ans (.bool true) w) := by
  by_cases hbign : 1048576 < n
  · go_enter Try.func5, Try.ntmps5
    go_wp2_with fail
    go_ret
    exact ⟨rfl, Below.refl _ _⟩
  go_enter Try.func5, Try.ntmps5
  go_wp2_with fail
  refine (drawPairedOf_any a n c w (by omega) hc hy).mono ?_
  rintro e w1 ⟨a1, c1, K, a2, c2, G, a3, c3, H, a4, c4, f, a5, c5, es, rfl, ⟨hFK, k1, hk4⟩, ⟨hFG, x1, hx4⟩, ⟨hFH, y1, hy4⟩, ⟨hlf, f1⟩, ⟨hle, e1⟩, hB⟩
  have HB1 := Lib.hid hB
  have HFK := Lib.hid hFK
  have HFG := Lib.hid hFG
  have HFH := Lib.hid hFH
  have HLF := Lib.hid hlf
  have HLE := Lib.hid hle
  obtain ⟨zs, HZ, HZL⟩ : ∃ zs, Hid (paiI K G H f es = zs) ∧ Hid (zs.length ≤ 1048576) := ⟨_, rfl, paiI_le⟩
  have hzl := HZL.out
  clear hB hFK hFG hFH hy
  go_wp2_with fail
  refine (implPaired _ _ _ _ _ _ _ _ _ _ _ _ _ _ _ _ k1 x1 y1 f1 e1 HFK.out HFG.out HFH.out HLF.out HLE.out).mono ?_
  rw [HZ.out]
  rintro e w2 ⟨b2, c2, ⟨rfl, hB2⟩, hO2⟩
  have p2 := hO2.ints
  clear hO2
  have hz2 := hB2.size
  have k2 := (k1.below hB2).more hz2
  have x2 := (x1.below hB2).more hz2
  have y2 := (y1.below hB2).more hz2
  have f2 := (f1.below hB2).more hz2
  have e2 := (e1.below hB2).more hz2
  have HB2 := Lib.hid (HB1.out.trans (hB2.mono HB1.out.size))
  clear hB2 hz2 k1 x1 y1 f1 e1
  go_wp2_with fail
  refine (specPaired _ _ _ _ _ _ _ _ _ _ _ _ _ _ _ _ _ k2 x2 y2 f2 e2 (Nat.le_refl _) HFK.out HFG.out HFH.out HLF.out HLE.out).mono ?_
  rw [HZ.out]
  rintro e w3 ⟨b3, c3, ⟨rfl, hB3⟩, g3⟩
  have hz3 := hB3.size
  have k3 := (k2.below hB3).more hz3
  have x3 := (x2.below hB3).more hz3
  have y3 := (y2.below hB3).more hz3
  have f3 := (f2.below hB3).more hz3
  have e3 := (e2.below hB3).more hz3
  have p3 := (p2.below hB3).more hz3
  have HB3 := Lib.hid (HB2.out.trans (hB3.mono HB2.out.size))
  clear hB3 hz3 k2 x2 y2 f2 e2 p2
  go_wp2_with fail
  refine (sameS_same _ _ _ _ _ _ _ p3 g3 HZL.out).mono ?_
  rintro e w4 h4
  obtain ⟨rfl, hB4⟩ := h4.below
  clear h4
  have hz4 := hB4.size
  have k4 := (k3.below hB4).more hz4
  have x4 := (x3.below hB4).more hz4
  have y4 := (y3.below hB4).more hz4
  have f4 := (f3.below hB4).more hz4
  have e4 := (e3.below hB4).more hz4
  have p4 := (p3.below hB4).more hz4
  have g4 := (g3.below hB4).more hz4
  have HB4 := Lib.hid (HB3.out.trans (hB4.mono HB3.out.size))
  clear hB4 hz4 k3 x3 y3 f3 e3 p3 g3
  clear g4
  by_cases hyes : timOk G H = true ∧ mapOkI K G f = true ∧ mapOkI K H es = true
  · obtain ⟨hok, hm1, hm2⟩ := hyes
    obtain ⟨hG, hH, h9⟩ := timOk_of hok
    obtain ⟨hs1, hs2, hs3, hs4⟩ := pai_small hm1 hm2
    have hzs : zs = paiL H.length f es := HZ.out.symm.trans (paiI_yes ⟨hok, hm1, hm2⟩)
    have h0 : zs.length ≠ 0 := by rw [hzs, paiL_length]; omega
    have h1 : ((zs.length : Int) == 0) = false := by simp; intro e; rw [e] at h0; exact h0 rfl
    obtain ⟨T, HT, HTF⟩ : ∃ T, Hid (timL G H = T) ∧ Hid (Fit T) := ⟨_, rfl, tim_fit⟩
    have HOK := Lib.hid hok
    obtain ⟨⟨hgK, hgG⟩, hM1⟩ := mapOk_iff.1 hm1
    obtain ⟨⟨_, hgH⟩, hM2⟩ := mapOk_iff.1 hm2
    have HM : Hid (mapOkI K T zs = true) := Lib.hid (by rw [← HT.out, hzs]; exact mapOk_iff.2 ⟨⟨hgK, gOk_true (tim_good hok)⟩, pai_map hok hM1 hM2⟩)
    have HS0 : Hid (sidI G H 0 = sideL G.length H.length false) := Lib.hid (sidI_yes hok (.inl rfl))
    have HS1 : Hid (sidI G H 1 = sideL G.length H.length true) := Lib.hid (sidI_yes hok (.inr rfl))
    have HSM0 : mapOkI T G (sideL G.length H.length false) = true := by rw [← HT.out]; exact mapOk_iff.2 ⟨⟨gOk_true (tim_good hok), hgG⟩, side_map1 hok⟩
    have HSM1 : mapOkI T H (sideL G.length H.length true) = true := by rw [← HT.out]; exact mapOk_iff.2 ⟨⟨gOk_true (tim_good hok), hgH⟩, side_map2 hok⟩
    have HBH0 : Hid (behI K T G zs (sideL G.length H.length false) = f) := Lib.hid (by rw [behI_yes HM.out HSM0, hzs]; exact pai_side1 hok hM1 hM2)
    have HBH1 : Hid (behI K T H zs (sideL G.length H.length true) = es) := Lib.hid (by rw [behI_yes HM.out HSM1, hzs]; exact pai_side2 hok hM1 hM2)
    have HSL : Hid (∀ b, (sideL G.length H.length b).length ≤ 1048576) := Lib.hid fun b => by rw [sideL_length]; omega
    clear hok hG hH h9 hzs h0 hm1 hm2 hM1 hM2 hgK hgG hgH hs1 hs2 hs3 hs4 HSM0 HSM1
    go_wp2_with fail
    refine (implTimes _ _ _ _ _ _ _ x4 y4 HFG.out HFH.out).mono ?_
    rw [HT.out, HOK.out]
    rintro e w5 ⟨b5, c5, ⟨rfl, hB5⟩, hO5⟩
    have t5 := hO5.mat
    clear hO5
    have hz5 := hB5.size
    have k5 := (k4.below hB5).more hz5
    have x5 := (x4.below hB5).more hz5
    have y5 := (y4.below hB5).more hz5
    have f5 := (f4.below hB5).more hz5
    have e5 := (e4.below hB5).more hz5
    have p5 := (p4.below hB5).more hz5
    have HB5 := Lib.hid (HB4.out.trans (hB5.mono HB4.out.size))
    clear hB5 hz5 k4 x4 y4 f4 e4 p4
    go_wp2_with fail
    refine (implMapOk _ _ _ _ _ _ _ _ _ _ k5 t5 p5 HFK.out HTF.out HZL.out).mono ?_
    rw [HM.out]
    rintro e w6 ⟨rfl, hB6⟩
    have hz6 := hB6.size
    have k6 := (k5.below hB6).more hz6
    have x6 := (x5.below hB6).more hz6
    have y6 := (y5.below hB6).more hz6
    have f6 := (f5.below hB6).more hz6
    have e6 := (e5.below hB6).more hz6
    have p6 := (p5.below hB6).more hz6
    have t6 := (t5.below hB6).more hz6
    have HB6 := Lib.hid (HB5.out.trans (hB6.mono HB5.out.size))
    clear hB6 hz6 k5 x5 y5 f5 e5 p5 t5
    go_wp2_with fail
    refine (implSide _ _ _ _ _ _ _ _ x6 y6 HFG.out HFH.out).mono ?_
    rw [HS0.out]
    rintro e w7 ⟨b7, c7, ⟨rfl, hB7⟩, hO7⟩
    have s7 := hO7.ints
    clear hO7
    have hz7 := hB7.size
    have k7 := (k6.below hB7).more hz7
    have x7 := (x6.below hB7).more hz7
    have y7 := (y6.below hB7).more hz7
    have f7 := (f6.below hB7).more hz7
    have e7 := (e6.below hB7).more hz7
    have p7 := (p6.below hB7).more hz7
    have t7 := (t6.below hB7).more hz7
    have HB7 := Lib.hid (HB6.out.trans (hB7.mono HB6.out.size))
    clear hB7 hz7 k6 x6 y6 f6 e6 p6 t6
    go_wp2_with fail
    refine (implBehind _ _ _ _ _ _ _ _ _ _ _ _ _ _ _ _ k7 t7 x7 p7 s7 HFK.out HTF.out HFG.out HZL.out (HSL.out _)).mono ?_
    rw [HBH0.out]
    rintro e w8 ⟨b8, c8, ⟨rfl, hB8⟩, hO8⟩
    have q8 := hO8.ints
    clear hO8
    have hz8 := hB8.size
    have k8 := (k7.below hB8).more hz8
    have x8 := (x7.below hB8).more hz8
    have y8 := (y7.below hB8).more hz8
    have f8 := (f7.below hB8).more hz8
    have e8 := (e7.below hB8).more hz8
    have p8 := (p7.below hB8).more hz8
    have t8 := (t7.below hB8).more hz8
    have s8 := (s7.below hB8).more hz8
    have HB8 := Lib.hid (HB7.out.trans (hB8.mono HB7.out.size))
    clear hB8 hz8 k7 x7 y7 f7 e7 p7 t7 s7
    clear s8
    go_wp2_with fail
    refine (sameS_same _ _ _ _ _ _ _ q8 f8 HLF.out).mono ?_
    rintro e w9 h9
    obtain ⟨rfl, hB9⟩ := h9.below
    clear h9
    have hz9 := hB9.size
    have k9 := (k8.below hB9).more hz9
    have x9 := (x8.below hB9).more hz9
    have y9 := (y8.below hB9).more hz9
    have f9 := (f8.below hB9).more hz9
    have e9 := (e8.below hB9).more hz9
    have p9 := (p8.below hB9).more hz9
    have t9 := (t8.below hB9).more hz9
    have q9 := (q8.below hB9).more hz9
    have HB9 := Lib.hid (HB8.out.trans (hB9.mono HB8.out.size))
    clear hB9 hz9 k8 x8 y8 f8 e8 p8 t8 q8
    clear q9
    go_wp2_with fail
    refine (implSide _ _ _ _ _ _ _ _ x9 y9 HFG.out HFH.out).mono ?_
    rw [HS1.out]
    rintro e w10 ⟨b10, c10, ⟨rfl, hB10⟩, hO10⟩
    have r10 := hO10.ints
    clear hO10
    have hz10 := hB10.size
    have k10 := (k9.below hB10).more hz10
    have x10 := (x9.below hB10).more hz10
    have y10 := (y9.below hB10).more hz10
    have f10 := (f9.below hB10).more hz10
    have e10 := (e9.below hB10).more hz10
    have p10 := (p9.below hB10).more hz10
    have t10 := (t9.below hB10).more hz10
    have HB10 := Lib.hid (HB9.out.trans (hB10.mono HB9.out.size))
    clear hB10 hz10 k9 x9 y9 f9 e9 p9 t9
    go_wp2_with fail
    refine (implBehind _ _ _ _ _ _ _ _ _ _ _ _ _ _ _ _ k10 t10 y10 p10 r10 HFK.out HTF.out HFH.out HZL.out (HSL.out _)).mono ?_
    rw [HBH1.out]
    rintro e w11 ⟨b11, c11, ⟨rfl, hB11⟩, hO11⟩
    have u11 := hO11.ints
    clear hO11
    have hz11 := hB11.size
    have k11 := (k10.below hB11).more hz11
    have x11 := (x10.below hB11).more hz11
    have y11 := (y10.below hB11).more hz11
    have f11 := (f10.below hB11).more hz11
    have e11 := (e10.below hB11).more hz11
    have p11 := (p10.below hB11).more hz11
    have t11 := (t10.below hB11).more hz11
    have r11 := (r10.below hB11).more hz11
    have HB11 := Lib.hid (HB10.out.trans (hB11.mono HB10.out.size))
    clear hB11 hz11 k10 x10 y10 f10 e10 p10 t10 r10
    go_wp2_with fail
    refine (sameS_same _ _ _ _ _ _ _ u11 e11 HLE.out).mono ?_
    rintro e w12 h12
    obtain ⟨rfl, hB12⟩ := h12.below
    clear h12
    have hz12 := hB12.size
    have k12 := (k11.below hB12).more hz12
    have x12 := (x11.below hB12).more hz12
    have y12 := (y11.below hB12).more hz12
    have f12 := (f11.below hB12).more hz12
    have e12 := (e11.below hB12).more hz12
    have p12 := (p11.below hB12).more hz12
    have t12 := (t11.below hB12).more hz12
    have r12 := (r11.below hB12).more hz12
    have u12 := (u11.below hB12).more hz12
    have HB12 := Lib.hid (HB11.out.trans (hB12.mono HB11.out.size))
    clear hB12 hz12 k11 x11 y11 f11 e11 p11 t11 r11 u11
    go_wp2_with fail
    go_ret
    exact ⟨rfl, HB12.out⟩
  · obtain rfl : zs = [] := HZ.out.symm.trans (paiI_no hyes)
    clear hyes
    clear k4 x4 y4 f4 e4 p4
    go_wp2_with fail
    refine (alive_any _).mono ?_
    rintro e w5 ⟨rfl, hB5⟩
    have hz5 := hB5.size
    have HB5 := Lib.hid (HB4.out.trans (hB5.mono HB4.out.size))
    clear hB5 hz5 
    go_wp2_with fail
    go_ret
    exact ⟨rfl, HB5.out⟩

end Go.Proofs.Ytnehbpihljbjdaa
