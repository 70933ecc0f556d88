/-
  The walk of the law of P23 (CoreOf).
-/
import Derived.Test.YtiappomfohnhoaaD14
import Derived.Test.YtiappomfohnhoaaZV
import Derived.Test.YtiappomfohnhoaaZR
import Derived.Test.YtiappomfohnhoaaZX
import Derived.Test.YtiappomfohnhoaaM7
import Derived.Test.YtiappomfohnhoaaV1
import Derived.Test.YtiappomfohnhoaaG1
namespace Go.Proofs.Ytiappomfohnhoaa
open Go.RowKit Go.Shelf

set_option maxRecDepth 100000 in
set_option maxHeartbeats 8000000 in
theorem coreOf_any (a : Option Addr) (n c : Nat) (b : Option Addr) (m d : Nat) (w : World) (hc : n ≤ c) (hl : n ≤ 9223372036854775807) (hy : Bytes w.heap.size w a n) (hd : m ≤ d) (hl' : m ≤ 9223372036854775807) (hy' : Bytes w.heap.size w b m) :
    Calls Try.prog 3 #[.slice a n c, .slice b m d] w (Ans (.bool true) w) := by
  by_cases hbign : 1048576 < n
  · go_enter Try.func3, Try.ntmps3
    go_wp2_with fail
    go_ret
    exact ⟨rfl, Below.refl _ _⟩
  by_cases hbigm : 1048576 < m
  · go_enter Try.func3, Try.ntmps3
    go_wp2_with fail
    go_ret
    exact ⟨rfl, Below.refl _ _⟩
  go_enter Try.func3, Try.ntmps3
  go_wp2_with fail
  refine (drawCoreOf_any a n c w (by omega) hc hy).mono ?_
  rintro e w1 ⟨aG, cG, G, rfl, ⟨hF, x1, hx4⟩, hB⟩
  have HB1 := Lib.hid hB
  have HF := Lib.hid hF
  have HY' := Lib.hid hy'
  obtain ⟨T, HT, HTF⟩ : ∃ T, Hid (corL G = T) ∧ Hid (Fit T) := ⟨_, rfl, cor_fit⟩
  obtain ⟨z, HZ⟩ : ∃ z, Hid (g5 G = z) := ⟨_, rfl⟩
  have htl := HTF.out.1
  have hzz : (z != z) = false := by simp
  clear hB hF hy hy' 
  go_wp2_with fail
  refine (implCoreOf _ _ _ _ x1 HF.out).mono ?_
  rw [HT.out, HZ.out]
  rintro e w2 ⟨b2, c2, ⟨rfl, hB2⟩, hO2⟩
  have t2 := hO2.mat
  clear hO2
  have hz2 := hB2.size
  have x2 := (x1.below hB2).more hz2
  have HB2 := Lib.hid (HB1.out.trans (hB2.mono HB1.out.size))
  clear hB2 hz2 x1
  go_wp2_with fail
  refine (specCoreOf _ _ _ _ _ x2 (Nat.le_refl _) HF.out).mono ?_
  rw [HT.out, HZ.out]
  rintro e w3 ⟨b3, c3, ⟨rfl, hB3⟩, u3⟩
  have hz3 := hB3.size
  have x3 := (x2.below hB3).more hz3
  have t3 := (t2.below hB3).more hz3
  have HB3 := Lib.hid (HB2.out.trans (hB3.mono HB2.out.size))
  clear hB3 hz3 x2 t2
  go_wp2_with fail
  refine (sameSS_same _ _ _ _ _ _ _ t3 u3 HTF.out).mono ?_
  rintro e w4 h4
  obtain ⟨rfl, hB4⟩ := h4.below
  clear h4
  have hz4 := hB4.size
  have x4 := (x3.below hB4).more hz4
  have t4 := (t3.below hB4).more hz4
  have u4 := (u3.below hB4).more hz4
  have HB4 := Lib.hid (HB3.out.trans (hB4.mono HB3.out.size))
  clear hB4 hz4 x3 t3 u3
  clear u4
  cases z with
  | false =>
    obtain rfl : T = [] := HT.out.symm.trans (corL_no HZ.out)
    clear x4 t4
    go_wp2_with fail
    refine (alive_any _).mono ?_
    rintro e w5 ⟨rfl, hB5⟩
    have hz5 := hB5.size
    have HB5 := Lib.hid (HB4.out.trans (hB5.mono HB4.out.size))
    clear hB5 hz5 
    go_wp2_with fail
    go_ret
    exact ⟨rfl, HB5.out⟩
  | true =>
    have hcc := cor_core HZ.out
    have hcl := cor_level HZ.out
    have hct := core_cor hcc
    have hc5 := cor_g5 HZ.out
    rw [HT.out] at hcc hcl hct hc5
    have HCC := Lib.hid hcc
    have HCL := Lib.hid hcl
    have HCT := Lib.hid hct
    have HC5 := Lib.hid hc5
    clear hcc hcl hct hc5 hzz
    have hy4' : Bytes w4.heap.size w4 b m := HY'.out.belowT HB4.out HB4.out.size
    go_wp2_with fail
    refine (drawCoreOf_any b m d w4 (by omega) hd hy4').mono ?_
    rintro e w5 ⟨aH, cH, H, rfl, ⟨hFH, y5, hy4⟩, hB5⟩
    have HFH := Lib.hid hFH
    have hhl := hFH.1
    clear hFH hy4'
    have hz5 := hB5.size
    have x5 := (x4.below hB5).more hz5
    have t5 := (t4.below hB5).more hz5
    have HB5 := Lib.hid (HB4.out.trans (hB5.mono HB4.out.size))
    clear hB5 hz5 x4 t4
    obtain ⟨U, HU, HUF⟩ : ∃ U, Hid (corL H = U) ∧ Hid (Fit U) := ⟨_, rfl, cor_fit⟩
    obtain ⟨q, HQ⟩ : ∃ q, Hid (g5 H = q) := ⟨_, rfl⟩
    have hul := HUF.out.1
    go_wp2_with fail
    refine (implCoreOf _ _ _ _ y5 HFH.out).mono ?_
    rw [HU.out, HQ.out]
    rintro e w6 ⟨b6, c6, ⟨rfl, hB6⟩, hO6⟩
    have u6 := hO6.mat
    clear hO6
    have hz6 := hB6.size
    have x6 := (x5.below hB6).more hz6
    have t6 := (t5.below hB6).more hz6
    have y6 := (y5.below hB6).more hz6
    have HB6 := Lib.hid (HB5.out.trans (hB6.mono HB5.out.size))
    clear hB6 hz6 x5 t5 y5
    cases q with
    | false =>
      clear y6 u6
      go_wp2_with fail
      refine (implCoreOf _ _ _ _ t6 HTF.out).mono ?_
      rw [HCT.out, HC5.out]
      rintro e w7 ⟨b7, c7, ⟨rfl, hB7⟩, hO7⟩
      have r7 := hO7.mat
      clear hO7
      have hz7 := hB7.size
      have x7 := (x6.below hB7).more hz7
      have t7 := (t6.below hB7).more hz7
      have HB7 := Lib.hid (HB6.out.trans (hB7.mono HB6.out.size))
      clear hB7 hz7 x6 t6
      go_wp2_with fail
      refine (implCoreOk _ _ _ _ t7 HTF.out).mono ?_
      rw [HCC.out]
      rintro e w8 ⟨rfl, hB8⟩
      have hz8 := hB8.size
      have x8 := (x7.below hB8).more hz8
      have t8 := (t7.below hB8).more hz8
      have r8 := (r7.below hB8).more hz8
      have HB8 := Lib.hid (HB7.out.trans (hB8.mono HB7.out.size))
      clear hB8 hz8 x7 t7 r7
      go_wp2_with fail
      refine (implLevel _ _ _ _ _ _ _ t8 x8 HTF.out HF.out).mono ?_
      rw [HCL.out]
      rintro e w9 ⟨rfl, hB9⟩
      have hz9 := hB9.size
      have x9 := (x8.below hB9).more hz9
      have t9 := (t8.below hB9).more hz9
      have r9 := (r8.below hB9).more hz9
      have HB9 := Lib.hid (HB8.out.trans (hB9.mono HB8.out.size))
      clear hB9 hz9 x8 t8 r8
      go_wp2_with fail
      refine (sameSS_same _ _ _ _ _ _ _ r9 t9 HTF.out).mono ?_
      rintro e w10 h10
      obtain ⟨rfl, hB10⟩ := h10.below
      clear h10
      have hz10 := hB10.size
      have x10 := (x9.below hB10).more hz10
      have t10 := (t9.below hB10).more hz10
      have r10 := (r9.below hB10).more hz10
      have HB10 := Lib.hid (HB9.out.trans (hB10.mono HB9.out.size))
      clear hB10 hz10 x9 t9 r9
      go_wp2_with fail
      go_ret
      exact ⟨rfl, HB10.out⟩
    | true =>
      obtain ⟨l, HL⟩ : ∃ l, Hid (levelI G H = l) := ⟨_, rfl⟩
      go_wp2_with fail
      refine (implLevel _ _ _ _ _ _ _ x6 y6 HF.out HFH.out).mono ?_
      rw [HL.out]
      rintro e w7 ⟨rfl, hB7⟩
      have hz7 := hB7.size
      have x7 := (x6.below hB7).more hz7
      have t7 := (t6.below hB7).more hz7
      have y7 := (y6.below hB7).more hz7
      have u7 := (u6.below hB7).more hz7
      have HB7 := Lib.hid (HB6.out.trans (hB7.mono HB6.out.size))
      clear hB7 hz7 x6 t6 y6 u6
      cases l with
      | false =>
        clear y7 u7
        go_wp2_with fail
        refine (implCoreOf _ _ _ _ t7 HTF.out).mono ?_
        rw [HCT.out, HC5.out]
        rintro e w8 ⟨b8, c8, ⟨rfl, hB8⟩, hO8⟩
        have r8 := hO8.mat
        clear hO8
        have hz8 := hB8.size
        have x8 := (x7.below hB8).more hz8
        have t8 := (t7.below hB8).more hz8
        have HB8 := Lib.hid (HB7.out.trans (hB8.mono HB7.out.size))
        clear hB8 hz8 x7 t7
        go_wp2_with fail
        refine (implCoreOk _ _ _ _ t8 HTF.out).mono ?_
        rw [HCC.out]
        rintro e w9 ⟨rfl, hB9⟩
        have hz9 := hB9.size
        have x9 := (x8.below hB9).more hz9
        have t9 := (t8.below hB9).more hz9
        have r9 := (r8.below hB9).more hz9
        have HB9 := Lib.hid (HB8.out.trans (hB9.mono HB8.out.size))
        clear hB9 hz9 x8 t8 r8
        go_wp2_with fail
        refine (implLevel _ _ _ _ _ _ _ t9 x9 HTF.out HF.out).mono ?_
        rw [HCL.out]
        rintro e w10 ⟨rfl, hB10⟩
        have hz10 := hB10.size
        have x10 := (x9.below hB10).more hz10
        have t10 := (t9.below hB10).more hz10
        have r10 := (r9.below hB10).more hz10
        have HB10 := Lib.hid (HB9.out.trans (hB10.mono HB9.out.size))
        clear hB10 hz10 x9 t9 r9
        go_wp2_with fail
        refine (sameSS_same _ _ _ _ _ _ _ r10 t10 HTF.out).mono ?_
        rintro e w11 h11
        obtain ⟨rfl, hB11⟩ := h11.below
        clear h11
        have hz11 := hB11.size
        have x11 := (x10.below hB11).more hz11
        have t11 := (t10.below hB11).more hz11
        have r11 := (r10.below hB11).more hz11
        have HB11 := Lib.hid (HB10.out.trans (hB11.mono HB10.out.size))
        clear hB11 hz11 x10 t10 r10
        go_wp2_with fail
        go_ret
        exact ⟨rfl, HB11.out⟩
      | true =>
        have hsame := cor_same HZ.out HQ.out HL.out
        rw [HT.out, HU.out] at hsame
        have HSA := Lib.hid hsame
        clear hsame
        go_wp2_with fail
        refine (implSame _ _ _ _ _ _ _ t7 u7 HTF.out HUF.out).mono ?_
        rintro e w8 h8
        obtain ⟨b8, d8, ⟨he, hB8⟩, -⟩ := h8
        rw [HSA.out] at he
        subst he
        have hz8 := hB8.size
        have x8 := (x7.below hB8).more hz8
        have t8 := (t7.below hB8).more hz8
        have y8 := (y7.below hB8).more hz8
        have u8 := (u7.below hB8).more hz8
        have HB8 := Lib.hid (HB7.out.trans (hB8.mono HB7.out.size))
        clear hB8 hz8 x7 t7 y7 u7
        clear y8 u8
        go_wp2_with fail
        refine (implCoreOf _ _ _ _ t8 HTF.out).mono ?_
        rw [HCT.out, HC5.out]
        rintro e w9 ⟨b9, c9, ⟨rfl, hB9⟩, hO9⟩
        have r9 := hO9.mat
        clear hO9
        have hz9 := hB9.size
        have x9 := (x8.below hB9).more hz9
        have t9 := (t8.below hB9).more hz9
        have HB9 := Lib.hid (HB8.out.trans (hB9.mono HB8.out.size))
        clear hB9 hz9 x8 t8
        go_wp2_with fail
        refine (implCoreOk _ _ _ _ t9 HTF.out).mono ?_
        rw [HCC.out]
        rintro e w10 ⟨rfl, hB10⟩
        have hz10 := hB10.size
        have x10 := (x9.below hB10).more hz10
        have t10 := (t9.below hB10).more hz10
        have r10 := (r9.below hB10).more hz10
        have HB10 := Lib.hid (HB9.out.trans (hB10.mono HB9.out.size))
        clear hB10 hz10 x9 t9 r9
        go_wp2_with fail
        refine (implLevel _ _ _ _ _ _ _ t10 x10 HTF.out HF.out).mono ?_
        rw [HCL.out]
        rintro e w11 ⟨rfl, hB11⟩
        have hz11 := hB11.size
        have x11 := (x10.below hB11).more hz11
        have t11 := (t10.below hB11).more hz11
        have r11 := (r10.below hB11).more hz11
        have HB11 := Lib.hid (HB10.out.trans (hB11.mono HB10.out.size))
        clear hB11 hz11 x10 t10 r10
        go_wp2_with fail
        refine (sameSS_same _ _ _ _ _ _ _ r11 t11 HTF.out).mono ?_
        rintro e w12 h12
        obtain ⟨rfl, hB12⟩ := h12.below
        clear h12
        have hz12 := hB12.size
        have x12 := (x11.below hB12).more hz12
        have t12 := (t11.below hB12).more hz12
        have r12 := (r11.below hB12).more hz12
        have HB12 := Lib.hid (HB11.out.trans (hB12.mono HB11.out.size))
        clear hB12 hz12 x11 t11 r11
        go_wp2_with fail
        go_ret
        exact ⟨rfl, HB12.out⟩

end Go.Proofs.Ytiappomfohnhoaa
