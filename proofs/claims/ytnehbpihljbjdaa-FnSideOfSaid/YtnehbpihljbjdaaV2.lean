/-
  The walk of the law of P11 (SideOf).
-/
import Derived.Test.YtnehbpihljbjdaaZP
import Derived.Test.YtnehbpihljbjdaaT2
import Derived.Test.YtnehbpihljbjdaaZS
import Derived.Test.YtnehbpihljbjdaaT6
import Derived.Test.YtnehbpihljbjdaaZN
import Derived.Test.YtnehbpihljbjdaaG1
import Derived.Test.YtnehbpihljbjdaaZI
namespace Go.Proofs.Ytnehbpihljbjdaa
open Go.RowKit Go.Shelf

set_option maxRecDepth 100000 in
set_option maxHeartbeats 8000000 in
theorem sideOf_any (a : Option Addr) (n c : Nat) (w : World) (hc : n ≤ c) (hl : n ≤ 9223372036854775807) (hy : Bytes w.heap.size w a n) :
    Calls Try.prog 4 #[.slice a n c] w (Ans (.bool true) w) := by
  by_cases hbign : 1048576 < n
  · go_enter Try.func4, Try.ntmps4
    go_wp2_with fail
    go_ret
    exact ⟨rfl, Below.refl _ _⟩
  go_enter Try.func4, Try.ntmps4
  go_wp2_with fail
  refine (drawSideOf_any a n c w (by omega) hc hy).mono ?_
  rintro e w1 ⟨a1, c1, G, a2, c2, H, s, rfl, ⟨hF, x1, hx4⟩, ⟨hF', y1, hy4⟩, hB⟩
  have HB1 := Lib.hid hB
  have HF := Lib.hid hF
  have HF' := Lib.hid hF'
  obtain ⟨zs, HZ, HZL⟩ : ∃ zs, Hid (sidI G H s = zs) ∧ Hid (zs.length ≤ 1048576) := ⟨_, rfl, sidI_le⟩
  have hzl := HZL.out
  clear hB hF hF' hy
  go_wp2_with fail
  refine (implSide _ _ _ _ _ _ _ _ x1 y1 HF.out HF'.out).mono ?_
  rw [HZ.out]
  rintro e w2 ⟨b2, c2, ⟨rfl, hB2⟩, hO2⟩
  have f2 := hO2.ints
  clear hO2
  have hz2 := hB2.size
  have x2 := (x1.below hB2).more hz2
  have y2 := (y1.below hB2).more hz2
  have HB2 := Lib.hid (HB1.out.trans (hB2.mono HB1.out.size))
  clear hB2 hz2 x1 y1
  go_wp2_with fail
  refine (specSide _ _ _ _ _ _ _ _ _ x2 y2 (Nat.le_refl _) HF.out HF'.out).mono ?_
  rw [HZ.out]
  rintro e w3 ⟨b3, c3, ⟨rfl, hB3⟩, g3⟩
  have hz3 := hB3.size
  have x3 := (x2.below hB3).more hz3
  have y3 := (y2.below hB3).more hz3
  have f3 := (f2.below hB3).more hz3
  have HB3 := Lib.hid (HB2.out.trans (hB3.mono HB2.out.size))
  clear hB3 hz3 x2 y2 f2
  go_wp2_with fail
  refine (sameS_same _ _ _ _ _ _ _ f3 g3 HZL.out).mono ?_
  rintro e w4 h4
  obtain ⟨rfl, hB4⟩ := h4.below
  clear h4
  have hz4 := hB4.size
  have x4 := (x3.below hB4).more hz4
  have y4 := (y3.below hB4).more hz4
  have f4 := (f3.below hB4).more hz4
  have g4 := (g3.below hB4).more hz4
  have HB4 := Lib.hid (HB3.out.trans (hB4.mono HB3.out.size))
  clear hB4 hz4 x3 y3 f3 g3
  clear g4
  by_cases hyes : timOk G H = true ∧ (s = 0 ∨ s = 1)
  · obtain ⟨hok, hs⟩ := hyes
    obtain ⟨hG, hH, h9⟩ := timOk_of hok
    have hzs : zs = sideL G.length H.length (decide (s = 1)) := HZ.out.symm.trans (sidI_yes hok hs)
    have h0 : zs.length ≠ 0 := by rw [hzs, sideL_length]; have := mul_pos1 hG.1 hH.1; omega
    have h1 : ((zs.length : Int) == 0) = false := by simp; intro e; rw [e] at h0; exact h0 rfl
    obtain ⟨T, HT, HTF⟩ : ∃ T, Hid (timL G H = T) ∧ Hid (Fit T) := ⟨_, rfl, tim_fit⟩
    have HOK := Lib.hid hok
    have HM : Hid (s = 0 → mapOkI T G zs = true) := Lib.hid fun e => by
      subst e; rw [← HT.out, hzs]; exact mapOk_iff.2 ⟨⟨gOk_true (tim_good hok), gOk_true hG⟩, side_map1 hok⟩
    have HM' : Hid (s = 1 → mapOkI T H zs = true) := Lib.hid fun e => by
      subst e; rw [← HT.out, hzs]; exact mapOk_iff.2 ⟨⟨gOk_true (tim_good hok), gOk_true hH⟩, side_map2 hok⟩
    clear hok hG hH h9 hzs h0
    go_wp2_with fail
    refine (implTimes _ _ _ _ _ _ _ x4 y4 HF.out HF'.out).mono ?_
    rw [HT.out, HOK.out]
    rintro e w5 ⟨b5, c5, ⟨rfl, hB5⟩, hO5⟩
    have t5 := hO5.mat
    clear hO5
    have hz5 := hB5.size
    have x5 := (x4.below hB5).more hz5
    have y5 := (y4.below hB5).more hz5
    have f5 := (f4.below hB5).more hz5
    have HB5 := Lib.hid (HB4.out.trans (hB5.mono HB4.out.size))
    clear hB5 hz5 x4 y4 f4
    rcases hs with rfl | rfl
    · have HM2 := Lib.hid (HM.out rfl)
      go_wp2_with fail
      refine (implMapOk _ _ _ _ _ _ _ _ _ _ t5 x5 f5 HTF.out HF.out HZL.out).mono ?_
      rw [HM2.out]
      rintro e w6 ⟨rfl, hB6⟩
      have hz6 := hB6.size
      have x6 := (x5.below hB6).more hz6
      have y6 := (y5.below hB6).more hz6
      have f6 := (f5.below hB6).more hz6
      have t6 := (t5.below hB6).more hz6
      have HB6 := Lib.hid (HB5.out.trans (hB6.mono HB5.out.size))
      clear hB6 hz6 x5 y5 f5 t5
      go_wp2_with fail
      go_ret
      exact ⟨rfl, HB6.out⟩
    · have HM2 := Lib.hid (HM'.out rfl)
      go_wp2_with fail
      refine (implMapOk _ _ _ _ _ _ _ _ _ _ t5 y5 f5 HTF.out HF'.out HZL.out).mono ?_
      rw [HM2.out]
      rintro e w6 ⟨rfl, hB6⟩
      have hz6 := hB6.size
      have x6 := (x5.below hB6).more hz6
      have y6 := (y5.below hB6).more hz6
      have f6 := (f5.below hB6).more hz6
      have t6 := (t5.below hB6).more hz6
      have HB6 := Lib.hid (HB5.out.trans (hB6.mono HB5.out.size))
      clear hB6 hz6 x5 y5 f5 t5
      go_wp2_with fail
      go_ret
      exact ⟨rfl, HB6.out⟩
  · obtain rfl : zs = [] := HZ.out.symm.trans (sidI_no hyes)
    clear hyes
    clear x4 y4 f4
    go_wp2_with fail
    refine (alive_any _).mono ?_
    rintro e w5 ⟨rfl, hB5⟩
    have hz5 := hB5.size
    have HB5 := Lib.hid (HB4.out.trans (hB5.mono HB4.out.size))
    clear hB5 hz5 
    go_wp2_with fail
    go_ret
    exact ⟨rfl, HB5.out⟩

end Go.Proofs.Ytnehbpihljbjdaa
