/-
  The walk of the law of P20 (StaysOk).
-/
import Derived.Test.YtiappomfohnhoaaD14
import Derived.Test.YtiappomfohnhoaaZV
import Derived.Test.YtiappomfohnhoaaZR
import Derived.Test.YtiappomfohnhoaaZN
import Derived.Test.YtiappomfohnhoaaZQ
import Derived.Test.YtiappomfohnhoaaG1
namespace Go.Proofs.Ytiappomfohnhoaa
open Go.RowKit Go.Shelf

set_option maxRecDepth 100000 in
set_option maxHeartbeats 8000000 in
theorem staysOk_any (a : Option Addr) (n c : Nat) (w : World) (hc : n ≤ c) (hl : n ≤ 9223372036854775807) (hy : Bytes w.heap.size w a n) :
    Calls Try.prog 15 #[.slice a n c] w (Ans (.bool true) w) := by
  by_cases hbign : 1048576 < n
  · go_enter Try.func15, Try.ntmps15
    go_wp2_with fail
    go_ret
    exact ⟨rfl, Below.refl _ _⟩
  go_enter Try.func15, Try.ntmps15
  go_wp2_with fail
  refine (drawStaysOk_any a n c w (by omega) hc hy).mono ?_
  rintro e w1 ⟨aG, cG, G, aF, cF, f, rfl, ⟨hF, x1, hx4⟩, ⟨hlf, f1⟩, hB⟩
  have HB1 := Lib.hid hB
  have HF := Lib.hid hF
  have HLF := Lib.hid hlf
  obtain ⟨z, HZ⟩ : ∃ z, Hid (stysI G f = z) := ⟨_, rfl⟩
  obtain ⟨m, HM⟩ : ∃ m, Hid (mapOkI G G f = m) := ⟨_, rfl⟩
  have hzz : (z != z) = false := by simp
  clear hB hF hy
  go_wp2_with fail
  refine (implStays _ _ _ _ _ _ _ x1 f1 HF.out HLF.out).mono ?_
  rw [HZ.out]
  rintro e w2 ⟨rfl, hB2⟩
  have hz2 := hB2.size
  have x2 := (x1.below hB2).more hz2
  have f2 := (f1.below hB2).more hz2
  have HB2 := Lib.hid (HB1.out.trans (hB2.mono HB1.out.size))
  clear hB2 hz2 x1 f1
  go_wp2_with fail
  refine (specStays _ _ _ _ _ _ _ _ x2 f2 HF.out HLF.out).mono ?_
  rw [HZ.out]
  rintro e w3 h3
  obtain ⟨rfl, hB3⟩ := h3.below
  clear h3
  have hz3 := hB3.size
  have x3 := (x2.below hB3).more hz3
  have f3 := (f2.below hB3).more hz3
  have HB3 := Lib.hid (HB2.out.trans (hB3.mono HB2.out.size))
  clear hB3 hz3 x2 f2
  go_wp2_with fail
  refine (specMapOk _ _ _ _ _ _ _ _ _ _ _ x3 x3 f3 HF.out HF.out HLF.out).mono ?_
  rw [HM.out]
  rintro e w4 h4
  obtain ⟨rfl, hB4⟩ := h4.below
  clear h4
  have hz4 := hB4.size
  have x4 := (x3.below hB4).more hz4
  have f4 := (f3.below hB4).more hz4
  have HB4 := Lib.hid (HB3.out.trans (hB4.mono HB3.out.size))
  clear hB4 hz4 x3 f3
  cases m with
  | false =>
    obtain rfl : z = false := by rw [← HZ.out]; unfold stysI; rw [HM.out]; rfl
    clear x4 f4
    go_wp2_with fail
    refine (alive_any _).mono ?_
    rintro e w5 ⟨rfl, hB5⟩
    have hz5 := hB5.size
    have HB5 := Lib.hid (HB4.out.trans (hB5.mono HB4.out.size))
    clear hB5 hz5 
    go_wp2_with fail
    go_ret
    exact ⟨rfl, HB5.out⟩
  | true =>
    have HBH : Hid (behI G G G f f = behL f f) := Lib.hid (behI_yes HM.out HM.out)
    have HZD : Hid (z = decide (behL f f = f)) := Lib.hid (by rw [← HZ.out]; exact stys_beh HM.out)
    have HBL : Hid ((behL f f).length = f.length) := Lib.hid (behL_length f f)
    clear hzz
    go_wp2_with fail
    refine (implBehind _ _ _ _ _ _ _ _ _ _ _ _ _ _ _ _ x4 x4 x4 f4 f4 HF.out HF.out HF.out HLF.out HLF.out).mono ?_
    rw [HBH.out]
    rintro e w5 ⟨b5, c5, ⟨rfl, hB5⟩, hO5⟩
    have q5 := hO5.ints
    clear hO5
    have hz5 := hB5.size
    have x5 := (x4.below hB5).more hz5
    have f5 := (f4.below hB5).more hz5
    have HB5 := Lib.hid (HB4.out.trans (hB5.mono HB4.out.size))
    clear hB5 hz5 x4 f4
    by_cases he : behL f f = f
    · obtain rfl : z = true := by rw [HZD.out, decide_eq_true he]
      rw [he] at q5 ⊢
      clear he
      go_wp2_with fail
      refine (sameS_same _ _ _ _ _ _ _ q5 f5 HLF.out).mono ?_
      rintro e w6 h6
      obtain ⟨rfl, hB6⟩ := h6.below
      clear h6
      have hz6 := hB6.size
      have x6 := (x5.below hB6).more hz6
      have f6 := (f5.below hB6).more hz6
      have q6 := (q5.below hB6).more hz6
      have HB6 := Lib.hid (HB5.out.trans (hB6.mono HB5.out.size))
      clear hB6 hz6 x5 f5 q5
      clear x6 f6 q6
      go_wp2_with fail
      refine (alive_any _).mono ?_
      rintro e w7 ⟨rfl, hB7⟩
      have hz7 := hB7.size
      have HB7 := Lib.hid (HB6.out.trans (hB7.mono HB6.out.size))
      clear hB7 hz7 
      go_wp2_with fail
      go_ret
      exact ⟨rfl, HB7.out⟩
    · obtain rfl : z = false := by rw [HZD.out, decide_eq_false he]
      have HNE := Lib.hid he
      have HSD := Lib.hid (sameS_diff b5 aF c5 cF (behL f f) f w5.heap.size w5 q5 f5 (by rw [HBL.out]; exact HLF.out) HBL.out.symm he)
      rw [HBL.out] at HSD
      rw [HBL.out]
      clear he
      go_wp2_with fail
      refine (HSD.out).mono ?_
      rintro e w6 h6
      obtain ⟨rfl, hB6⟩ := h6.below
      clear h6
      have hz6 := hB6.size
      have x6 := (x5.below hB6).more hz6
      have f6 := (f5.below hB6).more hz6
      have q6 := (q5.below hB6).more hz6
      have HB6 := Lib.hid (HB5.out.trans (hB6.mono HB5.out.size))
      clear hB6 hz6 x5 f5 q5
      clear x6 f6 q6
      go_wp2_with fail
      refine (alive_any _).mono ?_
      rintro e w7 ⟨rfl, hB7⟩
      have hz7 := hB7.size
      have HB7 := Lib.hid (HB6.out.trans (hB7.mono HB6.out.size))
      clear hB7 hz7 
      go_wp2_with fail
      go_ret
      exact ⟨rfl, HB7.out⟩

end Go.Proofs.Ytiappomfohnhoaa
