/-
  The walk of the law of P24 (CoreOk).
-/
import Derived.Test.YtiappomfohnhoaaD14
import Derived.Test.YtiappomfohnhoaaZV
import Derived.Test.YtiappomfohnhoaaZR
import Derived.Test.YtiappomfohnhoaaM7
import Derived.Test.YtiappomfohnhoaaG1
namespace Go.Proofs.Ytiappomfohnhoaa
open Go.RowKit Go.Shelf

set_option maxRecDepth 100000 in
set_option maxHeartbeats 8000000 in
theorem coreOk_any (a : Option Addr) (n c : Nat) (w : World) (hc : n ≤ c) (hl : n ≤ 9223372036854775807) (hy : Bytes w.heap.size w a n) :
    Calls Try.prog 4 #[.slice a n c] w (Ans (.bool true) w) := by
  by_cases hbign : 1048576 < n
  · go_enter Try.func4, Try.ntmps4
    go_wp2_with fail
    go_ret
    exact ⟨rfl, Below.refl _ _⟩
  go_enter Try.func4, Try.ntmps4
  go_wp2_with fail
  refine (drawCoreOk_any a n c w (by omega) hc hy).mono ?_
  rintro e w1 ⟨aG, cG, G, rfl, ⟨hF, x1, hx4⟩, hB⟩
  have HB1 := Lib.hid hB
  have HF := Lib.hid hF
  have hlG := hF.1
  obtain ⟨T, HT, HTF⟩ : ∃ T, Hid (corL G = T) ∧ Hid (Fit T) := ⟨_, rfl, cor_fit⟩
  obtain ⟨z, HZ⟩ : ∃ z, Hid (g5 G = z) := ⟨_, rfl⟩
  obtain ⟨k, HK⟩ : ∃ k, Hid (corOkI G = k) := ⟨_, rfl⟩
  have htl := HTF.out.1
  have hkk : (k != k) = false := by simp
  clear hB hF hy
  go_wp2_with fail
  refine (implCoreOk _ _ _ _ x1 HF.out).mono ?_
  rw [HK.out]
  rintro e w2 ⟨rfl, hB2⟩
  have hz2 := hB2.size
  have x2 := (x1.below hB2).more hz2
  have HB2 := Lib.hid (HB1.out.trans (hB2.mono HB1.out.size))
  clear hB2 hz2 x1
  go_wp2_with fail
  refine (specCoreOk _ _ _ _ _ x2 (Nat.le_refl _) HF.out).mono ?_
  rw [HK.out]
  rintro e w3 ⟨rfl, hB3⟩
  have hz3 := hB3.size
  have x3 := (x2.below hB3).more hz3
  have HB3 := Lib.hid (HB2.out.trans (hB3.mono HB2.out.size))
  clear hB3 hz3 x2
  go_wp2_with fail
  refine (implCoreOf _ _ _ _ x3 HF.out).mono ?_
  rw [HT.out, HZ.out]
  rintro e w4 ⟨b4, c4, ⟨rfl, hB4⟩, hO4⟩
  have t4 := hO4.mat
  clear hO4
  have hz4 := hB4.size
  have x4 := (x3.below hB4).more hz4
  have HB4 := Lib.hid (HB3.out.trans (hB4.mono HB3.out.size))
  clear hB4 hz4 x3
  clear t4
  cases z with
  | false =>
    obtain rfl : k = false := by rw [← HK.out]; unfold corOkI; rw [HZ.out]; rfl
    clear x4
    go_wp2_with fail
    refine (alive_any _).mono ?_
    rintro e w5 ⟨rfl, hB5⟩
    have hz5 := hB5.size
    have HB5 := Lib.hid (HB4.out.trans (hB5.mono HB4.out.size))
    clear hB5 hz5 
    go_wp2_with fail
    go_ret
    exact ⟨rfl, HB5.out⟩
  | true =>
    have hki : k = decide (T.length = G.length) := by rw [← HK.out, ← HT.out]; exact core_iff HZ.out
    have hkb : ((T.length : Int) == (G.length : Int)) = k := by
      rw [hki, Bool.eq_iff_iff]; simp; omega
    have HCN : Hid (k = true → countI G G = turI G) := Lib.hid fun h => core_turns (HK.out.trans h)
    have h2 : (k == k) = true := by simp
    clear hki hkk
    cases k with
    | false =>
      clear x4
      go_wp2_with fail
      refine (alive_any _).mono ?_
      rintro e w5 ⟨rfl, hB5⟩
      have hz5 := hB5.size
      have HB5 := Lib.hid (HB4.out.trans (hB5.mono HB4.out.size))
      clear hB5 hz5 
      go_wp2_with fail
      go_ret
      exact ⟨rfl, HB5.out⟩
    | true =>
      obtain ⟨r, HR⟩ : ∃ r, Hid (turI G = r) := ⟨_, rfl⟩
      have HC2 : Hid (countI G G = r) := Lib.hid (by rw [HCN.out (by trivial), HR.out])
      have hrr : (r == r) = true := by simp
      go_wp2_with fail
      refine (implCount _ _ _ _ _ _ _ x4 x4 HF.out HF.out).mono ?_
      rw [HC2.out]
      rintro e w5 ⟨rfl, hB5⟩
      have hz5 := hB5.size
      have x5 := (x4.below hB5).more hz5
      have HB5 := Lib.hid (HB4.out.trans (hB5.mono HB4.out.size))
      clear hB5 hz5 x4
      go_wp2_with fail
      refine (implTurns _ _ _ _ x5 HF.out).mono ?_
      rw [HR.out]
      rintro e w6 ⟨rfl, hB6⟩
      have hz6 := hB6.size
      have x6 := (x5.below hB6).more hz6
      have HB6 := Lib.hid (HB5.out.trans (hB6.mono HB5.out.size))
      clear hB6 hz6 x5
      clear x6
      go_wp2_with fail
      refine (alive_any _).mono ?_
      rintro e w7 ⟨rfl, hB7⟩
      have hz7 := hB7.size
      have HB7 := Lib.hid (HB6.out.trans (hB7.mono HB6.out.size))
      clear hB7 hz7 
      go_wp2_with fail
      go_ret
      exact ⟨rfl, HB7.out⟩

end Go.Proofs.Ytiappomfohnhoaa
