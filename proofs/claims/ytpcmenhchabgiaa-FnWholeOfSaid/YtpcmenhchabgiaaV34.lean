/-
  The walk of the law of P41 (WholeOf).
-/
import Derived.Test.YtpcmenhchabgiaaWX
import Derived.Test.YtpcmenhchabgiaaZA
import Derived.Test.YtpcmenhchabgiaaZE
import Derived.Test.YtpcmenhchabgiaaZR
import Derived.Test.YtpcmenhchabgiaaWT
import Derived.Test.YtpcmenhchabgiaaZB
import Derived.Test.YtpcmenhchabgiaaVA
namespace Go.Proofs.Ytpcmenhchabgiaa
open Go.RowKit Go.Shelf

set_option maxRecDepth 100000 in
set_option maxHeartbeats 8000000 in
theorem wholeOf_any (a : Option Addr) (n c : Nat) (w : World) (hc : n ≤ c) (hl : n ≤ 9223372036854775807) (hy : Bytes w.heap.size w a n) :
    Calls Try.prog 3 #[.slice a n c] w (Ans (.bool true) w) := by
  by_cases hbign : 1048576 < n
  · go_enter Try.func3, Try.ntmps3
    go_wp2_with fail
    go_ret
    exact ⟨rfl, Below.refl _ _⟩
  go_enter Try.func3, Try.ntmps3
  go_wp2_with fail
  refine (drawWholeOf_any a n c w (by omega) hc hy).mono ?_
  rintro e w1 ⟨z, rfl, ⟨z0, z1⟩, hB⟩
  have HB1 := Lib.hid hB
  obtain ⟨P, HP, HPF⟩ : ∃ P, Hid (whoI z = P) ∧ Hid (Fit P) := ⟨_, rfl, (whoI_fit z).1⟩
  have hPl := HPF.out.1
  clear hB hy
  go_wp2_with fail
  refine (implWho z _).mono ?_
  rw [HP.out]
  rintro e w2 ⟨b2, c2, ⟨rfl, hB2⟩, hO2⟩
  have x2 := hO2.mat.mat
  clear hO2
  have hz2 := hB2.size
  have HB2 := Lib.hid (HB1.out.trans (hB2.mono HB1.out.size))
  clear hB2 hz2 
  go_wp2_with fail
  refine (specWhoR z _).mono ?_
  rw [HP.out]
  rintro e w3 ⟨b3, c3, ⟨rfl, hB3⟩, t3⟩
  have hz3 := hB3.size
  have x3 := (x2.below hB3).more hz3
  have HB3 := Lib.hid (HB2.out.trans (hB3.mono HB2.out.size))
  clear hB3 hz3 x2
  go_wp2_with fail
  refine (sameSS_same _ _ _ _ _ _ _ x3 t3 HPF.out).mono ?_
  rintro e w4 h4
  obtain ⟨rfl, hB4⟩ := h4.below
  clear h4
  have hz4 := hB4.size
  have x4 := (x3.below hB4).more hz4
  have t4 := (t3.below hB4).more hz4
  have HB4 := Lib.hid (HB3.out.trans (hB4.mono HB3.out.size))
  clear hB4 hz4 x3 t3
  clear t4
  by_cases hz : 1 ≤ z ∧ z ≤ 9
  · obtain ⟨n, rfl⟩ : ∃ n : Nat, z = (n : Int) := ⟨z.toNat, by omega⟩
    have hn1 : 1 ≤ n := by omega
    have hn9 : n ≤ 9 := by omega
    have hP : P = whoL n := HP.out.symm.trans (whoI_yes hn1 hn9)
    have HGK : Hid (gOk P = true) := Lib.hid (by rw [hP]; exact gOk_true (who_good hn1 hn9))
    obtain ⟨A, HA, ha0, ha1, hprod⟩ : ∃ A : Int, Hid (arrowsI P = A) ∧ 0 ≤ A ∧ A ≤ 72 ∧ (n : Int) * ((n : Int) - 1) = A := by
      have h := who_arrows (n - 1) (by omega)
      rw [show n - 1 + 1 = n by omega, ← hP] at h
      have e : ((n * (n - 1) : Nat) : Int) = (n : Int) * ((n : Int) - 1) := by
        rw [Int.natCast_mul, show ((n - 1 : Nat) : Int) = (n : Int) - 1 by omega]
      have h2 : n * (n - 1) ≤ 9 * 8 := Nat.mul_le_mul hn9 (by omega)
      refine ⟨_, rfl, ?_, ?_, ?_⟩
      · omega
      · omega
      · rw [← e, ← h]
    have HFW : Hid (n ≤ 4 → fwI P = (n : Int) ∧ fwK P = true ∧ corOkI P = true) := Lib.hid fun h4 => by
      have h := who_fw (n - 1) (by omega)
      rw [show n - 1 + 1 = n by omega, ← hP] at h
      have h5 : g4 P = true := g4_iff.2 ⟨HGK.out, by rw [hP, who_len]; exact h4⟩
      obtain ⟨e1, e2⟩ := fw_yesI h5 h.1
      exact ⟨e1, e2, h.2⟩
    have hlp : ((P.length : Int) == 0) = false := by rw [hP, who_len]; simp; omega
    clear hP hz
    by_cases h4 : (n : Int) ≤ 4
    · obtain ⟨e1, e2, e3⟩ := HFW.out (by omega)
      have HI := Lib.hid e1
      have HK := Lib.hid e2
      have HC := Lib.hid e3
      clear e1 e2 e3
      go_wp2_with fail
      refine (implFwst _ _ _ _ x4 HPF.out).mono ?_
      rw [HI.out, HK.out]
      rintro e w5 ⟨rfl, hB5⟩
      have hz5 := hB5.size
      have x5 := (x4.below hB5).more hz5
      have HB5 := Lib.hid (HB4.out.trans (hB5.mono HB4.out.size))
      clear hB5 hz5 x4
      go_wp2_with fail
      refine (implCoreOk _ _ _ _ x5 HPF.out).mono ?_
      rw [HC.out]
      rintro e w6 ⟨rfl, hB6⟩
      have hz6 := hB6.size
      have x6 := (x5.below hB6).more hz6
      have HB6 := Lib.hid (HB5.out.trans (hB6.mono HB5.out.size))
      clear hB6 hz6 x5
      go_wp2_with fail
      refine (implOk _ _ _ _ x6 HPF.out).mono ?_
      rw [HGK.out]
      rintro e w7 ⟨rfl, hB7⟩
      have hz7 := hB7.size
      have x7 := (x6.below hB7).more hz7
      have HB7 := Lib.hid (HB6.out.trans (hB7.mono HB6.out.size))
      clear hB7 hz7 x6
      go_wp2_with fail
      refine (implArrows _ _ _ _ x7 HPF.out).mono ?_
      rw [HA.out]
      rintro e w8 ⟨rfl, hB8⟩
      have hz8 := hB8.size
      have x8 := (x7.below hB8).more hz8
      have HB8 := Lib.hid (HB7.out.trans (hB8.mono HB7.out.size))
      clear hB8 hz8 x7
      clear x8
      go_wp2_with fail
      go_ret
      exact ⟨rfl, HB8.out⟩
    · go_wp2_with fail
      refine (implOk _ _ _ _ x4 HPF.out).mono ?_
      rw [HGK.out]
      rintro e w5 ⟨rfl, hB5⟩
      have hz5 := hB5.size
      have x5 := (x4.below hB5).more hz5
      have HB5 := Lib.hid (HB4.out.trans (hB5.mono HB4.out.size))
      clear hB5 hz5 x4
      go_wp2_with fail
      refine (implArrows _ _ _ _ x5 HPF.out).mono ?_
      rw [HA.out]
      rintro e w6 ⟨rfl, hB6⟩
      have hz6 := hB6.size
      have x6 := (x5.below hB6).more hz6
      have HB6 := Lib.hid (HB5.out.trans (hB6.mono HB5.out.size))
      clear hB6 hz6 x5
      clear x6
      go_wp2_with fail
      go_ret
      exact ⟨rfl, HB6.out⟩
  · obtain rfl : P = [] := HP.out.symm.trans (whoI_no hz)
    rcases (show z = 0 ∨ z = 10 by omega) with rfl | rfl
    · clear x4
      go_wp2_with fail
      refine (alive_any _).mono ?_
      rintro e w5 ⟨rfl, hB5⟩
      have hz5 := hB5.size
      have HB5 := Lib.hid (HB4.out.trans (hB5.mono HB4.out.size))
      clear hB5 hz5 
      go_wp2_with fail
      go_ret
      exact ⟨rfl, HB5.out⟩
    · clear x4
      go_wp2_with fail
      refine (alive_any _).mono ?_
      rintro e w5 ⟨rfl, hB5⟩
      have hz5 := hB5.size
      have HB5 := Lib.hid (HB4.out.trans (hB5.mono HB4.out.size))
      clear hB5 hz5 
      go_wp2_with fail
      go_ret
      exact ⟨rfl, HB5.out⟩

end Go.Proofs.Ytpcmenhchabgiaa
