/-
  The walk of the law of P35 (LineOf).
-/
import Derived.Test.YtkkifphpogfjfaaWC
import Derived.Test.YtkkifphpogfjfaaZA
import Derived.Test.YtkkifphpogfjfaaZE
import Derived.Test.YtkkifphpogfjfaaM7
import Derived.Test.YtkkifphpogfjfaaWQ
import Derived.Test.YtkkifphpogfjfaaG1
import Derived.Test.YtkkifphpogfjfaaWB
namespace Go.Proofs.Ytkkifphpogfjfaa
open Go.RowKit Go.Shelf

set_option maxRecDepth 100000 in
set_option maxHeartbeats 8000000 in
theorem lineOf_any (a : Option Addr) (n c : Nat) (w : World) (hc : n ≤ c) (hl : n ≤ 9223372036854775807) (hy : Bytes w.heap.size w a n) :
    Calls Try.prog 4 #[.slice a n c] w (Ans (.bool true) w) := by
  by_cases hbign : 1048576 < n
  · go_enter Try.func4, Try.ntmps4
    go_wp2_with fail
    go_ret
    exact ⟨rfl, Below.refl _ _⟩
  go_enter Try.func4, Try.ntmps4
  go_wp2_with fail
  refine (drawLineOf_any a n c w (by omega) hc hy).mono ?_
  rintro e w1 ⟨z, rfl, ⟨z0, z1⟩, hB⟩
  have HB1 := Lib.hid hB
  obtain ⟨P, HP, HPF⟩ : ∃ P, Hid (linI z = P) ∧ Hid (Fit P) := ⟨_, rfl, linI_fit⟩
  have hPl := HPF.out.1
  clear hB hy
  go_wp2_with fail
  refine (implLin z _).mono ?_
  rw [HP.out]
  rintro e w2 ⟨b2, c2, ⟨rfl, hB2⟩, hO2⟩
  have x2 := hO2.mat.mat
  clear hO2
  have hz2 := hB2.size
  have HB2 := Lib.hid (HB1.out.trans (hB2.mono HB1.out.size))
  clear hB2 hz2 
  go_wp2_with fail
  refine (specLinR z _).mono ?_
  rw [HP.out]
  rintro e w3 ⟨b3, c3, ⟨rfl, hB3⟩, t3⟩
  have hz3 := hB3.size
  have x3 := (x2.below hB3).more hz3
  have HB3 := Lib.hid (HB2.out.trans (hB3.mono HB2.out.size))
  clear hB3 hz3 x2
  go_wp2_with fail
  refine (sameSS_same _ _ _ _ _ _ _ x3 t3 HPF.out).mono ?_
  rintro e w4 h4
  obtain ⟨rfl, hB4⟩ := h4.below
  clear h4
  have hz4 := hB4.size
  have x4 := (x3.below hB4).more hz4
  have t4 := (t3.below hB4).more hz4
  have HB4 := Lib.hid (HB3.out.trans (hB4.mono HB3.out.size))
  clear hB4 hz4 x3 t3
  clear t4
  by_cases hz : 1 ≤ z ∧ z ≤ 9
  · obtain ⟨n, rfl⟩ : ∃ n : Nat, z = (n : Int) := ⟨z.toNat, by omega⟩
    have hn1 : 1 ≤ n := by omega
    have hn9 : n ≤ 9 := by omega
    have hP : P = linL n := HP.out.symm.trans (linI_yes hn1 hn9)
    have HGK : Hid (gOk P = true) := Lib.hid (by rw [hP]; exact gOk_true (lin_good hn1 hn9))
    obtain ⟨A, HA, ha0, ha1, hprod⟩ : ∃ A : Int, Hid (arrowsI P = A) ∧ 0 ≤ A ∧ A ≤ 36 ∧ (n : Int) * ((n : Int) - 1) = 2 * A := by
      have h := lin_arrows (n - 1) (by omega)
      rw [show n - 1 + 1 = n by omega, ← hP] at h
      have e : ((n * (n - 1) : Nat) : Int) = (n : Int) * ((n : Int) - 1) := by
        rw [Int.natCast_mul, show ((n - 1 : Nat) : Int) = (n : Int) - 1 by omega]
      have h2 : n * (n - 1) ≤ 9 * 8 := Nat.mul_le_mul hn9 (by omega)
      refine ⟨_, rfl, ?_, ?_, ?_⟩
      · omega
      · omega
      · rw [← e, ← h]
    have HB1' : Hid (n ≤ 4 → belowI (patL n) P = true ∧ belowI (patL (n + 1)) P = false) := Lib.hid fun h4 => by rw [hP]; exact lin_path hn1 h4
    have hlp : ((P.length : Int) == 0) = false := by rw [hP, lin_len]; simp; omega
    clear hP hz
    go_wp2_with fail
    refine (implOk _ _ _ _ x4 HPF.out).mono ?_
    rw [HGK.out]
    rintro e w5 ⟨rfl, hB5⟩
    have hz5 := hB5.size
    have x5 := (x4.below hB5).more hz5
    have HB5 := Lib.hid (HB4.out.trans (hB5.mono HB4.out.size))
    clear hB5 hz5 x4
    go_wp2_with fail
    refine (implArrows _ _ _ _ x5 HPF.out).mono ?_
    rw [HA.out]
    rintro e w6 ⟨rfl, hB6⟩
    have hz6 := hB6.size
    have x6 := (x5.below hB6).more hz6
    have HB6 := Lib.hid (HB5.out.trans (hB6.mono HB5.out.size))
    clear hB6 hz6 x5
    by_cases h4 : (4 : Int) < (n : Int)
    · clear x6
      go_wp2_with fail
      go_ret
      exact ⟨rfl, HB6.out⟩
    · have HP1 : Hid (patI (n : Int) = patL n) := Lib.hid (patI_yes hn1 hn9)
      have HP2 : Hid (patI ((n : Int) + 1) = patL (n + 1)) := Lib.hid (by
        have h := patI_yes (n := n + 1) (by omega) (by omega)
        rwa [show ((n + 1 : Nat) : Int) = (n : Int) + 1 by omega] at h)
      have HF1 : Hid (Fit (patL n)) := Lib.hid (pat_good hn1 hn9).fit
      have HF2 : Hid (Fit (patL (n + 1))) := Lib.hid (pat_good (by omega) (by omega)).fit
      obtain ⟨HBa, HBb⟩ : Hid (belowI (patL n) P = true) ∧ Hid (belowI (patL (n + 1)) P = false) := HB1'.out (by omega)
      obtain ⟨Q, HQ⟩ : ∃ Q, Hid (patL n = Q) := ⟨_, rfl⟩
      obtain ⟨R, HR⟩ : ∃ R, Hid (patL (n + 1) = R) := ⟨_, rfl⟩
      rw [HQ.out] at HP1 HF1 HBa
      rw [HR.out] at HP2 HF2 HBb
      clear HQ HR
      go_wp2_with fail
      refine (implPat (n : Int) _).mono ?_
      rw [HP1.out]
      rintro e w7 ⟨b7, c7, ⟨rfl, hB7⟩, hO7⟩
      have p7 := hO7.mat.mat
      clear hO7
      have hz7 := hB7.size
      have x7 := (x6.below hB7).more hz7
      have HB7 := Lib.hid (HB6.out.trans (hB7.mono HB6.out.size))
      clear hB7 hz7 x6
      go_wp2_with fail
      refine (implBelow _ _ _ _ _ _ _ p7 x7 HF1.out HPF.out).mono ?_
      rw [HBa.out]
      rintro e w8 ⟨rfl, hB8⟩
      have hz8 := hB8.size
      have x8 := (x7.below hB8).more hz8
      have p8 := (p7.below hB8).more hz8
      have HB8 := Lib.hid (HB7.out.trans (hB8.mono HB7.out.size))
      clear hB8 hz8 x7 p7
      clear p8
      go_wp2_with fail
      refine (implPat ((n : Int) + 1) _).mono ?_
      rw [HP2.out]
      rintro e w9 ⟨b9, c9, ⟨rfl, hB9⟩, hO9⟩
      have q9 := hO9.mat.mat
      clear hO9
      have hz9 := hB9.size
      have x9 := (x8.below hB9).more hz9
      have HB9 := Lib.hid (HB8.out.trans (hB9.mono HB8.out.size))
      clear hB9 hz9 x8
      go_wp2_with fail
      refine (implBelow _ _ _ _ _ _ _ q9 x9 HF2.out HPF.out).mono ?_
      rw [HBb.out]
      rintro e w10 ⟨rfl, hB10⟩
      have hz10 := hB10.size
      have x10 := (x9.below hB10).more hz10
      have q10 := (q9.below hB10).more hz10
      have HB10 := Lib.hid (HB9.out.trans (hB10.mono HB9.out.size))
      clear hB10 hz10 x9 q9
      clear x10 q10
      go_wp2_with fail
      go_ret
      exact ⟨rfl, HB10.out⟩
  · obtain rfl : P = [] := HP.out.symm.trans (linI_no hz)
    rcases (show z = 0 ∨ z = 10 by omega) with rfl | rfl
    · clear x4
      go_wp2_with fail
      refine (alive_any _).mono ?_
      rintro e w5 ⟨rfl, hB5⟩
      have hz5 := hB5.size
      have HB5 := Lib.hid (HB4.out.trans (hB5.mono HB4.out.size))
      clear hB5 hz5 
      go_wp2_with fail
      go_ret
      exact ⟨rfl, HB5.out⟩
    · clear x4
      go_wp2_with fail
      refine (alive_any _).mono ?_
      rintro e w5 ⟨rfl, hB5⟩
      have hz5 := hB5.size
      have HB5 := Lib.hid (HB4.out.trans (hB5.mono HB4.out.size))
      clear hB5 hz5 
      go_wp2_with fail
      go_ret
      exact ⟨rfl, HB5.out⟩

end Go.Proofs.Ytkkifphpogfjfaa
