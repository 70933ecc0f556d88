/-
  The walk of the law of P48 (TestAt).
-/
import Derived.Test.YtdaoifpmmgfpbaaKM
import Derived.Test.YtdaoifpmmgfpbaaXB
import Derived.Test.YtdaoifpmmgfpbaaZA
import Derived.Test.YtdaoifpmmgfpbaaXE
import Derived.Test.YtdaoifpmmgfpbaaZB
namespace Go.Proofs.Ytdaoifpmmgfpbaa
open Go.RowKit Go.Shelf

set_option maxRecDepth 100000 in
set_option maxHeartbeats 8000000 in
theorem testAt_any (a : Option Addr) (n c : Nat) (w : World) (hc : n ≤ c) (hl : n ≤ 9223372036854775807) (hy : Bytes w.heap.size w a n) :
    Calls Try.prog 3 #[.slice a n c] w (Ans (.bool true) w) := by
  by_cases hbign : 1048576 < n
  · go_enter Try.func3, Try.ntmps3
    go_wp2_with fail
    go_ret
    exact ⟨rfl, Below.refl _ _⟩
  go_enter Try.func3, Try.ntmps3
  go_wp2_with fail
  refine (drawTestAt_any a n c w (by omega) hc hy).mono ?_
  rintro e w1 ⟨z, rfl, ⟨z0, z1⟩, hB⟩
  have HB1 := Lib.hid hB
  obtain ⟨P, HP, HPF⟩ : ∃ P, Hid (tstI z = P) ∧ Hid (Fit P) := ⟨_, rfl, tst_fit⟩
  have hPl := HPF.out.1
  clear hB hy
  go_wp2_with fail
  refine (implTst z _).mono ?_
  rw [HP.out]
  rintro e w2 ⟨b2, c2, ⟨rfl, hB2⟩, hO2⟩
  have x2 := hO2.mat.mat
  clear hO2
  have hz2 := hB2.size
  have HB2 := Lib.hid (HB1.out.trans (hB2.mono HB1.out.size))
  clear hB2 hz2 
  go_wp2_with fail
  refine (specTst z _).mono ?_
  rw [HP.out]
  rintro e w3 ⟨b3, c3, ⟨rfl, hB3⟩, hO3⟩
  have t3 := hO3.mat
  clear hO3
  have hz3 := hB3.size
  have x3 := (x2.below hB3).more hz3
  have HB3 := Lib.hid (HB2.out.trans (hB3.mono HB2.out.size))
  clear hB3 hz3 x2
  go_wp2_with fail
  refine (sameSS_same _ _ _ _ _ _ _ x3 t3 HPF.out).mono ?_
  rintro e w4 h4
  obtain ⟨rfl, hB4⟩ := h4.below
  clear h4
  have hz4 := hB4.size
  have x4 := (x3.below hB4).more hz4
  have t4 := (t3.below hB4).more hz4
  have HB4 := Lib.hid (HB3.out.trans (hB4.mono HB3.out.size))
  clear hB4 hz4 x3 t3
  clear t4
  by_cases hz : 0 ≤ z ∧ z ≤ 17
  · obtain ⟨n, rfl⟩ : ∃ n : Nat, z = (n : Int) := ⟨z.toNat, by omega⟩
    have hn : n < 18 := by omega
    have hP : P = tstL n := HP.out.symm.trans (tst_yes hn)
    have HGK : Hid (gOk P = true) := Lib.hid (by rw [hP]; exact (tst_ok n hn).1)
    have hP1 : 1 ≤ P.length := by rw [hP]; exact tst_len hn
    have hP2 : P.length ≤ 2 := by rw [hP]; exact (tst_ok n hn).2
    have HNe : Hid (∀ k, k < n → tstI (k : Int) ≠ P) := Lib.hid fun k hk => by rw [hP, tst_yes (by omega)]; exact tst_ne n hn k hk
    have d2 : decide ((P.length : Int) ≤ 2) = true := decide_eq_true (by omega)
    have d0 : ((P.length : Int) == 0) = false := beq_eq_false_iff_ne.2 (by omega)
    clear hP hz
    go_wp2_with fail
    go_loopw [5] (fun i wr => ∃ k : Nat, k ≤ n ∧ i = .int .i64 k ∧ Mat wr.heap.size wr b2 P ∧ Below w.heap.size w wr) (fun i _ => n - (intOf i).toNat)
    case atStart => exact ⟨0, Nat.zero_le _, rfl, x4, HB4.out⟩
    case round =>
      obtain ⟨k, hk, rfl, xr, hB⟩ := hrel
      have HBr := Lib.hid hB
      clear x4
      by_cases hlt : k < n
      · have HC := Lib.hid (implTst (k : Int) wr)
        obtain ⟨Q, HQ, HQF⟩ : ∃ Q, Hid (tstI (k : Int) = Q) ∧ Hid (Fit Q) := ⟨_, rfl, tst_fit⟩
        have HQN : Hid (Q ≠ P) := Lib.hid (by rw [← HQ.out]; exact HNe.out k hlt)
        rw [HQ.out] at HC
        go_wp2_with fail
        refine HC.out.mono ?_
        rintro e w5 ⟨b5, c5, ⟨rfl, hB5⟩, hO5⟩
        have hz5 := hB5.size
        have x5 := (xr.below hB5).more hz5
        have HU := Lib.hid (sameSS_unlike _ _ c5 c2 Q P _ w5 hO5.mat.mat x5 HQF.out HPF.out HQN.out)
        have HB5 := Lib.hid (HBr.out.trans (hB5.mono HBr.out.size))
        clear hB5 hO5 HC xr hz5
        go_wp2_with fail
        refine HU.out.mono ?_
        rintro e w6 h6
        obtain ⟨rfl, hB6⟩ := h6.below
        have x6 := (x5.below hB6).more hB6.size
        have hB7 := HB5.out.trans (hB6.mono HB5.out.size)
        clear h6 hB6 x5
        go_wp2_with fail
        go_roundw
        case rel => exact ⟨k + 1, by omega, by go_num, x6, hB7⟩
        case measure => simp [intOf]; omega
      · obtain rfl : k = n := by omega
        have HC := Lib.hid (implOk b2 c2 P wr xr HPF.out)
        rw [HGK.out] at HC
        go_wp2_with fail
        refine HC.out.mono ?_
        rintro e w5 ⟨rfl, hB5⟩
        have hB6 := HBr.out.trans (hB5.mono HBr.out.size)
        go_wp2_with fail
        go_ret
        exact ⟨rfl, hB6⟩
  · obtain rfl : P = [] := HP.out.symm.trans (tst_no hz)
    rcases (show z = -1 ∨ z = 18 by omega) with rfl | rfl
    · clear x4
      go_wp2_with fail
      refine (alive_any _).mono ?_
      rintro e w5 ⟨rfl, hB5⟩
      have hz5 := hB5.size
      have HB5 := Lib.hid (HB4.out.trans (hB5.mono HB4.out.size))
      clear hB5 hz5 
      go_wp2_with fail
      go_ret
      exact ⟨rfl, HB5.out⟩
    · clear x4
      go_wp2_with fail
      refine (alive_any _).mono ?_
      rintro e w5 ⟨rfl, hB5⟩
      have hz5 := hB5.size
      have HB5 := Lib.hid (HB4.out.trans (hB5.mono HB4.out.size))
      clear hB5 hz5 
      go_wp2_with fail
      go_ret
      exact ⟨rfl, HB5.out⟩

end Go.Proofs.Ytdaoifpmmgfpbaa
