/-
  The walk of the law of P32 (ApartOk).
-/
import Derived.Test.YtdolpkjighbohaaD16
import Derived.Test.YtdolpkjighbohaaPA
import Derived.Test.YtdolpkjighbohaaWP
import Derived.Test.YtdolpkjighbohaaZE
import Derived.Test.YtdolpkjighbohaaG1
import Derived.Test.YtdolpkjighbohaaV20a
namespace Go.Proofs.Ytdolpkjighbohaa
open Go.RowKit Go.Shelf

set_option maxRecDepth 100000 in
set_option maxHeartbeats 8000000 in
theorem apartOk_any (a : Option Addr) (n c : Nat) (w : World) (hc : n ≤ c) (hl : n ≤ 9223372036854775807) (hy : Bytes w.heap.size w a n) :
    Calls Try.prog 8 #[.slice a n c] w (Ans (.bool true) w) := by
  by_cases hbign : 1048576 < n
  · go_enter Try.func8, Try.ntmps8
    go_wp2_with fail
    go_ret
    exact ⟨rfl, Below.refl _ _⟩
  go_enter Try.func8, Try.ntmps8
  go_wp2_with fail
  refine (drawApartOk_any a n c w (by omega) hc hy).mono ?_
  rintro e w1 ⟨aG, cG, G, aH, cH, H, aF, cF, f, rfl, ⟨hF, x1, hx4⟩, ⟨hFH, y1, hy4⟩, ⟨hlf, f1⟩, hB⟩
  have HB1 := Lib.hid hB
  have HF := Lib.hid hF
  have HFH := Lib.hid hFH
  have HLF := Lib.hid hlf
  obtain ⟨z, HZ⟩ : ∃ z, Hid (apaI G H f = z) := ⟨_, rfl⟩
  obtain ⟨m, HM⟩ : ∃ m, Hid (mapOkI G H f = m) := ⟨_, rfl⟩
  obtain ⟨ys, HY⟩ : ∃ ys, Hid (kbI G H f = ys) := ⟨_, rfl⟩
  have hzz : (z != z) = false := by simp
  clear hB hF hFH hy
  go_wp2_with fail
  refine (implApart _ _ _ _ _ _ _ _ _ _ x1 y1 f1 HF.out HFH.out HLF.out).mono ?_
  rw [HZ.out]
  rintro e w2 ⟨rfl, hB2⟩
  have hz2 := hB2.size
  have x2 := (x1.below hB2).more hz2
  have y2 := (y1.below hB2).more hz2
  have f2 := (f1.below hB2).more hz2
  have HB2 := Lib.hid (HB1.out.trans (hB2.mono HB1.out.size))
  clear hB2 hz2 x1 y1 f1
  go_wp2_with fail
  refine (specApart _ _ _ _ _ _ _ _ _ _ _ x2 y2 f2 HF.out HFH.out HLF.out).mono ?_
  rw [HZ.out]
  rintro e w3 h3
  obtain ⟨rfl, hB3⟩ := h3.below
  clear h3
  have hz3 := hB3.size
  have x3 := (x2.below hB3).more hz3
  have y3 := (y2.below hB3).more hz3
  have f3 := (f2.below hB3).more hz3
  have HB3 := Lib.hid (HB2.out.trans (hB3.mono HB2.out.size))
  clear hB3 hz3 x2 y2 f2
  go_wp2_with fail
  refine (implKby _ _ _ _ _ _ _ _ _ _ x3 y3 f3 HF.out HFH.out HLF.out).mono ?_
  rw [HY.out]
  rintro e w4 ⟨b4, c4, ⟨rfl, hB4⟩, hO4⟩
  have g4 := own_intsQ hO4
  clear hO4
  have hz4 := hB4.size
  have x4 := (x3.below hB4).more hz4
  have y4 := (y3.below hB4).more hz4
  have f4 := (f3.below hB4).more hz4
  have HB4 := Lib.hid (HB3.out.trans (hB4.mono HB3.out.size))
  clear hB4 hz4 x3 y3 f3
  cases m with
  | false =>
    obtain rfl : ys = [] := HY.out.symm.trans (kb_no HM.out)
    obtain rfl : z = false := by rw [← HZ.out]; unfold apaI; rw [HM.out]; rfl
    clear x4 y4 f4 g4
    go_wp2_with fail
    refine (alive_any _).mono ?_
    rintro e w5 ⟨rfl, hB5⟩
    have hz5 := hB5.size
    have HB5 := Lib.hid (HB4.out.trans (hB5.mono HB4.out.size))
    clear hB5 hz5 
    go_wp2_with fail
    go_ret
    exact ⟨rfl, HB5.out⟩
  | true =>
    have hys : ys = kbyL f := HY.out.symm.trans (kb_yes HM.out)
    obtain ⟨hfl, hf1, hf9⟩ := map_le HM.out
    have hyn : ys.length = f.length := by rw [hys, kby_length]
    have hyp : ((ys.length : Int) == 0) = false := len_ne6 (by omega)
    obtain ⟨b1, o1, v1, rfl, hb1, hc1, HV1⟩ := g4.at_ (show ys.length - 1 < ys.length by omega)
    have hoff : (ys.length : Int) - 1 = ((ys.length - 1 : Nat) : Int) := by omega
    have hzd : z = (v1 == (ys.length : Int) - 1) := by
      have h1 := kby_last6 hf1
      have h2 : (kbyL f)[f.length - 1]? = some v1 := by rw [← hys, ← hyn]; exact HV1.out
      rw [← HZ.out]
      unfold apaI
      rw [HM.out, Bool.true_and, Bool.eq_iff_iff, decide_eq_true_eq, beq_iff_eq, hyn]
      exact h1 v1 h2
    have hzz2 : (z == (v1 == (ys.length : Int) - 1)) = true := by rw [← hzd]; simp
    have HAR : Hid (z = true → arrowsI G ≤ arrowsI H) := Lib.hid fun h => apa_arrows (HZ.out.trans h)
    have hyn1 : ys.length ≤ f.length := by omega
    have hyn2 : f.length ≤ ys.length := by omega
    clear hzz hys hzd hyn hfl
    clear f4
    cases z with
    | false =>
      clear x4 y4 g4
      have hvn : ¬ v1 = ((ys.length - 1 : Nat) : Int) := fun e => by rw [e, ← hoff] at hzz2; simp at hzz2
      clear hzz2
      go_wp2_with fail
      go_ret
      exact ⟨ret_bool (by simp [hvn]), HB4.out⟩
    | true =>
      have har := HAR.out rfl
      have hve : v1 = ((ys.length - 1 : Nat) : Int) := by rw [← hoff]; simpa using hzz2
      subst hve
      clear hzz2
      obtain ⟨r, HR1⟩ : ∃ r, Hid (arrowsI G = r) := ⟨_, rfl⟩
      obtain ⟨s, HS1⟩ : ∃ s, Hid (arrowsI H = s) := ⟨_, rfl⟩
      rw [HR1.out, HS1.out] at har
      clear g4
      go_wp2_with fail
      refine (implArrows _ _ _ _ x4 HF.out).mono ?_
      rw [HR1.out]
      rintro e w5 ⟨rfl, hB5⟩
      have hz5 := hB5.size
      have x5 := (x4.below hB5).more hz5
      have y5 := (y4.below hB5).more hz5
      have HB5 := Lib.hid (HB4.out.trans (hB5.mono HB4.out.size))
      clear hB5 hz5 x4 y4
      go_wp2_with fail
      refine (implArrows _ _ _ _ y5 HFH.out).mono ?_
      rw [HS1.out]
      rintro e w6 ⟨rfl, hB6⟩
      have hz6 := hB6.size
      have x6 := (x5.below hB6).more hz6
      have y6 := (y5.below hB6).more hz6
      have HB6 := Lib.hid (HB5.out.trans (hB6.mono HB5.out.size))
      clear hB6 hz6 x5 y5
      clear x6 y6
      go_wp2_with fail
      go_ret
      exact ⟨rfl, HB6.out⟩

end Go.Proofs.Ytdolpkjighbohaa
