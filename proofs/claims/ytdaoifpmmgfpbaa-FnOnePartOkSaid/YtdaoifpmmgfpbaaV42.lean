/-
  The walk of the law of P51 (OnePartOk).
-/
import Derived.Test.YtdaoifpmmgfpbaaKM
import Derived.Test.YtdaoifpmmgfpbaaXB
import Derived.Test.YtdaoifpmmgfpbaaZA
import Derived.Test.YtdaoifpmmgfpbaaZJ
import Derived.Test.YtdaoifpmmgfpbaaWV
import Derived.Test.YtdaoifpmmgfpbaaWT
import Derived.Test.YtdaoifpmmgfpbaaXE
import Derived.Test.YtdaoifpmmgfpbaaZB
namespace Go.Proofs.Ytdaoifpmmgfpbaa
open Go.RowKit Go.Shelf

theorem bes_fitM (xss yss : List (List Int)) : Fit (besL xss yss) := by
  by_cases h : besOk xss yss = true
  · exact (bes_good h).fit
  · rw [besL_no (by simpa using h)]
    exact ⟨by simp, fun xs hx => by cases hx⟩

set_option maxRecDepth 100000 in
set_option maxHeartbeats 8000000 in
theorem onePartOk_any (a : Option Addr) (n c : Nat) (w : World) (hc : n ≤ c) (hl : n ≤ 9223372036854775807) (hy : Bytes w.heap.size w a n) :
    Calls Try.prog 6 #[.slice a n c] w (Ans (.bool true) w) := by
  by_cases hbign : 1048576 < n
  · go_enter Try.func6, Try.ntmps6
    go_wp2_with fail
    go_ret
    exact ⟨rfl, Below.refl _ _⟩
  go_enter Try.func6, Try.ntmps6
  go_wp2_with fail
  refine (drawOnePartOk_any a n c w (by omega) hc hy).mono ?_
  rintro e w1 ⟨aG, cG, G, rfl, ⟨hF, x1, hx5⟩, hB⟩
  have HB1 := Lib.hid hB
  have HF := Lib.hid hF
  obtain ⟨o, HO⟩ : ∃ o, Hid (oneI G = o) := ⟨_, rfl⟩
  obtain ⟨m, HM⟩ : ∃ m, Hid (gOk G = m) := ⟨_, rfl⟩
  have hoo : (o != o) = false := by simp
  have hoo2 : (o == o) = true := by simp
  clear hB hF hy
  go_wp2_with fail
  refine (implOnp _ _ _ _ x1 HF.out).mono ?_
  rw [HO.out]
  rintro e w2 ⟨rfl, hB2⟩
  have hz2 := hB2.size
  have x2 := (x1.below hB2).more hz2
  have HB2 := Lib.hid (HB1.out.trans (hB2.mono HB1.out.size))
  clear hB2 hz2 x1
  go_wp2_with fail
  refine (specOne _ _ _ _ _ x2 HF.out).mono ?_
  rw [HO.out]
  rintro e w3 h3
  obtain ⟨rfl, hB3⟩ := h3.below
  clear h3
  have hz3 := hB3.size
  have x3 := (x2.below hB3).more hz3
  have HB3 := Lib.hid (HB2.out.trans (hB3.mono HB2.out.size))
  clear hB3 hz3 x2
  go_wp2_with fail
  refine (specOk_any _ _ _ _ _ x3 HF.out).mono ?_
  rw [HM.out]
  rintro e wq ⟨rfl, rfl⟩
  cases m with
  | false =>
    obtain rfl : o = false := HO.out.symm.trans (one_no HM.out)
    clear x3
    go_wp2_with fail
    refine (alive_any _).mono ?_
    rintro e w4 ⟨rfl, hB4⟩
    have hz4 := hB4.size
    have HB4 := Lib.hid (HB3.out.trans (hB4.mono HB3.out.size))
    clear hB4 hz4 
    go_wp2_with fail
    go_ret
    exact ⟨rfl, HB4.out⟩
  | true =>
    have HT : Hid (oneI (turnedL G) = o) := Lib.hid ((one_turned HM.out).trans HO.out)
    have HW : Hid (oneI (bwL G) = o) := Lib.hid ((one_bw HM.out).trans HO.out)
    have HTF : Hid (Fit (turnedL G)) := Lib.hid (turned_good (good_of HM.out)).fit
    have HWF : Hid (Fit (bwL G)) := Lib.hid (bw_good HM.out).fit
    obtain ⟨y, HY⟩ : ∃ y, Hid (besOk G [[1]] = y) := ⟨_, rfl⟩
    obtain ⟨Z, HZ, HZF⟩ : ∃ Z, Hid (besL G [[1]] = Z) ∧ Hid (Fit Z) := ⟨_, rfl, bes_fitM _ _⟩
    have HN : Hid (y = true → oneI Z = false) := Lib.hid fun h => by rw [← HZ.out]; exact one_beside (HY.out.trans h)
    have HL1 : Hid (Fit [[(1 : Int)]]) := Lib.hid (good_of (show gOk [[(1 : Int)]] = true from rfl)).fit
    have l4 := litOne_mat 1 w3
    have HB4 := Lib.hid (HB3.out.trans ((litOne_below 1 w3).mono HB3.out.size))
    have x4 := (x3.below (litOne_below 1 w3)).more (litOne_below 1 w3).size
    obtain ⟨w4, hw4⟩ : ∃ w4, (w3.alloc (.cells #[.int .i64 1] 3)).alloc (.cells #[.slice (some ⟨w3.heap.size, 0, none⟩) 1 1] 31) = w4 := ⟨_, rfl⟩
    rw [hw4] at l4 HB4 x4
    have HBs := Lib.hid (implBeside _ _ cG 1 G [[1]] w4 x4 l4 HF.out HL1.out)
    rw [HZ.out, HY.out] at HBs
    clear x3 l4
    go_wp2_with fail
    refine HBs.out.mono ?_
    rintro e w5 ⟨b5, c5, ⟨rfl, hB5⟩, hO5⟩
    have y5 := hO5.mat
    clear hO5
    have hz5 := hB5.size
    have x5 := (x4.below hB5).more hz5
    have HB5 := Lib.hid (HB4.out.trans (hB5.mono HB4.out.size))
    clear hB5 hz5 x4 HBs hw4
    go_wp2_with fail
    refine (implTurned _ _ _ _ x5 HF.out).mono ?_
    rintro e w6 ⟨b6, c6, ⟨rfl, hB6⟩, hO6⟩
    have t6 := hO6.mat
    clear hO6
    have hz6 := hB6.size
    have x6 := (x5.below hB6).more hz6
    have y6 := (y5.below hB6).more hz6
    have HB6 := Lib.hid (HB5.out.trans (hB6.mono HB5.out.size))
    clear hB6 hz6 x5 y5
    go_wp2_with fail
    refine (implOnp _ _ _ _ t6 HTF.out).mono ?_
    rw [HT.out]
    rintro e w7 ⟨rfl, hB7⟩
    have hz7 := hB7.size
    have x7 := (x6.below hB7).more hz7
    have y7 := (y6.below hB7).more hz7
    have t7 := (t6.below hB7).more hz7
    have HB7 := Lib.hid (HB6.out.trans (hB7.mono HB6.out.size))
    clear hB7 hz7 x6 y6 t6
    clear t7
    go_wp2_with fail
    refine (implBw _ _ _ _ x7 HF.out).mono ?_
    rintro e w8 ⟨b8, c8, ⟨rfl, hB8⟩, hO8⟩
    have u8 := hO8.mat.mat
    clear hO8
    have hz8 := hB8.size
    have x8 := (x7.below hB8).more hz8
    have y8 := (y7.below hB8).more hz8
    have HB8 := Lib.hid (HB7.out.trans (hB8.mono HB7.out.size))
    clear hB8 hz8 x7 y7
    go_wp2_with fail
    refine (implOnp _ _ _ _ u8 HWF.out).mono ?_
    rw [HW.out]
    rintro e w9 ⟨rfl, hB9⟩
    have hz9 := hB9.size
    have x9 := (x8.below hB9).more hz9
    have y9 := (y8.below hB9).more hz9
    have u9 := (u8.below hB9).more hz9
    have HB9 := Lib.hid (HB8.out.trans (hB9.mono HB8.out.size))
    clear hB9 hz9 x8 y8 u8
    clear u9 x9
    cases y with
    | false =>
      clear y9
      go_wp2_with fail
      go_ret
      exact ⟨rfl, HB9.out⟩
    | true =>
      go_wp2_with fail
      refine (implOnp _ _ _ _ y9 HZF.out).mono ?_
      rw [HN.out (by simp)]
      rintro e w10 ⟨rfl, hB10⟩
      have hz10 := hB10.size
      have y10 := (y9.below hB10).more hz10
      have HB10 := Lib.hid (HB9.out.trans (hB10.mono HB9.out.size))
      clear hB10 hz10 y9
      clear y10
      go_wp2_with fail
      go_ret
      exact ⟨rfl, HB10.out⟩

end Go.Proofs.Ytdaoifpmmgfpbaa
