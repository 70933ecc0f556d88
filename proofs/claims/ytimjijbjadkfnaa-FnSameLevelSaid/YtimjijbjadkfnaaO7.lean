/-
  The walk of the law of P67 (SameLevel).
-/
import Derived.Test.YtimjijbjadkfnaaK3
import Derived.Test.YtimjijbjadkfnaaZL
import Derived.Test.YtimjijbjadkfnaaM9
namespace Go.Proofs.Ytimjijbjadkfnaa
open Go.RowKit Go.Shelf

set_option maxRecDepth 100000 in
set_option maxHeartbeats 4000000 in
theorem sameLevel_any (a : Option Addr) (n c : Nat) (w : World) (hc : n ≤ c) (hl : n ≤ 9223372036854775807) (hy : Bytes w.heap.size w a n) :
    Calls Try.prog 7 #[.slice a n c] w (Ans (.bool true) w) := by
  by_cases hbig : 1048576 < n
  · go_enter Try.func7, Try.ntmps7
    go_wp2_with fail
    go_ret
    exact ⟨rfl, Below.refl _ _⟩
  go_enter Try.func7, Try.ntmps7
  go_wp2_with fail
  refine (drawSameLevel_any a n c w (by omega) hc hy).mono ?_
  rintro e w1 ⟨a1, c1, xss, a1', c1', yss, rfl, ⟨hF, x1, hx4⟩, ⟨hF', y1, hy4⟩, hB⟩
  have HB1 := Lib.hid hB
  have HF := Lib.hid hF
  have HF' := Lib.hid hF'
  have hlx := hF.1
  have hly := hF'.1
  obtain ⟨z, HZ⟩ : ∃ z, Hid (levelI xss yss = z) := ⟨_, rfl⟩
  have hzz : (z != z) = false := by simp
  have hze : (z == z) = true := by simp
  clear hB hF hF' hy
  go_wp2_with fail
  refine (implLevel _ _ _ _ _ _ _ x1 y1 HF.out HF'.out).mono ?_
  rw [HZ.out]
  rintro e w2 ⟨rfl, hB2⟩
  have hz2 := hB2.size
  have x2 := (x1.below hB2).more hz2
  have y2 := (y1.below hB2).more hz2
  have HB2 := Lib.hid (HB1.out.trans (hB2.mono HB1.out.size))
  clear hB2 hz2 x1 y1
  go_wp2_with fail
  refine (specLevel _ _ _ _ _ _ _ _ x2 y2 (Nat.le_refl _) HF.out HF'.out).mono ?_
  rw [HZ.out]
  rintro e w3 ⟨rfl, hB3⟩
  have hz3 := hB3.size
  have x3 := (x2.below hB3).more hz3
  have y3 := (y2.below hB3).more hz3
  have HB3 := Lib.hid (HB2.out.trans (hB3.mono HB2.out.size))
  clear hB3 hz3 x2 y2
  go_wp2_with fail
  refine (specOk_any _ _ _ _ _ x3 HF.out).mono ?_
  rintro e wq ⟨rfl, rfl⟩
  by_cases hg : gOk xss = true
  · rw [hg]
    go_wp2_with fail
    refine (specOk_any _ _ _ _ _ y3 HF'.out).mono ?_
    rintro e wq ⟨rfl, rfl⟩
    by_cases hg' : gOk yss = true
    · rw [hg']
      have HG := Lib.hid (good_of hg)
      have HG' := Lib.hid (good_of hg')
      have HS := Lib.hid (level_self hg hx4)
      go_wp2_with fail
      refine (implLevel _ _ _ _ _ _ _ y3 x3 HF'.out HF.out).mono ?_
      rw [level_comm, HZ.out]
      rintro e w4 ⟨rfl, hB4⟩
      have hz4 := hB4.size
      have x4 := (x3.below hB4).more hz4
      have y4 := (y3.below hB4).more hz4
      have HB4 := Lib.hid (HB3.out.trans (hB4.mono HB3.out.size))
      clear hB4 hz4 x3 y3
      go_wp2_with fail
      refine (implTurned _ _ xss _ x4 HF.out).mono ?_
      rintro e w5 ⟨b5, c5, ⟨rfl, hB5⟩, hO5⟩
      have tx5 := hO5.mat
      clear hO5
      have hz5 := hB5.size
      have x5 := (x4.below hB5).more hz5
      have y5 := (y4.below hB5).more hz5
      have HB5 := Lib.hid (HB4.out.trans (hB5.mono HB4.out.size))
      clear hB5 hz5 x4 y4
      go_wp2_with fail
      refine (implTurned _ _ yss _ y5 HF'.out).mono ?_
      rintro e w6 ⟨b6, c6, ⟨rfl, hB6⟩, hO6⟩
      have ty6 := hO6.mat
      clear hO6
      have hz6 := hB6.size
      have x6 := (x5.below hB6).more hz6
      have y6 := (y5.below hB6).more hz6
      have tx6 := (tx5.below hB6).more hz6
      have HB6 := Lib.hid (HB5.out.trans (hB6.mono HB5.out.size))
      clear hB6 hz6 x5 y5 tx5
      clear y6
      go_wp2_with fail
      refine (implLevel _ _ _ _ (turnedL xss) (turnedL yss) _ tx6 ty6 turned_fit turned_fit).mono ?_
      rw [level_turned HG.out HG'.out, HZ.out]
      rintro e w7 ⟨rfl, hB7⟩
      have hz7 := hB7.size
      have x7 := (x6.below hB7).more hz7
      have tx7 := (tx6.below hB7).more hz7
      have ty7 := (ty6.below hB7).more hz7
      have HB7 := Lib.hid (HB6.out.trans (hB7.mono HB6.out.size))
      clear hB7 hz7 x6 tx6 ty6
      go_wp2_with fail
      refine (implLevel _ _ _ _ _ _ _ x7 x7 HF.out HF.out).mono ?_
      rw [HS.out]
      rintro e w8 ⟨rfl, hB8⟩
      have hz8 := hB8.size
      have x8 := (x7.below hB8).more hz8
      have tx8 := (tx7.below hB8).more hz8
      have ty8 := (ty7.below hB8).more hz8
      have HB8 := Lib.hid (HB7.out.trans (hB8.mono HB7.out.size))
      clear hB8 hz8 x7 tx7 ty7
      go_wp2_with fail
      go_ret
      exact ⟨rfl, HB8.out⟩
    · have hn : gOk yss = false := by simpa using hg'
      obtain rfl : z = false := HZ.out.symm.trans (level_no2 hn)
      rw [hn]
      clear hg' hzz hze
      clear x3 y3
      go_wp2_with fail
      refine (alive_any _).mono ?_
      rintro e w4 ⟨rfl, hB4⟩
      have hz4 := hB4.size
      have HB4 := Lib.hid (HB3.out.trans (hB4.mono HB3.out.size))
      clear hB4 hz4 
      go_wp2_with fail
      go_ret
      exact ⟨rfl, HB4.out⟩
  · have hn : gOk xss = false := by simpa using hg
    obtain rfl : z = false := HZ.out.symm.trans (level_no1 hn)
    rw [hn]
    clear hg hzz hze
    clear x3 y3
    go_wp2_with fail
    refine (alive_any _).mono ?_
    rintro e w4 ⟨rfl, hB4⟩
    have hz4 := hB4.size
    have HB4 := Lib.hid (HB3.out.trans (hB4.mono HB3.out.size))
    clear hB4 hz4 
    go_wp2_with fail
    go_ret
    exact ⟨rfl, HB4.out⟩

end Go.Proofs.Ytimjijbjadkfnaa
