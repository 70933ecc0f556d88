/-
  The walk of the law of P47 (ShortestWay).
-/
import Derived.Test.YtpcmenhchabgiaaWX
import Derived.Test.YtpcmenhchabgiaaWU
import Derived.Test.YtpcmenhchabgiaaWT
import Derived.Test.YtpcmenhchabgiaaZB
import Derived.Test.YtpcmenhchabgiaaVA
namespace Go.Proofs.Ytpcmenhchabgiaa
open Go.RowKit Go.Shelf

set_option maxRecDepth 100000 in
set_option maxHeartbeats 8000000 in
theorem shortestWay_any (a : Option Addr) (n c : Nat) (w : World) (hc : n ≤ c) (hl : n ≤ 9223372036854775807) (hy : Bytes w.heap.size w a n) :
    Calls Try.prog 9 #[.slice a n c] w (Ans (.bool true) w) := by
  by_cases hbign : 1048576 < n
  · go_enter Try.func9, Try.ntmps9
    go_wp2_with fail
    go_ret
    exact ⟨rfl, Below.refl _ _⟩
  go_enter Try.func9, Try.ntmps9
  go_wp2_with fail
  refine (drawShortestWay_any a n c w (by omega) hc hy).mono ?_
  rintro e w1 ⟨aG, cG, G, rfl, ⟨hF, x1, hx4⟩, hB⟩
  have HB1 := Lib.hid hB
  have HF := Lib.hid hF
  obtain ⟨m, HM⟩ : ∃ m, Hid (fwK G = m) := ⟨_, rfl⟩
  obtain ⟨z, HI⟩ : ∃ z, Hid (fwI G = z) := ⟨_, rfl⟩
  have HSI : Hid (swI G = z) := Lib.hid ((sw_fw G).1.trans HI.out)
  have HSK : Hid (swK G = m) := Lib.hid ((sw_fw G).2.trans HM.out)
  have hmm : (m != m) = false := by simp
  have hzz : (z != z) = false := by simp
  have hmm2 : (m == m) = true := by simp
  have hzz2 : (z == z) = true := by simp
  clear hB hF hy
  go_wp2_with fail
  refine (implSw _ _ _ _ x1 HF.out).mono ?_
  rw [HSI.out, HSK.out]
  rintro e w2 ⟨rfl, hB2⟩
  have hz2 := hB2.size
  have x2 := (x1.below hB2).more hz2
  have HB2 := Lib.hid (HB1.out.trans (hB2.mono HB1.out.size))
  clear hB2 hz2 x1
  go_wp2_with fail
  refine (specSw _ _ _ _ _ x2 (Nat.le_refl _) HF.out).mono ?_
  rw [HSI.out, HSK.out]
  rintro e w3 ⟨rfl, hB3⟩
  have hz3 := hB3.size
  have x3 := (x2.below hB3).more hz3
  have HB3 := Lib.hid (HB2.out.trans (hB3.mono HB2.out.size))
  clear hB3 hz3 x2
  go_wp2_with fail
  refine (implFwst _ _ _ _ x3 HF.out).mono ?_
  rw [HI.out, HM.out]
  rintro e w4 ⟨rfl, hB4⟩
  have hz4 := hB4.size
  have x4 := (x3.below hB4).more hz4
  have HB4 := Lib.hid (HB3.out.trans (hB4.mono HB3.out.size))
  clear hB4 hz4 x3
  cases m with
  | false =>
    obtain rfl : z = -1 := HI.out.symm.trans (fw_noI HM.out)
    clear x4
    go_wp2_with fail
    refine (alive_any _).mono ?_
    rintro e w5 ⟨rfl, hB5⟩
    have hz5 := hB5.size
    have HB5 := Lib.hid (HB4.out.trans (hB5.mono HB4.out.size))
    clear hB5 hz5 
    go_wp2_with fail
    go_ret
    exact ⟨rfl, HB5.out⟩
  | true =>
    clear x4
    go_wp2_with fail
    refine (alive_any _).mono ?_
    rintro e w5 ⟨rfl, hB5⟩
    have hz5 := hB5.size
    have HB5 := Lib.hid (HB4.out.trans (hB5.mono HB4.out.size))
    clear hB5 hz5 
    go_wp2_with fail
    go_ret
    exact ⟨rfl, HB5.out⟩

end Go.Proofs.Ytpcmenhchabgiaa
