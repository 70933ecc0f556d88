/-
  The walk of the law of P17 (NumberAt).
-/
import Derived.Test.YtjcoilabmbmbkaaD13
import Derived.Test.YtjcoilabmbmbkaaY5
import Derived.Test.YtjcoilabmbmbkaaYB
import Derived.Test.YtjcoilabmbmbkaaG1
import Derived.Test.YtjcoilabmbmbkaaZI
namespace Go.Proofs.Ytjcoilabmbmbkaa
open Go.RowKit Go.Shelf

set_option maxRecDepth 100000 in
set_option maxHeartbeats 8000000 in
theorem numberAt_any (a : Option Addr) (n c : Nat) (w : World) (hc : n ≤ c) (hl : n ≤ 9223372036854775807) (hy : Bytes w.heap.size w a n) :
    Calls Try.prog 5 #[.slice a n c] w (Ans (.bool true) w) := by
  by_cases hbign : 1048576 < n
  · go_enter Try.func5, Try.ntmps5
    go_wp2_with fail
    go_ret
    exact ⟨rfl, Below.refl _ _⟩
  go_enter Try.func5, Try.ntmps5
  go_wp2_with fail
  refine (drawNumberAt_any a n c w (by omega) hc hy).mono ?_
  rintro e w1 ⟨a1, c1, H, a2, c2, G, a3, c3, f, rfl, ⟨hF, x1, hx4⟩, ⟨hF', y1, hy4⟩, ⟨hlf, f1⟩, hB⟩
  have HB1 := Lib.hid hB
  have HF := Lib.hid hF
  have HF' := Lib.hid hF'
  have HLF := Lib.hid hlf
  obtain ⟨z, HZ⟩ : ∃ z, Hid (numAtI H G f = z) := ⟨_, rfl⟩
  have hzz : (z != z) = false := by simp
  clear hB hF hF' hy
  go_wp2_with fail
  refine (implNumAt _ _ _ _ _ _ _ _ _ _ x1 y1 f1 HF.out HF'.out HLF.out).mono ?_
  rw [HZ.out]
  rintro e w2 ⟨rfl, hB2⟩
  have hz2 := hB2.size
  have x2 := (x1.below hB2).more hz2
  have y2 := (y1.below hB2).more hz2
  have f2 := (f1.below hB2).more hz2
  have HB2 := Lib.hid (HB1.out.trans (hB2.mono HB1.out.size))
  clear hB2 hz2 x1 y1 f1
  go_wp2_with fail
  refine (specNumAt _ _ _ _ _ _ _ _ _ _ _ x2 y2 f2 (Nat.le_refl _) HF.out HF'.out HLF.out).mono ?_
  rw [HZ.out]
  rintro e w3 ⟨rfl, hB3⟩
  have hz3 := hB3.size
  have x3 := (x2.below hB3).more hz3
  have y3 := (y2.below hB3).more hz3
  have f3 := (f2.below hB3).more hz3
  have HB3 := Lib.hid (HB2.out.trans (hB3.mono HB2.out.size))
  clear hB3 hz3 x2 y2 f2
  by_cases hyes : powOk H G = true ∧ tellsI G.length H.length f = true
  · obtain ⟨hok, ht⟩ := hyes
    obtain ⟨hH, hG, h9⟩ := powOk_of hok
    have hT := (tells_iff _ _ _).1 ht
    obtain ⟨e1, e2⟩ := rowR_numR _ _ hT
    have hzv : z = (numR H.length f : Int) := HZ.out.symm.trans (numAt_yes hok ht)
    have HR : Hid (rowAtI H G z = f) := Lib.hid (by rw [hzv, rowAt_yes hok (by omega) (by omega), Int.toNat_natCast]; exact e1)
    have hz0 : ¬ z < 0 := by omega
    clear hok ht hH hG h9 hT e1 e2 hzv hzz
    go_wp2_with fail
    refine (implRowAt _ _ _ _ _ _ _ _ x3 y3 HF.out HF'.out).mono ?_
    rw [HR.out]
    rintro e w4 ⟨b4, c4, ⟨rfl, hB4⟩, hO4⟩
    have r4 := hO4.ints
    clear hO4
    have hz4 := hB4.size
    have x4 := (x3.below hB4).more hz4
    have y4 := (y3.below hB4).more hz4
    have f4 := (f3.below hB4).more hz4
    have HB4 := Lib.hid (HB3.out.trans (hB4.mono HB3.out.size))
    clear hB4 hz4 x3 y3 f3
    go_wp2_with fail
    refine (sameS_same _ _ _ _ _ _ _ r4 f4 HLF.out).mono ?_
    rintro e w5 h5
    obtain ⟨rfl, hB5⟩ := h5.below
    clear h5
    have hz5 := hB5.size
    have x5 := (x4.below hB5).more hz5
    have y5 := (y4.below hB5).more hz5
    have f5 := (f4.below hB5).more hz5
    have r5 := (r4.below hB5).more hz5
    have HB5 := Lib.hid (HB4.out.trans (hB5.mono HB4.out.size))
    clear hB5 hz5 x4 y4 f4 r4
    go_wp2_with fail
    go_ret
    exact ⟨rfl, HB5.out⟩
  · obtain rfl : z = -1 := HZ.out.symm.trans (numAt_no hyes)
    clear hyes hzz
    clear x3 y3 f3
    go_wp2_with fail
    refine (alive_any _).mono ?_
    rintro e w4 ⟨rfl, hB4⟩
    have hz4 := hB4.size
    have HB4 := Lib.hid (HB3.out.trans (hB4.mono HB3.out.size))
    clear hB4 hz4 
    go_wp2_with fail
    go_ret
    exact ⟨rfl, HB4.out⟩

end Go.Proofs.Ytjcoilabmbmbkaa
