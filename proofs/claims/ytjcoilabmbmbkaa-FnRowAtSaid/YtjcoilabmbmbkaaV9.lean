/-
  The walk of the law of P16 (RowAt).
-/
import Derived.Test.YtjcoilabmbmbkaaD13
import Derived.Test.YtjcoilabmbmbkaaY5
import Derived.Test.YtjcoilabmbmbkaaYB
import Derived.Test.YtjcoilabmbmbkaaG1
import Derived.Test.YtjcoilabmbmbkaaZI
namespace Go.Proofs.Ytjcoilabmbmbkaa
open Go.RowKit Go.Shelf

set_option maxRecDepth 100000 in
set_option maxHeartbeats 8000000 in
theorem rowAt_any (a : Option Addr) (n c : Nat) (w : World) (hc : n ≤ c) (hl : n ≤ 9223372036854775807) (hy : Bytes w.heap.size w a n) :
    Calls Try.prog 4 #[.slice a n c] w (Ans (.bool true) w) := by
  by_cases hbign : 1048576 < n
  · go_enter Try.func4, Try.ntmps4
    go_wp2_with fail
    go_ret
    exact ⟨rfl, Below.refl _ _⟩
  go_enter Try.func4, Try.ntmps4
  go_wp2_with fail
  refine (drawRowAt_any a n c w (by omega) hc hy).mono ?_
  rintro e w1 ⟨a1, c1, H, a2, c2, G, s, rfl, ⟨hF, x1, hx4⟩, ⟨hF', y1, hy4⟩, hB⟩
  have HB1 := Lib.hid hB
  have HF := Lib.hid hF
  have HF' := Lib.hid hF'
  obtain ⟨zs, HZ, HZL⟩ : ∃ zs, Hid (rowAtI H G s = zs) ∧ Hid (zs.length ≤ 1048576) := ⟨_, rfl, rowAt_le⟩
  have hzl := HZL.out
  clear hB hF hF' hy
  go_wp2_with fail
  refine (implRowAt _ _ _ _ _ _ _ _ x1 y1 HF.out HF'.out).mono ?_
  rw [HZ.out]
  rintro e w2 ⟨b2, c2, ⟨rfl, hB2⟩, hO2⟩
  have f2 := hO2.ints
  clear hO2
  have hz2 := hB2.size
  have x2 := (x1.below hB2).more hz2
  have y2 := (y1.below hB2).more hz2
  have HB2 := Lib.hid (HB1.out.trans (hB2.mono HB1.out.size))
  clear hB2 hz2 x1 y1
  go_wp2_with fail
  refine (specRowAt _ _ _ _ _ _ _ _ _ x2 y2 (Nat.le_refl _) HF.out HF'.out).mono ?_
  rw [HZ.out]
  rintro e w3 ⟨b3, c3, ⟨rfl, hB3⟩, g3⟩
  have hz3 := hB3.size
  have x3 := (x2.below hB3).more hz3
  have y3 := (y2.below hB3).more hz3
  have f3 := (f2.below hB3).more hz3
  have HB3 := Lib.hid (HB2.out.trans (hB3.mono HB2.out.size))
  clear hB3 hz3 x2 y2 f2
  go_wp2_with fail
  refine (sameS_same _ _ _ _ _ _ _ f3 g3 HZL.out).mono ?_
  rintro e w4 h4
  obtain ⟨rfl, hB4⟩ := h4.below
  clear h4
  have hz4 := hB4.size
  have x4 := (x3.below hB4).more hz4
  have y4 := (y3.below hB4).more hz4
  have f4 := (f3.below hB4).more hz4
  have g4 := (g3.below hB4).more hz4
  have HB4 := Lib.hid (HB3.out.trans (hB4.mono HB3.out.size))
  clear hB4 hz4 x3 y3 f3 g3
  clear g4
  by_cases hyes : powOk H G = true ∧ 0 ≤ s ∧ s < ((H.length ^ G.length : Nat) : Int)
  · obtain ⟨hok, hs0, hs1⟩ := hyes
    obtain ⟨hH, hG, h9⟩ := powOk_of hok
    have hzs : zs = rowR H.length G.length s.toNat := HZ.out.symm.trans (rowAt_yes hok hs0 hs1)
    have hL : zs.length = G.length := by rw [hzs, rowR_length]
    have hG1 := hG.1
    have h0 : zs.length ≠ 0 := by omega
    have h1 : ((zs.length : Int) == 0) = false := by simp; intro e; rw [e] at h0; exact h0 rfl
    have h2 : ((zs.length : Int) == (G.length : Int)) = true := by rw [hL]; simp
    have hT := rowR_tells (M := H.length) hH.1 G.length s.toNat
    rw [← hzs] at hT
    have HNU : Hid (numAtI H G zs = s) := Lib.hid (by rw [numAt_yes hok (tells_yes hT), hzs, numR_rowR hH.1 _ _ (by omega)]; omega)
    have hss : (s == s) = true := by simp
    clear hok hs0 hs1 hH hG h9 hzs hL h0 hT
    go_wp2_with fail
    refine (implNumAt _ _ _ _ _ _ _ _ _ _ x4 y4 f4 HF.out HF'.out HZL.out).mono ?_
    rw [HNU.out]
    rintro e w5 ⟨rfl, hB5⟩
    have hz5 := hB5.size
    have x5 := (x4.below hB5).more hz5
    have y5 := (y4.below hB5).more hz5
    have f5 := (f4.below hB5).more hz5
    have HB5 := Lib.hid (HB4.out.trans (hB5.mono HB4.out.size))
    clear hB5 hz5 x4 y4 f4
    go_wp2_with fail
    go_ret
    exact ⟨rfl, HB5.out⟩
  · obtain rfl : zs = [] := HZ.out.symm.trans (rowAt_no hyes)
    clear hyes
    clear x4 y4 f4
    go_wp2_with fail
    refine (alive_any _).mono ?_
    rintro e w5 ⟨rfl, hB5⟩
    have hz5 := hB5.size
    have HB5 := Lib.hid (HB4.out.trans (hB5.mono HB4.out.size))
    clear hB5 hz5 
    go_wp2_with fail
    go_ret
    exact ⟨rfl, HB5.out⟩

end Go.Proofs.Ytjcoilabmbmbkaa
