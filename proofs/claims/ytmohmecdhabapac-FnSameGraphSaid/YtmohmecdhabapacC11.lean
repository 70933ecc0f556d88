/-
  The walk of the law of P4 (SameGraph).
-/
import Derived.Test.YtmohmecdhabapacC10
import Derived.Test.YtmohmecdhabapacD10
import Derived.Test.YtmohmecdhabapacQ11
import Derived.Test.YtmohmecdhabapacG1
namespace Go.Proofs.Ytmohmecdhabapac
open Go.RowKit Go.Shelf

theorem own_capQ {W : World} {base k c : Nat} {a : Option Addr} {vs : List Value} (h : W.ownsRow base 3 1 (.slice a k c) k vs) : k ≤ c := by
  rcases h.2 with ⟨e, h0⟩ | ⟨g', cap, cur, e, _, _, hn, _⟩
  · omega
  · simp only [Value.slice.injEq] at e
    omega

set_option maxRecDepth 100000 in
set_option maxHeartbeats 4000000 in
theorem sameGraph_any (a : Option Addr) (n c : Nat) (w : World) (hc : n ≤ c) (hl : n ≤ 9223372036854775807) (hy : Bytes w.heap.size w a n) :
    Calls Try.prog 4 #[.slice a n c] w (Ans (.bool true) w) := by
  by_cases hbig : 1048576 < n
  · go_enter Try.func4, Try.ntmps4
    go_wp2_with fail
    go_ret
    exact ⟨rfl, Below.refl _ _⟩
  go_enter Try.func4, Try.ntmps4
  go_wp2_with fail
  refine (drawSame_any a n c w (by omega) hc hy).mono ?_
  rintro e w1 ⟨a1, c1, xss, a2, c2, yss, rfl, ⟨hF, x1⟩, ⟨hF', y1⟩, hB⟩
  have HB1 := Lib.hid hB
  have HF := Lib.hid hF
  have HF' := Lib.hid hF'
  have hlx := hF.1
  have hly := hF'.1
  obtain ⟨zs, HZ, HZL⟩ : ∃ zs, Hid ((sameGI xss yss).getD [] = zs) ∧ Hid (zs.length ≤ 1048576) := ⟨_, rfl, sameGI_le xss yss⟩
  have hzl := HZL.out
  obtain ⟨us, HU, HUL⟩ : ∃ us, Hid ((sameGI yss xss).getD [] = us) ∧ Hid (us.length ≤ 1048576) := ⟨_, rfl, sameGI_le yss xss⟩
  have hul := HUL.out
  obtain ⟨z, HK⟩ : ∃ z, Hid ((sameGI xss yss).isSome = z) := ⟨_, rfl⟩
  have hzz : (z != z) = false := by simp
  clear hB hF hF' hy
  go_wp2_with fail
  refine (implSame _ _ _ _ _ _ _ x1 y1 HF.out HF'.out).mono ?_
  rintro e w2 h2
  obtain ⟨b2, d2, ⟨he, hB2⟩, o2⟩ := h2
  rw [HZ.out, HK.out] at he
  rw [HZ.out] at o2
  subst he
  have hcap := own_capQ o2
  have f2 := own_intsQ o2
  clear o2
  have hz2 := hB2.size
  have x2 := (x1.below hB2).more hz2
  have y2 := (y1.below hB2).more hz2
  have HB2 := Lib.hid (HB1.out.trans (hB2.mono HB1.out.size))
  clear hB2 hz2 x1 y1
  go_wp2_with fail
  refine (specSame _ _ _ _ _ _ _ _ x2 y2 (Nat.le_refl _) HF.out HF'.out).mono ?_
  rintro e w3 h3
  obtain ⟨b3, d3, ⟨he, hB3⟩, o3⟩ := h3
  rw [HZ.out, HK.out] at he
  rw [HZ.out] at o3
  subst he
  have s3 := o3
  clear o3
  have hz3 := hB3.size
  have x3 := (x2.below hB3).more hz3
  have y3 := (y2.below hB3).more hz3
  have f3 := (f2.below hB3).more hz3
  have HB3 := Lib.hid (HB2.out.trans (hB3.mono HB2.out.size))
  clear hB3 hz3 x2 y2 f2
  go_wp2_with fail
  refine (sameS_same _ _ _ _ _ _ _ f3 s3 HZL.out).mono ?_
  rintro e w4 h4x
  obtain ⟨rfl, hB4⟩ := h4x.below
  clear h4x
  have hz4 := hB4.size
  have x4 := (x3.below hB4).more hz4
  have y4 := (y3.below hB4).more hz4
  have f4 := (f3.below hB4).more hz4
  have s4 := (s3.below hB4).more hz4
  have HB4 := Lib.hid (HB3.out.trans (hB4.mono HB3.out.size))
  clear hB4 hz4 x3 y3 f3 s3
  clear s4
  go_wp2_with fail
  refine (implSame _ _ _ _ _ _ _ y4 x4 HF'.out HF.out).mono ?_
  rintro e w5 h5
  obtain ⟨b5, d5, ⟨he, hB5⟩, o5⟩ := h5
  rw [HU.out, same_back, HK.out] at he
  rw [HU.out] at o5
  subst he
  clear o5
  have hz5 := hB5.size
  have x5 := (x4.below hB5).more hz5
  have y5 := (y4.below hB5).more hz5
  have f5 := (f4.below hB5).more hz5
  have HB5 := Lib.hid (HB4.out.trans (hB5.mono HB4.out.size))
  clear hB5 hz5 x4 y4 f4
  cases z with
  | false =>
    have h0 : zs = [] := by
      have := HK.out
      rw [Option.isSome_eq_false_iff, Option.isNone_iff_eq_none] at this
      rw [← HZ.out, this]; rfl
    subst h0
    clear x5 y5 f5
    go_wp2_with fail
    refine (alive_any _).mono ?_
    rintro e w6 ⟨rfl, hB6⟩
    have hz6 := hB6.size
    have HB6 := Lib.hid (HB5.out.trans (hB6.mono HB5.out.size))
    clear hB6 hz6 
    go_wp2_with fail
    go_ret
    exact ⟨rfl, HB6.out⟩
  | true =>
    have hk := same_some.1 HK.out
    have HTX := Lib.hid (Good.fit (turned_good (good_of hk.1.1)))
    have HTY := Lib.hid (Good.fit (turned_good (good_of hk.1.2.1)))
    have HE := Lib.hid (sameGI_turned HK.out)
    have HP : Hid (partL xss zs = yss) := Lib.hid (by
      obtain ⟨f, hf⟩ := Option.isSome_iff_exists.1 HK.out
      have := HZ.out
      rw [hf] at this
      rw [← this]; exact sameGI_found hf)
    have htx := HTX.out.1
    have hty := HTY.out.1
    clear hk
    go_wp2_with fail
    refine (implTurned _ _ _ _ x5 HF.out).mono ?_
    rintro e w6 ⟨b6, c6, ⟨rfl, hB6⟩, hO6⟩
    have t6 := hO6.mat
    clear hO6
    have hz6 := hB6.size
    have x6 := (x5.below hB6).more hz6
    have y6 := (y5.below hB6).more hz6
    have f6 := (f5.below hB6).more hz6
    have HB6 := Lib.hid (HB5.out.trans (hB6.mono HB5.out.size))
    clear hB6 hz6 x5 y5 f5
    go_wp2_with fail
    refine (implTurned _ _ _ _ y6 HF'.out).mono ?_
    rintro e w7 ⟨b7, c7, ⟨rfl, hB7⟩, hO7⟩
    have r7 := hO7.mat
    clear hO7
    have hz7 := hB7.size
    have x7 := (x6.below hB7).more hz7
    have y7 := (y6.below hB7).more hz7
    have f7 := (f6.below hB7).more hz7
    have t7 := (t6.below hB7).more hz7
    have HB7 := Lib.hid (HB6.out.trans (hB7.mono HB6.out.size))
    clear hB7 hz7 x6 y6 f6 t6
    go_wp2_with fail
    refine (implSame _ _ _ _ _ _ _ t7 r7 HTX.out HTY.out).mono ?_
    rintro e w8 h8
    obtain ⟨b8, d8, ⟨he, hB8⟩, o8⟩ := h8
    rw [HE.out, HZ.out, HK.out] at he
    rw [HE.out, HZ.out] at o8
    subst he
    have g8 := own_intsQ o8
    clear o8
    have hz8 := hB8.size
    have x8 := (x7.below hB8).more hz8
    have y8 := (y7.below hB8).more hz8
    have f8 := (f7.below hB8).more hz8
    have t8 := (t7.below hB8).more hz8
    have r8 := (r7.below hB8).more hz8
    have HB8 := Lib.hid (HB7.out.trans (hB8.mono HB7.out.size))
    clear hB8 hz8 x7 y7 f7 t7 r7
    clear t8 r8
    have HC := Lib.hid (implPart a1 _ c1 _ xss zs w8 x8 f8 hcap (by omega) HF.out)
    rw [HP.out] at HC
    go_wp2_with fail
    refine HC.out.mono ?_
    rintro e w9 ⟨b9, d9, ⟨rfl, hB9⟩, hO9⟩
    have p9 := hO9.mat
    clear hO9 HC
    have hz9 := hB9.size
    have x9 := (x8.below hB9).more hz9
    have y9 := (y8.below hB9).more hz9
    have f9 := (f8.below hB9).more hz9
    have g9 := (g8.below hB9).more hz9
    have HB9 := Lib.hid (HB8.out.trans (hB9.mono HB8.out.size))
    clear hB9 hz9 x8 y8 f8 g8
    go_wp2_with fail
    refine (sameSS_same _ _ _ _ _ _ _ p9 y9 HF'.out).mono ?_
    rintro e w10 h10x
    obtain ⟨rfl, hB10⟩ := h10x.below
    clear h10x
    have hz10 := hB10.size
    have x10 := (x9.below hB10).more hz10
    have y10 := (y9.below hB10).more hz10
    have f10 := (f9.below hB10).more hz10
    have g10 := (g9.below hB10).more hz10
    have p10 := (p9.below hB10).more hz10
    have HB10 := Lib.hid (HB9.out.trans (hB10.mono HB9.out.size))
    clear hB10 hz10 x9 y9 f9 g9 p9
    go_wp2_with fail
    refine (sameS_same _ _ _ _ _ _ _ g10 f10 HZL.out).mono ?_
    rintro e w11 h11x
    obtain ⟨rfl, hB11⟩ := h11x.below
    clear h11x
    have hz11 := hB11.size
    have x11 := (x10.below hB11).more hz11
    have y11 := (y10.below hB11).more hz11
    have f11 := (f10.below hB11).more hz11
    have g11 := (g10.below hB11).more hz11
    have p11 := (p10.below hB11).more hz11
    have HB11 := Lib.hid (HB10.out.trans (hB11.mono HB10.out.size))
    clear hB11 hz11 x10 y10 f10 g10 p10
    go_wp2_with fail
    go_ret
    exact ⟨rfl, HB11.out⟩

end Go.Proofs.Ytmohmecdhabapac
