/-
  The walk of the law of P10 (TimesOf).
-/
import Derived.Test.YtimjijbjadkfnaaZP
import Derived.Test.YtimjijbjadkfnaaT2
import Derived.Test.YtimjijbjadkfnaaZS
import Derived.Test.YtimjijbjadkfnaaM7
import Derived.Test.YtimjijbjadkfnaaZE
import Derived.Test.YtimjijbjadkfnaaG1
import Derived.Test.YtimjijbjadkfnaaZM
namespace Go.Proofs.Ytimjijbjadkfnaa
open Go.RowKit Go.Shelf

theorem Bytes.belowT {n₀ n₁ n : Nat} {A B : World} {a : Option Addr} (h : Bytes n₀ A a n) (hb : Below n₀ A B) (hn : n₀ ≤ n₁) : Bytes n₁ B a n := fun h0 => by
  obtain ⟨b, o, e, hlt, hc⟩ := h.keep (B := B) (fun p hp => hb.cell hp) h0
  exact ⟨b, o, e, Nat.lt_of_lt_of_le hlt hn, hc⟩
theorem countI_small {G H : List (List Int)} (h : fewI G H = true) : 0 ≤ countI G H ∧ countI G H ≤ 7000 := by
  rw [countI_yes h]; have := mapsL_le G H; omega
theorem arrowsI_few {G : List (List Int)} (h : Good G) : 0 ≤ arrowsI G ∧ arrowsI G ≤ 81 := by
  rw [arrowsI_yes (gOk_true h)]
  have h1 := AL_le G
  have h2 := sq_le h.2.1
  omega
theorem mul_bound {a b m : Int} (h0 : 0 ≤ a) (h1 : a ≤ m) (h2 : 0 ≤ b) (h3 : b ≤ m) : 0 ≤ a * b ∧ a * b ≤ m * m :=
  ⟨Int.mul_nonneg h0 h2, Int.mul_le_mul h1 h3 h2 (by omega)⟩

set_option maxRecDepth 100000 in
set_option maxHeartbeats 8000000 in
theorem timesOf_any (a : Option Addr) (n c : Nat) (b : Option Addr) (m d : Nat) (w : World) (hc : n ≤ c) (hl : n ≤ 9223372036854775807) (hy : Bytes w.heap.size w a n) (hd : m ≤ d) (hl' : m ≤ 9223372036854775807) (hy' : Bytes w.heap.size w b m) :
    Calls Try.prog 8 #[.slice a n c, .slice b m d] w (Ans (.bool true) w) := by
  by_cases hbign : 1048576 < n
  · go_enter Try.func8, Try.ntmps8
    go_wp2_with fail
    go_ret
    exact ⟨rfl, Below.refl _ _⟩
  by_cases hbigm : 1048576 < m
  · go_enter Try.func8, Try.ntmps8
    go_wp2_with fail
    go_ret
    exact ⟨rfl, Below.refl _ _⟩
  go_enter Try.func8, Try.ntmps8
  go_wp2_with fail
  refine (drawTimesOf_any a n c w (by omega) hc hy).mono ?_
  rintro e w1 ⟨a1, c1, G, a2, c2, H, rfl, ⟨hF, x1, hx4⟩, ⟨hF', y1, hy4⟩, hB⟩
  have HB1 := Lib.hid hB
  have HF := Lib.hid hF
  have HF' := Lib.hid hF'
  have HY' := Lib.hid hy'
  obtain ⟨T, HT, HTF⟩ : ∃ T, Hid (timL G H = T) ∧ Hid (Fit T) := ⟨_, rfl, tim_fit⟩
  obtain ⟨z, HZ⟩ : ∃ z, Hid (timOk G H = z) := ⟨_, rfl⟩
  have htl := HTF.out.1
  have hzz : (z != z) = false := by simp
  clear hB hF hF' hy hy' 
  go_wp2_with fail
  refine (implTimes _ _ _ _ _ _ _ x1 y1 HF.out HF'.out).mono ?_
  rw [HT.out, HZ.out]
  rintro e w2 ⟨b2, c2, ⟨rfl, hB2⟩, hO2⟩
  have t2 := hO2.mat
  clear hO2
  have hz2 := hB2.size
  have x2 := (x1.below hB2).more hz2
  have y2 := (y1.below hB2).more hz2
  have HB2 := Lib.hid (HB1.out.trans (hB2.mono HB1.out.size))
  clear hB2 hz2 x1 y1
  go_wp2_with fail
  refine (specTimes _ _ _ _ _ _ _ _ x2 y2 (Nat.le_refl _) HF.out HF'.out).mono ?_
  rw [HT.out, HZ.out]
  rintro e w3 ⟨b3, c3, ⟨rfl, hB3⟩, u3⟩
  have hz3 := hB3.size
  have x3 := (x2.below hB3).more hz3
  have y3 := (y2.below hB3).more hz3
  have t3 := (t2.below hB3).more hz3
  have HB3 := Lib.hid (HB2.out.trans (hB3.mono HB2.out.size))
  clear hB3 hz3 x2 y2 t2
  go_wp2_with fail
  refine (sameSS_same _ _ _ _ _ _ _ t3 u3 HTF.out).mono ?_
  rintro e w4 h4
  obtain ⟨rfl, hB4⟩ := h4.below
  clear h4
  have hz4 := hB4.size
  have x4 := (x3.below hB4).more hz4
  have y4 := (y3.below hB4).more hz4
  have t4 := (t3.below hB4).more hz4
  have u4 := (u3.below hB4).more hz4
  have HB4 := Lib.hid (HB3.out.trans (hB4.mono HB3.out.size))
  clear hB4 hz4 x3 y3 t3 u3
  clear u4
  cases z with
  | false =>
    obtain rfl : T = [] := HT.out.symm.trans (timL_no HZ.out)
    clear x4 y4 t4
    go_wp2_with fail
    refine (alive_any _).mono ?_
    rintro e w5 ⟨rfl, hB5⟩
    have hz5 := hB5.size
    have HB5 := Lib.hid (HB4.out.trans (hB5.mono HB4.out.size))
    clear hB5 hz5 
    go_wp2_with fail
    go_ret
    exact ⟨rfl, HB5.out⟩
  | true =>
    obtain ⟨hG, hH, h9⟩ := timOk_of HZ.out
    have HA : Hid (arrowsI T = arrowsI G * arrowsI H) := Lib.hid (by rw [← HT.out]; exact arrows_tim HZ.out)
    have HTG : Hid (gOk T = true) := Lib.hid (by rw [← HT.out]; exact gOk_true (tim_good HZ.out))
    obtain ⟨hA1, hA2⟩ := arrowsI_few hG
    obtain ⟨hA3, hA4⟩ := arrowsI_few hH
    obtain ⟨p, HP⟩ : ∃ p, Hid (arrowsI G = p) := ⟨_, rfl⟩
    obtain ⟨q, HQ⟩ : ∃ q, Hid (arrowsI H = q) := ⟨_, rfl⟩
    rw [HP.out] at hA1 hA2
    rw [HQ.out] at hA3 hA4
    obtain ⟨hA5, hA6⟩ := mul_bound hA1 hA2 hA3 hA4
    have HTA : Hid (arrowsI T = p * q) := Lib.hid (by rw [HA.out, HP.out, HQ.out])
    clear hG hH h9 HA hA1 hA2 hA3 hA4 hzz
    have hy4' : Bytes w4.heap.size w4 b m := HY'.out.belowT HB4.out HB4.out.size
    go_wp2_with fail
    refine (drawSquareOf_any b m d w4 (by omega) hd hy4').mono ?_
    rintro e w5 ⟨a5, c5, K, rfl, ⟨hFK, k5, hk4⟩, hB5⟩
    have HFK := Lib.hid hFK
    have hkl := hFK.1
    clear hFK hy4'
    have hz5 := hB5.size
    have x5 := (x4.below hB5).more hz5
    have y5 := (y4.below hB5).more hz5
    have t5 := (t4.below hB5).more hz5
    have HB5 := Lib.hid (HB4.out.trans (hB5.mono HB4.out.size))
    clear hB5 hz5 x4 y4 t4
    go_wp2_with fail
    refine (specFew _ _ _ _ _ _ _ _ k5 t5 HFK.out HTF.out).mono ?_
    rintro e wq ⟨rfl, rfl⟩
    by_cases h1 : fewI K T = true
    · rw [h1]
      go_wp2_with fail
      refine (specFew _ _ _ _ _ _ _ _ k5 x5 HFK.out HF.out).mono ?_
      rintro e wq ⟨rfl, rfl⟩
      by_cases h2 : fewI K G = true
      · rw [h2]
        go_wp2_with fail
        refine (specFew _ _ _ _ _ _ _ _ k5 y5 HFK.out HF'.out).mono ?_
        rintro e wq ⟨rfl, rfl⟩
        by_cases h3 : fewI K H = true
        · rw [h3]
          have HC : Hid (countI K T = countI K G * countI K H) := Lib.hid (by rw [← HT.out] at h1 ⊢; exact count_tim HZ.out h1 h2 h3)
          obtain ⟨hC1, hC2⟩ := countI_small h2
          obtain ⟨hC3, hC4⟩ := countI_small h3
          obtain ⟨r, HR⟩ : ∃ r, Hid (countI K G = r) := ⟨_, rfl⟩
          obtain ⟨s, HS⟩ : ∃ s, Hid (countI K H = s) := ⟨_, rfl⟩
          rw [HR.out] at hC1 hC2
          rw [HS.out] at hC3 hC4
          obtain ⟨hC5, hC6⟩ := mul_bound hC1 hC2 hC3 hC4
          have HCT : Hid (countI K T = r * s) := Lib.hid (by rw [HC.out, HR.out, HS.out])
          clear h1 h2 h3 HC hC1 hC2 hC3 hC4
          go_wp2_with fail
          refine (implCount _ _ _ _ _ _ _ k5 t5 HFK.out HTF.out).mono ?_
          rw [HCT.out]
          rintro e w6 ⟨rfl, hB6⟩
          have hz6 := hB6.size
          have x6 := (x5.below hB6).more hz6
          have y6 := (y5.below hB6).more hz6
          have t6 := (t5.below hB6).more hz6
          have k6 := (k5.below hB6).more hz6
          have HB6 := Lib.hid (HB5.out.trans (hB6.mono HB5.out.size))
          clear hB6 hz6 x5 y5 t5 k5
          go_wp2_with fail
          refine (implCount _ _ _ _ _ _ _ k6 x6 HFK.out HF.out).mono ?_
          rw [HR.out]
          rintro e w7 ⟨rfl, hB7⟩
          have hz7 := hB7.size
          have x7 := (x6.below hB7).more hz7
          have y7 := (y6.below hB7).more hz7
          have t7 := (t6.below hB7).more hz7
          have k7 := (k6.below hB7).more hz7
          have HB7 := Lib.hid (HB6.out.trans (hB7.mono HB6.out.size))
          clear hB7 hz7 x6 y6 t6 k6
          go_wp2_with fail
          refine (implCount _ _ _ _ _ _ _ k7 y7 HFK.out HF'.out).mono ?_
          rw [HS.out]
          rintro e w8 ⟨rfl, hB8⟩
          have hz8 := hB8.size
          have x8 := (x7.below hB8).more hz8
          have y8 := (y7.below hB8).more hz8
          have t8 := (t7.below hB8).more hz8
          have k8 := (k7.below hB8).more hz8
          have HB8 := Lib.hid (HB7.out.trans (hB8.mono HB7.out.size))
          clear hB8 hz8 x7 y7 t7 k7
          clear k8
          go_wp2_with fail
          refine (implOk _ _ _ _ t8 HTF.out).mono ?_
          rw [HTG.out]
          rintro e w9 ⟨rfl, hB9⟩
          have hz9 := hB9.size
          have x9 := (x8.below hB9).more hz9
          have y9 := (y8.below hB9).more hz9
          have t9 := (t8.below hB9).more hz9
          have HB9 := Lib.hid (HB8.out.trans (hB9.mono HB8.out.size))
          clear hB9 hz9 x8 y8 t8
          go_wp2_with fail
          refine (implArrows _ _ _ _ t9 HTF.out).mono ?_
          rw [HTA.out]
          rintro e w10 ⟨rfl, hB10⟩
          have hz10 := hB10.size
          have x10 := (x9.below hB10).more hz10
          have y10 := (y9.below hB10).more hz10
          have t10 := (t9.below hB10).more hz10
          have HB10 := Lib.hid (HB9.out.trans (hB10.mono HB9.out.size))
          clear hB10 hz10 x9 y9 t9
          go_wp2_with fail
          refine (implArrows _ _ _ _ x10 HF.out).mono ?_
          rw [HP.out]
          rintro e w11 ⟨rfl, hB11⟩
          have hz11 := hB11.size
          have x11 := (x10.below hB11).more hz11
          have y11 := (y10.below hB11).more hz11
          have t11 := (t10.below hB11).more hz11
          have HB11 := Lib.hid (HB10.out.trans (hB11.mono HB10.out.size))
          clear hB11 hz11 x10 y10 t10
          go_wp2_with fail
          refine (implArrows _ _ _ _ y11 HF'.out).mono ?_
          rw [HQ.out]
          rintro e w12 ⟨rfl, hB12⟩
          have hz12 := hB12.size
          have x12 := (x11.below hB12).more hz12
          have y12 := (y11.below hB12).more hz12
          have t12 := (t11.below hB12).more hz12
          have HB12 := Lib.hid (HB11.out.trans (hB12.mono HB11.out.size))
          clear hB12 hz12 x11 y11 t11
          go_wp2_with fail
          go_ret
          exact ⟨rfl, HB12.out⟩
        · have hn : fewI K H = false := by simpa using h3
          rw [hn]
          clear h1 h2 h3 hn
          clear k5
          go_wp2_with fail
          refine (implOk _ _ _ _ t5 HTF.out).mono ?_
          rw [HTG.out]
          rintro e w6 ⟨rfl, hB6⟩
          have hz6 := hB6.size
          have x6 := (x5.below hB6).more hz6
          have y6 := (y5.below hB6).more hz6
          have t6 := (t5.below hB6).more hz6
          have HB6 := Lib.hid (HB5.out.trans (hB6.mono HB5.out.size))
          clear hB6 hz6 x5 y5 t5
          go_wp2_with fail
          refine (implArrows _ _ _ _ t6 HTF.out).mono ?_
          rw [HTA.out]
          rintro e w7 ⟨rfl, hB7⟩
          have hz7 := hB7.size
          have x7 := (x6.below hB7).more hz7
          have y7 := (y6.below hB7).more hz7
          have t7 := (t6.below hB7).more hz7
          have HB7 := Lib.hid (HB6.out.trans (hB7.mono HB6.out.size))
          clear hB7 hz7 x6 y6 t6
          go_wp2_with fail
          refine (implArrows _ _ _ _ x7 HF.out).mono ?_
          rw [HP.out]
          rintro e w8 ⟨rfl, hB8⟩
          have hz8 := hB8.size
          have x8 := (x7.below hB8).more hz8
          have y8 := (y7.below hB8).more hz8
          have t8 := (t7.below hB8).more hz8
          have HB8 := Lib.hid (HB7.out.trans (hB8.mono HB7.out.size))
          clear hB8 hz8 x7 y7 t7
          go_wp2_with fail
          refine (implArrows _ _ _ _ y8 HF'.out).mono ?_
          rw [HQ.out]
          rintro e w9 ⟨rfl, hB9⟩
          have hz9 := hB9.size
          have x9 := (x8.below hB9).more hz9
          have y9 := (y8.below hB9).more hz9
          have t9 := (t8.below hB9).more hz9
          have HB9 := Lib.hid (HB8.out.trans (hB9.mono HB8.out.size))
          clear hB9 hz9 x8 y8 t8
          go_wp2_with fail
          go_ret
          exact ⟨rfl, HB9.out⟩
      · have hn : fewI K G = false := by simpa using h2
        rw [hn]
        clear h1 h2 hn
        clear k5
        go_wp2_with fail
        refine (implOk _ _ _ _ t5 HTF.out).mono ?_
        rw [HTG.out]
        rintro e w6 ⟨rfl, hB6⟩
        have hz6 := hB6.size
        have x6 := (x5.below hB6).more hz6
        have y6 := (y5.below hB6).more hz6
        have t6 := (t5.below hB6).more hz6
        have HB6 := Lib.hid (HB5.out.trans (hB6.mono HB5.out.size))
        clear hB6 hz6 x5 y5 t5
        go_wp2_with fail
        refine (implArrows _ _ _ _ t6 HTF.out).mono ?_
        rw [HTA.out]
        rintro e w7 ⟨rfl, hB7⟩
        have hz7 := hB7.size
        have x7 := (x6.below hB7).more hz7
        have y7 := (y6.below hB7).more hz7
        have t7 := (t6.below hB7).more hz7
        have HB7 := Lib.hid (HB6.out.trans (hB7.mono HB6.out.size))
        clear hB7 hz7 x6 y6 t6
        go_wp2_with fail
        refine (implArrows _ _ _ _ x7 HF.out).mono ?_
        rw [HP.out]
        rintro e w8 ⟨rfl, hB8⟩
        have hz8 := hB8.size
        have x8 := (x7.below hB8).more hz8
        have y8 := (y7.below hB8).more hz8
        have t8 := (t7.below hB8).more hz8
        have HB8 := Lib.hid (HB7.out.trans (hB8.mono HB7.out.size))
        clear hB8 hz8 x7 y7 t7
        go_wp2_with fail
        refine (implArrows _ _ _ _ y8 HF'.out).mono ?_
        rw [HQ.out]
        rintro e w9 ⟨rfl, hB9⟩
        have hz9 := hB9.size
        have x9 := (x8.below hB9).more hz9
        have y9 := (y8.below hB9).more hz9
        have t9 := (t8.below hB9).more hz9
        have HB9 := Lib.hid (HB8.out.trans (hB9.mono HB8.out.size))
        clear hB9 hz9 x8 y8 t8
        go_wp2_with fail
        go_ret
        exact ⟨rfl, HB9.out⟩
    · have hn : fewI K T = false := by simpa using h1
      rw [hn]
      clear h1 hn
      clear k5
      go_wp2_with fail
      refine (implOk _ _ _ _ t5 HTF.out).mono ?_
      rw [HTG.out]
      rintro e w6 ⟨rfl, hB6⟩
      have hz6 := hB6.size
      have x6 := (x5.below hB6).more hz6
      have y6 := (y5.below hB6).more hz6
      have t6 := (t5.below hB6).more hz6
      have HB6 := Lib.hid (HB5.out.trans (hB6.mono HB5.out.size))
      clear hB6 hz6 x5 y5 t5
      go_wp2_with fail
      refine (implArrows _ _ _ _ t6 HTF.out).mono ?_
      rw [HTA.out]
      rintro e w7 ⟨rfl, hB7⟩
      have hz7 := hB7.size
      have x7 := (x6.below hB7).more hz7
      have y7 := (y6.below hB7).more hz7
      have t7 := (t6.below hB7).more hz7
      have HB7 := Lib.hid (HB6.out.trans (hB7.mono HB6.out.size))
      clear hB7 hz7 x6 y6 t6
      go_wp2_with fail
      refine (implArrows _ _ _ _ x7 HF.out).mono ?_
      rw [HP.out]
      rintro e w8 ⟨rfl, hB8⟩
      have hz8 := hB8.size
      have x8 := (x7.below hB8).more hz8
      have y8 := (y7.below hB8).more hz8
      have t8 := (t7.below hB8).more hz8
      have HB8 := Lib.hid (HB7.out.trans (hB8.mono HB7.out.size))
      clear hB8 hz8 x7 y7 t7
      go_wp2_with fail
      refine (implArrows _ _ _ _ y8 HF'.out).mono ?_
      rw [HQ.out]
      rintro e w9 ⟨rfl, hB9⟩
      have hz9 := hB9.size
      have x9 := (x8.below hB9).more hz9
      have y9 := (y8.below hB9).more hz9
      have t9 := (t8.below hB9).more hz9
      have HB9 := Lib.hid (HB8.out.trans (hB9.mono HB8.out.size))
      clear hB9 hz9 x8 y8 t8
      go_wp2_with fail
      go_ret
      exact ⟨rfl, HB9.out⟩

end Go.Proofs.Ytimjijbjadkfnaa
