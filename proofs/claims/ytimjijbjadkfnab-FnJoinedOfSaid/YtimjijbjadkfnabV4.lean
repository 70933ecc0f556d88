/-
  The walk of the law of P13 (JoinedOf).
-/
import Derived.Test.YtimjijbjadkfnabZP
import Derived.Test.YtimjijbjadkfnabT7
import Derived.Test.YtimjijbjadkfnabT8
import Derived.Test.YtimjijbjadkfnabZJ
import Derived.Test.YtimjijbjadkfnabM7
import Derived.Test.YtimjijbjadkfnabZN
import Derived.Test.YtimjijbjadkfnabZM
import Derived.Test.YtimjijbjadkfnabG1
import Derived.Test.YtimjijbjadkfnabZI
import Derived.Test.YtimjijbjadkfnabK2
namespace Go.Proofs.Ytimjijbjadkfnab
open Go.RowKit Go.Shelf

theorem besL_fit {xss yss : List (List Int)} : Fit (besL xss yss) := by
  by_cases h : besOk xss yss = true
  · exact (bes_good h).fit
  · rw [besL_no (by simpa using h)]
    exact ⟨by simp, fun xs hx => by cases hx⟩

set_option maxRecDepth 100000 in
set_option maxHeartbeats 8000000 in
theorem joinedOf_any (a : Option Addr) (n c : Nat) (w : World) (hc : n ≤ c) (hl : n ≤ 9223372036854775807) (hy : Bytes w.heap.size w a n) :
    Calls Try.prog 3 #[.slice a n c] w (Ans (.bool true) w) := by
  by_cases hbign : 1048576 < n
  · go_enter Try.func3, Try.ntmps3
    go_wp2_with fail
    go_ret
    exact ⟨rfl, Below.refl _ _⟩
  go_enter Try.func3, Try.ntmps3
  go_wp2_with fail
  refine (drawJoinedOf_any a n c w (by omega) hc hy).mono ?_
  rintro e w1 ⟨a1, c1, G, a2, c2, H, a3, c3, K, a4, c4, f, a5, c5, es, rfl, ⟨hFG, x1, hx4⟩, ⟨hFH, y1, hy4⟩, ⟨hFK, k1, hk4⟩, ⟨hlf, f1⟩, ⟨hle, e1⟩, hB⟩
  have HB1 := Lib.hid hB
  have HFK := Lib.hid hFK
  have HFG := Lib.hid hFG
  have HFH := Lib.hid hFH
  have HLF := Lib.hid hlf
  have HLE := Lib.hid hle
  obtain ⟨zs, HZ, HZL⟩ : ∃ zs, Hid (joiI G H K f es = zs) ∧ Hid (zs.length ≤ 1048576) := ⟨_, rfl, joiI_le hlf hle⟩
  have hzl := HZL.out
  obtain ⟨T, HT, HTF⟩ : ∃ T, Hid (besL G H = T) ∧ Hid (Fit T) := ⟨_, rfl, besL_fit⟩
  obtain ⟨z, HZO⟩ : ∃ z, Hid (besOk G H = z) := ⟨_, rfl⟩
  have htl := HTF.out.1
  clear hB hFK hFG hFH hy
  go_wp2_with fail
  refine (implJoined _ _ _ _ _ _ _ _ _ _ _ _ _ _ _ _ x1 y1 k1 f1 e1 HFG.out HFH.out HFK.out HLF.out HLE.out).mono ?_
  rw [HZ.out]
  rintro e w2 ⟨b2, c2, ⟨rfl, hB2⟩, hO2⟩
  have p2 := own_intsQ hO2
  clear hO2
  have hz2 := hB2.size
  have x2 := (x1.below hB2).more hz2
  have y2 := (y1.below hB2).more hz2
  have k2 := (k1.below hB2).more hz2
  have f2 := (f1.below hB2).more hz2
  have e2 := (e1.below hB2).more hz2
  have HB2 := Lib.hid (HB1.out.trans (hB2.mono HB1.out.size))
  clear hB2 hz2 x1 y1 k1 f1 e1
  go_wp2_with fail
  refine (specJoined _ _ _ _ _ _ _ _ _ _ _ _ _ _ _ _ _ x2 y2 k2 f2 e2 (Nat.le_refl _) HFG.out HFH.out HFK.out HLF.out HLE.out).mono ?_
  rw [HZ.out]
  rintro e w3 ⟨b3, c3, ⟨rfl, hB3⟩, g3⟩
  have hz3 := hB3.size
  have x3 := (x2.below hB3).more hz3
  have y3 := (y2.below hB3).more hz3
  have k3 := (k2.below hB3).more hz3
  have f3 := (f2.below hB3).more hz3
  have e3 := (e2.below hB3).more hz3
  have p3 := (p2.below hB3).more hz3
  have HB3 := Lib.hid (HB2.out.trans (hB3.mono HB2.out.size))
  clear hB3 hz3 x2 y2 k2 f2 e2 p2
  go_wp2_with fail
  refine (sameS_same _ _ _ _ _ _ _ p3 g3 HZL.out).mono ?_
  rintro e w4 h4
  obtain ⟨rfl, hB4⟩ := h4.below
  clear h4
  have hz4 := hB4.size
  have x4 := (x3.below hB4).more hz4
  have y4 := (y3.below hB4).more hz4
  have k4 := (k3.below hB4).more hz4
  have f4 := (f3.below hB4).more hz4
  have e4 := (e3.below hB4).more hz4
  have p4 := (p3.below hB4).more hz4
  have g4 := (g3.below hB4).more hz4
  have HB4 := Lib.hid (HB3.out.trans (hB4.mono HB3.out.size))
  clear hB4 hz4 x3 y3 k3 f3 e3 p3 g3
  clear g4 f4 e4
  go_wp2_with fail
  refine (implBeside _ _ _ _ _ _ _ x4 y4 HFG.out HFH.out).mono ?_
  rw [HT.out, HZO.out]
  rintro e w5 ⟨b5, c5, ⟨rfl, hB5⟩, hO5⟩
  have t5 := hO5.mat
  clear hO5
  have hz5 := hB5.size
  have x5 := (x4.below hB5).more hz5
  have y5 := (y4.below hB5).more hz5
  have k5 := (k4.below hB5).more hz5
  have p5 := (p4.below hB5).more hz5
  have HB5 := Lib.hid (HB4.out.trans (hB5.mono HB4.out.size))
  clear hB5 hz5 x4 y4 k4 p4
  cases z with
  | false =>
    obtain rfl : zs = [] := HZ.out.symm.trans (joiI_no fun h => by have h1 := h.1; rw [HZO.out] at h1; cases h1)
    clear x5 y5 k5 p5 t5
    go_wp2_with fail
    refine (alive_any _).mono ?_
    rintro e w6 ⟨rfl, hB6⟩
    have hz6 := hB6.size
    have HB6 := Lib.hid (HB5.out.trans (hB6.mono HB5.out.size))
    clear hB6 hz6 
    go_wp2_with fail
    go_ret
    exact ⟨rfl, HB6.out⟩
  | true =>
    go_wp2_with fail
    refine (specFew _ _ _ _ _ _ _ _ t5 k5 HTF.out HFK.out).mono ?_
    rintro e wq ⟨rfl, rfl⟩
    by_cases hfew : fewI T K = true
    · rw [hfew]
      have hbel : belowI T K = (belowI G K && belowI H K) := by rw [← HT.out] at hfew ⊢; exact below_bes HZO.out hfew
      obtain ⟨b1, HB1'⟩ : ∃ b1, Hid (belowI G K = b1) := ⟨_, rfl⟩
      obtain ⟨b2, HB2'⟩ : ∃ b2, Hid (belowI H K = b2) := ⟨_, rfl⟩
      have HBT : Hid (belowI T K = (b1 && b2)) := Lib.hid (by rw [hbel, HB1'.out, HB2'.out])
      clear hbel hfew
      go_wp2_with fail
      refine (implBelow _ _ _ _ _ _ _ t5 k5 HTF.out HFK.out).mono ?_
      rw [HBT.out]
      rintro e w6 ⟨rfl, hB6⟩
      have hz6 := hB6.size
      have x6 := (x5.below hB6).more hz6
      have y6 := (y5.below hB6).more hz6
      have k6 := (k5.below hB6).more hz6
      have p6 := (p5.below hB6).more hz6
      have t6 := (t5.below hB6).more hz6
      have HB6 := Lib.hid (HB5.out.trans (hB6.mono HB5.out.size))
      clear hB6 hz6 x5 y5 k5 p5 t5
      go_wp2_with fail
      refine (implBelow _ _ _ _ _ _ _ x6 k6 HFG.out HFK.out).mono ?_
      rw [HB1'.out]
      rintro e w7 ⟨rfl, hB7⟩
      have hz7 := hB7.size
      have x7 := (x6.below hB7).more hz7
      have y7 := (y6.below hB7).more hz7
      have k7 := (k6.below hB7).more hz7
      have p7 := (p6.below hB7).more hz7
      have t7 := (t6.below hB7).more hz7
      have HB7 := Lib.hid (HB6.out.trans (hB7.mono HB6.out.size))
      clear hB7 hz7 x6 y6 k6 p6 t6
      cases b1 with
      | false =>
        by_cases hyes : mapOkI G K f = true ∧ mapOkI H K es = true
        · obtain ⟨hm1, hm2⟩ := hyes
          obtain ⟨hs1, hs2, hs3⟩ := joi_small ⟨HZO.out, hm1, hm2⟩
          have hzs : zs = f ++ es := HZ.out.symm.trans (joiI_yes ⟨HZO.out, hm1, hm2⟩)
          obtain ⟨⟨hgG, hgK⟩, hM1⟩ := mapOk_iff.1 hm1
          obtain ⟨⟨hgH, _⟩, hM2⟩ := mapOk_iff.1 hm2
          have HM : Hid (mapOkI T K zs = true) := Lib.hid (by rw [← HT.out, hzs]; exact mapOk_iff.2 ⟨⟨gOk_true (bes_good HZO.out), hgK⟩, joi_map HZO.out hM1 hM2⟩)
          have hL : zs.length = G.length + H.length := by rw [hzs, List.length_append, hM1.1.1, hM2.1.1]
          have h0 : zs.length ≠ 0 := by rw [hzs, List.length_append]; omega
          have h1 : ((zs.length : Int) == 0) = false := by simp; intro e; rw [e] at h0; exact h0 rfl
          have h2 : ((zs.length : Int) == (G.length : Int) + (H.length : Int)) = true := by rw [hL]; simp
          have hgh : G.length ≤ 4 := hx4
          have hhh : H.length ≤ 4 := hy4
          clear hm1 hm2 hs1 hs2 hs3 hzs hgG hgK hgH hM1 hM2 hL h0
          go_wp2_with fail
          refine (implMapOk _ _ _ _ _ _ _ _ _ _ t7 k7 p7 HTF.out HFK.out HZL.out).mono ?_
          rw [HM.out]
          rintro e w8 ⟨rfl, hB8⟩
          have hz8 := hB8.size
          have x8 := (x7.below hB8).more hz8
          have y8 := (y7.below hB8).more hz8
          have k8 := (k7.below hB8).more hz8
          have p8 := (p7.below hB8).more hz8
          have t8 := (t7.below hB8).more hz8
          have HB8 := Lib.hid (HB7.out.trans (hB8.mono HB7.out.size))
          clear hB8 hz8 x7 y7 k7 p7 t7
          go_wp2_with fail
          go_ret
          exact ⟨rfl, HB8.out⟩
        · obtain rfl : zs = [] := HZ.out.symm.trans (joiI_no fun h => hyes h.2)
          clear hyes
          clear x7 y7 k7 p7 t7
          go_wp2_with fail
          refine (alive_any _).mono ?_
          rintro e w8 ⟨rfl, hB8⟩
          have hz8 := hB8.size
          have HB8 := Lib.hid (HB7.out.trans (hB8.mono HB7.out.size))
          clear hB8 hz8 
          go_wp2_with fail
          go_ret
          exact ⟨rfl, HB8.out⟩
      | true =>
        go_wp2_with fail
        refine (implBelow _ _ _ _ _ _ _ y7 k7 HFH.out HFK.out).mono ?_
        rw [HB2'.out]
        rintro e w8 ⟨rfl, hB8⟩
        have hz8 := hB8.size
        have x8 := (x7.below hB8).more hz8
        have y8 := (y7.below hB8).more hz8
        have k8 := (k7.below hB8).more hz8
        have p8 := (p7.below hB8).more hz8
        have t8 := (t7.below hB8).more hz8
        have HB8 := Lib.hid (HB7.out.trans (hB8.mono HB7.out.size))
        clear hB8 hz8 x7 y7 k7 p7 t7
        cases b2
        all_goals
          by_cases hyes : mapOkI G K f = true ∧ mapOkI H K es = true
          · obtain ⟨hm1, hm2⟩ := hyes
            obtain ⟨hs1, hs2, hs3⟩ := joi_small ⟨HZO.out, hm1, hm2⟩
            have hzs : zs = f ++ es := HZ.out.symm.trans (joiI_yes ⟨HZO.out, hm1, hm2⟩)
            obtain ⟨⟨hgG, hgK⟩, hM1⟩ := mapOk_iff.1 hm1
            obtain ⟨⟨hgH, _⟩, hM2⟩ := mapOk_iff.1 hm2
            have HM : Hid (mapOkI T K zs = true) := Lib.hid (by rw [← HT.out, hzs]; exact mapOk_iff.2 ⟨⟨gOk_true (bes_good HZO.out), hgK⟩, joi_map HZO.out hM1 hM2⟩)
            have hL : zs.length = G.length + H.length := by rw [hzs, List.length_append, hM1.1.1, hM2.1.1]
            have h0 : zs.length ≠ 0 := by rw [hzs, List.length_append]; omega
            have h1 : ((zs.length : Int) == 0) = false := by simp; intro e; rw [e] at h0; exact h0 rfl
            have h2 : ((zs.length : Int) == (G.length : Int) + (H.length : Int)) = true := by rw [hL]; simp
            have hgh : G.length ≤ 4 := hx4
            have hhh : H.length ≤ 4 := hy4
            clear hm1 hm2 hs1 hs2 hs3 hzs hgG hgK hgH hM1 hM2 hL h0
            go_wp2_with fail
            refine (implMapOk _ _ _ _ _ _ _ _ _ _ t8 k8 p8 HTF.out HFK.out HZL.out).mono ?_
            rw [HM.out]
            rintro e w9 ⟨rfl, hB9⟩
            have hz9 := hB9.size
            have x9 := (x8.below hB9).more hz9
            have y9 := (y8.below hB9).more hz9
            have k9 := (k8.below hB9).more hz9
            have p9 := (p8.below hB9).more hz9
            have t9 := (t8.below hB9).more hz9
            have HB9 := Lib.hid (HB8.out.trans (hB9.mono HB8.out.size))
            clear hB9 hz9 x8 y8 k8 p8 t8
            go_wp2_with fail
            go_ret
            exact ⟨rfl, HB9.out⟩
          · obtain rfl : zs = [] := HZ.out.symm.trans (joiI_no fun h => hyes h.2)
            clear hyes
            clear x8 y8 k8 p8 t8
            go_wp2_with fail
            refine (alive_any _).mono ?_
            rintro e w9 ⟨rfl, hB9⟩
            have hz9 := hB9.size
            have HB9 := Lib.hid (HB8.out.trans (hB9.mono HB8.out.size))
            clear hB9 hz9 
            go_wp2_with fail
            go_ret
            exact ⟨rfl, HB9.out⟩
    · have hn : fewI T K = false := by simpa using hfew
      rw [hn]
      clear hfew hn
      by_cases hyes : mapOkI G K f = true ∧ mapOkI H K es = true
      · obtain ⟨hm1, hm2⟩ := hyes
        obtain ⟨hs1, hs2, hs3⟩ := joi_small ⟨HZO.out, hm1, hm2⟩
        have hzs : zs = f ++ es := HZ.out.symm.trans (joiI_yes ⟨HZO.out, hm1, hm2⟩)
        obtain ⟨⟨hgG, hgK⟩, hM1⟩ := mapOk_iff.1 hm1
        obtain ⟨⟨hgH, _⟩, hM2⟩ := mapOk_iff.1 hm2
        have HM : Hid (mapOkI T K zs = true) := Lib.hid (by rw [← HT.out, hzs]; exact mapOk_iff.2 ⟨⟨gOk_true (bes_good HZO.out), hgK⟩, joi_map HZO.out hM1 hM2⟩)
        have hL : zs.length = G.length + H.length := by rw [hzs, List.length_append, hM1.1.1, hM2.1.1]
        have h0 : zs.length ≠ 0 := by rw [hzs, List.length_append]; omega
        have h1 : ((zs.length : Int) == 0) = false := by simp; intro e; rw [e] at h0; exact h0 rfl
        have h2 : ((zs.length : Int) == (G.length : Int) + (H.length : Int)) = true := by rw [hL]; simp
        have hgh : G.length ≤ 4 := hx4
        have hhh : H.length ≤ 4 := hy4
        clear hm1 hm2 hs1 hs2 hs3 hzs hgG hgK hgH hM1 hM2 hL h0
        go_wp2_with fail
        refine (implMapOk _ _ _ _ _ _ _ _ _ _ t5 k5 p5 HTF.out HFK.out HZL.out).mono ?_
        rw [HM.out]
        rintro e w6 ⟨rfl, hB6⟩
        have hz6 := hB6.size
        have x6 := (x5.below hB6).more hz6
        have y6 := (y5.below hB6).more hz6
        have k6 := (k5.below hB6).more hz6
        have p6 := (p5.below hB6).more hz6
        have t6 := (t5.below hB6).more hz6
        have HB6 := Lib.hid (HB5.out.trans (hB6.mono HB5.out.size))
        clear hB6 hz6 x5 y5 k5 p5 t5
        go_wp2_with fail
        go_ret
        exact ⟨rfl, HB6.out⟩
      · obtain rfl : zs = [] := HZ.out.symm.trans (joiI_no fun h => hyes h.2)
        clear hyes
        clear x5 y5 k5 p5 t5
        go_wp2_with fail
        refine (alive_any _).mono ?_
        rintro e w6 ⟨rfl, hB6⟩
        have hz6 := hB6.size
        have HB6 := Lib.hid (HB5.out.trans (hB6.mono HB5.out.size))
        clear hB6 hz6 
        go_wp2_with fail
        go_ret
        exact ⟨rfl, HB6.out⟩

end Go.Proofs.Ytimjijbjadkfnab
