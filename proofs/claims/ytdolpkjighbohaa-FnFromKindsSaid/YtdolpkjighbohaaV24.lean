/-
  The walk of the law of P31 (FromKinds).
-/
import Derived.Test.YtdolpkjighbohaaD16
import Derived.Test.YtdolpkjighbohaaPD
import Derived.Test.YtdolpkjighbohaaWP
import Derived.Test.YtdolpkjighbohaaZQ
import Derived.Test.YtdolpkjighbohaaG1
import Derived.Test.YtdolpkjighbohaaZI
import Derived.Test.YtdolpkjighbohaaV20a
namespace Go.Proofs.Ytdolpkjighbohaa
open Go.RowKit Go.Shelf

set_option maxRecDepth 100000 in
set_option maxHeartbeats 8000000 in
theorem fromKinds_any (a : Option Addr) (n c : Nat) (w : World) (hc : n ≤ c) (hl : n ≤ 9223372036854775807) (hy : Bytes w.heap.size w a n) :
    Calls Try.prog 7 #[.slice a n c] w (Ans (.bool true) w) := by
  by_cases hbign : 1048576 < n
  · go_enter Try.func7, Try.ntmps7
    go_wp2_with fail
    go_ret
    exact ⟨rfl, Below.refl _ _⟩
  go_enter Try.func7, Try.ntmps7
  go_wp2_with fail
  refine (drawFromKinds_any a n c w (by omega) hc hy).mono ?_
  rintro e w1 ⟨aG, cG, G, aH, cH, H, aF, cF, f, rfl, ⟨hF, x1, hx4⟩, ⟨hFH, y1, hy4⟩, ⟨hlf, f1⟩, hB⟩
  have HB1 := Lib.hid hB
  have HF := Lib.hid hF
  have HFH := Lib.hid hFH
  have HLF := Lib.hid hlf
  obtain ⟨m, HM⟩ : ∃ m, Hid (mapOkI G H f = m) := ⟨_, rfl⟩
  obtain ⟨ys, HY, HYL⟩ : ∃ ys, Hid (frI G H f = ys) ∧ Hid (ys.length ≤ 1048576) := ⟨_, rfl, by
    unfold Hid frI
    split
    · exact Nat.le_trans (nub_le f) hlf
    · simp⟩
  have hyl := HYL.out
  clear hB hF hFH hy
  go_wp2_with fail
  refine (implFrom _ _ _ _ _ _ _ _ _ _ x1 y1 f1 HF.out HFH.out HLF.out).mono ?_
  rw [HY.out]
  rintro e w2 ⟨b2, c2, ⟨rfl, hB2⟩, hO2⟩
  have g2 := own_intsQ hO2
  clear hO2
  have hz2 := hB2.size
  have x2 := (x1.below hB2).more hz2
  have y2 := (y1.below hB2).more hz2
  have f2 := (f1.below hB2).more hz2
  have HB2 := Lib.hid (HB1.out.trans (hB2.mono HB1.out.size))
  clear hB2 hz2 x1 y1 f1
  go_wp2_with fail
  refine (specFrom _ _ _ _ _ _ _ _ _ _ _ x2 y2 f2 (Nat.le_refl _) HF.out HFH.out HLF.out).mono ?_
  rw [HY.out]
  rintro e w3 ⟨b3, c3, ⟨rfl, hB3⟩, t3⟩
  have hz3 := hB3.size
  have x3 := (x2.below hB3).more hz3
  have y3 := (y2.below hB3).more hz3
  have f3 := (f2.below hB3).more hz3
  have g3 := (g2.below hB3).more hz3
  have HB3 := Lib.hid (HB2.out.trans (hB3.mono HB2.out.size))
  clear hB3 hz3 x2 y2 f2 g2
  go_wp2_with fail
  refine (sameS_same _ _ _ _ _ _ _ g3 t3 HYL.out).mono ?_
  rintro e w4 h4
  obtain ⟨rfl, hB4⟩ := h4.below
  clear h4
  have hz4 := hB4.size
  have x4 := (x3.below hB4).more hz4
  have y4 := (y3.below hB4).more hz4
  have f4 := (f3.below hB4).more hz4
  have g4 := (g3.below hB4).more hz4
  have t4 := (t3.below hB4).more hz4
  have HB4 := Lib.hid (HB3.out.trans (hB4.mono HB3.out.size))
  clear hB4 hz4 x3 y3 f3 g3 t3
  clear t4
  cases m with
  | false =>
    obtain rfl : ys = [] := HY.out.symm.trans (fr_no HM.out)
    clear x4 y4 f4 g4
    go_wp2_with fail
    refine (alive_any _).mono ?_
    rintro e w5 ⟨rfl, hB5⟩
    have hz5 := hB5.size
    have HB5 := Lib.hid (HB4.out.trans (hB5.mono HB4.out.size))
    clear hB5 hz5 
    go_wp2_with fail
    go_ret
    exact ⟨rfl, HB5.out⟩
  | true =>
    have hys : ys = nubL f := HY.out.symm.trans (fr_yes HM.out)
    obtain ⟨hfl, hf1, hf9⟩ := map_le HM.out
    have hmo := mapOk_iff.1 HM.out
    have HKB : Hid (kbI G H f = kbyL f) := Lib.hid (kb_yes HM.out)
    have hko := kby_kOk hmo.1.1 hfl
    have HKL : Hid ((kbyL f).length ≤ 1048576) := Lib.hid (by rw [kby_length]; exact HLF.out)
    have HGF : Hid (Fit (grkL G (kbyL f))) := Lib.hid (good_of (grk_good hko)).fit
    have hgm : mapOkI (grkL G (kbyL f)) H ys = true := mapOk_iff.2 ⟨⟨grk_good hko, hmo.1.2⟩, by rw [hys]; exact nub_map hmo.1.1 hmo.2⟩
    have hkm : mapOkI G (grkL G (kbyL f)) (kbyL f) = true := mapOk_iff.2 ⟨⟨hmo.1.1, grk_good hko⟩, grk_map hko⟩
    have HAP : Hid (apaI (grkL G (kbyL f)) H ys = true) := Lib.hid (apa_iff.2 ⟨hgm, by rw [hys]; exact nub_nodup f⟩)
    have HBE : Hid (behI G (grkL G (kbyL f)) H (kbyL f) ys = f) := Lib.hid (by rw [behI_yes hkm hgm, hys]; exact nub_beh hmo.1.1 hmo.2)
    have hyp : ((ys.length : Int) == 0) = false := len_ne6 (by have := nub_ne hf1; rw [← hys] at this; omega)
    obtain ⟨K, HK⟩ : ∃ K, Hid (grkL G (kbyL f) = K) := ⟨_, rfl⟩
    obtain ⟨ks, HKS⟩ : ∃ ks, Hid (kbyL f = ks) := ⟨_, rfl⟩
    rw [HKS.out] at HK HGF HAP HBE HKB HKL
    rw [HK.out] at HGF HAP HBE
    clear hys hmo hko hgm hkm hfl
    go_wp2_with fail
    refine (implKby _ _ _ _ _ _ _ _ _ _ x4 y4 f4 HF.out HFH.out HLF.out).mono ?_
    rw [HKB.out]
    rintro e w5 ⟨b5, c5, ⟨rfl, hB5⟩, hO5⟩
    have q5 := own_intsQ hO5
    clear hO5
    have hz5 := hB5.size
    have x5 := (x4.below hB5).more hz5
    have y5 := (y4.below hB5).more hz5
    have f5 := (f4.below hB5).more hz5
    have g5 := (g4.below hB5).more hz5
    have HB5 := Lib.hid (HB4.out.trans (hB5.mono HB4.out.size))
    clear hB5 hz5 x4 y4 f4 g4
    go_wp2_with fail
    refine (implGrk _ _ _ _ _ _ _ x5 q5 HF.out HKL.out).mono ?_
    rw [HK.out]
    rintro e w6 ⟨b6, c6, ⟨rfl, hB6⟩, hO6⟩
    have r6 := hO6.mat.mat
    clear hO6
    have hz6 := hB6.size
    have x6 := (x5.below hB6).more hz6
    have y6 := (y5.below hB6).more hz6
    have f6 := (f5.below hB6).more hz6
    have g6 := (g5.below hB6).more hz6
    have q6 := (q5.below hB6).more hz6
    have HB6 := Lib.hid (HB5.out.trans (hB6.mono HB5.out.size))
    clear hB6 hz6 x5 y5 f5 g5 q5
    go_wp2_with fail
    refine (implApart _ _ _ _ _ _ _ _ _ _ r6 y6 g6 HGF.out HFH.out HYL.out).mono ?_
    rw [HAP.out]
    rintro e w7 ⟨rfl, hB7⟩
    have hz7 := hB7.size
    have x7 := (x6.below hB7).more hz7
    have y7 := (y6.below hB7).more hz7
    have f7 := (f6.below hB7).more hz7
    have g7 := (g6.below hB7).more hz7
    have q7 := (q6.below hB7).more hz7
    have r7 := (r6.below hB7).more hz7
    have HB7 := Lib.hid (HB6.out.trans (hB7.mono HB6.out.size))
    clear hB7 hz7 x6 y6 f6 g6 q6 r6
    go_wp2_with fail
    refine (implBehind _ _ _ _ _ _ _ _ _ _ _ _ _ _ _ _ x7 r7 y7 q7 g7 HF.out HGF.out HFH.out HKL.out HYL.out).mono ?_
    rw [HBE.out]
    rintro e w8 ⟨b8, c8, ⟨rfl, hB8⟩, hO8⟩
    have s8 := hO8.ints
    clear hO8
    have hz8 := hB8.size
    have x8 := (x7.below hB8).more hz8
    have y8 := (y7.below hB8).more hz8
    have f8 := (f7.below hB8).more hz8
    have g8 := (g7.below hB8).more hz8
    have q8 := (q7.below hB8).more hz8
    have r8 := (r7.below hB8).more hz8
    have HB8 := Lib.hid (HB7.out.trans (hB8.mono HB7.out.size))
    clear hB8 hz8 x7 y7 f7 g7 q7 r7
    go_wp2_with fail
    refine (sameS_same _ _ _ _ _ _ _ s8 f8 HLF.out).mono ?_
    rintro e w9 h9
    obtain ⟨rfl, hB9⟩ := h9.below
    clear h9
    have hz9 := hB9.size
    have x9 := (x8.below hB9).more hz9
    have y9 := (y8.below hB9).more hz9
    have f9 := (f8.below hB9).more hz9
    have g9 := (g8.below hB9).more hz9
    have q9 := (q8.below hB9).more hz9
    have r9 := (r8.below hB9).more hz9
    have s9 := (s8.below hB9).more hz9
    have HB9 := Lib.hid (HB8.out.trans (hB9.mono HB8.out.size))
    clear hB9 hz9 x8 y8 f8 g8 q8 r8 s8
    clear x9 y9 f9 g9 q9 r9 s9
    go_wp2_with fail
    go_ret
    exact ⟨rfl, HB9.out⟩

end Go.Proofs.Ytdolpkjighbohaa
