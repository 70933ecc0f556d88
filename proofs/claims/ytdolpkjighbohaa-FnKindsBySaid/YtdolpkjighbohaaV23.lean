/-
  The walk of the law of P30 (KindsBy).
-/
import Derived.Test.YtdolpkjighbohaaD16
import Derived.Test.YtdolpkjighbohaaPC
import Derived.Test.YtdolpkjighbohaaWP
import Derived.Test.YtdolpkjighbohaaZN
import Derived.Test.YtdolpkjighbohaaG1
import Derived.Test.YtdolpkjighbohaaV20a
namespace Go.Proofs.Ytdolpkjighbohaa
open Go.RowKit Go.Shelf

set_option maxRecDepth 100000 in
set_option maxHeartbeats 8000000 in
theorem kindsBy_any (a : Option Addr) (n c : Nat) (w : World) (hc : n ≤ c) (hl : n ≤ 9223372036854775807) (hy : Bytes w.heap.size w a n) :
    Calls Try.prog 6 #[.slice a n c] w (Ans (.bool true) w) := by
  by_cases hbign : 1048576 < n
  · go_enter Try.func6, Try.ntmps6
    go_wp2_with fail
    go_ret
    exact ⟨rfl, Below.refl _ _⟩
  go_enter Try.func6, Try.ntmps6
  go_wp2_with fail
  refine (drawKindsBy_any a n c w (by omega) hc hy).mono ?_
  rintro e w1 ⟨aG, cG, G, aH, cH, H, aF, cF, f, rfl, ⟨hF, x1, hx4⟩, ⟨hFH, y1, hy4⟩, ⟨hlf, f1⟩, hB⟩
  have HB1 := Lib.hid hB
  have HF := Lib.hid hF
  have HFH := Lib.hid hFH
  have HLF := Lib.hid hlf
  obtain ⟨m, HM⟩ : ∃ m, Hid (mapOkI G H f = m) := ⟨_, rfl⟩
  obtain ⟨ys, HY, HYL⟩ : ∃ ys, Hid (kbI G H f = ys) ∧ Hid (ys.length ≤ 1048576) := ⟨_, rfl, by
    unfold Hid kbI
    split
    · rw [kby_length]; exact hlf
    · simp⟩
  have hyl := HYL.out
  clear hB hF hFH hy
  go_wp2_with fail
  refine (implKby _ _ _ _ _ _ _ _ _ _ x1 y1 f1 HF.out HFH.out HLF.out).mono ?_
  rw [HY.out]
  rintro e w2 ⟨b2, c2, ⟨rfl, hB2⟩, hO2⟩
  have g2 := own_intsQ hO2
  clear hO2
  have hz2 := hB2.size
  have x2 := (x1.below hB2).more hz2
  have y2 := (y1.below hB2).more hz2
  have f2 := (f1.below hB2).more hz2
  have HB2 := Lib.hid (HB1.out.trans (hB2.mono HB1.out.size))
  clear hB2 hz2 x1 y1 f1
  go_wp2_with fail
  refine (specKby _ _ _ _ _ _ _ _ _ _ _ x2 y2 f2 (Nat.le_refl _) HF.out HFH.out HLF.out).mono ?_
  rw [HY.out]
  rintro e w3 ⟨b3, c3, ⟨rfl, hB3⟩, hO3⟩
  have t3 := own_intsQ hO3
  clear hO3
  have hz3 := hB3.size
  have x3 := (x2.below hB3).more hz3
  have y3 := (y2.below hB3).more hz3
  have f3 := (f2.below hB3).more hz3
  have g3 := (g2.below hB3).more hz3
  have HB3 := Lib.hid (HB2.out.trans (hB3.mono HB2.out.size))
  clear hB3 hz3 x2 y2 f2 g2
  go_wp2_with fail
  refine (sameS_same _ _ _ _ _ _ _ g3 t3 HYL.out).mono ?_
  rintro e w4 h4
  obtain ⟨rfl, hB4⟩ := h4.below
  clear h4
  have hz4 := hB4.size
  have x4 := (x3.below hB4).more hz4
  have y4 := (y3.below hB4).more hz4
  have f4 := (f3.below hB4).more hz4
  have g4 := (g3.below hB4).more hz4
  have t4 := (t3.below hB4).more hz4
  have HB4 := Lib.hid (HB3.out.trans (hB4.mono HB3.out.size))
  clear hB4 hz4 x3 y3 f3 g3 t3
  clear t4
  cases m with
  | false =>
    obtain rfl : ys = [] := HY.out.symm.trans (kb_no HM.out)
    clear g4
    go_wp2_with fail
    refine (implMapOk _ _ _ _ _ _ _ _ _ _ x4 y4 f4 HF.out HFH.out HLF.out).mono ?_
    rw [HM.out]
    rintro e w5 ⟨rfl, hB5⟩
    have hz5 := hB5.size
    have x5 := (x4.below hB5).more hz5
    have y5 := (y4.below hB5).more hz5
    have f5 := (f4.below hB5).more hz5
    have HB5 := Lib.hid (HB4.out.trans (hB5.mono HB4.out.size))
    clear hB5 hz5 x4 y4 f4
    clear x5 y5 f5
    go_wp2_with fail
    refine (alive_any _).mono ?_
    rintro e w6 ⟨rfl, hB6⟩
    have hz6 := hB6.size
    have HB6 := Lib.hid (HB5.out.trans (hB6.mono HB5.out.size))
    clear hB6 hz6 
    go_wp2_with fail
    go_ret
    exact ⟨rfl, HB6.out⟩
  | true =>
    have hys : ys = kbyL f := HY.out.symm.trans (kb_yes HM.out)
    obtain ⟨hfl, hf1, hf9⟩ := map_le HM.out
    have hyn : ys.length = f.length := by rw [hys, kby_length]
    have hmo := mapOk_iff.1 HM.out
    have HKO : Hid (kOkI G ys = true) := Lib.hid (by rw [hys]; exact kby_kOk hmo.1.1 hfl)
    have HIF : Hid (∀ i j, i < f.length → j < f.length → ((ys[i]? = ys[j]?) ↔ f[i]? = f[j]?)) := Lib.hid fun i j hi hj => by rw [hys]; exact kby_get_iff hi hj
    have hy1' : 1 ≤ ys.length := by omega
    have hyp : ((ys.length : Int) == 0) = false := len_ne6 (by omega)
    have hyn1 : ys.length ≤ f.length := by omega
    have hyn2 : f.length ≤ ys.length := by omega
    clear hys hmo hyn hfl
    go_wp2_with fail
    go_loopw [7] (fun i wr => ∃ k : Nat, k ≤ f.length ∧ i = .int .i64 k ∧ Below w4.heap.size w4 wr) (fun i _ => f.length - (intOf i).toNat)
    case atStart => exact ⟨0, Nat.zero_le _, rfl, Below.refl _ _⟩
    case round =>
      obtain ⟨k, hk, rfl, hB⟩ := hrel
      by_cases hlt : k < f.length
      · go_wp2_with fail
        go_loopw [8] (fun i wr => ∃ j : Nat, j ≤ f.length ∧ i = .int .i64 j ∧ Below w4.heap.size w4 wr) (fun i _ => f.length - (intOf i).toNat)
        case atStart => exact ⟨0, Nat.zero_le _, rfl, hB⟩
        case round =>
          clear hB
          obtain ⟨j, hj, rfl, hB⟩ := hrel
          by_cases hlj : j < f.length
          · obtain ⟨b1, o1, v1, e1, _, hc1, HV1⟩ := (g4.below hB).at_ (show k < ys.length by omega)
            obtain ⟨b2, o2, v2, e2, _, hc2, HV2⟩ := (g4.below hB).at_ (show j < ys.length by omega)
            obtain ⟨b3, o3, v3, e3, _, hc3, HV3⟩ := (f4.below hB).at_ hlt
            obtain ⟨b4, o4, v4, e4, _, hc4, HV4⟩ := (f4.below hB).at_ hlj
            subst e1
            cases e2
            subst e3
            cases e4
            have hv : (v1 == v2) = (v3 == v4) := by
              have h := HIF.out k j hlt hlj
              rw [HV1.out, HV2.out, HV3.out, HV4.out, Option.some_inj, Option.some_inj] at h
              rw [Bool.eq_iff_iff, beq_iff_eq, beq_iff_eq]; exact h
            have hvv : (!((v1 == v2) == (v3 == v4))) = false := by rw [hv]; simp
            have hky : k < ys.length := by omega
            have hjy : j < ys.length := by omega
            clear hv
            go_wp2_with fail
            go_still (by kernel_rfl)
            go_wp2_with fail
            go_roundw
            case rel => exact ⟨j + 1, by omega, by go_num, hB.drew⟩
            case measure => simp [intOf]; omega
          · obtain rfl : j = f.length := by omega
            go_wp2_with fail
            go_roundw
            case rel => exact ⟨k + 1, by omega, by go_num, hB⟩
            case measure => simp [intOf]; omega
      · have hws := hB.size
        have x5 := (x4.below hB).more hws
        have g5' := (g4.below hB).more hws
        have HB5 := Lib.hid (HB4.out.trans (hB.mono HB4.out.size))
        obtain ⟨w5, rfl⟩ : ∃ w5 : World, w5 = wr := ⟨_, rfl⟩
        clear x4 y4 f4 g4 hB hws
        have g5 := g5'
        clear g5'
        go_wp2_with fail
        refine (implKinds _ _ _ _ _ _ _ x5 g5 HF.out HYL.out).mono ?_
        rw [HKO.out]
        rintro e w6 ⟨rfl, hB6⟩
        have hz6 := hB6.size
        have x6 := (x5.below hB6).more hz6
        have g6 := (g5.below hB6).more hz6
        have HB6 := Lib.hid (HB5.out.trans (hB6.mono HB5.out.size))
        clear hB6 hz6 x5 g5
        go_wp2_with fail
        go_ret
        exact ⟨rfl, HB6.out⟩

end Go.Proofs.Ytdolpkjighbohaa
