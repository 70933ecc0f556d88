/-
  The walk of the law of P22 (StaysOf).
-/
import Derived.Test.YtiappomfohnhoaaD14
import Derived.Test.YtiappomfohnhoaaZV
import Derived.Test.YtiappomfohnhoaaZR
import Derived.Test.YtiappomfohnhoaaM11
import Derived.Test.YtiappomfohnhoaaG1
namespace Go.Proofs.Ytiappomfohnhoaa
open Go.RowKit Go.Shelf

set_option maxRecDepth 100000 in
set_option maxHeartbeats 8000000 in
theorem staysOf_any (a : Option Addr) (n c : Nat) (w : World) (hc : n ≤ c) (hl : n ≤ 9223372036854775807) (hy : Bytes w.heap.size w a n) :
    Calls Try.prog 14 #[.slice a n c] w (Ans (.bool true) w) := by
  by_cases hbign : 1048576 < n
  · go_enter Try.func14, Try.ntmps14
    go_wp2_with fail
    go_ret
    exact ⟨rfl, Below.refl _ _⟩
  go_enter Try.func14, Try.ntmps14
  go_wp2_with fail
  refine (drawStaysOf_any a n c w (by omega) hc hy).mono ?_
  rintro e w1 ⟨aG, cG, G, rfl, ⟨hF, x1, hx4⟩, hB⟩
  have HB1 := Lib.hid hB
  have HF := Lib.hid hF
  have hlG := hF.1
  obtain ⟨z, HZ⟩ : ∃ z, Hid (g5 G = z) := ⟨_, rfl⟩
  have HSL : Hid ((staL G).length ≤ 1048576) := Lib.hid (by
    cases h : g5 G with
    | true => rw [(sta_map h).1.1]; exact hlG
    | false => rw [staL_no h]; simp)
  obtain ⟨f, HS⟩ : ∃ f, Hid (staL G = f) := ⟨_, rfl⟩
  rw [HS.out] at HSL
  have hsl := HSL.out
  have hzz : (z != z) = false := by simp
  clear hB hF hy
  go_wp2_with fail
  refine (implStaysOf _ _ _ _ x1 HF.out).mono ?_
  rw [HS.out, HZ.out]
  rintro e w2 ⟨b2, c2, ⟨rfl, hB2⟩, hO2⟩
  have f2 := own_intsQ hO2
  clear hO2
  have hz2 := hB2.size
  have x2 := (x1.below hB2).more hz2
  have HB2 := Lib.hid (HB1.out.trans (hB2.mono HB1.out.size))
  clear hB2 hz2 x1
  go_wp2_with fail
  refine (specStaysOf _ _ _ _ _ x2 (Nat.le_refl _) HF.out).mono ?_
  rw [HS.out, HZ.out]
  rintro e w3 ⟨b3, c3, ⟨rfl, hB3⟩, g3⟩
  have hz3 := hB3.size
  have x3 := (x2.below hB3).more hz3
  have f3 := (f2.below hB3).more hz3
  have HB3 := Lib.hid (HB2.out.trans (hB3.mono HB2.out.size))
  clear hB3 hz3 x2 f2
  go_wp2_with fail
  refine (sameS_same _ _ _ _ _ _ _ f3 g3 HSL.out).mono ?_
  rintro e w4 h4
  obtain ⟨rfl, hB4⟩ := h4.below
  clear h4
  have hz4 := hB4.size
  have x4 := (x3.below hB4).more hz4
  have f4 := (f3.below hB4).more hz4
  have g4 := (g3.below hB4).more hz4
  have HB4 := Lib.hid (HB3.out.trans (hB4.mono HB3.out.size))
  clear hB4 hz4 x3 f3 g3
  clear g4
  cases z with
  | false =>
    obtain rfl : f = [] := HS.out.symm.trans (staL_no HZ.out)
    clear x4 f4
    go_wp2_with fail
    refine (alive_any _).mono ?_
    rintro e w5 ⟨rfl, hB5⟩
    have hz5 := hB5.size
    have HB5 := Lib.hid (HB4.out.trans (hB5.mono HB4.out.size))
    clear hB5 hz5 
    go_wp2_with fail
    go_ret
    exact ⟨rfl, HB5.out⟩
  | true =>
    have hst := sta_best HZ.out
    rw [HS.out] at hst
    have HIF : Hid (imaI G G f = imgL G.length f) := Lib.hid (imaI_yes (stys_iff.1 hst.2.1).1)
    have HSF := Lib.hid hst.2.1
    have HMIN := Lib.hid hst.2.2
    have h1 := sta_img HZ.out
    rw [HS.out] at h1
    have hi9 := imgL_le (m := G.length) f
    obtain ⟨q, HQ⟩ : ∃ q : Nat, Hid ((imgL G.length f).length = q) := ⟨_, rfl⟩
    rw [HQ.out] at h1 hi9
    have HMLF : Hid (∀ xs ∈ mapsL G G, xs.length ≤ 1048576 ∧ imaI G G xs = imgL G.length xs) := Lib.hid fun xs hx => by
      obtain ⟨hg, h5⟩ := g5_iff.1 HZ.out
      have hm := (mapsL_mem (few5 hg hg h5 h5) xs).1 hx
      exact ⟨by rw [hm.1.1]; exact hlG, imaI_yes (mapOk_iff.2 ⟨⟨hg, hg⟩, hm⟩)⟩
    have hl7 := mapsL_le G G
    obtain ⟨ls, HLS⟩ : ∃ ls, Hid (mapsL G G = ls) := ⟨_, rfl⟩
    rw [HLS.out] at HMLF hl7
    clear hst hzz
    go_wp2_with fail
    refine (implImage _ _ _ _ _ _ _ _ _ _ x4 x4 f4 HF.out HF.out HSL.out).mono ?_
    rw [HIF.out]
    rintro e w5 ⟨b5, c5, ⟨rfl, hB5⟩, -⟩
    rw [HQ.out]
    have hz5 := hB5.size
    have x5 := (x4.below hB5).more hz5
    have f5 := (f4.below hB5).more hz5
    have HB5 := Lib.hid (HB4.out.trans (hB5.mono HB4.out.size))
    clear hB5 hz5 x4 f4
    go_wp2_with fail
    refine (implMaps _ _ _ _ _ _ _ x5 x5 HF.out HF.out).mono ?_
    rw [HLS.out]
    rintro e w6 ⟨b6, c6, ⟨rfl, hB6⟩, hO6⟩
    have l6 := hO6.mat.mat
    clear hO6
    have hz6 := hB6.size
    have x6 := (x5.below hB6).more hz6
    have f6 := (f5.below hB6).more hz6
    have HB6 := Lib.hid (HB5.out.trans (hB6.mono HB5.out.size))
    clear hB6 hz6 x5 f5
    go_wp2_with fail
    go_loopw [10] (fun i wr => ∃ k : Nat, k ≤ ls.length ∧ i = .int .i64 k ∧ Below w6.heap.size w6 wr) (fun i _ => ls.length - (intOf i).toNat)
    case atStart => exact ⟨0, Nat.zero_le _, rfl, Below.refl _ _⟩
    case round =>
      obtain ⟨k, hk, rfl, hB⟩ := hrel
      have hws := hB.size
      by_cases hlt : k < ls.length
      · obtain ⟨b1, o1, ar, cr, xs, rfl, hb1, hc1, hI1, HXS⟩ := (l6.below hB).at_ hlt
        obtain ⟨hx9, hima⟩ := HMLF.out xs (List.mem_of_getElem? HXS.out)
        have HI := Lib.hid hima
        have HX9 := Lib.hid hx9
        have hMr := (x6.below hB).more hws
        have u1 := imgL_le (m := G.length) xs
        obtain ⟨p, HP⟩ : ∃ p : Nat, Hid ((imgL G.length xs).length = p) := ⟨_, rfl⟩
        rw [HP.out] at u1
        obtain ⟨t, HT⟩ : ∃ t, Hid (stysI G xs = t) := ⟨_, rfl⟩
        clear hima
        go_wp2_with fail
        refine (implStays _ _ _ _ _ _ _ hMr (hI1.more hws) HF.out HX9.out).mono ?_
        rw [HT.out]
        rintro e w7 ⟨rfl, hD⟩
        have hBX := hB.trans (hD.mono hws)
        have hz7 := hBX.size
        have hI7 := (hI1.below (hD.mono hws)).more hz7
        have hM7 := (x6.below hBX).more hz7
        have hc7 : w7.cell? ⟨b1, o1 + k, none⟩ = some (.slice ar xs.length cr) := (hD.cell (p := ⟨b1, o1 + k, none⟩) (Nat.lt_of_lt_of_le hb1 hws)).trans hc1
        clear hD hI1 hMr hc1 hB
        cases t with
        | false =>
          go_wp2_with fail
          go_roundw
          case rel => exact ⟨k + 1, by omega, by go_num, hBX⟩
          case measure => simp [intOf]; omega
        | true =>
          have hpq : q ≤ p := by have := HMIN.out xs HT.out; rw [HP.out, HQ.out] at this; exact this
          go_wp2_with fail
          refine (implImage _ _ _ _ _ _ _ _ _ _ hM7 hM7 hI7 HF.out HF.out HX9.out).mono ?_
          rw [HI.out]
          rintro e w8 ⟨b8, c8, ⟨rfl, hD⟩, -⟩
          rw [HP.out]
          have hBY := hBX.trans (hD.mono hz7)
          clear hD hI7 hM7 hc7 hBX hz7
          go_wp2_with fail
          go_roundw
          case rel => exact ⟨k + 1, by omega, by go_num, hBY⟩
          case measure => simp [intOf]; omega
      · have x7 := (x6.below hB).more hws
        have f7 := (f6.below hB).more hws
        have HB7 := Lib.hid (HB6.out.trans (hB.mono HB6.out.size))
        obtain ⟨w7, rfl⟩ : ∃ w7 : World, w7 = wr := ⟨_, rfl⟩
        clear x6 f6 l6 hB hws
        go_wp2_with fail
        refine (implStays _ _ _ _ _ _ _ x7 f7 HF.out HSL.out).mono ?_
        rw [HSF.out]
        rintro e w8 ⟨rfl, hB8⟩
        have hz8 := hB8.size
        have x8 := (x7.below hB8).more hz8
        have f8 := (f7.below hB8).more hz8
        have HB8 := Lib.hid (HB7.out.trans (hB8.mono HB7.out.size))
        clear hB8 hz8 x7 f7
        go_wp2_with fail
        go_ret
        exact ⟨ret_bool (decide_eq_true (by omega)), HB8.out⟩

end Go.Proofs.Ytiappomfohnhoaa
