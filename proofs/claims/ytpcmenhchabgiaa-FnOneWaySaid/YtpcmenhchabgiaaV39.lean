/-
  The walk of the law of P46 (OneWay).
-/
import Derived.Test.YtpcmenhchabgiaaWX
import Derived.Test.YtpcmenhchabgiaaZA
import Derived.Test.YtpcmenhchabgiaaZE
import Derived.Test.YtpcmenhchabgiaaWT
import Derived.Test.YtpcmenhchabgiaaZB
import Derived.Test.YtpcmenhchabgiaaVA
namespace Go.Proofs.Ytpcmenhchabgiaa
open Go.RowKit Go.Shelf

set_option maxRecDepth 100000 in
set_option maxHeartbeats 8000000 in
theorem oneWay_any (a : Option Addr) (n c : Nat) (w : World) (hc : n ≤ c) (hl : n ≤ 9223372036854775807) (hy : Bytes w.heap.size w a n) :
    Calls Try.prog 8 #[.slice a n c] w (Ans (.bool true) w) := by
  by_cases hbign : 1048576 < n
  · go_enter Try.func8, Try.ntmps8
    go_wp2_with fail
    go_ret
    exact ⟨rfl, Below.refl _ _⟩
  go_enter Try.func8, Try.ntmps8
  go_wp2_with fail
  refine (drawOneWay_any a n c w (by omega) hc hy).mono ?_
  rintro e w1 ⟨aG, cG, G, z, rfl, ⟨hF, x1, hx4⟩, ⟨z0, z1⟩, hB⟩
  have HB1 := Lib.hid hB
  have HF := Lib.hid hF
  obtain ⟨P, HP, HPF⟩ : ∃ P, Hid (owL G z = P) ∧ Hid (Fit P) := ⟨_, rfl, ow_fit⟩
  have hPl := HPF.out.1
  clear hB hF hy
  go_wp2_with fail
  refine (implOw _ _ _ _ _ x1 HF.out).mono ?_
  rw [HP.out]
  rintro e w2 ⟨b2, c2, ⟨rfl, hB2⟩, hO2⟩
  have y2 := hO2.mat.mat
  clear hO2
  have hz2 := hB2.size
  have x2 := (x1.below hB2).more hz2
  have HB2 := Lib.hid (HB1.out.trans (hB2.mono HB1.out.size))
  clear hB2 hz2 x1
  go_wp2_with fail
  refine (specOwR _ _ _ _ _ x2 HF.out).mono ?_
  rw [HP.out]
  rintro e w3 ⟨b3, c3, ⟨rfl, hB3⟩, t3⟩
  have hz3 := hB3.size
  have x3 := (x2.below hB3).more hz3
  have y3 := (y2.below hB3).more hz3
  have HB3 := Lib.hid (HB2.out.trans (hB3.mono HB2.out.size))
  clear hB3 hz3 x2 y2
  go_wp2_with fail
  refine (sameSS_same _ _ _ _ _ _ _ y3 t3 HPF.out).mono ?_
  rintro e w4 h4
  obtain ⟨rfl, hB4⟩ := h4.below
  clear h4
  have hz4 := hB4.size
  have x4 := (x3.below hB4).more hz4
  have y4 := (y3.below hB4).more hz4
  have t4 := (t3.below hB4).more hz4
  have HB4 := Lib.hid (HB3.out.trans (hB4.mono HB3.out.size))
  clear hB4 hz4 x3 y3 t3
  clear t4
  by_cases hk : owK G z = true
  · have hg := (owK_iff.1 hk).1
    have hG1 := (good_of hg).1
    have hpl : P.length = G.length := by rw [← HP.out]; exact ow_len hk
    have hP1 : 1 ≤ P.length := by omega
    have hlp : ((P.length : Int) == 0) = false := by rw [beq_eq_false_iff_ne]; omega
    have hpg : Good P := by rw [← HP.out]; exact ow_good hk
    have HGD := Lib.hid hpg
    have HGK : Hid (gOk P = true) := Lib.hid (gOk_true hpg)
    have HONE : Hid (∀ i j, i < P.length → j < i → ent P i j = 1 → ent P j i = 1 → False) := Lib.hid fun i j hi hj h1 h2 => by
      have e1 := arw_ent.2 h1
      have e2 := arw_ent.2 h2
      rw [← HP.out, ow_arw hk (by omega) (by omega)] at e1 e2
      exact ow_one (by omega) e1 e2
    obtain ⟨Q, HQ, HQF⟩ : ∃ Q, Hid (bwL G = Q) ∧ Hid (Fit Q) := ⟨_, rfl, bw_fit⟩
    have HQP : Hid (bwL P = Q) := Lib.hid (by rw [← HP.out, ow_bw hk, HQ.out])
    clear hk hg hpl hpg hG1
    go_wp2_with fail
    go_loopw [6] (fun i wr => ∃ k : Nat, k ≤ P.length ∧ i = .int .i64 k ∧ w4 = wr) (fun i _ => P.length - (intOf i).toNat)
    case atStart => exact ⟨0, Nat.zero_le _, rfl, rfl⟩
    case round =>
      obtain ⟨k, hk, rfl, rfl⟩ := hrel
      by_cases hlt : k < P.length
      · go_wp2_with fail
        go_loopw [7] (fun i wr => ∃ j : Nat, j ≤ k ∧ i = .int .i64 j ∧ w4 = wr) (fun i _ => P.length - (intOf i).toNat)
        case atStart => exact ⟨0, Nat.zero_le _, rfl, rfl⟩
        case round =>
          obtain ⟨j, hj, rfl, rfl⟩ := hrel
          by_cases hlj : j < k
          · have hjl : j < P.length := by omega
            obtain ⟨b1, o1, a1, c1, xs, e1, hb1, hc1, hI1, HX1⟩ := y4.at_ hlt
            obtain ⟨b3, o3, a3, c3, ys, e3, hb3, hc3, hI3, HX3⟩ := y4.at_ hjl
            have HE1 := Lib.hid (HGD.out.len HX1.out)
            have HE3 := Lib.hid (HGD.out.len HX3.out)
            have hjx : j < xs.length := by rw [HE1.out]; exact hjl
            have hkx : k < ys.length := by rw [HE3.out]; exact hlt
            obtain ⟨b4, o4, v, rfl, hb4, hc4, HY4⟩ := hI1.at_ hjx
            obtain ⟨b5, o5, u, rfl, hb5, hc5, HY5⟩ := hI3.at_ hkx
            subst e1
            cases e3
            have hno : v = 1 → u = 1 → False := fun h1 h2 => HONE.out k j hlt hlj ((ent_eq HX1.out HY4.out).trans h1) ((ent_eq HX3.out HY5.out).trans h2)
            clear hI1 hI3
            by_cases hv : v = 1
            · have hu : ¬ u = 1 := fun h => hno hv h
              subst hv
              clear hno
              go_wp2_with fail
              go_roundw
              case rel => exact ⟨j + 1, by omega, by go_num, by first | rfl | trivial⟩
              case measure => simp [intOf]; omega
            · clear hno
              go_wp2_with fail
              go_roundw
              case rel => exact ⟨j + 1, by omega, by go_num, by first | rfl | trivial⟩
              case measure => simp [intOf]; omega
          · obtain rfl : j = k := by omega
            go_wp2_with fail
            go_roundw
            case rel => exact ⟨j + 1, by omega, by go_num, by first | rfl | trivial⟩
            case measure => simp [intOf]; omega
      · skip
        go_wp2_with fail
        refine (implOk _ _ _ _ y4 HPF.out).mono ?_
        rw [HGK.out]
        rintro e w5 ⟨rfl, hB5⟩
        have hz5 := hB5.size
        have x5 := (x4.below hB5).more hz5
        have y5 := (y4.below hB5).more hz5
        have HB5 := Lib.hid (HB4.out.trans (hB5.mono HB4.out.size))
        clear hB5 hz5 x4 y4
        go_wp2_with fail
        refine (implBw _ _ _ _ y5 HPF.out).mono ?_
        rw [HQP.out]
        rintro e w6 ⟨b6, c6, ⟨rfl, hB6⟩, hO6⟩
        have p6 := hO6.mat.mat
        clear hO6
        have hz6 := hB6.size
        have x6 := (x5.below hB6).more hz6
        have y6 := (y5.below hB6).more hz6
        have HB6 := Lib.hid (HB5.out.trans (hB6.mono HB5.out.size))
        clear hB6 hz6 x5 y5
        go_wp2_with fail
        refine (implBw _ _ _ _ x6 HF.out).mono ?_
        rw [HQ.out]
        rintro e w7 ⟨b7, c7, ⟨rfl, hB7⟩, hO7⟩
        have q7 := hO7.mat.mat
        clear hO7
        have hz7 := hB7.size
        have x7 := (x6.below hB7).more hz7
        have y7 := (y6.below hB7).more hz7
        have p7 := (p6.below hB7).more hz7
        have HB7 := Lib.hid (HB6.out.trans (hB7.mono HB6.out.size))
        clear hB7 hz7 x6 y6 p6
        go_wp2_with fail
        refine (sameSS_same _ _ _ _ _ _ _ p7 q7 HQF.out).mono ?_
        rintro e w8 h8
        obtain ⟨rfl, hB8⟩ := h8.below
        clear h8
        have hz8 := hB8.size
        have x8 := (x7.below hB8).more hz8
        have y8 := (y7.below hB8).more hz8
        have p8 := (p7.below hB8).more hz8
        have q8 := (q7.below hB8).more hz8
        have HB8 := Lib.hid (HB7.out.trans (hB8.mono HB7.out.size))
        clear hB8 hz8 x7 y7 p7 q7
        clear x8 y8 p8 q8
        go_wp2_with fail
        go_ret
        exact ⟨rfl, HB8.out⟩
  · obtain rfl : P = [] := HP.out.symm.trans (ow_no (by simpa using hk))
    clear x4 y4
    go_wp2_with fail
    refine (alive_any _).mono ?_
    rintro e w5 ⟨rfl, hB5⟩
    have hz5 := hB5.size
    have HB5 := Lib.hid (HB4.out.trans (hB5.mono HB4.out.size))
    clear hB5 hz5 
    go_wp2_with fail
    go_ret
    exact ⟨rfl, HB5.out⟩

end Go.Proofs.Ytpcmenhchabgiaa
