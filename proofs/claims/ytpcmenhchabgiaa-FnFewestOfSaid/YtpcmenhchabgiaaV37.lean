/-
  The walk of the law of P44 (FewestOf).
-/
import Derived.Test.YtpcmenhchabgiaaWX
import Derived.Test.YtpcmenhchabgiaaWU
import Derived.Test.YtpcmenhchabgiaaZR
import Derived.Test.YtpcmenhchabgiaaWT
import Derived.Test.YtpcmenhchabgiaaZB
import Derived.Test.YtpcmenhchabgiaaVA
namespace Go.Proofs.Ytpcmenhchabgiaa
open Go.RowKit Go.Shelf

set_option maxRecDepth 100000 in
set_option maxHeartbeats 8000000 in
theorem fewestOf_any (a : Option Addr) (n c : Nat) (w : World) (hc : n ≤ c) (hl : n ≤ 9223372036854775807) (hy : Bytes w.heap.size w a n) :
    Calls Try.prog 6 #[.slice a n c] w (Ans (.bool true) w) := by
  by_cases hbign : 1048576 < n
  · go_enter Try.func6, Try.ntmps6
    go_wp2_with fail
    go_ret
    exact ⟨rfl, Below.refl _ _⟩
  go_enter Try.func6, Try.ntmps6
  go_wp2_with fail
  refine (drawFewestOf_any a n c w (by omega) hc hy).mono ?_
  rintro e w1 ⟨aG, cG, G, rfl, ⟨hF, x1, hx4⟩, hB⟩
  have HB1 := Lib.hid hB
  have HF := Lib.hid hF
  obtain ⟨f, HK⟩ : ∃ f, Hid (fwK G = f) := ⟨_, rfl⟩
  obtain ⟨z, HI⟩ : ∃ z, Hid (fwI G = z) := ⟨_, rfl⟩
  obtain ⟨m, HM⟩ : ∃ m, Hid (gOk G = m) := ⟨_, rfl⟩
  have hff : (f != f) = false := by simp
  have hzz : (z != z) = false := by simp
  have hx4i : ¬ (4 : Int) < (G.length : Int) := by omega
  clear hB hF hy
  go_wp2_with fail
  refine (implFwst _ _ _ _ x1 HF.out).mono ?_
  rw [HI.out, HK.out]
  rintro e w2 ⟨rfl, hB2⟩
  have hz2 := hB2.size
  have x2 := (x1.below hB2).more hz2
  have HB2 := Lib.hid (HB1.out.trans (hB2.mono HB1.out.size))
  clear hB2 hz2 x1
  go_wp2_with fail
  refine (specFwst _ _ _ _ _ x2 (Nat.le_refl _) HF.out).mono ?_
  rw [HI.out, HK.out]
  rintro e w3 ⟨rfl, hB3⟩
  have hz3 := hB3.size
  have x3 := (x2.below hB3).more hz3
  have HB3 := Lib.hid (HB2.out.trans (hB3.mono HB2.out.size))
  clear hB3 hz3 x2
  go_wp2_with fail
  refine (specOk_any _ _ _ _ _ x3 HF.out).mono ?_
  rw [HM.out]
  rintro e wq ⟨rfl, rfl⟩
  cases m with
  | false =>
    obtain rfl : f = false := by rw [← HK.out]; unfold fwK g4; rw [HM.out]; rfl
    obtain rfl : z = -1 := by rw [← HI.out]; exact fw_noI HK.out
    clear x3
    go_wp2_with fail
    refine (alive_any _).mono ?_
    rintro e w4 ⟨rfl, hB4⟩
    have hz4 := hB4.size
    have HB4 := Lib.hid (HB3.out.trans (hB4.mono HB3.out.size))
    clear hB4 hz4 
    go_wp2_with fail
    go_ret
    exact ⟨rfl, HB4.out⟩
  | true =>
    have hg4 : g4 G = true := g4_iff.2 ⟨HM.out, hx4⟩
    have HGD := Lib.hid (good_of HM.out)
    have HG4 := Lib.hid hg4
    have hfl : f = !(lpK G G.length) := by rw [← HK.out]; exact fw_lp hg4
    have HFL := Lib.hid hfl
    clear hfl hg4
    go_wp2_with fail
    go_loopw [8, 9] (fun u i wr => ∃ (k : Nat) (b : Bool), k ≤ G.length ∧ i = .int .i64 k ∧ u = .bool b ∧ Hid (lpK G k = b) ∧ w3 = wr) (fun _ i _ => G.length - (intOf i).toNat)
    case atStart => exact ⟨0, false, Nat.zero_le _, rfl, rfl, rfl, rfl⟩
    case round =>
      obtain ⟨k, b, hk, rfl, rfl, HB, rfl⟩ := hrel
      by_cases hlt : k < G.length
      · skip
        obtain ⟨b1, o1, ar, cr, xs, rfl, hb1, hc1, hI1, HXS⟩ := x3.at_ hlt
        have HE := Lib.hid (HGD.out.len HXS.out)
        have hjx : k < xs.length := by rw [HE.out]; exact hlt
        obtain ⟨b2, o2, v, rfl, hb2, hc2, HY⟩ := hI1.at_ hjx
        have hls : lpK G (k + 1) = (b || v == 1) := by rw [lpK_at HXS.out HY.out, HB.out]
        have hki : (k : Int) < (G.length : Int) := by omega
        have hkx : (k : Int) < (xs.length : Int) := by omega
        clear hI1
        cases b with
        | true =>
          go_wp2_with fail
          go_roundw
          case rel => exact ⟨k + 1, true, by omega, by go_num, rfl, Lib.hid (by rw [hls]; rfl), by first | rfl | trivial⟩
          case measure => simp [intOf]; omega
        | false =>
          have HV := Lib.hid hls
          clear hls
          by_cases hv : v = 1
          · subst hv
            go_wp2_with fail
            go_roundw
            case rel => exact ⟨k + 1, true, by omega, by go_num, rfl, Lib.hid (by rw [HV.out]; rfl), by first | rfl | trivial⟩
            case measure => simp [intOf]; omega
          · go_wp2_with fail
            go_roundw
            case rel => exact ⟨k + 1, false, by omega, by go_num, by simp [hv], Lib.hid (by rw [HV.out]; simp [hv]), by first | rfl | trivial⟩
            case measure => simp [intOf]; omega
      · obtain rfl : k = G.length := by omega
        have hfb : f = !b := by rw [HFL.out, HB.out]
        clear HB hlt
        cases b with
        | true =>
          obtain rfl : f = false := hfb
          obtain rfl : z = -1 := by rw [← HI.out]; exact fw_noI HK.out
          clear x3
          go_wp2_with fail
          refine (alive_any _).mono ?_
          rintro e w4 ⟨rfl, hB4⟩
          have hz4 := hB4.size
          have HB4 := Lib.hid (HB3.out.trans (hB4.mono HB3.out.size))
          clear hB4 hz4 
          go_wp2_with fail
          go_ret
          exact ⟨rfl, HB4.out⟩
        | false =>
          obtain rfl : f = true := hfb
          obtain ⟨n, hn⟩ := (fwK_some HK.out).2
          obtain ⟨hnb, hnp⟩ := fw_some hn
          have hzn : z = (n : Int) := by rw [← HI.out]; exact (fw_yesI HG4.out hn).1
          subst hzn
          have HN1 : Hid (n = 1 ∨ (¬ (n : Int) = 1 ∧ cocI G ((n : Int) - 1) = 0)) := Lib.hid (by
            by_cases e : n = 1
            · exact .inl e
            · refine .inr ⟨by omega, ?_⟩
              have h5 := g4_g5 HG4.out
              have h := coc_zero h5 (show 1 ≤ n - 1 by omega) (by omega) (((fw_iff HG4.out).1 hn).2.2 (n - 1) (by omega) (by omega))
              rwa [show ((n - 1 : Nat) : Int) = (n : Int) - 1 by omega] at h)
          obtain ⟨hc1, hc2⟩ := fw_coreI HG4.out
          obtain ⟨P, HP⟩ : ∃ P, Hid (corL G = P) := ⟨_, rfl⟩
          have HPF : Hid (Fit P) := Lib.hid (by rw [← HP.out]; exact (good_of (g4_iff.1 (fw_core HG4.out).1).1).fit)
          have HG5 := Lib.hid (g4_g5 HG4.out)
          rw [HI.out, HP.out] at hc1
          rw [HK.out, HP.out] at hc2
          have HC1 := Lib.hid hc1
          have HC2 := Lib.hid hc2
          obtain ⟨y, HY⟩ : ∃ y, Hid (cocI G (n : Int) = y) := ⟨_, rfl⟩
          rw [HY.out] at hnp
          clear hc1 hc2 hn
          go_wp2_with fail
          refine (implCoreOf _ _ _ _ x3 HF.out).mono ?_
          rw [HP.out, HG5.out]
          rintro e w4 ⟨b4, c4, ⟨rfl, hB4⟩, hO4⟩
          have p4 := hO4.mat
          clear hO4
          have hz4 := hB4.size
          have x4 := (x3.below hB4).more hz4
          have HB4 := Lib.hid (HB3.out.trans (hB4.mono HB3.out.size))
          clear hB4 hz4 x3
          go_wp2_with fail
          refine (implFwst _ _ _ _ p4 HPF.out).mono ?_
          rw [HC1.out, HC2.out]
          rintro e w5 ⟨rfl, hB5⟩
          have hz5 := hB5.size
          have x5 := (x4.below hB5).more hz5
          have p5 := (p4.below hB5).more hz5
          have HB5 := Lib.hid (HB4.out.trans (hB5.mono HB4.out.size))
          clear hB5 hz5 x4 p4
          clear p5
          go_wp2_with fail
          refine (implCoc _ _ _ _ _ x5 HF.out).mono ?_
          rw [HY.out]
          rintro e w6 ⟨rfl, hB6⟩
          have hz6 := hB6.size
          have x6 := (x5.below hB6).more hz6
          have HB6 := Lib.hid (HB5.out.trans (hB6.mono HB5.out.size))
          clear hB6 hz6 x5
          rcases HN1.out with rfl | ⟨hn1, hcz⟩
          · clear x6
            go_wp2_with fail
            go_ret
            exact ⟨rfl, HB6.out⟩
          · have HCZ := Lib.hid hcz
            clear hcz
            go_wp2_with fail
            refine (implCoc _ _ _ _ _ x6 HF.out).mono ?_
            rw [HCZ.out]
            rintro e w7 ⟨rfl, hB7⟩
            have hz7 := hB7.size
            have x7 := (x6.below hB7).more hz7
            have HB7 := Lib.hid (HB6.out.trans (hB7.mono HB6.out.size))
            clear hB7 hz7 x6
            clear x7
            go_wp2_with fail
            go_ret
            exact ⟨rfl, HB7.out⟩

end Go.Proofs.Ytpcmenhchabgiaa
