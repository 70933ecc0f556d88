/-
  The walk of the law of P53 (CoverOk).
-/
import Derived.Test.YtldkgkpiceamhaaXD
import Derived.Test.YtldkgkpiceamhaaXB
import Derived.Test.YtldkgkpiceamhaaZA
import Derived.Test.YtldkgkpiceamhaaZB
import Derived.Test.YtldkgkpiceamhaaXF
namespace Go.Proofs.Ytldkgkpiceamhaa
open Go.RowKit Go.Shelf

theorem sumN_bool {n : Nat} {P : Nat → Bool} : sumN n (fun j => bN (P j)) ≤ n := by
  induction n with
  | zero => exact Nat.le_refl _
  | succ n ih =>
    have : bN (P n) ≤ 1 := by unfold bN; split <;> omega
    simp only [sumN]; omega
theorem bN_eq {b : Bool} {v : Int} (hv : v = 0 ∨ v = 1) (h : b = (v == 1)) : ((bN b : Nat) : Int) = v := by
  subst h
  rcases hv with rfl | rfl <;> rfl

set_option maxRecDepth 100000 in
set_option maxHeartbeats 8000000 in
theorem coverOk_any (a : Option Addr) (n c : Nat) (w : World) (hc : n ≤ c) (hl : n ≤ 9223372036854775807) (hy : Bytes w.heap.size w a n) :
    Calls Try.prog 3 #[.slice a n c] w (Ans (.bool true) w) := by
  by_cases hbign : 1048576 < n
  · go_enter Try.func3, Try.ntmps3
    go_wp2_with fail
    go_ret
    exact ⟨rfl, Below.refl _ _⟩
  obtain ⟨i1, hj, hy0, hy1, hy2⟩ := info_parts infoInt
  go_enter Try.func3, Try.ntmps3
  go_wp2_with fail
  refine (drawCoverOk_any a n c w (by omega) hc hy).mono ?_
  rintro e w1 ⟨aG, cG, G, aH, cH, H, aF, cF, f, rfl, ⟨hF, x1, hG9⟩, ⟨hF', y1, hH4⟩, ⟨hfl, f1⟩, hB⟩
  have HB1 := Lib.hid hB
  have HF := Lib.hid hF
  have HF' := Lib.hid hF'
  obtain ⟨o, HO⟩ : ∃ o, Hid (covI G H f = o) := ⟨_, rfl⟩
  obtain ⟨m, HM⟩ : ∃ m, Hid (mapOkI G H f = m) := ⟨_, rfl⟩
  have hoo : (o != o) = false := by simp
  have hoo2 : (o == o) = true := by simp
  clear hB hF hF' hy
  go_wp2_with fail
  refine (implCov _ _ _ _ _ _ _ _ _ _ x1 y1 f1 HF.out HF'.out hfl).mono ?_
  rw [HO.out]
  rintro e w2 ⟨rfl, hB2⟩
  have hz2 := hB2.size
  have x2 := (x1.below hB2).more hz2
  have y2 := (y1.below hB2).more hz2
  have f2 := (f1.below hB2).more hz2
  have HB2 := Lib.hid (HB1.out.trans (hB2.mono HB1.out.size))
  clear hB2 hz2 x1 y1 f1
  go_wp2_with fail
  refine (specCov _ _ _ _ _ _ _ _ _ _ _ x2 y2 f2 HF.out HF'.out hfl).mono ?_
  rw [HO.out]
  rintro e w3 h3
  obtain ⟨rfl, hB3⟩ := h3.below
  clear h3
  have hz3 := hB3.size
  have x3 := (x2.below hB3).more hz3
  have y3 := (y2.below hB3).more hz3
  have f3 := (f2.below hB3).more hz3
  have HB3 := Lib.hid (HB2.out.trans (hB3.mono HB2.out.size))
  clear hB3 hz3 x2 y2 f2
  go_wp2_with fail
  refine (specMapOk _ _ _ _ _ _ _ _ _ _ _ x3 y3 f3 HF.out HF'.out hfl).mono ?_
  rw [HM.out]
  rintro e w4 h4
  obtain ⟨rfl, hB4⟩ := h4.below
  clear h4
  have hz4 := hB4.size
  have x4 := (x3.below hB4).more hz4
  have y4 := (y3.below hB4).more hz4
  have f4 := (f3.below hB4).more hz4
  have HB4 := Lib.hid (HB3.out.trans (hB4.mono HB3.out.size))
  clear hB4 hz4 x3 y3 f3
  cases m with
  | false =>
    obtain rfl : o = false := HO.out.symm.trans (cov_no HM.out)
    clear x4 y4 f4
    go_wp2_with fail
    refine (alive_any _).mono ?_
    rintro e w5 ⟨rfl, hB5⟩
    have hz5 := hB5.size
    have HB5 := Lib.hid (HB4.out.trans (hB5.mono HB4.out.size))
    clear hB5 hz5 
    go_wp2_with fail
    go_ret
    exact ⟨rfl, HB5.out⟩
  | true =>
    obtain ⟨⟨hgG, hgH⟩, hfm⟩ := mapOk_iff.1 HM.out
    have HGG := Lib.hid (good_of hgG)
    have HGH := Lib.hid (good_of hgH)
    have HT := Lib.hid hfm.1
    have HCO : Hid (covI G G (ownL G.length) = true) := Lib.hid (cov_own hgG)
    have HCT : Hid (covI (turnedL G) (turnedL H) f = o) := Lib.hid ((cov_turned hgG hgH).trans HO.out)
    have HTG : Hid (Fit (turnedL G)) := Lib.hid (turned_good (good_of hgG)).fit
    have HTH : Hid (Fit (turnedL H)) := Lib.hid (turned_good (good_of hgH)).fit
    have HOUT : Hid (o = true → ∀ k, k < G.length → (sumN G.length fun j => bN (arw G k j)) = sumN H.length fun y => bN (arw H (nd f k) y)) := Lib.hid fun h k hk => cov_outs (HO.out.trans h) hk
    have hfl1 : f.length ≤ G.length := by have := HT.out.1; omega
    have hfl2 : G.length ≤ f.length := by have := HT.out.1; omega
    have HOLn : Hid ((ownL G.length).length = G.length) := Lib.hid (own_lenD _)
    clear hgG hgH hfm
    go_wp2_with fail
    go_loopw [7, 8] (fun v i wr => ∃ (k g cap : Nat), k ≤ G.length ∧ i = .int .i64 k ∧ v = .slice (some ⟨g, 0, none⟩) k cap ∧ Hid (wr.ownsRow w4.heap.size 3 1 (.slice (some ⟨g, 0, none⟩) k cap) k ((ownL k).map (Value.int .i64))) ∧ Below w4.heap.size w4 wr)
      (fun _ i _ => G.length - (intOf i).toNat)
    case atStart => exact ⟨0, _, _, Nat.zero_le _, rfl, rfl, World.ownsRow_lit (size := 1) w4 #[] 0 (Nat.le_refl _) (Nat.zero_le _) rfl, (Below.refl _ _).alloc (Nat.le_refl _) _⟩
    case round =>
      obtain ⟨k, g, cap, hk, rfl, rfl, HR, hB⟩ := hrel
      have hws := hB.size
      by_cases hlt : k < G.length
      · have hown := HR.out
        have hlg := hown.lt g (by simp [Value.ownBlock])
        have X4 := Lib.hid x4
        have Y4 := Lib.hid y4
        have F4 := Lib.hid f4
        clear x4 y4 f4
        go_wp2_with (at_builtin; go_must (refine wpList_append_own _ rfl _ _ 24 rfl w4.heap.size 3 i1 (.int .i64 0) 1 8 Try.underlying24 hj hy0 hy1 hy2 rfl (by decide) _ _ _ rfl (hown.alloc _) ⟨wr.heap.size, 0, none⟩ 1 1 [.int .i64 (k : Int)] rfl rfl (cell_one_new _ _ _) (by simp [Value.oneCell']) (by unfold maxLen; omega) (by omega) (by simp; omega) ?_); go_must (intro v' wz hown' hgrow _; obtain ⟨g2, cap2, rfl⟩ := ownsRow_succ hown'); go_must (have HO4 := Lib.hid hown'); go_must (have hB4 : Below w4.heap.size w4 wz := (hB.alloc hws _).grown hgrow (by simp; omega) (fun r e => by have e' : some g = some r := e; cases e'; exact hlg.1)); clear hown' hgrow)
        have xr := (X4.out.below hB4).more hB4.size
        have yr := (Y4.out.below hB4).more hB4.size
        have fr := (F4.out.below hB4).more hB4.size
        have HB4b := Lib.hid hB4
        obtain ⟨wx, rfl⟩ : ∃ wx : World, wx = wz := ⟨_, rfl⟩
        have hkf : k < f.length := by omega
        obtain ⟨b6, o6, v6, rfl, hb6, hc6, HV6⟩ := fr.at_ hkf
        have hv6 := HT.out.2 k v6 HV6.out
        obtain ⟨p, rfl⟩ : ∃ p : Nat, v6 = (p : Int) := ⟨v6.toNat, by omega⟩
        have hp : p < H.length := by omega
        have HNF : Hid (nd f k = p) := Lib.hid (by rw [nd_eq HV6.out]; exact Int.toNat_natCast _)
        obtain ⟨b5, o5, a5, c5, rs, rfl, hb5, hc5, hI5, HRS⟩ := xr.at_ hlt
        have HRL := Lib.hid (HGG.out.len HRS.out)
        obtain ⟨b8, o8, a8, c8, qs, rfl, hb8, hc8, hI8, HQS⟩ := yr.at_ hp
        have HQL := Lib.hid (HGH.out.len HQS.out)
        have hki : (k : Int) < (G.length : Int) := by omega
        have hkf2 : (k : Int) < (f.length : Int) := by omega
        have hpi : (p : Int) < (H.length : Int) := by omega
        clear hown HR hB hws xr yr fr hB4 hlg hv6
        go_wp2_with fail
        go_loopw [9, 11] (fun s i wr => ∃ (j ta : Nat), j ≤ G.length ∧ i = .int .i64 j ∧ s = .int .i64 ta ∧ Hid (sumN j (fun i => bN (arw G k i)) = ta) ∧ wx = wr) (fun _ i _ => G.length - (intOf i).toNat)
        case atStart => exact ⟨0, 0, Nat.zero_le _, rfl, rfl, Lib.hid rfl, rfl⟩
        case round =>
          obtain ⟨j, ta, hjl, rfl, rfl, HTta, rfl⟩ := hrel
          by_cases hltj : j < G.length
          · have hjr : j < rs.length := by rw [HRL.out]; exact hltj
            obtain ⟨b7, o7, v7, e7, hb7, hc7, HV7⟩ := hI5.at_ hjr
            subst e7
            have hji : (j : Int) < (G.length : Int) := by omega
            have hji2 : (j : Int) < (rs.length : Int) := by omega
            have hv01 := (HGG.out.2.2 rs (List.mem_of_getElem? HRS.out)).2 v7 (List.mem_of_getElem? HV7.out)
            have HE := Lib.hid (bN_eq (b := arw G k j) hv01 (by unfold arw; rw [ent_eq HRS.out HV7.out]))
            have ht9 : ta ≤ 9 := by rw [← HTta.out]; exact Nat.le_trans sumN_bool (by omega)
            obtain ⟨u, hu⟩ : ∃ u : Nat, v7 = (u : Int) := ⟨v7.toNat, by omega⟩
            have hu1 : u ≤ 1 := by omega
            subst hu
            have HT2 : Hid (sumN (j + 1) (fun i => bN (arw G k i)) = ta + u) := Lib.hid (by
              have := HE.out
              simp only [sumN]
              rw [HTta.out]; omega)
            clear hv01
            go_wp2_with fail
            go_roundw
            case rel => exact ⟨j + 1, ta + u, by omega, by go_num, by go_num, HT2, by first | rfl | trivial⟩
            case measure => simp [intOf]; omega
          · obtain rfl : j = G.length := by omega
            go_wp2_with fail
            go_loopw [10, 12] (fun s i wr => ∃ (l tb : Nat), l ≤ H.length ∧ i = .int .i64 l ∧ s = .int .i64 tb ∧ Hid (sumN l (fun i => bN (arw H p i)) = tb) ∧ wx = wr) (fun _ i _ => H.length - (intOf i).toNat)
            case atStart => exact ⟨0, 0, Nat.zero_le _, rfl, rfl, Lib.hid rfl, rfl⟩
            case round =>
              obtain ⟨l, tb, hjl, rfl, rfl, HTtb, rfl⟩ := hrel
              by_cases hltj : l < H.length
              · have hjr : l < qs.length := by rw [HQL.out]; exact hltj
                obtain ⟨b7, o7, v7, e7, hb7, hc7, HV7⟩ := hI8.at_ hjr
                subst e7
                have hji : (l : Int) < (H.length : Int) := by omega
                have hji2 : (l : Int) < (qs.length : Int) := by omega
                have hv01 := (HGH.out.2.2 qs (List.mem_of_getElem? HQS.out)).2 v7 (List.mem_of_getElem? HV7.out)
                have HE := Lib.hid (bN_eq (b := arw H p l) hv01 (by unfold arw; rw [ent_eq HQS.out HV7.out]))
                have ht9 : tb ≤ 9 := by rw [← HTtb.out]; exact Nat.le_trans sumN_bool (by omega)
                obtain ⟨u, hu⟩ : ∃ u : Nat, v7 = (u : Int) := ⟨v7.toNat, by omega⟩
                have hu1 : u ≤ 1 := by omega
                subst hu
                have HT2 : Hid (sumN (l + 1) (fun i => bN (arw H p i)) = tb + u) := Lib.hid (by
                  have := HE.out
                  simp only [sumN]
                  rw [HTtb.out]; omega)
                clear hv01
                go_wp2_with fail
                go_roundw
                case rel => exact ⟨l + 1, tb + u, by omega, by go_num, by go_num, HT2, by first | rfl | trivial⟩
                case measure => simp [intOf]; omega
              · obtain rfl : l = H.length := by omega
                cases o with
                | true =>
                  have hab : ta = tb := by rw [← HTta.out, ← HTtb.out, HOUT.out rfl k hlt, HNF.out]
                  have hne : ((ta : Int) != (tb : Int)) = false := by rw [hab]; exact bne_self_eq_false _
                  clear hab
                  go_wp2_with fail
                  go_roundw
                  case rel => exact ⟨k + 1, g2, cap2, by omega, by go_num, rfl, Lib.hid (by rw [own_succD, List.map_append]; exact HO4.out), HB4b.out⟩
                  case measure => simp [intOf]; omega
                | false =>
                  go_wp2_with fail
                  go_roundw
                  case rel => exact ⟨k + 1, g2, cap2, by omega, by go_num, rfl, Lib.hid (by rw [own_succD, List.map_append]; exact HO4.out), HB4b.out⟩
                  case measure => simp [intOf]; omega
      · obtain rfl : k = G.length := by omega
        have p5 := own_intsD (own_lenD _) HR.out
        have x5 := (x4.below hB).more hws
        have y5 := (y4.below hB).more hws
        have f5 := (f4.below hB).more hws
        have HB5 := Lib.hid (HB4.out.trans (hB.mono HB4.out.size))
        obtain ⟨w5, rfl⟩ : ∃ w5 : World, w5 = wr := ⟨_, rfl⟩
        have HC := implCov _ _ _ cG cG cap G G (ownL G.length) w5 x5 x5 p5 HF.out HF.out (by rw [HOLn.out]; omega)
        rw [HCO.out, HOLn.out] at HC
        have HC5 := Lib.hid HC
        clear x4 y4 f4 HR hB hws p5 HC
        go_wp2_with fail
        refine (HC5.out).mono ?_
        rintro e w6 ⟨rfl, hB6⟩
        have hz6 := hB6.size
        have x6 := (x5.below hB6).more hz6
        have y6 := (y5.below hB6).more hz6
        have f6 := (f5.below hB6).more hz6
        have HB6 := Lib.hid (HB5.out.trans (hB6.mono HB5.out.size))
        clear hB6 hz6 x5 y5 f5
        go_wp2_with fail
        refine (implTurned _ _ _ _ x6 HF.out).mono ?_
        rintro e w7 ⟨b7, c7, ⟨rfl, hB7⟩, hO7⟩
        have t7 := hO7.mat
        clear hO7
        have hz7 := hB7.size
        have x7 := (x6.below hB7).more hz7
        have y7 := (y6.below hB7).more hz7
        have f7 := (f6.below hB7).more hz7
        have HB7 := Lib.hid (HB6.out.trans (hB7.mono HB6.out.size))
        clear hB7 hz7 x6 y6 f6
        go_wp2_with fail
        refine (implTurned _ _ _ _ y7 HF'.out).mono ?_
        rintro e w8 ⟨b8, c8, ⟨rfl, hB8⟩, hO8⟩
        have s8 := hO8.mat
        clear hO8
        have hz8 := hB8.size
        have x8 := (x7.below hB8).more hz8
        have y8 := (y7.below hB8).more hz8
        have f8 := (f7.below hB8).more hz8
        have t8 := (t7.below hB8).more hz8
        have HB8 := Lib.hid (HB7.out.trans (hB8.mono HB7.out.size))
        clear hB8 hz8 x7 y7 f7 t7
        go_wp2_with fail
        refine (implCov _ _ _ _ _ _ _ _ _ _ t8 s8 f8 HTG.out HTH.out hfl).mono ?_
        rw [HCT.out]
        rintro e w9 ⟨rfl, hB9⟩
        have hz9 := hB9.size
        have x9 := (x8.below hB9).more hz9
        have y9 := (y8.below hB9).more hz9
        have f9 := (f8.below hB9).more hz9
        have t9 := (t8.below hB9).more hz9
        have s9 := (s8.below hB9).more hz9
        have HB9 := Lib.hid (HB8.out.trans (hB9.mono HB8.out.size))
        clear hB9 hz9 x8 y8 f8 t8 s8
        clear x9 y9 f9 t9 s9
        go_wp2_with fail
        go_ret
        exact ⟨rfl, HB9.out⟩

end Go.Proofs.Ytldkgkpiceamhaa
