/-
  spec.GraphOfKinds, walked.
-/
import Derived.Test.YtdolpkjighbohaaPA
import Derived.Test.YtdolpkjighbohaaWH
import Derived.Test.YtdolpkjighbohaaPG
import Derived.Test.YtdolpkjighbohaaM9
import Derived.Laws.Small
namespace Go.Proofs.Ytdolpkjighbohaa
open Go.RowKit Go.Shelf Go.Deep

set_option maxRecDepth 100000 in
set_option maxHeartbeats 8000000 in
theorem specGrkO (a a' : Option Addr) (c c' : Nat) (G : List (List Int)) (ks : List Int) (n₀ : Nat) (w : World) (hM : Mat n₀ w a G) (hI : Ints n₀ w a' ks) (hn : n₀ ≤ w.heap.size) (hF : Fit G) (hl : ks.length ≤ 1048576) :
    Calls Try.prog 29 #[.slice a G.length c, .slice a' ks.length c'] w (MadeO (grkL G ks) w) := by
  obtain ⟨i0, hi, hz0, hz1, hz2⟩ := info_parts infoInts
  have HF := Lib.hid hF
  have hlG := hF.1
  clear hF
  by_cases hg : kOkI G ks = true
  · have HZ : Hid (grkL G ks = rowsP (topK ks) (kArw G ks)) := Lib.hid (grk_yes hg)
    obtain ⟨hgG, hlk, hkk⟩ := kOk_iff.1 hg
    have HGD := Lib.hid (good_of hgG)
    have hG9 := HGD.out.2.1
    have HT9 := Lib.hid (grk_top hg)
    have HKT := Lib.hid (k_tells hg)
    have HKG := Lib.hid hg
    have hlk1 : ks.length ≤ G.length := by omega
    have hlk2 : G.length ≤ ks.length := by omega
    rw [HZ.out]
    clear hgG hkk hlk
    go_enter Try.func29, Try.ntmps29
    go_wp2_with fail
    have hM1 : Mat n₀ (w.alloc (.cells #[] 24)) a G := hM.below ((Below.refl _ w).alloc hn _)
    have hI1 : Ints n₀ (w.alloc (.cells #[] 24)) a' ks := hI.below ((Below.refl _ w).alloc hn _)
    refine (specKinds _ _ _ _ _ _ _ _ hM1 hI1 HF.out hl).mono ?_
    rw [hg]
    clear hg
    rintro e w' ⟨rfl, rfl⟩
    go_wp2_with fail
    go_loopw [6, 7] (fun v i wr => ∃ (j t : Nat), j ≤ ks.length ∧ t ≤ 10 ∧ i = .int .i64 j ∧ v = .int .i64 t ∧ wr = w.alloc (.cells #[] 24) ∧ Hid (topK (ks.take j) = t)) (fun _ i _ => ks.length - (intOf i).toNat)
    case atStart => exact ⟨0, 0, Nat.zero_le _, Nat.zero_le _, rfl, rfl, rfl, Lib.hid rfl⟩
    case round =>
      obtain ⟨j, t, hj2, ht, rfl, rfl, rfl, HT⟩ := hrel
      by_cases hlj : j < ks.length
      · obtain ⟨b6, o6, y6, rfl, hb6, hc6, HY6⟩ := hI1.at_ hlj
        obtain ⟨p, hp, _, hpt⟩ := tells_at HKT.out (show j < G.length by omega)
        have ey : y6 = (p : Int) := by have := HY6.out; rw [hp] at this; cases this; rfl
        subst ey
        have HT2 := Lib.hid (topK_next HY6.out (Int.natCast_nonneg p))
        rw [HT.out] at HT2
        have hp5 : p ≤ 9 := by have := HT9.out; omega
        clear hp hpt
        go_wp2_with fail
        go_roundw
        case rel =>
          have hT2 := HT2.out
          by_cases hgt : (p : Int) + 1 > (t : Int)
          · exact ⟨j + 1, p + 1, by omega, by omega, by go_num, by rw [if_pos hgt]; congr 1, by first | trivial | rfl, Lib.hid (by omega)⟩
          · exact ⟨j + 1, t, by omega, ht, by go_num, by rw [if_neg hgt], by first | trivial | rfl, Lib.hid (by omega)⟩
        case measure => simp [intOf]; omega
      · obtain rfl : j = ks.length := by omega
        have HT3 : Hid (topK ks = t) := Lib.hid (by have := HT.out; rwa [List.take_length] at this)
        have ht9 : t ≤ 9 := by have := HT9.out; have := HT3.out; omega
        rw [HT3.out]
        rw [HT3.out] at HKT
        go_wp2_with fail
        go_loopw [5, 8] (fun v i wr => ∃ (k g cap : Nat) (GG : Nat → Nat), k ≤ t ∧ i = .int .i64 k ∧ v = .slice (some ⟨g, 0, none⟩) k cap ∧ Hid (RowsD w.heap.size wr (.slice (some ⟨g, 0, none⟩) k cap) k t (List.replicate k (List.replicate t 0)) GG) ∧ Below w.heap.size w wr) (fun _ i _ => t - (intOf i).toNat)
        case atStart => exact ⟨0, _, _, _, Nat.zero_le _, rfl, rfl, Lib.hid (RowsD.start w (Nat.le_refl _) t), (Below.refl _ _).alloc (Nat.le_refl _) _⟩
        case round =>
          obtain ⟨k, g, cap, GG, hk, rfl, rfl, HR, hB⟩ := hrel
          have hws := hB.size
          by_cases hlt : k < t
          · have hmk := run_make_row' (P := Try.prog) 24 3 (.int .i64 0) 8 Try.underlying24 infoInt rfl .i64 .i64 t (by omega) (by omega)
            have HR1 : Hid (RowsD w.heap.size (wr.alloc (.cells (madeCells #[.int .i64 0] t) 3)) (.slice (some ⟨g, 0, none⟩) k cap) k t (List.replicate k (List.replicate t 0)) GG) := Lib.hid (HR.out.kept (World.grownBy_alloc _ _ _))
            have HB1 : Hid (RowBlk (wr.alloc (.cells (madeCells #[.int .i64 0] t) 3)) wr.heap.size (List.replicate t 0)) := Lib.hid (RowBlk.made wr t)
            have hB1 : Below w.heap.size w (wr.alloc (.cells (madeCells #[.int .i64 0] t) 3)) := hB.alloc hws _
            have HNE : Hid (∀ i, i < k → GG i ≠ wr.heap.size) := Lib.hid fun i hi e => by
              obtain ⟨_, _, h3⟩ := HR.out.row i (List.replicate t 0) (by rw [List.getElem?_replicate, if_pos hi])
              have := h3.lt; omega
            obtain ⟨R, hR⟩ : ∃ R, wr.heap.size = R := ⟨_, rfl⟩
            have hws1 := hB1.size
            have hown := HR1.out.own
            have hlg := hown.lt g (by simp [Value.ownBlock])
            have hRb : w.heap.size ≤ R := by omega
            have HCN : Hid (∀ j u, [Value.slice (some ⟨wr.heap.size, 0, none⟩) t t][j]? = some u → ((wr.alloc (.cells (madeCells #[.int .i64 0] t) 3)).alloc (.cells #[.slice (some ⟨wr.heap.size, 0, none⟩) t t] 24)).cell? ((⟨wr.heap.size + 1, 0, none⟩ : Addr).add j) = some u) := Lib.hid (by
              have h := cell_one_new (wr.alloc (.cells (madeCells #[.int .i64 0] t) 3)) (.slice (some ⟨wr.heap.size, 0, none⟩) t t) 24
              rw [World.size_alloc] at h
              exact h)
            rw [hR] at HB1 HNE HCN
            go_wp2_with (at_builtin; go_must (refine wpList_append_own _ rfl _ _ 23 rfl w.heap.size 24 i0 (.slice none 0 0) 1 24 Try.underlying23 hi hz0 hz1 hz2 rfl (by decide) _ _ _ rfl (hown.alloc _) ⟨R + 1, 0, none⟩ 1 1 [.slice (some ⟨R, 0, none⟩) t t] rfl rfl HCN.out (by simp [Value.oneCell']) (by unfold maxLen; omega) (by omega) (by simp; omega) ?_); go_must (intro v' w4 hown' hgrow _; obtain ⟨g', cap', rfl⟩ := ownsRow_succ hown'); go_must (have HO4 := Lib.hid (HR1.out.appended HB1.out (by simp) hRb HNE.out hown' hgrow)); go_must (have hB4 : Below w.heap.size w w4 := (hB1.alloc hws1 _).grown hgrow (by simp; omega) (fun r e => by have e' : some g = some r := e; cases e'; exact hlg.1)); clear hown' hgrow)
            go_roundw
            case rel => exact ⟨k + 1, g', cap', _, by omega, by go_num, rfl, Lib.hid (by rw [List.replicate_succ']; exact HO4.out), hB4⟩
            case measure => simp [intOf]; omega
          · obtain rfl : k = t := by omega
            have HR0 : Hid (RowsD w.heap.size wr (.slice (some ⟨g, 0, none⟩) k cap) k k (rowsP k (kTo G ks 0 0)) GG) := Lib.hid (by rw [kTo_zero, rowsP_none]; exact HR.out)
            clear HR
            go_wp2_with fail
            go_loopw [9] (fun i wr => ∃ n : Nat, n ≤ G.length ∧ i = .int .i64 n ∧ Hid (RowsD w.heap.size wr (.slice (some ⟨g, 0, none⟩) k cap) k k (rowsP k (kTo G ks n 0)) GG) ∧ Below w.heap.size w wr) (fun i _ => G.length - (intOf i).toNat)
            case atStart => exact ⟨0, Nat.zero_le _, rfl, HR0, hB⟩
            case round =>
              clear HR0 hB hws
              obtain ⟨n, hnG, rfl, HR1, hB⟩ := hrel
              by_cases hln : n < G.length
              · go_wp2_with fail
                go_loopw [10] (fun i wr => ∃ m : Nat, m ≤ G.length ∧ i = .int .i64 m ∧ Hid (RowsD w.heap.size wr (.slice (some ⟨g, 0, none⟩) k cap) k k (rowsP k (kTo G ks n m)) GG) ∧ Below w.heap.size w wr) (fun i _ => G.length - (intOf i).toNat)
                case atStart => exact ⟨0, Nat.zero_le _, rfl, HR1, hB⟩
                case round =>
                  clear HR1 hB
                  obtain ⟨m, hmG, rfl, HR2, hB⟩ := hrel
                  by_cases hlm : m < G.length
                  · have hws := hB.size
                    have hMr := hM.below (hB.mono hn)
                    have hIr := hI.below (hB.mono hn)
                    obtain ⟨b1, o1, a1, c1, rown, rfl, hb1, hc1, hRn, HRn⟩ := hMr.at_ hln
                    have HEn := Lib.hid (HGD.out.len HRn.out)
                    have hrl : m < rown.length := by rw [HEn.out]; exact hlm
                    have hrl9 : rown.length ≤ 9 := by rw [HEn.out]; exact hG9
                    obtain ⟨b2, o2, vx, rfl, hb2, hc2, HVX⟩ := hRn.at_ hrl
                    have HAR : Hid (arw G n m = (vx == 1)) := Lib.hid (by unfold arw; rw [ent_eq HRn.out HVX.out])
                    by_cases hv : vx = 1
                    · have hvb : (vx == 1) = true := by simp [hv]
                      obtain ⟨p, hp, epn, hpt⟩ := tells_at HKT.out hln
                      obtain ⟨q, hq, eqn, hqt⟩ := tells_at HKT.out hlm
                      have hnk : n < ks.length := by omega
                      have hmk2 : m < ks.length := by omega
                      obtain ⟨b3, o3, y3, rfl, hb3, hc3, HY3⟩ := hIr.at_ hnk
                      obtain ⟨b4, o4, y4, e4, hb4, hc4, HY4⟩ := hIr.at_ hmk2
                      cases e4
                      have ey : y3 = (p : Int) := by have := HY3.out; rw [hp] at this; cases this; rfl
                      have ey2 : y4 = (q : Int) := by have := HY4.out; rw [hq] at this; cases this; rfl
                      subst ey
                      subst ey2
                      have HRP := HR2.out.row p _ (rowsP_get hpt)
                      have hcg := HR2.out.head hpt
                      have hfz := HRP.2.2.blk.frozen q
                      obtain ⟨yo, hyo⟩ := HRP.2.2.blk.cell (i := q) (by simp; exact hqt)
                      have HS : Hid (RowsD w.heap.size (wr.setCell ⟨GG p, q, none⟩ (.int .i64 1)) (.slice (some ⟨g, 0, none⟩) k cap) k k (rowsP k (kTo G ks n (m + 1))) GG) := Lib.hid (by
                        have h := HR2.out.store (rowsP_get hpt) q 1
                        rw [rowsP_set hpt hqt] at h
                        rw [kTo_yes (by rw [HAR.out]; exact hvb), epn, eqn]
                        exact h)
                      have hBs : Below w.heap.size w (wr.setCell ⟨GG p, q, none⟩ (.int .i64 1)) := hB.grown (grownBy_set wr (GG p) q (.int .i64 1)) hws (fun r e => by cases e; exact HRP.2.1)
                      have HS2 : Hid (RowsD w.heap.size (wr.setCell ⟨GG p, q, none⟩ (.int .i64 1)).drew (.slice (some ⟨g, 0, none⟩) k cap) k k (rowsP k (kTo G ks n (m + 1))) GG) := Lib.hid (HS.out.kept ⟨rfl, rfl, rfl, Nat.le_refl _, fun _ _ _ => rfl⟩)
                      have hBd : Below w.heap.size w (wr.setCell ⟨GG p, q, none⟩ (.int .i64 1)).drew := below_drewN hBs 1
                      clear HRP hp hq epn eqn hv HS hBs HR2 hB hMr hIr hRn
                      go_wp2_with fail
                      go_still_tail 12, (by kernel_rfl)
                      go_wp2_with fail
                      go_roundw
                      case rel => exact ⟨m + 1, by omega, by go_num, HS2, hBd⟩
                      case measure => simp [intOf]; omega
                    · have hvb : (vx == 1) = false := by simp [hv]
                      have HS : Hid (RowsD w.heap.size wr (.slice (some ⟨g, 0, none⟩) k cap) k k (rowsP k (kTo G ks n (m + 1))) GG) := Lib.hid (by
                        rw [kTo_no (by rw [HAR.out]; exact hvb)]; exact HR2.out)
                      clear hv
                      go_wp2_with fail
                      go_roundw
                      case rel => exact ⟨m + 1, by omega, by go_num, HS, hB⟩
                      case measure => simp [intOf]; omega
                  · obtain rfl : m = G.length := by omega
                    have HS : Hid (RowsD w.heap.size wr (.slice (some ⟨g, 0, none⟩) k cap) k k (rowsP k (kTo G ks (n + 1) 0)) GG) := Lib.hid (by rw [kTo_row]; exact HR2.out)
                    go_wp2_with fail
                    go_roundw
                    case rel => exact ⟨n + 1, by omega, by go_num, HS, hB⟩
                    case measure => simp [intOf]; omega
              · obtain rfl : n = G.length := by omega
                have HS : Hid (OwnMat w.heap.size wr (.slice (some ⟨g, 0, none⟩) k cap) (rowsP k (kArw G ks))) := Lib.hid (by
                  have h := HR1.out
                  rw [kTo_all] at h
                  exact h.ownMat (by omega))
                go_wp2_with fail
                go_ret
                exact ⟨some ⟨g, 0, none⟩, cap, ⟨by rw [rowsP_length, HT3.out]; rfl, hB⟩, by rw [rowsP_length, HT3.out]; exact HS.out⟩
  · have hg' : kOkI G ks = false := by simpa using hg
    have HZ : Hid (grkL G ks = []) := Lib.hid (grk_no hg')
    rw [HZ.out]
    clear hg
    go_enter Try.func29, Try.ntmps29
    go_wp2_with fail
    have hM1 : Mat n₀ (w.alloc (.cells #[] 24)) a G := hM.below ((Below.refl _ w).alloc hn _)
    have hI1 : Ints n₀ (w.alloc (.cells #[] 24)) a' ks := hI.below ((Below.refl _ w).alloc hn _)
    refine (specKinds _ _ _ _ _ _ _ _ hM1 hI1 HF.out hl).mono ?_
    rw [hg']
    rintro e w' ⟨rfl, rfl⟩
    go_wp2_with fail
    go_ret
    exact ⟨_, _, ⟨rfl, (Below.refl _ w).alloc (Nat.le_refl _) _⟩, OwnMat.start w (Nat.le_refl _)⟩

theorem specGrk (a a' : Option Addr) (c c' : Nat) (G : List (List Int)) (ks : List Int) (n₀ : Nat) (w : World) (hM : Mat n₀ w a G) (hI : Ints n₀ w a' ks) (hn : n₀ ≤ w.heap.size) (hF : Fit G) (hl : ks.length ≤ 1048576) :
    Calls Try.prog 29 #[.slice a G.length c, .slice a' ks.length c'] w (ReadM (grkL G ks) w) :=
  (specGrkO a a' c c' G ks n₀ w hM hI hn hF hl).mono fun _ _ ⟨a, c, h1, h2⟩ => ⟨a, c, h1, h2.mat⟩

end Go.Proofs.Ytdolpkjighbohaa
