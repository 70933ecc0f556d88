/-
  spec.PowerOf, walked.
-/
import Derived.Test.YtjcoilabmbmbkaaY2
import Derived.Test.YtjcoilabmbmbkaaT2
namespace Go.Proofs.Ytjcoilabmbmbkaa
open Go.RowKit Go.Shelf Go.Deep

/-- Do two entries let a pair of rows pass? -/
def okE (H G : List (List Int)) (f e : List Int) (i j : Nat) : Bool := !arw G i j || arw H (nd f i) (nd e j)
/-- Do all entries ahead of (k, j)? -/
def upB (H G : List (List Int)) (f e : List Int) (k j : Nat) : Bool := ((List.range k).all fun i => (List.range G.length).all (okE H G f e i)) && (List.range j).all (okE H G f e k)
theorem upB_step (H G : List (List Int)) (f e : List Int) (k j : Nat) : upB H G f e k (j + 1) = (upB H G f e k j && okE H G f e k j) := by simp [upB, List.range_succ, Bool.and_assoc]
theorem upB_row (H G : List (List Int)) (f e : List Int) (k : Nat) : upB H G f e (k + 1) 0 = upB H G f e k G.length := by simp [upB, List.range_succ]
theorem upB_all (H G : List (List Int)) (a b : Nat) : upB H G (rowR H.length G.length a) (rowR H.length G.length b) G.length 0 = powP H G a b := by
  rw [Bool.eq_iff_iff, powP_iff]
  simp only [upB, List.range_zero, List.all_nil, Bool.and_true, List.all_eq_true, List.mem_range, okE, Bool.or_eq_true, Bool.not_eq_true']
  exact ⟨fun h i j hi hj ha => (h i hi j hj).elim (fun h' => by rw [ha] at h'; cases h') id, fun h i hi j hj => by
    by_cases ha : arw G i j = true
    · exact .inr (h i j hi hj ha)
    · exact .inl (by simpa using ha)⟩
def bitB (b : Bool) : Int := if b = true then 1 else 0
theorem bitB_01 (b : Bool) : bitB b = 0 ∨ bitB b = 1 := by cases b <;> simp [bitB]
/-- Row a of a power, as far as j. -/
def pRow (H G : List (List Int)) (a j : Nat) : List Int := (List.range j).map fun i => if powP H G a i = true then 1 else 0
theorem pRow_succ (H G : List (List Int)) (a j : Nat) : pRow H G a (j + 1) = pRow H G a j ++ [bitB (powP H G a j)] := by simp [pRow, List.range_succ, bitB]
theorem pRow_length (H G : List (List Int)) (a j : Nat) : (pRow H G a j).length = j := by simp [pRow]
def pRows (H G : List (List Int)) (N k : Nat) : List (List Int) := (List.range k).map fun i => pRow H G i N
theorem pRows_succ (H G : List (List Int)) (N k : Nat) : pRows H G N (k + 1) = pRows H G N k ++ [pRow H G k N] := by simp [pRows, List.range_succ]
theorem pRows_length (H G : List (List Int)) (N k : Nat) : (pRows H G N k).length = k := by simp [pRows]
theorem pRows_all {H G : List (List Int)} (h : powOk H G = true) : pRows H G (H.length ^ G.length) (H.length ^ G.length) = powL H G := by
  rw [powL_yes h]; rfl
theorem pow_up {M L k : Nat} (hM : 1 ≤ M) (hk : k ≤ L) : M ^ k ≤ M ^ L := Nat.pow_le_pow_right hM hk

set_option maxRecDepth 100000 in
set_option maxHeartbeats 4000000 in
theorem specPowO (a a' : Option Addr) (c c' : Nat) (H G : List (List Int)) (n₀ : Nat) (w : World) (hM : Mat n₀ w a H) (hM' : Mat n₀ w a' G) (hn₀ : n₀ ≤ w.heap.size) (hF : Fit H) (hF' : Fit G) :
    Calls Try.prog 15 #[.slice a H.length c, .slice a' G.length c'] w (ReadBO (powL H G) (powOk H G) w) := by
  have HF := Lib.hid hF
  have HF' := Lib.hid hF'
  have hlf := hF.1
  have hlf' := hF'.1
  clear hF hF'
  obtain ⟨i0, hi, hz0, hz1, hz2⟩ := info_parts infoInts
  obtain ⟨i1, hj, hy0, hy1, hy2⟩ := info_parts infoInt
  by_cases hg' : gOk G = true
  · by_cases hg : gOk H = true
    · have HG := Lib.hid (good_of hg)
      have HG' := Lib.hid (good_of hg')
      have hx1 := HG.out.1
      have hx9 := HG.out.2.1
      have hx1' := HG'.out.1
      have hx9' := HG'.out.2.1
      by_cases h9 : H.length ^ G.length ≤ 9
      · have HOK := Lib.hid (powOk_yes hg' hg h9)
        rw [HOK.out]
        obtain ⟨N, hN, HN⟩ : ∃ N : Nat, N ≤ 9 ∧ Hid (H.length ^ G.length = N) := ⟨_, h9, rfl⟩
        have HUP : Hid (∀ k, k ≤ G.length → H.length ^ k ≤ 9) := Lib.hid fun k hk => Nat.le_trans (pow_up hx1 hk) h9
        clear h9
        go_enter Try.func15, Try.ntmps15
        go_wp2_with fail
        refine (specOk_any _ _ _ n₀ _ (hM'.below ((Below.refl _ w).alloc hn₀ _)) HF'.out).mono ?_
        rintro e w' ⟨rfl, rfl⟩
        rw [hg']
        go_wp2_with fail
        refine (specOk_any _ _ _ n₀ _ (hM.below ((Below.refl _ w).alloc hn₀ _)) HF.out).mono ?_
        rintro e w' ⟨rfl, rfl⟩
        rw [hg]
        go_wp2_with fail
        go_loop [7, 8] (fun r i => ∃ k q : Nat, k ≤ G.length ∧ i = .int .i64 k ∧ r = .int .i64 q ∧ q ≤ 9 ∧ Hid (q = H.length ^ k)) (fun _ i => G.length - (intOf i).toNat)
        case atStart => exact ⟨0, 1, Nat.zero_le _, rfl, rfl, by omega, Lib.hid (by simp)⟩
        case round =>
          obtain ⟨k, q, hk, rfl, rfl, hq, HQ⟩ := hrel
          by_cases hlt : k < G.length
          · have hq2 : q * H.length ≤ 9 := by rw [HQ.out, ← Nat.pow_succ]; exact HUP.out (k + 1) hlt
            have hp0 : (0 : Int) ≤ (q : Int) * (H.length : Int) := by rw [← Int.natCast_mul]; omega
            have hp1 : (q : Int) * (H.length : Int) ≤ 9 := by rw [← Int.natCast_mul]; omega
            go_wp2_with fail
            go_round
            case rel => exact ⟨k + 1, q * H.length, by omega, by go_num, by rw [Int.natCast_mul], hq2, Lib.hid (by rw [HQ.out, Nat.pow_succ])⟩
            case measure => simp [intOf]; omega
          · have hkL : k = G.length := by omega
            have hqN : q = N := by rw [HQ.out, hkL, HN.out]
            clear HUP HQ
            subst hqN
            go_wp2_with fail
            go_loopw [6, 9] (fun v i wr => ∃ (k g cap : Nat), k ≤ q ∧ i = .int .i64 k ∧ v = .slice (some ⟨g, 0, none⟩) k cap ∧ Hid (OwnMat w.heap.size wr (.slice (some ⟨g, 0, none⟩) k cap) (pRows H G q k)) ∧ Below w.heap.size w wr)
              (fun _ i _ => q - (intOf i).toNat)
            case atStart => exact ⟨0, _, _, Nat.zero_le _, rfl, rfl, OwnMat.start w (Nat.le_refl _), (Below.refl _ _).alloc (Nat.le_refl _) _⟩
            case round =>
              obtain ⟨k, g, cap, hk, rfl, rfl, HO, hB⟩ := hrel
              have hMr : Mat n₀ wr a H := hM.below (hB.mono hn₀)
              have hMr' : Mat n₀ wr a' G := hM'.below (hB.mono hn₀)
              have hws := hB.size
              by_cases hlt : k < q
              · obtain ⟨wo, rfl⟩ : ∃ wo : World, wo = wr := ⟨_, rfl⟩
                go_wp2_with fail
                go_loopw [10, 11] (fun v i wi => ∃ (j g' cap' : Nat), j ≤ q ∧ i = .int .i64 j ∧ v = .slice (some ⟨g', 0, none⟩) j cap' ∧ Hid (wi.ownsRow wo.heap.size 3 1 (.slice (some ⟨g', 0, none⟩) j cap') j ((pRow H G k j).map (Value.int .i64))) ∧ Below wo.heap.size wo wi)
                  (fun _ i _ => q - (intOf i).toNat)
                case atStart => exact ⟨0, _, _, Nat.zero_le _, rfl, rfl, World.ownsRow_lit (size := 1) wo #[] 0 (Nat.le_refl _) (Nat.zero_le _) rfl, (Below.refl _ _).alloc (Nat.le_refl _) _⟩
                case round =>
                  obtain ⟨j, g', cap', hj', rfl, rfl, HR, hB2⟩ := hrel
                  have hBs := hB2.size
                  by_cases hltj : j < q
                  · have hMi : Mat n₀ wr a H := hMr.below (hB2.mono (Nat.le_trans hn₀ hws))
                    have hMi' : Mat n₀ wr a' G := hMr'.below (hB2.mono (Nat.le_trans hn₀ hws))
                    have hnw : n₀ ≤ wr.heap.size := Nat.le_trans hn₀ (Nat.le_trans hws hBs)
                    go_wp2_with fail
                    refine (specRow k G.length H.length wr (by omega) hx9' hx1 hx9).mono ?_
                    rintro e w1 ⟨rfl, hb1, hr1⟩
                    have hz1' := hb1.size
                    go_wp2_with fail
                    refine (specRow j G.length H.length w1 (by omega) hx9' hx1 hx9).mono ?_
                    rintro e w2 ⟨rfl, hb2, hr2⟩
                    have HMi := Lib.hid (hMi.below ((hb1.trans (hb2.mono hz1')).mono hnw))
                    have HMi' := Lib.hid (hMi'.below ((hb1.trans (hb2.mono hz1')).mono hnw))
                    have HR1 := Lib.hid (hr1.below hb2 hr1.lt)
                    have HR2 := Lib.hid hr2
                    have HBX := Lib.hid (hb1.trans (hb2.mono hz1'))
                    obtain ⟨f, hf⟩ : ∃ f, rowR H.length G.length k = f := ⟨_, rfl⟩
                    obtain ⟨d, hd⟩ : ∃ d, rowR H.length G.length j = d := ⟨_, rfl⟩
                    have HT1 : Hid (Tells G.length H.length f) := Lib.hid (by rw [← hf]; exact rowR_tells hx1 _ _)
                    have HT2 : Hid (Tells G.length H.length d) := Lib.hid (by rw [← hd]; exact rowR_tells hx1 _ _)
                    have HUA : Hid (upB H G f d G.length 0 = powP H G k j) := Lib.hid (by rw [← hf, ← hd]; exact upB_all H G k j)
                    rw [hf] at HR1
                    rw [hd] at HR2
                    obtain ⟨B1, hB1⟩ : ∃ B, wr.heap.size = B := ⟨_, rfl⟩
                    obtain ⟨B2, hB2'⟩ : ∃ B, w1.heap.size = B := ⟨_, rfl⟩
                    rw [hB1] at HR1
                    rw [hB2'] at HR2
                    rw [hB1, hB2']
                    clear hf hd hB1 hB2' hr1 hr2 hMi hMi' hb1 hb2 hz1' hMr hMr' hnw
                    go_wp2_with fail
                    go_loopw [14, 15] (fun v i wq => ∃ (x n : Nat), x ≤ G.length ∧ i = .int .i64 x ∧ v = .int .i64 (bitB (upB H G f d x 0)) ∧ wq = w2.drewN n) (fun _ i _ => G.length - (intOf i).toNat)
                    case atStart => exact ⟨0, 0, Nat.zero_le _, rfl, rfl, rfl⟩
                    case round =>
                      obtain ⟨x, n, hx, rfl, rfl, rfl⟩ := hrel
                      by_cases hltx : x < G.length
                      · go_wp2_with fail
                        go_loopw [14, 16] (fun v i wq => ∃ (y n : Nat), y ≤ G.length ∧ i = .int .i64 y ∧ v = .int .i64 (bitB (upB H G f d x y)) ∧ wq = w2.drewN n) (fun _ i _ => G.length - (intOf i).toNat)
                        case atStart => exact ⟨0, n, Nat.zero_le _, rfl, rfl, rfl⟩
                        case round =>
                          obtain ⟨y, m, hy, rfl, rfl, rfl⟩ := hrel
                          by_cases hlty : y < G.length
                          · obtain ⟨p, hp, enp, hpH⟩ := tells_at HT1.out hltx
                            obtain ⟨r, hr, enr, hrH⟩ := tells_at HT2.out hlty
                            obtain ⟨b1, o1, b2, o2, c2, rfl, hb1, hb2, hcl1, hcl2⟩ := good_row HMi'.out HG'.out hltx hlty
                            obtain ⟨b3, o3, b4, o4, c4, rfl, hb3, hb4, hcl3, hcl4⟩ := good_row HMi.out HG.out hpH hrH
                            have e1 := HR1.out.cell (show x < f.length by rw [HT1.out.1]; exact hltx)
                            have e2 := HR2.out.cell (show y < d.length by rw [HT2.out.1]; exact hlty)
                            rw [hp] at e1
                            rw [hr] at e2
                            have hcf : w2.cell? ⟨B1, x, none⟩ = some (.int .i64 (p : Int)) := e1
                            have hcd : w2.cell? ⟨B2, y, none⟩ = some (.int .i64 (r : Int)) := e2
                            have g1 := good_bit HG'.out hltx hlty
                            have g2 := good_bit HG.out hpH hrH
                            have HST := Lib.hid (upB_step H G f d x y)
                            have HOE : Hid (okE H G f d x y = (!(ent G x y == 1) || (ent H p r == 1))) := Lib.hid (by unfold okE arw; rw [enp, enr])
                            obtain ⟨v1, hv1⟩ : ∃ v, ent G x y = v := ⟨_, rfl⟩
                            obtain ⟨v2, hv2⟩ : ∃ v, ent H p r = v := ⟨_, rfl⟩
                            rw [hv1] at hcl2 g1 HOE
                            rw [hv2] at hcl4 g2 HOE
                            obtain ⟨u, hu⟩ : ∃ u, upB H G f d x y = u := ⟨_, rfl⟩
                            rw [hu] at HST ⊢
                            have k1 : (p : Int) < (H.length : Int) := by omega
                            have k2 : (r : Int) < (H.length : Int) := by omega
                            have k3 : (0 : Int) ≤ (p : Int) := Int.natCast_nonneg _
                            have k4 : (0 : Int) ≤ (r : Int) := Int.natCast_nonneg _
                            clear hv1 hv2 hu e1 e2 hp hr enp enr
                            rcases g1 with rfl | rfl
                            · go_wp2_with fail
                              go_quiet (fail)
                              go_wp2_with fail
                              go_roundw
                              case rel => exact ⟨y + 1, _, by omega, by go_num, by rw [HST.out, HOE.out]; simp, rfl⟩
                              case measure => simp [intOf]; omega
                            · rcases g2 with rfl | rfl
                              · go_wp2_with fail
                                go_quiet (fail)
                                go_wp2_with fail
                                go_roundw
                                case rel => exact ⟨y + 1, _, by omega, by go_num, by rw [HST.out, HOE.out]; simp [bitB], rfl⟩
                                case measure => simp [intOf]; omega
                              · go_wp2_with fail
                                go_quiet (fail)
                                go_wp2_with fail
                                go_roundw
                                case rel => exact ⟨y + 1, _, by omega, by go_num, by rw [HST.out, HOE.out]; simp, rfl⟩
                                case measure => simp [intOf]; omega
                          · obtain rfl : y = G.length := by omega
                            go_wp2_with fail
                            go_roundw
                            case rel => exact ⟨x + 1, m, by omega, by go_num, by rw [upB_row], rfl⟩
                            case measure => simp [intOf]; omega
                      · obtain rfl : x = G.length := by omega
                        rw [HUA.out]
                        have hown : (w2.drewN n).ownsRow wo.heap.size 3 1 (.slice (some ⟨g', 0, none⟩) j cap') j ((pRow H G k j).map (Value.int .i64)) := ownsRow_below HR.out (below_drewN HBX.out n)
                        have hBw : Below wo.heap.size wo (w2.drewN n) := below_drewN (hB2.trans (HBX.out.mono hBs)) n
                        have HNX := Lib.hid (pRow_succ H G k j)
                        obtain ⟨z, hz⟩ : ∃ z, bitB (powP H G k j) = z := ⟨_, rfl⟩
                        rw [hz] at HNX ⊢
                        obtain ⟨W, hW⟩ : ∃ W, w2.drewN n = W := ⟨_, rfl⟩
                        rw [hW] at hown hBw ⊢
                        clear hz hW HUA HT1 HT2 HR1 HR2 HMi HMi'
                        have hsW := hBw.size
                        have hlg := hown.lt g' (by simp [Value.ownBlock])
                        go_wp2_with (at_builtin; go_must (refine wpList_append_own _ rfl _ _ 30 rfl wo.heap.size 3 i1 (.int .i64 0) 1 8 Try.underlying30 hj hy0 hy1 hy2 rfl (by decide) _ _ _ rfl (hown.alloc _) ⟨W.heap.size, 0, none⟩ 1 1 [.int .i64 z] rfl rfl (cell_one_new _ _ _) (by simp [Value.oneCell']) (by unfold maxLen; omega) (by omega) (by simp; omega) ?_); go_must (intro v' wz hown' hgrow _; obtain ⟨g2, cap2, rfl⟩ := ownsRow_succ hown'); go_must (have HO4 := Lib.hid hown'); go_must (have hB4 : Below wo.heap.size wo wz := (hBw.alloc hsW _).grown hgrow (by simp; omega) (fun r e => by have e' : some g' = some r := e; cases e'; exact hlg.1)); clear hown' hgrow)
                        go_roundw
                        case rel => exact ⟨j + 1, g2, cap2, by omega, by go_num, rfl, Lib.hid (by rw [HNX.out, List.map_append]; exact HO4.out), hB4⟩
                        case measure => simp [intOf]; omega
                  · obtain rfl : j = q := by omega
                    have HO2 := HO.out.below hB2
                    obtain ⟨vs, hown, hrows⟩ := HO2
                    rw [pRows_length] at hown
                    have HW := Lib.hid hrows
                    clear hrows
                    have hlg := hown.lt g (by simp [Value.ownBlock])
                    have HR2 : Hid (wr.ownsRow w.heap.size 3 1 (.slice (some ⟨g', 0, none⟩) j cap') (pRow H G k j).length ((pRow H G k j).map (Value.int .i64))) := by
                      rw [pRow_length]; exact Joins.ownsRow_le HR.out hws
                    have hBr : Below w.heap.size w wr := hB.trans (hB2.mono hws)
                    go_wp2_with (at_builtin; go_must (refine wpList_append_own _ rfl _ _ 23 rfl w.heap.size 30 i0 (.slice none 0 0) 1 24 Try.underlying23 hi hz0 hz1 hz2 rfl (by decide) _ _ _ rfl (hown.alloc _) ⟨wr.heap.size, 0, none⟩ 1 1 [.slice (some ⟨g', 0, none⟩) j cap'] rfl rfl (cell_one_new _ _ _) (by simp [Value.oneCell']) (by unfold maxLen; omega) (by omega) (by simp; omega) ?_); go_must (intro v' w4 hown' hgrow _; obtain ⟨g2, cap2, rfl⟩ := ownsRow_succ hown'); go_must (have HO4 := Lib.hid (OwnMat.appended (by rw [pRows_length]; exact hown) HW.out HR2.out (by rw [pRows_length]; exact hown') hgrow)); go_must (have hB4 : Below w.heap.size w w4 := (hBr.alloc (by omega) _).grown hgrow (by simp; omega) (fun r e => by have e' : some g = some r := e; cases e'; exact hlg.1)); clear hown' hgrow)
                    go_roundw
                    case rel => exact ⟨k + 1, g2, cap2, by omega, by go_num, rfl, Lib.hid (by rw [pRows_succ]; exact HO4.out), hB4⟩
                    case measure => simp [intOf]; omega
              · obtain rfl : k = q := by omega
                have e1 : pRows H G k k = powL H G := by rw [← pRows_all HOK.out, HN.out]
                have hm := HO.out
                rw [e1] at hm
                have HMt := Lib.hid hm
                have HL : Hid ((powL H G).length = k) := Lib.hid (by rw [pow_length HOK.out, HN.out])
                clear hm e1
                go_wp2_with fail
                go_ret2
                exact ⟨some ⟨g, 0, none⟩, cap, ⟨by rw [HL.out]; rfl, hB⟩, by rw [HL.out]; exact HMt.out⟩
      · have hok := powOk_no3 (G := G) (H := H) h9
        have HX : Hid (∀ k, k = G.length → ¬ H.length ^ k ≤ 9) := Lib.hid fun k hk => by subst hk; exact h9
        rw [powL_no hok, hok]
        clear hok h9
        go_enter Try.func15, Try.ntmps15
        go_wp2_with fail
        refine (specOk_any _ _ _ n₀ _ (hM'.below ((Below.refl _ w).alloc hn₀ _)) HF'.out).mono ?_
        rintro e w' ⟨rfl, rfl⟩
        rw [hg']
        go_wp2_with fail
        refine (specOk_any _ _ _ n₀ _ (hM.below ((Below.refl _ w).alloc hn₀ _)) HF.out).mono ?_
        rintro e w' ⟨rfl, rfl⟩
        rw [hg]
        go_wp2_with fail
        go_loop [7, 8] (fun r i => ∃ k q : Nat, k ≤ G.length ∧ i = .int .i64 k ∧ r = .int .i64 q ∧ q ≤ 81 ∧ Hid (q = H.length ^ k)) (fun _ i => G.length - (intOf i).toNat)
        case atStart => exact ⟨0, 1, Nat.zero_le _, rfl, rfl, by omega, Lib.hid (by simp)⟩
        case round =>
          obtain ⟨k, q, hk, rfl, rfl, hq, HQ⟩ := hrel
          by_cases hq9 : q ≤ 9
          · by_cases hlt : k < G.length
            · have hq2 : q * H.length ≤ 9 * 9 := Nat.mul_le_mul hq9 hx9
              have hp0 : (0 : Int) ≤ (q : Int) * (H.length : Int) := by rw [← Int.natCast_mul]; omega
              have hp1 : (q : Int) * (H.length : Int) ≤ 81 := by rw [← Int.natCast_mul]; omega
              go_wp2_with fail
              go_round
              case rel => exact ⟨k + 1, q * H.length, by omega, by go_num, by rw [Int.natCast_mul], hq2, Lib.hid (by rw [HQ.out, Nat.pow_succ])⟩
              case measure => simp [intOf]; omega
            · exact absurd (HQ.out ▸ hq9) (HX.out k (by omega))
          · by_cases hlt : k < G.length
            · go_wp2_with fail
              go_ret2
              exact ⟨_, _, ⟨rfl, (Below.refl _ w).alloc (Nat.le_refl _) _⟩, OwnMat.start w (Nat.le_refl _)⟩
            · go_wp2_with fail
              go_ret2
              exact ⟨_, _, ⟨rfl, (Below.refl _ w).alloc (Nat.le_refl _) _⟩, OwnMat.start w (Nat.le_refl _)⟩
    · have hgn : gOk H = false := by simpa using hg
      have hok := powOk_no2 (G := G) hgn
      rw [powL_no hok, hok]
      clear hok hg
      go_enter Try.func15, Try.ntmps15
      go_wp2_with fail
      refine (specOk_any _ _ _ n₀ _ (hM'.below ((Below.refl _ w).alloc hn₀ _)) HF'.out).mono ?_
      rintro e w' ⟨rfl, rfl⟩
      rw [hg']
      go_wp2_with fail
      refine (specOk_any _ _ _ n₀ _ (hM.below ((Below.refl _ w).alloc hn₀ _)) HF.out).mono ?_
      rintro e w' ⟨rfl, rfl⟩
      rw [hgn]
      go_wp2_with fail
      go_ret2
      exact ⟨_, _, ⟨rfl, (Below.refl _ w).alloc (Nat.le_refl _) _⟩, OwnMat.start w (Nat.le_refl _)⟩
  · have hgn : gOk G = false := by simpa using hg'
    have hok := powOk_no1 (H := H) hgn
    rw [powL_no hok, hok]
    clear hok hg'
    go_enter Try.func15, Try.ntmps15
    go_wp2_with fail
    refine (specOk_any _ _ _ n₀ _ (hM'.below ((Below.refl _ w).alloc hn₀ _)) HF'.out).mono ?_
    rintro e w' ⟨rfl, rfl⟩
    rw [hgn]
    go_wp2_with fail
    go_ret2
    exact ⟨_, _, ⟨rfl, (Below.refl _ w).alloc (Nat.le_refl _) _⟩, OwnMat.start w (Nat.le_refl _)⟩

theorem specPow (a a' : Option Addr) (c c' : Nat) (H G : List (List Int)) (n₀ : Nat) (w : World) (hM : Mat n₀ w a H) (hM' : Mat n₀ w a' G) (hn₀ : n₀ ≤ w.heap.size) (hF : Fit H) (hF' : Fit G) :
    Calls Try.prog 15 #[.slice a H.length c, .slice a' G.length c'] w (ReadB (powL H G) (powOk H G) w) := (specPowO a a' c c' H G n₀ w hM hM' hn₀ hF hF').mono fun _ _ h => h.read

end Go.Proofs.Ytjcoilabmbmbkaa
