/-
  The walk of the law of P6 (MapsOf).
-/
import Derived.Test.YtimjijbjadkfnaaK3
import Derived.Test.YtimjijbjadkfnaaZQ
import Derived.Test.YtimjijbjadkfnaaZN
import Derived.Test.YtimjijbjadkfnaaM9
import Derived.Test.YtimjijbjadkfnaaM11
namespace Go.Proofs.Ytimjijbjadkfnaa
open Go.RowKit Go.Shelf

theorem made_nought (m : Nat) : (madeCells #[Value.int .i64 0] m).toList = List.replicate m (Value.int .i64 0) := by
  apply List.ext_getElem
  · simp [madeCells]
  · intro k h1 h2
    simp [madeCells, Nat.mod_one]
theorem made_row {w : World} (m : Nat) (hm : m ≤ 1000) : (w.alloc (.cells (madeCells #[.int .i64 0] m) 3)).ownsRow w.heap.size 3 1 (.slice (some ⟨w.heap.size, 0, none⟩) m m) m ((List.replicate m (0 : Int)).map (Value.int .i64)) := by
  have h := World.ownsRow_lit (base := w.heap.size) (e := 3) (size := 1) w (madeCells #[.int .i64 0] m) m (Nat.le_refl _) (by unfold maxLen; omega) (by rw [size_madeCells]; omega)
  rw [made_nought] at h
  rw [List.map_replicate]
  exact h
theorem own_succ (m : Nat) : ownL (m + 1) = ownL m ++ [(m : Int)] := by simp [ownL, List.range_succ]
theorem own_len (m : Nat) : (ownL m).length = m := by simp [ownL]
theorem mapOk_self {G : List (List Int)} (h : gOk G = true) : mapOkI G G (ownL G.length) = true := mapOk_iff.2 ⟨⟨h, h⟩, own_map G⟩
theorem dig_ext {h m n : Nat} {fs : List Int} (hl : fs.length = m) (hd : ∀ i, i < m → fs[i]? = some ((n / h ^ i % h : Nat) : Int)) : fs = dig h m n := by
  apply List.ext_getElem?
  intro i
  by_cases hi : i < m
  · rw [hd i hi, dig_get h m n i hi]
  · rw [List.getElem?_eq_none (by omega), List.getElem?_eq_none (by rw [dig_length]; omega)]
theorem own_ints0 {W : World} {base g c n : Nat} {xs : List Int} (hn : xs.length = n) (h : W.ownsRow base 3 1 (.slice (some ⟨g, 0, none⟩) n c) n (xs.map (Value.int .i64))) : Ints W.heap.size W (some ⟨g, 0, none⟩) xs := by
  subst hn
  obtain ⟨a, c', e, hI⟩ := own_ints h
  cases e
  exact hI

attribute [local irreducible] wpAny
set_option maxRecDepth 100000 in
set_option maxHeartbeats 8000000 in
theorem mapsOf_any (a : Option Addr) (n c : Nat) (w : World) (hc : n ≤ c) (hl : n ≤ 9223372036854775807) (hy : Bytes w.heap.size w a n) :
    Calls Try.prog 4 #[.slice a n c] w (Ans (.bool true) w) := by
  by_cases hbig : 1048576 < n
  · go_enter Try.func4, Try.ntmps4
    go_wp2_with fail
    go_ret
    exact ⟨rfl, Below.refl _ _⟩
  obtain ⟨i1, hj, hy0, hy1, hy2⟩ := info_parts infoInt
  go_enter Try.func4, Try.ntmps4
  go_wp2_with fail
  refine (drawMapsOf_any a n c w (by omega) hc hy).mono ?_
  rintro e w1 ⟨a1, c1, xss, a1', c1', yss, rfl, ⟨hF, x1, hx4⟩, ⟨hF', y1, hy4⟩, hB⟩
  have HB1 := Lib.hid hB
  have HF := Lib.hid hF
  have HF' := Lib.hid hF'
  have hlx := hF.1
  have hly := hF'.1
  obtain ⟨zs, HZ⟩ : ∃ zs, Hid (mapsL xss yss = zs) := ⟨_, rfl⟩
  have HZF : Hid (Fit zs) := Lib.hid (by rw [← HZ.out]; exact mapsL_fit _ _)
  have hzl := HZF.out.1
  clear hB hF hF' hy
  go_wp2_with fail
  refine (implMaps _ _ _ _ _ _ _ x1 y1 HF.out HF'.out).mono ?_
  rw [HZ.out]
  rintro e w2 ⟨b2, d2, ⟨rfl, hB2⟩, hO2⟩
  have z2 := hO2.mat.mat
  clear hO2
  have hz2 := hB2.size
  have x2 := (x1.below hB2).more hz2
  have y2 := (y1.below hB2).more hz2
  have HB2 := Lib.hid (HB1.out.trans (hB2.mono HB1.out.size))
  clear hB2 hz2 x1 y1
  go_wp2_with fail
  refine (specMapsOf _ _ _ _ _ _ _ _ x2 y2 (Nat.le_refl _) HF.out HF'.out).mono ?_
  rw [HZ.out]
  rintro e w3 ⟨b3, d3, ⟨rfl, hB3⟩, s3⟩
  have hz3 := hB3.size
  have x3 := (x2.below hB3).more hz3
  have y3 := (y2.below hB3).more hz3
  have z3 := (z2.below hB3).more hz3
  have HB3 := Lib.hid (HB2.out.trans (hB3.mono HB2.out.size))
  clear hB3 hz3 x2 y2 z2
  go_wp2_with fail
  refine (sameSS_same _ _ _ _ _ _ _ z3 s3 HZF.out).mono ?_
  rintro e w4 h4x
  obtain ⟨rfl, hB4⟩ := h4x.below
  clear h4x
  have hz4 := hB4.size
  have x4 := (x3.below hB4).more hz4
  have y4 := (y3.below hB4).more hz4
  have z4 := (z3.below hB4).more hz4
  have s4 := (s3.below hB4).more hz4
  have HB4 := Lib.hid (HB3.out.trans (hB4.mono HB3.out.size))
  clear hB4 hz4 x3 y3 z3 s3
  clear s4
  go_wp2_with fail
  refine (specFew _ _ _ _ _ _ _ _ x4 y4 HF.out HF'.out).mono ?_
  rintro e wq ⟨rfl, rfl⟩
  by_cases hg : fewI xss yss = true
  · rw [hg]
    obtain ⟨hgx, hgy, _⟩ := fewI_iff.1 hg
    have HGX := Lib.hid hgx
    have HGY := Lib.hid hgy
    have HW := Lib.hid hg
    have hy1' : 1 ≤ yss.length := (good_of hgy).1
    have hx1' : 1 ≤ xss.length := (good_of hgx).1
    have HPW : Hid (∀ k, k ≤ xss.length → yss.length ^ k ≤ 256) := Lib.hid fun k hk => Nat.le_trans (Nat.pow_le_pow_left hy4 k) (Nat.le_trans (Nat.pow_le_pow_right (by decide) (show k ≤ 4 by omega)) (by decide))
    have hmk := run_make_row' (P := Try.prog) 29 3 (.int .i64 0) 8 Try.underlying29 infoInt rfl .i64 .i64 xss.length (by omega) (by omega)
    have HOF := Lib.hid (made_row (w := w4) xss.length (by omega))
    have hBm : Below w4.heap.size w4 (w4.alloc (.cells (madeCells #[.int .i64 0] xss.length) 3)) := (Below.refl _ _).alloc (Nat.le_refl _) _
    clear hg hgx hgy
    go_wp2_with fail
    clear hmk
    go_loopw [8, 9] (fun r i wr => ∃ k p : Nat, k ≤ xss.length ∧ i = .int .i64 k ∧ r = .int .i64 p ∧ Hid (p = yss.length ^ k) ∧ wr = w4.alloc (.cells (madeCells #[.int .i64 0] xss.length) 3)) (fun _ i _ => xss.length - (intOf i).toNat)
    case atStart => exact ⟨0, 1, Nat.zero_le _, rfl, rfl, Lib.hid (by simp), rfl⟩
    case round =>
      obtain ⟨k, p, hk, rfl, rfl, HP, rfl⟩ := hrel
      by_cases hlt : k < xss.length
      · have hp256 : p ≤ 256 := by rw [HP.out]; exact HPW.out k hk
        have hpm : p * yss.length ≤ 256 * 4 := Nat.mul_le_mul hp256 hy4
        have hp0 : (0 : Int) ≤ (p : Int) * (yss.length : Int) := by rw [← Int.natCast_mul]; omega
        have hp1 : (p : Int) * (yss.length : Int) ≤ 1024 := by rw [← Int.natCast_mul]; omega
        clear x4 y4 z4
        go_wp2_with fail
        go_roundw
        case rel => exact ⟨k + 1, p * yss.length, by omega, by go_num, by rw [Int.natCast_mul], Lib.hid (by rw [HP.out, Nat.pow_succ]), trivial⟩
        case measure => simp [intOf]; omega
      · obtain rfl : k = xss.length := by omega
        have hp256 : p ≤ 256 := by rw [HP.out]; exact HPW.out _ (Nat.le_refl _)
        obtain ⟨w5, hw5⟩ : ∃ w5, w4.alloc (.cells (madeCells #[.int .i64 0] xss.length) 3) = w5 := ⟨_, rfl⟩
        rw [hw5] at HOF hBm ⊢
        have hB5 := hBm
        have hBm' := hBm
        clear hw5 hBm
        have HB5 := Lib.hid (HB4.out.trans (hB5.mono HB4.out.size))
        clear hB5
        obtain ⟨F, hFe⟩ : ∃ F, w4.heap.size = F := ⟨_, rfl⟩
        rw [hFe] at HOF ⊢
        have HOF5 : Hid (∃ fs : List Int, fs.length = xss.length ∧ w5.ownsRow F 3 1 (.slice (some ⟨F, 0, none⟩) xss.length xss.length) xss.length (fs.map (Value.int .i64))) := Lib.hid ⟨List.replicate xss.length 0, by simp, HOF.out⟩
        clear HOF
        have HX5 : Hid (∀ wr : World, Below F w4 wr → Mat wr.heap.size wr a1 xss ∧ Mat wr.heap.size wr a1' yss ∧ Mat wr.heap.size wr b2 zs) := Lib.hid fun wr hb => by
          subst hFe
          have hz := hb.size
          exact ⟨(x4.below hb).more hz, (y4.below hb).more hz, (z4.below hb).more hz⟩
        have hB45 : Below F w4 w5 := by rw [← hFe]; exact hBm'
        clear x4 y4 z4 hBm'
        go_wp2_with fail
        go_loopw [6, 10] (fun r i wr => ∃ q M : Nat, q ≤ p ∧ i = .int .i64 q ∧ r = .int .i64 M ∧ M ≤ q ∧ Hid (M = sumN q fun t => bN (mapOkI xss yss (dig yss.length xss.length t))) ∧ Hid (∃ fs : List Int, fs.length = xss.length ∧ wr.ownsRow F 3 1 (.slice (some ⟨F, 0, none⟩) xss.length xss.length) xss.length (fs.map (Value.int .i64))) ∧ Below F w4 wr)
          (fun _ i _ => p - (intOf i).toNat)
        case atStart => exact ⟨0, 0, Nat.zero_le _, rfl, rfl, Nat.le_refl _, Lib.hid rfl, HOF5, hB45⟩
        case round =>
          obtain ⟨q, M, hq, rfl, rfl, hMq, HM, HFs, hBr⟩ := hrel
          clear HOF5 hB45
          by_cases hlt : q < p
          · obtain ⟨fs0, hfl0, hfo0⟩ := HFs.out
            have HF0 := Lib.hid hfo0
            clear hfo0
            go_wp2_with fail
            obtain ⟨wo, rfl⟩ : ∃ wo : World, wo = wr := ⟨_, rfl⟩
            go_loopw [11, 12] (fun r i wi => ∃ (k l : Nat) (fs : List Int), k ≤ xss.length ∧ i = .int .i64 k ∧ r = .int .i64 l ∧ l ≤ 256 ∧ Hid (l = q / yss.length ^ k) ∧ fs.length = xss.length ∧ Hid (wi.ownsRow F 3 1 (.slice (some ⟨F, 0, none⟩) xss.length xss.length) xss.length (fs.map (Value.int .i64))) ∧ Hid (∀ i, i < k → fs[i]? = some ((q / yss.length ^ i % yss.length : Nat) : Int)) ∧ Below F w4 wi)
              (fun _ i _ => xss.length - (intOf i).toNat)
            case atStart => exact ⟨0, q, fs0, Nat.zero_le _, rfl, rfl, by omega, Lib.hid (by simp), hfl0, HF0, Lib.hid fun i hi => absurd hi (Nat.not_lt_zero _), hBr⟩
            case round =>
              obtain ⟨k, l, fs, hk, rfl, rfl, hl256, HL, hfl, HFO, HD, hBi⟩ := hrel
              by_cases hltk : k < xss.length
              · have hyp : ((yss.length : Int) == 0) = false := beq_eq_false_iff_ne.2 (by omega)
                have hmd : (l : Int).tmod (yss.length : Int) = ((l % yss.length : Nat) : Int) := rfl
                have hdv : (l : Int).tdiv (yss.length : Int) = ((l / yss.length : Nat) : Int) := rfl
                have hld : l / yss.length ≤ l := Nat.div_le_self _ _
                have hcell : wr.cell? ⟨F, k, none⟩ = some (.int .i64 (fs[k]'(by omega))) := by
                  rw [HFO.out.cellAt k (by omega), List.getElem?_map, List.getElem?_eq_getElem (by omega)]; rfl
                have hfz := HFO.out.frozenAt k
                have HS := Lib.hid (HFO.out.stored k (.int .i64 ((l % yss.length : Nat) : Int))).1
                rw [← List.map_set] at HS
                have hBs : Below F w4 (wr.setCell ⟨F, k, none⟩ (.int .i64 ((l % yss.length : Nat) : Int))) := hBi.setCell (p := ⟨F, k, none⟩) (Nat.le_refl _) _
                have HD2 : Hid (∀ i, i < k + 1 → (fs.set k ((l % yss.length : Nat) : Int))[i]? = some ((q / yss.length ^ i % yss.length : Nat) : Int)) := Lib.hid fun i hi => by
                  by_cases e : i = k
                  · subst e
                    rw [List.getElem?_set_self (by omega), HL.out]
                  · rw [List.getElem?_set_ne (fun h => e h.symm)]
                    exact HD.out i (by omega)
                have HL2 : Hid (l / yss.length = q / yss.length ^ (k + 1)) := Lib.hid (by rw [HL.out, Nat.div_div_eq_div_mul, Nat.pow_succ])
                clear HFO HD hBi HF0 HFs
                have hd0 : (0 : Int) ≤ (l : Int) / (yss.length : Int) := by rw [← Int.natCast_ediv]; exact Int.natCast_nonneg _
                have hd1 : (l : Int) / (yss.length : Int) ≤ 256 := by rw [← Int.natCast_ediv]; exact Int.ofNat_le.2 (Nat.le_trans hld hl256)
                have hld2 : l / yss.length ≤ 256 := Nat.le_trans hld hl256
                clear hmd hdv
                go_wp2_with fail
                go_roundw
                case rel => exact ⟨k + 1, l / yss.length, fs.set k ((l % yss.length : Nat) : Int), by omega, by go_num, rfl, hld2, HL2, by simp [hfl], HS, HD2, hBs⟩
                case measure => simp [intOf]; omega
              · obtain rfl : k = xss.length := by omega
                obtain rfl : fs = dig yss.length xss.length q := dig_ext hfl HD.out
                have hI := own_ints0 hfl HFO.out
                obtain ⟨x6, y6, _⟩ := HX5.out _ hBi
                have HC := Lib.hid (implMapOk a1 c1 a1' c1' (some ⟨F, 0, none⟩) xss.length xss yss (dig yss.length xss.length q) _ x6 y6 hI HF.out HF'.out (by omega))
                rw [hfl] at HC
                obtain ⟨z, hz⟩ : ∃ z, mapOkI xss yss (dig yss.length xss.length q) = z := ⟨_, rfl⟩
                rw [hz] at HC
                have HZ1 := Lib.hid hz
                clear hz x6 y6 hI HF0 HFs
                go_wp2_with fail
                refine HC.out.mono ?_
                rintro e w7 ⟨rfl, hB7⟩
                have HFn : Hid (∃ fs : List Int, fs.length = xss.length ∧ w7.ownsRow F 3 1 (.slice (some ⟨F, 0, none⟩) xss.length xss.length) xss.length (fs.map (Value.int .i64))) := Lib.hid ⟨_, hfl, ownsRow_below HFO.out hB7⟩
                have hBn : Below F w4 w7 := hBi.trans (hB7.mono (Nat.le_trans (by rw [← hFe]; exact Nat.le_refl _) hBi.size))
                clear HC HFO HD hB7 hBi
                cases z with
                | false =>
                  go_wp2_with fail
                  go_roundw
                  case rel => exact ⟨q + 1, M, by omega, by go_num, rfl, by omega, Lib.hid (by simp only [sumN]; rw [HZ1.out, ← HM.out]; rfl), HFn, hBn⟩
                  case measure => simp [intOf]; omega
                | true =>
                  go_wp2_with fail
                  go_roundw
                  case rel => exact ⟨q + 1, M + 1, by omega, by go_num, by go_num, by omega, Lib.hid (by simp only [sumN]; rw [HZ1.out, ← HM.out]; rfl), HFn, hBn⟩
                  case measure => simp [intOf]; omega
          · obtain rfl : q = p := by omega
            obtain ⟨x6, y6, z6⟩ := HX5.out _ hBr
            have hMZ : M = zs.length := by rw [HM.out, HP.out, maps_count HW.out, HZ.out]
            subst hMZ
            have HB6 := Lib.hid (HB4.out.trans (hBr.mono (by rw [← hFe]; exact HB4.out.size)))
            obtain ⟨w6, rfl⟩ : ∃ w6 : World, w6 = wr := ⟨_, rfl⟩
            clear HFs HM HX5 hBr hlt
            go_wp2_with fail
            go_loopw [13, 14] (fun v i wr => ∃ (k g cap : Nat), k ≤ xss.length ∧ i = .int .i64 k ∧ v = .slice (some ⟨g, 0, none⟩) k cap ∧ Hid (wr.ownsRow w6.heap.size 3 1 (.slice (some ⟨g, 0, none⟩) k cap) k ((ownL k).map (Value.int .i64))) ∧ Below w6.heap.size w6 wr)
              (fun _ i _ => xss.length - (intOf i).toNat)
            case atStart => exact ⟨0, _, _, Nat.zero_le _, rfl, rfl, World.ownsRow_lit (size := 1) w6 #[] 0 (Nat.le_refl _) (Nat.zero_le _) rfl, (Below.refl _ _).alloc (Nat.le_refl _) _⟩
            case round =>
              obtain ⟨j, g', cap', hj', rfl, rfl, HR, hB2⟩ := hrel
              by_cases hltj : j < xss.length
              · have hown := HR.out
                have hBs := hB2.size
                have hlg := HR.out.lt g' (by simp [Value.ownBlock])
                clear x6 y6 z6
                go_wp2_with (at_builtin; go_must (refine wpList_append_own _ rfl _ _ 29 rfl w6.heap.size 3 i1 (.int .i64 0) 1 8 Try.underlying29 hj hy0 hy1 hy2 rfl (by decide) _ _ _ rfl (hown.alloc _) ⟨wr.heap.size, 0, none⟩ 1 1 [.int .i64 j] rfl rfl (cell_one_new _ _ _) (by simp [Value.oneCell']) (by unfold maxLen; omega) (by omega) (by simp; omega) ?_); go_must (intro v' w9 hown' hgrow _; obtain ⟨g2, cap2, rfl⟩ := ownsRow_succ hown'); go_must (have HO9 := Lib.hid hown'); go_must (have hB9 : Below w6.heap.size w6 w9 := (hB2.alloc hBs _).grown hgrow (by simp; omega) (fun r e => by have e' : some g' = some r := e; cases e'; exact hlg.1)); clear hown' hgrow)
                go_roundw
                case rel => exact ⟨j + 1, g2, cap2, by omega, by go_num, rfl, Lib.hid (by rw [own_succ, List.map_append]; exact HO9.out), hB9⟩
                case measure => simp [intOf]; omega
              · obtain rfl : j = xss.length := by omega
                have hB7 := hB2
                have p7 := own_ints0 (own_len _) HR.out
                clear HR hB2
                obtain ⟨w7, rfl⟩ : ∃ w7 : World, w7 = wr := ⟨_, rfl⟩
                have hz7 := hB7.size
                have x7 := (x6.below hB7).more hz7
                have y7 := (y6.below hB7).more hz7
                have z7 := (z6.below hB7).more hz7
                have HB7 := Lib.hid (HB6.out.trans (hB7.mono HB6.out.size))
                clear hB7 hz7 x6 y6 z6
                go_wp2_with fail
                go_loopw [15] (fun i wr => ∃ k : Nat, k ≤ zs.length ∧ i = .int .i64 k ∧ Below w7.heap.size w7 wr) (fun i _ => zs.length - (intOf i).toNat)
                case atStart => exact ⟨0, Nat.zero_le _, rfl, Below.refl _ _⟩
                case round =>
                  obtain ⟨k, hk, rfl, hBk⟩ := hrel
                  have hzk := hBk.size
                  by_cases hlt : k < zs.length
                  · have xk := (x7.below hBk).more hzk
                    have yk := (y7.below hBk).more hzk
                    have zk := (z7.below hBk).more hzk
                    obtain ⟨bz, oz, az, cz, r, rfl, hbz, hcz, hIz, HIz⟩ := zk.at_ hlt
                    have HMr : Hid (mapOkI xss yss r = true) := Lib.hid ((mapOk_mem HW.out r).2 (by rw [HZ.out]; exact List.mem_of_getElem? HIz.out))
                    have hrl : r.length ≤ 1048576 := HZF.out.at_ HIz.out
                    have HC := Lib.hid (implMapOk a1 c1 a1' c1' az cz xss yss r wr.drew xk yk hIz HF.out HF'.out hrl)
                    rw [HMr.out] at HC
                    by_cases hk0 : k = 0
                    · subst hk0
                      rw [Nat.add_zero] at hcz
                      clear x7 y7 z7 p7 xk yk hIz
                      go_wp2_with fail
                      refine wp_region_any (by kernel_rfl) ?_
                      change wpAny _ _ _ _ _ _ _ (World.drew _)
                      refine wpAny_take (i := 0) (v := ?_) rfl (by kernel_rfl) (by kernel_rfl) (by kernel_rfl) (fun _ _ _ h => h) (Or.inl ⟨by rfl, ?_⟩) ?_
                      case refine_2 => intro w; first | (go_simp; rfl) | go_simp
                      simp only [Act.put, List.getElem_toArray, List.getElem_cons_zero, List.setIfInBounds_toArray, List.set_cons_zero, List.set_cons_succ]
                      refine wpAny_take (i := 1) (v := ?_) rfl (by kernel_rfl) (by kernel_rfl) (by kernel_rfl) (fun _ _ _ h => h) (Or.inl ⟨by rfl, ?_⟩) ?_
                      case refine_2 => intro w; first | (go_simp; rfl) | go_simp
                      simp only [Act.put, List.getElem_toArray, List.getElem_cons_succ, List.getElem_cons_zero, List.setIfInBounds_toArray, List.set_cons_zero, List.set_cons_succ]
                      refine wpAny_take (i := 2) (v := ?_) rfl (by kernel_rfl) (by kernel_rfl) (by kernel_rfl) (fun _ _ _ h => h) (Or.inl ⟨by rfl, ?_⟩) ?_
                      case refine_2 => intro w; first | (go_simp; rfl) | go_simp
                      simp only [Act.put, List.getElem_toArray, List.getElem_cons_succ, List.getElem_cons_zero, List.setIfInBounds_toArray, List.set_cons_zero, List.set_cons_succ]
                      refine wpAny_take (i := 3) (v := ?_) rfl (by kernel_rfl) (by kernel_rfl) (by kernel_rfl) (fun _ _ _ h => h) (Or.inl ⟨by rfl, ?_⟩) ?_
                      case refine_2 => intro w; first | (go_simp; rfl) | go_simp
                      simp only [Act.put, List.getElem_toArray, List.getElem_cons_succ, List.getElem_cons_zero, List.setIfInBounds_toArray, List.set_cons_zero, List.set_cons_succ]
                      refine wpAny_take (i := 4) (v := ?_) rfl (by kernel_rfl) (by kernel_rfl) (by kernel_rfl) (fun _ _ _ h => h) (Or.inl ⟨by rfl, ?_⟩) ?_
                      case refine_2 => intro w; first | (go_simp; rfl) | go_simp
                      simp only [Act.put, List.getElem_toArray, List.getElem_cons_succ, List.getElem_cons_zero, List.setIfInBounds_toArray, List.set_cons_zero, List.set_cons_succ]
                      refine wpAny_ready (rs := [5]) (by kernel_rfl) (by simp) ?_
                      refine AllReady.cons rfl (fun K hK => ?_) AllReady.nil
                      go_simp
                      refine hK _ _ ?_
                      clear hK K
                      refine wpAny_ready (rs := [6]) (by kernel_rfl) (by simp) ?_
                      refine AllReady.cons rfl (fun K hK => ?_) AllReady.nil
                      go_simp
                      refine HC.out.mono ?_
                      rintro e w8 ⟨rfl, hB8⟩
                      have hB8' : Below wr.heap.size wr w8 := ⟨hB8.os, hB8.tape, hB8.output, hB8.size, hB8.block⟩
                      refine hK _ _ ?_
                      clear hK K
                      refine wpAny_take (i := 7) (v := ?_) rfl (by kernel_rfl) (by kernel_rfl) (by kernel_rfl) (fun _ _ _ h => h) (Or.inl ⟨by rfl, ?_⟩) ?_
                      case refine_2 => intro w; first | (go_simp; rfl) | go_simp
                      simp only [Act.put, List.getElem_toArray, List.getElem_cons_succ, List.getElem_cons_zero, List.setIfInBounds_toArray, List.set_cons_zero, List.set_cons_succ]
                      refine wpAny_take (i := 8) (v := ?_) rfl (by kernel_rfl) (by kernel_rfl) (by kernel_rfl) (fun _ _ _ h => h) (Or.inl ⟨by rfl, ?_⟩) ?_
                      case refine_2 => intro w; first | (go_simp; rfl) | go_simp
                      simp only [Act.put, List.getElem_toArray, List.getElem_cons_succ, List.getElem_cons_zero, List.setIfInBounds_toArray, List.set_cons_zero, List.set_cons_succ]
                      refine wpAny_take (i := 9) (v := ?_) rfl (by kernel_rfl) (by kernel_rfl) (by kernel_rfl) (fun _ _ _ h => h) (Or.inl ⟨by rfl, ?_⟩) ?_
                      case refine_2 => intro w; first | (go_simp; rfl) | go_simp
                      simp only [Act.put, List.getElem_toArray, List.getElem_cons_succ, List.getElem_cons_zero, List.setIfInBounds_toArray, List.set_cons_zero, List.set_cons_succ]
                      refine wpAny_take (i := 10) (v := ?_) rfl (by kernel_rfl) (by kernel_rfl) (by kernel_rfl) (fun _ _ _ h => h) (Or.inl ⟨by rfl, ?_⟩) ?_
                      case refine_2 => intro w; first | (go_simp; rfl) | go_simp
                      simp only [Act.put, List.getElem_toArray, List.getElem_cons_succ, List.getElem_cons_zero, List.setIfInBounds_toArray, List.set_cons_zero, List.set_cons_succ]
                      refine wpAny_take (i := 11) (v := ?_) rfl (by kernel_rfl) (by kernel_rfl) (by kernel_rfl) (fun _ _ _ h => h) (Or.inl ⟨by rfl, ?_⟩) ?_
                      case refine_2 => intro w; first | (go_simp; rfl) | go_simp
                      simp only [Act.put, List.getElem_toArray, List.getElem_cons_succ, List.getElem_cons_zero, List.setIfInBounds_toArray, List.set_cons_zero, List.set_cons_succ]
                      refine wpAny_take (i := 12) (v := undef) rfl (by kernel_rfl) (by kernel_rfl) (by kernel_rfl) (fun _ _ _ h => h) (Or.inr ⟨?_, rfl⟩) ?_
                      case refine_1 => rfl
                      simp only [Act.put, List.getElem_toArray, List.getElem_cons_succ, List.getElem_cons_zero, List.setIfInBounds_toArray, List.set_cons_zero, List.set_cons_succ]
                      refine wpAny_take (i := 13) (v := undef) rfl (by kernel_rfl) (by kernel_rfl) (by kernel_rfl) (fun _ _ _ h => h) (Or.inr ⟨?_, rfl⟩) ?_
                      case refine_1 => rfl
                      simp only [Act.put, List.getElem_toArray, List.getElem_cons_succ, List.getElem_cons_zero, List.setIfInBounds_toArray, List.set_cons_zero, List.set_cons_succ]
                      refine wpAny_take (i := 14) (v := undef) rfl (by kernel_rfl) (by kernel_rfl) (by kernel_rfl) (fun _ _ _ h => h) (Or.inr ⟨?_, rfl⟩) ?_
                      case refine_1 => rfl
                      simp only [Act.put, List.getElem_toArray, List.getElem_cons_succ, List.getElem_cons_zero, List.setIfInBounds_toArray, List.set_cons_zero, List.set_cons_succ]
                      refine wpAny_take (i := 15) (v := undef) rfl (by kernel_rfl) (by kernel_rfl) (by kernel_rfl) (fun _ _ _ h => h) (Or.inr ⟨?_, rfl⟩) ?_
                      case refine_1 => rfl
                      simp only [Act.put, List.getElem_toArray, List.getElem_cons_succ, List.getElem_cons_zero, List.setIfInBounds_toArray, List.set_cons_zero, List.set_cons_succ]
                      refine wpAny_take (i := 16) (v := undef) rfl (by kernel_rfl) (by kernel_rfl) (by kernel_rfl) (fun _ _ _ h => h) (Or.inr ⟨?_, rfl⟩) ?_
                      case refine_1 => rfl
                      simp only [Act.put, List.getElem_toArray, List.getElem_cons_succ, List.getElem_cons_zero, List.setIfInBounds_toArray, List.set_cons_zero, List.set_cons_succ]
                      refine wpAny_take (i := 17) (v := undef) rfl (by kernel_rfl) (by kernel_rfl) (by kernel_rfl) (fun _ _ _ h => h) (Or.inr ⟨?_, rfl⟩) ?_
                      case refine_1 => rfl
                      simp only [Act.put, List.getElem_toArray, List.getElem_cons_succ, List.getElem_cons_zero, List.setIfInBounds_toArray, List.set_cons_zero, List.set_cons_succ]
                      refine wpAny_take (i := 18) (v := undef) rfl (by kernel_rfl) (by kernel_rfl) (by kernel_rfl) (fun _ _ _ h => h) (Or.inr ⟨?_, rfl⟩) ?_
                      case refine_1 => rfl
                      simp only [Act.put, List.getElem_toArray, List.getElem_cons_succ, List.getElem_cons_zero, List.setIfInBounds_toArray, List.set_cons_zero, List.set_cons_succ]
                      refine wpAny_take (i := 19) (v := undef) rfl (by kernel_rfl) (by kernel_rfl) (by kernel_rfl) (fun _ _ _ h => h) (Or.inr ⟨?_, rfl⟩) ?_
                      case refine_1 => rfl
                      simp only [Act.put, List.getElem_toArray, List.getElem_cons_succ, List.getElem_cons_zero, List.setIfInBounds_toArray, List.set_cons_zero, List.set_cons_succ]
                      refine wpAny_take (i := 20) (v := undef) rfl (by kernel_rfl) (by kernel_rfl) (by kernel_rfl) (fun _ _ _ h => h) (Or.inr ⟨?_, rfl⟩) ?_
                      case refine_1 => rfl
                      simp only [Act.put, List.getElem_toArray, List.getElem_cons_succ, List.getElem_cons_zero, List.setIfInBounds_toArray, List.set_cons_zero, List.set_cons_succ]
                      refine wpAny_take (i := 21) (v := undef) rfl (by kernel_rfl) (by kernel_rfl) (by kernel_rfl) (fun _ _ _ h => h) (Or.inr ⟨?_, rfl⟩) ?_
                      case refine_1 => rfl
                      simp only [Act.put, List.getElem_toArray, List.getElem_cons_succ, List.getElem_cons_zero, List.setIfInBounds_toArray, List.set_cons_zero, List.set_cons_succ]
                      refine wpAny_take (i := 22) (v := ?_) rfl (by kernel_rfl) (by kernel_rfl) (by kernel_rfl) (fun _ _ _ h => h) (Or.inl ⟨by rfl, ?_⟩) ?_
                      case refine_2 => intro w; first | (go_simp; rfl) | go_simp
                      simp only [Act.put, List.getElem_toArray, List.getElem_cons_succ, List.getElem_cons_zero, List.setIfInBounds_toArray, List.set_cons_zero, List.set_cons_succ]
                      refine wpAny_take (i := 23) (v := ?_) rfl (by kernel_rfl) (by kernel_rfl) (by kernel_rfl) (fun _ _ _ h => h) (Or.inl ⟨by rfl, ?_⟩) ?_
                      case refine_2 => intro w; first | (go_simp; rfl) | go_simp
                      simp only [Act.put, List.getElem_toArray, List.getElem_cons_succ, List.getElem_cons_zero, List.setIfInBounds_toArray, List.set_cons_zero, List.set_cons_succ]
                      refine wpAny_done (by kernel_rfl) ?_ _
                      go_wp2_with fail
                      go_roundw
                      case rel => exact ⟨0 + 1, by omega, by go_num, hBk.trans (hB8'.mono hzk)⟩
                      case measure => simp [intOf]; omega
                    · obtain ⟨j, rfl⟩ : ∃ j, k = j + 1 := ⟨k - 1, by omega⟩
                      have hjp : (0 : Int) < (j : Int) + 1 := by omega
                      have hjd : decide ((0 : Int) < (j : Int) + 1) = true := decide_eq_true (by omega)
                      have hjw : IntKind.i64.wrap (j : Int) = (j : Int) := by simp [IntKind.wrap, IntKind.bits, IntKind.signed]; omega
                      have hj0 : (0 : Int) ≤ (j : Int) := Int.natCast_nonneg _
                      have hj1 : (j : Int) < (zs.length : Int) := by omega
                      obtain ⟨bz', oz', az', cz', r', ez, hbz', hcz', hIz', HIz'⟩ := zk.at_ (k := j) (by omega)
                      cases ez
                      have HMr' : Hid (mapOkI xss yss r' = true) := Lib.hid ((mapOk_mem HW.out r').2 (by rw [HZ.out]; exact List.mem_of_getElem? HIz'.out))
                      have hne : r ≠ r' := maps_next (G := xss) (H := yss) (by rw [HZ.out]; exact HIz'.out) (by rw [HZ.out]; exact HIz.out)
                      have hrr : r'.length = r.length := by rw [(mapOk_iff.1 HMr.out).2.1.1, (mapOk_iff.1 HMr'.out).2.1.1]
                      rw [hrr] at hcz'
                      have HRR := Lib.hid hrr
                      have HNE := Lib.hid hne
                      have HIr := Lib.hid hIz
                      have HIr' := Lib.hid hIz'
                      clear x7 y7 z7 p7 xk yk zk hIz hIz' hrr hne
                      go_wp2_with fail
                      refine wp_region_any (by kernel_rfl) ?_
                      change wpAny _ _ _ _ _ _ _ (World.drew _)
                      refine wpAny_take (i := 0) (v := ?_) rfl (by kernel_rfl) (by kernel_rfl) (by kernel_rfl) (fun _ _ _ h => h) (Or.inl ⟨by rfl, ?_⟩) ?_
                      case refine_2 => intro w; first | (go_simp; rfl) | go_simp
                      simp only [Act.put, List.getElem_toArray, List.getElem_cons_zero, List.setIfInBounds_toArray, List.set_cons_zero, List.set_cons_succ]
                      refine wpAny_take (i := 1) (v := ?_) rfl (by kernel_rfl) (by kernel_rfl) (by kernel_rfl) (fun _ _ _ h => h) (Or.inl ⟨by rfl, ?_⟩) ?_
                      case refine_2 => intro w; first | (go_simp; rfl) | go_simp
                      simp only [Act.put, List.getElem_toArray, List.getElem_cons_succ, List.getElem_cons_zero, List.setIfInBounds_toArray, List.set_cons_zero, List.set_cons_succ]
                      refine wpAny_take (i := 2) (v := ?_) rfl (by kernel_rfl) (by kernel_rfl) (by kernel_rfl) (fun _ _ _ h => h) (Or.inl ⟨by rfl, ?_⟩) ?_
                      case refine_2 => intro w; first | (go_simp; rfl) | go_simp
                      simp only [Act.put, List.getElem_toArray, List.getElem_cons_succ, List.getElem_cons_zero, List.setIfInBounds_toArray, List.set_cons_zero, List.set_cons_succ]
                      refine wpAny_take (i := 3) (v := ?_) rfl (by kernel_rfl) (by kernel_rfl) (by kernel_rfl) (fun _ _ _ h => h) (Or.inl ⟨by rfl, ?_⟩) ?_
                      case refine_2 => intro w; first | (go_simp; rfl) | go_simp
                      simp only [Act.put, List.getElem_toArray, List.getElem_cons_succ, List.getElem_cons_zero, List.setIfInBounds_toArray, List.set_cons_zero, List.set_cons_succ]
                      refine wpAny_take (i := 4) (v := ?_) rfl (by kernel_rfl) (by kernel_rfl) (by kernel_rfl) (fun _ _ _ h => h) (Or.inl ⟨by rfl, ?_⟩) ?_
                      case refine_2 => intro w; first | (go_simp; rfl) | go_simp
                      simp only [Act.put, List.getElem_toArray, List.getElem_cons_succ, List.getElem_cons_zero, List.setIfInBounds_toArray, List.set_cons_zero, List.set_cons_succ]
                      refine wpAny_ready (rs := [5]) (by kernel_rfl) (by simp) ?_
                      refine AllReady.cons rfl (fun K hK => ?_) AllReady.nil
                      go_simp
                      refine hK _ _ ?_
                      clear hK K
                      refine wpAny_ready (rs := [6]) (by kernel_rfl) (by simp) ?_
                      refine AllReady.cons rfl (fun K hK => ?_) AllReady.nil
                      go_simp
                      refine HC.out.mono ?_
                      rintro e w8 ⟨rfl, hB8⟩
                      have hB8' : Below wr.heap.size wr w8 := ⟨hB8.os, hB8.tape, hB8.output, hB8.size, hB8.block⟩
                      have hc8 : w8.cell? ⟨bz, oz + (j + 1), none⟩ = some (.slice az r.length cz) := (hB8'.cell (p := ⟨bz, oz + (j + 1), none⟩) hbz).trans hcz
                      have hc8' : w8.cell? ⟨bz, oz + j, none⟩ = some (.slice az' r.length cz') := (hB8'.cell (p := ⟨bz, oz + j, none⟩) hbz).trans hcz'
                      have HSd := Lib.hid (sameS_diff az az' cz cz' r r' _ w8 (HIr.out.below hB8') (HIr'.out.below hB8') hrl HRR.out HNE.out)
                      refine hK _ _ ?_
                      clear hK K
                      refine wpAny_take (i := 7) (v := ?_) rfl (by kernel_rfl) (by kernel_rfl) (by kernel_rfl) (fun _ _ _ h => h) (Or.inl ⟨by rfl, ?_⟩) ?_
                      case refine_2 => intro w; first | (go_simp; rfl) | go_simp
                      simp only [Act.put, List.getElem_toArray, List.getElem_cons_succ, List.getElem_cons_zero, List.setIfInBounds_toArray, List.set_cons_zero, List.set_cons_succ]
                      refine wpAny_take (i := 8) (v := ?_) rfl (by kernel_rfl) (by kernel_rfl) (by kernel_rfl) (fun _ _ _ h => h) (Or.inl ⟨by rfl, ?_⟩) ?_
                      case refine_2 => intro w; first | (go_simp; rfl) | go_simp
                      simp only [Act.put, List.getElem_toArray, List.getElem_cons_succ, List.getElem_cons_zero, List.setIfInBounds_toArray, List.set_cons_zero, List.set_cons_succ]
                      refine wpAny_take (i := 9) (v := ?_) rfl (by kernel_rfl) (by kernel_rfl) (by kernel_rfl) (fun _ _ _ h => h) (Or.inl ⟨by rfl, ?_⟩) ?_
                      case refine_2 => intro w; first | (go_simp; rfl) | go_simp
                      simp only [Act.put, List.getElem_toArray, List.getElem_cons_succ, List.getElem_cons_zero, List.setIfInBounds_toArray, List.set_cons_zero, List.set_cons_succ]
                      refine wpAny_take (i := 10) (v := ?_) rfl (by kernel_rfl) (by kernel_rfl) (by kernel_rfl) (fun _ _ _ h => h) (Or.inl ⟨by rfl, ?_⟩) ?_
                      case refine_2 => intro w; first | (go_simp; rfl) | go_simp
                      simp only [Act.put, List.getElem_toArray, List.getElem_cons_succ, List.getElem_cons_zero, List.setIfInBounds_toArray, List.set_cons_zero, List.set_cons_succ]
                      refine wpAny_take (i := 11) (v := ?_) rfl (by kernel_rfl) (by kernel_rfl) (by kernel_rfl) (fun _ _ _ h => h) (Or.inl ⟨by rfl, ?_⟩) ?_
                      case refine_2 => intro w; first | (go_simp; rfl) | go_simp
                      simp only [Act.put, List.getElem_toArray, List.getElem_cons_succ, List.getElem_cons_zero, List.setIfInBounds_toArray, List.set_cons_zero, List.set_cons_succ]
                      refine wpAny_take (i := 12) (v := ?_) rfl (by kernel_rfl) (by kernel_rfl) (by kernel_rfl) (fun _ _ _ h => h) (Or.inl ⟨by rfl, ?_⟩) ?_
                      case refine_2 => intro w; first | (go_simp; rfl) | go_simp
                      simp only [Act.put, List.getElem_toArray, List.getElem_cons_succ, List.getElem_cons_zero, List.setIfInBounds_toArray, List.set_cons_zero, List.set_cons_succ]
                      refine wpAny_take (i := 13) (v := ?_) rfl (by kernel_rfl) (by kernel_rfl) (by kernel_rfl) (fun _ _ _ h => h) (Or.inl ⟨by rfl, ?_⟩) ?_
                      case refine_2 => intro w; first | (go_simp; rfl) | go_simp
                      simp only [Act.put, List.getElem_toArray, List.getElem_cons_succ, List.getElem_cons_zero, List.setIfInBounds_toArray, List.set_cons_zero, List.set_cons_succ]
                      refine wpAny_take (i := 14) (v := ?_) rfl (by kernel_rfl) (by kernel_rfl) (by kernel_rfl) (fun _ _ _ h => h) (Or.inl ⟨by rfl, ?_⟩) ?_
                      case refine_2 => intro w; first | (go_simp; rfl) | go_simp
                      simp only [Act.put, List.getElem_toArray, List.getElem_cons_succ, List.getElem_cons_zero, List.setIfInBounds_toArray, List.set_cons_zero, List.set_cons_succ]
                      refine wpAny_take (i := 16) (v := ?_) rfl (by kernel_rfl) (by kernel_rfl) (by kernel_rfl) (fun _ _ _ h => h) (Or.inl ⟨by rfl, ?_⟩) ?_
                      case refine_2 => intro w; first | (go_simp; rfl) | go_simp
                      simp only [Act.put, List.getElem_toArray, List.getElem_cons_succ, List.getElem_cons_zero, List.setIfInBounds_toArray, List.set_cons_zero, List.set_cons_succ]
                      refine wpAny_take (i := 17) (v := ?_) rfl (by kernel_rfl) (by kernel_rfl) (by kernel_rfl) (fun _ _ _ h => h) (Or.inl ⟨by rfl, ?_⟩) ?_
                      case refine_2 => intro w; first | (go_simp; rfl) | go_simp
                      simp only [Act.put, List.getElem_toArray, List.getElem_cons_succ, List.getElem_cons_zero, List.setIfInBounds_toArray, List.set_cons_zero, List.set_cons_succ]
                      refine wpAny_take (i := 18) (v := ?_) rfl (by kernel_rfl) (by kernel_rfl) (by kernel_rfl) (fun _ _ _ h => h) (Or.inl ⟨by rfl, ?_⟩) ?_
                      case refine_2 => intro w; first | (go_simp; rfl) | go_simp
                      simp only [Act.put, List.getElem_toArray, List.getElem_cons_succ, List.getElem_cons_zero, List.setIfInBounds_toArray, List.set_cons_zero, List.set_cons_succ]
                      refine wpAny_take (i := 19) (v := ?_) rfl (by kernel_rfl) (by kernel_rfl) (by kernel_rfl) (fun _ _ _ h => h) (Or.inl ⟨by rfl, ?_⟩) ?_
                      case refine_2 => intro w; first | (go_simp; rfl) | go_simp
                      simp only [Act.put, List.getElem_toArray, List.getElem_cons_succ, List.getElem_cons_zero, List.setIfInBounds_toArray, List.set_cons_zero, List.set_cons_succ]
                      refine wpAny_ready (rs := [15, 20]) (by kernel_rfl) (by simp) ?_
                      refine AllReady.cons rfl (fun K hK => ?_) ?_
                      · go_simp
                        refine hK _ _ ?_
                        clear hK K
                        refine wpAny_ready (rs := [20]) (by kernel_rfl) (by simp) ?_
                        refine AllReady.cons rfl (fun K hK => ?_) AllReady.nil
                        go_simp
                        refine hK _ _ ?_
                        clear hK K
                        refine wpAny_ready (rs := [21]) (by kernel_rfl) (by simp) ?_
                        refine AllReady.cons rfl (fun K hK => ?_) AllReady.nil
                        go_simp
                        refine HSd.out.mono ?_
                        rintro e w9 h9x
                        obtain ⟨rfl, hB9⟩ := h9x.below
                        clear h9x
                        refine hK _ _ ?_
                        clear hK K
                        refine wpAny_take (i := 22) (v := ?_) rfl (by kernel_rfl) (by kernel_rfl) (by kernel_rfl) (fun _ _ _ h => h) (Or.inl ⟨by rfl, ?_⟩) ?_
                        case refine_2 => intro w; first | (go_simp; rfl) | go_simp
                        simp only [Act.put, List.getElem_toArray, List.getElem_cons_succ, List.getElem_cons_zero, List.setIfInBounds_toArray, List.set_cons_zero, List.set_cons_succ]
                        refine wpAny_take (i := 23) (v := ?_) rfl (by kernel_rfl) (by kernel_rfl) (by kernel_rfl) (fun _ _ _ h => h) (Or.inl ⟨by rfl, ?_⟩) ?_
                        case refine_2 => intro w; first | (go_simp; rfl) | go_simp
                        simp only [Act.put, List.getElem_toArray, List.getElem_cons_succ, List.getElem_cons_zero, List.setIfInBounds_toArray, List.set_cons_zero, List.set_cons_succ]
                        refine wpAny_done (by kernel_rfl) ?_ _
                        go_wp2_with fail
                        go_roundw
                        case rel => exact ⟨j + 1 + 1, by omega, by go_num, hBk.trans ((hB8'.trans (hB9.mono hB8'.size)).mono hzk)⟩
                        case measure => simp [intOf]; omega
                      · refine AllReady.cons rfl (fun K hK => ?_) AllReady.nil
                        go_simp
                        refine hK _ _ ?_
                        clear hK K
                        refine wpAny_ready (rs := [15]) (by kernel_rfl) (by simp) ?_
                        refine AllReady.cons rfl (fun K hK => ?_) AllReady.nil
                        go_simp
                        refine hK _ _ ?_
                        clear hK K
                        refine wpAny_ready (rs := [21]) (by kernel_rfl) (by simp) ?_
                        refine AllReady.cons rfl (fun K hK => ?_) AllReady.nil
                        go_simp
                        refine HSd.out.mono ?_
                        rintro e w9 h9x
                        obtain ⟨rfl, hB9⟩ := h9x.below
                        clear h9x
                        refine hK _ _ ?_
                        clear hK K
                        refine wpAny_take (i := 22) (v := ?_) rfl (by kernel_rfl) (by kernel_rfl) (by kernel_rfl) (fun _ _ _ h => h) (Or.inl ⟨by rfl, ?_⟩) ?_
                        case refine_2 => intro w; first | (go_simp; rfl) | go_simp
                        simp only [Act.put, List.getElem_toArray, List.getElem_cons_succ, List.getElem_cons_zero, List.setIfInBounds_toArray, List.set_cons_zero, List.set_cons_succ]
                        refine wpAny_take (i := 23) (v := ?_) rfl (by kernel_rfl) (by kernel_rfl) (by kernel_rfl) (fun _ _ _ h => h) (Or.inl ⟨by rfl, ?_⟩) ?_
                        case refine_2 => intro w; first | (go_simp; rfl) | go_simp
                        simp only [Act.put, List.getElem_toArray, List.getElem_cons_succ, List.getElem_cons_zero, List.setIfInBounds_toArray, List.set_cons_zero, List.set_cons_succ]
                        refine wpAny_done (by kernel_rfl) ?_ _
                        go_wp2_with fail
                        go_roundw
                        case rel => exact ⟨j + 1 + 1, by omega, by go_num, hBk.trans ((hB8'.trans (hB9.mono hB8'.size)).mono hzk)⟩
                        case measure => simp [intOf]; omega
                  · obtain rfl : k = zs.length := by omega
                    have x8 := (x7.below hBk).more hzk
                    have p8 := (p7.below hBk).more hzk
                    have HB8 := Lib.hid (HB7.out.trans (hBk.mono HB7.out.size))
                    have HC := Lib.hid (implMapOk a1 c1 a1 c1 (some ⟨g', 0, none⟩) cap' xss xss (ownL xss.length) wr x8 x8 p8 HF.out HF.out (by rw [own_len]; omega))
                    rw [mapOk_self HGX.out, own_len] at HC
                    clear x7 y7 z7 p7 x8 p8 hBk hzk
                    go_wp2_with fail
                    refine HC.out.mono ?_
                    rintro e w9 ⟨rfl, hB9⟩
                    have HB9 := Lib.hid (HB8.out.trans (hB9.mono HB8.out.size))
                    clear hB9
                    go_wp2_with fail
                    go_ret
                    exact ⟨rfl, HB9.out⟩
  · have hn : fewI xss yss = false := by simpa using hg
    obtain rfl : zs = [] := HZ.out.symm.trans (mapsL_no hn)
    rw [hn]
    clear hg
    clear x4 y4 z4
    go_wp2_with fail
    refine (alive_any _).mono ?_
    rintro e w5 ⟨rfl, hB5⟩
    have hz5 := hB5.size
    have HB5 := Lib.hid (HB4.out.trans (hB5.mono HB4.out.size))
    clear hB5 hz5 
    go_wp2_with fail
    go_ret
    exact ⟨rfl, HB5.out⟩

end Go.Proofs.Ytimjijbjadkfnaa
