/-
  spec.TimesOf, spec.SquareOf; impl.timesOk, walked.
-/
import Derived.Test.YtimjijbjadkfnaaZT
import Derived.Test.YtimjijbjadkfnaaJ5
namespace Go.Proofs.Ytimjijbjadkfnaa
open Go.RowKit Go.Shelf Go.Deep

/-- Row k of a product, as far as j. -/
def mRow (G H : List (List Int)) (k j : Nat) : List Int := (List.range j).map fun i => ent G (k / H.length) (i / H.length) * ent H (k % H.length) (i % H.length)
theorem mRow_succ (G H : List (List Int)) (k j : Nat) : mRow G H k (j + 1) = mRow G H k j ++ [ent G (k / H.length) (j / H.length) * ent H (k % H.length) (j % H.length)] := by simp [mRow, List.range_succ]
theorem mRow_length (G H : List (List Int)) (k j : Nat) : (mRow G H k j).length = j := by simp [mRow]
def mRows (G H : List (List Int)) (N k : Nat) : List (List Int) := (List.range k).map fun i => mRow G H i N
theorem mRows_succ (G H : List (List Int)) (N k : Nat) : mRows G H N (k + 1) = mRows G H N k ++ [mRow G H k N] := by simp [mRows, List.range_succ]
theorem mRows_length (G H : List (List Int)) (N k : Nat) : (mRows G H N k).length = k := by simp [mRows]
theorem mRows_all {G H : List (List Int)} (h : timOk G H = true) : mRows G H (G.length * H.length) (G.length * H.length) = timL G H := by
  obtain ⟨hG, hH, h9⟩ := timOk_of h
  rw [timL_yes h]
  unfold mRows rowsP mRow
  refine List.map_congr_left fun i hi => List.map_congr_left fun j hj => ?_
  have hi := List.mem_range.1 hi
  have hj := List.mem_range.1 hj
  rw [good_ent hG (div_lt hi) (div_lt hj), good_ent hH (Nat.mod_lt _ hH.1) (Nat.mod_lt _ hH.1)]
  unfold timP
  cases arw G (i / H.length) (j / H.length) <;> cases arw H (i % H.length) (j % H.length) <;> simp
theorem good_bit {G : List (List Int)} (hG : Good G) {i j : Nat} (hi : i < G.length) (hj : j < G.length) : ent G i j = 0 ∨ ent G i j = 1 := by
  rw [good_ent hG hi hj]; split <;> simp
/-- The row of a graph, and its entry. -/
theorem good_row {n₀ : Nat} {W : World} {a : Option Addr} {G : List (List Int)} (hM : Mat n₀ W a G) (hG : Good G) {i j : Nat} (hi : i < G.length) (hj : j < G.length) :
    ∃ b o b' o' c', a = some ⟨b, o, none⟩ ∧ b < n₀ ∧ b' < n₀ ∧ W.cell? ⟨b, o + i, none⟩ = some (.slice (some ⟨b', o', none⟩) G.length c') ∧ W.cell? ⟨b', o' + j, none⟩ = some (.int .i64 (ent G i j)) := by
  obtain ⟨b, o, a', c', xs, rfl, hb, hc, hI, HX⟩ := hM.at_ hi
  have hE := hG.len HX.out
  obtain ⟨b', o', v, rfl, hb', hc', HY⟩ := hI.at_ (k := j) (by rw [hE]; exact hj)
  rw [hE] at hc
  refine ⟨b, o, b', o', c', rfl, hb, hb', hc, ?_⟩
  rw [ent_eq HX.out HY.out]; exact hc'

/-- As ReadB; its rows are its own. -/
def ReadBO (zss : List (List Int)) (yes : Bool) (w : World) (e : Ending) (w' : World) : Prop := ∃ (a : Option Addr) (c : Nat), (e = .returned (.tuple #[.slice a zss.length c, .bool yes]) ∧ Below w.heap.size w w') ∧ OwnMat w.heap.size w' (.slice a zss.length c) zss
theorem ReadBO.read {zss : List (List Int)} {yes : Bool} {w w' : World} {e : Ending} (h : ReadBO zss yes w e w') : ReadB zss yes w e w' := by
  obtain ⟨a, c, h1, h2⟩ := h
  exact ⟨a, c, h1, h2.mat⟩

set_option maxRecDepth 100000 in
set_option maxHeartbeats 4000000 in
theorem specTimesO (a a' : Option Addr) (c c' : Nat) (xss yss : List (List Int)) (n₀ : Nat) (w : World) (hM : Mat n₀ w a xss) (hM' : Mat n₀ w a' yss) (hn₀ : n₀ ≤ w.heap.size) (hF : Fit xss) (hF' : Fit yss) :
    Calls Try.prog 34 #[.slice a xss.length c, .slice a' yss.length c'] w (ReadBO (timL xss yss) (timOk xss yss) w) := by
  have HF := Lib.hid hF
  have HF' := Lib.hid hF'
  have hlf := hF.1
  have hlf' := hF'.1
  clear hF hF'
  obtain ⟨i0, hi, hz0, hz1, hz2⟩ := info_parts infoInts
  obtain ⟨i1, hj, hy0, hy1, hy2⟩ := info_parts infoInt
  by_cases hg : gOk xss = true
  · by_cases hg' : gOk yss = true
    · have HG := Lib.hid (good_of hg)
      have HG' := Lib.hid (good_of hg')
      have hx1 := HG.out.1
      have hx9 := HG.out.2.1
      have hx1' := HG'.out.1
      have hx9' := HG'.out.2.1
      have hp0 : (0 : Int) ≤ (xss.length : Int) * (yss.length : Int) := by rw [← Int.natCast_mul]; omega
      have hpm : xss.length * yss.length ≤ 9 * 9 := Nat.mul_le_mul hx9 hx9'
      have hp2 : (xss.length : Int) * (yss.length : Int) ≤ 81 := by rw [← Int.natCast_mul]; omega
      by_cases h9 : xss.length * yss.length ≤ 9
      · have HOK := Lib.hid (timOk_yes hg hg' h9)
        rw [HOK.out]
        have hp1 : (xss.length : Int) * (yss.length : Int) ≤ 9 := by rw [← Int.natCast_mul]; omega
        obtain ⟨N, hN, HN⟩ : ∃ N : Nat, N ≤ 9 ∧ Hid (xss.length * yss.length = N) := ⟨_, h9, rfl⟩
        have HNI : Hid ((xss.length : Int) * (yss.length : Int) = (N : Int)) := Lib.hid (by rw [← Int.natCast_mul, HN.out])
        clear hpm h9
        go_enter Try.func34, Try.ntmps34
        go_wp2_with fail
        refine (specOk_any _ _ _ n₀ _ (hM.below ((Below.refl _ w).alloc hn₀ _)) HF.out).mono ?_
        rintro e w' ⟨rfl, rfl⟩
        go_wp2_with fail
        refine (specOk_any _ _ _ n₀ _ (hM'.below ((Below.refl _ w).alloc hn₀ _)) HF'.out).mono ?_
        rintro e w' ⟨rfl, rfl⟩
        go_wp2_with fail
        go_loopw [6, 7] (fun v i wr => ∃ (k g cap : Nat), k ≤ N ∧ i = .int .i64 k ∧ v = .slice (some ⟨g, 0, none⟩) k cap ∧ Hid (OwnMat w.heap.size wr (.slice (some ⟨g, 0, none⟩) k cap) (mRows xss yss N k)) ∧ Below w.heap.size w wr)
          (fun _ i _ => N - (intOf i).toNat)
        case atStart => exact ⟨0, _, _, Nat.zero_le _, rfl, rfl, OwnMat.start w (Nat.le_refl _), (Below.refl _ _).alloc (Nat.le_refl _) _⟩
        case round =>
          obtain ⟨k, g, cap, hk, rfl, rfl, HO, hB⟩ := hrel
          have hMr : Mat n₀ wr a xss := hM.below (hB.mono hn₀)
          have hMr' : Mat n₀ wr a' yss := hM'.below (hB.mono hn₀)
          have hws := hB.size
          have hkI : (k : Int) < (xss.length : Int) * (yss.length : Int) ↔ k < N := by rw [HNI.out]; omega
          by_cases hlt : k < N
          · obtain ⟨wo, rfl⟩ : ∃ wo : World, wo = wr := ⟨_, rfl⟩
            have hkL := hkI.2 hlt
            clear hkI
            go_wp2_with fail
            go_loopw [8, 9] (fun v i wi => ∃ (j g' cap' : Nat), j ≤ N ∧ i = .int .i64 j ∧ v = .slice (some ⟨g', 0, none⟩) j cap' ∧ Hid (wi.ownsRow wo.heap.size 3 1 (.slice (some ⟨g', 0, none⟩) j cap') j ((mRow xss yss k j).map (Value.int .i64))) ∧ Below wo.heap.size wo wi)
              (fun _ i _ => N - (intOf i).toNat)
            case atStart => exact ⟨0, _, _, Nat.zero_le _, rfl, rfl, World.ownsRow_lit (size := 1) wo #[] 0 (Nat.le_refl _) (Nat.zero_le _) rfl, (Below.refl _ _).alloc (Nat.le_refl _) _⟩
            case round =>
              obtain ⟨j, g', cap', hj', rfl, rfl, HR, hB2⟩ := hrel
              have hMi : Mat n₀ wr a xss := hMr.below (hB2.mono (Nat.le_trans hn₀ hws))
              have hMi' : Mat n₀ wr a' yss := hMr'.below (hB2.mono (Nat.le_trans hn₀ hws))
              have hjI : (j : Int) < (xss.length : Int) * (yss.length : Int) ↔ j < N := by rw [HNI.out]; omega
              by_cases hltj : j < N
              · have hjL := hjI.2 hltj
                clear hjI
                go_wp2_with fail
                have hk2 : k < xss.length * yss.length := by rw [HN.out]; exact hlt
                have hj2 : j < xss.length * yss.length := by rw [HN.out]; exact hltj
                have q1 := div_lt hk2
                have q2 := div_lt hj2
                have r1 := Nat.mod_lt k hx1'
                have r2 := Nat.mod_lt j hx1'
                have HRow := Lib.hid (mRow_succ xss yss k j)
                have e1 : (k : Int) / (yss.length : Int) = ((k / yss.length : Nat) : Int) := rfl
                have e2 : (j : Int) / (yss.length : Int) = ((j / yss.length : Nat) : Int) := rfl
                have e3 : (k : Int) % (yss.length : Int) = ((k % yss.length : Nat) : Int) := rfl
                have e4 : (j : Int) % (yss.length : Int) = ((j % yss.length : Nat) : Int) := rfl
                generalize k / yss.length = k1 at q1 HRow e1
                generalize j / yss.length = j1 at q2 HRow e2
                generalize k % yss.length = k2 at r1 HRow e3
                generalize j % yss.length = j2 at r2 HRow e4
                obtain ⟨b1, o1, b2, o2, c2, rfl, hb1, hb2, hcl1, hcl2⟩ := good_row hMi HG.out q1 q2
                obtain ⟨b3, o3, b4, o4, c4, rfl, hb3, hb4, hcl3, hcl4⟩ := good_row hMi' HG'.out r1 r2
                have g1 := good_bit HG.out q1 q2
                have g2 := good_bit HG'.out r1 r2
                generalize ent xss k1 j1 = v1 at hcl2 g1 HRow
                generalize ent yss k2 j2 = v2 at hcl4 g2 HRow
                have hmul : IntKind.i64.wrap (v1 * v2) = v1 * v2 := by rcases g1 with rfl | rfl <;> rcases g2 with rfl | rfl <;> rfl
                have hown := HR.out
                have hBs := hB2.size
                have hlg := hown.lt g' (by simp [Value.ownBlock])
                have hag : ∀ B : Nat, B < n₀ → some B ≠ (Value.slice (some ⟨g', 0, none⟩) j cap').ownBlock := fun B hB e => by
                  have e' : some B = some g' := e
                  cases e'
                  omega
                have ag1 := hag b1 hb1
                have ag2 := hag b2 hb2
                have ag3 := hag b3 hb3
                have ag4 := hag b4 hb4
                have i1a : (0 : Int) ≤ (k1 : Int) := Int.natCast_nonneg _
                have i1b : (k1 : Int) < (xss.length : Int) := by omega
                have i2a : (0 : Int) ≤ (j1 : Int) := Int.natCast_nonneg _
                have i2b : (j1 : Int) < (xss.length : Int) := by omega
                have i3a : (0 : Int) ≤ (k2 : Int) := Int.natCast_nonneg _
                have i3b : (k2 : Int) < (yss.length : Int) := by omega
                have i4a : (0 : Int) ≤ (j2 : Int) := Int.natCast_nonneg _
                have i4b : (j2 : Int) < (yss.length : Int) := by omega
                have ik0 : (0 : Int) ≤ (k : Int) := Int.natCast_nonneg _
                have ij0 : (0 : Int) ≤ (j : Int) := Int.natCast_nonneg _
                have il1 : (1 : Int) ≤ (yss.length : Int) := by omega
                have hl0 : (yss.length : Int) ≠ 0 := by omega
                have hl1 : yss.length ≠ 0 := by omega
                have hl2 : yss ≠ [] := fun e => by rw [e] at hl1; exact hl1 rfl
                have t1 : Int.tdiv (k : Int) (yss.length : Int) = (k1 : Int) := by rw [Int.tdiv_eq_ediv_of_nonneg ik0]; exact e1
                have t2 : Int.tdiv (j : Int) (yss.length : Int) = (j1 : Int) := by rw [Int.tdiv_eq_ediv_of_nonneg ij0]; exact e2
                have t3 : Int.tmod (k : Int) (yss.length : Int) = (k2 : Int) := by rw [Int.tmod_eq_emod_of_nonneg ik0]; exact e3
                have t4 : Int.tmod (j : Int) (yss.length : Int) = (j2 : Int) := by rw [Int.tmod_eq_emod_of_nonneg ij0]; exact e4
                have w1 : IntKind.i64.wrap (k1 : Int) = (k1 : Int) := by simp [IntKind.wrap, IntKind.bits, IntKind.signed]; omega
                have w2 : IntKind.i64.wrap (j1 : Int) = (j1 : Int) := by simp [IntKind.wrap, IntKind.bits, IntKind.signed]; omega
                have w3 : IntKind.i64.wrap (k2 : Int) = (k2 : Int) := by simp [IntKind.wrap, IntKind.bits, IntKind.signed]; omega
                have w5 : IntKind.i64.wrap (j2 : Int) = (j2 : Int) := by simp [IntKind.wrap, IntKind.bits, IntKind.signed]; omega
                clear hag hk2 hj2 g1 g2 hMi hMi'
                go_region_held3 (fun w' => w'.cell? ⟨b1, o1 + k1, none⟩ = some (.slice (some ⟨b2, o2, none⟩) xss.length c2) ∧ w'.cell? ⟨b2, o2 + j1, none⟩ = some (.int .i64 v1) ∧
                    w'.cell? ⟨b3, o3 + k2, none⟩ = some (.slice (some ⟨b4, o4, none⟩) yss.length c4) ∧ w'.cell? ⟨b4, o4 + j2, none⟩ = some (.int .i64 v2))
                  (first
                    | (go_keep; done)
                    | (go_split_ands
                       refine ⟨?_, ?_, ?_, ?_⟩
                       · (rw [hgrow.cell_far _ (by simp; omega) ag1]; assumption)
                       · (rw [hgrow.cell_far _ (by simp; omega) ag2]; assumption)
                       · (rw [hgrow.cell_far _ (by simp; omega) ag3]; assumption)
                       · (rw [hgrow.cell_far _ (by simp; omega) ag4]; assumption)))
                  ((refine step_append_lies _ (by rfl) _ _ _ (by rfl) wo.heap.size 3 i1 _ 1 8 Try.underlying29 hj hy0 hy1 hy2 rfl (by omega) (.slice (some ⟨g', 0, none⟩) j cap') j ((mRow xss yss k j).map (Value.int .i64)) (by rfl) ((hown.alloc _).drew)
                      ⟨wr.heap.size, 0, none⟩ 1 1 [.int .i64 (v1 * v2)] (by rfl) (by rfl) (World.news_of_block (cs := #[.int .i64 (v1 * v2)]) (t := 3) (fr := (0, 0)) (heap_alloc_new wr _)) (by simp [Value.oneCell'])
                      (by omega) (by unfold maxLen; omega) (by omega) (by simp; omega) (wr.heap.size + 1) (by simp) ?_; intro gg cap2 w4 hown4 hgrow hat hlt4))
                have hB4 : Below wo.heap.size wo w4 := ((hB2.alloc hBs _).drew).grown hgrow (by simp; omega) (fun r e => by have e' : some g' = some r := e; cases e'; exact hlg.1)
                have HO4 := Lib.hid hown4
                clear hown4 hgrow hat hlt4
                go_wp2
                go_roundw
                case rel => exact ⟨j + 1, gg, cap2, by omega, by go_num, rfl, Lib.hid (by rw [HRow.out, List.map_append]; exact HO4.out), hB4⟩
                case measure => simp [intOf]; omega
              · have hjL : ¬ (j : Int) < (xss.length : Int) * (yss.length : Int) := fun h => hltj (hjI.1 h)
                clear hjI
                obtain rfl : j = N := by omega
                have HO2 := HO.out.below hB2
                obtain ⟨vs, hown, hrows⟩ := HO2
                rw [mRows_length] at hown
                have HW := Lib.hid hrows
                clear hrows
                have hBs := hB2.size
                have hlg := hown.lt g (by simp [Value.ownBlock])
                have HR2 : Hid (wr.ownsRow w.heap.size 3 1 (.slice (some ⟨g', 0, none⟩) j cap') (mRow xss yss k j).length ((mRow xss yss k j).map (Value.int .i64))) := by
                  rw [mRow_length]; exact Joins.ownsRow_le HR.out hws
                have hBr : Below w.heap.size w wr := hB.trans (hB2.mono hws)
                go_wp2_with (at_builtin; go_must (refine wpList_append_own _ rfl _ _ 23 rfl w.heap.size 29 i0 (.slice none 0 0) 1 24 Try.underlying23 hi hz0 hz1 hz2 rfl (by decide) _ _ _ rfl (hown.alloc _) ⟨wr.heap.size, 0, none⟩ 1 1 [.slice (some ⟨g', 0, none⟩) j cap'] rfl rfl (cell_one_new _ _ _) (by simp [Value.oneCell']) (by unfold maxLen; omega) (by omega) (by simp; omega) ?_); go_must (intro v' w4 hown' hgrow _; obtain ⟨g2, cap2, rfl⟩ := ownsRow_succ hown'); go_must (have HO4 := Lib.hid (OwnMat.appended (by rw [mRows_length]; exact hown) HW.out HR2.out (by rw [mRows_length]; exact hown') hgrow)); go_must (have hB4 : Below w.heap.size w w4 := (hBr.alloc (by omega) _).grown hgrow (by simp; omega) (fun r e => by have e' : some g = some r := e; cases e'; exact hlg.1)); clear hown' hgrow)
                go_roundw
                case rel => exact ⟨k + 1, g2, cap2, by omega, by go_num, rfl, Lib.hid (by rw [mRows_succ]; exact HO4.out), hB4⟩
                case measure => simp [intOf]; omega
          · have hkL : ¬ (k : Int) < (xss.length : Int) * (yss.length : Int) := fun h => hlt (hkI.1 h)
            clear hkI
            obtain rfl : k = N := by omega
            have e1 : mRows xss yss k k = timL xss yss := by rw [← mRows_all HOK.out, HN.out]
            have hm := HO.out
            rw [e1] at hm
            have HMt := Lib.hid hm
            have HL : Hid ((timL xss yss).length = k) := Lib.hid (by rw [tim_length HOK.out, HN.out])
            clear hm e1
            go_wp2_with fail
            go_ret2
            exact ⟨some ⟨g, 0, none⟩, cap, ⟨by rw [HL.out]; rfl, hB⟩, by rw [HL.out]; exact HMt.out⟩
      · have hok := timOk_no3 h9
        have hp1 : ¬ (xss.length : Int) * (yss.length : Int) ≤ 9 := by rw [← Int.natCast_mul]; omega
        rw [timL_no hok, hok]
        clear hok h9 hpm
        go_enter Try.func34, Try.ntmps34
        go_wp2_with fail
        refine (specOk_any _ _ _ n₀ _ (hM.below ((Below.refl _ w).alloc hn₀ _)) HF.out).mono ?_
        rintro e w' ⟨rfl, rfl⟩
        go_wp2_with fail
        refine (specOk_any _ _ _ n₀ _ (hM'.below ((Below.refl _ w).alloc hn₀ _)) HF'.out).mono ?_
        rintro e w' ⟨rfl, rfl⟩
        go_wp2_with fail
        go_ret2
        exact ⟨_, _, ⟨rfl, (Below.refl _ w).alloc (Nat.le_refl _) _⟩, OwnMat.start w (Nat.le_refl _)⟩
    · have hgn : gOk yss = false := by simpa using hg'
      have hok := timOk_no2 (xss := xss) hgn
      rw [timL_no hok, hok]
      clear hok hg'
      go_enter Try.func34, Try.ntmps34
      go_wp2_with fail
      refine (specOk_any _ _ _ n₀ _ (hM.below ((Below.refl _ w).alloc hn₀ _)) HF.out).mono ?_
      rintro e w' ⟨rfl, rfl⟩
      go_wp2_with fail
      refine (specOk_any _ _ _ n₀ _ (hM'.below ((Below.refl _ w).alloc hn₀ _)) HF'.out).mono ?_
      rintro e w' ⟨rfl, rfl⟩
      go_wp2_with fail
      go_ret2
      exact ⟨_, _, ⟨rfl, (Below.refl _ w).alloc (Nat.le_refl _) _⟩, OwnMat.start w (Nat.le_refl _)⟩
  · have hgn : gOk xss = false := by simpa using hg
    have hok := timOk_no1 (yss := yss) hgn
    rw [timL_no hok, hok]
    clear hok hg
    go_enter Try.func34, Try.ntmps34
    go_wp2_with fail
    refine (specOk_any _ _ _ n₀ _ (hM.below ((Below.refl _ w).alloc hn₀ _)) HF.out).mono ?_
    rintro e w' ⟨rfl, rfl⟩
    go_wp2_with fail
    go_ret2
    exact ⟨_, _, ⟨rfl, (Below.refl _ w).alloc (Nat.le_refl _) _⟩, OwnMat.start w (Nat.le_refl _)⟩

theorem specTimes (a a' : Option Addr) (c c' : Nat) (xss yss : List (List Int)) (n₀ : Nat) (w : World) (hM : Mat n₀ w a xss) (hM' : Mat n₀ w a' yss) (hn₀ : n₀ ≤ w.heap.size) (hF : Fit xss) (hF' : Fit yss) :
    Calls Try.prog 34 #[.slice a xss.length c, .slice a' yss.length c'] w (ReadB (timL xss yss) (timOk xss yss) w) := (specTimesO a a' c c' xss yss n₀ w hM hM' hn₀ hF hF').mono fun _ _ h => h.read

end Go.Proofs.Ytimjijbjadkfnaa
