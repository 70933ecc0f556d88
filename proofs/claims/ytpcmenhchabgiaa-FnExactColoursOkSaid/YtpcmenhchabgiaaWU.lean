/-
  Several texts in one.
  spec.WholeOf, walked.
  spec.ColoursOk, spec.CountColours, walked.
  spec.FewestOf, walked.
  spec.BothWays, walked.
  spec.ShortestWay, walked.
-/
import Derived.Test.YtpcmenhchabgiaaWS
import Derived.Test.YtpcmenhchabgiaaWB
import Derived.Test.YtpcmenhchabgiaaZN
import Derived.Test.YtpcmenhchabgiaaM9
import Derived.Deep.RegionHeld3
import Derived.Deep.AppendLies
namespace Go.Proofs.Ytpcmenhchabgiaa
open Go.RowKit Go.Shelf Go.Deep

/-- A row of the whole graph, as far as it is laid. -/
def whoR (k j : Nat) : List Int := (List.range j).map fun t => if t = k then 0 else 1
theorem whoR_succ (k j : Nat) : whoR k (j + 1) = whoR k j ++ [if j = k then 0 else 1] := by simp [whoR, List.range_succ]
theorem whoR_len (k j : Nat) : (whoR k j).length = j := by simp [whoR]
theorem who_row {n k : Nat} (hk : k < n) : (whoL n)[k]? = some (whoR k n) := by
  unfold whoL
  rw [rowsP_at _ hk]
  congr 1
  unfold whoR
  refine List.map_congr_left fun j _ => ?_
  by_cases e : j = k <;> simp [e]
set_option maxRecDepth 100000 in
set_option maxHeartbeats 8000000 in
theorem specWhoO (z : Int) (w : World) :
    Calls Try.prog 20 #[.int .i64 z] w (MadeO (whoI z) w) := by
  obtain ⟨i0, hi, hz0, hz1, hz2⟩ := info_parts infoInts
  obtain ⟨i1, hj, hy0, hy1, hy2⟩ := info_parts infoInt
  by_cases hz : 1 ≤ z ∧ z ≤ 9
  · obtain ⟨n, rfl⟩ : ∃ n : Nat, z = (n : Int) := ⟨z.toNat, by omega⟩
    have hn1 : 1 ≤ n := by omega
    have hn9 : n ≤ 9 := by omega
    have hni : (n : Int) ≤ 9 := by omega
    rw [whoI_yes hn1 hn9]
    have HPL := Lib.hid (who_len n)
    clear hz
    go_enter Try.func20, Try.ntmps20
    go_wp2_with fail
    go_loopw [3, 4] (fun v i wr => ∃ (k g cap : Nat), k ≤ n ∧ i = .int .i64 k ∧ v = .slice (some ⟨g, 0, none⟩) k cap ∧ Hid (OwnMat w.heap.size wr (.slice (some ⟨g, 0, none⟩) k cap) ((whoL n).take k)) ∧ Below w.heap.size w wr) (fun _ i _ => n - (intOf i).toNat)
    case atStart => exact ⟨0, _, _, Nat.zero_le _, rfl, rfl, Lib.hid (OwnMat.start w (Nat.le_refl _)), (Below.refl _ _).alloc (Nat.le_refl _) _⟩
    case round =>
      obtain ⟨k, g, cap, hk, rfl, rfl, HO, hB⟩ := hrel
      have hws := hB.size
      by_cases hlt : k < n
      · have hki : (k : Int) < (n : Int) := by omega
        have HTK : Hid ((whoL n).take (k + 1) = (whoL n).take k ++ [whoR k n]) := Lib.hid (take_at (who_row hlt))
        have HTL : Hid (((whoL n).take k).length = k) := Lib.hid (by rw [List.length_take, HPL.out]; omega)
        have HRL := Lib.hid (whoR_len k n)
        obtain ⟨wx, rfl⟩ : ∃ wx : World, wx = wr := ⟨_, rfl⟩
        go_wp2_with fail
        go_loopw [5, 6] (fun v i wr => ∃ (j g' cap' : Nat), j ≤ n ∧ i = .int .i64 j ∧ v = .slice (some ⟨g', 0, none⟩) j cap' ∧ Hid (wr.ownsRow wx.heap.size 3 1 (.slice (some ⟨g', 0, none⟩) j cap') j ((whoR k j).map (Value.int .i64))) ∧ Below wx.heap.size wx wr) (fun _ i _ => n - (intOf i).toNat)
        case atStart => exact ⟨0, _, _, Nat.zero_le _, rfl, rfl, Lib.hid (World.ownsRow_lit (size := 1) wx #[] 0 (Nat.le_refl _) (Nat.zero_le _) rfl), (Below.refl _ _).alloc (Nat.le_refl _) _⟩
        case round =>
          obtain ⟨j, g', cap', hj', rfl, rfl, HR, hB2⟩ := hrel
          have hBs := hB2.size
          by_cases hlj : j < n
          · have hji : (j : Int) < (n : Int) := by omega
            have hown := HR.out
            have hlg := hown.lt g' (by simp [Value.ownBlock])
            by_cases hkj : j = k
            · have hkji : ((j : Int) == (k : Int)) = true := by simp; omega
              have HRow : Hid (whoR k (j + 1) = whoR k j ++ [0]) := Lib.hid (by rw [whoR_succ, if_pos hkj])
              clear hkj
              go_wp2_with (at_builtin; go_must (refine wpList_append_own _ rfl _ _ 33 rfl wx.heap.size 3 i1 (.int .i64 0) 1 8 Try.underlying33 hj hy0 hy1 hy2 rfl (by decide) _ _ _ rfl (hown.alloc _) ⟨wr.heap.size, 0, none⟩ 1 1 [.int .i64 0] rfl rfl (cell_one_new _ _ _) (by simp [Value.oneCell']) (by unfold maxLen; omega) (by omega) (by simp; omega) ?_); go_must (intro v' w4 hown' hgrow _; obtain ⟨g2, cap2, rfl⟩ := ownsRow_succ hown'); go_must (have HO4 := Lib.hid hown'); go_must (have hB4 : Below wx.heap.size wx w4 := (hB2.alloc hBs _).grown hgrow (by simp; omega) (fun r e => by have e' : some g' = some r := e; cases e'; exact hlg.1)); clear hown' hgrow)
              go_roundw
              case rel => exact ⟨j + 1, g2, cap2, by omega, by go_num, rfl, Lib.hid (by rw [HRow.out, List.map_append]; exact HO4.out), hB4⟩
              case measure => simp [intOf]; omega
            · have hkji : ((j : Int) == (k : Int)) = false := by simp; omega
              have HRow : Hid (whoR k (j + 1) = whoR k j ++ [1]) := Lib.hid (by rw [whoR_succ, if_neg hkj])
              clear hkj
              go_wp2_with (at_builtin; go_must (refine wpList_append_own _ rfl _ _ 33 rfl wx.heap.size 3 i1 (.int .i64 0) 1 8 Try.underlying33 hj hy0 hy1 hy2 rfl (by decide) _ _ _ rfl (hown.alloc _) ⟨wr.heap.size, 0, none⟩ 1 1 [.int .i64 1] rfl rfl (cell_one_new _ _ _) (by simp [Value.oneCell']) (by unfold maxLen; omega) (by omega) (by simp; omega) ?_); go_must (intro v' w4 hown' hgrow _; obtain ⟨g2, cap2, rfl⟩ := ownsRow_succ hown'); go_must (have HO4 := Lib.hid hown'); go_must (have hB4 : Below wx.heap.size wx w4 := (hB2.alloc hBs _).grown hgrow (by simp; omega) (fun r e => by have e' : some g' = some r := e; cases e'; exact hlg.1)); clear hown' hgrow)
              go_roundw
              case rel => exact ⟨j + 1, g2, cap2, by omega, by go_num, rfl, Lib.hid (by rw [HRow.out, List.map_append]; exact HO4.out), hB4⟩
              case measure => simp [intOf]; omega
          · obtain rfl : j = n := by omega
            have hO2 := HO.out.below hB2
            obtain ⟨vs, hown, hrows⟩ := hO2
            rw [HTL.out] at hown
            have HW := Lib.hid hrows
            clear hrows
            have hlg := hown.lt g (by simp [Value.ownBlock])
            have HR2 : Hid (wr.ownsRow w.heap.size 3 1 (.slice (some ⟨g', 0, none⟩) j cap') (whoR k j).length ((whoR k j).map (Value.int .i64))) := by
              rw [HRL.out]; exact Joins.ownsRow_le HR.out hws
            have hBr : Below w.heap.size w wr := hB.trans (hB2.mono hws)
            go_wp2_with (at_builtin; go_must (refine wpList_append_own _ rfl _ _ 24 rfl w.heap.size 33 i0 (.slice none 0 0) 1 24 Try.underlying24 hi hz0 hz1 hz2 rfl (by decide) _ _ _ rfl (hown.alloc _) ⟨wr.heap.size, 0, none⟩ 1 1 [.slice (some ⟨g', 0, none⟩) j cap'] rfl rfl (cell_one_new _ _ _) (by simp [Value.oneCell']) (by unfold maxLen; omega) (by omega) (by simp; omega) ?_); go_must (intro v' w4 hown' hgrow _; obtain ⟨g2, cap2, rfl⟩ := ownsRow_succ hown'); go_must (have HO4 := Lib.hid (OwnMat.appended (by rw [HTL.out]; exact hown) HW.out HR2.out (by rw [HTL.out]; exact hown') hgrow)); go_must (have hB4 : Below w.heap.size w w4 := (hBr.alloc (by omega) _).grown hgrow (by simp; omega) (fun r e => by have e' : some g = some r := e; cases e'; exact hlg.1)); clear hown' hgrow)
            go_roundw
            case rel => exact ⟨k + 1, g2, cap2, by omega, by go_num, rfl, Lib.hid (by rw [HTK.out]; exact HO4.out), hB4⟩
            case measure => simp [intOf]; omega
      · obtain rfl : k = n := by omega
        have HR2 : Hid (OwnMat w.heap.size wr (.slice (some ⟨g, 0, none⟩) k cap) (whoL k)) := Lib.hid (by
          have h := HO.out
          rwa [List.take_of_length_le (by rw [HPL.out]; exact Nat.le_refl _)] at h)
        clear HO
        go_wp2_with fail
        go_ret
        exact ⟨_, cap, ⟨by rw [HPL.out]; rfl, hB⟩, by rw [HPL.out]; exact HR2.out⟩
  · rw [whoI_no hz]
    by_cases hlow : z ≤ 0
    · have hl0 : ¬ (0 : Int) < z := by omega
      go_enter Try.func20, Try.ntmps20
      go_wp2_with fail
      go_loopw [3, 4] (fun v i wr => i = .int .i64 0 ∧ v = .slice (some ⟨w.heap.size, 0, none⟩) 0 0 ∧ wr = w.alloc (.cells #[] 33)) (fun _ _ _ => 0)
      case atStart => exact ⟨rfl, rfl, rfl⟩
      case round =>
        obtain ⟨rfl, rfl, rfl⟩ := hrel
        go_wp2_with fail
        go_ret
        exact ⟨_, 0, ⟨rfl, (Below.refl _ w).alloc (Nat.le_refl _) _⟩, OwnMat.start w (Nat.le_refl _)⟩
    · have hl0 : (0 : Int) < z := by omega
      have hl9 : ¬ z ≤ 9 := by omega
      go_enter Try.func20, Try.ntmps20
      go_wp2_with fail
      go_loopw [3, 4] (fun v i wr => i = .int .i64 0 ∧ v = .slice (some ⟨w.heap.size, 0, none⟩) 0 0 ∧ wr = w.alloc (.cells #[] 33)) (fun _ _ _ => 0)
      case atStart => exact ⟨rfl, rfl, rfl⟩
      case round =>
        obtain ⟨rfl, rfl, rfl⟩ := hrel
        go_wp2_with fail
        go_ret
        exact ⟨_, 0, ⟨rfl, (Below.refl _ w).alloc (Nat.le_refl _) _⟩, OwnMat.start w (Nat.le_refl _)⟩

end Go.Proofs.Ytpcmenhchabgiaa

namespace Go.Proofs.Ytpcmenhchabgiaa
open Go.RowKit Go.Shelf Go.Deep

theorem whoI_fit (z : Int) : Fit (whoI z) ∧ (whoI z).length ≤ 9 := by
  by_cases hz : 1 ≤ z ∧ z ≤ 9
  · obtain ⟨n, rfl⟩ : ∃ n : Nat, z = (n : Int) := ⟨z.toNat, by omega⟩
    rw [whoI_yes (by omega) (by omega)]
    exact ⟨(who_good (by omega) (by omega)).fit, by rw [who_len]; omega⟩
  · rw [whoI_no hz]; exact ⟨⟨by simp, fun xs h => absurd h (by simp)⟩, by simp⟩

set_option maxRecDepth 100000 in
set_option maxHeartbeats 2000000 in
theorem specCol (a a' : Option Addr) (c c' : Nat) (G : List (List Int)) (z : Int) (f : List Int) (n₀ : Nat) (w : World) (hM : Mat n₀ w a G) (hI : Ints n₀ w a' f) (hn : n₀ ≤ w.heap.size) (hF : Fit G) (hl : f.length ≤ 1048576) :
    Calls Try.prog 28 #[.slice a G.length c, .int .i64 z, .slice a' f.length c'] w (Ans (.bool (colOkI G z f)) w) := by
  have HF := Lib.hid hF
  have HW := Lib.hid (specWhoO z w)
  have HWF := Lib.hid (whoI_fit z).1
  clear hF
  obtain ⟨y, hy⟩ : ∃ y, colOkI G z f = y := ⟨_, rfl⟩
  have HY := Lib.hid hy
  rw [hy]
  clear hy
  by_cases hz : 1 ≤ z ∧ z ≤ 9
  · have HIn := Lib.hid (in_yes z 1 9 w hz.1 hz.2)
    have HE : Hid (mapOkI G (whoI z) f = y) := Lib.hid (by
      rw [← HY.out]
      unfold colOkI modK whoI
      rw [if_pos hz, decide_eq_true hz.1, decide_eq_true hz.2]; rfl)
    obtain ⟨H, hH⟩ : ∃ H, whoI z = H := ⟨_, rfl⟩
    rw [hH] at HW HWF HE
    clear hH hz HY
    go_enter Try.func28, Try.ntmps28
    go_wp2_with fail
    refine HIn.out.mono ?_
    rintro e w0 ⟨rfl, rfl⟩
    go_wp2_with fail
    refine HW.out.mono ?_
    rintro e w1 ⟨a1, c1, ⟨rfl, hB1⟩, hO1⟩
    have hz1 := hB1.size
    have hM1 := (hM.below (hB1.mono hn)).more (Nat.le_trans hn hz1)
    have hI1 := (hI.below (hB1.mono hn)).more (Nat.le_trans hn hz1)
    have HM := Lib.hid (specMapOk a c a1 c1 a' c' G H f w1.heap.size w1 hM1 hO1.mat hI1 HF.out HWF.out hl)
    rw [HE.out] at HM
    have HB1 := Lib.hid hB1
    clear hM hI hM1 hI1 hO1 hB1
    go_wp2_with fail
    refine HM.out.mono ?_
    rintro e w2 h2
    obtain ⟨rfl, hB2⟩ := h2.below
    go_wp2_with fail
    go_ret
    exact ⟨rfl, HB1.out.trans (hB2.mono hz1)⟩
  · have HE : Hid (y = false) := Lib.hid (by
      rw [← HY.out]
      refine col_no ?_
      unfold modK
      rw [Bool.eq_false_iff]
      intro h
      simp only [Bool.and_eq_true, decide_eq_true_eq] at h
      exact hz h)
    have HIn : Hid (Calls Try.prog 67 #[.int .i64 z, .int .i64 1, .int .i64 9] w fun e w' => e = .returned (.bool false) ∧ w = w') := Lib.hid (by
      by_cases h1 : z < 1
      · exact in_lo z 1 9 w h1
      · exact in_hi z 1 9 w (by omega) (by omega))
    clear hz HY hM hI
    go_enter Try.func28, Try.ntmps28
    go_wp2_with fail
    refine HIn.out.mono ?_
    rintro e w0 ⟨rfl, rfl⟩
    go_wp2_with fail
    go_ret
    exact ⟨ret_bool HE.out.symm, Below.refl _ _⟩

set_option maxRecDepth 100000 in
set_option maxHeartbeats 2000000 in
theorem specCoc (a : Option Addr) (c : Nat) (G : List (List Int)) (z : Int) (n₀ : Nat) (w : World) (hM : Mat n₀ w a G) (hn : n₀ ≤ w.heap.size) (hF : Fit G) :
    Calls Try.prog 33 #[.slice a G.length c, .int .i64 z] w (Ans (.int .i64 (cocI G z)) w) := by
  have HF := Lib.hid hF
  have HW := Lib.hid (specWhoO z w)
  have HWF := Lib.hid (whoI_fit z).1
  have HOk := Lib.hid (specOk_any a c G n₀ w hM hF)
  have hlG := hF.1
  clear hF
  obtain ⟨y, hy⟩ : ∃ y, cocI G z = y := ⟨_, rfl⟩
  have HY := Lib.hid hy
  rw [hy]
  clear hy
  by_cases hg : gOk G = true
  · rw [hg] at HOk
    by_cases h5 : G.length ≤ 5
    · by_cases hz : 1 ≤ z ∧ z ≤ 4
      · have HIn := Lib.hid (in_yes z 1 4 w hz.1 hz.2)
        have HE : Hid (countI G (whoI z) = y) := Lib.hid (by
          rw [← HY.out, coc_z (cocK_iff.2 ⟨g5_iff.2 ⟨hg, h5⟩, hz.1, hz.2⟩)]
          unfold whoI
          rw [if_pos (by omega)])
        obtain ⟨H, hH⟩ : ∃ H, whoI z = H := ⟨_, rfl⟩
        rw [hH] at HW HWF HE
        clear hH hz HY hg
        go_enter Try.func33, Try.ntmps33
        go_wp2_with fail
        refine HOk.out.mono ?_
        rintro e w0 ⟨rfl, rfl⟩
        go_wp2_with fail
        refine HIn.out.mono ?_
        rintro e w0 ⟨rfl, rfl⟩
        go_wp2_with fail
        refine HW.out.mono ?_
        rintro e w1 ⟨a1, c1, ⟨rfl, hB1⟩, hO1⟩
        have hz1 := hB1.size
        have hM1 := (hM.below (hB1.mono hn)).more (Nat.le_trans hn hz1)
        have HC := Lib.hid (specCount a c a1 c1 G H w1.heap.size w1 hM1 hO1.mat (Nat.le_refl _) HF.out HWF.out)
        rw [HE.out] at HC
        have HB1 := Lib.hid hB1
        clear hM hM1 hO1 hB1
        go_wp2_with fail
        refine HC.out.mono ?_
        rintro e w2 ⟨rfl, hB2⟩
        go_wp2_with fail
        go_ret
        exact ⟨rfl, HB1.out.trans (hB2.mono hz1)⟩
      · have HE : Hid (y = -1) := Lib.hid (by
          rw [← HY.out]
          refine coc_no ?_
          rw [Bool.eq_false_iff]
          intro h
          exact hz (cocK_iff.1 h).2)
        have HIn : Hid (Calls Try.prog 67 #[.int .i64 z, .int .i64 1, .int .i64 4] w fun e w' => e = .returned (.bool false) ∧ w = w') := Lib.hid (by
          by_cases h1 : z < 1
          · exact in_lo z 1 4 w h1
          · exact in_hi z 1 4 w (by omega) (by omega))
        clear hz HY hM hg
        go_enter Try.func33, Try.ntmps33
        go_wp2_with fail
        refine HOk.out.mono ?_
        rintro e w0 ⟨rfl, rfl⟩
        go_wp2_with fail
        refine HIn.out.mono ?_
        rintro e w0 ⟨rfl, rfl⟩
        go_wp2_with fail
        go_ret
        exact ⟨ret_int HE.out.symm, Below.refl _ _⟩
    · have HE : Hid (y = -1) := Lib.hid (by
        rw [← HY.out]
        refine coc_no ?_
        rw [Bool.eq_false_iff]
        intro h
        exact h5 (g5_iff.1 (cocK_iff.1 h).1).2)
      clear HY hM hg
      go_enter Try.func33, Try.ntmps33
      go_wp2_with fail
      refine HOk.out.mono ?_
      rintro e w0 ⟨rfl, rfl⟩
      go_wp2_with fail
      go_ret
      exact ⟨ret_int HE.out.symm, Below.refl _ _⟩
  · have hn' : gOk G = false := by simpa using hg
    rw [hn'] at HOk
    have HE : Hid (y = -1) := Lib.hid (by
      rw [← HY.out]
      refine coc_no ?_
      rw [Bool.eq_false_iff]
      intro h
      exact hg (g5_iff.1 (cocK_iff.1 h).1).1)
    clear HY hM hg hn'
    go_enter Try.func33, Try.ntmps33
    go_wp2_with fail
    refine HOk.out.mono ?_
    rintro e w0 ⟨rfl, rfl⟩
    go_wp2_with fail
    go_ret
    exact ⟨ret_int HE.out.symm, Below.refl _ _⟩

end Go.Proofs.Ytpcmenhchabgiaa

namespace Go.Proofs.Ytpcmenhchabgiaa
open Go.RowKit Go.Shelf Go.Deep

theorem fw_at {G : List (List Int)} {k : Nat} (h : g4 G = true) (hk : k + 1 ≤ 4) (hn : ∀ m : Nat, 1 ≤ m → m ≤ k → ¬ 0 < cocI G m) (hp : 0 < cocI G ((k : Int) + 1)) : fwI G = (k : Int) + 1 ∧ fwK G = true := by
  have hp' : 0 < cocI G ((k + 1 : Nat) : Int) := hp
  cases e : fwO G with
  | none => exact absurd hp' (fw_none e (by omega) hk)
  | some n =>
    have h1 := fw_least e (by omega) hp'
    obtain ⟨h2, h3⟩ := fw_some e
    have h4 : ¬ n ≤ k := fun hle => hn n h2.1 hle h3
    obtain rfl : n = k + 1 := by omega
    exact fw_yesI h e
theorem fw_end {G : List (List Int)} (hn : ∀ m : Nat, 1 ≤ m → m ≤ 4 → ¬ 0 < cocI G m) : fwI G = -1 ∧ fwK G = false := by
  have hk : fwK G = false := by
    cases e : fwO G with
    | none => unfold fwK; rw [e]; simp
    | some n =>
      obtain ⟨h2, h3⟩ := fw_some e
      exact absurd h3 (hn n h2.1 h2.2)
  exact ⟨fw_noI hk, hk⟩
theorem fw_bad {G : List (List Int)} (h : g4 G = false) : fwI G = -1 ∧ fwK G = false := by
  have hk : fwK G = false := by unfold fwK; rw [h]; rfl
  exact ⟨fw_noI hk, hk⟩

set_option maxRecDepth 100000 in
set_option maxHeartbeats 4000000 in
theorem specFwst (a : Option Addr) (c : Nat) (G : List (List Int)) (n₀ : Nat) (w : World) (hM : Mat n₀ w a G) (hn : n₀ ≤ w.heap.size) (hF : Fit G) :
    Calls Try.prog 35 #[.slice a G.length c] w (Ans (.tuple #[.int .i64 (fwI G), .bool (fwK G)]) w) := by
  have HF := Lib.hid hF
  have hlG := hF.1
  clear hF
  obtain ⟨zi, hi⟩ : ∃ z, fwI G = z := ⟨_, rfl⟩
  obtain ⟨zk, hk⟩ : ∃ z, fwK G = z := ⟨_, rfl⟩
  have HI := Lib.hid hi
  have HK := Lib.hid hk
  rw [hi, hk]
  clear hi hk
  by_cases hg : gOk G = true
  · by_cases h4 : G.length ≤ 4
    · have HG4 := Lib.hid (g4_iff.2 ⟨hg, h4⟩)
      have h4i : (G.length : Int) ≤ 4 := by omega
      have HOK := Lib.hid hg
      clear hg
      go_enter Try.func35, Try.ntmps35
      go_wp2_with fail
      go_loopw [4] (fun i wr => ∃ k : Nat, k ≤ 4 ∧ i = .int .i64 ((k : Int) + 1) ∧ Below w.heap.size w wr ∧ Hid (∀ m : Nat, 1 ≤ m → m ≤ k → cocI G m ≤ 0)) (fun i _ => 5 - (intOf i).toNat)
      case atStart => exact ⟨0, Nat.zero_le _, rfl, Below.refl _ _, Lib.hid fun m h1 h2 => by omega⟩
      case round =>
        obtain ⟨k, hk, rfl, hB, HN⟩ := hrel
        have hws := hB.size
        have hMr := hM.below (hB.mono hn)
        by_cases hlt : k < 4
        · have hki : (k : Int) + 1 ≤ 4 := by omega
          have HC := Lib.hid (specCoc a c G ((k : Int) + 1) n₀ wr hMr (Nat.le_trans hn hws) HF.out)
          have HOkr := Lib.hid (specOk_any a c G n₀ wr hMr HF.out)
          rw [HOK.out] at HOkr
          obtain ⟨y, hy⟩ : ∃ y, cocI G ((k : Int) + 1) = y := ⟨_, rfl⟩
          rw [hy] at HC
          have HY := Lib.hid hy
          clear hy
          by_cases hp : 0 < y
          · have HE := Lib.hid (fw_at (k := k) HG4.out (by omega) (fun m h1 h2 => by have := HN.out m h1 h2; omega) (by rw [HY.out]; exact hp))
            go_wp2_with fail
            refine HOkr.out.mono ?_
            rintro e wq ⟨rfl, rfl⟩
            go_wp2_with fail
            refine HC.out.mono ?_
            rintro e w2 ⟨rfl, hB2⟩
            have hB3 := hB.trans (hB2.mono hws)
            go_wp2_with fail
            go_ret2
            exact ⟨by rw [← HI.out, ← HK.out, HE.out.1, HE.out.2] <;> rfl, hB3⟩
          · have HN2 : Hid (∀ m : Nat, 1 ≤ m → m ≤ k + 1 → cocI G m ≤ 0) := Lib.hid fun m h1 h2 => by
              by_cases e : m = k + 1
              · subst e
                rw [show ((k + 1 : Nat) : Int) = (k : Int) + 1 from rfl, HY.out]; omega
              · exact HN.out m h1 (by omega)
            go_wp2_with fail
            refine HOkr.out.mono ?_
            rintro e wq ⟨rfl, rfl⟩
            go_wp2_with fail
            refine HC.out.mono ?_
            rintro e w2 ⟨rfl, hB2⟩
            have hB3 := hB.trans (hB2.mono hws)
            clear hB hB2 hMr
            go_wp2_with fail
            go_roundw
            case rel => exact ⟨k + 1, by omega, by go_num, hB3, HN2⟩
            case measure => simp [intOf]; omega
        · obtain rfl : k = 4 := by omega
          have HE := Lib.hid (fw_end (G := G) (fun m h1 h2 => by have := HN.out m h1 h2; omega))
          go_wp2_with fail
          go_ret2
          exact ⟨by rw [← HI.out, ← HK.out, HE.out.1, HE.out.2] <;> rfl, hB⟩
    · have HE := Lib.hid (fw_bad (G := G) (by rw [Bool.eq_false_iff]; intro h; exact h4 (g4_iff.1 h).2))
      have h4i : ¬ (G.length : Int) ≤ 4 := by omega
      have HOkr := Lib.hid (specOk_any a c G n₀ w hM HF.out)
      rw [hg] at HOkr
      clear hg h4
      go_enter Try.func35, Try.ntmps35
      go_wp2_with fail
      go_loopw [4] (fun i wr => i = .int .i64 1 ∧ wr = w) (fun _ _ => 0)
      case atStart => exact ⟨rfl, rfl⟩
      case round =>
        obtain ⟨rfl, rfl⟩ := hrel
        go_wp2_with fail
        refine HOkr.out.mono ?_
        rintro e wq ⟨rfl, rfl⟩
        go_wp2_with fail
        go_ret2
        exact ⟨by rw [← HI.out, ← HK.out, HE.out.1, HE.out.2] <;> rfl, Below.refl _ _⟩
  · have hn' : gOk G = false := by simpa using hg
    have HE := Lib.hid (fw_bad (G := G) (by rw [Bool.eq_false_iff]; intro h; exact hg (g4_iff.1 h).1))
    have HOkr := Lib.hid (specOk_any a c G n₀ w hM HF.out)
    rw [hn'] at HOkr
    clear hg hn'
    go_enter Try.func35, Try.ntmps35
    go_wp2_with fail
    go_loopw [4] (fun i wr => i = .int .i64 1 ∧ wr = w) (fun _ _ => 0)
    case atStart => exact ⟨rfl, rfl⟩
    case round =>
      obtain ⟨rfl, rfl⟩ := hrel
      go_wp2_with fail
      refine HOkr.out.mono ?_
      rintro e wq ⟨rfl, rfl⟩
      go_wp2_with fail
      go_ret2
      exact ⟨by rw [← HI.out, ← HK.out, HE.out.1, HE.out.2] <;> rfl, Below.refl _ _⟩

end Go.Proofs.Ytpcmenhchabgiaa

namespace Go.Proofs.Ytpcmenhchabgiaa
open Go.RowKit Go.Shelf Go.Deep

/-- A row of the graph both ways, as far as it is laid. -/
def bwR (G : List (List Int)) (k j : Nat) : List Int := (List.range j).map fun t => if bwP G k t = true then 1 else 0
theorem bwR_succ (G : List (List Int)) (k j : Nat) : bwR G k (j + 1) = bwR G k j ++ [if bwP G k j = true then 1 else 0] := by simp [bwR, List.range_succ]
theorem bwR_len (G : List (List Int)) (k j : Nat) : (bwR G k j).length = j := by simp [bwR]
theorem bw_row {G : List (List Int)} (h : gOk G = true) {k : Nat} (hk : k < G.length) : (bwL G)[k]? = some (bwR G k G.length) := by
  rw [bw_yes h, rowsP_at _ hk]; rfl
theorem bw_ent {G : List (List Int)} (hG : Good G) {k j : Nat} (hk : k < G.length) (hj : j < G.length) {v u : Int} (hv : ent G k j = v) (hu : ent G j k = u) : (if v < u then u else v) = (if bwP G k j = true then 1 else 0) ∧ max v u = (if bwP G k j = true then 1 else 0) := by
  have e1 := (good_iff_ent hG.1 hG.2.1 (fun i xs h => hG.len h)).1 hG (⟨k, hk⟩, ⟨j, hj⟩)
  have e2 := (good_iff_ent hG.1 hG.2.1 (fun i xs h => hG.len h)).1 hG (⟨j, hj⟩, ⟨k, hk⟩)
  simp only at e1 e2
  have a1 : arw G k j = (ent G k j == 1) := rfl
  have a2 : arw G j k = (ent G j k == 1) := rfl
  unfold bwP
  rw [a1, a2]
  rw [hv] at e1 ⊢
  rw [hu] at e2 ⊢
  rcases e1 with rfl | rfl <;> rcases e2 with rfl | rfl <;> decide

set_option maxRecDepth 100000 in
set_option maxHeartbeats 8000000 in
theorem specBwO (a : Option Addr) (c : Nat) (G : List (List Int)) (n₀ : Nat) (w : World) (hM : Mat n₀ w a G) (hn : n₀ ≤ w.heap.size) (hF : Fit G) :
    Calls Try.prog 38 #[.slice a G.length c] w (MadeO (bwL G) w) := by
  have HF := Lib.hid hF
  have hlf := hF.1
  clear hF
  obtain ⟨i0, hi, hz0, hz1, hz2⟩ := info_parts infoInts
  obtain ⟨i1, hj, hy0, hy1, hy2⟩ := info_parts infoInt
  by_cases hg : gOk G = true
  · have HG := Lib.hid (good_of hg)
    have HOK := Lib.hid hg
    have hl9 := HG.out.2.1
    have HPL := Lib.hid (bw_len hg)
    have HBR : Hid (∀ k, k < G.length → (bwL G)[k]? = some (bwR G k G.length)) := Lib.hid fun k hk => bw_row hg hk
    clear hg
    go_enter Try.func38, Try.ntmps38
    go_wp2_with fail
    go_loopw [3, 4] (fun v i wr => ∃ (k g cap : Nat), k ≤ G.length ∧ i = .int .i64 k ∧ v = .slice (some ⟨g, 0, none⟩) k cap ∧ Hid (OwnMat w.heap.size wr (.slice (some ⟨g, 0, none⟩) k cap) ((bwL G).take k)) ∧ Below w.heap.size w wr) (fun _ i _ => G.length - (intOf i).toNat)
    case atStart => exact ⟨0, _, _, Nat.zero_le _, rfl, rfl, Lib.hid (OwnMat.start w (Nat.le_refl _)), (Below.refl _ _).alloc (Nat.le_refl _) _⟩
    case round =>
      obtain ⟨k, g, cap, hk, rfl, rfl, HO, hB⟩ := hrel
      have hws := hB.size
      have hMr : Mat n₀ wr a G := hM.below (hB.mono hn)
      by_cases hlt : k < G.length
      · have hki : (k : Int) < (G.length : Int) := by omega
        have HTK : Hid ((bwL G).take (k + 1) = (bwL G).take k ++ [bwR G k G.length]) := Lib.hid (take_at (HBR.out k hlt))
        have HTL : Hid (((bwL G).take k).length = k) := Lib.hid (by rw [List.length_take, HPL.out]; omega)
        have HRL := Lib.hid (bwR_len G k G.length)
        have HOkr := Lib.hid (specOk_any a c G n₀ wr hMr HF.out)
        rw [HOK.out] at HOkr
        obtain ⟨wx, rfl⟩ : ∃ wx : World, wx = wr := ⟨_, rfl⟩
        go_wp2_with fail
        refine HOkr.out.mono ?_
        rintro e wq ⟨rfl, rfl⟩
        go_wp2_with fail
        go_loopw [5, 6] (fun v i wr => ∃ (j g' cap' : Nat), j ≤ G.length ∧ i = .int .i64 j ∧ v = .slice (some ⟨g', 0, none⟩) j cap' ∧ Hid (wr.ownsRow wx.heap.size 3 1 (.slice (some ⟨g', 0, none⟩) j cap') j ((bwR G k j).map (Value.int .i64))) ∧ Below wx.heap.size wx wr) (fun _ i _ => G.length - (intOf i).toNat)
        case atStart => exact ⟨0, _, _, Nat.zero_le _, rfl, rfl, Lib.hid (World.ownsRow_lit (size := 1) wx #[] 0 (Nat.le_refl _) (Nat.zero_le _) rfl), (Below.refl _ _).alloc (Nat.le_refl _) _⟩
        case round =>
          obtain ⟨j, g', cap', hj', rfl, rfl, HR, hB2⟩ := hrel
          have hBs := hB2.size
          have hMi : Mat n₀ wr a G := hMr.below (hB2.mono (Nat.le_trans hn hws))
          by_cases hltj : j < G.length
          · obtain ⟨b3, o3, a3, c3, xs, rfl, hb3, hc3, hI3, HX⟩ := hMi.at_ hlt
            have HE := Lib.hid (HG.out.len HX.out)
            have hjx : j < xs.length := by rw [HE.out]; exact hltj
            obtain ⟨b4, o4, v, rfl, hb4, hc4, HY4⟩ := hI3.at_ hjx
            obtain ⟨b5, o5, a5, c5, xs2, e5, hb5, hc5, hI5, HX2⟩ := hMi.at_ hltj
            cases e5
            have HE2 := Lib.hid (HG.out.len HX2.out)
            have hkx : k < xs2.length := by rw [HE2.out]; exact hlt
            obtain ⟨b6, o6, u, rfl, hb6, hc6, HY6⟩ := hI5.at_ hkx
            obtain ⟨y, hy⟩ : ∃ y : Int, (if bwP G k j = true then 1 else 0) = y := ⟨_, rfl⟩
            have hmx := bw_ent HG.out hlt hltj (ent_eq HX.out HY4.out) (ent_eq HX2.out HY6.out)
            rw [hy] at hmx
            obtain ⟨hm1, hm2⟩ := hmx
            have HRow : Hid (bwR G k (j + 1) = bwR G k j ++ [y]) := Lib.hid (by rw [bwR_succ, hy])
            have hown := HR.out
            have hlg := hown.lt g' (by simp [Value.ownBlock])
            have hag : ∀ B : Nat, B < n₀ → some B ≠ (Value.slice (some ⟨g', 0, none⟩) j cap').ownBlock := fun B hB e => by
              have e' : some B = some g' := e
              cases e'
              omega
            have ag1 := hag b3 hb3
            have ag2 := hag b4 hb4
            have ag3 := hag b6 hb6
            have ik0 : (0 : Int) ≤ (k : Int) := Int.natCast_nonneg _
            have ik1 : (k : Int) < (G.length : Int) := by omega
            have ij0 : (0 : Int) ≤ (j : Int) := Int.natCast_nonneg _
            have ij1 : (j : Int) < (G.length : Int) := by omega
            have ij2 : (j : Int) < (xs.length : Int) := by omega
            have ik2 : (k : Int) < (xs2.length : Int) := by omega
            clear hy hI3 hI5 hMi HX HX2 HY4 HY6
            go_wp2_with fail
            go_region_held3 (fun w' => w'.cell? ⟨b3, o3 + k, none⟩ = some (.slice (some ⟨b4, o4, none⟩) xs.length c3) ∧ w'.cell? ⟨b4, o4 + j, none⟩ = some (.int .i64 v) ∧ w'.cell? ⟨b3, o3 + j, none⟩ = some (.slice (some ⟨b6, o6, none⟩) xs2.length c5) ∧ w'.cell? ⟨b6, o6 + k, none⟩ = some (.int .i64 u))
              (first
                | go_keep
                | (go_split_ands
                   refine ⟨?_, ?_, ?_, ?_⟩
                   · (rw [hgrow.cell_far _ (by simp; omega) ag1]; assumption)
                   · (rw [hgrow.cell_far _ (by simp; omega) ag2]; assumption)
                   · (rw [hgrow.cell_far _ (by simp; omega) ag1]; assumption)
                   · (rw [hgrow.cell_far _ (by simp; omega) ag3]; assumption)))
              ((refine step_append_lies _ (by rfl) _ _ _ (by rfl) wx.heap.size 3 i1 _ 1 8 Try.underlying33 hj hy0 hy1 hy2 rfl (by omega) (.slice (some ⟨g', 0, none⟩) j cap') j ((bwR G k j).map (Value.int .i64)) (by rfl) ((hown.alloc _).drew)
                  ⟨wr.heap.size, 0, none⟩ 1 1 [.int .i64 y] (by rfl) (by rfl) (World.news_of_block (cs := #[.int .i64 y]) (t := 3) (fr := (0, 0)) (heap_alloc_new wr _)) (by simp [Value.oneCell'])
                  (by omega) (by unfold maxLen; omega) (by omega) (by simp; omega) (wr.heap.size + 1) (by simp) ?_; intro gg cap2 w4 hown4 hgrow hat hlt4))
            have hB4 : Below wx.heap.size wx w4 := ((hB2.alloc hBs _).drew).grown hgrow (by simp; omega) (fun r e => by have e' : some g' = some r := e; cases e'; exact hlg.1)
            have HO4 := Lib.hid hown4
            clear hown4 hgrow hat hlt4
            go_wp2
            go_roundw
            case rel => exact ⟨j + 1, gg, cap2, by omega, by go_num, rfl, Lib.hid (by rw [HRow.out, List.map_append]; exact HO4.out), hB4⟩
            case measure => simp [intOf]; omega
          · obtain rfl : j = G.length := by omega
            have hO2 := HO.out.below hB2
            obtain ⟨vs, hown, hrows⟩ := hO2
            rw [HTL.out] at hown
            have HW := Lib.hid hrows
            clear hrows
            have hlg := hown.lt g (by simp [Value.ownBlock])
            have HR2 : Hid (wr.ownsRow w.heap.size 3 1 (.slice (some ⟨g', 0, none⟩) G.length cap') (bwR G k G.length).length ((bwR G k G.length).map (Value.int .i64))) := by
              rw [HRL.out]; exact Joins.ownsRow_le HR.out hws
            have hBr : Below w.heap.size w wr := hB.trans (hB2.mono hws)
            go_wp2_with (at_builtin; go_must (refine wpList_append_own _ rfl _ _ 24 rfl w.heap.size 33 i0 (.slice none 0 0) 1 24 Try.underlying24 hi hz0 hz1 hz2 rfl (by decide) _ _ _ rfl (hown.alloc _) ⟨wr.heap.size, 0, none⟩ 1 1 [.slice (some ⟨g', 0, none⟩) G.length cap'] rfl rfl (cell_one_new _ _ _) (by simp [Value.oneCell']) (by unfold maxLen; omega) (by omega) (by simp; omega) ?_); go_must (intro v' w4 hown' hgrow _; obtain ⟨g2, cap2, rfl⟩ := ownsRow_succ hown'); go_must (have HO4 := Lib.hid (OwnMat.appended (by rw [HTL.out]; exact hown) HW.out HR2.out (by rw [HTL.out]; exact hown') hgrow)); go_must (have hB4 : Below w.heap.size w w4 := (hBr.alloc (by omega) _).grown hgrow (by simp; omega) (fun r e => by have e' : some g = some r := e; cases e'; exact hlg.1)); clear hown' hgrow)
            go_roundw
            case rel => exact ⟨k + 1, g2, cap2, by omega, by go_num, rfl, Lib.hid (by rw [HTK.out]; exact HO4.out), hB4⟩
            case measure => simp [intOf]; omega
      · obtain rfl : k = G.length := by omega
        have HR2 : Hid (OwnMat w.heap.size wr (.slice (some ⟨g, 0, none⟩) G.length cap) (bwL G)) := Lib.hid (by
          have h := HO.out
          rwa [List.take_of_length_le (by rw [HPL.out]; exact Nat.le_refl _)] at h)
        clear HO
        go_wp2_with fail
        go_ret
        exact ⟨_, cap, ⟨by rw [HPL.out]; rfl, hB⟩, by rw [HPL.out]; exact HR2.out⟩
  · have hg' : gOk G = false := by simpa using hg
    rw [bw_no hg']
    clear hg
    go_enter Try.func38, Try.ntmps38
    go_wp2_with fail
    go_loopw [3, 4] (fun v i wr => i = .int .i64 0 ∧ v = .slice (some ⟨w.heap.size, 0, none⟩) 0 0 ∧ wr = w.alloc (.cells #[] 33)) (fun _ _ _ => 0)
    case atStart => exact ⟨rfl, rfl, rfl⟩
    case round =>
      obtain ⟨rfl, rfl, rfl⟩ := hrel
      have HOkr := Lib.hid (specOk_any a c G n₀ _ (hM.below ((Below.refl _ w).alloc hn (.cells #[] 33))) HF.out)
      rw [hg'] at HOkr
      by_cases h0 : 0 < G.length
      · go_wp2_with fail
        refine HOkr.out.mono ?_
        rintro e wq ⟨rfl, rfl⟩
        go_wp2_with fail
        go_ret
        exact ⟨_, 0, ⟨rfl, (Below.refl _ w).alloc (Nat.le_refl _) _⟩, OwnMat.start w (Nat.le_refl _)⟩
      · go_wp2_with fail
        go_ret
        exact ⟨_, 0, ⟨rfl, (Below.refl _ w).alloc (Nat.le_refl _) _⟩, OwnMat.start w (Nat.le_refl _)⟩

end Go.Proofs.Ytpcmenhchabgiaa

namespace Go.Proofs.Ytpcmenhchabgiaa
open Go.RowKit Go.Shelf Go.Deep

theorem swT_yes {B : List (List Int)} {k : Nat} {b x : Int} (h : swT B k = b) (hk : lngK (owL B ((k : Nat) : Int)) = true) (hx : lngI (owL B ((k : Nat) : Int)) = x) (hc : b < 0 ∨ x < b) : swT B (k + 1) = x := by
  simp only [swT]
  rw [if_pos ⟨hk, by rw [h, hx]; exact hc⟩, hx]
theorem swT_no1 {B : List (List Int)} {k : Nat} {b : Int} (h : swT B k = b) (hk : lngK (owL B ((k : Nat) : Int)) = false) : swT B (k + 1) = b := by
  simp only [swT]
  rw [if_neg (by rw [hk]; simp)]; exact h
theorem swT_no2 {B : List (List Int)} {k : Nat} {b x : Int} (h : swT B k = b) (hx : lngI (owL B ((k : Nat) : Int)) = x) (hc : ¬ (b < 0 ∨ x < b)) : swT B (k + 1) = b := by
  simp only [swT]
  rw [if_neg (by rw [h, hx]; exact fun hh => hc hh.2)]; exact h
theorem owL_fit (B : List (List Int)) (z : Int) : Fit (owL B z) := by
  cases h : owK B z with
  | true => exact (ow_good h).fit
  | false => rw [ow_no h]; exact ⟨by simp, fun xs hx => by simp at hx⟩
theorem bwL_fit (G : List (List Int)) : Fit (bwL G) := by
  cases h : gOk G with
  | true => exact (bw_good h).fit
  | false => rw [bw_no h]; exact ⟨by simp, fun xs hx => by simp at hx⟩

set_option maxRecDepth 100000 in
set_option maxHeartbeats 8000000 in
theorem specSw (a : Option Addr) (c : Nat) (G : List (List Int)) (n₀ : Nat) (w : World) (hM : Mat n₀ w a G) (hn : n₀ ≤ w.heap.size) (hF : Fit G) :
    Calls Try.prog 46 #[.slice a G.length c] w (Ans (.tuple #[.int .i64 (swI G), .bool (swK G)]) w) := by
  have HF := Lib.hid hF
  have hlG := hF.1
  have HBW := Lib.hid (specBwO a c G n₀ w hM hn hF)
  clear hF
  obtain ⟨zi, hi⟩ : ∃ z, swI G = z := ⟨_, rfl⟩
  have HI := Lib.hid hi
  have HK : Hid (swK G = decide (0 < zi)) := Lib.hid (by unfold swK; rw [hi])
  rw [hi, HK.out]
  clear hi
  have HG4 : Hid (g4 G = (decide (0 < (bwL G).length) && decide ((bwL G).length ≤ 4))) := Lib.hid (by
    cases hg : gOk G with
    | true =>
      have := (good_of hg).1
      rw [bw_len hg]
      unfold g4
      rw [hg, decide_eq_true (show 0 < G.length by omega)]
    | false =>
      unfold g4
      rw [hg, bw_no hg]; rfl)
  have HSW : Hid (g4 G = true → swT (bwL G) 64 = zi) := Lib.hid fun h => by rw [← HI.out]; unfold swI; rw [if_pos h]
  have HSN : Hid (g4 G = false → zi = -1) := Lib.hid fun h => by rw [← HI.out]; exact (sw_no h).1
  have HBF := Lib.hid (bwL_fit G)
  obtain ⟨B, hB0⟩ : ∃ B, bwL G = B := ⟨_, rfl⟩
  rw [hB0] at HBW HG4 HSW HBF
  have hBl := HBF.out.1
  clear hB0 hM
  by_cases h4 : 0 < B.length ∧ B.length ≤ 4
  · have HS : Hid (swT B 64 = zi) := Lib.hid (HSW.out (by rw [HG4.out, decide_eq_true h4.1, decide_eq_true h4.2]; rfl))
    have hb1 : (B.length : Int) > 0 := by omega
    have hb2 : (B.length : Int) ≤ 4 := by omega
    clear h4 HSW HSN HG4
    go_enter Try.func46, Try.ntmps46
    go_wp2_with fail
    refine HBW.out.mono ?_
    rintro e w1 ⟨a1, c1, ⟨rfl, hB1⟩, hO1⟩
    have hx1 := hO1.mat
    have hz1 := hB1.size
    clear hO1
    go_wp2_with fail
    go_loopw [4, 6] (fun v i wr => ∃ (k : Nat) (b : Int), k ≤ 64 ∧ i = .int .i64 k ∧ v = .int .i64 b ∧ Hid (swT B k = b) ∧ Below w1.heap.size w1 wr) (fun _ i _ => 64 - (intOf i).toNat)
    case atStart => exact ⟨0, -1, Nat.zero_le _, rfl, rfl, Lib.hid rfl, Below.refl _ _⟩
    case round =>
      obtain ⟨k, b, hk, rfl, rfl, HT, hB⟩ := hrel
      have hws := hB.size
      by_cases hlt : k < 64
      · have hki : (k : Int) < 64 := by omega
        have hxr := (hx1.below hB).more hws
        have HOW := Lib.hid (specOwO a1 c1 B (k : Int) wr.heap.size wr hxr (Nat.le_refl _) HBF.out)
        have HOF := Lib.hid (owL_fit B (k : Int))
        obtain ⟨x, hx⟩ : ∃ x, lngI (owL B ((k : Nat) : Int)) = x := ⟨_, rfl⟩
        have HX := Lib.hid hx
        obtain ⟨y, hy⟩ : ∃ y, lngK (owL B ((k : Nat) : Int)) = y := ⟨_, rfl⟩
        have HY := Lib.hid hy
        have HLN : Hid (∀ (a2 : Option Addr) (c2 : Nat) (w2 : World), Mat w2.heap.size w2 a2 (owL B (k : Int)) → Calls Try.prog 84 #[.slice a2 (owL B (k : Int)).length c2] w2 (Ans (.tuple #[.int .i64 x, .bool y]) w2)) := Lib.hid fun a2 c2 w2 hm => by
          have := specLng a2 c2 (owL B (k : Int)) w2.heap.size w2 hm (Nat.le_refl _) HOF.out
          rwa [hx, hy] at this
        clear hx hy hxr
        obtain ⟨R, hR⟩ : ∃ R, owL B (k : Int) = R := ⟨_, rfl⟩
        rw [hR] at HOW HOF HLN
        clear hR
        go_wp2_with fail
        refine HOW.out.mono ?_
        rintro e w2 ⟨a2, c2, ⟨rfl, hB2⟩, hO2⟩
        have HL := Lib.hid (HLN.out a2 c2 w2 hO2.mat)
        have hB2' := hB.trans (hB2.mono hws)
        have hz2 := hB2.size
        clear hO2 hB2 hB
        go_wp2_with fail
        refine HL.out.mono ?_
        rintro e w3 ⟨rfl, hB3⟩
        have hB3' := hB2'.trans (hB3.mono (by omega))
        clear hB3 hB2'
        cases y with
        | false =>
          have HT2 := Lib.hid (swT_no1 HT.out HY.out)
          go_wp2_with fail
          go_roundw
          case rel => exact ⟨k + 1, b, by omega, by go_num, rfl, HT2, hB3'⟩
          case measure => simp [intOf]; omega
        | true =>
          by_cases hb0 : b < 0
          · have HT2 := Lib.hid (swT_yes HT.out HY.out HX.out (.inl hb0))
            go_wp2_with fail
            go_roundw
            case rel => exact ⟨k + 1, x, by omega, by go_num, rfl, HT2, hB3'⟩
            case measure => simp [intOf]; omega
          · by_cases hxb : x < b
            · have HT2 := Lib.hid (swT_yes HT.out HY.out HX.out (.inr hxb))
              go_wp2_with fail
              go_roundw
              case rel => exact ⟨k + 1, x, by omega, by go_num, rfl, HT2, hB3'⟩
              case measure => simp [intOf]; omega
            · have HT2 := Lib.hid (swT_no2 HT.out HX.out (fun h => h.elim hb0 hxb))
              go_wp2_with fail
              go_roundw
              case rel => exact ⟨k + 1, b, by omega, by go_num, rfl, HT2, hB3'⟩
              case measure => simp [intOf]; omega
      · obtain rfl : k = 64 := by omega
        have HE : Hid (b = zi) := Lib.hid (HT.out.symm.trans HS.out)
        have hB4 := hB1.trans (hB.mono hz1)
        go_wp2_with fail
        go_ret2
        exact ⟨by rw [← HE.out] <;> rfl, hB4⟩
  · have HE : Hid (zi = -1) := Lib.hid (HSN.out (by
      rw [HG4.out, Bool.eq_false_iff]
      intro h
      simp only [Bool.and_eq_true, decide_eq_true_eq] at h
      exact h4 h))
    have hcase : ¬ (B.length : Int) > 0 ∨ ((B.length : Int) > 0 ∧ ¬ (B.length : Int) ≤ 4) := by omega
    clear h4 HSW HSN HG4
    go_enter Try.func46, Try.ntmps46
    go_wp2_with fail
    refine HBW.out.mono ?_
    rintro e w1 ⟨a1, c1, ⟨rfl, hB1⟩, hO1⟩
    clear hO1
    go_wp2_with fail
    go_loopw [4, 6] (fun v i wr => i = .int .i64 0 ∧ v = .int .i64 (-1) ∧ wr = w1) (fun _ _ _ => 0)
    case atStart => exact ⟨rfl, rfl, rfl⟩
    case round =>
      obtain ⟨rfl, rfl, rfl⟩ := hrel
      rcases hcase with h0 | ⟨h0, h5⟩
      · go_wp2_with fail
        go_ret2
        exact ⟨by rw [HE.out] <;> rfl, hB1⟩
      · go_wp2_with fail
        go_ret2
        exact ⟨by rw [HE.out] <;> rfl, hB1⟩

end Go.Proofs.Ytpcmenhchabgiaa
