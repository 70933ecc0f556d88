/-
  spec.SideOf, walked.
-/
import Derived.Test.YtnehbpihljbjdaaT2
import Derived.Test.YtnehbpihljbjdaaZI
namespace Go.Proofs.Ytnehbpihljbjdaa
open Go.RowKit Go.Shelf Go.Deep

/-- THE SIDE; nothing where there is none. -/
def sidI (G H : List (List Int)) (s : Int) : List Int := if timOk G H = true ∧ (s = 0 ∨ s = 1) then sideL G.length H.length (decide (s = 1)) else []
theorem sidI_yes {G H : List (List Int)} {s : Int} (h : timOk G H = true) (hs : s = 0 ∨ s = 1) : sidI G H s = sideL G.length H.length (decide (s = 1)) := if_pos ⟨h, hs⟩
theorem sidI_no {G H : List (List Int)} {s : Int} (h : ¬ (timOk G H = true ∧ (s = 0 ∨ s = 1))) : sidI G H s = [] := if_neg h
theorem sidI_le {G H : List (List Int)} {s : Int} : (sidI G H s).length ≤ 1048576 := by
  by_cases h : timOk G H = true ∧ (s = 0 ∨ s = 1)
  · rw [sidI_yes h.1 h.2, sideL_length]; have := (timOk_of h.1).2.2; omega
  · rw [sidI_no h]; simp
theorem own_intsT {W : World} {base c n : Nat} {a : Option Addr} {xs : List Int} (hn : xs.length = n) (h : W.ownsRow base 3 1 (.slice a n c) n (xs.map (Value.int .i64))) : Ints W.heap.size W a xs := by
  subst hn
  obtain ⟨_, _, e, h⟩ := own_ints h
  cases e
  exact h
theorem sideF_le (m : Nat) (s : Bool) (z : Nat) : sideF m s z ≤ z := by
  unfold sideF; split
  · exact Nat.mod_le _ _
  · exact Nat.div_le_self _ _
/-- The side, as far as k. -/
def sideT (m : Nat) (s : Bool) (k : Nat) : List Int := (List.range k).map fun z => ((sideF m s z : Nat) : Int)
theorem sideT_length (m : Nat) (s : Bool) (k : Nat) : (sideT m s k).length = k := by simp [sideT]
theorem sideT_succ (m : Nat) (s : Bool) (k : Nat) : sideT m s (k + 1) = sideT m s k ++ [((sideF m s k : Nat) : Int)] := by simp [sideT, List.range_succ]

set_option maxRecDepth 100000 in
set_option maxHeartbeats 4000000 in
theorem specSide (a a' : Option Addr) (c c' : Nat) (xss yss : List (List Int)) (s : Int) (n₀ : Nat) (w : World) (hM : Mat n₀ w a xss) (hM' : Mat n₀ w a' yss) (hn₀ : n₀ ≤ w.heap.size) (hF : Fit xss) (hF' : Fit yss) :
    Calls Try.prog 26 #[.slice a xss.length c, .slice a' yss.length c', .int .i64 s] w (ReadI (sidI xss yss s) w) := by
  obtain ⟨i1, hj, hy0, hy1, hy2⟩ := info_parts infoInt
  have hB0 : Below w.heap.size w (w.alloc (.cells #[] 3)) := (Below.refl _ _).alloc (Nat.le_refl _) _
  have hS := specTimes a a' c c' xss yss n₀ (w.alloc (.cells #[] 3)) (hM.below (hB0.mono hn₀)) (hM'.below (hB0.mono hn₀)) (Nat.le_trans hn₀ hB0.size) hF hF'
  have hlf := hF.1
  have hlf' := hF'.1
  have hown0 : (w.alloc (.cells #[] 3)).ownsRow w.heap.size 3 1 (.slice (some ⟨w.heap.size, 0, none⟩) 0 0) 0 [] := World.ownsRow_lit (size := 1) w #[] 0 (Nat.le_refl _) (Nat.zero_le _) rfl
  have HOW0 := Lib.hid hown0
  have HB0 := Lib.hid hB0
  clear hM hM' hF hF' hown0 hB0
  by_cases hok : timOk xss yss = true
  · rw [hok] at hS
    have HS := Lib.hid hS
    have HOK := Lib.hid hok
    obtain ⟨hG, hH, h9⟩ := timOk_of hok
    have hx1 := hG.1
    have hx1' := hH.1
    have hp0 : (0 : Int) ≤ (xss.length : Int) * (yss.length : Int) := by rw [← Int.natCast_mul]; omega
    have hp1 : (xss.length : Int) * (yss.length : Int) ≤ 9 := by rw [← Int.natCast_mul]; omega
    clear hS hG hH
    by_cases hs : s = 0 ∨ s = 1
    · rw [sidI_yes hok hs]
      obtain ⟨N, hN, HN⟩ : ∃ N : Nat, N ≤ 9 ∧ Hid (xss.length * yss.length = N) := ⟨_, h9, rfl⟩
      have HNI : Hid ((xss.length : Int) * (yss.length : Int) = (N : Int)) := Lib.hid (by rw [← Int.natCast_mul, HN.out])
      have HE : Hid (∀ b, sideL xss.length yss.length b = sideT yss.length b N) := Lib.hid fun b => by unfold sideL sideT; rw [HN.out]
      clear hok h9
      rcases hs with rfl | rfl
      all_goals
        go_enter Try.func26, Try.ntmps26
        go_wp2_with fail
        refine HS.out.mono ?_
        rintro e w2 ⟨b2, d2, ⟨rfl, hB2⟩, -⟩
        have HOW := Lib.hid (ownsRow_below HOW0.out hB2)
        have HB := Lib.hid (HB0.out.trans (hB2.mono HB0.out.size))
        clear hB2
        go_wp2_with fail
      · go_loopw [7, 10] (fun v i wr => ∃ (k g cap : Nat), k ≤ N ∧ i = .int .i64 k ∧ v = .slice (some ⟨g, 0, none⟩) k cap ∧ Hid (wr.ownsRow w.heap.size 3 1 (.slice (some ⟨g, 0, none⟩) k cap) k ((sideT yss.length false k).map (Value.int .i64))) ∧ Below w.heap.size w wr)
          (fun _ i _ => N - (intOf i).toNat)
        case atStart => exact ⟨0, _, _, Nat.zero_le _, rfl, rfl, HOW, HB.out⟩
        case round =>
          obtain ⟨k, g, cap, hk, rfl, rfl, HR, hB⟩ := hrel
          have hws := hB.size
          have hkI : (k : Int) < (xss.length : Int) * (yss.length : Int) ↔ k < N := by rw [HNI.out]; omega
          by_cases hlt : k < N
          · have hkL := hkI.2 hlt
            have hown := HR.out
            have hlg := hown.lt g (by simp [Value.ownBlock])
            have ik0 : (0 : Int) ≤ (k : Int) := Int.natCast_nonneg _
            have il1 : (1 : Int) ≤ (yss.length : Int) := by omega
            have hl0 : (yss.length : Int) ≠ 0 := by omega
            have hq : (k : Int) / (yss.length : Int) = ((k / yss.length : Nat) : Int) := rfl
            have hqn : ((k / yss.length : Nat) : Int) = ((sideF yss.length false k : Nat) : Int) := rfl
            rw [hqn] at hq
            have hq9 : sideF yss.length false k ≤ 9 := Nat.le_trans (sideF_le _ _ _) (by omega)
            generalize hsf : sideF yss.length false k = q at hq hq9
            have HSF := Lib.hid hsf
            clear hkI hqn hsf
            go_wp2_with (first | (go_at_call 62; refine (in_yes _ _ _ _ (by omega) (by omega)).mono ?_; rintro e w' ⟨rfl, rfl⟩) | (at_builtin; go_must (refine wpList_append_own _ rfl _ _ 37 rfl w.heap.size 3 i1 (.int .i64 0) 1 8 Try.underlying37 hj hy0 hy1 hy2 rfl (by decide) _ _ _ rfl (hown.alloc _) ⟨wr.heap.size, 0, none⟩ 1 1 [.int .i64 q] rfl rfl (cell_one_new _ _ _) (by simp [Value.oneCell']) (by unfold maxLen; omega) (by omega) (by simp; omega) ?_); go_must (intro v' w4 hown' hgrow _; obtain ⟨g2, cap2, rfl⟩ := ownsRow_succ hown'); go_must (have HO4 := Lib.hid hown'); go_must (have hB4 : Below w.heap.size w w4 := (hB.alloc hws _).grown hgrow (by simp; omega) (fun r e => by have e' : some g = some r := e; cases e'; exact hlg.1)); clear hown' hgrow))
            go_roundw
            case rel => exact ⟨k + 1, g2, cap2, by omega, by go_num, rfl, Lib.hid (by rw [sideT_succ, List.map_append, HSF.out]; exact HO4.out), hB4⟩
            case measure => simp [intOf]; omega
          · have hkL : ¬ (k : Int) < (xss.length : Int) * (yss.length : Int) := fun h => hlt (hkI.1 h)
            clear hkI
            obtain rfl : k = N := by omega
            have HII := Lib.hid (own_intsT (sideT_length yss.length false k) HR.out)
            have HL : Hid ((sideL xss.length yss.length false).length = k) := Lib.hid (by rw [sideL_length, HN.out])
            clear HR
            go_wp2_with fail
            go_ret
            exact ⟨some ⟨g, 0, none⟩, cap, ⟨by rw [HL.out]; rfl, hB⟩, by rw [HE.out]; exact HII.out⟩
      · go_loopw [7, 10] (fun v i wr => ∃ (k g cap : Nat), k ≤ N ∧ i = .int .i64 k ∧ v = .slice (some ⟨g, 0, none⟩) k cap ∧ Hid (wr.ownsRow w.heap.size 3 1 (.slice (some ⟨g, 0, none⟩) k cap) k ((sideT yss.length true k).map (Value.int .i64))) ∧ Below w.heap.size w wr)
          (fun _ i _ => N - (intOf i).toNat)
        case atStart => exact ⟨0, _, _, Nat.zero_le _, rfl, rfl, HOW, HB.out⟩
        case round =>
          obtain ⟨k, g, cap, hk, rfl, rfl, HR, hB⟩ := hrel
          have hws := hB.size
          have hkI : (k : Int) < (xss.length : Int) * (yss.length : Int) ↔ k < N := by rw [HNI.out]; omega
          by_cases hlt : k < N
          · have hkL := hkI.2 hlt
            have hown := HR.out
            have hlg := hown.lt g (by simp [Value.ownBlock])
            have ik0 : (0 : Int) ≤ (k : Int) := Int.natCast_nonneg _
            have il1 : (1 : Int) ≤ (yss.length : Int) := by omega
            have hl0 : (yss.length : Int) ≠ 0 := by omega
            have hq : (k : Int) % (yss.length : Int) = ((k % yss.length : Nat) : Int) := rfl
            have hqn : ((k % yss.length : Nat) : Int) = ((sideF yss.length true k : Nat) : Int) := rfl
            rw [hqn] at hq
            have hq9 : sideF yss.length true k ≤ 9 := Nat.le_trans (sideF_le _ _ _) (by omega)
            generalize hsf : sideF yss.length true k = q at hq hq9
            have HSF := Lib.hid hsf
            clear hkI hqn hsf
            go_wp2_with (first | (go_at_call 62; refine (in_yes _ _ _ _ (by omega) (by omega)).mono ?_; rintro e w' ⟨rfl, rfl⟩) | (at_builtin; go_must (refine wpList_append_own _ rfl _ _ 37 rfl w.heap.size 3 i1 (.int .i64 0) 1 8 Try.underlying37 hj hy0 hy1 hy2 rfl (by decide) _ _ _ rfl (hown.alloc _) ⟨wr.heap.size, 0, none⟩ 1 1 [.int .i64 q] rfl rfl (cell_one_new _ _ _) (by simp [Value.oneCell']) (by unfold maxLen; omega) (by omega) (by simp; omega) ?_); go_must (intro v' w4 hown' hgrow _; obtain ⟨g2, cap2, rfl⟩ := ownsRow_succ hown'); go_must (have HO4 := Lib.hid hown'); go_must (have hB4 : Below w.heap.size w w4 := (hB.alloc hws _).grown hgrow (by simp; omega) (fun r e => by have e' : some g = some r := e; cases e'; exact hlg.1)); clear hown' hgrow))
            go_roundw
            case rel => exact ⟨k + 1, g2, cap2, by omega, by go_num, rfl, Lib.hid (by rw [sideT_succ, List.map_append, HSF.out]; exact HO4.out), hB4⟩
            case measure => simp [intOf]; omega
          · have hkL : ¬ (k : Int) < (xss.length : Int) * (yss.length : Int) := fun h => hlt (hkI.1 h)
            clear hkI
            obtain rfl : k = N := by omega
            have HII := Lib.hid (own_intsT (sideT_length yss.length true k) HR.out)
            have HL : Hid ((sideL xss.length yss.length true).length = k) := Lib.hid (by rw [sideL_length, HN.out])
            clear HR
            go_wp2_with fail
            go_ret
            exact ⟨some ⟨g, 0, none⟩, cap, ⟨by rw [HL.out]; rfl, hB⟩, by rw [HE.out]; exact HII.out⟩
    · rw [sidI_no fun h => hs h.2]
      have HN := Lib.hid hs
      have h0 : (0 : Int) < (xss.length : Int) * (yss.length : Int) := by
        have := mul_pos1 hx1 hx1'
        rw [← Int.natCast_mul]; omega
      have hin : Hid (decide (0 ≤ s ∧ s ≤ 1) = false) := Lib.hid (decide_eq_false fun h => hs (by omega))
      clear hs hok h9
      go_enter Try.func26, Try.ntmps26
      go_wp2_with fail
      refine HS.out.mono ?_
      rintro e w2 ⟨b2, d2, ⟨rfl, hB2⟩, -⟩
      have HB := Lib.hid (HB0.out.trans (hB2.mono HB0.out.size))
      clear hB2
      go_wp2_with fail
      go_loopw [7, 10] (fun v i wr => i = .int .i64 0 ∧ v = .slice (some ⟨w.heap.size, 0, none⟩) 0 0 ∧ wr = w2) (fun _ _ _ => 0)
      case atStart => exact ⟨rfl, rfl, rfl⟩
      case round =>
        obtain ⟨rfl, rfl, rfl⟩ := hrel
        go_wp2_with (go_at_call 62; refine (in_any _ _ _ _).mono ?_; rw [hin.out]; rintro e w' ⟨rfl, rfl⟩)
        go_ret
        exact ⟨_, _, ⟨rfl, HB.out⟩, fun h => absurd rfl h⟩
  · have hn : timOk xss yss = false := by simpa using hok
    rw [hn] at hS
    rw [sidI_no fun h => hok h.1]
    have HS := Lib.hid hS
    have hp0 : (0 : Int) ≤ (xss.length : Int) * (yss.length : Int) := by rw [← Int.natCast_mul]; omega
    have hpm : xss.length * yss.length ≤ 1048576 * 1048576 := Nat.mul_le_mul hlf hlf'
    have hp1 : (xss.length : Int) * (yss.length : Int) ≤ 1099511627776 := by rw [← Int.natCast_mul]; omega
    clear hS hok hn hpm
    go_enter Try.func26, Try.ntmps26
    go_wp2_with fail
    refine HS.out.mono ?_
    rintro e w2 ⟨b2, d2, ⟨rfl, hB2⟩, -⟩
    have HB := Lib.hid (HB0.out.trans (hB2.mono HB0.out.size))
    clear hB2
    go_wp2_with fail
    go_loopw [7, 10] (fun v i wr => i = .int .i64 0 ∧ v = .slice (some ⟨w.heap.size, 0, none⟩) 0 0 ∧ wr = w2) (fun _ _ _ => 0)
    case atStart => exact ⟨rfl, rfl, rfl⟩
    case round =>
      obtain ⟨rfl, rfl, rfl⟩ := hrel
      by_cases h0 : (0 : Int) < (xss.length : Int) * (yss.length : Int)
      · go_wp2_with fail
        go_ret
        exact ⟨_, _, ⟨rfl, HB.out⟩, fun h => absurd rfl h⟩
      · go_wp2_with fail
        go_ret
        exact ⟨_, _, ⟨rfl, HB.out⟩, fun h => absurd rfl h⟩

end Go.Proofs.Ytnehbpihljbjdaa
