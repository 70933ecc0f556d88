/-
  The walk of the law of P45 (BothWays).
-/
import Derived.Test.YtpcmenhchabgiaaWX
import Derived.Test.YtpcmenhchabgiaaZA
import Derived.Test.YtpcmenhchabgiaaZE
import Derived.Test.YtpcmenhchabgiaaZN
import Derived.Test.YtpcmenhchabgiaaWT
import Derived.Test.YtpcmenhchabgiaaZB
import Derived.Test.YtpcmenhchabgiaaT5
import Derived.Test.YtpcmenhchabgiaaVA
namespace Go.Proofs.Ytpcmenhchabgiaa
open Go.RowKit Go.Shelf

set_option maxRecDepth 100000 in
set_option maxHeartbeats 8000000 in
theorem bothWays_any (a : Option Addr) (n c : Nat) (w : World) (hc : n ≤ c) (hl : n ≤ 9223372036854775807) (hy : Bytes w.heap.size w a n) :
    Calls Try.prog 7 #[.slice a n c] w (Ans (.bool true) w) := by
  by_cases hbign : 1048576 < n
  · go_enter Try.func7, Try.ntmps7
    go_wp2_with fail
    go_ret
    exact ⟨rfl, Below.refl _ _⟩
  obtain ⟨i1, hj, hy0, hy1, hy2⟩ := info_parts infoInt
  go_enter Try.func7, Try.ntmps7
  go_wp2_with fail
  refine (drawBothWays_any a n c w (by omega) hc hy).mono ?_
  rintro e w1 ⟨aG, cG, G, rfl, ⟨hF, x1, hx5⟩, hB⟩
  have HB1 := Lib.hid hB
  have HF := Lib.hid hF
  obtain ⟨P, HP, HPF⟩ : ∃ P, Hid (bwL G = P) ∧ Hid (Fit P) := ⟨_, rfl, bw_fit⟩
  have hPl := HPF.out.1
  obtain ⟨m, HM⟩ : ∃ m, Hid (gOk G = m) := ⟨_, rfl⟩
  clear hB hF hy
  go_wp2_with fail
  refine (implBw _ _ _ _ x1 HF.out).mono ?_
  rw [HP.out]
  rintro e w2 ⟨b2, c2, ⟨rfl, hB2⟩, hO2⟩
  have y2 := hO2.mat.mat
  clear hO2
  have hz2 := hB2.size
  have x2 := (x1.below hB2).more hz2
  have HB2 := Lib.hid (HB1.out.trans (hB2.mono HB1.out.size))
  clear hB2 hz2 x1
  go_wp2_with fail
  refine (specBwR _ _ _ _ x2 HF.out).mono ?_
  rw [HP.out]
  rintro e w3 ⟨b3, c3, ⟨rfl, hB3⟩, t3⟩
  have hz3 := hB3.size
  have x3 := (x2.below hB3).more hz3
  have y3 := (y2.below hB3).more hz3
  have HB3 := Lib.hid (HB2.out.trans (hB3.mono HB2.out.size))
  clear hB3 hz3 x2 y2
  go_wp2_with fail
  refine (sameSS_same _ _ _ _ _ _ _ y3 t3 HPF.out).mono ?_
  rintro e w4 h4
  obtain ⟨rfl, hB4⟩ := h4.below
  clear h4
  have hz4 := hB4.size
  have x4 := (x3.below hB4).more hz4
  have y4 := (y3.below hB4).more hz4
  have t4 := (t3.below hB4).more hz4
  have HB4 := Lib.hid (HB3.out.trans (hB4.mono HB3.out.size))
  clear hB4 hz4 x3 y3 t3
  clear t4
  cases m with
  | false =>
    obtain rfl : P = [] := HP.out.symm.trans (bw_no HM.out)
    go_wp2_with fail
    refine (implOk _ _ _ _ x4 HF.out).mono ?_
    rw [HM.out]
    rintro e w5 ⟨rfl, hB5⟩
    have hz5 := hB5.size
    have x5 := (x4.below hB5).more hz5
    have y5 := (y4.below hB5).more hz5
    have HB5 := Lib.hid (HB4.out.trans (hB5.mono HB4.out.size))
    clear hB5 hz5 x4 y4
    clear x5 y5
    go_wp2_with fail
    refine (alive_any _).mono ?_
    rintro e w6 ⟨rfl, hB6⟩
    have hz6 := hB6.size
    have HB6 := Lib.hid (HB5.out.trans (hB6.mono HB5.out.size))
    clear hB6 hz6 
    go_wp2_with fail
    go_ret
    exact ⟨rfl, HB6.out⟩
  | true =>
    have hG1 := (good_of HM.out).1
    have hpl : P.length = G.length := by rw [← HP.out]; exact bw_len HM.out
    have hlp : ((P.length : Int) == 0) = false := by rw [beq_eq_false_iff_ne, hpl]; omega
    have HTU : Hid (turnedL P = P) := Lib.hid (by rw [← HP.out]; exact bw_turned HM.out)
    have HBB : Hid (bwL P = P) := Lib.hid (by rw [← HP.out]; exact bw_bw HM.out)
    have HMA : Hid (mapOkI G P (ownL G.length) = true) := Lib.hid (by rw [← HP.out]; exact mapOk_iff.2 ⟨⟨HM.out, gOk_true (bw_good HM.out)⟩, bw_map HM.out⟩)
    have HOL : Hid ((ownL G.length).length = G.length) := Lib.hid (own_len6 _)
    clear hpl
    go_wp2_with fail
    go_loopw [5, 6] (fun v i wr => ∃ (k g cap : Nat), k ≤ G.length ∧ i = .int .i64 k ∧ v = .slice (some ⟨g, 0, none⟩) k cap ∧ Hid (wr.ownsRow w4.heap.size 3 1 (.slice (some ⟨g, 0, none⟩) k cap) k ((ownL k).map (Value.int .i64))) ∧ Below w4.heap.size w4 wr)
      (fun _ i _ => G.length - (intOf i).toNat)
    case atStart => exact ⟨0, _, _, Nat.zero_le _, rfl, rfl, World.ownsRow_lit (size := 1) w4 #[] 0 (Nat.le_refl _) (Nat.zero_le _) rfl, (Below.refl _ _).alloc (Nat.le_refl _) _⟩
    case round =>
      obtain ⟨k, g, cap, hk, rfl, rfl, HR, hB⟩ := hrel
      have hws := hB.size
      by_cases hlt : k < G.length
      · have hown := HR.out
        have hlg := hown.lt g (by simp [Value.ownBlock])
        clear x4 y4
        go_wp2_with (at_builtin; go_must (refine wpList_append_own _ rfl _ _ 33 rfl w4.heap.size 3 i1 (.int .i64 0) 1 8 Try.underlying33 hj hy0 hy1 hy2 rfl (by decide) _ _ _ rfl (hown.alloc _) ⟨wr.heap.size, 0, none⟩ 1 1 [.int .i64 (k : Int)] rfl rfl (cell_one_new _ _ _) (by simp [Value.oneCell']) (by unfold maxLen; omega) (by omega) (by simp; omega) ?_); go_must (intro v' wz hown' hgrow _; obtain ⟨g2, cap2, rfl⟩ := ownsRow_succ hown'); go_must (have HO4 := Lib.hid hown'); go_must (have hB4 : Below w4.heap.size w4 wz := (hB.alloc hws _).grown hgrow (by simp; omega) (fun r e => by have e' : some g = some r := e; cases e'; exact hlg.1)); clear hown' hgrow)
        go_roundw
        case rel => exact ⟨k + 1, g2, cap2, by omega, by go_num, rfl, Lib.hid (by rw [own_succ6, List.map_append]; exact HO4.out), hB4⟩
        case measure => simp [intOf]; omega
      · obtain rfl : k = G.length := by omega
        have p5 := own_intsT (own_len6 _) HR.out
        have x5 := (x4.below hB).more hws
        have y5 := (y4.below hB).more hws
        have HB5 := Lib.hid (HB4.out.trans (hB.mono HB4.out.size))
        obtain ⟨w5, rfl⟩ : ∃ w5 : World, w5 = wr := ⟨_, rfl⟩
        clear x4 y4 HR hB hws
        have HC := Lib.hid (implMapOk aG cG b2 c2 (some ⟨g, 0, none⟩) cap G P (ownL G.length) w5 x5 y5 p5 HF.out HPF.out (by rw [HOL.out]; omega))
        rw [HMA.out, HOL.out] at HC
        go_wp2_with fail
        refine (implTurned _ _ _ _ y5 HPF.out).mono ?_
        rw [HTU.out]
        rintro e w6 ⟨b6, c6, ⟨rfl, hB6⟩, hO6⟩
        have s6 := hO6.mat
        clear hO6
        have hz6 := hB6.size
        have x6 := (x5.below hB6).more hz6
        have y6 := (y5.below hB6).more hz6
        have p6 := (p5.below hB6).more hz6
        have HB6 := Lib.hid (HB5.out.trans (hB6.mono HB5.out.size))
        clear hB6 hz6 x5 y5 p5
        go_wp2_with fail
        refine (sameSS_same _ _ _ _ _ _ _ s6 y6 HPF.out).mono ?_
        rintro e w7 h7
        obtain ⟨rfl, hB7⟩ := h7.below
        clear h7
        have hz7 := hB7.size
        have x7 := (x6.below hB7).more hz7
        have y7 := (y6.below hB7).more hz7
        have p7 := (p6.below hB7).more hz7
        have s7 := (s6.below hB7).more hz7
        have HB7 := Lib.hid (HB6.out.trans (hB7.mono HB6.out.size))
        clear hB7 hz7 x6 y6 p6 s6
        clear s7
        clear HC
        have HC := Lib.hid (implMapOk aG cG b2 c2 (some ⟨g, 0, none⟩) cap G P (ownL G.length) w7 x7 y7 p7 HF.out HPF.out (by rw [HOL.out]; omega))
        rw [HMA.out, HOL.out] at HC
        clear p7
        go_wp2_with fail
        refine (HC.out).mono ?_
        rintro e w8 ⟨rfl, hB8⟩
        have hz8 := hB8.size
        have x8 := (x7.below hB8).more hz8
        have y8 := (y7.below hB8).more hz8
        have HB8 := Lib.hid (HB7.out.trans (hB8.mono HB7.out.size))
        clear hB8 hz8 x7 y7
        go_wp2_with fail
        refine (implBw _ _ _ _ y8 HPF.out).mono ?_
        rw [HBB.out]
        rintro e w9 ⟨b9, c9, ⟨rfl, hB9⟩, hO9⟩
        have q9 := hO9.mat.mat
        clear hO9
        have hz9 := hB9.size
        have x9 := (x8.below hB9).more hz9
        have y9 := (y8.below hB9).more hz9
        have HB9 := Lib.hid (HB8.out.trans (hB9.mono HB8.out.size))
        clear hB9 hz9 x8 y8
        go_wp2_with fail
        refine (sameSS_same _ _ _ _ _ _ _ q9 y9 HPF.out).mono ?_
        rintro e w10 h10
        obtain ⟨rfl, hB10⟩ := h10.below
        clear h10
        have hz10 := hB10.size
        have x10 := (x9.below hB10).more hz10
        have y10 := (y9.below hB10).more hz10
        have q10 := (q9.below hB10).more hz10
        have HB10 := Lib.hid (HB9.out.trans (hB10.mono HB9.out.size))
        clear hB10 hz10 x9 y9 q9
        clear x10 y10 q10
        go_wp2_with fail
        go_ret
        exact ⟨rfl, HB10.out⟩

end Go.Proofs.Ytpcmenhchabgiaa
