/-
  The walk of the law of P27 (KindsOk).
-/
import Derived.Test.YtdolpkjighbohaaD17
import Derived.Test.YtdolpkjighbohaaPA
import Derived.Test.YtdolpkjighbohaaWP
import Derived.Test.YtdolpkjighbohaaT5
import Derived.Test.YtdolpkjighbohaaG1
import Derived.Test.YtdolpkjighbohaaV20a
namespace Go.Proofs.Ytdolpkjighbohaa
open Go.RowKit Go.Shelf

set_option maxRecDepth 100000 in
set_option maxHeartbeats 8000000 in
theorem kindsOk_any (a : Option Addr) (n c : Nat) (w : World) (hc : n ≤ c) (hl : n ≤ 9223372036854775807) (hy : Bytes w.heap.size w a n) :
    Calls Try.prog 3 #[.slice a n c] w (Ans (.bool true) w) := by
  by_cases hbign : 1048576 < n
  · go_enter Try.func3, Try.ntmps3
    go_wp2_with fail
    go_ret
    exact ⟨rfl, Below.refl _ _⟩
  obtain ⟨i1, hj, hy0, hy1, hy2⟩ := info_parts infoInt
  go_enter Try.func3, Try.ntmps3
  go_wp2_with fail
  refine (drawKindsOk_any a n c w (by omega) hc hy).mono ?_
  rintro e w1 ⟨aG, cG, G, aF, cF, f, rfl, ⟨hF, x1, hx4⟩, ⟨hlf, f1⟩, hB⟩
  have HB1 := Lib.hid hB
  have HF := Lib.hid hF
  have HLF := Lib.hid hlf
  obtain ⟨z, HZ⟩ : ∃ z, Hid (kOkI G f = z) := ⟨_, rfl⟩
  obtain ⟨m, HM⟩ : ∃ m, Hid (gOk G = m) := ⟨_, rfl⟩
  have hzz : (z != z) = false := by simp
  clear hB hF hy
  go_wp2_with fail
  refine (implKinds _ _ _ _ _ _ _ x1 f1 HF.out HLF.out).mono ?_
  rw [HZ.out]
  rintro e w2 ⟨rfl, hB2⟩
  have hz2 := hB2.size
  have x2 := (x1.below hB2).more hz2
  have f2 := (f1.below hB2).more hz2
  have HB2 := Lib.hid (HB1.out.trans (hB2.mono HB1.out.size))
  clear hB2 hz2 x1 f1
  go_wp2_with fail
  refine (specKinds _ _ _ _ _ _ _ _ x2 f2 HF.out HLF.out).mono ?_
  rw [HZ.out]
  rintro e wq ⟨rfl, rfl⟩
  clear f2
  go_wp2_with fail
  refine (specOk_any _ _ _ _ _ x2 HF.out).mono ?_
  rw [HM.out]
  rintro e wq ⟨rfl, rfl⟩
  cases m with
  | false =>
    obtain rfl : z = false := by rw [← HZ.out]; exact kOk_no1 HM.out
    clear x2
    go_wp2_with fail
    refine (alive_any _).mono ?_
    rintro e w3 ⟨rfl, hB3⟩
    have hz3 := hB3.size
    have HB3 := Lib.hid (HB2.out.trans (hB3.mono HB2.out.size))
    clear hB3 hz3 
    go_wp2_with fail
    go_ret
    exact ⟨rfl, HB3.out⟩
  | true =>
    have hG1 := (good_of HM.out).1
    have HKO : Hid (kOkI G (ownL G.length) = true) := Lib.hid (grk_own HM.out).1
    have HKZ : Hid (kOkI G (List.replicate G.length 0) = true) := Lib.hid (kOk_iff.2 ⟨HM.out, by simp, kind_zero _⟩)
    have HOL : Hid ((ownL G.length).length = G.length) := Lib.hid (own_len6 _)
    have hmk := run_make_row' (P := Try.prog) 24 3 (.int .i64 0) 8 Try.underlying24 infoInt rfl .i64 .i64 G.length (by omega) (by omega)
    clear hzz
    go_wp2_with fail
    go_loopw [6, 7] (fun v i wr => ∃ (k g cap : Nat), k ≤ G.length ∧ i = .int .i64 k ∧ v = .slice (some ⟨g, 0, none⟩) k cap ∧ Hid (wr.ownsRow w2.heap.size 3 1 (.slice (some ⟨g, 0, none⟩) k cap) k ((ownL k).map (Value.int .i64))) ∧ Below w2.heap.size w2 wr)
      (fun _ i _ => G.length - (intOf i).toNat)
    case atStart => exact ⟨0, _, _, Nat.zero_le _, rfl, rfl, World.ownsRow_lit (size := 1) w2 #[] 0 (Nat.le_refl _) (Nat.zero_le _) rfl, (Below.refl _ _).alloc (Nat.le_refl _) _⟩
    case round =>
      obtain ⟨k, g, cap, hk, rfl, rfl, HR, hB⟩ := hrel
      have hws := hB.size
      by_cases hlt : k < G.length
      · have hown := HR.out
        have hlg := hown.lt g (by simp [Value.ownBlock])
        clear x2
        go_wp2_with (at_builtin; go_must (refine wpList_append_own _ rfl _ _ 24 rfl w2.heap.size 3 i1 (.int .i64 0) 1 8 Try.underlying24 hj hy0 hy1 hy2 rfl (by decide) _ _ _ rfl (hown.alloc _) ⟨wr.heap.size, 0, none⟩ 1 1 [.int .i64 (k : Int)] rfl rfl (cell_one_new _ _ _) (by simp [Value.oneCell']) (by unfold maxLen; omega) (by omega) (by simp; omega) ?_); go_must (intro v' wz hown' hgrow _; obtain ⟨g2, cap2, rfl⟩ := ownsRow_succ hown'); go_must (have HO4 := Lib.hid hown'); go_must (have hB4 : Below w2.heap.size w2 wz := (hB.alloc hws _).grown hgrow (by simp; omega) (fun r e => by have e' : some g = some r := e; cases e'; exact hlg.1)); clear hown' hgrow)
        go_roundw
        case rel => exact ⟨k + 1, g2, cap2, by omega, by go_num, rfl, Lib.hid (by rw [own_succ6, List.map_append]; exact HO4.out), hB4⟩
        case measure => simp [intOf]; omega
      · obtain rfl : k = G.length := by omega
        have p3 := own_intsT (own_len6 _) HR.out
        have x3 := (x2.below hB).more hws
        have HB3 := Lib.hid (HB2.out.trans (hB.mono HB2.out.size))
        obtain ⟨w3, rfl⟩ : ∃ w3 : World, w3 = wr := ⟨_, rfl⟩
        clear x2 HR hB hws
        have HC := Lib.hid (implKinds aG (some ⟨g, 0, none⟩) cG cap G (ownL G.length) w3 x3 p3 HF.out (by rw [HOL.out]; omega))
        rw [HKO.out, HOL.out] at HC
        clear p3
        go_wp2_with fail
        refine (HC.out).mono ?_
        rintro e w4 ⟨rfl, hB4⟩
        have hz4 := hB4.size
        have x4 := (x3.below hB4).more hz4
        have HB4 := Lib.hid (HB3.out.trans (hB4.mono HB3.out.size))
        clear hB4 hz4 x3
        have z4 := made_zeros6 w4 G.length
        have x5 := (x4.below ((Below.refl _ _).alloc (Nat.le_refl _) (.cells (madeCells #[.int .i64 0] G.length) 3))).more (show w4.heap.size ≤ (w4.alloc (.cells (madeCells #[.int .i64 0] G.length) 3)).heap.size by simp)
        have HC := Lib.hid (implKinds aG (some ⟨w4.heap.size, 0, none⟩) cG G.length G (List.replicate G.length 0) _ x5 z4 HF.out (by simp; omega))
        rw [HKZ.out, List.length_replicate] at HC
        clear x4 x5 z4
        go_wp2_with fail
        refine HC.out.mono ?_
        rintro e w5 ⟨rfl, hB5⟩
        go_wp2_with fail
        go_ret
        exact ⟨rfl, HB4.out.trans (((Below.refl w4.heap.size w4).alloc (Nat.le_refl _) _).trans (hB5.mono (by simp)) |>.mono HB4.out.size)⟩

end Go.Proofs.Ytdolpkjighbohaa
