/-
  The walk of the law of P29 (GraphOfKinds).
-/
import Derived.Test.YtdolpkjighbohaaD17
import Derived.Test.YtdolpkjighbohaaPH
import Derived.Test.YtdolpkjighbohaaWP
import Derived.Test.YtdolpkjighbohaaT5
import Derived.Test.YtdolpkjighbohaaZE
import Derived.Test.YtdolpkjighbohaaZN
import Derived.Test.YtdolpkjighbohaaG1
import Derived.Test.YtdolpkjighbohaaV20a
namespace Go.Proofs.Ytdolpkjighbohaa
open Go.RowKit Go.Shelf

set_option maxRecDepth 100000 in
set_option maxHeartbeats 8000000 in
theorem graphOfKinds_any (a : Option Addr) (n c : Nat) (w : World) (hc : n ≤ c) (hl : n ≤ 9223372036854775807) (hy : Bytes w.heap.size w a n) :
    Calls Try.prog 5 #[.slice a n c] w (Ans (.bool true) w) := by
  by_cases hbign : 1048576 < n
  · go_enter Try.func5, Try.ntmps5
    go_wp2_with fail
    go_ret
    exact ⟨rfl, Below.refl _ _⟩
  obtain ⟨i1, hj, hy0, hy1, hy2⟩ := info_parts infoInt
  go_enter Try.func5, Try.ntmps5
  go_wp2_with fail
  refine (drawGraphOfKinds_any a n c w (by omega) hc hy).mono ?_
  rintro e w1 ⟨aG, cG, G, aF, cF, f, rfl, ⟨hF, x1, hx4⟩, ⟨hlf, f1⟩, hB⟩
  have HB1 := Lib.hid hB
  have HF := Lib.hid hF
  have HLF := Lib.hid hlf
  obtain ⟨T, HT, HTF⟩ : ∃ T, Hid (grkL G f = T) ∧ Hid (Fit T) := ⟨_, rfl, by
    by_cases h : kOkI G f = true
    · exact (good_of (grk_good h)).fit
    · rw [grk_no (by simpa using h)]; exact ⟨by simp, fun xs hx => by cases hx⟩⟩
  have htl := HTF.out.1
  clear hB hF hy
  go_wp2_with fail
  refine (implGrk _ _ _ _ _ _ _ x1 f1 HF.out HLF.out).mono ?_
  rw [HT.out]
  rintro e w2 ⟨b2, c2, ⟨rfl, hB2⟩, hO2⟩
  have t2 := hO2.mat.mat
  clear hO2
  have hz2 := hB2.size
  have x2 := (x1.below hB2).more hz2
  have f2 := (f1.below hB2).more hz2
  have HB2 := Lib.hid (HB1.out.trans (hB2.mono HB1.out.size))
  clear hB2 hz2 x1 f1
  go_wp2_with fail
  refine (specGrk _ _ _ _ _ _ _ _ x2 f2 (Nat.le_refl _) HF.out HLF.out).mono ?_
  rw [HT.out]
  rintro e w3 ⟨b3, c3, ⟨rfl, hB3⟩, u3⟩
  have hz3 := hB3.size
  have x3 := (x2.below hB3).more hz3
  have f3 := (f2.below hB3).more hz3
  have t3 := (t2.below hB3).more hz3
  have HB3 := Lib.hid (HB2.out.trans (hB3.mono HB2.out.size))
  clear hB3 hz3 x2 f2 t2
  go_wp2_with fail
  refine (sameSS_same _ _ _ _ _ _ _ t3 u3 HTF.out).mono ?_
  rintro e w4 h4
  obtain ⟨rfl, hB4⟩ := h4.below
  clear h4
  have hz4 := hB4.size
  have x4 := (x3.below hB4).more hz4
  have f4 := (f3.below hB4).more hz4
  have t4 := (t3.below hB4).more hz4
  have u4 := (u3.below hB4).more hz4
  have HB4 := Lib.hid (HB3.out.trans (hB4.mono HB3.out.size))
  clear hB4 hz4 x3 f3 t3 u3
  clear u4
  by_cases hk : kOkI G f = true
  · have hgG := (kOk_iff.1 hk).1
    have hG1 := (good_of hgG).1
    have htp : ((T.length : Int) == 0) = false := by
      have h1 := (grk_top hk).1
      have h2 := grk_length hk
      rw [HT.out] at h2
      exact len_ne6 (by omega)
    have HMK : Hid (mapOkI G T f = true) := Lib.hid (mapOk_iff.2 ⟨⟨hgG, by rw [← HT.out]; exact grk_good hk⟩, by rw [← HT.out]; exact grk_map hk⟩)
    have har : arrowsI T ≤ arrowsI G := by rw [← HT.out]; exact grk_arrows hk
    have HGO : Hid (grkL G (ownL G.length) = G) := Lib.hid (grk_own hgG).2
    have HOL : Hid ((ownL G.length).length = G.length) := Lib.hid (own_len6 _)
    obtain ⟨r, HR1⟩ : ∃ r, Hid (arrowsI T = r) := ⟨_, rfl⟩
    obtain ⟨s, HS1⟩ : ∃ s, Hid (arrowsI G = s) := ⟨_, rfl⟩
    rw [HR1.out, HS1.out] at har
    clear hgG hk
    go_wp2_with fail
    go_loopw [6, 7] (fun v i wr => ∃ (k g cap : Nat), k ≤ G.length ∧ i = .int .i64 k ∧ v = .slice (some ⟨g, 0, none⟩) k cap ∧ Hid (wr.ownsRow w4.heap.size 3 1 (.slice (some ⟨g, 0, none⟩) k cap) k ((ownL k).map (Value.int .i64))) ∧ Below w4.heap.size w4 wr)
      (fun _ i _ => G.length - (intOf i).toNat)
    case atStart => exact ⟨0, _, _, Nat.zero_le _, rfl, rfl, World.ownsRow_lit (size := 1) w4 #[] 0 (Nat.le_refl _) (Nat.zero_le _) rfl, (Below.refl _ _).alloc (Nat.le_refl _) _⟩
    case round =>
      obtain ⟨k, g, cap, hk, rfl, rfl, HR, hB⟩ := hrel
      have hws := hB.size
      by_cases hlt : k < G.length
      · have hown := HR.out
        have hlg := hown.lt g (by simp [Value.ownBlock])
        clear x4 f4 t4
        go_wp2_with (at_builtin; go_must (refine wpList_append_own _ rfl _ _ 24 rfl w4.heap.size 3 i1 (.int .i64 0) 1 8 Try.underlying24 hj hy0 hy1 hy2 rfl (by decide) _ _ _ rfl (hown.alloc _) ⟨wr.heap.size, 0, none⟩ 1 1 [.int .i64 (k : Int)] rfl rfl (cell_one_new _ _ _) (by simp [Value.oneCell']) (by unfold maxLen; omega) (by omega) (by simp; omega) ?_); go_must (intro v' wz hown' hgrow _; obtain ⟨g2, cap2, rfl⟩ := ownsRow_succ hown'); go_must (have HO4 := Lib.hid hown'); go_must (have hB4 : Below w4.heap.size w4 wz := (hB.alloc hws _).grown hgrow (by simp; omega) (fun r e => by have e' : some g = some r := e; cases e'; exact hlg.1)); clear hown' hgrow)
        go_roundw
        case rel => exact ⟨k + 1, g2, cap2, by omega, by go_num, rfl, Lib.hid (by rw [own_succ6, List.map_append]; exact HO4.out), hB4⟩
        case measure => simp [intOf]; omega
      · obtain rfl : k = G.length := by omega
        have p5 := own_intsT (own_len6 _) HR.out
        have x5 := (x4.below hB).more hws
        have f5 := (f4.below hB).more hws
        have t5 := (t4.below hB).more hws
        have HB5 := Lib.hid (HB4.out.trans (hB.mono HB4.out.size))
        obtain ⟨w5, rfl⟩ : ∃ w5 : World, w5 = wr := ⟨_, rfl⟩
        clear x4 f4 t4 HR hB hws
        go_wp2_with fail
        refine (implMapOk _ _ _ _ _ _ _ _ _ _ x5 t5 f5 HF.out HTF.out HLF.out).mono ?_
        rw [HMK.out]
        rintro e w6 ⟨rfl, hB6⟩
        have hz6 := hB6.size
        have x6 := (x5.below hB6).more hz6
        have f6 := (f5.below hB6).more hz6
        have t6 := (t5.below hB6).more hz6
        have p6 := (p5.below hB6).more hz6
        have HB6 := Lib.hid (HB5.out.trans (hB6.mono HB5.out.size))
        clear hB6 hz6 x5 f5 t5 p5
        clear f6
        go_wp2_with fail
        refine (implArrows _ _ _ _ t6 HTF.out).mono ?_
        rw [HR1.out]
        rintro e w7 ⟨rfl, hB7⟩
        have hz7 := hB7.size
        have x7 := (x6.below hB7).more hz7
        have t7 := (t6.below hB7).more hz7
        have p7 := (p6.below hB7).more hz7
        have HB7 := Lib.hid (HB6.out.trans (hB7.mono HB6.out.size))
        clear hB7 hz7 x6 t6 p6
        go_wp2_with fail
        refine (implArrows _ _ _ _ x7 HF.out).mono ?_
        rw [HS1.out]
        rintro e w8 ⟨rfl, hB8⟩
        have hz8 := hB8.size
        have x8 := (x7.below hB8).more hz8
        have t8 := (t7.below hB8).more hz8
        have p8 := (p7.below hB8).more hz8
        have HB8 := Lib.hid (HB7.out.trans (hB8.mono HB7.out.size))
        clear hB8 hz8 x7 t7 p7
        have HC := Lib.hid (implGrk aG (some ⟨g, 0, none⟩) cG cap G (ownL G.length) w8 x8 p8 HF.out (by rw [HOL.out]; omega))
        rw [HGO.out, HOL.out] at HC
        clear p8
        go_wp2_with fail
        refine (HC.out).mono ?_
        rintro e w9 ⟨b9, c9, ⟨rfl, hB9⟩, hO9⟩
        have q9 := hO9.mat.mat
        clear hO9
        have hz9 := hB9.size
        have x9 := (x8.below hB9).more hz9
        have t9 := (t8.below hB9).more hz9
        have HB9 := Lib.hid (HB8.out.trans (hB9.mono HB8.out.size))
        clear hB9 hz9 x8 t8
        go_wp2_with fail
        refine (sameSS_same _ _ _ _ _ _ _ q9 x9 HF.out).mono ?_
        rintro e w10 h10
        obtain ⟨rfl, hB10⟩ := h10.below
        clear h10
        have hz10 := hB10.size
        have x10 := (x9.below hB10).more hz10
        have t10 := (t9.below hB10).more hz10
        have q10 := (q9.below hB10).more hz10
        have HB10 := Lib.hid (HB9.out.trans (hB10.mono HB9.out.size))
        clear hB10 hz10 x9 t9 q9
        clear x10 t10 q10
        go_wp2_with fail
        go_ret
        exact ⟨rfl, HB10.out⟩
  · obtain rfl : T = [] := HT.out.symm.trans (grk_no (by simpa using hk))
    clear hk
    clear x4 f4 t4
    go_wp2_with fail
    refine (alive_any _).mono ?_
    rintro e w5 ⟨rfl, hB5⟩
    have hz5 := hB5.size
    have HB5 := Lib.hid (HB4.out.trans (hB5.mono HB4.out.size))
    clear hB5 hz5 
    go_wp2_with fail
    go_ret
    exact ⟨rfl, HB5.out⟩

end Go.Proofs.Ytdolpkjighbohaa
