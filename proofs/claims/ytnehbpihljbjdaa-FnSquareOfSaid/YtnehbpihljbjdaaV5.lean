/-
  The walk of the law of P14 (SquareOf).
-/
import Derived.Test.YtnehbpihljbjdaaZP
import Derived.Test.YtnehbpihljbjdaaT2
import Derived.Test.YtnehbpihljbjdaaZS
import Derived.Test.YtnehbpihljbjdaaT6
import Derived.Test.YtnehbpihljbjdaaZN
import Derived.Test.YtnehbpihljbjdaaG1
import Derived.Test.YtnehbpihljbjdaaZI
namespace Go.Proofs.Ytnehbpihljbjdaa
open Go.RowKit Go.Shelf

/-- The pairs of a node and itself, as far as k. -/
def diaT (n k : Nat) : List Int := (List.range k).map fun i => ((i * n + i : Nat) : Int)
theorem diaT_succ (n k : Nat) : diaT n (k + 1) = diaT n k ++ [((k * n + k : Nat) : Int)] := by simp [diaT, List.range_succ]
theorem diaT_length (n k : Nat) : (diaT n k).length = k := by simp [diaT]
theorem diaT_all (n : Nat) : diaT n n = diaL n := rfl

set_option maxRecDepth 100000 in
set_option maxHeartbeats 8000000 in
theorem squareOf_any (a : Option Addr) (n c : Nat) (w : World) (hc : n ≤ c) (hl : n ≤ 9223372036854775807) (hy : Bytes w.heap.size w a n) :
    Calls Try.prog 7 #[.slice a n c] w (Ans (.bool true) w) := by
  by_cases hbign : 1048576 < n
  · go_enter Try.func7, Try.ntmps7
    go_wp2_with fail
    go_ret
    exact ⟨rfl, Below.refl _ _⟩
  obtain ⟨i1, hj, hy0, hy1, hy2⟩ := info_parts infoInt
  go_enter Try.func7, Try.ntmps7
  go_wp2_with fail
  refine (drawSquareOf_any a n c w (by omega) hc hy).mono ?_
  rintro e w1 ⟨a1, c1, G, rfl, ⟨hF, x1, hx4⟩, hB⟩
  have HB1 := Lib.hid hB
  have HF := Lib.hid hF
  obtain ⟨T, HT, HTF⟩ : ∃ T, Hid (timL G G = T) ∧ Hid (Fit T) := ⟨_, rfl, tim_fit⟩
  obtain ⟨z, HZ⟩ : ∃ z, Hid (timOk G G = z) := ⟨_, rfl⟩
  have htl := HTF.out.1
  have hzz : (z != z) = false := by simp
  clear hB hF hy
  go_wp2_with fail
  refine (implSquare _ _ _ _ x1 HF.out).mono ?_
  rw [HT.out, HZ.out]
  rintro e w2 ⟨b2, c2, ⟨rfl, hB2⟩, hO2⟩
  have t2 := hO2.mat
  clear hO2
  have hz2 := hB2.size
  have x2 := (x1.below hB2).more hz2
  have HB2 := Lib.hid (HB1.out.trans (hB2.mono HB1.out.size))
  clear hB2 hz2 x1
  go_wp2_with fail
  refine (specSquare _ _ _ _ _ x2 (Nat.le_refl _) HF.out).mono ?_
  rw [HT.out, HZ.out]
  rintro e w3 ⟨b3, c3, ⟨rfl, hB3⟩, u3⟩
  have hz3 := hB3.size
  have x3 := (x2.below hB3).more hz3
  have t3 := (t2.below hB3).more hz3
  have HB3 := Lib.hid (HB2.out.trans (hB3.mono HB2.out.size))
  clear hB3 hz3 x2 t2
  go_wp2_with fail
  refine (sameSS_same _ _ _ _ _ _ _ t3 u3 HTF.out).mono ?_
  rintro e w4 h4
  obtain ⟨rfl, hB4⟩ := h4.below
  clear h4
  have hz4 := hB4.size
  have x4 := (x3.below hB4).more hz4
  have t4 := (t3.below hB4).more hz4
  have u4 := (u3.below hB4).more hz4
  have HB4 := Lib.hid (HB3.out.trans (hB4.mono HB3.out.size))
  clear hB4 hz4 x3 t3 u3
  clear u4
  cases z with
  | false =>
    obtain rfl : T = [] := HT.out.symm.trans (timL_no HZ.out)
    clear x4 t4
    go_wp2_with fail
    refine (alive_any _).mono ?_
    rintro e w5 ⟨rfl, hB5⟩
    have hz5 := hB5.size
    have HB5 := Lib.hid (HB4.out.trans (hB5.mono HB4.out.size))
    clear hB5 hz5 
    go_wp2_with fail
    go_ret
    exact ⟨rfl, HB5.out⟩
  | true =>
    obtain ⟨hG, _, h9⟩ := timOk_of HZ.out
    have hG1 := hG.1
    have hTl : T.length = G.length * G.length := by rw [← HT.out]; exact tim_length HZ.out
    have HD : Hid (mapOkI G T (diaL G.length) = true) := Lib.hid (by rw [← HT.out]; exact mapOk_iff.2 ⟨⟨gOk_true hG, gOk_true (tim_good HZ.out)⟩, dia_map HZ.out⟩)
    have HS : Hid (sidI G G 0 = sideL G.length G.length false) := Lib.hid (sidI_yes HZ.out (.inl rfl))
    have HSM : Hid (mapOkI T G (sideL G.length G.length false) = true) := Lib.hid (by rw [← HT.out]; exact mapOk_iff.2 ⟨⟨gOk_true (tim_good HZ.out), gOk_true hG⟩, side_map1 HZ.out⟩)
    have HSL : Hid ((sideL G.length G.length false).length ≤ 1048576) := Lib.hid (by rw [sideL_length]; omega)
    have hmul : ∀ k, k < G.length → (0 : Int) ≤ (k : Int) * (G.length : Int) ∧ (k : Int) * (G.length : Int) ≤ 9 := fun k hk => by
      have : k * G.length ≤ G.length * G.length := Nat.mul_le_mul_right _ (by omega)
      rw [← Int.natCast_mul]; omega
    have HMUL := Lib.hid hmul
    clear hG h9 hTl hmul hzz
    go_wp2_with fail
    go_loopw [8, 9] (fun v i wr => ∃ (k g cap : Nat), k ≤ G.length ∧ i = .int .i64 k ∧ v = .slice (some ⟨g, 0, none⟩) k cap ∧ Hid (wr.ownsRow w4.heap.size 3 1 (.slice (some ⟨g, 0, none⟩) k cap) k ((diaT G.length k).map (Value.int .i64))) ∧ Below w4.heap.size w4 wr)
      (fun _ i _ => G.length - (intOf i).toNat)
    case atStart => exact ⟨0, _, _, Nat.zero_le _, rfl, rfl, World.ownsRow_lit (size := 1) w4 #[] 0 (Nat.le_refl _) (Nat.zero_le _) rfl, (Below.refl _ _).alloc (Nat.le_refl _) _⟩
    case round =>
      obtain ⟨k, g, cap, hk, rfl, rfl, HR, hB⟩ := hrel
      have hws := hB.size
      by_cases hlt : k < G.length
      · have hown := HR.out
        have hlg := hown.lt g (by simp [Value.ownBlock])
        obtain ⟨hm0, hm1⟩ := HMUL.out k hlt
        clear x4 t4
        go_wp2_with (at_builtin; go_must (refine wpList_append_own _ rfl _ _ 37 rfl w4.heap.size 3 i1 (.int .i64 0) 1 8 Try.underlying37 hj hy0 hy1 hy2 rfl (by decide) _ _ _ rfl (hown.alloc _) ⟨wr.heap.size, 0, none⟩ 1 1 [.int .i64 ((k : Int) * (G.length : Int) + (k : Int))] rfl rfl (cell_one_new _ _ _) (by simp [Value.oneCell']) (by unfold maxLen; omega) (by omega) (by simp; omega) ?_); go_must (intro v' wz hown' hgrow _; obtain ⟨g2, cap2, rfl⟩ := ownsRow_succ hown'); go_must (have HO4 := Lib.hid hown'); go_must (have hB4 : Below w4.heap.size w4 wz := (hB.alloc hws _).grown hgrow (by simp; omega) (fun r e => by have e' : some g = some r := e; cases e'; exact hlg.1)); clear hown' hgrow)
        go_roundw
        case rel => exact ⟨k + 1, g2, cap2, by omega, by go_num, rfl, Lib.hid (by rw [diaT_succ, List.map_append]; exact HO4.out), hB4⟩
        case measure => simp [intOf]; omega
      · obtain rfl : k = G.length := by omega
        have d5 := own_intsT (diaT_length _ _) HR.out
        rw [diaT_all] at d5
        have HDL : Hid ((diaL G.length).length = G.length) := Lib.hid (diaL_length _)
        have x5 := (x4.below hB).more hws
        have t5 := (t4.below hB).more hws
        have HB5 := Lib.hid (HB4.out.trans (hB.mono HB4.out.size))
        obtain ⟨w5, rfl⟩ : ∃ w5 : World, w5 = wr := ⟨_, rfl⟩
        clear x4 t4 HR hB hws
        have HC := Lib.hid (implMapOk a1 c1 b2 c2 (some ⟨g, 0, none⟩) cap G T (diaL G.length) w5 x5 t5 d5 HF.out HTF.out (by rw [HDL.out]; omega))
        rw [HD.out, HDL.out] at HC
        clear d5
        go_wp2_with fail
        refine (HC.out).mono ?_
        rintro e w6 ⟨rfl, hB6⟩
        have hz6 := hB6.size
        have x6 := (x5.below hB6).more hz6
        have t6 := (t5.below hB6).more hz6
        have HB6 := Lib.hid (HB5.out.trans (hB6.mono HB5.out.size))
        clear hB6 hz6 x5 t5
        go_wp2_with fail
        refine (implSide _ _ _ _ _ _ _ _ x6 x6 HF.out HF.out).mono ?_
        rw [HS.out]
        rintro e w7 ⟨b7, c7, ⟨rfl, hB7⟩, hO7⟩
        have s7 := hO7.ints
        clear hO7
        have hz7 := hB7.size
        have x7 := (x6.below hB7).more hz7
        have t7 := (t6.below hB7).more hz7
        have HB7 := Lib.hid (HB6.out.trans (hB7.mono HB6.out.size))
        clear hB7 hz7 x6 t6
        go_wp2_with fail
        refine (implMapOk _ _ _ _ _ _ _ _ _ _ t7 x7 s7 HTF.out HF.out HSL.out).mono ?_
        rw [HSM.out]
        rintro e w8 ⟨rfl, hB8⟩
        have hz8 := hB8.size
        have x8 := (x7.below hB8).more hz8
        have t8 := (t7.below hB8).more hz8
        have s8 := (s7.below hB8).more hz8
        have HB8 := Lib.hid (HB7.out.trans (hB8.mono HB7.out.size))
        clear hB8 hz8 x7 t7 s7
        go_wp2_with fail
        go_ret
        exact ⟨rfl, HB8.out⟩

end Go.Proofs.Ytnehbpihljbjdaa
