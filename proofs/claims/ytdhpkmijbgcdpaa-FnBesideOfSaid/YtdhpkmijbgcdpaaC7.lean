/-
  The walk of the law of P2 (BesideOf).
-/
import Derived.Test.YtdhpkmijbgcdpaaJ5
import Derived.Test.YtdhpkmijbgcdpaaK1
import Derived.Test.YtdhpkmijbgcdpaaK2
namespace Go.Proofs.Ytdhpkmijbgcdpaa
open Go.RowKit Go.Shelf Go.Deep

theorem seqL_succ (s m : Nat) : seqL s (m + 1) = seqL s m ++ [((s + m : Nat) : Int)] := by simp [seqL, List.range_succ]
theorem own_cap {W : World} {base g n cap size : Nat} {e : TypeId} {xs : List Value} (h : W.ownsRow base e size (.slice (some ⟨g, 0, none⟩) n cap) n xs) : n ≤ cap := by
  rcases h.2 with ⟨h0, _⟩ | ⟨g0, cap0, cur, e0, _, _, hnc, _⟩
  · cases h0
  · cases e0; exact hnc
theorem own_seq {W : World} {base g cap s m : Nat} (h : W.ownsRow base 3 1 (.slice (some ⟨g, 0, none⟩) m cap) m ((seqL s m).map (Value.int .i64))) : Ints W.heap.size W (some ⟨g, 0, none⟩) (seqL s m) := by
  obtain ⟨aa, cc, e, hI⟩ := own_ints (xs := seqL s m) (x := .slice (some ⟨g, 0, none⟩) m cap) (by rw [seqL_length]; exact h)
  rw [seqL_length] at e
  cases e
  exact hI
theorem arrowsI_small {xss : List (List Int)} (h : Good xss) : 0 ≤ arrowsI xss ∧ arrowsI xss ≤ 81 := by
  rw [arrowsI_yes (gOk_true h)]
  have h1 := AL_le xss
  have h2 := sq_le h.2.1
  omega
theorem bes_fit2 (xss yss : List (List Int)) : Fit (besL xss yss) := by
  by_cases h : besOk xss yss = true
  · exact (bes_good h).fit
  · rw [besL_no (by simpa using h)]
    exact ⟨by simp, fun xs hx => by cases hx⟩

set_option maxRecDepth 100000 in
set_option maxHeartbeats 4000000 in
theorem besideOf_any (a : Option Addr) (n c : Nat) (w : World) (hc : n ≤ c) (hl : n ≤ 9223372036854775807) (hy : Bytes w.heap.size w a n) :
    Calls Try.prog 6 #[.slice a n c] w (Ans (.bool true) w) := by
  by_cases hbig : 1048576 < n
  · go_enter Try.func6, Try.ntmps6
    go_wp2_with fail
    go_ret
    exact ⟨rfl, Below.refl _ _⟩
  obtain ⟨i1, hj, hy0, hy1, hy2⟩ := info_parts infoInt
  go_enter Try.func6, Try.ntmps6
  go_wp2_with fail
  refine (drawBesideOf_any a n c w (by omega) hc hy).mono ?_
  rintro e w1 ⟨a1, c1, xss, a1', c1', yss, rfl, ⟨hF, hM⟩, ⟨hF', hM'⟩, hB⟩
  have HB := Lib.hid hB
  have HF := Lib.hid hF
  have HF' := Lib.hid hF'
  obtain ⟨zs, HZ, hzf⟩ : ∃ zs, Hid (besL xss yss = zs) ∧ Hid (Fit zs) := ⟨_, rfl, bes_fit2 xss yss⟩
  obtain ⟨yes, HY⟩ : ∃ yes, Hid (besOk xss yss = yes) := ⟨_, rfl⟩
  have hyy : (yes != yes) = false := by simp
  clear hB hF hF' hy
  go_wp2_with fail
  refine (implBeside _ _ _ _ _ _ _ hM hM' HF.out HF'.out).mono ?_
  rintro e w2 h2
  rw [HZ.out, HY.out] at h2
  obtain ⟨a2, c2, ⟨rfl, hB2⟩, hO⟩ := h2
  have hX2 := hO.mat
  have hz2 := hB2.size
  have hM2 := (hM.below hB2).more hz2
  have hM2' := (hM'.below hB2).more hz2
  have HB2 := Lib.hid (HB.out.trans (hB2.mono HB.out.size))
  clear hM hM' hB2 hO hz2
  go_wp2_with fail
  refine (specBeside _ _ _ _ _ _ _ _ hM2 hM2' (Nat.le_refl _) HF.out HF'.out).mono ?_
  rintro e w3 h3
  rw [HZ.out, HY.out] at h3
  obtain ⟨a3, c3, ⟨rfl, hB3⟩, hX3⟩ := h3
  have hz3 := hB3.size
  have hM3 := (hM2.below hB3).more hz3
  have hM3' := (hM2'.below hB3).more hz3
  have hX3' := (hX2.below hB3).more hz3
  have HB3 := Lib.hid (HB2.out.trans (hB3.mono HB2.out.size))
  clear hM2 hM2' hX2 hB3 hz3
  go_wp2_with fail
  refine (sameSS_same _ _ _ _ _ _ _ hX3' hX3 hzf.out).mono ?_
  rintro e w4 h4
  obtain ⟨rfl, hB4⟩ := h4.below
  have hz4 := hB4.size
  have hM4 := (hM3.below hB4).more hz4
  have hM4' := (hM3'.below hB4).more hz4
  have hX4 := (hX3'.below hB4).more hz4
  have HB4 := Lib.hid (HB3.out.trans (hB4.mono HB3.out.size))
  clear hM3 hM3' hX3 hX3' hB4 hz4 h4
  by_cases hyes : yes = true
  · subst hyes
    have hgd := besOk_of HY.out
    have hzl : zs.length = xss.length + yss.length := by rw [← HZ.out]; exact bes_length HY.out
    have h9 := hgd.2.2
    have HP1 : Hid (partL zs (seqL 0 xss.length) = xss) := Lib.hid (by rw [← HZ.out]; exact part_first HY.out)
    have HP2 : Hid (partL zs (seqL xss.length yss.length) = yss) := Lib.hid (by rw [← HZ.out]; exact part_last HY.out)
    have HA : Hid (arrowsI zs = arrowsI xss + arrowsI yss) := Lib.hid (by rw [← HZ.out]; exact arrows_bes HY.out)
    have hA1 := arrowsI_small hgd.1
    have hA2 := arrowsI_small hgd.2.1
    have HZL := Lib.hid hzl
    clear hgd hzl hyy
    rw [HZL.out]
    go_wp2_with fail
    go_loopw [9, 10, 11] (fun v1 v2 i wr => ∃ (p q g1 k1 g2 k2 : Nat), p ≤ xss.length ∧ q ≤ yss.length ∧ (q = 0 ∨ p = xss.length) ∧ i = .int .i64 ((p + q : Nat) : Int) ∧ v1 = .slice (some ⟨g1, 0, none⟩) p k1 ∧ v2 = .slice (some ⟨g2, 0, none⟩) q k2 ∧ g1 ≠ g2 ∧
        Hid (wr.ownsRow w4.heap.size 3 1 (.slice (some ⟨g1, 0, none⟩) p k1) p ((seqL 0 p).map (Value.int .i64))) ∧ Hid (wr.ownsRow w4.heap.size 3 1 (.slice (some ⟨g2, 0, none⟩) q k2) q ((seqL xss.length q).map (Value.int .i64))) ∧ Below w4.heap.size w4 wr)
      (fun _ _ i _ => xss.length + yss.length - (intOf i).toNat)
    case atStart =>
      have h1 : (w4.alloc (.cells #[] 3)).ownsRow w4.heap.size 3 1 (.slice (some ⟨w4.heap.size, 0, none⟩) 0 0) 0 [] := World.ownsRow_lit (size := 1) w4 #[] 0 (Nat.le_refl _) (Nat.zero_le _) rfl
      have h2 : ((w4.alloc (.cells #[] 3)).alloc (.cells #[] 3)).ownsRow w4.heap.size 3 1 (.slice (some ⟨(w4.alloc (.cells #[] 3)).heap.size, 0, none⟩) 0 0) 0 [] := World.ownsRow_lit (size := 1) _ #[] 0 (by simp) (Nat.zero_le _) rfl
      rw [show (w4.alloc (.cells #[] 3)).heap.size = w4.heap.size + 1 by simp] at h2
      exact ⟨0, 0, _, _, _, _, Nat.zero_le _, Nat.zero_le _, .inl rfl, rfl, rfl, rfl, by omega, Lib.hid (h1.alloc _), Lib.hid h2, ((Below.refl _ w4).alloc (Nat.le_refl _) _).alloc (by simp) _⟩
    case round =>
      obtain ⟨p, q, g1, k1, g2, k2, hp, hq, hpq, rfl, rfl, rfl, hne, HO1, HO2, hBr⟩ := hrel
      have hws := hBr.size
      have hl1 := (HO1.out.lt g1 rfl)
      have hl2 := (HO2.out.lt g2 rfl)
      by_cases hlt : p + q < xss.length + yss.length
      · by_cases hpm : p < xss.length
        · obtain rfl : q = 0 := by omega
          rw [Nat.add_zero]
          go_wp2_with (at_builtin; refine wpList_append_lies _ rfl _ _ 26 rfl w4.heap.size 3 i1 (.int .i64 0) 1 8 Try.underlying26 hj hy0 hy1 hy2 rfl (by decide) (.slice (some ⟨g1, 0, none⟩) p k1) p ((seqL 0 p).map (Value.int .i64)) rfl (HO1.out.alloc _) ⟨wr.heap.size, 0, none⟩ 1 1 [.int .i64 (p : Int)] rfl rfl (cell_one_new _ _ _) (by simp [Value.oneCell']) (by omega) (by unfold maxLen; omega) (by omega) (by simp; omega) (wr.heap.size + 1) (by simp) ?_; intro g3 k3 w5 hown5 hgrow5 hat5 _; have HN := Lib.hid hown5; have HK := Lib.hid ((HO2.out.alloc (.cells #[.int .i64 (p : Int)] 3)).kept hgrow5 (.inr (fun e => by have e' : some g2 = some g1 := e; cases e'; exact hne rfl))); have hB5 : Below w4.heap.size w4 w5 := (hBr.alloc hws _).grown hgrow5 (by simp; omega) (fun r e => by have e' : some g1 = some r := e; cases e'; exact hl1.1); have hne3 : g3 ≠ g2 := hat5.elim (fun e => by have e' : some g1 = some g3 := e; cases e'; exact hne) (fun e => by omega); clear hown5 hgrow5 hat5)
          go_roundw
          case rel => exact ⟨p + 1, 0, g3, k3, g2, k2, by omega, by omega, .inl rfl, by go_num, rfl, rfl, hne3, Lib.hid (by rw [seqL_succ, List.map_append, Nat.zero_add]; exact HN.out), HK, hB5⟩
          case measure => simp [intOf]; omega
        · obtain rfl : p = xss.length := by omega
          rw [show ((xss.length + q : Nat) : Int) = (xss.length : Int) + (q : Int) by omega]
          go_wp2_with (at_builtin; refine wpList_append_lies _ rfl _ _ 26 rfl w4.heap.size 3 i1 (.int .i64 0) 1 8 Try.underlying26 hj hy0 hy1 hy2 rfl (by decide) (.slice (some ⟨g2, 0, none⟩) q k2) q ((seqL xss.length q).map (Value.int .i64)) rfl (HO2.out.alloc _) ⟨wr.heap.size, 0, none⟩ 1 1 [.int .i64 ((xss.length : Int) + (q : Int))] rfl rfl (cell_one_new _ _ _) (by simp [Value.oneCell']) (by omega) (by unfold maxLen; omega) (by omega) (by simp; omega) (wr.heap.size + 1) (by simp) ?_; intro g3 k3 w5 hown5 hgrow5 hat5 _; have HN := Lib.hid hown5; have HK := Lib.hid ((HO1.out.alloc (.cells #[.int .i64 ((xss.length : Int) + (q : Int))] 3)).kept hgrow5 (.inr (fun e => by have e' : some g1 = some g2 := e; cases e'; exact hne rfl))); have hB5 : Below w4.heap.size w4 w5 := (hBr.alloc hws _).grown hgrow5 (by simp; omega) (fun r e => by have e' : some g2 = some r := e; cases e'; exact hl2.1); have hne3 : g3 ≠ g1 := hat5.elim (fun e => by have e' : some g2 = some g3 := e; cases e'; exact (Ne.symm hne)) (fun e => by omega); clear hown5 hgrow5 hat5)
          go_roundw
          case rel => exact ⟨xss.length, q + 1, g1, k1, g3, k3, by omega, by omega, .inr rfl, by go_num, rfl, rfl, Ne.symm hne3, HK, Lib.hid (by rw [seqL_succ, List.map_append, show ((xss.length + q : Nat) : Int) = (xss.length : Int) + (q : Int) by omega]; exact HN.out), hB5⟩
          case measure => simp [intOf]; omega
      · obtain rfl : p = xss.length := by omega
        obtain rfl : q = yss.length := by omega
        have hX5 := (hX4.below hBr).more hws
        have hM5 := (hM4.below hBr).more hws
        have hM5' := (hM4'.below hBr).more hws
        have hI1 := own_seq HO1.out
        have hI2 := own_seq HO2.out
        have hk1 := own_cap HO1.out
        have hk2 := own_cap HO2.out
        have HB5 := Lib.hid (HB4.out.trans (hBr.mono HB4.out.size))
        clear hX4 hM4 hM4' HO1 HO2 hl1 hl2 hBr hws HB4 hlt
        go_wp2_with fail
        have hp1 := implPart a2 (some ⟨g1, 0, none⟩) c2 k1 zs (seqL 0 xss.length) wr hX5 hI1 (by rw [seqL_length]; exact hk1) (by rw [seqL_length]; omega) hzf.out
        rw [HP1.out, seqL_length, HZL.out] at hp1
        refine hp1.mono ?_
        clear hp1
        rintro e w6 ⟨a6, c6, ⟨rfl, hB6⟩, hO6⟩
        have hz6 := hB6.size
        have hP6 := hO6.mat
        have hX6 := (hX5.below hB6).more hz6
        have hM6 := (hM5.below hB6).more hz6
        have hM6' := (hM5'.below hB6).more hz6
        have hI6 := (hI2.below hB6).more hz6
        have HB6 := Lib.hid (HB5.out.trans (hB6.mono HB5.out.size))
        clear hX5 hM5 hM5' hI1 hI2 hB6 hO6 hz6
        go_wp2_with fail
        refine (sameSS_same _ _ _ _ _ _ _ hP6 hM6 HF.out).mono ?_
        rintro e w7 h7
        obtain ⟨rfl, hB7⟩ := h7.below
        have hz7 := hB7.size
        have hX7 := (hX6.below hB7).more hz7
        have hM7 := (hM6.below hB7).more hz7
        have hM7' := (hM6'.below hB7).more hz7
        have hI7 := (hI6.below hB7).more hz7
        have HB7 := Lib.hid (HB6.out.trans (hB7.mono HB6.out.size))
        clear hP6 hX6 hM6 hM6' hI6 hB7 hz7 h7
        go_wp2_with fail
        have hp2 := implPart a2 (some ⟨g2, 0, none⟩) c2 k2 zs (seqL xss.length yss.length) w7 hX7 hI7 (by rw [seqL_length]; exact hk2) (by rw [seqL_length]; omega) hzf.out
        rw [HP2.out, seqL_length, HZL.out] at hp2
        refine hp2.mono ?_
        clear hp2
        rintro e w8 ⟨a8, c8, ⟨rfl, hB8⟩, hO8⟩
        have hz8 := hB8.size
        have hP8 := hO8.mat
        have hX8 := (hX7.below hB8).more hz8
        have hM8 := (hM7.below hB8).more hz8
        have hM8' := (hM7'.below hB8).more hz8
        have HB8 := Lib.hid (HB7.out.trans (hB8.mono HB7.out.size))
        clear hX7 hM7 hM7' hI7 hB8 hO8 hz8
        go_wp2_with fail
        refine (sameSS_same _ _ _ _ _ _ _ hP8 hM8' HF'.out).mono ?_
        rintro e w9 h9'
        obtain ⟨rfl, hB9⟩ := h9'.below
        have hz9 := hB9.size
        have hX9 := (hX8.below hB9).more hz9
        have hM9 := (hM8.below hB9).more hz9
        have hM9' := (hM8'.below hB9).more hz9
        have HB9 := Lib.hid (HB8.out.trans (hB9.mono HB8.out.size))
        clear hP8 hX8 hM8 hM8' hB9 hz9 h9'
        go_wp2_with fail
        have ha := implArrows a2 c2 zs w9 hX9 hzf.out
        rw [HA.out, HZL.out] at ha
        refine ha.mono ?_
        clear ha
        rintro e w10 ⟨rfl, hB10⟩
        have hz10 := hB10.size
        have hM10 := (hM9.below hB10).more hz10
        have hM10' := (hM9'.below hB10).more hz10
        have HB10 := Lib.hid (HB9.out.trans (hB10.mono HB9.out.size))
        clear hX9 hM9 hM9' hB10 hz10
        go_wp2_with fail
        refine (implArrows _ _ _ _ hM10 HF.out).mono ?_
        rintro e w11 ⟨rfl, hB11⟩
        have hM11' := (hM10'.below hB11).more hB11.size
        have HB11 := Lib.hid (HB10.out.trans (hB11.mono HB10.out.size))
        clear hM10 hM10' hB11
        go_wp2_with fail
        refine (implArrows _ _ _ _ hM11' HF'.out).mono ?_
        rintro e w12 ⟨rfl, hB12⟩
        have HB12 := Lib.hid (HB11.out.trans (hB12.mono HB11.out.size))
        clear hM11' hB12
        go_wp2_with fail
        go_ret
        exact ⟨rfl, HB12.out⟩
  · have hno : yes = false := by simpa using hyes
    subst hno
    have h0 : zs = [] := by rw [← HZ.out]; exact besL_no HY.out
    subst h0
    clear hyes hX4 hM4 hM4' hyy
    go_wp2_with fail
    refine (alive_any _).mono ?_
    rintro e w6 ⟨rfl, hB6⟩
    have HB6 := Lib.hid (HB4.out.trans (hB6.mono HB4.out.size))
    clear hB6
    go_wp2_with fail
    go_ret
    exact ⟨rfl, HB6.out⟩

end Go.Proofs.Ytdhpkmijbgcdpaa
