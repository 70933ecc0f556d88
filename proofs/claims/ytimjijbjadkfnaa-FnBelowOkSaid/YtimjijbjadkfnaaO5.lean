/-
  The walk of the law of P8 (BelowOk).
-/
import Derived.Test.YtimjijbjadkfnaaK3
import Derived.Test.YtimjijbjadkfnaaZL
import Derived.Test.YtimjijbjadkfnaaM9
namespace Go.Proofs.Ytimjijbjadkfnaa
open Go.RowKit Go.Shelf

theorem Bytes.below {n₀ n₁ n : Nat} {A B : World} {a : Option Addr} (h : Bytes n₀ A a n) (hb : Below n₀ A B) (hn : n₀ ≤ n₁) : Bytes n₁ B a n := fun h0 => by
  obtain ⟨b, o, e, hlt, hc⟩ := h.keep (B := B) (fun p hp => hb.cell hp) h0
  exact ⟨b, o, e, Nat.lt_of_lt_of_le hlt hn, hc⟩
theorem belowNode (w : World) (a' : Option Addr) (c' : Nat) (H : List (List Int)) (h' : gOk H = true) (hM' : Mat w.heap.size w a' H) (hf' : Fit H) :
    Calls Try.prog 26 #[.slice (some ⟨w.heap.size + 1, 0, none⟩) 1 1, .slice a' H.length c'] ((w.alloc (.cells #[.int .i64 0] 3)).alloc (.cells #[.slice (some ⟨w.heap.size, 0, none⟩) 1 1] 29))
      (Ans (.bool true) ((w.alloc (.cells #[.int .i64 0] 3)).alloc (.cells #[.slice (some ⟨w.heap.size, 0, none⟩) 1 1] 29))) := by
  have := implBelow (some ⟨w.heap.size + 1, 0, none⟩) 1 a' c' [[0]] H _ (mat_lit w 0) ((hM'.below (below_lit w _ _)).more (below_lit w _ _).size) (fit_lit 0) hf'
  rwa [below_node h'] at this
theorem belowLoop (w : World) (a' : Option Addr) (c' : Nat) (G : List (List Int)) (h' : gOk G = true) (hM' : Mat w.heap.size w a' G) (hf' : Fit G) :
    Calls Try.prog 26 #[.slice a' G.length c', .slice (some ⟨w.heap.size + 1, 0, none⟩) 1 1] ((w.alloc (.cells #[.int .i64 1] 3)).alloc (.cells #[.slice (some ⟨w.heap.size, 0, none⟩) 1 1] 29))
      (Ans (.bool true) ((w.alloc (.cells #[.int .i64 1] 3)).alloc (.cells #[.slice (some ⟨w.heap.size, 0, none⟩) 1 1] 29))) := by
  have := implBelow a' c' (some ⟨w.heap.size + 1, 0, none⟩) 1 G [[1]] _ ((hM'.below (below_lit w _ _)).more (below_lit w _ _).size) (mat_lit w 1) hf' (fit_lit 1)
  rwa [below_loop h'] at this

set_option maxRecDepth 100000 in
set_option maxHeartbeats 4000000 in
theorem belowOk_any (a : Option Addr) (n c : Nat) (b : Option Addr) (m d : Nat) (w : World) (hc : n ≤ c) (hl : n ≤ 9223372036854775807) (hy : Bytes w.heap.size w a n) (hd : m ≤ d) (hl' : m ≤ 9223372036854775807) (hy' : Bytes w.heap.size w b m) :
    Calls Try.prog 6 #[.slice a n c, .slice b m d] w (Ans (.bool true) w) := by
  by_cases hbig : 1048576 < n
  · go_enter Try.func6, Try.ntmps6
    go_wp2_with fail
    go_ret
    exact ⟨rfl, Below.refl _ _⟩
  by_cases hbig' : 1048576 < m
  · go_enter Try.func6, Try.ntmps6
    go_wp2_with fail
    go_ret
    exact ⟨rfl, Below.refl _ _⟩
  go_enter Try.func6, Try.ntmps6
  go_wp2_with fail
  refine (drawBelowOk_any a n c w (by omega) hc hy).mono ?_
  rintro e w1 ⟨a1, c1, xss, a1', c1', yss, rfl, ⟨hF, x1, hx4⟩, ⟨hF', y1, hy4⟩, hB⟩
  have HB1 := Lib.hid hB
  have HF := Lib.hid hF
  have HF' := Lib.hid hF'
  have hlx := hF.1
  have hly := hF'.1
  have HY' := Lib.hid hy'
  obtain ⟨z, HZ⟩ : ∃ z, Hid (belowI xss yss = z) := ⟨_, rfl⟩
  have hzz : (z != z) = false := by simp
  clear hB hF hF' hy hy' 
  go_wp2_with fail
  refine (implBelow _ _ _ _ _ _ _ x1 y1 HF.out HF'.out).mono ?_
  rw [HZ.out]
  rintro e w2 ⟨rfl, hB2⟩
  have hz2 := hB2.size
  have x2 := (x1.below hB2).more hz2
  have y2 := (y1.below hB2).more hz2
  have HB2 := Lib.hid (HB1.out.trans (hB2.mono HB1.out.size))
  clear hB2 hz2 x1 y1
  go_wp2_with fail
  refine (specBelow _ _ _ _ _ _ _ _ x2 y2 (Nat.le_refl _) HF.out HF'.out).mono ?_
  rw [HZ.out]
  rintro e w3 ⟨rfl, hB3⟩
  have hz3 := hB3.size
  have x3 := (x2.below hB3).more hz3
  have y3 := (y2.below hB3).more hz3
  have HB3 := Lib.hid (HB2.out.trans (hB3.mono HB2.out.size))
  clear hB3 hz3 x2 y2
  go_wp2_with fail
  refine (specFew _ _ _ _ _ _ _ _ x3 y3 HF.out HF'.out).mono ?_
  rintro e wq ⟨rfl, rfl⟩
  by_cases hg : fewI xss yss = true
  · rw [hg]
    obtain ⟨hgx, hgy, _⟩ := fewI_iff.1 hg
    have HGX := Lib.hid hgx
    have HGY := Lib.hid hgy
    have HW := Lib.hid hg
    have HS := Lib.hid (below_self hgx hx4)
    clear hg hgx hgy hzz
    have hy3 : Bytes w3.heap.size w3 b m := HY'.out.below HB3.out HB3.out.size
    go_wp2_with fail
    refine (drawBelowOk_any b m d w3 (by omega) hd hy3).mono ?_
    rintro e w4 ⟨a4, c4, zss, a4', c4', uss, rfl, ⟨hF4, t4, hz4⟩, ⟨_, _, _⟩, hB4⟩
    have HF4 := Lib.hid hF4
    have hlz := hF4.1
    clear hF4 hy3
    have hz4 := hB4.size
    have x4 := (x3.below hB4).more hz4
    have y4 := (y3.below hB4).more hz4
    have HB4 := Lib.hid (HB3.out.trans (hB4.mono HB3.out.size))
    clear hB4 hz4 x3 y3
    cases z with
    | false =>
      clear t4
      go_wp2_with fail
      refine (implBelow _ _ _ _ _ _ _ x4 x4 HF.out HF.out).mono ?_
      rw [HS.out]
      rintro e w5 ⟨rfl, hB5⟩
      have hz5 := hB5.size
      have x5 := (x4.below hB5).more hz5
      have y5 := (y4.below hB5).more hz5
      have HB5 := Lib.hid (HB4.out.trans (hB5.mono HB4.out.size))
      clear hB5 hz5 x4 y4
      have HN := Lib.hid (belowNode w5 a1' c1' yss HGY.out y5 HF'.out)
      have HL0 := HB5
      go_wp2_with fail
      refine HN.out.mono ?_
      rintro e w6 ⟨rfl, hB6⟩
      have HB6 := Lib.hid (HB5.out.trans (((below_lit w5 _ _).trans (hB6.mono (below_lit w5 _ _).size)).mono HB5.out.size))
      have hbb := (below_lit w5 (.cells #[.int .i64 0] 3) (.cells #[.slice (some ⟨w5.heap.size, 0, none⟩) 1 1] 29)).trans (hB6.mono (below_lit w5 _ _).size)
      have x6 := (x5.below hbb).more hbb.size
      have HLp := Lib.hid (belowLoop w6 a1 c1 xss HGX.out x6 HF.out)
      clear hbb hB6 x5 x6 y5 HN
      go_wp2_with fail
      refine HLp.out.mono ?_
      rintro e w7 ⟨rfl, hB7⟩
      have HB7 := Lib.hid (HB6.out.trans (((below_lit w6 _ _).trans (hB7.mono (below_lit w6 _ _).size)).mono HB6.out.size))
      clear hB7
      go_wp2_with fail
      go_ret
      exact ⟨rfl, HB7.out⟩
    | true =>
      go_wp2_with fail
      refine (specFew _ _ _ _ _ _ _ _ y4 t4 HF'.out HF4.out).mono ?_
      rintro e wq ⟨rfl, rfl⟩
      by_cases hg1 : fewI yss zss = true
      · rw [hg1]
        go_wp2_with fail
        refine (specFew _ _ _ _ _ _ _ _ x4 t4 HF.out HF4.out).mono ?_
        rintro e wq ⟨rfl, rfl⟩
        by_cases hg2 : fewI xss zss = true
        · rw [hg2]
          obtain ⟨u, HU⟩ : ∃ u, Hid (belowI yss zss = u) := ⟨_, rfl⟩
          have HG1 := Lib.hid hg1
          have HG2 := Lib.hid hg2
          clear hg1 hg2
          go_wp2_with fail
          refine (implBelow _ _ _ _ _ _ _ y4 t4 HF'.out HF4.out).mono ?_
          rw [HU.out]
          rintro e w5 ⟨rfl, hB5⟩
          have hz5 := hB5.size
          have x5 := (x4.below hB5).more hz5
          have y5 := (y4.below hB5).more hz5
          have t5 := (t4.below hB5).more hz5
          have HB5 := Lib.hid (HB4.out.trans (hB5.mono HB4.out.size))
          clear hB5 hz5 x4 y4 t4
          cases u with
          | false =>
            clear t5
            go_wp2_with fail
            refine (implBelow _ _ _ _ _ _ _ x5 x5 HF.out HF.out).mono ?_
            rw [HS.out]
            rintro e w6 ⟨rfl, hB6⟩
            have hz6 := hB6.size
            have x6 := (x5.below hB6).more hz6
            have y6 := (y5.below hB6).more hz6
            have HB6 := Lib.hid (HB5.out.trans (hB6.mono HB5.out.size))
            clear hB6 hz6 x5 y5
            have HN := Lib.hid (belowNode w6 a1' c1' yss HGY.out y6 HF'.out)
            have HL0 := HB6
            go_wp2_with fail
            refine HN.out.mono ?_
            rintro e w7 ⟨rfl, hB7⟩
            have HB7 := Lib.hid (HB6.out.trans (((below_lit w6 _ _).trans (hB7.mono (below_lit w6 _ _).size)).mono HB6.out.size))
            have hbb := (below_lit w6 (.cells #[.int .i64 0] 3) (.cells #[.slice (some ⟨w6.heap.size, 0, none⟩) 1 1] 29)).trans (hB7.mono (below_lit w6 _ _).size)
            have x7 := (x6.below hbb).more hbb.size
            have HLp := Lib.hid (belowLoop w7 a1 c1 xss HGX.out x7 HF.out)
            clear hbb hB7 x6 x7 y6 HN
            go_wp2_with fail
            refine HLp.out.mono ?_
            rintro e w8 ⟨rfl, hB8⟩
            have HB8 := Lib.hid (HB7.out.trans (((below_lit w7 _ _).trans (hB8.mono (below_lit w7 _ _).size)).mono HB7.out.size))
            clear hB8
            go_wp2_with fail
            go_ret
            exact ⟨rfl, HB8.out⟩
          | true =>
            have HT := Lib.hid (below_trans HW.out HG1.out HG2.out HZ.out HU.out)
            go_wp2_with fail
            refine (implBelow _ _ _ _ _ _ _ x5 t5 HF.out HF4.out).mono ?_
            rw [HT.out]
            rintro e w6 ⟨rfl, hB6⟩
            have hz6 := hB6.size
            have x6 := (x5.below hB6).more hz6
            have y6 := (y5.below hB6).more hz6
            have t6 := (t5.below hB6).more hz6
            have HB6 := Lib.hid (HB5.out.trans (hB6.mono HB5.out.size))
            clear hB6 hz6 x5 y5 t5
            clear t6
            go_wp2_with fail
            refine (implBelow _ _ _ _ _ _ _ x6 x6 HF.out HF.out).mono ?_
            rw [HS.out]
            rintro e w7 ⟨rfl, hB7⟩
            have hz7 := hB7.size
            have x7 := (x6.below hB7).more hz7
            have y7 := (y6.below hB7).more hz7
            have HB7 := Lib.hid (HB6.out.trans (hB7.mono HB6.out.size))
            clear hB7 hz7 x6 y6
            have HN := Lib.hid (belowNode w7 a1' c1' yss HGY.out y7 HF'.out)
            have HL0 := HB7
            go_wp2_with fail
            refine HN.out.mono ?_
            rintro e w8 ⟨rfl, hB8⟩
            have HB8 := Lib.hid (HB7.out.trans (((below_lit w7 _ _).trans (hB8.mono (below_lit w7 _ _).size)).mono HB7.out.size))
            have hbb := (below_lit w7 (.cells #[.int .i64 0] 3) (.cells #[.slice (some ⟨w7.heap.size, 0, none⟩) 1 1] 29)).trans (hB8.mono (below_lit w7 _ _).size)
            have x8 := (x7.below hbb).more hbb.size
            have HLp := Lib.hid (belowLoop w8 a1 c1 xss HGX.out x8 HF.out)
            clear hbb hB8 x7 x8 y7 HN
            go_wp2_with fail
            refine HLp.out.mono ?_
            rintro e w9 ⟨rfl, hB9⟩
            have HB9 := Lib.hid (HB8.out.trans (((below_lit w8 _ _).trans (hB9.mono (below_lit w8 _ _).size)).mono HB8.out.size))
            clear hB9
            go_wp2_with fail
            go_ret
            exact ⟨rfl, HB9.out⟩
        · have hn : fewI xss zss = false := by simpa using hg2
          rw [hn]
          clear hg1 hg2
          clear t4
          go_wp2_with fail
          refine (implBelow _ _ _ _ _ _ _ x4 x4 HF.out HF.out).mono ?_
          rw [HS.out]
          rintro e w5 ⟨rfl, hB5⟩
          have hz5 := hB5.size
          have x5 := (x4.below hB5).more hz5
          have y5 := (y4.below hB5).more hz5
          have HB5 := Lib.hid (HB4.out.trans (hB5.mono HB4.out.size))
          clear hB5 hz5 x4 y4
          have HN := Lib.hid (belowNode w5 a1' c1' yss HGY.out y5 HF'.out)
          have HL0 := HB5
          go_wp2_with fail
          refine HN.out.mono ?_
          rintro e w6 ⟨rfl, hB6⟩
          have HB6 := Lib.hid (HB5.out.trans (((below_lit w5 _ _).trans (hB6.mono (below_lit w5 _ _).size)).mono HB5.out.size))
          have hbb := (below_lit w5 (.cells #[.int .i64 0] 3) (.cells #[.slice (some ⟨w5.heap.size, 0, none⟩) 1 1] 29)).trans (hB6.mono (below_lit w5 _ _).size)
          have x6 := (x5.below hbb).more hbb.size
          have HLp := Lib.hid (belowLoop w6 a1 c1 xss HGX.out x6 HF.out)
          clear hbb hB6 x5 x6 y5 HN
          go_wp2_with fail
          refine HLp.out.mono ?_
          rintro e w7 ⟨rfl, hB7⟩
          have HB7 := Lib.hid (HB6.out.trans (((below_lit w6 _ _).trans (hB7.mono (below_lit w6 _ _).size)).mono HB6.out.size))
          clear hB7
          go_wp2_with fail
          go_ret
          exact ⟨rfl, HB7.out⟩
      · have hn : fewI yss zss = false := by simpa using hg1
        rw [hn]
        clear hg1
        clear t4
        go_wp2_with fail
        refine (implBelow _ _ _ _ _ _ _ x4 x4 HF.out HF.out).mono ?_
        rw [HS.out]
        rintro e w5 ⟨rfl, hB5⟩
        have hz5 := hB5.size
        have x5 := (x4.below hB5).more hz5
        have y5 := (y4.below hB5).more hz5
        have HB5 := Lib.hid (HB4.out.trans (hB5.mono HB4.out.size))
        clear hB5 hz5 x4 y4
        have HN := Lib.hid (belowNode w5 a1' c1' yss HGY.out y5 HF'.out)
        have HL0 := HB5
        go_wp2_with fail
        refine HN.out.mono ?_
        rintro e w6 ⟨rfl, hB6⟩
        have HB6 := Lib.hid (HB5.out.trans (((below_lit w5 _ _).trans (hB6.mono (below_lit w5 _ _).size)).mono HB5.out.size))
        have hbb := (below_lit w5 (.cells #[.int .i64 0] 3) (.cells #[.slice (some ⟨w5.heap.size, 0, none⟩) 1 1] 29)).trans (hB6.mono (below_lit w5 _ _).size)
        have x6 := (x5.below hbb).more hbb.size
        have HLp := Lib.hid (belowLoop w6 a1 c1 xss HGX.out x6 HF.out)
        clear hbb hB6 x5 x6 y5 HN
        go_wp2_with fail
        refine HLp.out.mono ?_
        rintro e w7 ⟨rfl, hB7⟩
        have HB7 := Lib.hid (HB6.out.trans (((below_lit w6 _ _).trans (hB7.mono (below_lit w6 _ _).size)).mono HB6.out.size))
        clear hB7
        go_wp2_with fail
        go_ret
        exact ⟨rfl, HB7.out⟩
  · have hn : fewI xss yss = false := by simpa using hg
    obtain rfl : z = false := HZ.out.symm.trans (belowI_no hn)
    rw [hn]
    clear hg hzz
    clear x3 y3
    go_wp2_with fail
    refine (alive_any _).mono ?_
    rintro e w4 ⟨rfl, hB4⟩
    have hz4 := hB4.size
    have HB4 := Lib.hid (HB3.out.trans (hB4.mono HB3.out.size))
    clear hB4 hz4 
    go_wp2_with fail
    go_ret
    exact ⟨rfl, HB4.out⟩

end Go.Proofs.Ytimjijbjadkfnaa
