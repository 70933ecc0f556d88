/-
  The walk of the law of P7 (CountOf).
-/
import Derived.Test.YtimjijbjadkfnaaZJ
import Derived.Test.YtimjijbjadkfnaaK3
import Derived.Test.YtimjijbjadkfnaaZL
import Derived.Test.YtimjijbjadkfnaaM9
namespace Go.Proofs.Ytimjijbjadkfnaa
open Go.RowKit Go.Shelf

/-- The world behind the literal of the small graph. -/
def w3s (w : World) : World := ((w.alloc (.cells #[.int .i64 0, .int .i64 1] 3)).alloc (.cells #[.int .i64 0, .int .i64 0] 3)).alloc (.cells #[.slice (some ⟨w.heap.size, 0, none⟩) 2 2, .slice (some ⟨w.heap.size + 1, 0, none⟩) 2 2] 29)
theorem below_small (w : World) : Below w.heap.size w (w3s w) := (((Below.refl _ _).alloc (Nat.le_refl _) _).alloc (by simp) _).alloc (by simp; omega) _
theorem size_small (w : World) : (w3s w).heap.size = w.heap.size + 3 := by unfold w3s; simp
theorem mat_small (w : World) : Mat (w3s w).heap.size (w3s w) (some ⟨w.heap.size + 2, 0, none⟩) smallG := fun _ => by
  have h2 : (w3s w).heap[w.heap.size + 2]? = some (.cells #[.slice (some ⟨w.heap.size, 0, none⟩) 2 2, .slice (some ⟨w.heap.size + 1, 0, none⟩) 2 2] 29) := by
    have := World.alloc_heap_new ((w.alloc (.cells #[.int .i64 0, .int .i64 1] 3)).alloc (.cells #[.int .i64 0, .int .i64 0] 3)) (.cells #[.slice (some ⟨w.heap.size, 0, none⟩) 2 2, .slice (some ⟨w.heap.size + 1, 0, none⟩) 2 2] 29)
    rw [World.size_alloc, World.size_alloc] at this
    exact this
  have h1 : (w3s w).heap[w.heap.size + 1]? = some (.cells #[.int .i64 0, .int .i64 0] 3) := by
    have := World.alloc_heap_new (w.alloc (.cells #[.int .i64 0, .int .i64 1] 3)) (.cells #[.int .i64 0, .int .i64 0] 3)
    rw [World.size_alloc] at this
    exact (Below.heap_alloc _ _ (w.heap.size + 1) (by simp)).trans this
  have h0 : (w3s w).heap[w.heap.size]? = some (.cells #[.int .i64 0, .int .i64 1] 3) :=
    (Below.heap_alloc _ _ w.heap.size (by simp; omega)).trans ((Below.heap_alloc _ _ w.heap.size (by simp)).trans (World.alloc_heap_new w _))
  refine ⟨w.heap.size + 2, 0, rfl, by rw [size_small]; omega, fun i hi => ?_⟩
  have hi2 : i = 0 ∨ i = 1 := by simp [smallG] at hi; omega
  rcases hi2 with rfl | rfl
  · refine ⟨some ⟨w.heap.size, 0, none⟩, 2, by simp only [World.cell?]; rw [h2]; rfl, fun _ => ⟨w.heap.size, 0, rfl, by rw [size_small]; omega, fun j hj => ?_⟩⟩
    have hj2 : j = 0 ∨ j = 1 := by simp [smallG] at hj; omega
    rcases hj2 with rfl | rfl <;> (simp only [World.cell?]; rw [h0]; rfl)
  · refine ⟨some ⟨w.heap.size + 1, 0, none⟩, 2, by simp only [World.cell?]; rw [h2]; rfl, fun _ => ⟨w.heap.size + 1, 0, rfl, by rw [size_small]; omega, fun j hj => ?_⟩⟩
    have hj2 : j = 0 ∨ j = 1 := by simp [smallG] at hj; omega
    rcases hj2 with rfl | rfl <;> (simp only [World.cell?]; rw [h1]; rfl)
theorem fit_small : Fit smallG := Good.fit (good_of (by decide))
theorem countNode (w : World) (a' : Option Addr) (c' : Nat) (H : List (List Int)) (h' : gOk H = true) (hM' : Mat w.heap.size w a' H) (hf' : Fit H) :
    Calls Try.prog 21 #[.slice (some ⟨w.heap.size + 1, 0, none⟩) 1 1, .slice a' H.length c'] ((w.alloc (.cells #[.int .i64 0] 3)).alloc (.cells #[.slice (some ⟨w.heap.size, 0, none⟩) 1 1] 29))
      (Ans (.int .i64 H.length) ((w.alloc (.cells #[.int .i64 0] 3)).alloc (.cells #[.slice (some ⟨w.heap.size, 0, none⟩) 1 1] 29))) := by
  have := implCount (some ⟨w.heap.size + 1, 0, none⟩) 1 a' c' [[0]] H _ (mat_lit w 0) ((hM'.below (below_lit w _ _)).more (below_lit w _ _).size) (fit_lit 0) hf'
  rwa [count_node h'] at this
theorem countLoop (w : World) (a' : Option Addr) (c' : Nat) (G : List (List Int)) (h' : gOk G = true) (hM' : Mat w.heap.size w a' G) (hf' : Fit G) :
    Calls Try.prog 21 #[.slice a' G.length c', .slice (some ⟨w.heap.size + 1, 0, none⟩) 1 1] ((w.alloc (.cells #[.int .i64 1] 3)).alloc (.cells #[.slice (some ⟨w.heap.size, 0, none⟩) 1 1] 29))
      (Ans (.int .i64 1) ((w.alloc (.cells #[.int .i64 1] 3)).alloc (.cells #[.slice (some ⟨w.heap.size, 0, none⟩) 1 1] 29))) := by
  have := implCount a' c' (some ⟨w.heap.size + 1, 0, none⟩) 1 G [[1]] _ ((hM'.below (below_lit w _ _)).more (below_lit w _ _).size) (mat_lit w 1) hf' (fit_lit 1)
  rwa [count_loop h'] at this
theorem countI_le (G H : List (List Int)) : countI G H ≤ 7000 := by
  unfold countI
  split
  · have := mapsL_le G H; omega
  · omega
theorem countI_ge {G H : List (List Int)} (h : fewI G H = true) : 0 ≤ countI G H := by rw [countI_yes h]; omega

set_option maxRecDepth 100000 in
set_option maxHeartbeats 4000000 in
theorem countOf_any (a : Option Addr) (n c : Nat) (w : World) (hc : n ≤ c) (hl : n ≤ 9223372036854775807) (hy : Bytes w.heap.size w a n) :
    Calls Try.prog 5 #[.slice a n c] w (Ans (.bool true) w) := by
  by_cases hbig : 1048576 < n
  · go_enter Try.func5, Try.ntmps5
    go_wp2_with fail
    go_ret
    exact ⟨rfl, Below.refl _ _⟩
  go_enter Try.func5, Try.ntmps5
  go_wp2_with fail
  refine (drawCountOf_any a n c w (by omega) hc hy).mono ?_
  rintro e w1 ⟨a1, c1, xss, a1', c1', yss, rfl, ⟨hF, x1, hx4⟩, ⟨hF', y1, hy4⟩, hB⟩
  have HB1 := Lib.hid hB
  have HF := Lib.hid hF
  have HF' := Lib.hid hF'
  have hlx := hF.1
  have hly := hF'.1
  obtain ⟨z, HZ⟩ : ∃ z, Hid (countI xss yss = z) := ⟨_, rfl⟩
  have hzz : (z != z) = false := by simp
  have hz7 : z ≤ 7000 := by rw [← HZ.out]; exact countI_le _ _
  clear hB hF hF' hy
  go_wp2_with fail
  refine (implCount _ _ _ _ _ _ _ x1 y1 HF.out HF'.out).mono ?_
  rw [HZ.out]
  rintro e w2 ⟨rfl, hB2⟩
  have hz2 := hB2.size
  have x2 := (x1.below hB2).more hz2
  have y2 := (y1.below hB2).more hz2
  have HB2 := Lib.hid (HB1.out.trans (hB2.mono HB1.out.size))
  clear hB2 hz2 x1 y1
  go_wp2_with fail
  refine (specCount _ _ _ _ _ _ _ _ x2 y2 (Nat.le_refl _) HF.out HF'.out).mono ?_
  rw [HZ.out]
  rintro e w3 ⟨rfl, hB3⟩
  have hz3 := hB3.size
  have x3 := (x2.below hB3).more hz3
  have y3 := (y2.below hB3).more hz3
  have HB3 := Lib.hid (HB2.out.trans (hB3.mono HB2.out.size))
  clear hB3 hz3 x2 y2
  by_cases hg : fewI xss yss = true
  · obtain ⟨hgx, hgy, _⟩ := fewI_iff.1 hg
    have hz0 : 0 ≤ z := by rw [← HZ.out]; exact countI_ge hg
    have HGX := Lib.hid hgx
    have HGY := Lib.hid hgy
    have HW := Lib.hid hg
    have hok : besOk xss smallG = true := by unfold besOk; rw [hgx, show gOk smallG = true from by decide, decide_eq_true (show xss.length + smallG.length ≤ 9 by simp [smallG]; omega)]; rfl
    have HOK := Lib.hid hok
    have HBL := Lib.hid (bes_length hok)
    have HBF := Lib.hid (bes_good hok).fit
    obtain ⟨u, HU⟩ : ∃ u, Hid (arrowsI yss = u) := ⟨_, rfl⟩
    have HUS : Hid (countI smallG yss = u) := Lib.hid (by rw [count_small hgy hy4]; exact HU.out)
    have hu7 : u ≤ 7000 := by rw [← HUS.out]; exact countI_le _ _
    have hu0 : 0 ≤ u := by rw [← HUS.out]; exact countI_ge (small_few hgy hy4)
    have hp0 : 0 ≤ z * u := Int.mul_nonneg hz0 hu0
    have hp7 : z * u ≤ 49000000 := Int.le_trans (Int.mul_le_mul hz7 hu7 hu0 (by omega)) (by decide)
    have hpp : (z * u != z * u) = false := by simp
    have HM3 := Lib.hid (mat_small w3)
    have hBs := below_small w3
    have hss := hBs.size
    have x4 := (x3.below hBs).more hss
    have y4 := (y3.below hBs).more hss
    have HB4 := Lib.hid (HB3.out.trans (hBs.mono HB3.out.size))
    have hse := size_small w3
    obtain ⟨w4, hw4⟩ : ∃ w4, w3s w3 = w4 := ⟨_, rfl⟩
    have hw4' := hw4
    unfold w3s at hw4'
    rw [hw4] at x4 y4 HB4 HM3
    have s4 := HM3.out
    clear hg hgx hgy hok x3 y3 hBs hss hse HM3
    go_wp2_with fail
    clear hw4 hw4'
    have HC := Lib.hid (implBeside a1 (some ⟨w3.heap.size + 1 + 1, 0, none⟩) c1 2 xss smallG w4 x4 s4 HF.out fit_small)
    rw [HOK.out] at HC
    refine HC.out.mono ?_
    obtain ⟨bs, hbs⟩ : ∃ bs, besL xss smallG = bs := ⟨_, rfl⟩
    have HBS := Lib.hid hbs
    rw [hbs] at HBF ⊢
    clear hbs HC
    rintro e w5 ⟨b5, d5, ⟨rfl, hB5⟩, hO5⟩
    have b5 := hO5.mat
    have hlb := HBF.out.1
    clear hO5
    have hz5 := hB5.size
    have x5 := (x4.below hB5).more hz5
    have y5 := (y4.below hB5).more hz5
    have s5 := (s4.below hB5).more hz5
    have HB5 := Lib.hid (HB4.out.trans (hB5.mono HB4.out.size))
    clear hB5 hz5 x4 y4 s4
    go_wp2_with fail
    refine (specFew _ _ _ _ _ _ _ _ b5 y5 HBF.out HF'.out).mono ?_
    rintro e wq ⟨rfl, rfl⟩
    by_cases hg1 : fewI bs yss = true
    · rw [hg1]
      have HP : Hid (countI bs yss = z * u) := Lib.hid (by rw [← HBS.out, countI_bes HOK.out (by rw [HBS.out]; exact hg1) HW.out (small_few HGY.out hy4), HZ.out, HUS.out])
      clear hg1
      go_wp2_with fail
      refine (implCount _ _ _ _ _ _ _ b5 y5 HBF.out HF'.out).mono ?_
      rw [HP.out]
      rintro e w6 ⟨rfl, hB6⟩
      have hz6 := hB6.size
      have x6 := (x5.below hB6).more hz6
      have y6 := (y5.below hB6).more hz6
      have s6 := (s5.below hB6).more hz6
      have b6 := (b5.below hB6).more hz6
      have HB6 := Lib.hid (HB5.out.trans (hB6.mono HB5.out.size))
      clear hB6 hz6 x5 y5 s5 b5
      clear b6
      have HN := Lib.hid (implCount (some ⟨w3.heap.size + 1 + 1, 0, none⟩) 2 a1' c1' smallG yss w6 s6 y6 fit_small HF'.out)
      rw [HUS.out] at HN
      go_wp2_with fail
      refine (HN.out).mono ?_
      rintro e w7 ⟨rfl, hB7⟩
      have hz7 := hB7.size
      have x7 := (x6.below hB7).more hz7
      have y7 := (y6.below hB7).more hz7
      have s7 := (s6.below hB7).more hz7
      have HB7 := Lib.hid (HB6.out.trans (hB7.mono HB6.out.size))
      clear hB7 hz7 x6 y6 s6
      clear HN
      have HN := Lib.hid (countNode w7 a1' c1' yss HGY.out y7 HF'.out)
      go_wp2_with fail
      refine HN.out.mono ?_
      rintro e w8 ⟨rfl, hB8⟩
      have hbb := (below_lit w7 (.cells #[.int .i64 0] 3) (.cells #[.slice (some ⟨w7.heap.size, 0, none⟩) 1 1] 29)).trans (hB8.mono (below_lit w7 _ _).size)
      have HB8 := Lib.hid (HB7.out.trans (hbb.mono HB7.out.size))
      have x8 := (x7.below hbb).more hbb.size
      have y8 := (y7.below hbb).more hbb.size
      have s8 := (s7.below hbb).more hbb.size
      clear hbb hB8 HN x7 y7 s7
      have HN := Lib.hid (implCount (some ⟨w3.heap.size + 1 + 1, 0, none⟩) 2 a1' c1' smallG yss w8 s8 y8 fit_small HF'.out)
      rw [HUS.out] at HN
      go_wp2_with fail
      refine (HN.out).mono ?_
      rintro e w9 ⟨rfl, hB9⟩
      have hz9 := hB9.size
      have x9 := (x8.below hB9).more hz9
      have y9 := (y8.below hB9).more hz9
      have s9 := (s8.below hB9).more hz9
      have HB9 := Lib.hid (HB8.out.trans (hB9.mono HB8.out.size))
      clear hB9 hz9 x8 y8 s8
      clear HN
      go_wp2_with fail
      refine (implArrows _ _ _ _ y9 HF'.out).mono ?_
      rw [HU.out]
      rintro e w10 ⟨rfl, hB10⟩
      have hz10 := hB10.size
      have x10 := (x9.below hB10).more hz10
      have y10 := (y9.below hB10).more hz10
      have s10 := (s9.below hB10).more hz10
      have HB10 := Lib.hid (HB9.out.trans (hB10.mono HB9.out.size))
      clear hB10 hz10 x9 y9 s9
      clear y10 s10
      have HN := Lib.hid (countLoop w10 a1 c1 xss HGX.out x10 HF.out)
      clear x10
      go_wp2_with fail
      refine HN.out.mono ?_
      rintro e w11 ⟨rfl, hB11⟩
      have HB11 := Lib.hid (HB10.out.trans (((below_lit w10 _ _).trans (hB11.mono (below_lit w10 _ _).size)).mono HB10.out.size))
      clear hB11 HN
      go_wp2_with fail
      go_ret
      exact ⟨rfl, HB11.out⟩
    · have hn1 : fewI bs yss = false := by simpa using hg1
      rw [hn1]
      clear hg1 hn1
      clear b5
      have HN := Lib.hid (countNode w5 a1' c1' yss HGY.out y5 HF'.out)
      go_wp2_with fail
      refine HN.out.mono ?_
      rintro e w6 ⟨rfl, hB6⟩
      have hbb := (below_lit w5 (.cells #[.int .i64 0] 3) (.cells #[.slice (some ⟨w5.heap.size, 0, none⟩) 1 1] 29)).trans (hB6.mono (below_lit w5 _ _).size)
      have HB6 := Lib.hid (HB5.out.trans (hbb.mono HB5.out.size))
      have x6 := (x5.below hbb).more hbb.size
      have y6 := (y5.below hbb).more hbb.size
      have s6 := (s5.below hbb).more hbb.size
      clear hbb hB6 HN x5 y5 s5
      have HN := Lib.hid (implCount (some ⟨w3.heap.size + 1 + 1, 0, none⟩) 2 a1' c1' smallG yss w6 s6 y6 fit_small HF'.out)
      rw [HUS.out] at HN
      go_wp2_with fail
      refine (HN.out).mono ?_
      rintro e w7 ⟨rfl, hB7⟩
      have hz7 := hB7.size
      have x7 := (x6.below hB7).more hz7
      have y7 := (y6.below hB7).more hz7
      have s7 := (s6.below hB7).more hz7
      have HB7 := Lib.hid (HB6.out.trans (hB7.mono HB6.out.size))
      clear hB7 hz7 x6 y6 s6
      clear HN
      go_wp2_with fail
      refine (implArrows _ _ _ _ y7 HF'.out).mono ?_
      rw [HU.out]
      rintro e w8 ⟨rfl, hB8⟩
      have hz8 := hB8.size
      have x8 := (x7.below hB8).more hz8
      have y8 := (y7.below hB8).more hz8
      have s8 := (s7.below hB8).more hz8
      have HB8 := Lib.hid (HB7.out.trans (hB8.mono HB7.out.size))
      clear hB8 hz8 x7 y7 s7
      clear y8 s8
      have HN := Lib.hid (countLoop w8 a1 c1 xss HGX.out x8 HF.out)
      clear x8
      go_wp2_with fail
      refine HN.out.mono ?_
      rintro e w9 ⟨rfl, hB9⟩
      have HB9 := Lib.hid (HB8.out.trans (((below_lit w8 _ _).trans (hB9.mono (below_lit w8 _ _).size)).mono HB8.out.size))
      clear hB9 HN
      go_wp2_with fail
      go_ret
      exact ⟨rfl, HB9.out⟩
  · have hn : fewI xss yss = false := by simpa using hg
    obtain rfl : z = -1 := HZ.out.symm.trans (countI_no hn)
    clear hg hzz hz7
    clear x3 y3
    go_wp2_with fail
    refine (alive_any _).mono ?_
    rintro e w4 ⟨rfl, hB4⟩
    have hz4 := hB4.size
    have HB4 := Lib.hid (HB3.out.trans (hB4.mono HB3.out.size))
    clear hB4 hz4 
    go_wp2_with fail
    go_ret
    exact ⟨rfl, HB4.out⟩

end Go.Proofs.Ytimjijbjadkfnaa
