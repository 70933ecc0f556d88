/-
  The walk of the law of P66 (FewOk).
-/
import Derived.Test.YtimjijbjadkfnaaK1
import Derived.Test.YtimjijbjadkfnaaZM
namespace Go.Proofs.Ytimjijbjadkfnaa
open Go.RowKit Go.Shelf

set_option maxHeartbeats 400000 in
theorem drawFewOk_any (a : Option Addr) (n c : Nat) (w : World) (hn : n ≤ 1048576) (hc : n ≤ c) (hy : Bytes w.heap.size w a n) :
    Calls Try.prog 9 #[.slice a n c] w (DrawnMM w) := by
  go_enter Try.func9, Try.ntmps9
  go_wp2_with fail
  refine (open_any a n c w hn hc hy).mono ?_
  rintro e w1 ⟨rfl, hR, hB⟩
  have hz1 := hB.size
  go_wp2_with fail
  refine (graph_any w.heap.size w.heap.size 0 9 9 w1 hR (by omega) (by omega) (by omega) (by omega) (by omega)).mono ?_
  rintro e w2 ⟨a2, c2, xss, rfl, hF, hM, hR2, hg2⟩
  have hb2 : ∃ cs t fr, w2.heap[w.heap.size]? = some (.cells cs t fr) := by obtain ⟨_, _, _, _, hb, _⟩ := hR2; exact ⟨_, _, _, hb⟩
  have hB2 := hB.grown hg2 hz1 (fun k e => by cases e; exact Nat.le_refl _)
  have HF := Lib.hid hF
  have HM := Lib.hid hM
  clear hF hM hg2 hB hR hy hz1
  go_wp2_with fail
  refine (graph_any w.heap.size w.heap.size 200 9 9 w2 hR2 (by omega) (by omega) (by omega) (by omega) (by omega)).mono ?_
  rintro e w3 ⟨a3, c3, yss, rfl, hF3, hM3, hR3, hg3⟩
  have hB3 := hB2.grown hg3 hB2.size (fun k e => by cases e; exact Nat.le_refl _)
  obtain ⟨cs, t, fr, hb2⟩ := hb2
  have hX : Mat w3.heap.size w3 a2 xss := (HM.out.sub (erased_sub hb2 fun k hk hne => hg3.block k hk (fun e => hne (Option.some.inj e)))).more hg3.size
  have hY : Mat w3.heap.size w3 a3 yss := by obtain ⟨_, _, _, _, hb, _⟩ := hR3; exact hM3.sub (erased_sub hb fun _ _ _ => rfl)
  have HX := Lib.hid hX
  have HY := Lib.hid hY
  have HB := Lib.hid hB3
  have HF3 := Lib.hid hF3
  clear hX hY hB3 hF3 hM3 hR3 hg3 hB2 hR2 HM hb2
  go_wp2_with fail
  go_ret2
  exact ⟨a2, c2, xss, a3, c3, yss, rfl, ⟨HF.out, HX.out⟩, ⟨HF3.out, HY.out⟩, HB.out⟩

theorem few_small {G H : List (List Int)} (h : gOk G = true) (h' : gOk H = true) (h4 : G.length ≤ 4) (h4' : H.length ≤ 4) : fewI G H = true :=
  fewI_iff.2 ⟨h, h', Nat.le_trans (Nat.pow_le_pow_left h4' _) (Nat.le_trans (Nat.pow_le_pow_right (by decide) h4) (by decide))⟩
theorem few_lit {x : Int} {H : List (List Int)} (hx : x = 0 ∨ x = 1) (h' : gOk H = true) : fewI [[x]] H = true :=
  fewI_iff.2 ⟨gOk_lit hx, h', by have := (good_of h').2.1; simp; omega⟩
theorem fewLit (w : World) (x : Int) (hx : x = 0 ∨ x = 1) (a' : Option Addr) (c' : Nat) (H : List (List Int)) (h' : gOk H = true) (hM' : Mat w.heap.size w a' H) (hf' : Fit H) :
    Calls Try.prog 10 #[.slice (some ⟨w.heap.size + 1, 0, none⟩) 1 1, .slice a' H.length c'] ((w.alloc (.cells #[.int .i64 x] 3)).alloc (.cells #[.slice (some ⟨w.heap.size, 0, none⟩) 1 1] 29))
      (Ans (.bool true) ((w.alloc (.cells #[.int .i64 x] 3)).alloc (.cells #[.slice (some ⟨w.heap.size, 0, none⟩) 1 1] 29))) := by
  rw [← few_lit hx h']
  exact implFew (some ⟨w.heap.size + 1, 0, none⟩) 1 a' c' [[x]] H _ (mat_lit w x) ((hM'.below (below_lit w _ _)).more (below_lit w _ _).size) (fit_lit x) hf'

set_option maxRecDepth 100000 in
set_option maxHeartbeats 2000000 in
theorem fewOk_any (a : Option Addr) (n c : Nat) (w : World) (hc : n ≤ c) (hl : n ≤ 9223372036854775807) (hy : Bytes w.heap.size w a n) :
    Calls Try.prog 3 #[.slice a n c] w (Ans (.bool true) w) := by
  by_cases hbig : 1048576 < n
  · go_enter Try.func3, Try.ntmps3
    go_wp2_with fail
    go_ret
    exact ⟨rfl, Below.refl _ _⟩
  go_enter Try.func3, Try.ntmps3
  go_wp2_with fail
  refine (drawFewOk_any a n c w (by omega) hc hy).mono ?_
  rintro e w1 ⟨a1, c1, xss, a1', c1', yss, rfl, ⟨hF, hM⟩, ⟨hF', hM'⟩, hB⟩
  have HB := Lib.hid hB
  have HF := Lib.hid hF
  have HF' := Lib.hid hF'
  have hlx := hF.1
  have hly := hF'.1
  obtain ⟨z, HZ⟩ : ∃ z, Hid (fewI xss yss = z) := ⟨_, rfl⟩
  have hzz : (z != z) = false := by simp
  clear hB hF hF' hy
  go_wp2_with fail
  refine (implFew _ _ _ _ _ _ _ hM hM' HF.out HF'.out).mono ?_
  rw [HZ.out]
  rintro e w2 ⟨rfl, hB2⟩
  have hz2 := hB2.size
  have hM2 := (hM.below hB2).more hz2
  have hM2' := (hM'.below hB2).more hz2
  have HB2 := Lib.hid (HB.out.trans (hB2.mono HB.out.size))
  clear hM hM' hB2 hz2
  go_wp2_with fail
  refine (specFew _ _ _ _ _ _ _ _ hM2 hM2' HF.out HF'.out).mono ?_
  rw [HZ.out]
  rintro e wq ⟨rfl, rfl⟩
  go_wp2_with fail
  refine (specOk_any _ _ _ _ _ hM2 HF.out).mono ?_
  rintro e wq ⟨rfl, rfl⟩
  by_cases hg : gOk xss = true
  · rw [hg]
    go_wp2_with fail
    refine (specOk_any _ _ _ _ _ hM2' HF'.out).mono ?_
    rintro e wq ⟨rfl, rfl⟩
    by_cases hg' : gOk yss = true
    · rw [hg']
      have HL := Lib.hid (fewLit w2 0 (.inl rfl) a1' c1' yss hg' hM2' HF'.out)
      by_cases h4 : 4 < xss.length
      · clear hM2 hM2'
        go_wp2_with fail
        refine HL.out.mono ?_
        rintro e w3 ⟨rfl, hB3⟩
        have HB3 := Lib.hid (HB2.out.trans (((below_lit w2 _ _).trans (hB3.mono (below_lit w2 _ _).size)).mono HB2.out.size))
        clear hB3
        go_wp2_with fail
        go_ret
        exact ⟨rfl, HB3.out⟩
      · by_cases h4' : 4 < yss.length
        · clear hM2 hM2'
          go_wp2_with fail
          refine HL.out.mono ?_
          rintro e w3 ⟨rfl, hB3⟩
          have HB3 := Lib.hid (HB2.out.trans (((below_lit w2 _ _).trans (hB3.mono (below_lit w2 _ _).size)).mono HB2.out.size))
          clear hB3
          go_wp2_with fail
          go_ret
          exact ⟨rfl, HB3.out⟩
        · obtain rfl : z = true := HZ.out.symm.trans (few_small hg hg' (by omega) (by omega))
          clear hM2 hM2' hzz
          go_wp2_with fail
          refine HL.out.mono ?_
          rintro e w3 ⟨rfl, hB3⟩
          have HB3 := Lib.hid (HB2.out.trans (((below_lit w2 _ _).trans (hB3.mono (below_lit w2 _ _).size)).mono HB2.out.size))
          clear hB3
          go_wp2_with fail
          go_ret
          exact ⟨rfl, HB3.out⟩
    · have hn : gOk yss = false := by simpa using hg'
      obtain rfl : z = false := HZ.out.symm.trans (few_no2 hn)
      rw [hn]
      clear hg' hM2 hM2' hzz
      go_wp2_with fail
      refine (alive_any _).mono ?_
      rintro e w3 ⟨rfl, hB3⟩
      have HB3 := Lib.hid (HB2.out.trans (hB3.mono HB2.out.size))
      clear hB3
      go_wp2_with fail
      go_ret
      exact ⟨rfl, HB3.out⟩
  · have hn : gOk xss = false := by simpa using hg
    obtain rfl : z = false := HZ.out.symm.trans (few_no1 hn)
    rw [hn]
    clear hg hM2 hM2' hzz
    go_wp2_with fail
    refine (alive_any _).mono ?_
    rintro e w3 ⟨rfl, hB3⟩
    have HB3 := Lib.hid (HB2.out.trans (hB3.mono HB2.out.size))
    clear hB3
    go_wp2_with fail
    go_ret
    exact ⟨rfl, HB3.out⟩

end Go.Proofs.Ytimjijbjadkfnaa
