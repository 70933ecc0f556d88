/-
  The program's PowerOf.
-/
import Derived.Test.YtjcoilabmbmbkaaY4
import Derived.Test.YtjcoilabmbmbkaaZF
import Derived.Test.YtjcoilabmbmbkaaZJ
import Derived.Test.YtjcoilabmbmbkaaYA
namespace Go.Proofs.Ytjcoilabmbmbkaa
open Go.RowKit Go.Shelf Go.Deep

set_option maxRecDepth 100000 in
set_option maxHeartbeats 8000000 in
theorem pow1 (n₀ B : Nat) (a a' : Option Addr) (c c' : Nat) (H G : List (List Int)) (w : World) (hM : Mat n₀ w a H) (hM' : Mat n₀ w a' G) (hn : n₀ ≤ w.heap.size) (hP : PBox w B a H.length c a' G.length c') (hH : Good H) (hG : Good G) (i j : Nat) (hi : i ≤ 1000000) (hj : j ≤ 1000000) :
    Calls Try.prog 51 #[.int .i64 i, .int .i64 j, .pointer (some ⟨B, 0, none⟩)] w (Ans (.bool (powP H G i j)) w) := by
  obtain ⟨z, HZ⟩ : ∃ z, Hid (jnI G H (rowR H.length G.length i) (rowR H.length G.length j) = z) := ⟨_, rfl⟩
  rw [powP_jn, HZ.out]
  have hl9 := hG.2.1
  have hl9' := hH.2.1
  have hH1 := hH.1
  have HC1 := Lib.hid fun W => powRow a a' H.length c G.length c' i W hi hl9 hH1 hl9'
  have HC2 := Lib.hid fun W => powRow a a' H.length c G.length c' j W hj hl9 hH1 hl9'
  have HCJ := Lib.hid fun W (a3 a4 : Option Addr) (c3 c4 : Nat) (h1 : Mat W.heap.size W a H) (h2 : Mat W.heap.size W a' G) (h3 : Ints W.heap.size W a3 (rowR H.length G.length i)) (h4 : Ints W.heap.size W a4 (rowR H.length G.length j)) =>
    callsIn_wide.1 (powJoins_in W.heap.size a a' a3 a4 c c' c3 c4 H G _ _ W h1 h2 h3 h4 (Nat.le_refl _) hH hG (rowR_tells hH1 _ _) (rowR_tells hH1 _ _))
  have HRL := Lib.hid fun x => rowR_length H.length G.length x
  rw [HZ.out] at HCJ
  obtain ⟨r1, hr1⟩ : ∃ r, rowR H.length G.length i = r := ⟨_, rfl⟩
  obtain ⟨r2, hr2⟩ : ∃ r, rowR H.length G.length j = r := ⟨_, rfl⟩
  rw [hr1] at HCJ HC1
  rw [hr2] at HCJ HC2
  have HM := Lib.hid hM
  have HM' := Lib.hid hM'
  have hB00 := Below.refl w.heap.size w
  clear hr1 hr2 HZ hM hM' hH hG hi hj
  go_enter Try.func51, Try.ntmps51
  go_wp2_with fail
  refine wp_region_held_drew (S := fun W => PBox W B a H.length c a' G.length c') (by kernel_rfl) hP.drew (fun hS0 => ?_)
  change wpAnyH _ _ _ _ _ _ _ _ (World.drew _)
  have hB0 := hB00.drew
  obtain ⟨V, hV⟩ : ∃ V, World.drew w = V := ⟨_, rfl⟩
  rw [hV] at hS0 hB0 ⊢
  clear hV hB00 hP
  have hP0 := hS0
  have ltP0 := hP0.lt
  refine wpAnyH_take (i := 0) (v := ?_) rfl (by kernel_rfl) (by kernel_rfl) (by kernel_rfl) (fun _ _ _ h => h) (Or.inl ⟨by rfl, ?_⟩) hS0 ?_
  case refine_2 => rintro w s1; have c0 := s1.base; have c1 := s1.exponent; first | (go_simp; rfl) | go_simp
  simp only [Act.put, List.getElem_toArray, List.getElem_cons_zero, List.setIfInBounds_toArray, List.set_cons_zero, List.set_cons_succ]
  refine wpAnyH_take (i := 1) (v := ?_) rfl (by kernel_rfl) (by kernel_rfl) (by kernel_rfl) (fun _ _ _ h => h) (Or.inl ⟨by rfl, ?_⟩) hS0 ?_
  case refine_2 => rintro w s1; have c0 := s1.base; have c1 := s1.exponent; first | (go_simp; rfl) | go_simp
  simp only [Act.put, List.getElem_toArray, List.getElem_cons_succ, List.getElem_cons_zero, List.setIfInBounds_toArray, List.set_cons_zero, List.set_cons_succ]
  refine wpAnyH_take (i := 2) (v := ?_) rfl (by kernel_rfl) (by kernel_rfl) (by kernel_rfl) (fun _ _ _ h => h) (Or.inl ⟨by rfl, ?_⟩) hS0 ?_
  case refine_2 => rintro w s1; have c0 := s1.base; have c1 := s1.exponent; first | (go_simp; rfl) | go_simp
  simp only [Act.put, List.getElem_toArray, List.getElem_cons_succ, List.getElem_cons_zero, List.setIfInBounds_toArray, List.set_cons_zero, List.set_cons_succ]
  refine wpAnyH_take (i := 4) (v := ?_) rfl (by kernel_rfl) (by kernel_rfl) (by kernel_rfl) (fun _ _ _ h => h) (Or.inl ⟨by rfl, ?_⟩) hS0 ?_
  case refine_2 => rintro w s1; have c0 := s1.base; have c1 := s1.exponent; first | (go_simp; rfl) | go_simp
  simp only [Act.put, List.getElem_toArray, List.getElem_cons_succ, List.getElem_cons_zero, List.setIfInBounds_toArray, List.set_cons_zero, List.set_cons_succ]
  refine wpAnyH_take (i := 5) (v := ?_) rfl (by kernel_rfl) (by kernel_rfl) (by kernel_rfl) (fun _ _ _ h => h) (Or.inl ⟨by rfl, ?_⟩) hS0 ?_
  case refine_2 => rintro w s1; have c0 := s1.base; have c1 := s1.exponent; first | (go_simp; rfl) | go_simp
  simp only [Act.put, List.getElem_toArray, List.getElem_cons_succ, List.getElem_cons_zero, List.setIfInBounds_toArray, List.set_cons_zero, List.set_cons_succ]
  refine wpAnyH_ready (rs := [3]) (by kernel_rfl) (by simp) ?_
  refine AllReadyH.cons rfl (fun K hK => ?_) AllReadyH.nil
  go_simp
  refine (HC1.out _).mono ?_
  rintro e w1 ⟨b1, rfl, hD1, hR1, hb1⟩
  have hB1 := hB0.trans (hD1.mono hB0.size)
  have hP1 := hP0.below hD1 ltP0
  have ltP1 := hP1.lt
  have ltb1 := hR1.lt
  refine hK.out _ _ hP1 (fun hS1 => ?_)
  clear hK K
  refine wpAnyH_ready (rs := [6]) (by kernel_rfl) (by simp) ?_
  refine AllReadyH.cons rfl (fun K hK => ?_) AllReadyH.nil
  go_simp
  refine (HC2.out _).mono ?_
  rintro e w2 ⟨b2, rfl, hD2, hR2, hb2⟩
  have hB2 := hB1.trans (hD2.mono hB1.size)
  have hP2 := hP1.below hD2 ltP1
  have ltP2 := hP2.lt
  have ltb2 := hR2.lt
  have hR12 := hR1.below hD2 ltb1
  have ltb12 := hR12.lt
  refine hK.out _ _ hP2 (fun hS2 => ?_)
  clear hK K
  refine wpAnyH_ready (rs := [7]) (by kernel_rfl) (by simp) ?_
  refine AllReadyH.cons rfl (fun K hK => ?_) AllReadyH.nil
  go_simp
  refine (HCJ.out w2 (some ⟨b1, 0, none⟩) (some ⟨b2, 0, none⟩) _ _ ((HM.out.below (hB2.mono hn)).more (Nat.le_trans hn hB2.size)) ((HM'.out.below (hB2.mono hn)).more (Nat.le_trans hn hB2.size)) (hR12.ints ltb12) (hR2.ints ltb2)).mono ?_
  rintro e w3 ⟨rfl, hD3⟩
  have hB3 := hB2.trans (hD3.mono hB2.size)
  have hP3 := hP2.below hD3 ltP2
  refine hK.out _ _ hP3 (fun hS3 => ?_)
  clear hK K
  refine wpAnyH_take (i := 8) (v := ?_) rfl (by kernel_rfl) (by kernel_rfl) (by kernel_rfl) (fun _ _ _ h => h) (Or.inl ⟨by rfl, ?_⟩) hS3 ?_
  case refine_2 => rintro w s1; have c0 := s1.base; have c1 := s1.exponent; first | (go_simp; rfl) | go_simp
  simp only [Act.put, List.getElem_toArray, List.getElem_cons_succ, List.getElem_cons_zero, List.setIfInBounds_toArray, List.set_cons_zero, List.set_cons_succ]
  refine wpAnyH_done (by kernel_rfl) ?_ _
  go_wp2_with fail
  go_ret
  exact ⟨rfl, hB3⟩

set_option maxRecDepth 100000 in
set_option maxHeartbeats 4000000 in
theorem implPow (a a' : Option Addr) (c c' : Nat) (H G : List (List Int)) (w : World) (hM : Mat w.heap.size w a H) (hM' : Mat w.heap.size w a' G) (hf : Fit H) (hf' : Fit G) :
    Calls Try.prog 14 #[.slice a H.length c, .slice a' G.length c'] w (MadeB (powL H G) (powOk H G) w) := by
  have hPW := powWith a a' c c' H G w hM hM' hf hf'
  by_cases hok : powOk H G = true
  · rw [hok] at hPW
    rw [powL_yes hok, hok]
    obtain ⟨hH, hG, h9⟩ := powOk_of hok
    have HPW := Lib.hid hPW
    have HNo := Lib.hid fun W => powNodes a a' H.length c G.length c' W hH.2.1 hG.2.1
    obtain ⟨N, hN⟩ : ∃ N, H.length ^ G.length = N := ⟨_, rfl⟩
    rw [hN] at h9 HNo ⊢
    have HH := Lib.hid hH
    have HG := Lib.hid hG
    have HM := Lib.hid hM
    have HM' := Lib.hid hM'
    clear hPW hok hf hf' hM hM' hN hH hG
    go_enter Try.func14, Try.ntmps14
    go_wp2_with fail
    refine HPW.out.mono ?_
    rintro e w1 ⟨rfl, hB1⟩
    have hz1 := hB1.size
    have hP1 := PBox.new w1 a H.length c a' G.length c'
    have hB2 := hB1.alloc hz1 (.cells #[.slice a H.length c, .slice a' G.length c'] 58)
    have c0 := hP1.base
    have c1 := hP1.exponent
    clear hB1
    go_wp2_with fail
    obtain ⟨V, hV⟩ : ∃ V, w1.alloc (.cells #[.slice a H.length c, .slice a' G.length c'] 58) = V := ⟨_, rfl⟩
    rw [hV] at hP1 hB2 ⊢
    clear hV c0 c1
    obtain ⟨B, hBB⟩ : ∃ B, w1.heap.size = B := ⟨_, rfl⟩
    rw [hBB] at hP1 ⊢
    clear hBB hz1
    refine (HNo.out _).mono ?_
    rintro e w2 ⟨rfl, hD2⟩
    have hP2 := hP1.below hD2 hP1.lt
    have hB3 := hB2.trans (hD2.mono hB2.size)
    have hz3 := hB3.size
    have ltP := hP2.lt
    clear hP1 hD2 hB2
    have HR := Lib.hid (callsIn_wide.1 (rowsBy_in Fence.wide rfl (fun _ => trivial) rfl 51 #[.pointer (some ⟨B, 0, none⟩)] (powP H G) N h9 w2 (enters_of Try.func51 (by kernel_rfl) rfl)
      (fun W' i j hb hi hj => by
        exact callsIn_wide.2 (pow1 w.heap.size B a a' c c' H G W' (HM.out.below (hB3.trans (hb.mono hz3))) (HM'.out.below (hB3.trans (hb.mono hz3))) (Nat.le_trans hz3 hb.size) (hP2.below hb ltP) HH.out HG.out i j (by omega) (by omega)))))
    have HB := Lib.hid hB3
    clear hB3 hP2
    go_wp2_with fail
    refine HR.out.mono ?_
    rintro e w3 ⟨rfl, hB4, hO⟩
    have hBZ := HB.out.trans (hB4.mono hz3)
    have HO := Lib.hid hO
    clear hB4 hO
    go_wp2
    go_ret2
    exact ⟨_, _, ⟨by rw [rowsP_length]; rfl, hBZ⟩, .inr ⟨w2.heap.size + 1, fun i => w2.heap.size + 3 + i, rfl, (rowsP_length _ _).symm, HO.out, by omega, fun i hi => by show w.heap.size ≤ w2.heap.size + 3 + i; omega, fun i j h => by have h' : w2.heap.size + 3 + i = w2.heap.size + 3 + j := h; omega⟩⟩
  · have hn : powOk H G = false := by simpa using hok
    rw [hn] at hPW
    rw [powL_no hn, hn]
    have HPW := Lib.hid hPW
    clear hPW hok hn hM hM' hf hf'
    go_enter Try.func14, Try.ntmps14
    go_wp2_with fail
    refine HPW.out.mono ?_
    rintro e w1 ⟨rfl, hB1⟩
    have hz1 := hB1.size
    have HB2 := Lib.hid (hB1.alloc hz1 (.cells #[.slice a H.length c, .slice a' G.length c'] 58))
    clear hB1
    go_wp2_with fail
    go_ret2
    exact ⟨none, 0, ⟨rfl, HB2.out⟩, .inl ⟨rfl, rfl, rfl⟩⟩

set_option maxRecDepth 100000 in
set_option maxHeartbeats 4000000 in
theorem implRowAt (a a' : Option Addr) (c c' : Nat) (H G : List (List Int)) (x : Int) (w : World) (hM : Mat w.heap.size w a H) (hM' : Mat w.heap.size w a' G) (hf : Fit H) (hf' : Fit G) :
    Calls Try.prog 19 #[.slice a H.length c, .slice a' G.length c', .int .i64 x] w (MadeI (rowAtI H G x) w) := by
  have hPW := powWith a a' c c' H G w hM hM' hf hf'
  by_cases hok : powOk H G = true
  · rw [hok] at hPW
    obtain ⟨hH, hG, h9⟩ := powOk_of hok
    have HPW := Lib.hid hPW
    have HNo := Lib.hid fun W => powNodes a a' H.length c G.length c' W hH.2.1 hG.2.1
    obtain ⟨N, hN⟩ : ∃ N, H.length ^ G.length = N := ⟨_, rfl⟩
    rw [hN] at HNo h9
    by_cases h0 : 0 ≤ x
    · by_cases h1 : x < (N : Int)
      · rw [rowAt_yes hok h0 (by rw [hN]; exact h1)]
        obtain ⟨n, rfl⟩ : ∃ n : Nat, x = n := ⟨x.toNat, by omega⟩
        rw [Int.toNat_natCast]
        have HRo := Lib.hid fun W => powRow a a' H.length c G.length c' n W (by omega) hG.2.1 hH.1 hH.2.1
        have HL := Lib.hid (rowR_length H.length G.length n)
        obtain ⟨zs, hzs⟩ : ∃ zs, rowR H.length G.length n = zs := ⟨_, rfl⟩
        rw [hzs] at HRo HL ⊢
        clear hPW hok hf hf' hM hM' hN hH hG hzs h9
        go_enter Try.func19, Try.ntmps19
        go_wp2_with fail
        refine HPW.out.mono ?_
        rintro e w1 ⟨rfl, hB1⟩
        have hz1 := hB1.size
        have hP1 := PBox.new w1 a H.length c a' G.length c'
        have hB2 := hB1.alloc hz1 (.cells #[.slice a H.length c, .slice a' G.length c'] 58)
        have c0 := hP1.base
        have c1 := hP1.exponent
        clear hB1
        go_wp2_with fail
        refine (HNo.out _).mono ?_
        rintro e w2 ⟨rfl, hD2⟩
        have hP2 := hP1.below hD2 hP1.lt
        have hB3 := hB2.trans (hD2.mono hB2.size)
        have c2 := hP2.base
        have c3 := hP2.exponent
        clear hD2 hB2 hP1 c0 c1
        go_wp2_with fail
        refine (HRo.out _).mono ?_
        rintro e w3 ⟨b, rfl, hD3, hR, hb⟩
        have HB := Lib.hid (hB3.trans (hD3.mono hB3.size))
        have HR := Lib.hid hR
        have hz3 := hB3.size
        clear hD3 hB3 hR
        go_wp2_with fail
        go_ret
        exact ⟨some ⟨b, 0, none⟩, G.length, ⟨by rw [HL.out]; rfl, HB.out⟩, .inr ⟨b, rfl, HL.out.symm, HR.out, by omega⟩⟩
      · rw [rowAt_no fun h => by have h2 := h.2.2; rw [hN] at h2; exact h1 h2]
        clear hPW hok hf hf' hM hM' hN hH hG h9
        go_enter Try.func19, Try.ntmps19
        go_wp2_with fail
        refine HPW.out.mono ?_
        rintro e w1 ⟨rfl, hB1⟩
        have hz1 := hB1.size
        have hP1 := PBox.new w1 a H.length c a' G.length c'
        have hB2 := hB1.alloc hz1 (.cells #[.slice a H.length c, .slice a' G.length c'] 58)
        have c0 := hP1.base
        have c1 := hP1.exponent
        clear hB1
        go_wp2_with fail
        refine (HNo.out _).mono ?_
        rintro e w2 ⟨rfl, hD2⟩
        have HB := Lib.hid (hB2.trans (hD2.mono hB2.size))
        clear hD2 hB2 hP1 c0 c1
        go_wp2_with fail
        go_ret
        exact ⟨none, 0, ⟨rfl, HB.out⟩, .inl ⟨rfl, rfl, rfl⟩⟩
    · rw [rowAt_no fun h => h0 h.2.1]
      clear hPW hok hf hf' hM hM' hN hH hG h9
      go_enter Try.func19, Try.ntmps19
      go_wp2_with fail
      refine HPW.out.mono ?_
      rintro e w1 ⟨rfl, hB1⟩
      have HB2 := Lib.hid (hB1.alloc hB1.size (.cells #[.slice a H.length c, .slice a' G.length c'] 58))
      clear hB1
      go_wp2_with fail
      go_ret
      exact ⟨none, 0, ⟨rfl, HB2.out⟩, .inl ⟨rfl, rfl, rfl⟩⟩
  · have hn : powOk H G = false := by simpa using hok
    rw [hn] at hPW
    rw [rowAt_no fun h => hok h.1]
    have HPW := Lib.hid hPW
    clear hPW hok hn hM hM' hf hf'
    go_enter Try.func19, Try.ntmps19
    go_wp2_with fail
    refine HPW.out.mono ?_
    rintro e w1 ⟨rfl, hB1⟩
    have HB2 := Lib.hid (hB1.alloc hB1.size (.cells #[.slice a H.length c, .slice a' G.length c'] 58))
    clear hB1
    go_wp2_with fail
    go_ret
    exact ⟨none, 0, ⟨rfl, HB2.out⟩, .inl ⟨rfl, rfl, rfl⟩⟩

set_option maxRecDepth 100000 in
set_option maxHeartbeats 4000000 in
theorem implNumAt (a a' a3 : Option Addr) (c c' c3 : Nat) (H G : List (List Int)) (r : List Int) (w : World) (hM : Mat w.heap.size w a H) (hM' : Mat w.heap.size w a' G) (hI : Ints w.heap.size w a3 r) (hf : Fit H) (hf' : Fit G) (hl : r.length ≤ 1048576) :
    Calls Try.prog 27 #[.slice a H.length c, .slice a' G.length c', .slice a3 r.length c3] w (Ans (.int .i64 (numAtI H G r)) w) := by
  have hPW := powWith a a' c c' H G w hM hM' hf hf'
  by_cases hok : powOk H G = true
  · rw [hok] at hPW
    have HPW := Lib.hid hPW
    have HOK := Lib.hid hok
    obtain ⟨hH, hG, _⟩ := powOk_of hok
    have hT := Lib.hid fun W (h : Ints W.heap.size W a3 r) => tellsP a' a a3 G.length H.length c' c c3 W.heap.size r W h (Nat.le_refl _) hl
    obtain ⟨t, ht⟩ : ∃ t, tellsI G.length H.length r = t := ⟨_, rfl⟩
    rw [ht] at hT
    have HNu : Hid (t = true → ∀ W, Ints W.heap.size W a3 r → Calls Try.prog 63 #[.agg #[.slice a H.length c, .slice a' G.length c'], .slice a3 r.length c3] W (Ans (.int .i64 (numR H.length r)) W)) := Lib.hid fun h W hW => by
      have hh := (tells_iff _ _ _).1 (ht.trans h)
      rw [hh.1]
      exact powNumber a a' a3 H.length c G.length c' c3 W.heap.size r W hW (Nat.le_refl _) hh hG.2.1 hH.2.1
    obtain ⟨z, hz⟩ : ∃ z, numAtI H G r = z := ⟨_, rfl⟩
    have HZ : Hid ((t = true → z = (numR H.length r : Int)) ∧ (t = false → z = -1)) := Lib.hid ⟨fun h => by rw [← hz]; exact numAt_yes hok (ht.trans h), fun h => by rw [← hz]; exact numAt_no fun hh => by rw [ht, h] at hh; cases hh.2⟩
    rw [hz]
    clear hPW hok hf hf' hM hM' hH hG hz ht
    go_enter Try.func27, Try.ntmps27
    go_wp2_with fail
    refine HPW.out.mono ?_
    rintro e w1 ⟨rfl, hB1⟩
    have hz1 := hB1.size
    have hP1 := PBox.new w1 a H.length c a' G.length c'
    have hB2 := hB1.alloc hz1 (.cells #[.slice a H.length c, .slice a' G.length c'] 58)
    have c0 := hP1.base
    have c1 := hP1.exponent
    have hI2 := (hI.below hB2).more hB2.size
    clear hB1
    go_wp2_with fail
    refine (hT.out _ hI2).mono ?_
    rintro e w2 ⟨rfl, hD2⟩
    have hP2 := hP1.below hD2 hP1.lt
    have hB3 := hB2.trans (hD2.mono hB2.size)
    have hI3 := (hI.below hB3).more hB3.size
    have c2 := hP2.base
    have c3 := hP2.exponent
    clear hD2 hB2 hP1 c0 c1 hI2
    cases t with
    | true =>
      have HZ1 := Lib.hid (HZ.out.1 rfl)
      go_wp2_with fail
      refine (HNu.out (by trivial) _ hI3).mono ?_
      rintro e w3 ⟨rfl, hD3⟩
      have HB := Lib.hid (hB3.trans (hD3.mono hB3.size))
      clear hD3 hB3
      go_wp2_with fail
      go_ret
      exact ⟨by rw [HZ1.out]; rfl, HB.out⟩
    | false =>
      have HZ1 := Lib.hid (HZ.out.2 rfl)
      have HB := Lib.hid hB3
      clear hB3
      go_wp2_with fail
      go_ret
      exact ⟨by rw [HZ1.out]; rfl, HB.out⟩
  · have hn : powOk H G = false := by simpa using hok
    rw [hn] at hPW
    rw [numAt_no fun h => hok h.1]
    have HPW := Lib.hid hPW
    clear hPW hok hn hM hM' hf hf'
    go_enter Try.func27, Try.ntmps27
    go_wp2_with fail
    refine HPW.out.mono ?_
    rintro e w1 ⟨rfl, hB1⟩
    have HB2 := Lib.hid (hB1.alloc hB1.size (.cells #[.slice a H.length c, .slice a' G.length c'] 58))
    clear hB1
    go_wp2_with fail
    go_ret
    exact ⟨rfl, HB2.out⟩

end Go.Proofs.Ytjcoilabmbmbkaa
