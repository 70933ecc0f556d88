/-
  The walk of the law of P36 (RingOf).
-/
import Derived.Test.YtkkifphpogfjfaaWC
import Derived.Test.YtkkifphpogfjfaaWB
import Derived.Test.YtkkifphpogfjfaaZA
import Derived.Test.YtkkifphpogfjfaaZE
import Derived.Test.YtkkifphpogfjfaaM7
import Derived.Test.YtkkifphpogfjfaaWQ
import Derived.Test.YtkkifphpogfjfaaG1
import Derived.Deep.RegionHeld3
namespace Go.Proofs.Ytkkifphpogfjfaa
open Go.RowKit Go.Shelf

set_option maxRecDepth 100000 in
set_option maxHeartbeats 8000000 in
theorem ringOf_any (a : Option Addr) (n c : Nat) (w : World) (hc : n ≤ c) (hl : n ≤ 9223372036854775807) (hy : Bytes w.heap.size w a n) :
    Calls Try.prog 5 #[.slice a n c] w (Ans (.bool true) w) := by
  by_cases hbign : 1048576 < n
  · go_enter Try.func5, Try.ntmps5
    go_wp2_with fail
    go_ret
    exact ⟨rfl, Below.refl _ _⟩
  go_enter Try.func5, Try.ntmps5
  go_wp2_with fail
  refine (drawRingOf_any a n c w (by omega) hc hy).mono ?_
  rintro e w1 ⟨z, rfl, ⟨z0, z1⟩, hB⟩
  have HB1 := Lib.hid hB
  obtain ⟨P, HP, HPF⟩ : ∃ P, Hid (rinI z = P) ∧ Hid (Fit P) := ⟨_, rfl, rinI_fits⟩
  have hPl := HPF.out.1
  clear hB hy
  go_wp2_with fail
  refine (implRin z _).mono ?_
  rw [HP.out]
  rintro e w2 ⟨b2, c2, ⟨rfl, hB2⟩, hO2⟩
  have x2 := hO2.mat.mat
  clear hO2
  have hz2 := hB2.size
  have HB2 := Lib.hid (HB1.out.trans (hB2.mono HB1.out.size))
  clear hB2 hz2 
  go_wp2_with fail
  refine (specRinR z _).mono ?_
  rw [HP.out]
  rintro e w3 ⟨b3, c3, ⟨rfl, hB3⟩, t3⟩
  have hz3 := hB3.size
  have x3 := (x2.below hB3).more hz3
  have HB3 := Lib.hid (HB2.out.trans (hB3.mono HB2.out.size))
  clear hB3 hz3 x2
  go_wp2_with fail
  refine (sameSS_same _ _ _ _ _ _ _ x3 t3 HPF.out).mono ?_
  rintro e w4 h4
  obtain ⟨rfl, hB4⟩ := h4.below
  clear h4
  have hz4 := hB4.size
  have x4 := (x3.below hB4).more hz4
  have t4 := (t3.below hB4).more hz4
  have HB4 := Lib.hid (HB3.out.trans (hB4.mono HB3.out.size))
  clear hB4 hz4 x3 t3
  clear t4
  by_cases hz : 1 ≤ z ∧ z ≤ 9
  · obtain ⟨n, rfl⟩ : ∃ n : Nat, z = (n : Int) := ⟨z.toNat, by omega⟩
    have hn1 : 1 ≤ n := by omega
    have hn9 : n ≤ 9 := by omega
    have hP : P = rinL n := HP.out.symm.trans (rinI_yes hn1 hn9)
    have HGK : Hid (gOk P = true) := Lib.hid (by rw [hP]; exact gOk_true (rin_good hn1 hn9))
    have HAR : Hid (arrowsI P = (n : Int)) := Lib.hid (by
      have h := rin_arrows (n - 1) (by omega)
      rw [show n - 1 + 1 = n by omega] at h
      rw [hP, h])
    have hlp : ((P.length : Int) == 0) = false := by rw [hP, rin_len]; simp; omega
    have HDV : Hid (n ≤ 5 → ∀ k, 1 ≤ k → k ≤ 5 → belowI P (rinL k) = decide (n % k = 0)) := Lib.hid fun h5 k h1 h2 => by rw [hP]; exact rings_divide hn1 h5 h1 h2
    clear hP hz
    go_wp2_with fail
    go_loopw [5] (fun i wr => ∃ k : Nat, k ≤ 5 ∧ i = .int .i64 ((k : Int) + 1) ∧ Below w4.heap.size w4 wr) (fun i _ => 6 - (intOf i).toNat)
    case atStart => exact ⟨0, Nat.zero_le _, rfl, Below.refl _ _⟩
    case round =>
      obtain ⟨k, hk, rfl, hB⟩ := hrel
      by_cases hlt : k < 5
      · by_cases hn5 : n ≤ 5
        · have hki : (k : Int) + 1 ≤ 5 := by omega
          have hni : (n : Int) ≤ 5 := by omega
          have HR1 : Hid (rinI ((k : Int) + 1) = rinL (k + 1)) := Lib.hid (by
            have h := rinI_yes (n := k + 1) (by omega) (by omega)
            rwa [show ((k + 1 : Nat) : Int) = (k : Int) + 1 by omega] at h)
          have HF1 : Hid (Fit (rinL (k + 1))) := Lib.hid (rin_good (by omega) (by omega)).fit
          have hdv := HDV.out hn5 (k + 1) (by omega) (by omega)
          obtain ⟨Q, HQ⟩ : ∃ Q, Hid (rinL (k + 1) = Q) := ⟨_, rfl⟩
          rw [HQ.out] at HR1 HF1 hdv
          obtain ⟨t, ht⟩ : ∃ t : Nat, t = n % (k + 1) := ⟨_, rfl⟩
          have hmd : Int.tmod (n : Int) ((k : Int) + 1) = (t : Int) := by rw [ht]; exact rem_lv n (k + 1)
          have hd0 : ¬ (k : Int) + 1 = 0 := by omega
          have htn : t ≤ 5 := by have := Nat.mod_le n (k + 1); omega
          rw [← ht] at hdv
          have HC1 : Hid (∀ W, Below w4.heap.size w4 W → Calls Try.prog 31 #[.int .i64 ((k : Int) + 1)] W (MadeS Q W)) := Lib.hid fun W hW => by
            have h := implRin ((k : Int) + 1) W
            rw [HR1.out] at h; exact h
          by_cases h0 : t = 0
          · have hb : belowI P Q = true := by rw [hdv]; exact decide_eq_true h0
            have ht0 : ((t : Int) == 0) = true := by simp [h0]
            have HC2 : Hid (∀ W aR cR, Below w4.heap.size w4 W → Mat W.heap.size W aR Q → Calls Try.prog 29 #[.slice b2 P.length c2, .slice aR Q.length cR] W (Ans (.bool true) W)) := Lib.hid fun W aR cR hW hI => by
              have h := implBelow b2 c2 aR cR P Q W ((x4.below hW).more hW.size) hI HPF.out HF1.out
              rw [hb] at h; exact h
            clear hb hdv ht h0 HQ
            go_wp2_with fail
            refine wp_region_held_drew (S := fun W => Below w4.heap.size w4 W) (by kernel_rfl) hB.drew (fun hS0 => ?_)
            change wpAnyH _ _ _ _ _ _ _ _ (World.drew _)
            obtain ⟨V, hV⟩ : ∃ V, World.drew wr = V := ⟨_, rfl⟩
            rw [hV] at hS0 ⊢
            clear hV hB
            have hz0 := hS0.size
            refine wpAnyH_take (i := 0) (v := ?_) rfl (by kernel_rfl) (by kernel_rfl) (by kernel_rfl) (fun _ _ _ h => h) (Or.inl ⟨by rfl, ?_⟩) hS0 ?_
            case refine_2 => rintro w s1; first | (go_simp; rfl) | go_simp
            simp only [Act.put, List.getElem_toArray, List.getElem_cons_zero, List.setIfInBounds_toArray, List.set_cons_zero, List.set_cons_succ]
            refine wpAnyH_take (i := 1) (v := ?_) rfl (by kernel_rfl) (by kernel_rfl) (by kernel_rfl) (fun _ _ _ h => h) (Or.inl ⟨by rfl, ?_⟩) hS0 ?_
            case refine_2 => rintro w s1; first | (go_simp; rfl) | go_simp
            simp only [Act.put, List.getElem_toArray, List.getElem_cons_succ, List.getElem_cons_zero, List.setIfInBounds_toArray, List.set_cons_zero, List.set_cons_succ]
            refine wpAnyH_take (i := 4) (v := ?_) rfl (by kernel_rfl) (by kernel_rfl) (by kernel_rfl) (fun _ _ _ h => h) (Or.inl ⟨by rfl, ?_⟩) hS0 ?_
            case refine_2 => rintro w s1; first | (go_simp; rfl) | go_simp
            simp only [Act.put, List.getElem_toArray, List.getElem_cons_succ, List.getElem_cons_zero, List.setIfInBounds_toArray, List.set_cons_zero, List.set_cons_succ]
            refine wpAnyH_take (i := 5) (v := ?_) rfl (by kernel_rfl) (by kernel_rfl) (by kernel_rfl) (fun _ _ _ h => h) (Or.inl ⟨by rfl, ?_⟩) hS0 ?_
            case refine_2 => rintro w s1; first | (go_simp; rfl) | go_simp
            simp only [Act.put, List.getElem_toArray, List.getElem_cons_succ, List.getElem_cons_zero, List.setIfInBounds_toArray, List.set_cons_zero, List.set_cons_succ]
            refine wpAnyH_take (i := 6) (v := ?_) rfl (by kernel_rfl) (by kernel_rfl) (by kernel_rfl) (fun _ _ _ h => h) (Or.inl ⟨by rfl, ?_⟩) hS0 ?_
            case refine_2 => rintro w s1; first | (go_simp; rfl) | go_simp
            simp only [Act.put, List.getElem_toArray, List.getElem_cons_succ, List.getElem_cons_zero, List.setIfInBounds_toArray, List.set_cons_zero, List.set_cons_succ]
            refine wpAnyH_take (i := 7) (v := ?_) rfl (by kernel_rfl) (by kernel_rfl) (by kernel_rfl) (fun _ _ _ h => h) (Or.inl ⟨by rfl, ?_⟩) hS0 ?_
            case refine_2 => rintro w s1; first | (go_simp; rfl) | go_simp
            simp only [Act.put, List.getElem_toArray, List.getElem_cons_succ, List.getElem_cons_zero, List.setIfInBounds_toArray, List.set_cons_zero, List.set_cons_succ]
            refine wpAnyH_ready (rs := [2]) (by kernel_rfl) (by simp) ?_
            refine AllReadyH.cons rfl (fun K hK => ?_) AllReadyH.nil
            go_simp
            refine (HC1.out V hS0).mono ?_
            rintro e w5 ⟨b5, c5, ⟨rfl, hD⟩, hO⟩
            have hI5 := hO.mat.mat
            have hS1 : Below w4.heap.size w4 w5 := hS0.trans (hD.mono hz0)
            have hz5 := hS1.size
            refine hK.out _ _ hS1 (fun _ => ?_)
            clear hD hO hS0
            clear hK K
            refine wpAnyH_ready (rs := [3]) (by kernel_rfl) (by simp) ?_
            refine AllReadyH.cons rfl (fun K hK => ?_) AllReadyH.nil
            go_simp
            refine (HC2.out w5 b5 c5 hS1 hI5).mono ?_
            rintro e w6 ⟨rfl, hD⟩
            have hS2 : Below w4.heap.size w4 w6 := hS1.trans (hD.mono hz5)
            refine hK.out _ _ hS2 (fun _ => ?_)
            clear hD hS1
            clear hK K
            refine wpAnyH_take (i := 8) (v := ?_) rfl (by kernel_rfl) (by kernel_rfl) (by kernel_rfl) (fun _ _ _ h => h) (Or.inl ⟨by rfl, ?_⟩) hS2 ?_
            case refine_2 => rintro w s1; first | (go_simp; rfl) | go_simp
            simp only [Act.put, List.getElem_toArray, List.getElem_cons_succ, List.getElem_cons_zero, List.setIfInBounds_toArray, List.set_cons_zero, List.set_cons_succ]
            refine wpAnyH_done (by kernel_rfl) ?_ _
            go_wp2_with fail
            go_roundw
            case rel => exact ⟨k + 1, by omega, by go_num, hS2⟩
            case measure => simp [intOf]; omega
          · have hb : belowI P Q = false := by rw [hdv]; exact decide_eq_false h0
            have ht0 : ((t : Int) == 0) = false := by simp; omega
            have HC2 : Hid (∀ W aR cR, Below w4.heap.size w4 W → Mat W.heap.size W aR Q → Calls Try.prog 29 #[.slice b2 P.length c2, .slice aR Q.length cR] W (Ans (.bool false) W)) := Lib.hid fun W aR cR hW hI => by
              have h := implBelow b2 c2 aR cR P Q W ((x4.below hW).more hW.size) hI HPF.out HF1.out
              rw [hb] at h; exact h
            clear hb hdv ht h0 HQ
            go_wp2_with fail
            refine wp_region_held_drew (S := fun W => Below w4.heap.size w4 W) (by kernel_rfl) hB.drew (fun hS0 => ?_)
            change wpAnyH _ _ _ _ _ _ _ _ (World.drew _)
            obtain ⟨V, hV⟩ : ∃ V, World.drew wr = V := ⟨_, rfl⟩
            rw [hV] at hS0 ⊢
            clear hV hB
            have hz0 := hS0.size
            refine wpAnyH_take (i := 0) (v := ?_) rfl (by kernel_rfl) (by kernel_rfl) (by kernel_rfl) (fun _ _ _ h => h) (Or.inl ⟨by rfl, ?_⟩) hS0 ?_
            case refine_2 => rintro w s1; first | (go_simp; rfl) | go_simp
            simp only [Act.put, List.getElem_toArray, List.getElem_cons_zero, List.setIfInBounds_toArray, List.set_cons_zero, List.set_cons_succ]
            refine wpAnyH_take (i := 1) (v := ?_) rfl (by kernel_rfl) (by kernel_rfl) (by kernel_rfl) (fun _ _ _ h => h) (Or.inl ⟨by rfl, ?_⟩) hS0 ?_
            case refine_2 => rintro w s1; first | (go_simp; rfl) | go_simp
            simp only [Act.put, List.getElem_toArray, List.getElem_cons_succ, List.getElem_cons_zero, List.setIfInBounds_toArray, List.set_cons_zero, List.set_cons_succ]
            refine wpAnyH_take (i := 4) (v := ?_) rfl (by kernel_rfl) (by kernel_rfl) (by kernel_rfl) (fun _ _ _ h => h) (Or.inl ⟨by rfl, ?_⟩) hS0 ?_
            case refine_2 => rintro w s1; first | (go_simp; rfl) | go_simp
            simp only [Act.put, List.getElem_toArray, List.getElem_cons_succ, List.getElem_cons_zero, List.setIfInBounds_toArray, List.set_cons_zero, List.set_cons_succ]
            refine wpAnyH_take (i := 5) (v := ?_) rfl (by kernel_rfl) (by kernel_rfl) (by kernel_rfl) (fun _ _ _ h => h) (Or.inl ⟨by rfl, ?_⟩) hS0 ?_
            case refine_2 => rintro w s1; first | (go_simp; rfl) | go_simp
            simp only [Act.put, List.getElem_toArray, List.getElem_cons_succ, List.getElem_cons_zero, List.setIfInBounds_toArray, List.set_cons_zero, List.set_cons_succ]
            refine wpAnyH_take (i := 6) (v := ?_) rfl (by kernel_rfl) (by kernel_rfl) (by kernel_rfl) (fun _ _ _ h => h) (Or.inl ⟨by rfl, ?_⟩) hS0 ?_
            case refine_2 => rintro w s1; first | (go_simp; rfl) | go_simp
            simp only [Act.put, List.getElem_toArray, List.getElem_cons_succ, List.getElem_cons_zero, List.setIfInBounds_toArray, List.set_cons_zero, List.set_cons_succ]
            refine wpAnyH_take (i := 7) (v := ?_) rfl (by kernel_rfl) (by kernel_rfl) (by kernel_rfl) (fun _ _ _ h => h) (Or.inl ⟨by rfl, ?_⟩) hS0 ?_
            case refine_2 => rintro w s1; first | (go_simp; rfl) | go_simp
            simp only [Act.put, List.getElem_toArray, List.getElem_cons_succ, List.getElem_cons_zero, List.setIfInBounds_toArray, List.set_cons_zero, List.set_cons_succ]
            refine wpAnyH_ready (rs := [2]) (by kernel_rfl) (by simp) ?_
            refine AllReadyH.cons rfl (fun K hK => ?_) AllReadyH.nil
            go_simp
            refine (HC1.out V hS0).mono ?_
            rintro e w5 ⟨b5, c5, ⟨rfl, hD⟩, hO⟩
            have hI5 := hO.mat.mat
            have hS1 : Below w4.heap.size w4 w5 := hS0.trans (hD.mono hz0)
            have hz5 := hS1.size
            refine hK.out _ _ hS1 (fun _ => ?_)
            clear hD hO hS0
            clear hK K
            refine wpAnyH_ready (rs := [3]) (by kernel_rfl) (by simp) ?_
            refine AllReadyH.cons rfl (fun K hK => ?_) AllReadyH.nil
            go_simp
            refine (HC2.out w5 b5 c5 hS1 hI5).mono ?_
            rintro e w6 ⟨rfl, hD⟩
            have hS2 : Below w4.heap.size w4 w6 := hS1.trans (hD.mono hz5)
            refine hK.out _ _ hS2 (fun _ => ?_)
            clear hD hS1
            clear hK K
            refine wpAnyH_take (i := 8) (v := ?_) rfl (by kernel_rfl) (by kernel_rfl) (by kernel_rfl) (fun _ _ _ h => h) (Or.inl ⟨by rfl, ?_⟩) hS2 ?_
            case refine_2 => rintro w s1; first | (go_simp; rfl) | go_simp
            simp only [Act.put, List.getElem_toArray, List.getElem_cons_succ, List.getElem_cons_zero, List.setIfInBounds_toArray, List.set_cons_zero, List.set_cons_succ]
            refine wpAnyH_done (by kernel_rfl) ?_ _
            go_wp2_with fail
            go_roundw
            case rel => exact ⟨k + 1, by omega, by go_num, hS2⟩
            case measure => simp [intOf]; omega
        · have hni : ¬ (n : Int) ≤ 5 := by omega
          have hki : (k : Int) + 1 ≤ 5 := by omega
          have hws := hB.size
          have x5' := (x4.below hB).more hws
          have HB5 := Lib.hid (HB4.out.trans (hB.mono HB4.out.size))
          obtain ⟨w5, rfl⟩ : ∃ w5 : World, w5 = wr := ⟨_, rfl⟩
          clear x4 hB hws
          have x5 := x5'
          clear x5'
          go_wp2_with fail
          refine (implOk _ _ _ _ x5 HPF.out).mono ?_
          rw [HGK.out]
          rintro e w6 ⟨rfl, hB6⟩
          have hz6 := hB6.size
          have x6 := (x5.below hB6).more hz6
          have HB6 := Lib.hid (HB5.out.trans (hB6.mono HB5.out.size))
          clear hB6 hz6 x5
          go_wp2_with fail
          refine (implArrows _ _ _ _ x6 HPF.out).mono ?_
          rw [HAR.out]
          rintro e w7 ⟨rfl, hB7⟩
          have hz7 := hB7.size
          have x7 := (x6.below hB7).more hz7
          have HB7 := Lib.hid (HB6.out.trans (hB7.mono HB6.out.size))
          clear hB7 hz7 x6
          clear x7
          go_wp2_with fail
          go_ret
          exact ⟨rfl, HB7.out⟩
      · have hki : ¬ (k : Int) + 1 ≤ 5 := by omega
        have hws := hB.size
        have x5' := (x4.below hB).more hws
        have HB5 := Lib.hid (HB4.out.trans (hB.mono HB4.out.size))
        obtain ⟨w5, rfl⟩ : ∃ w5 : World, w5 = wr := ⟨_, rfl⟩
        clear x4 hB hws
        have x5 := x5'
        clear x5'
        go_wp2_with fail
        refine (implOk _ _ _ _ x5 HPF.out).mono ?_
        rw [HGK.out]
        rintro e w6 ⟨rfl, hB6⟩
        have hz6 := hB6.size
        have x6 := (x5.below hB6).more hz6
        have HB6 := Lib.hid (HB5.out.trans (hB6.mono HB5.out.size))
        clear hB6 hz6 x5
        go_wp2_with fail
        refine (implArrows _ _ _ _ x6 HPF.out).mono ?_
        rw [HAR.out]
        rintro e w7 ⟨rfl, hB7⟩
        have hz7 := hB7.size
        have x7 := (x6.below hB7).more hz7
        have HB7 := Lib.hid (HB6.out.trans (hB7.mono HB6.out.size))
        clear hB7 hz7 x6
        clear x7
        go_wp2_with fail
        go_ret
        exact ⟨rfl, HB7.out⟩
  · obtain rfl : P = [] := HP.out.symm.trans (rinI_no hz)
    rcases (show z = 0 ∨ z = 10 by omega) with rfl | rfl
    · clear x4
      go_wp2_with fail
      refine (alive_any _).mono ?_
      rintro e w5 ⟨rfl, hB5⟩
      have hz5 := hB5.size
      have HB5 := Lib.hid (HB4.out.trans (hB5.mono HB4.out.size))
      clear hB5 hz5 
      go_wp2_with fail
      go_ret
      exact ⟨rfl, HB5.out⟩
    · clear x4
      go_wp2_with fail
      refine (alive_any _).mono ?_
      rintro e w5 ⟨rfl, hB5⟩
      have hz5 := hB5.size
      have HB5 := Lib.hid (HB4.out.trans (hB5.mono HB4.out.size))
      clear hB5 hz5 
      go_wp2_with fail
      go_ret
      exact ⟨rfl, HB5.out⟩

end Go.Proofs.Ytkkifphpogfjfaa
