/-
  The walk of the law of P56 (CoversOf).
-/
import Derived.Test.YtldkgkpiceamhaaXD
import Derived.Test.YtldkgkpiceamhaaXC
import Derived.Test.YtldkgkpiceamhaaXA
import Derived.Test.YtldkgkpiceamhaaZA
import Derived.Test.YtldkgkpiceamhaaZB
import Derived.Test.YtldkgkpiceamhaaWQ
import Derived.Test.YtldkgkpiceamhaaXF
import Derived.Deep.RegionHeld3
namespace Go.Proofs.Ytldkgkpiceamhaa
open Go.RowKit Go.Shelf

set_option maxRecDepth 100000 in
set_option maxHeartbeats 8000000 in
theorem coversOf_any (a : Option Addr) (n c : Nat) (w : World) (hc : n ≤ c) (hl : n ≤ 9223372036854775807) (hy : Bytes w.heap.size w a n) :
    Calls Try.prog 7 #[.slice a n c] w (Ans (.bool true) w) := by
  by_cases hbign : 1048576 < n
  · go_enter Try.func7, Try.ntmps7
    go_wp2_with fail
    go_ret
    exact ⟨rfl, Below.refl _ _⟩
  go_enter Try.func7, Try.ntmps7
  go_wp2_with fail
  refine (drawCoversOf_any a n c w (by omega) hc hy).mono ?_
  rintro e w1 ⟨aG, cG, G, aH, cH, H, rfl, ⟨hF, x1, hG9⟩, ⟨hF', y1, hH9⟩, hB⟩
  have HB1 := Lib.hid hB
  have HF := Lib.hid hF
  have HF' := Lib.hid hF'
  obtain ⟨L, HL, HLF⟩ : ∃ L, Hid (cvsL G H = L) ∧ Hid (Fit L) := ⟨_, rfl, cvs_fit⟩
  have hLl := HLF.out.1
  have HCV : Hid (∀ f, f ∈ L → covI G H f = true) := Lib.hid fun f hf => by
    rw [← HL.out] at hf
    exact (List.mem_filter.1 hf).2
  clear hB hF hF' hy
  go_wp2_with fail
  refine (implCvs _ _ _ _ _ _ _ x1 y1 HF.out HF'.out).mono ?_
  rw [HL.out]
  rintro e w2 ⟨b2, c2, ⟨rfl, hB2⟩, hO2⟩
  have l2 := hO2.mat.mat
  clear hO2
  have hz2 := hB2.size
  have x2 := (x1.below hB2).more hz2
  have y2 := (y1.below hB2).more hz2
  have HB2 := Lib.hid (HB1.out.trans (hB2.mono HB1.out.size))
  clear hB2 hz2 x1 y1
  go_wp2_with fail
  refine (specCvsR _ _ _ _ _ _ _ x2 y2 HF.out HF'.out).mono ?_
  rw [HL.out]
  rintro e w3 ⟨b3, c3, ⟨rfl, hB3⟩, t3⟩
  have hz3 := hB3.size
  have x3 := (x2.below hB3).more hz3
  have y3 := (y2.below hB3).more hz3
  have l3 := (l2.below hB3).more hz3
  have HB3 := Lib.hid (HB2.out.trans (hB3.mono HB2.out.size))
  clear hB3 hz3 x2 y2 l2
  go_wp2_with fail
  refine (sameSS_same _ _ _ _ _ _ _ l3 t3 HLF.out).mono ?_
  rintro e w4 h4
  obtain ⟨rfl, hB4⟩ := h4.below
  clear h4
  have hz4 := hB4.size
  have x4 := (x3.below hB4).more hz4
  have y4 := (y3.below hB4).more hz4
  have l4 := (l3.below hB4).more hz4
  have t4 := (t3.below hB4).more hz4
  have HB4 := Lib.hid (HB3.out.trans (hB4.mono HB3.out.size))
  clear hB4 hz4 x3 y3 l3 t3
  clear t4
  go_wp2_with fail
  go_loopw [6] (fun i wr => ∃ k : Nat, k ≤ L.length ∧ i = .int .i64 k ∧ Below w4.heap.size w4 wr) (fun i _ => L.length - (intOf i).toNat)
  case atStart => exact ⟨0, Nat.zero_le _, rfl, Below.refl _ _⟩
  case round =>
    obtain ⟨k, hk, rfl, hB⟩ := hrel
    have hws := hB.size
    by_cases hlt : k < L.length
    · have hlr := (l4.below hB).more hws
      obtain ⟨b5, o5, a5, c5, xs, e5, hb5, hc5, hI5, HXS⟩ := hlr.at_ hlt
      have HC := implCov _ _ a5 cG cH c5 G H xs wr ((x4.below hB).more hws) ((y4.below hB).more hws) hI5 HF.out HF'.out (HLF.out.2 xs (List.mem_of_getElem? HXS.out))
      rw [HCV.out xs (List.mem_of_getElem? HXS.out)] at HC
      have HC5 := Lib.hid HC
      subst e5
      have hki : (k : Int) < (L.length : Int) := by omega
      have HBr := Lib.hid hB
      clear HC hI5 hlr hB x4 y4 l4
      go_wp2_with fail
      refine HC5.out.mono ?_
      rintro e w5 ⟨rfl, hB5⟩
      have hB6 := HBr.out.trans (hB5.mono HBr.out.size)
      go_wp2_with fail
      go_roundw
      case rel => exact ⟨k + 1, by omega, by go_num, hB6⟩
      case measure => simp [intOf]; omega
    · obtain rfl : k = L.length := by omega
      have HB5 := Lib.hid (HB4.out.trans (hB.mono HB4.out.size))
      obtain ⟨w5, rfl⟩ : ∃ w5 : World, w5 = wr := ⟨_, rfl⟩
      clear x4 y4 l4 hB hws
      go_wp2_with fail
      go_loopw [7] (fun i wr => ∃ k : Nat, k ≤ 4 ∧ i = .int .i64 ((k : Int) + 1) ∧ Below w5.heap.size w5 wr) (fun i _ => 6 - (intOf i).toNat)
      case atStart => exact ⟨0, Nat.zero_le _, rfl, Below.refl _ _⟩
      case round =>
        obtain ⟨k, hk, rfl, hB⟩ := hrel
        by_cases hlt : k < 4
        · have hki : (k : Int) + 1 ≤ 4 := by omega
          have HR1 : Hid (rinI ((k : Int) + 1) = rinL (k + 1)) := Lib.hid (by
            have h := rinI_yes (n := k + 1) (by omega) (by omega)
            rwa [show ((k + 1 : Nat) : Int) = (k : Int) + 1 by omega] at h)
          go_wp2_with fail
          go_loopw [8] (fun i wr => ∃ l : Nat, l ≤ 4 ∧ i = .int .i64 ((l : Int) + 1) ∧ Below w5.heap.size w5 wr) (fun i _ => 6 - (intOf i).toNat)
          case atStart => exact ⟨0, Nat.zero_le _, rfl, hB⟩
          case round =>
            clear hB
            obtain ⟨l, hl, rfl, hB⟩ := hrel
            by_cases hlt2 : l < 4
            · have hli : (l : Int) + 1 ≤ 4 := by omega
              have HR2 : Hid (rinI ((l : Int) + 1) = rinL (l + 1)) := Lib.hid (by
                have h := rinI_yes (n := l + 1) (by omega) (by omega)
                rwa [show ((l + 1 : Nat) : Int) = (l : Int) + 1 by omega] at h)
              obtain ⟨t, ht⟩ : ∃ t : Nat, t = (k + 1) % (l + 1) := ⟨_, rfl⟩
              have hmd : Int.tmod ((k : Int) + 1) ((l : Int) + 1) = (t : Int) := by rw [ht]; rfl
              have hd0 : ¬ (l : Int) + 1 = 0 := by omega
              obtain ⟨c9, hc9⟩ : ∃ c, (t == 0) = c := ⟨_, rfl⟩
              have hct : ((t : Int) == 0) = c9 := by rw [← hc9, Bool.eq_iff_iff]; simp
              have hcc : (c9 != c9) = false := by simp
              obtain ⟨N, hN⟩ : ∃ N, (cvsL (rinL (k + 1)) (rinL (l + 1))).length = N := ⟨_, rfl⟩
              have hcN : decide ((0 : Int) < (N : Int)) = c9 := by
                have h := ring_cov k hlt l hlt2
                have h2 : (cvsL (rinL (k + 1)) (rinL (l + 1))).isEmpty = !c9 := by rw [← hc9, ht]; exact h
                cases c9 with
                | true =>
                  refine decide_eq_true ?_
                  have hne : cvsL (rinL (k + 1)) (rinL (l + 1)) ≠ [] := fun e => by rw [e] at h2; cases h2
                  have := List.length_pos_iff.2 hne
                  omega
                | false =>
                  refine decide_eq_false ?_
                  have he : cvsL (rinL (k + 1)) (rinL (l + 1)) = [] := List.isEmpty_iff.1 h2
                  rw [he] at hN
                  simp at hN
                  omega
              have HC1 : Hid (∀ W, Calls Try.prog 37 #[.int .i64 ((k : Int) + 1)] W (MadeS (rinL (k + 1)) W)) := Lib.hid fun W => by
                have h := implRin ((k : Int) + 1) W
                rwa [HR1.out] at h
              have HC2 : Hid (∀ W, Calls Try.prog 37 #[.int .i64 ((l : Int) + 1)] W (MadeS (rinL (l + 1)) W)) := Lib.hid fun W => by
                have h := implRin ((l : Int) + 1) W
                rwa [HR2.out] at h
              have HF1 := Lib.hid (rin_good (n := k + 1) (by omega) (by omega)).fit
              have HF2 := Lib.hid (rin_good (n := l + 1) (by omega) (by omega)).fit
              have HC3 : Hid (∀ W aR cR aS cS, Mat W.heap.size W aR (rinL (k + 1)) → Mat W.heap.size W aS (rinL (l + 1)) → Calls Try.prog 34 #[.slice aR (rinL (k + 1)).length cR, .slice aS (rinL (l + 1)).length cS] W (fun e w' => ∃ a c, e = .returned (.slice a N c) ∧ Below W.heap.size W w')) := Lib.hid fun W aR cR aS cS h1 h2 => (implCvs aR aS cR cS _ _ W h1 h2 HF1.out HF2.out).mono fun e w' ⟨a, c, ⟨h3, h4⟩, _⟩ => ⟨a, c, by rw [h3, hN], h4⟩
              have hcN2 : decide (0 < N) = c9 := by rw [← hcN, Bool.eq_iff_iff]; simp
              clear ht hN
              cases c9
              all_goals
                go_wp2_with fail
                refine wp_region_held_drew (S := fun W => Below w5.heap.size w5 W) (by kernel_rfl) hB.drew (fun hS0 => ?_)
                change wpAnyH _ _ _ _ _ _ _ _ (World.drew _)
                obtain ⟨V, hV⟩ : ∃ V, World.drew wr = V := ⟨_, rfl⟩
                rw [hV] at hS0 ⊢
                clear hV hB
                have hz0 := hS0.size
                refine wpAnyH_take (i := 0) (v := ?_) rfl (by kernel_rfl) (by kernel_rfl) (by kernel_rfl) (fun _ _ _ h => h) (Or.inl ⟨by rfl, ?_⟩) hS0 ?_
                case refine_2 => rintro w s1; first | (go_simp; rfl) | go_simp
                simp only [Act.put, List.getElem_toArray, List.getElem_cons_zero, List.setIfInBounds_toArray, List.set_cons_zero, List.set_cons_succ]
                refine wpAnyH_take (i := 2) (v := ?_) rfl (by kernel_rfl) (by kernel_rfl) (by kernel_rfl) (fun _ _ _ h => h) (Or.inl ⟨by rfl, ?_⟩) hS0 ?_
                case refine_2 => rintro w s1; first | (go_simp; rfl) | go_simp
                simp only [Act.put, List.getElem_toArray, List.getElem_cons_succ, List.getElem_cons_zero, List.setIfInBounds_toArray, List.set_cons_zero, List.set_cons_succ]
                refine wpAnyH_take (i := 7) (v := ?_) rfl (by kernel_rfl) (by kernel_rfl) (by kernel_rfl) (fun _ _ _ h => h) (Or.inl ⟨by rfl, ?_⟩) hS0 ?_
                case refine_2 => rintro w s1; first | (go_simp; rfl) | go_simp
                simp only [Act.put, List.getElem_toArray, List.getElem_cons_succ, List.getElem_cons_zero, List.setIfInBounds_toArray, List.set_cons_zero, List.set_cons_succ]
                refine wpAnyH_take (i := 8) (v := ?_) rfl (by kernel_rfl) (by kernel_rfl) (by kernel_rfl) (fun _ _ _ h => h) (Or.inl ⟨by rfl, ?_⟩) hS0 ?_
                case refine_2 => rintro w s1; first | (go_simp; rfl) | go_simp
                simp only [Act.put, List.getElem_toArray, List.getElem_cons_succ, List.getElem_cons_zero, List.setIfInBounds_toArray, List.set_cons_zero, List.set_cons_succ]
                refine wpAnyH_take (i := 9) (v := ?_) rfl (by kernel_rfl) (by kernel_rfl) (by kernel_rfl) (fun _ _ _ h => h) (Or.inl ⟨by rfl, ?_⟩) hS0 ?_
                case refine_2 => rintro w s1; first | (go_simp; rfl) | go_simp
                simp only [Act.put, List.getElem_toArray, List.getElem_cons_succ, List.getElem_cons_zero, List.setIfInBounds_toArray, List.set_cons_zero, List.set_cons_succ]
                refine wpAnyH_take (i := 10) (v := ?_) rfl (by kernel_rfl) (by kernel_rfl) (by kernel_rfl) (fun _ _ _ h => h) (Or.inl ⟨by rfl, ?_⟩) hS0 ?_
                case refine_2 => rintro w s1; first | (go_simp; rfl) | go_simp
                simp only [Act.put, List.getElem_toArray, List.getElem_cons_succ, List.getElem_cons_zero, List.setIfInBounds_toArray, List.set_cons_zero, List.set_cons_succ]
                refine wpAnyH_ready (rs := [1]) (by kernel_rfl) (by simp) ?_
                refine AllReadyH.cons rfl (fun K hK => ?_) AllReadyH.nil
                go_simp
                refine (HC1.out V).mono ?_
                rintro e w6 ⟨b6, c6, ⟨rfl, hD⟩, hO⟩
                have hI6 := hO.mat.mat
                have hS1 : Below w5.heap.size w5 w6 := hS0.trans (hD.mono hz0)
                have hz6 := hS1.size
                refine hK.out _ _ hS1 (fun _ => ?_)
                clear hD hO hS0
                clear hK K
                refine wpAnyH_ready (rs := [3]) (by kernel_rfl) (by simp) ?_
                refine AllReadyH.cons rfl (fun K hK => ?_) AllReadyH.nil
                go_simp
                refine (HC2.out w6).mono ?_
                rintro e w7 ⟨b7, c7, ⟨rfl, hD⟩, hO⟩
                have hI7 := hO.mat.mat
                have hI6' := (hI6.below hD).more hD.size
                have hS2 : Below w5.heap.size w5 w7 := hS1.trans (hD.mono hz6)
                have hz7 := hS2.size
                refine hK.out _ _ hS2 (fun _ => ?_)
                clear hD hO hS1 hI6
                clear hK K
                refine wpAnyH_ready (rs := [4]) (by kernel_rfl) (by simp) ?_
                refine AllReadyH.cons rfl (fun K hK => ?_) AllReadyH.nil
                go_simp
                refine (HC3.out w7 b6 c6 b7 c7 hI6' hI7).mono ?_
                rintro e w8 ⟨a8, c8, rfl, hD⟩
                have hS3 : Below w5.heap.size w5 w8 := hS2.trans (hD.mono hz7)
                refine hK.out _ _ hS3 (fun _ => ?_)
                clear hD hS2
                clear hK K
                refine wpAnyH_take (i := 5) (v := ?_) rfl (by kernel_rfl) (by kernel_rfl) (by kernel_rfl) (fun _ _ _ h => h) (Or.inl ⟨by rfl, ?_⟩) hS3 ?_
                case refine_2 => rintro w s1; first | (go_simp; rfl) | go_simp
                simp only [Act.put, List.getElem_toArray, List.getElem_cons_succ, List.getElem_cons_zero, List.setIfInBounds_toArray, List.set_cons_zero, List.set_cons_succ]
                refine wpAnyH_take (i := 6) (v := ?_) rfl (by kernel_rfl) (by kernel_rfl) (by kernel_rfl) (fun _ _ _ h => h) (Or.inl ⟨by rfl, ?_⟩) hS3 ?_
                case refine_2 => rintro w s1; first | (go_simp; rfl) | go_simp
                simp only [Act.put, List.getElem_toArray, List.getElem_cons_succ, List.getElem_cons_zero, List.setIfInBounds_toArray, List.set_cons_zero, List.set_cons_succ]
                refine wpAnyH_take (i := 11) (v := ?_) rfl (by kernel_rfl) (by kernel_rfl) (by kernel_rfl) (fun _ _ _ h => h) (Or.inl ⟨by rfl, ?_⟩) hS3 ?_
                case refine_2 => rintro w s1; first | (go_simp; rfl) | go_simp
                simp only [Act.put, List.getElem_toArray, List.getElem_cons_succ, List.getElem_cons_zero, List.setIfInBounds_toArray, List.set_cons_zero, List.set_cons_succ]
                refine wpAnyH_done (by kernel_rfl) ?_ _
                go_wp2_with fail
                go_roundw
                case rel => exact ⟨l + 1, by omega, by go_num, hS3⟩
                case measure => simp [intOf]; omega
            · have hli : ¬ (l : Int) + 1 ≤ 4 := by omega
              go_wp2_with fail
              go_roundw
              case rel => exact ⟨k + 1, by omega, by go_num, hB⟩
              case measure => simp [intOf]; omega
        · have hki : ¬ (k : Int) + 1 ≤ 4 := by omega
          have HB6 := Lib.hid (HB5.out.trans (hB.mono HB5.out.size))
          go_wp2_with fail
          refine (alive_any _).mono ?_
          rintro e w7 ⟨rfl, hB7⟩
          have hB8 := HB6.out.trans (hB7.mono HB6.out.size)
          go_wp2_with fail
          go_ret
          exact ⟨rfl, hB8⟩

end Go.Proofs.Ytldkgkpiceamhaa
