/-
  The walk of the law of P15 (PowerOf).
-/
import Derived.Test.YtjcoilabmbmbkaaD13
import Derived.Test.YtjcoilabmbmbkaaY5
import Derived.Test.YtjcoilabmbmbkaaY6
import Derived.Test.YtjcoilabmbmbkaaYB
import Derived.Test.YtjcoilabmbmbkaaV1
import Derived.Test.YtjcoilabmbmbkaaT2
import Derived.Test.YtjcoilabmbmbkaaM7
import Derived.Test.YtjcoilabmbmbkaaZN
import Derived.Test.YtjcoilabmbmbkaaZE
import Derived.Test.YtjcoilabmbmbkaaG1
import Derived.Test.YtjcoilabmbmbkaaZM
namespace Go.Proofs.Ytjcoilabmbmbkaa
open Go.RowKit Go.Shelf

set_option maxRecDepth 100000 in
set_option maxHeartbeats 8000000 in
theorem powerOf_any (a : Option Addr) (n c : Nat) (b : Option Addr) (m d : Nat) (w : World) (hc : n ≤ c) (hl : n ≤ 9223372036854775807) (hy : Bytes w.heap.size w a n) (hd : m ≤ d) (hl' : m ≤ 9223372036854775807) (hy' : Bytes w.heap.size w b m) :
    Calls Try.prog 3 #[.slice a n c, .slice b m d] w (Ans (.bool true) w) := by
  by_cases hbign : 1048576 < n
  · go_enter Try.func3, Try.ntmps3
    go_wp2_with fail
    go_ret
    exact ⟨rfl, Below.refl _ _⟩
  by_cases hbigm : 1048576 < m
  · go_enter Try.func3, Try.ntmps3
    go_wp2_with fail
    go_ret
    exact ⟨rfl, Below.refl _ _⟩
  go_enter Try.func3, Try.ntmps3
  go_wp2_with fail
  refine (drawPowerOf_any a n c w (by omega) hc hy).mono ?_
  rintro e w1 ⟨aH, cH, H, aG, cG, G, rfl, ⟨hF, x1, hx4⟩, ⟨hF', y1, hy4⟩, hB⟩
  have HB1 := Lib.hid hB
  have HF := Lib.hid hF
  have HF' := Lib.hid hF'
  have HY' := Lib.hid hy'
  obtain ⟨T, HT, HTF⟩ : ∃ T, Hid (powL H G = T) ∧ Hid (Fit T) := ⟨_, rfl, pow_fit⟩
  obtain ⟨z, HZ⟩ : ∃ z, Hid (powOk H G = z) := ⟨_, rfl⟩
  have htl := HTF.out.1
  have hzz : (z != z) = false := by simp
  clear hB hF hF' hy hy' 
  go_wp2_with fail
  refine (implPow _ _ _ _ _ _ _ x1 y1 HF.out HF'.out).mono ?_
  rw [HT.out, HZ.out]
  rintro e w2 ⟨b2, c2, ⟨rfl, hB2⟩, hO2⟩
  have t2 := hO2.mat
  clear hO2
  have hz2 := hB2.size
  have x2 := (x1.below hB2).more hz2
  have y2 := (y1.below hB2).more hz2
  have HB2 := Lib.hid (HB1.out.trans (hB2.mono HB1.out.size))
  clear hB2 hz2 x1 y1
  go_wp2_with fail
  refine (specPow _ _ _ _ _ _ _ _ x2 y2 (Nat.le_refl _) HF.out HF'.out).mono ?_
  rw [HT.out, HZ.out]
  rintro e w3 ⟨b3, c3, ⟨rfl, hB3⟩, u3⟩
  have hz3 := hB3.size
  have x3 := (x2.below hB3).more hz3
  have y3 := (y2.below hB3).more hz3
  have t3 := (t2.below hB3).more hz3
  have HB3 := Lib.hid (HB2.out.trans (hB3.mono HB2.out.size))
  clear hB3 hz3 x2 y2 t2
  go_wp2_with fail
  refine (sameSS_same _ _ _ _ _ _ _ t3 u3 HTF.out).mono ?_
  rintro e w4 h4
  obtain ⟨rfl, hB4⟩ := h4.below
  clear h4
  have hz4 := hB4.size
  have x4 := (x3.below hB4).more hz4
  have y4 := (y3.below hB4).more hz4
  have t4 := (t3.below hB4).more hz4
  have u4 := (u3.below hB4).more hz4
  have HB4 := Lib.hid (HB3.out.trans (hB4.mono HB3.out.size))
  clear hB4 hz4 x3 y3 t3 u3
  clear u4
  cases z with
  | false =>
    obtain rfl : T = [] := HT.out.symm.trans (powL_no HZ.out)
    clear x4 y4 t4
    go_wp2_with fail
    refine (alive_any _).mono ?_
    rintro e w5 ⟨rfl, hB5⟩
    have hz5 := hB5.size
    have HB5 := Lib.hid (HB4.out.trans (hB5.mono HB4.out.size))
    clear hB5 hz5 
    go_wp2_with fail
    go_ret
    exact ⟨rfl, HB5.out⟩
  | true =>
    obtain ⟨hH, hG, h9⟩ := powOk_of HZ.out
    have HTG : Hid (gOk T = true) := Lib.hid (by rw [← HT.out]; exact gOk_true (pow_good HZ.out))
    have HGT := Lib.hid (good_of HTG.out)
    have HTL : Hid (T.length = H.length ^ G.length) := Lib.hid (by rw [← HT.out]; exact pow_length HZ.out)
    have HRA : Hid (∀ k : Nat, k < T.length → rowAtI H G (k : Int) = rowR H.length G.length k ∧ mapOkI G H (rowR H.length G.length k) = (ent T k k == 1)) := Lib.hid fun k hk => by
      rw [HTL.out] at hk
      refine ⟨by rw [rowAt_yes HZ.out (by omega) (by omega), Int.toNat_natCast], ?_⟩
      rw [← pow_diag HZ.out hk, HT.out]; rfl
    have HRL : Hid (∀ k : Nat, (rowR H.length G.length k).length ≤ 1048576) := Lib.hid fun k => by rw [rowR_length]; have := hG.2.1; omega
    have hT9 : T.length ≤ 9 := by rw [HTL.out]; exact h9
    clear hH hG h9 hzz
    go_wp2_with fail
    go_loopw [11] (fun i wr => ∃ k : Nat, k ≤ T.length ∧ i = .int .i64 k ∧ Below w4.heap.size w4 wr)
      (fun i _ => T.length - (intOf i).toNat)
    case atStart => exact ⟨0, Nat.zero_le _, rfl, Below.refl _ _⟩
    case round =>
      obtain ⟨k, hk, rfl, hB⟩ := hrel
      have hws := hB.size
      by_cases hlt : k < T.length
      · obtain ⟨b3, o3, b4, o4, c4, e4, hb3, hb4, hcl3, hcl4⟩ := good_row t4 HGT.out hlt hlt
        have d3 := (hB.cell (p := ⟨b3, o3 + k, none⟩) hb3).trans hcl3
        have d4 := (hB.cell (p := ⟨b4, o4 + k, none⟩) hb4).trans hcl4
        obtain ⟨v, hv⟩ : ∃ v, ent T k k = v := ⟨_, rfl⟩
        have hq := HRA.out k hlt
        rw [hv] at hq d4
        obtain ⟨hq1, hq2⟩ := hq
        have HC1 : Hid (∀ W, Below w4.heap.size w4 W → Calls Try.prog 19 #[.slice aH H.length cH, .slice aG G.length cG, .int .i64 (k : Int)] W (MadeI (rowR H.length G.length k) W)) := Lib.hid fun W hW => by
          have h := implRowAt aH aG cH cG H G (k : Int) W ((x4.below hW).more hW.size) ((y4.below hW).more hW.size) HF.out HF'.out
          rw [hq1] at h; exact h
        have HC2 : Hid (∀ W aR cR, Below w4.heap.size w4 W → Ints W.heap.size W aR (rowR H.length G.length k) → Calls Try.prog 18 #[.slice aG G.length cG, .slice aH H.length cH, .slice aR (rowR H.length G.length k).length cR] W (Ans (.bool (v == 1)) W)) := Lib.hid fun W aR cR hW hI => by
          have h := implMapOk aG cG aH cH aR cR G H (rowR H.length G.length k) W ((y4.below hW).more hW.size) ((x4.below hW).more hW.size) hI HF'.out HF.out (HRL.out k)
          rw [hq2] at h; exact h
        obtain ⟨rs, hrs⟩ : ∃ rs, rowR H.length G.length k = rs := ⟨_, rfl⟩
        rw [hrs] at HC1 HC2
        have hvv : ((v == 1) != (v == 1)) = false := by simp
        have hk0 : (0 : Int) ≤ (k : Int) := Int.natCast_nonneg _
        have hk1 : (k : Int) < (T.length : Int) := by omega
        subst e4
        clear hq1 hq2 hrs hv hcl3 hcl4
        go_wp2_with fail
        refine wp_region_held_drew (S := fun W => W.cell? ⟨b3, o3 + k, none⟩ = some (.slice (some ⟨b4, o4, none⟩) T.length c4) ∧ W.cell? ⟨b4, o4 + k, none⟩ = some (.int .i64 v)) (by kernel_rfl) ⟨d3, d4⟩ (fun hS0 => ?_)
        change wpAnyH _ _ _ _ _ _ _ _ (World.drew _)
        have hB0 := hB.drew
        obtain ⟨V, hV⟩ : ∃ V, World.drew wr = V := ⟨_, rfl⟩
        rw [hV] at hS0 hB0 ⊢
        clear hV hB d3 d4 hws
        have hz0 := hB0.size
        refine wpAnyH_take (i := 0) (v := ?_) rfl (by kernel_rfl) (by kernel_rfl) (by kernel_rfl) (fun _ _ _ h => h) (Or.inl ⟨by rfl, ?_⟩) hS0 ?_
        case refine_2 => rintro w s1; obtain ⟨s1a, s1b⟩ := s1; first | (go_simp; rfl) | go_simp
        simp only [Act.put, List.getElem_toArray, List.getElem_cons_zero, List.setIfInBounds_toArray, List.set_cons_zero, List.set_cons_succ]
        refine wpAnyH_take (i := 1) (v := ?_) rfl (by kernel_rfl) (by kernel_rfl) (by kernel_rfl) (fun _ _ _ h => h) (Or.inl ⟨by rfl, ?_⟩) hS0 ?_
        case refine_2 => rintro w s1; obtain ⟨s1a, s1b⟩ := s1; first | (go_simp; rfl) | go_simp
        simp only [Act.put, List.getElem_toArray, List.getElem_cons_succ, List.getElem_cons_zero, List.setIfInBounds_toArray, List.set_cons_zero, List.set_cons_succ]
        refine wpAnyH_take (i := 2) (v := ?_) rfl (by kernel_rfl) (by kernel_rfl) (by kernel_rfl) (fun _ _ _ h => h) (Or.inl ⟨by rfl, ?_⟩) hS0 ?_
        case refine_2 => rintro w s1; obtain ⟨s1a, s1b⟩ := s1; first | (go_simp; rfl) | go_simp
        simp only [Act.put, List.getElem_toArray, List.getElem_cons_succ, List.getElem_cons_zero, List.setIfInBounds_toArray, List.set_cons_zero, List.set_cons_succ]
        refine wpAnyH_take (i := 3) (v := ?_) rfl (by kernel_rfl) (by kernel_rfl) (by kernel_rfl) (fun _ _ _ h => h) (Or.inl ⟨by rfl, ?_⟩) hS0 ?_
        case refine_2 => rintro w s1; obtain ⟨s1a, s1b⟩ := s1; first | (go_simp; rfl) | go_simp
        simp only [Act.put, List.getElem_toArray, List.getElem_cons_succ, List.getElem_cons_zero, List.setIfInBounds_toArray, List.set_cons_zero, List.set_cons_succ]
        refine wpAnyH_take (i := 4) (v := ?_) rfl (by kernel_rfl) (by kernel_rfl) (by kernel_rfl) (fun _ _ _ h => h) (Or.inl ⟨by rfl, ?_⟩) hS0 ?_
        case refine_2 => rintro w s1; obtain ⟨s1a, s1b⟩ := s1; first | (go_simp; rfl) | go_simp
        simp only [Act.put, List.getElem_toArray, List.getElem_cons_succ, List.getElem_cons_zero, List.setIfInBounds_toArray, List.set_cons_zero, List.set_cons_succ]
        refine wpAnyH_take (i := 5) (v := ?_) rfl (by kernel_rfl) (by kernel_rfl) (by kernel_rfl) (fun _ _ _ h => h) (Or.inl ⟨by rfl, ?_⟩) hS0 ?_
        case refine_2 => rintro w s1; obtain ⟨s1a, s1b⟩ := s1; first | (go_simp; rfl) | go_simp
        simp only [Act.put, List.getElem_toArray, List.getElem_cons_succ, List.getElem_cons_zero, List.setIfInBounds_toArray, List.set_cons_zero, List.set_cons_succ]
        refine wpAnyH_take (i := 6) (v := ?_) rfl (by kernel_rfl) (by kernel_rfl) (by kernel_rfl) (fun _ _ _ h => h) (Or.inl ⟨by rfl, ?_⟩) hS0 ?_
        case refine_2 => rintro w s1; obtain ⟨s1a, s1b⟩ := s1; first | (go_simp; rfl) | go_simp
        simp only [Act.put, List.getElem_toArray, List.getElem_cons_succ, List.getElem_cons_zero, List.setIfInBounds_toArray, List.set_cons_zero, List.set_cons_succ]
        refine wpAnyH_take (i := 7) (v := ?_) rfl (by kernel_rfl) (by kernel_rfl) (by kernel_rfl) (fun _ _ _ h => h) (Or.inl ⟨by rfl, ?_⟩) hS0 ?_
        case refine_2 => rintro w s1; obtain ⟨s1a, s1b⟩ := s1; first | (go_simp; rfl) | go_simp
        simp only [Act.put, List.getElem_toArray, List.getElem_cons_succ, List.getElem_cons_zero, List.setIfInBounds_toArray, List.set_cons_zero, List.set_cons_succ]
        refine wpAnyH_take (i := 8) (v := ?_) rfl (by kernel_rfl) (by kernel_rfl) (by kernel_rfl) (fun _ _ _ h => h) (Or.inl ⟨by rfl, ?_⟩) hS0 ?_
        case refine_2 => rintro w s1; obtain ⟨s1a, s1b⟩ := s1; first | (go_simp; rfl) | go_simp
        simp only [Act.put, List.getElem_toArray, List.getElem_cons_succ, List.getElem_cons_zero, List.setIfInBounds_toArray, List.set_cons_zero, List.set_cons_succ]
        refine wpAnyH_take (i := 9) (v := ?_) rfl (by kernel_rfl) (by kernel_rfl) (by kernel_rfl) (fun _ _ _ h => h) (Or.inl ⟨by rfl, ?_⟩) hS0 ?_
        case refine_2 => rintro w s1; obtain ⟨s1a, s1b⟩ := s1; first | (go_simp; rfl) | go_simp
        simp only [Act.put, List.getElem_toArray, List.getElem_cons_succ, List.getElem_cons_zero, List.setIfInBounds_toArray, List.set_cons_zero, List.set_cons_succ]
        refine wpAnyH_take (i := 10) (v := ?_) rfl (by kernel_rfl) (by kernel_rfl) (by kernel_rfl) (fun _ _ _ h => h) (Or.inl ⟨by rfl, ?_⟩) hS0 ?_
        case refine_2 => rintro w s1; obtain ⟨s1a, s1b⟩ := s1; first | (go_simp; rfl) | go_simp
        simp only [Act.put, List.getElem_toArray, List.getElem_cons_succ, List.getElem_cons_zero, List.setIfInBounds_toArray, List.set_cons_zero, List.set_cons_succ]
        refine wpAnyH_take (i := 11) (v := ?_) rfl (by kernel_rfl) (by kernel_rfl) (by kernel_rfl) (fun _ _ _ h => h) (Or.inl ⟨by rfl, ?_⟩) hS0 ?_
        case refine_2 => rintro w s1; obtain ⟨s1a, s1b⟩ := s1; first | (go_simp; rfl) | go_simp
        simp only [Act.put, List.getElem_toArray, List.getElem_cons_succ, List.getElem_cons_zero, List.setIfInBounds_toArray, List.set_cons_zero, List.set_cons_succ]
        refine wpAnyH_take (i := 12) (v := ?_) rfl (by kernel_rfl) (by kernel_rfl) (by kernel_rfl) (fun _ _ _ h => h) (Or.inl ⟨by rfl, ?_⟩) hS0 ?_
        case refine_2 => rintro w s1; obtain ⟨s1a, s1b⟩ := s1; first | (go_simp; rfl) | go_simp
        simp only [Act.put, List.getElem_toArray, List.getElem_cons_succ, List.getElem_cons_zero, List.setIfInBounds_toArray, List.set_cons_zero, List.set_cons_succ]
        refine wpAnyH_ready (rs := [13]) (by kernel_rfl) (by simp) ?_
        refine AllReadyH.cons rfl (fun K hK => ?_) AllReadyH.nil
        go_simp
        refine (HC1.out V hB0).mono ?_
        rintro e w5 ⟨b5, c5, ⟨rfl, hD⟩, hO⟩
        have hI5 := hO.ints
        have hB5 := hB0.trans (hD.mono hz0)
        have hS1 : _ ∧ _ := ⟨(hD.cell (p := ⟨b3, o3 + k, none⟩) (Nat.lt_of_lt_of_le hb3 hz0)).trans hS0.1, (hD.cell (p := ⟨b4, o4 + k, none⟩) (Nat.lt_of_lt_of_le hb4 hz0)).trans hS0.2⟩
        have hz5 := hB5.size
        refine hK.out _ _ hS1 (fun hS1 => ?_)
        clear hD hO hS0
        clear hK K
        refine wpAnyH_ready (rs := [14]) (by kernel_rfl) (by simp) ?_
        refine AllReadyH.cons rfl (fun K hK => ?_) AllReadyH.nil
        go_simp
        refine (HC2.out w5 b5 c5 hB5 hI5).mono ?_
        rintro e w6 ⟨rfl, hD⟩
        have hB6 := hB5.trans (hD.mono hz5)
        have hS2 : _ ∧ _ := ⟨(hD.cell (p := ⟨b3, o3 + k, none⟩) (Nat.lt_of_lt_of_le hb3 hz5)).trans hS1.1, (hD.cell (p := ⟨b4, o4 + k, none⟩) (Nat.lt_of_lt_of_le hb4 hz5)).trans hS1.2⟩
        refine hK.out _ _ hS2 (fun hS2 => ?_)
        clear hD hS1
        clear hK K
        refine wpAnyH_take (i := 15) (v := ?_) rfl (by kernel_rfl) (by kernel_rfl) (by kernel_rfl) (fun _ _ _ h => h) (Or.inl ⟨by rfl, ?_⟩) hS2 ?_
        case refine_2 => rintro w s1; obtain ⟨s1a, s1b⟩ := s1; first | (go_simp; rfl) | go_simp
        simp only [Act.put, List.getElem_toArray, List.getElem_cons_succ, List.getElem_cons_zero, List.setIfInBounds_toArray, List.set_cons_zero, List.set_cons_succ]
        refine wpAnyH_done (by kernel_rfl) ?_ _
        go_wp2_with fail
        go_roundw
        case rel => exact ⟨k + 1, by omega, by go_num, hB6⟩
        case measure => simp [intOf]; omega
      · obtain rfl : k = T.length := by omega
        have x5 := (x4.below hB).more hws
        have y5 := (y4.below hB).more hws
        have t5 := (t4.below hB).more hws
        have HB5 := Lib.hid (HB4.out.trans (hB.mono HB4.out.size))
        obtain ⟨w5, rfl⟩ : ∃ w5 : World, w5 = wr := ⟨_, rfl⟩
        clear x4 y4 t4 hB hws
        have hy5 : Bytes w5.heap.size w5 b m := HY'.out.belowT HB5.out HB5.out.size
        go_wp2_with fail
        refine (drawPowerOf_any b m d w5 (by omega) hd hy5).mono ?_
        rintro e w6 ⟨a5, c5, K, a7, c7, Z, rfl, ⟨hFK, k6, hk4⟩, ⟨-, -, -⟩, hB6⟩
        have HFK := Lib.hid hFK
        have hkl := hFK.1
        clear hFK hy5
        have hz6 := hB6.size
        have x6 := (x5.below hB6).more hz6
        have y6 := (y5.below hB6).more hz6
        have t6 := (t5.below hB6).more hz6
        have HB6 := Lib.hid (HB5.out.trans (hB6.mono HB5.out.size))
        clear hB6 hz6 x5 y5 t5
        obtain ⟨U, HU, HUF⟩ : ∃ U, Hid (timL K G = U) ∧ Hid (Fit U) := ⟨_, rfl, tim_fit⟩
        obtain ⟨q, HQ⟩ : ∃ q, Hid (timOk K G = q) := ⟨_, rfl⟩
        have hul := HUF.out.1
        go_wp2_with fail
        refine (specTimes _ _ _ _ _ _ _ _ k6 y6 (Nat.le_refl _) HFK.out HF'.out).mono ?_
        rw [HU.out, HQ.out]
        rintro e w7 ⟨b7, c7, ⟨rfl, hB7⟩, u7⟩
        have hz7 := hB7.size
        have x7 := (x6.below hB7).more hz7
        have y7 := (y6.below hB7).more hz7
        have t7 := (t6.below hB7).more hz7
        have k7 := (k6.below hB7).more hz7
        have HB7 := Lib.hid (HB6.out.trans (hB7.mono HB6.out.size))
        clear hB7 hz7 x6 y6 t6 k6
        go_wp2_with fail
        refine (implOk _ _ _ _ t7 HTF.out).mono ?_
        rw [HTG.out]
        rintro e w8 ⟨rfl, hB8⟩
        have hz8 := hB8.size
        have x8 := (x7.below hB8).more hz8
        have y8 := (y7.below hB8).more hz8
        have t8 := (t7.below hB8).more hz8
        have k8 := (k7.below hB8).more hz8
        have u8 := (u7.below hB8).more hz8
        have HB8 := Lib.hid (HB7.out.trans (hB8.mono HB7.out.size))
        clear hB8 hz8 x7 y7 t7 k7 u7
        cases q with
        | false =>
          clear x8 y8 t8 k8 u8
          go_wp2_with fail
          go_ret
          exact ⟨rfl, HB8.out⟩
        | true =>
          go_wp2_with fail
          refine (specFew _ _ _ _ _ _ _ _ u8 x8 HUF.out HF.out).mono ?_
          rintro e wq ⟨rfl, rfl⟩
          by_cases h1 : fewI U H = true
          · rw [h1]
            go_wp2_with fail
            refine (specFew _ _ _ _ _ _ _ _ k8 t8 HFK.out HTF.out).mono ?_
            rintro e wq ⟨rfl, rfl⟩
            by_cases h2 : fewI K T = true
            · rw [h2]
              have HC : Hid (countI K T = countI U H) := Lib.hid (by rw [← HT.out] at h2 ⊢; rw [← HU.out] at h1 ⊢; exact count_pow HQ.out HZ.out h1 h2)
              obtain ⟨r, HR⟩ : ∃ r, Hid (countI U H = r) := ⟨_, rfl⟩
              have HCT : Hid (countI K T = r) := Lib.hid (by rw [HC.out, HR.out])
              have hrr : (r == r) = true := by simp
              clear h1 h2 HC
              go_wp2_with fail
              refine (implCount _ _ _ _ _ _ _ k8 t8 HFK.out HTF.out).mono ?_
              rw [HCT.out]
              rintro e w9 ⟨rfl, hB9⟩
              have hz9 := hB9.size
              have x9 := (x8.below hB9).more hz9
              have y9 := (y8.below hB9).more hz9
              have t9 := (t8.below hB9).more hz9
              have k9 := (k8.below hB9).more hz9
              have u9 := (u8.below hB9).more hz9
              have HB9 := Lib.hid (HB8.out.trans (hB9.mono HB8.out.size))
              clear hB9 hz9 x8 y8 t8 k8 u8
              go_wp2_with fail
              refine (implCount _ _ _ _ _ _ _ u9 x9 HUF.out HF.out).mono ?_
              rw [HR.out]
              rintro e w10 ⟨rfl, hB10⟩
              have hz10 := hB10.size
              have x10 := (x9.below hB10).more hz10
              have y10 := (y9.below hB10).more hz10
              have t10 := (t9.below hB10).more hz10
              have k10 := (k9.below hB10).more hz10
              have u10 := (u9.below hB10).more hz10
              have HB10 := Lib.hid (HB9.out.trans (hB10.mono HB9.out.size))
              clear hB10 hz10 x9 y9 t9 k9 u9
              go_wp2_with fail
              go_ret
              exact ⟨rfl, HB10.out⟩
            · have hn : fewI K T = false := by simpa using h2
              rw [hn]
              clear h1 h2 hn
              clear x8 y8 t8 k8 u8
              go_wp2_with fail
              go_ret
              exact ⟨rfl, HB8.out⟩
          · have hn : fewI U H = false := by simpa using h1
            rw [hn]
            clear h1 hn
            clear x8 y8 t8 k8 u8
            go_wp2_with fail
            go_ret
            exact ⟨rfl, HB8.out⟩

end Go.Proofs.Ytjcoilabmbmbkaa
