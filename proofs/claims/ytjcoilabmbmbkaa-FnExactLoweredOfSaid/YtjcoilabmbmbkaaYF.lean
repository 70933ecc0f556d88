/-
  The program's LiftedOf.
-/
import Derived.Test.YtjcoilabmbmbkaaYE
namespace Go.Proofs.Ytjcoilabmbmbkaa
open Go.RowKit Go.Shelf Go.Deep

theorem store_fn {P : Program} (w : World) (a : Addr) (m : Mode) (fn : Fn) (first captured : Array Value) : (store a (.func fn first captured) m).run P w = stored P w a (.func fn first captured) m := run_store P w a _ m rfl
attribute [local go_sem] store_fn

set_option maxRecDepth 100000 in
set_option maxHeartbeats 8000000 in
theorem lift2 {n₀ Bp Bg Bl Bc Bf Bn B cH cG cf : Nat} {aH aG af : Option Addr} {K G H : List (List Int)} {f : List Int} (i : Nat) (w : World) (hC : LCtx n₀ Bp Bg Bl Bc Bf Bn B aH aG af cH cG cf K G H f w) (hT : Tells (K.length * G.length) H.length f) (h9 : K.length * G.length ≤ 9) (hG : Good G) (hH : Good H) (hi : i < K.length) :
    Calls Try.prog 72 #[.int .i64 i, .pointer (some ⟨Bp, 0, none⟩), .pointer (some ⟨Bg, 0, none⟩), .pointer (some ⟨Bl, 0, none⟩)] w (Ans (.int .i64 ((numR H.length (sliceL G.length f i) : Nat) : Int)) w) := by
  have hl9 := hG.2.1
  have hl9' := hH.2.1
  have hST := slice_tells hT hi
  have HSL := Lib.hid hST.1
  have HRL : Hid (∀ W Bi, LCtx n₀ Bp Bg Bl Bc Bf Bn B aH aG af cH cG cf K G H f W → Boxed W Bi 3 (.int .i64 i) → Calls Try.prog 71 #[.int .i64 G.length, .func (.func 89) #[] #[.pointer (some ⟨Bc, 0, none⟩), .pointer (some ⟨Bi, 0, none⟩)]] W (LedS (sliceL G.length f i) G.length W)) := Lib.hid fun W Bi hW hb =>
    rowLed_any 89 #[.pointer (some ⟨Bc, 0, none⟩), .pointer (some ⟨Bi, 0, none⟩)] (sliceL G.length f i) G.length W hST.1 hl9 (enters_of Try.func89 (by kernel_rfl) rfl) (fun W' j z hb' hz => by
      have hj : j < G.length := by have := (List.getElem?_eq_some_iff.1 hz).1; rwa [hST.1] at this
      obtain ⟨p, hp, en, _⟩ := tells_at hST hj
      rw [hp] at hz
      cases hz
      rw [← en, slice_nd hj]
      exact curried2 Bi i j W' (hW.below hb') ((hb'.block _ hb.lt).trans hb) hT h9 hi hj)
  have HNU := Lib.hid fun W a'' c'' (hI : Ints W.heap.size W a'' (sliceL G.length f i)) => powNumber aH aG a'' H.length cH G.length cG c'' W.heap.size (sliceL G.length f i) W hI (Nat.le_refl _) hST hl9 hl9'
  obtain ⟨zs, hzs⟩ : ∃ zs, sliceL G.length f i = zs := ⟨_, rfl⟩
  obtain ⟨z, hz⟩ : ∃ z : Nat, numR H.length zs = z := ⟨_, rfl⟩
  rw [hzs] at HRL HNU HSL ⊢
  rw [hz] at HNU ⊢
  have hB00 := Below.refl w.heap.size w
  clear hG hH hT h9 hi hST hzs hz
  go_enter Try.func72, Try.ntmps72
  go_wp2_with fail
  refine wp_region_held_drew (S := fun W => LCtx n₀ Bp Bg Bl Bc Bf Bn B aH aG af cH cG cf K G H f W) (by kernel_rfl) (hC.below (Below.refl w.heap.size w).drew) (fun hS0 => ?_)
  change wpAnyH _ _ _ _ _ _ _ _ (World.drew _)
  have hB0 := hB00.drew
  obtain ⟨V, hV⟩ : ∃ V, World.drew w = V := ⟨_, rfl⟩
  rw [hV] at hS0 hB0 ⊢
  clear hV hB00 hC
  refine wpAnyH_take (i := 0) (v := ?_) rfl (by kernel_rfl) (by kernel_rfl) (by kernel_rfl) (fun _ _ _ h => h) (Or.inl ⟨by rfl, ?_⟩) hS0 ?_
  case refine_2 => rintro w s1; have c0 := s1.p.base; have c1 := s1.p.exponent; have c2 := s1.g.cell; have c3 := s1.l.cell; first | (go_simp; rfl) | go_simp
  simp only [Act.put, List.getElem_toArray, List.getElem_cons_zero, List.setIfInBounds_toArray, List.set_cons_zero, List.set_cons_succ]
  refine wpAnyH_take (i := 1) (v := ?_) rfl (by kernel_rfl) (by kernel_rfl) (by kernel_rfl) (fun _ _ _ h => h) (Or.inl ⟨by rfl, ?_⟩) hS0 ?_
  case refine_2 => rintro w s1; have c0 := s1.p.base; have c1 := s1.p.exponent; have c2 := s1.g.cell; have c3 := s1.l.cell; first | (go_simp; rfl) | go_simp
  simp only [Act.put, List.getElem_toArray, List.getElem_cons_succ, List.getElem_cons_zero, List.setIfInBounds_toArray, List.set_cons_zero, List.set_cons_succ]
  refine wpAnyH_take (i := 2) (v := ?_) rfl (by kernel_rfl) (by kernel_rfl) (by kernel_rfl) (fun _ _ _ h => h) (Or.inl ⟨by rfl, ?_⟩) hS0 ?_
  case refine_2 => rintro w s1; have c0 := s1.p.base; have c1 := s1.p.exponent; have c2 := s1.g.cell; have c3 := s1.l.cell; first | (go_simp; rfl) | go_simp
  simp only [Act.put, List.getElem_toArray, List.getElem_cons_succ, List.getElem_cons_zero, List.setIfInBounds_toArray, List.set_cons_zero, List.set_cons_succ]
  refine wpAnyH_take (i := 3) (v := ?_) rfl (by kernel_rfl) (by kernel_rfl) (by kernel_rfl) (fun _ _ _ h => h) (Or.inl ⟨by rfl, ?_⟩) hS0 ?_
  case refine_2 => rintro w s1; have c0 := s1.p.base; have c1 := s1.p.exponent; have c2 := s1.g.cell; have c3 := s1.l.cell; first | (go_simp; rfl) | go_simp
  simp only [Act.put, List.getElem_toArray, List.getElem_cons_succ, List.getElem_cons_zero, List.setIfInBounds_toArray, List.set_cons_zero, List.set_cons_succ]
  refine wpAnyH_take (i := 4) (v := ?_) rfl (by kernel_rfl) (by kernel_rfl) (by kernel_rfl) (fun _ _ _ h => h) (Or.inl ⟨by rfl, ?_⟩) hS0 ?_
  case refine_2 => rintro w s1; have c0 := s1.p.base; have c1 := s1.p.exponent; have c2 := s1.g.cell; have c3 := s1.l.cell; first | (go_simp; rfl) | go_simp
  simp only [Act.put, List.getElem_toArray, List.getElem_cons_succ, List.getElem_cons_zero, List.setIfInBounds_toArray, List.set_cons_zero, List.set_cons_succ]
  refine wpAnyH_ready (rs := [5]) (by kernel_rfl) (by simp) ?_
  refine AllReadyH.cons rfl (fun K hK => ?_) AllReadyH.nil
  go_simp
  refine (curried1_any i Bc _).mono ?_
  rintro e w1 ⟨rfl, rfl⟩
  have hS1 := hS0.below ((Below.refl _ V).alloc (Nat.le_refl _) (.cells #[.int .i64 i] 3))
  have hB1 := hB0.alloc hB0.size (.cells #[.int .i64 i] 3)
  have hI1 := Boxed.new V 3 (.int .i64 i)
  refine hK.out _ _ hS1 (fun hS1 => ?_)
  obtain ⟨X, hX⟩ : ∃ X, V.alloc (.cells #[.int .i64 i] 3) = X := ⟨_, rfl⟩
  obtain ⟨Bi, hBi⟩ : ∃ Bi, V.heap.size = Bi := ⟨_, rfl⟩
  rw [hX] at hS1 hB1 hI1 ⊢
  rw [hBi] at hI1 ⊢
  clear hX hBi hS0 hB0
  clear hK K
  refine wpAnyH_ready (rs := [6]) (by kernel_rfl) (by simp) ?_
  refine AllReadyH.cons rfl (fun K hK => ?_) AllReadyH.nil
  go_simp
  refine (HRL.out _ Bi hS1 hI1).mono ?_
  rintro e w2 ⟨rfl, hD2, hR2⟩
  have hS2 := hS1.below hD2
  have hB2 := hB1.trans (hD2.mono hB1.size)
  have hRI := hR2.ints hR2.lt
  refine hK.out _ _ hS2 (fun hS2 => ?_)
  clear hD2 hR2
  clear hK K
  refine wpAnyH_ready (rs := [7]) (by kernel_rfl) (by simp) ?_
  refine AllReadyH.cons rfl (fun K hK => ?_) AllReadyH.nil
  go_simp
  refine (HNU.out _ _ _ hRI).mono ?_
  rintro e w3 ⟨rfl, hD3⟩
  have hB3 := hB2.trans (hD3.mono hB2.size)
  have hS3 := hS2.below hD3
  refine hK.out _ _ hS3 (fun hS3 => ?_)
  clear hK K
  refine wpAnyH_take (i := 8) (v := ?_) rfl (by kernel_rfl) (by kernel_rfl) (by kernel_rfl) (fun _ _ _ h => h) (Or.inl ⟨by rfl, ?_⟩) hS3 ?_
  case refine_2 => rintro w s1; have c0 := s1.p.base; have c1 := s1.p.exponent; have c2 := s1.g.cell; have c3 := s1.l.cell; first | (go_simp; rfl) | go_simp
  simp only [Act.put, List.getElem_toArray, List.getElem_cons_succ, List.getElem_cons_zero, List.setIfInBounds_toArray, List.set_cons_zero, List.set_cons_succ]
  refine wpAnyH_done (by kernel_rfl) ?_ _
  go_wp2_with fail
  go_ret
  exact ⟨rfl, hB3⟩

set_option maxRecDepth 100000 in
set_option maxHeartbeats 4000000 in
theorem implLifted (a a' a'' a3 : Option Addr) (c c' c'' c3 : Nat) (K G H : List (List Int)) (f : List Int) (w : World) (hM : Mat w.heap.size w a K) (hM' : Mat w.heap.size w a' G) (hM'' : Mat w.heap.size w a'' H) (hI : Ints w.heap.size w a3 f)
    (hf : Fit K) (hf' : Fit G) (hf'' : Fit H) (hl : f.length ≤ 1048576) :
    Calls Try.prog 31 #[.slice a K.length c, .slice a' G.length c', .slice a'' H.length c'', .slice a3 f.length c3] w (MadeI (lifI K G H f) w) := by
  have hB0 := ((Below.refl w.heap.size w).alloc (Nat.le_refl _) (.cells #[.slice a' G.length c'] 23)).alloc (by simp) (.cells #[.slice a3 f.length c3] 30)
  have bG0 := (Boxed.new w 23 (.slice a' G.length c')).alloc (.cells #[.slice a3 f.length c3] 30)
  have bF0 := Boxed.new (w.alloc (.cells #[.slice a' G.length c'] 23)) 30 (.slice a3 f.length c3)
  have es : ∀ (W : World) (o : Obj), (W.alloc o).heap.size = W.heap.size + 1 := fun W o => by simp
  rw [es] at bF0
  obtain ⟨V, hV⟩ : ∃ V, (w.alloc (.cells #[.slice a' G.length c'] 23)).alloc (.cells #[.slice a3 f.length c3] 30) = V := ⟨_, rfl⟩
  rw [hV] at hB0 bG0 bF0
  have hz0 := hB0.size
  have hPW := powWith a'' a' c'' c' H G V ((hM''.below hB0).more hz0) ((hM'.below hB0).more hz0) hf'' hf'
  have HTim : Hid (∀ W, Below w.heap.size w W → Calls Try.prog 36 #[.slice a K.length c, .slice a' G.length c'] W (MadeB (timL K G) (timOk K G) W)) := Lib.hid fun W hW => implTimes a a' c c' K G W ((hM.below hW).more hW.size) ((hM'.below hW).more hW.size) hf hf'
  have HMap : Hid (∀ W aT cT, Below w.heap.size w W → Mat W.heap.size W aT (timL K G) → Calls Try.prog 18 #[.slice aT (timL K G).length cT, .slice a'' H.length c'', .slice a3 f.length c3] W (Ans (.bool (mapOkI (timL K G) H f)) W)) := Lib.hid fun W aT cT hW hT => implMapOk _ _ _ _ _ _ _ _ _ _ hT ((hM''.below hW).more hW.size) ((hI.below hW).more hW.size) tim_fit hf'' hl
  have HB0 := Lib.hid hB0
  have HV := Lib.hid hV
  have HI := Lib.hid hI
  obtain ⟨o, ho⟩ : ∃ o, timOk K G = o := ⟨_, rfl⟩
  obtain ⟨p, hp⟩ : ∃ p, powOk H G = p := ⟨_, rfl⟩
  obtain ⟨x, hx⟩ : ∃ x, mapOkI (timL K G) H f = x := ⟨_, rfl⟩
  obtain ⟨zs, HZ⟩ : ∃ zs, Hid (lifI K G H f = zs) := ⟨_, rfl⟩
  rw [HZ.out]
  have HZN : Hid (¬ (o = true ∧ p = true ∧ x = true) → zs = []) := Lib.hid fun h => by rw [← HZ.out]; exact lifI_no (by rw [ho, hp, hx]; exact h)
  have HZY : Hid (o = true ∧ p = true ∧ x = true → zs = liftL H.length G.length K.length f) := Lib.hid fun h => by rw [← HZ.out]; exact lifI_yes (by rw [ho, hp, hx]; exact h)
  have HK0 : Hid (o = true → Good K ∧ Good G ∧ K.length * G.length ≤ 9) := Lib.hid fun h => timOk_of (ho.trans h)
  have HH0 : Hid (p = true → Good H ∧ Good G ∧ H.length ^ G.length ≤ 9) := Lib.hid fun h => powOk_of (hp.trans h)
  have HTE : Hid (o = true → x = true → Tells (K.length * G.length) H.length f) := Lib.hid fun h h' => by
    have h2 := (mapOk_iff.1 (hx.trans h')).2.1
    rw [tim_length (ho.trans h)] at h2
    exact h2
  have hlK := hf.1
  have HTL : Hid ((timL K G).length ≤ 1048576) := Lib.hid tim_fit.1
  rw [hp] at hPW
  have HPW := Lib.hid hPW
  have HX := Lib.hid hx
  have HO := Lib.hid ho
  have HbG0 := Lib.hid bG0
  have HbF0 := Lib.hid bF0
  have cG0 := bG0.cell
  have cF0 := bF0.cell
  have ltG0 := bG0.lt
  have ltF0 := bF0.lt
  clear hM hM' hM'' hI hf hf' hf'' ho hp hx hPW hV hB0 bG0 bF0 HZ es
  go_enter Try.func31, Try.ntmps31
  go_wp2_with fail
  rw [HV.out]
  refine HPW.out.mono ?_
  rintro ee w1 ⟨rfl, hB1⟩
  have hB1' := HB0.out.trans (hB1.mono HB0.out.size)
  have hz1 := hB1'.size
  have hP2 := PBox.new w1 a'' H.length c'' a' G.length c'
  have hB2 := hB1'.alloc hz1 (.cells #[.slice a'' H.length c'', .slice a' G.length c'] 58)
  have bG2 : Boxed (w1.alloc (.cells #[.slice a'' H.length c'', .slice a' G.length c'] 58)) _ _ _ := Boxed.alloc ((hB1.block _ HbG0.out.lt).trans HbG0.out) (.cells #[.slice a'' H.length c'', .slice a' G.length c'] 58)
  have bF2 : Boxed (w1.alloc (.cells #[.slice a'' H.length c'', .slice a' G.length c'] 58)) _ _ _ := Boxed.alloc ((hB1.block _ HbF0.out.lt).trans HbF0.out) (.cells #[.slice a'' H.length c'', .slice a' G.length c'] 58)
  clear hB1 hB1' HbG0 HbF0 cG0 cF0 ltG0 ltF0
  cases p with
  | false =>
    have h0 : zs = [] := HZN.out fun h => by cases h.2.1
    subst h0
    have HB2 := Lib.hid hB2
    clear bG2 bF2 hP2 hB2
    go_wp2_with fail
    go_ret
    exact ⟨none, 0, ⟨rfl, HB2.out⟩, .inl ⟨rfl, rfl, rfl⟩⟩
  | true =>
    have cG2 := bG2.cell
    go_wp2_with fail
    obtain ⟨X, hX⟩ : ∃ X, w1.alloc (.cells #[.slice a'' H.length c'', .slice a' G.length c'] 58) = X := ⟨_, rfl⟩
    rw [hX] at hP2 hB2 bG2 bF2 ⊢
    clear hX cG2
    obtain ⟨Bp, hBp⟩ : ∃ B, w1.heap.size = B := ⟨_, rfl⟩
    rw [hBp] at hP2 ⊢
    clear hBp hz1
    have hzX := hB2.size
    refine (HTim.out X hB2).mono ?_
    rw [HO.out]
    rintro ee w3 ⟨aT, cT, ⟨rfl, hB3⟩, hOT⟩
    have hT3 := hOT.mat
    have hz3 := hB3.size
    have HB3 := Lib.hid (hB2.trans (hB3.mono hzX))
    have hP3 := hP2.below hB3 hP2.lt
    have bG3 : Boxed w3 _ _ _ := (hB3.block _ bG2.lt).trans bG2
    have bF3 : Boxed w3 _ _ _ := (hB3.block _ bF2.lt).trans bF2
    have htl := HTL.out
    clear hB3 hOT hP2 bG2 bF2 hB2
    cases o with
    | false =>
      have h0 : zs = [] := HZN.out fun h => by cases h.1
      subst h0
      clear bG3 bF3 hP3 hT3
      go_wp2_with fail
      go_ret
      exact ⟨none, 0, ⟨rfl, HB3.out⟩, .inl ⟨rfl, rfl, rfl⟩⟩
    | true =>
      have cF3 := bF3.cell
      go_wp2_with fail
      refine (HMap.out w3 aT cT HB3.out hT3).mono ?_
      rw [HX.out]
      rintro ee w4 ⟨rfl, hB4⟩
      have HB4 := Lib.hid (HB3.out.trans (hB4.mono HB3.out.size))
      have hP4 := hP3.below hB4 hP3.lt
      have bG4 : Boxed w4 _ _ _ := (hB4.block _ bG3.lt).trans bG3
      have bF4 : Boxed w4 _ _ _ := (hB4.block _ bF3.lt).trans bF3
      clear hB4 bG3 bF3 hP3 hT3 cF3
      cases x with
      | false =>
        have h0 : zs = [] := HZN.out fun h => by cases h.2.2
        subst h0
        clear bG4 bF4 hP4
        go_wp2_with fail
        go_ret
        exact ⟨none, 0, ⟨rfl, HB4.out⟩, .inl ⟨rfl, rfl, rfl⟩⟩
      | true =>
        have HKG := Lib.hid (HK0.out (by trivial))
        have HHG := Lib.hid (HH0.out (by trivial))
        have HTT := Lib.hid (HTE.out (by trivial) (by trivial))
        have c1 := hP4.exponent
        have ltP := hP4.lt
        go_wp2_with fail
        refine (pairsWith_any a a' K.length G.length c c' w4 HKG.out.1.1 HKG.out.2.1.1 HKG.out.2.2).mono ?_
        rintro ee w5 ⟨g, cap, rfl, hB5, hP5⟩
        have HB5 := Lib.hid (HB4.out.trans (hB5.mono HB4.out.size))
        have hPB5 := hP4.below hB5 ltP
        have bG5 : Boxed w5 _ _ _ := (hB5.block _ bG4.lt).trans bG4
        have bF5 : Boxed w5 _ _ _ := (hB5.block _ bF4.lt).trans bF4
        have hz5 := hB5.size
        clear hB5 hP4 bG4 bF4 c1 ltP
        go_wp2_with fail
        refine (numbersOf_any w4.heap.size g cap K.length G.length w5 hP5 hz5 HKG.out.2.2).mono ?_
        rintro ee w6 ⟨rfl, hB6, hN6⟩
        have HB6 := Lib.hid (HB5.out.trans (hB6.mono HB5.out.size))
        have hPB6 := hPB5.below hB6 hPB5.lt
        have bG6 : Boxed w6 _ _ _ := (hB6.block _ bG5.lt).trans bG5
        have bF6 : Boxed w6 _ _ _ := (hB6.block _ bF5.lt).trans bF5
        clear hB6 hPB5 bG5 bF5 hP5 hz5
        obtain ⟨B, hBB⟩ : ∃ B, w5.heap.size = B := ⟨_, rfl⟩
        rw [hBB] at hN6 ⊢
        clear hBB
        go_wp2_with fail
        have o7 := (Below.refl w6.heap.size w6).alloc (Nat.le_refl _) (.cells #[.map (some B)] 76)
        have bN7 := Boxed.new w6 76 (.map (some B))
        have HB7 := Lib.hid (HB6.out.trans (o7.mono HB6.out.size))
        have hP7 := hPB6.below o7 hPB6.lt
        have bG7 : Boxed _ _ _ _ := (o7.block _ bG6.lt).trans bG6
        have bF7 : Boxed _ _ _ _ := (o7.block _ bF6.lt).trans bF6
        have hN7 := hN6.below o7
        obtain ⟨X7, hX7⟩ : ∃ X, w6.alloc (.cells #[.map (some B)] 76) = X := ⟨_, rfl⟩
        obtain ⟨Bn, hBn⟩ : ∃ B, w6.heap.size = B := ⟨_, rfl⟩
        rw [hX7] at bN7 HB7 hP7 bG7 bF7 hN7 ⊢
        rw [hBn] at bN7 ⊢
        clear hX7 hBn o7 hPB6 bG6 bF6 hN6
        refine (curried_any 70 #[.pointer (some ⟨w.heap.size + 1, 0, none⟩), .pointer (some ⟨Bn, 0, none⟩)] X7).mono ?_
        rintro ee w' ⟨rfl, rfl⟩
        have o8 := (Below.refl X7.heap.size X7).alloc (Nat.le_refl _) (.cells #[.func (.func 70) #[] #[.pointer (some ⟨w.heap.size + 1, 0, none⟩), .pointer (some ⟨Bn, 0, none⟩)]] 84)
        have bC8 := Boxed.new X7 84 (.func (.func 70) #[] #[.pointer (some ⟨w.heap.size + 1, 0, none⟩), .pointer (some ⟨Bn, 0, none⟩)])
        have HB8 := Lib.hid (HB7.out.trans (o8.mono HB7.out.size))
        have hP8 := hP7.below o8 hP7.lt
        have bG8 : Boxed _ _ _ _ := (o8.block _ bG7.lt).trans bG7
        have bF8 : Boxed _ _ _ _ := (o8.block _ bF7.lt).trans bF7
        have bN8 : Boxed _ _ _ _ := (o8.block _ bN7.lt).trans bN7
        have hN8 := hN7.below o8
        obtain ⟨X8, hX8⟩ : ∃ X, X7.alloc (.cells #[.func (.func 70) #[] #[.pointer (some ⟨w.heap.size + 1, 0, none⟩), .pointer (some ⟨Bn, 0, none⟩)]] 84) = X := ⟨_, rfl⟩
        obtain ⟨Bc, hBc⟩ : ∃ B, X7.heap.size = B := ⟨_, rfl⟩
        rw [hX8] at bC8 HB8 hP8 bG8 bF8 bN8 hN8 ⊢
        rw [hBc] at bC8 ⊢
        clear hX8 hBc o8 hP7 bG7 bF7 bN7 hN7
        go_wp2_with fail
        have o9 := (Below.refl X8.heap.size X8).alloc (Nat.le_refl _) (.cells #[.func (.func 88) #[] #[.pointer (some ⟨Bc, 0, none⟩)]] 80)
        have bL9 := Boxed.new X8 80 (.func (.func 88) #[] #[.pointer (some ⟨Bc, 0, none⟩)])
        have HB9 := Lib.hid (HB8.out.trans (o9.mono HB8.out.size))
        have hP9 := hP8.below o9 hP8.lt
        have bG9 : Boxed _ _ _ _ := (o9.block _ bG8.lt).trans bG8
        have bF9 : Boxed _ _ _ _ := (o9.block _ bF8.lt).trans bF8
        have bN9 : Boxed _ _ _ _ := (o9.block _ bN8.lt).trans bN8
        have bC9 : Boxed _ _ _ _ := (o9.block _ bC8.lt).trans bC8
        have hN9 := hN8.below o9
        obtain ⟨X9, hX9⟩ : ∃ X, X8.alloc (.cells #[.func (.func 88) #[] #[.pointer (some ⟨Bc, 0, none⟩)]] 80) = X := ⟨_, rfl⟩
        obtain ⟨Bl, hBl⟩ : ∃ B, X8.heap.size = B := ⟨_, rfl⟩
        rw [hX9] at bL9 HB9 hP9 bG9 bF9 bN9 bC9 hN9 ⊢
        rw [hBl] at bL9 ⊢
        clear hX9 hBl o9 hP8 bG8 bF8 bN8 bC8 hN8
        have hC : LCtx w.heap.size Bp w.heap.size Bl Bc (w.heap.size + 1) Bn B a'' a' a3 c'' c' c3 K G H f X9 := ⟨hP9, bG9, bL9, bC9, bF9, bN9, hN9, HI.out.below HB9.out, HB9.out.size⟩
        have hZL : zs.length = K.length := by rw [HZY.out ⟨by trivial, by trivial, by trivial⟩, liftL_length]
        have HRL := Lib.hid (rowLed_any 72 #[.pointer (some ⟨Bp, 0, none⟩), .pointer (some ⟨w.heap.size, 0, none⟩), .pointer (some ⟨Bl, 0, none⟩)] zs K.length X9 hZL HKG.out.1.2.1 (enters_of Try.func72 (by kernel_rfl) rfl) (fun W' j z hb' hz => by
          have hj : j < K.length := by have := (List.getElem?_eq_some_iff.1 hz).1; rwa [hZL] at this
          rw [HZY.out ⟨by trivial, by trivial, by trivial⟩, lift_get hj] at hz
          cases hz
          exact lift2 j W' (hC.below hb') HTT.out HKG.out.2.2 HKG.out.2.1 HHG.out.1 hj))
        have HL := Lib.hid hZL
        clear hC hZL hP9 bG9 bF9 bN9 bC9 bL9 hN9
        refine HRL.out.mono ?_
        rintro ee w10 ⟨rfl, hB10, hR⟩
        have hs9 := HB9.out.size
        have HB10 := Lib.hid (HB9.out.trans (hB10.mono hs9))
        have HR := Lib.hid hR
        clear hB10 hR
        go_wp2_with fail
        go_ret
        exact ⟨some ⟨X9.heap.size, 0, none⟩, K.length, ⟨by rw [HL.out]; rfl, HB10.out⟩, .inr ⟨X9.heap.size, rfl, HL.out.symm, HR.out, hs9⟩⟩

end Go.Proofs.Ytjcoilabmbmbkaa
