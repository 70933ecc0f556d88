/-
  The program's LoweredOf.
-/
import Derived.Test.YtjcoilabmbmbkaaYF
namespace Go.Proofs.Ytjcoilabmbmbkaa
open Go.RowKit Go.Shelf Go.Deep

attribute [local go_sem] store_fn

/-- WHAT THE CLOSURES OF LoweredOf FIND. -/
structure DCtx (n₀ Bp Be : Nat) (aH aG ae : Option Addr) (cH cG ce : Nat) (G H : List (List Int)) (f : List Int) (W : World) : Prop where
  p : PBox W Bp aH H.length cH aG G.length cG
  eb : Boxed W Be 30 (.slice ae f.length ce)
  ints : Ints n₀ W ae f
  le : n₀ ≤ W.heap.size
theorem DCtx.below {n₀ Bp Be cH cG ce : Nat} {aH aG ae : Option Addr} {G H : List (List Int)} {f : List Int} {W W' : World} (h : DCtx n₀ Bp Be aH aG ae cH cG ce G H f W) (hb : Below W.heap.size W W') : DCtx n₀ Bp Be aH aG ae cH cG ce G H f W' :=
  ⟨h.p.below hb h.p.lt, (hb.block _ h.eb.lt).trans h.eb, h.ints.below (hb.mono h.le), Nat.le_trans h.le hb.size⟩

set_option maxRecDepth 100000 in
set_option maxHeartbeats 1000000 in
theorem low11 (BX b L j : Nat) (zs : List Int) (z : Int) (w : World) (hX : Boxed w BX 30 (.slice (some ⟨b, 0, none⟩) L L)) (hR : RowI w b zs) (hL : zs.length = L) (_h9 : L ≤ 9) (hz : zs[j]? = some z) :
    Calls Try.prog 76 #[.int .i64 j, .pointer (some ⟨BX, 0, none⟩)] w (Ans (.int .i64 z) w) := by
  have hj : j < zs.length := (List.getElem?_eq_some_iff.1 hz).1
  have cX := hX.cell
  have cR := World.rowIs.cell hR hj
  rw [hz, Option.getD_some] at cR
  rw [hL] at hj
  have hB := Below.refl w.heap.size w
  clear hX hR hL hz
  go_enter Try.func76, Try.ntmps76
  go_wp2_with fail
  go_ret
  exact ⟨rfl, hB⟩

/-- A function that tells a row lies ready. -/
def LowFn (L : Nat) (zs : List Int) (w : World) (e : Ending) (w' : World) : Prop := ∃ BX b : Nat, e = .returned (.func (.func 76) #[] #[.pointer (some ⟨BX, 0, none⟩)]) ∧ Below w.heap.size w w' ∧ Boxed w' BX 30 (.slice (some ⟨b, 0, none⟩) L L) ∧ RowI w' b zs

set_option maxRecDepth 100000 in
set_option maxHeartbeats 8000000 in
theorem low1 {n₀ Bp Be cH cG ce : Nat} {aH aG ae : Option Addr} {G H : List (List Int)} {f : List Int} (i y : Nat) (w : World) (hC : DCtx n₀ Bp Be aH aG ae cH cG ce G H f w) (hG : Good G) (hH : Good H) (_hf : f.length ≤ 9) (hy : f[i]? = some (y : Int)) (hy9 : y ≤ 1000000) :
    Calls Try.prog 75 #[.int .i64 i, .pointer (some ⟨Bp, 0, none⟩), .pointer (some ⟨Be, 0, none⟩)] w (LowFn G.length (rowR H.length G.length y) w) := by
  have hif : i < f.length := (List.getElem?_eq_some_iff.1 hy).1
  have HRow := Lib.hid fun W => powRow aH aG H.length cH G.length cG y W hy9 hG.2.1 hH.1 hH.2.1
  obtain ⟨b0, o0, u, rfl, hb0, -, HU⟩ := hC.ints.at_ hif
  have HY : Hid (∀ W, Ints n₀ W (some ⟨b0, o0, none⟩) f → W.cell? ⟨b0, o0 + i, none⟩ = some (.int .i64 (y : Int))) := Lib.hid fun W hW => by
    obtain ⟨b, o, u, e, _, hc, HU⟩ := hW.at_ hif
    cases e
    have := HU.out; rw [hy] at this; cases this
    exact hc
  obtain ⟨zs, hzs⟩ : ∃ zs, rowR H.length G.length y = zs := ⟨_, rfl⟩
  rw [hzs] at HRow ⊢
  have hi0 : (0 : Int) ≤ (i : Int) := Int.natCast_nonneg _
  have hi1 : (i : Int) < (f.length : Int) := by omega
  have hB00 := Below.refl w.heap.size w
  have HC := Lib.hid hC
  clear HU hy hzs hG hH hb0
  go_enter Try.func75, Try.ntmps75
  go_wp2_with fail
  refine wp_region_held_drew (S := fun W => DCtx n₀ Bp Be aH aG (some ⟨b0, o0, none⟩) cH cG ce G H f W) (by kernel_rfl) (hC.below (Below.refl w.heap.size w).drew) (fun hS => ?_)
  change wpAnyH _ _ _ _ _ _ _ _ (World.drew _)
  have hB0 := hB00.drew
  obtain ⟨V, hV⟩ : ∃ V, World.drew w = V := ⟨_, rfl⟩
  rw [hV] at hS hB0 ⊢
  clear hV hB00 hC
  refine wpAnyH_take (i := 0) (v := ?_) rfl (by kernel_rfl) (by kernel_rfl) (by kernel_rfl) (fun _ _ _ h => h) (Or.inl ⟨by rfl, ?_⟩) hS ?_
  case refine_2 => rintro w s1; have c0 := s1.p.base; have c1 := s1.p.exponent; have c2 := s1.eb.cell; have c3 := HY.out _ s1.ints; first | (go_simp; rfl) | go_simp
  simp only [Act.put, List.getElem_toArray, List.getElem_cons_zero, List.setIfInBounds_toArray, List.set_cons_zero, List.set_cons_succ]
  refine wpAnyH_take (i := 1) (v := ?_) rfl (by kernel_rfl) (by kernel_rfl) (by kernel_rfl) (fun _ _ _ h => h) (Or.inl ⟨by rfl, ?_⟩) hS ?_
  case refine_2 => rintro w s1; have c0 := s1.p.base; have c1 := s1.p.exponent; have c2 := s1.eb.cell; have c3 := HY.out _ s1.ints; first | (go_simp; rfl) | go_simp
  simp only [Act.put, List.getElem_toArray, List.getElem_cons_succ, List.getElem_cons_zero, List.setIfInBounds_toArray, List.set_cons_zero, List.set_cons_succ]
  refine wpAnyH_take (i := 2) (v := ?_) rfl (by kernel_rfl) (by kernel_rfl) (by kernel_rfl) (fun _ _ _ h => h) (Or.inl ⟨by rfl, ?_⟩) hS ?_
  case refine_2 => rintro w s1; have c0 := s1.p.base; have c1 := s1.p.exponent; have c2 := s1.eb.cell; have c3 := HY.out _ s1.ints; first | (go_simp; rfl) | go_simp
  simp only [Act.put, List.getElem_toArray, List.getElem_cons_succ, List.getElem_cons_zero, List.setIfInBounds_toArray, List.set_cons_zero, List.set_cons_succ]
  refine wpAnyH_take (i := 3) (v := ?_) rfl (by kernel_rfl) (by kernel_rfl) (by kernel_rfl) (fun _ _ _ h => h) (Or.inl ⟨by rfl, ?_⟩) hS ?_
  case refine_2 => rintro w s1; have c0 := s1.p.base; have c1 := s1.p.exponent; have c2 := s1.eb.cell; have c3 := HY.out _ s1.ints; first | (go_simp; rfl) | go_simp
  simp only [Act.put, List.getElem_toArray, List.getElem_cons_succ, List.getElem_cons_zero, List.setIfInBounds_toArray, List.set_cons_zero, List.set_cons_succ]
  refine wpAnyH_take (i := 4) (v := ?_) rfl (by kernel_rfl) (by kernel_rfl) (by kernel_rfl) (fun _ _ _ h => h) (Or.inl ⟨by rfl, ?_⟩) hS ?_
  case refine_2 => rintro w s1; have c0 := s1.p.base; have c1 := s1.p.exponent; have c2 := s1.eb.cell; have c3 := HY.out _ s1.ints; first | (go_simp; rfl) | go_simp
  simp only [Act.put, List.getElem_toArray, List.getElem_cons_succ, List.getElem_cons_zero, List.setIfInBounds_toArray, List.set_cons_zero, List.set_cons_succ]
  refine wpAnyH_ready (rs := [5, 6]) (by kernel_rfl) (by simp) ?_
  refine AllReadyH.cons rfl (fun K hK => ?_) ?_
  · skip
    go_simp
    refine (HRow.out V).mono ?_
    rintro e w1 ⟨b, rfl, hD, hR, hbb⟩
    have hB1 := hB0.trans (hD.mono hB0.size)
    have hSc := hS.below hD
    refine hK.out _ _ hSc (fun hSx => ?_)
    clear hSx hD hbb
    clear hK K
    refine wpAnyH_ready (rs := [6]) (by kernel_rfl) (by simp) ?_
    refine AllReadyH.cons rfl (fun K hK => ?_) AllReadyH.nil
    go_simp
    have o := (Below.refl w1.heap.size w1).alloc (Nat.le_refl _) (.cells #[.slice none 0 0] 30)
    have hB2 := hB1.trans (o.mono hB1.size)
    have hSca := hSc.below o
    have hne := Nat.ne_of_lt hR.lt
    have hR := hR.below o hR.lt
    have hBX' := hB1.size
    have bY := Boxed.new w1 30 (.slice none 0 0)
    refine hK.out _ _ hSca (fun hSx => ?_)
    obtain ⟨w2, hX⟩ : ∃ X, w1.alloc (.cells #[.slice none 0 0] 30) = X := ⟨_, rfl⟩
    obtain ⟨BX, hBX⟩ : ∃ B, w1.heap.size = B := ⟨_, rfl⟩
    rw [hX] at hB2 hSca bY hR ⊢
    rw [hBX] at bY hBX' hne ⊢
    clear hX hBX hSx o
    clear hK K
    refine wpAnyH_ready (rs := [7]) (by kernel_rfl) (by simp) ?_
    refine AllReadyH.cons rfl (fun K hK => ?_) AllReadyH.nil
    go_simp
    have cX := bY.cell
    have fX := bY.frozen
    go_simp
    have bZ := bY.set (.slice (some ⟨b, 0, none⟩) G.length G.length)
    have hBz := hB2.setCell (p := ⟨BX, 0, none⟩) hBX' (.slice (some ⟨b, 0, none⟩) G.length G.length)
    have hRz : RowI (w2.setCell ⟨BX, 0, none⟩ (.slice (some ⟨b, 0, none⟩) G.length G.length)) b zs := World.rowIs.setOther hR hne _
    refine hK.out _ _ (HC.out.below hBz) (fun hSz => ?_)
    clear hK K
    refine wpAnyH_done (by kernel_rfl) ?_ _
    go_wp2_with fail
    go_ret
    exact ⟨BX, b, rfl, hBz, bZ, hRz⟩
  refine AllReadyH.cons rfl (fun K hK => ?_) AllReadyH.nil
  go_simp
  have o := (Below.refl V.heap.size V).alloc (Nat.le_refl _) (.cells #[.slice none 0 0] 30)
  have hB1 := hB0.trans (o.mono hB0.size)
  have hSa := hS.below o
  have hBX' := hB0.size
  have bX := Boxed.new V 30 (.slice none 0 0)
  refine hK.out _ _ hSa (fun hSx => ?_)
  obtain ⟨w1, hX⟩ : ∃ X, V.alloc (.cells #[.slice none 0 0] 30) = X := ⟨_, rfl⟩
  obtain ⟨BX, hBX⟩ : ∃ B, V.heap.size = B := ⟨_, rfl⟩
  rw [hX] at hB1 hSa bX ⊢
  rw [hBX] at bX hBX' ⊢
  clear hX hBX hSx o
  clear hK K
  refine wpAnyH_ready (rs := [5]) (by kernel_rfl) (by simp) ?_
  refine AllReadyH.cons rfl (fun K hK => ?_) AllReadyH.nil
  go_simp
  refine (HRow.out w1).mono ?_
  rintro e w2 ⟨b, rfl, hD, hR, hbb⟩
  have hB2 := hB1.trans (hD.mono hB1.size)
  have hSac := hSa.below hD
  have bY : Boxed w2 BX _ _ := (hD.block _ bX.lt).trans bX
  have hne : b ≠ BX := by have := bX.lt; omega
  clear bX
  refine hK.out _ _ hSac (fun hSx => ?_)
  clear hSx hD hbb
  clear hK K
  refine wpAnyH_ready (rs := [7]) (by kernel_rfl) (by simp) ?_
  refine AllReadyH.cons rfl (fun K hK => ?_) AllReadyH.nil
  go_simp
  have cX := bY.cell
  have fX := bY.frozen
  go_simp
  have bZ := bY.set (.slice (some ⟨b, 0, none⟩) G.length G.length)
  have hBz := hB2.setCell (p := ⟨BX, 0, none⟩) hBX' (.slice (some ⟨b, 0, none⟩) G.length G.length)
  have hRz : RowI (w2.setCell ⟨BX, 0, none⟩ (.slice (some ⟨b, 0, none⟩) G.length G.length)) b zs := World.rowIs.setOther hR hne _
  refine hK.out _ _ (HC.out.below hBz) (fun hSz => ?_)
  clear hK K
  refine wpAnyH_done (by kernel_rfl) ?_ _
  go_wp2_with fail
  go_ret
  exact ⟨BX, b, rfl, hBz, bZ, hRz⟩

/-- WHAT THE CLOSURE OF A PAIR FINDS. -/
structure ECtx (n₀ Bp Be Bl Bt base g cap n : Nat) (aH aG ae : Option Addr) (cH cG ce : Nat) (G H : List (List Int)) (f : List Int) (W : World) : Prop where
  d : DCtx n₀ Bp Be aH aG ae cH cG ce G H f W
  l : Boxed W Bl 80 (.func (.func 75) #[] #[.pointer (some ⟨Bp, 0, none⟩), .pointer (some ⟨Be, 0, none⟩)])
  t : Boxed W Bt 78 (.slice (some ⟨g, 0, none⟩) (n * G.length) cap)
  ps : Pairs base n G.length W g cap
theorem ECtx.below {n₀ Bp Be Bl Bt base g cap n cH cG ce : Nat} {aH aG ae : Option Addr} {G H : List (List Int)} {f : List Int} {W W' : World} (h : ECtx n₀ Bp Be Bl Bt base g cap n aH aG ae cH cG ce G H f W) (hb : Below W.heap.size W W') : ECtx n₀ Bp Be Bl Bt base g cap n aH aG ae cH cG ce G H f W' :=
  ⟨h.d.below hb, (hb.block _ h.l.lt).trans h.l, (hb.block _ h.t.lt).trans h.t, ownsRow_below h.ps hb⟩

set_option maxRecDepth 100000 in
set_option maxHeartbeats 8000000 in
theorem low2 {n₀ Bp Be Bl Bt base g cap n cH cG ce : Nat} {aH aG ae : Option Addr} {G H : List (List Int)} {f : List Int} (z y r : Nat) (w : World) (hC : ECtx n₀ Bp Be Bl Bt base g cap n aH aG ae cH cG ce G H f w) (hG : Good G) (hH : Good H) (hf : f.length ≤ 9) (h9 : n * G.length ≤ 9) (hz : z < n * G.length)
    (hy : f[z / G.length]? = some (y : Int)) (hy9 : y ≤ 1000000) (hr : (rowR H.length G.length y)[z % G.length]? = some (r : Int)) :
    Calls Try.prog 77 #[.int .i64 z, .pointer (some ⟨Bl, 0, none⟩), .pointer (some ⟨Bt, 0, none⟩)] w (Ans (.int .i64 r) w) := by
  have HL1 : Hid (∀ W, ECtx n₀ Bp Be Bl Bt base g cap n aH aG ae cH cG ce G H f W → Calls Try.prog 75 #[.int .i64 ((z / G.length : Nat) : Int), .pointer (some ⟨Bp, 0, none⟩), .pointer (some ⟨Be, 0, none⟩)] W (LowFn G.length (rowR H.length G.length y) W)) := Lib.hid fun W hW => low1 (z / G.length) y W hW.d hG hH hf hy hy9
  have HL2 := Lib.hid fun W BX b (hX : Boxed W BX 30 (.slice (some ⟨b, 0, none⟩) G.length G.length)) (hR : RowI W b (rowR H.length G.length y)) => low11 BX b G.length (z % G.length) (rowR H.length G.length y) (r : Int) W hX hR (rowR_length _ _ _) hG.2.1 hr
  have HP : Hid (∀ W, ECtx n₀ Bp Be Bl Bt base g cap n aH aG ae cH cG ce G H f W → W.cell? ⟨g, z * 2, none⟩ = some (.int .i64 ((z / G.length : Nat) : Int)) ∧ W.cell? ⟨g, z * 2 + 1, none⟩ = some (.int .i64 ((z % G.length : Nat) : Int))) := Lib.hid fun W hW => pairs_cells hW.ps hz
  obtain ⟨zs, hzs⟩ : ∃ zs, rowR H.length G.length y = zs := ⟨_, rfl⟩
  obtain ⟨z1, hz1⟩ : ∃ z1, z / G.length = z1 := ⟨_, rfl⟩
  obtain ⟨z2, hz2⟩ : ∃ z2, z % G.length = z2 := ⟨_, rfl⟩
  obtain ⟨N, hN⟩ : ∃ N, n * G.length = N := ⟨_, rfl⟩
  have HT : Hid (∀ W, ECtx n₀ Bp Be Bl Bt base g cap n aH aG ae cH cG ce G H f W → W.cell? ⟨Bt, 0, none⟩ = some (.slice (some ⟨g, 0, none⟩) N cap)) := Lib.hid fun W hW => by rw [← hN]; exact hW.t.cell
  rw [hzs] at HL1 HL2
  rw [hz1] at HL1 HP
  rw [hz2] at HL2 HP
  have h9b := h9
  rw [hN] at hz h9b
  have hi0 : (0 : Int) ≤ (z : Int) := Int.natCast_nonneg _
  have hi1 : (z : Int) < (N : Int) := by omega
  have hB00 := Below.refl w.heap.size w
  clear hy hr hzs hz1 hz2 hN hG hH
  go_enter Try.func77, Try.ntmps77
  go_wp2_with fail
  refine wp_region_held_drew (S := fun W => ECtx n₀ Bp Be Bl Bt base g cap n aH aG ae cH cG ce G H f W) (by kernel_rfl) (hC.below (Below.refl w.heap.size w).drew) (fun hS0 => ?_)
  change wpAnyH _ _ _ _ _ _ _ _ (World.drew _)
  have hB0 := hB00.drew
  obtain ⟨V, hV⟩ : ∃ V, World.drew w = V := ⟨_, rfl⟩
  rw [hV] at hS0 hB0 ⊢
  clear hV hB00 hC
  refine wpAnyH_take (i := 0) (v := ?_) rfl (by kernel_rfl) (by kernel_rfl) (by kernel_rfl) (fun _ _ _ h => h) (Or.inl ⟨by rfl, ?_⟩) hS0 ?_
  case refine_2 => rintro w s1; have c0 := s1.l.cell; have c1 := HT.out _ s1; obtain ⟨c2, c3⟩ := HP.out _ s1; first | (go_simp; rfl) | go_simp
  simp only [Act.put, List.getElem_toArray, List.getElem_cons_zero, List.setIfInBounds_toArray, List.set_cons_zero, List.set_cons_succ]
  refine wpAnyH_take (i := 1) (v := ?_) rfl (by kernel_rfl) (by kernel_rfl) (by kernel_rfl) (fun _ _ _ h => h) (Or.inl ⟨by rfl, ?_⟩) hS0 ?_
  case refine_2 => rintro w s1; have c0 := s1.l.cell; have c1 := HT.out _ s1; obtain ⟨c2, c3⟩ := HP.out _ s1; first | (go_simp; rfl) | go_simp
  simp only [Act.put, List.getElem_toArray, List.getElem_cons_succ, List.getElem_cons_zero, List.setIfInBounds_toArray, List.set_cons_zero, List.set_cons_succ]
  refine wpAnyH_take (i := 2) (v := ?_) rfl (by kernel_rfl) (by kernel_rfl) (by kernel_rfl) (fun _ _ _ h => h) (Or.inl ⟨by rfl, ?_⟩) hS0 ?_
  case refine_2 => rintro w s1; have c0 := s1.l.cell; have c1 := HT.out _ s1; obtain ⟨c2, c3⟩ := HP.out _ s1; first | (go_simp; rfl) | go_simp
  simp only [Act.put, List.getElem_toArray, List.getElem_cons_succ, List.getElem_cons_zero, List.setIfInBounds_toArray, List.set_cons_zero, List.set_cons_succ]
  refine wpAnyH_take (i := 3) (v := ?_) rfl (by kernel_rfl) (by kernel_rfl) (by kernel_rfl) (fun _ _ _ h => h) (Or.inl ⟨by rfl, ?_⟩) hS0 ?_
  case refine_2 => rintro w s1; have c0 := s1.l.cell; have c1 := HT.out _ s1; obtain ⟨c2, c3⟩ := HP.out _ s1; first | (go_simp; rfl) | go_simp
  simp only [Act.put, List.getElem_toArray, List.getElem_cons_succ, List.getElem_cons_zero, List.setIfInBounds_toArray, List.set_cons_zero, List.set_cons_succ]
  refine wpAnyH_take (i := 4) (v := ?_) rfl (by kernel_rfl) (by kernel_rfl) (by kernel_rfl) (fun _ _ _ h => h) (Or.inl ⟨by rfl, ?_⟩) hS0 ?_
  case refine_2 => rintro w s1; have c0 := s1.l.cell; have c1 := HT.out _ s1; obtain ⟨c2, c3⟩ := HP.out _ s1; first | (go_simp; rfl) | go_simp
  simp only [Act.put, List.getElem_toArray, List.getElem_cons_succ, List.getElem_cons_zero, List.setIfInBounds_toArray, List.set_cons_zero, List.set_cons_succ]
  refine wpAnyH_take (i := 5) (v := ?_) rfl (by kernel_rfl) (by kernel_rfl) (by kernel_rfl) (fun _ _ _ h => h) (Or.inl ⟨by rfl, ?_⟩) hS0 ?_
  case refine_2 => rintro w s1; have c0 := s1.l.cell; have c1 := HT.out _ s1; obtain ⟨c2, c3⟩ := HP.out _ s1; first | (go_simp; rfl) | go_simp
  simp only [Act.put, List.getElem_toArray, List.getElem_cons_succ, List.getElem_cons_zero, List.setIfInBounds_toArray, List.set_cons_zero, List.set_cons_succ]
  refine wpAnyH_take (i := 7) (v := ?_) rfl (by kernel_rfl) (by kernel_rfl) (by kernel_rfl) (fun _ _ _ h => h) (Or.inl ⟨by rfl, ?_⟩) hS0 ?_
  case refine_2 => rintro w s1; have c0 := s1.l.cell; have c1 := HT.out _ s1; obtain ⟨c2, c3⟩ := HP.out _ s1; first | (go_simp; rfl) | go_simp
  simp only [Act.put, List.getElem_toArray, List.getElem_cons_succ, List.getElem_cons_zero, List.setIfInBounds_toArray, List.set_cons_zero, List.set_cons_succ]
  refine wpAnyH_take (i := 8) (v := ?_) rfl (by kernel_rfl) (by kernel_rfl) (by kernel_rfl) (fun _ _ _ h => h) (Or.inl ⟨by rfl, ?_⟩) hS0 ?_
  case refine_2 => rintro w s1; have c0 := s1.l.cell; have c1 := HT.out _ s1; obtain ⟨c2, c3⟩ := HP.out _ s1; first | (go_simp; rfl) | go_simp
  simp only [Act.put, List.getElem_toArray, List.getElem_cons_succ, List.getElem_cons_zero, List.setIfInBounds_toArray, List.set_cons_zero, List.set_cons_succ]
  refine wpAnyH_take (i := 9) (v := ?_) rfl (by kernel_rfl) (by kernel_rfl) (by kernel_rfl) (fun _ _ _ h => h) (Or.inl ⟨by rfl, ?_⟩) hS0 ?_
  case refine_2 => rintro w s1; have c0 := s1.l.cell; have c1 := HT.out _ s1; obtain ⟨c2, c3⟩ := HP.out _ s1; first | (go_simp; rfl) | go_simp
  simp only [Act.put, List.getElem_toArray, List.getElem_cons_succ, List.getElem_cons_zero, List.setIfInBounds_toArray, List.set_cons_zero, List.set_cons_succ]
  refine wpAnyH_take (i := 10) (v := ?_) rfl (by kernel_rfl) (by kernel_rfl) (by kernel_rfl) (fun _ _ _ h => h) (Or.inl ⟨by rfl, ?_⟩) hS0 ?_
  case refine_2 => rintro w s1; have c0 := s1.l.cell; have c1 := HT.out _ s1; obtain ⟨c2, c3⟩ := HP.out _ s1; first | (go_simp; rfl) | go_simp
  simp only [Act.put, List.getElem_toArray, List.getElem_cons_succ, List.getElem_cons_zero, List.setIfInBounds_toArray, List.set_cons_zero, List.set_cons_succ]
  refine wpAnyH_take (i := 11) (v := ?_) rfl (by kernel_rfl) (by kernel_rfl) (by kernel_rfl) (fun _ _ _ h => h) (Or.inl ⟨by rfl, ?_⟩) hS0 ?_
  case refine_2 => rintro w s1; have c0 := s1.l.cell; have c1 := HT.out _ s1; obtain ⟨c2, c3⟩ := HP.out _ s1; first | (go_simp; rfl) | go_simp
  simp only [Act.put, List.getElem_toArray, List.getElem_cons_succ, List.getElem_cons_zero, List.setIfInBounds_toArray, List.set_cons_zero, List.set_cons_succ]
  refine wpAnyH_ready (rs := [6]) (by kernel_rfl) (by simp) ?_
  refine AllReadyH.cons rfl (fun K hK => ?_) AllReadyH.nil
  go_simp
  refine (HL1.out _ hS0).mono ?_
  rintro e w1 ⟨BX, b, rfl, hD, bX, hR⟩
  have hS1 := hS0.below hD
  have hB1 := hB0.trans (hD.mono hB0.size)
  refine hK.out _ _ hS1 (fun hS1 => ?_)
  clear hD
  clear hK K
  refine wpAnyH_ready (rs := [12]) (by kernel_rfl) (by simp) ?_
  refine AllReadyH.cons rfl (fun K hK => ?_) AllReadyH.nil
  go_simp
  refine (HL2.out _ BX b bX hR).mono ?_
  rintro e w2 ⟨rfl, hD⟩
  have hS2 := hS1.below hD
  have hB2 := hB1.trans (hD.mono hB1.size)
  refine hK.out _ _ hS2 (fun hS2 => ?_)
  clear hD
  clear hK K
  refine wpAnyH_take (i := 13) (v := ?_) rfl (by kernel_rfl) (by kernel_rfl) (by kernel_rfl) (fun _ _ _ h => h) (Or.inl ⟨by rfl, ?_⟩) hS2 ?_
  case refine_2 => rintro w s1; have c0 := s1.l.cell; have c1 := HT.out _ s1; obtain ⟨c2, c3⟩ := HP.out _ s1; first | (go_simp; rfl) | go_simp
  simp only [Act.put, List.getElem_toArray, List.getElem_cons_succ, List.getElem_cons_zero, List.setIfInBounds_toArray, List.set_cons_zero, List.set_cons_succ]
  refine wpAnyH_done (by kernel_rfl) ?_ _
  go_wp2_with fail
  go_ret
  exact ⟨rfl, hB2⟩

set_option maxRecDepth 100000 in
set_option maxHeartbeats 4000000 in
theorem implLowered (a a' a'' a3 : Option Addr) (c c' c'' c3 : Nat) (K G H : List (List Int)) (f : List Int) (w : World) (hM : Mat w.heap.size w a K) (hM' : Mat w.heap.size w a' G) (hM'' : Mat w.heap.size w a'' H) (hI : Ints w.heap.size w a3 f)
    (hf : Fit K) (hf' : Fit G) (hf'' : Fit H) (hl : f.length ≤ 1048576) :
    Calls Try.prog 33 #[.slice a K.length c, .slice a' G.length c', .slice a'' H.length c'', .slice a3 f.length c3] w (MadeI (lowI K G H f) w) := by
  have hB0 := (Below.refl w.heap.size w).alloc (Nat.le_refl _) (.cells #[.slice a3 f.length c3] 30)
  have bF0 := Boxed.new w 30 (.slice a3 f.length c3)
  obtain ⟨V, hV⟩ : ∃ V, w.alloc (.cells #[.slice a3 f.length c3] 30) = V := ⟨_, rfl⟩
  rw [hV] at hB0 bF0
  have hz0 := hB0.size
  have hPW := powWith a'' a' c'' c' H G V ((hM''.below hB0).more hz0) ((hM'.below hB0).more hz0) hf'' hf'
  have HTim : Hid (∀ W, Below w.heap.size w W → Calls Try.prog 74 #[.slice a K.length c, .slice a' G.length c'] W (Ans (.bool (timOk K G)) W)) := Lib.hid fun W hW => timesOk_any a a' c c' K G W ((hM.below hW).more hW.size) ((hM'.below hW).more hW.size) hf hf'
  have HPow : Hid (∀ W, Below w.heap.size w W → Calls Try.prog 14 #[.slice a'' H.length c'', .slice a' G.length c'] W (MadeB (powL H G) (powOk H G) W)) := Lib.hid fun W hW => implPow a'' a' c'' c' H G W ((hM''.below hW).more hW.size) ((hM'.below hW).more hW.size) hf'' hf'
  have HMap : Hid (∀ W aT cT, Below w.heap.size w W → Mat W.heap.size W aT (powL H G) → Calls Try.prog 18 #[.slice a K.length c, .slice aT (powL H G).length cT, .slice a3 f.length c3] W (Ans (.bool (mapOkI K (powL H G) f)) W)) := Lib.hid fun W aT cT hW hT => implMapOk _ _ _ _ _ _ _ _ _ _ ((hM.below hW).more hW.size) hT ((hI.below hW).more hW.size) hf pow_fit hl
  have HB0 := Lib.hid hB0
  have HV := Lib.hid hV
  have HI := Lib.hid hI
  obtain ⟨o, ho⟩ : ∃ o, timOk K G = o := ⟨_, rfl⟩
  obtain ⟨p, hp⟩ : ∃ p, powOk H G = p := ⟨_, rfl⟩
  obtain ⟨x, hx⟩ : ∃ x, mapOkI K (powL H G) f = x := ⟨_, rfl⟩
  obtain ⟨zs, HZ⟩ : ∃ zs, Hid (lowI K G H f = zs) := ⟨_, rfl⟩
  rw [HZ.out]
  have HZN : Hid (¬ (o = true ∧ p = true ∧ x = true) → zs = []) := Lib.hid fun h => by rw [← HZ.out]; exact lowI_no (by rw [ho, hp, hx]; exact h)
  have HZY : Hid (o = true ∧ p = true ∧ x = true → zs = lowL H.length G.length f) := Lib.hid fun h => by rw [← HZ.out]; exact lowI_yes (by rw [ho, hp, hx]; exact h)
  have HK0 : Hid (o = true → Good K ∧ Good G ∧ K.length * G.length ≤ 9) := Lib.hid fun h => timOk_of (ho.trans h)
  have HH0 : Hid (p = true → Good H ∧ Good G ∧ H.length ^ G.length ≤ 9) := Lib.hid fun h => powOk_of (hp.trans h)
  have HTE : Hid (p = true → x = true → Tells K.length (H.length ^ G.length) f) := Lib.hid fun h h' => by
    have h2 := (mapOk_iff.1 (hx.trans h')).2.1
    rw [pow_length (hp.trans h)] at h2
    exact h2
  have hlK := hf.1
  have HTL : Hid ((powL H G).length ≤ 1048576) := Lib.hid pow_fit.1
  rw [hp] at hPW
  have HPW := Lib.hid hPW
  have HX := Lib.hid hx
  have HO := Lib.hid ho
  have HbF0 := Lib.hid bF0
  have cF0 := bF0.cell
  have ltF0 := bF0.lt
  clear hM hM' hM'' hI hf hf' hf'' ho hx hPW hV hB0 bF0 HZ
  have HP := Lib.hid hp
  clear hp
  go_enter Try.func33, Try.ntmps33
  go_wp2_with fail
  rw [HV.out]
  refine HPW.out.mono ?_
  rintro ee w1 ⟨rfl, hB1⟩
  have hB1' := HB0.out.trans (hB1.mono HB0.out.size)
  have hz1 := hB1'.size
  have hP2 := PBox.new w1 a'' H.length c'' a' G.length c'
  have hB2 := hB1'.alloc hz1 (.cells #[.slice a'' H.length c'', .slice a' G.length c'] 58)
  have bF2 : Boxed (w1.alloc (.cells #[.slice a'' H.length c'', .slice a' G.length c'] 58)) _ _ _ := Boxed.alloc ((hB1.block _ HbF0.out.lt).trans HbF0.out) (.cells #[.slice a'' H.length c'', .slice a' G.length c'] 58)
  clear hB1 hB1' HbF0 cF0 ltF0
  cases p with
  | false =>
    have h0 : zs = [] := HZN.out fun h => by cases h.2.1
    subst h0
    have HB2 := Lib.hid hB2
    clear bF2 hP2 hB2
    go_wp2_with fail
    go_ret
    exact ⟨none, 0, ⟨rfl, HB2.out⟩, .inl ⟨rfl, rfl, rfl⟩⟩
  | true =>
    go_wp2_with fail
    obtain ⟨X, hX⟩ : ∃ X, w1.alloc (.cells #[.slice a'' H.length c'', .slice a' G.length c'] 58) = X := ⟨_, rfl⟩
    rw [hX] at hP2 hB2 bF2 ⊢
    clear hX
    obtain ⟨Bp, hBp⟩ : ∃ B, w1.heap.size = B := ⟨_, rfl⟩
    rw [hBp] at hP2 ⊢
    clear hBp hz1
    have hzX := hB2.size
    refine (HTim.out X hB2).mono ?_
    rw [HO.out]
    rintro ee w3 ⟨rfl, hB3⟩
    have hz3 := hB3.size
    have HB3 := Lib.hid (hB2.trans (hB3.mono hzX))
    have hP3 := hP2.below hB3 hP2.lt
    have bF3 : Boxed w3 _ _ _ := (hB3.block _ bF2.lt).trans bF2
    clear hB3 hP2 bF2 hB2
    cases o with
    | false =>
      have h0 : zs = [] := HZN.out fun h => by cases h.1
      subst h0
      clear bF3 hP3
      go_wp2_with fail
      go_ret
      exact ⟨none, 0, ⟨rfl, HB3.out⟩, .inl ⟨rfl, rfl, rfl⟩⟩
    | true =>
      go_wp2_with fail
      refine (HPow.out w3 HB3.out).mono ?_
      rw [HP.out]
      rintro ee w4 ⟨aT, cT, ⟨rfl, hB4⟩, hOT⟩
      have hT4 := hOT.mat
      have HB4 := Lib.hid (HB3.out.trans (hB4.mono HB3.out.size))
      have hP4 := hP3.below hB4 hP3.lt
      have bF4 : Boxed w4 _ _ _ := (hB4.block _ bF3.lt).trans bF3
      have htl := HTL.out
      have cF4 := bF4.cell
      clear hB4 hOT hP3 bF3
      go_wp2_with fail
      refine (HMap.out w4 aT cT HB4.out hT4).mono ?_
      rw [HX.out]
      rintro ee w5 ⟨rfl, hB5⟩
      have HB5 := Lib.hid (HB4.out.trans (hB5.mono HB4.out.size))
      have hP5 := hP4.below hB5 hP4.lt
      have bF5 : Boxed w5 _ _ _ := (hB5.block _ bF4.lt).trans bF4
      clear hB5 bF4 hP4 hT4 cF4
      cases x with
      | false =>
        have h0 : zs = [] := HZN.out fun h => by cases h.2.2
        subst h0
        clear bF5 hP5
        go_wp2_with fail
        go_ret
        exact ⟨none, 0, ⟨rfl, HB5.out⟩, .inl ⟨rfl, rfl, rfl⟩⟩
      | true =>
        have HKG := Lib.hid (HK0.out (by trivial))
        have HHG := Lib.hid (HH0.out (by trivial))
        have HTT := Lib.hid (HTE.out (by trivial) (by trivial))
        have o6 := (Below.refl w5.heap.size w5).alloc (Nat.le_refl _) (.cells #[.func (.func 75) #[] #[.pointer (some ⟨Bp, 0, none⟩), .pointer (some ⟨w.heap.size, 0, none⟩)]] 80)
        have bL6 := Boxed.new w5 80 (.func (.func 75) #[] #[.pointer (some ⟨Bp, 0, none⟩), .pointer (some ⟨w.heap.size, 0, none⟩)])
        have HB6 := Lib.hid (HB5.out.trans (o6.mono HB5.out.size))
        have hP6 := hP5.below o6 hP5.lt
        have bF6 : Boxed _ _ _ _ := (o6.block _ bF5.lt).trans bF5
        obtain ⟨X6, hX6⟩ : ∃ X, w5.alloc (.cells #[.func (.func 75) #[] #[.pointer (some ⟨Bp, 0, none⟩), .pointer (some ⟨w.heap.size, 0, none⟩)]] 80) = X := ⟨_, rfl⟩
        obtain ⟨Bl, hBl⟩ : ∃ B, w5.heap.size = B := ⟨_, rfl⟩
        rw [hX6] at bL6 HB6 hP6 bF6
        rw [hBl] at bL6
        clear o6 hP5 bF5
        have c1 := hP6.exponent
        go_wp2_with fail
        clear hX6 hBl c1
        refine (pairsWith_any a a' K.length G.length c c' X6 HKG.out.1.1 HKG.out.2.1.1 HKG.out.2.2).mono ?_
        rintro ee w7 ⟨g, cap, rfl, hB7, hP7⟩
        have HB7 := Lib.hid (HB6.out.trans (hB7.mono HB6.out.size))
        have hPB7 := hP6.below hB7 hP6.lt
        have bF7 : Boxed w7 _ _ _ := (hB7.block _ bF6.lt).trans bF6
        have bL7 : Boxed w7 _ _ _ := (hB7.block _ bL6.lt).trans bL6
        clear hB7 hP6 bF6 bL6
        have h9 := HKG.out.2.2
        have hmE : ((K.length * G.length : Nat) : Int) ≤ 9 := by omega
        have o8 := (Below.refl w7.heap.size w7).alloc (Nat.le_refl _) (.cells #[.slice (some ⟨g, 0, none⟩) (K.length * G.length) cap] 78)
        have bT8 := Boxed.new w7 78 (.slice (some ⟨g, 0, none⟩) (K.length * G.length) cap)
        have HB8 := Lib.hid (HB7.out.trans (o8.mono HB7.out.size))
        have hPB8 := hPB7.below o8 hPB7.lt
        have bF8 : Boxed _ _ _ _ := (o8.block _ bF7.lt).trans bF7
        have bL8 : Boxed _ _ _ _ := (o8.block _ bL7.lt).trans bL7
        have hP8 : Pairs X6.heap.size K.length G.length _ g cap := ownsRow_below hP7 o8
        go_wp2_with fail
        obtain ⟨X8, hX8⟩ : ∃ X, w7.alloc (.cells #[.slice (some ⟨g, 0, none⟩) (K.length * G.length) cap] 78) = X := ⟨_, rfl⟩
        obtain ⟨Bt, hBt⟩ : ∃ B, w7.heap.size = B := ⟨_, rfl⟩
        rw [hX8] at bT8 HB8 hPB8 bF8 bL8 hP8 ⊢
        rw [hBt] at bT8 ⊢
        clear hX8 hBt o8 hPB7 bF7 bL7 hP7
        have hC : ECtx w.heap.size Bp w.heap.size Bl Bt X6.heap.size g cap K.length a'' a' a3 c'' c' c3 G H f X8 := ⟨⟨hPB8, bF8, HI.out.below HB8.out, HB8.out.size⟩, bL8, bT8, hP8⟩
        have hfl := HTT.out.1
        have hzs := HZY.out ⟨by trivial, by trivial, by trivial⟩
        have hZL : zs.length = K.length * G.length := by rw [hzs, lowL_length, hfl]
        have HRL := Lib.hid (rowLed_any 77 #[.pointer (some ⟨Bl, 0, none⟩), .pointer (some ⟨Bt, 0, none⟩)] zs (K.length * G.length) X8 hZL h9 (enters_of Try.func77 (by kernel_rfl) rfl) (fun W' j z hb' hz => by
          have hj : j < K.length * G.length := by have := (List.getElem?_eq_some_iff.1 hz).1; rwa [hZL] at this
          have hg1 := HKG.out.2.1.1
          have hj1 := div_lt hj
          have hj2 := Nat.mod_lt j hg1
          obtain ⟨y, hy, _, hyM⟩ := tells_at HTT.out hj1
          obtain ⟨r, hr, _, _⟩ := tells_at (rowR_tells HHG.out.1.1 G.length y) hj2
          have hz2 : zs[j]? = some (r : Int) := by
            rw [hzs, show j = j / G.length * G.length + j % G.length by rw [Nat.mul_comm]; exact (Nat.div_add_mod j _).symm, ← slice_get hj2, slice_low _ _ f _ _ hy, Int.toNat_natCast, hr]
          rw [hz] at hz2
          cases hz2
          have hH9 := HHG.out.2.2
          have hK9 := HKG.out.1.2.1
          exact low2 j y r W' (hC.below hb') HKG.out.2.1 HHG.out.1 (by omega) h9 hj hy (by omega) hr))
        have HL := Lib.hid hZL
        clear hC hZL hPB8 bF8 bL8 bT8 hP8 hfl hzs
        refine HRL.out.mono ?_
        rintro ee w10 ⟨rfl, hB10, hR⟩
        have hs9 := HB8.out.size
        have HB10 := Lib.hid (HB8.out.trans (hB10.mono hs9))
        have HR := Lib.hid hR
        clear hB10 hR
        go_wp2_with fail
        go_ret
        exact ⟨some ⟨X8.heap.size, 0, none⟩, K.length * G.length, ⟨by rw [HL.out]; rfl, HB10.out⟩, .inr ⟨X8.heap.size, rfl, HL.out.symm, HR.out, hs9⟩⟩

end Go.Proofs.Ytjcoilabmbmbkaa
