/-
  The walk of the exact law of DeskOk.
-/
import Derived.Test.YtofpjepndhpciaaXH
import Derived.Deep.RegionHeld3
namespace Go.Proofs.Ytofpjepndhpciaa
open Go.RowKit Go.Shelf Go.Deep

set_option maxRecDepth 100000 in
set_option maxHeartbeats 8000000 in
theorem exDeskOk_any (aN : Option Addr) (cN : Nat) (G : List (List Int)) (aP : Option Addr) (cP : Nat) (P : List (List (List Int))) (w : World) (hM : Mat w.heap.size w aN G) (hC : Cube w.heap.size w aP P) (hL : LenD ⟨G, P⟩) :
    Calls Try.prog 5 #[.agg #[.slice aN G.length cN, .slice aP P.length cP]] w (Ans (.bool true) w) := by
  have hA : Below w.heap.size w (w.alloc (.cells #[.slice aN G.length cN, .slice aP P.length cP] 37)) := (Below.refl _ _).alloc (Nat.le_refl _) _
  have hX : (w.alloc (.cells #[.slice aN G.length cN, .slice aP P.length cP] 37)).heap[w.heap.size]? = some (.cells #[.slice aN G.length cN, .slice aP P.length cP] 37) := heap_alloc_new w _
  have hM1 := hM.below hA
  have hC1 := hC.below hA
  obtain ⟨⟨c0, c1⟩, _⟩ := pair_cell hX
  obtain ⟨V, hV⟩ : ∃ V, w.alloc (.cells #[.slice aN G.length cN, .slice aP P.length cP] 37) = V := ⟨_, rfl⟩
  have HC0 := Lib.hid c0
  rw [hV] at hA hX hM1 hC1
  have HSZ := Lib.hid (szD_any aN cN G aP cP P V (hM1.more hA.size) (hC1.more hA.size) hL)
  have HV := Lib.hid hV
  have HA := Lib.hid hA
  have HX := Lib.hid hX
  have HM := Lib.hid hM1
  have HC := Lib.hid hC1
  clear hV hA hX hM1 hC1 hM hC hL HC0
  go_enter Try.func5, Try.ntmps5
  go_wp2_with fail
  clear c0 c1
  rw [HV.out]
  refine HSZ.out.mono ?_
  rintro e w1 ⟨r, rfl, hB1, ⟨hr1, hr2⟩, hfit⟩
  have HB1 := Lib.hid (HA.out.trans (hB1.mono HA.out.size))
  by_cases hr0 : r < 0
  · clear hfit hB1
    go_wp2_with fail
    go_ret
    exact ⟨rfl, HB1.out⟩
  have HF : Hid (FitK ⟨G, P⟩) := Lib.hid (by have h := hfit (by omega); exact ⟨h.1, h.2.1⟩)
  have hx1 := (hB1.block _ (Array.getElem?_eq_some_iff.1 HX.out).1).trans HX.out
  obtain ⟨⟨c0, c1⟩, _⟩ := pair_cell hx1
  have HX1 := Lib.hid hx1
  have hwV := HA.out.size
  have HM1 := Lib.hid (HM.out.below (hB1.mono hwV))
  have HC1 := Lib.hid (HC.out.below (hB1.mono hwV))
  have hw1 := HB1.out.size
  obtain ⟨yes, HY⟩ : ∃ yes, Hid (dokI ⟨G, P⟩ = yes) := ⟨_, rfl⟩
  have hyy : (yes != yes) = false := bne_self_eq_false _
  clear hfit hB1 hx1 HSZ HX HM HC
  go_wp2_with fail
  refine (toDk_any aN cN G aP cP P w.heap.size w1 HM1.out HC1.out hw1 HF.out.1 HF.out.2).mono ?_
  rintro e w2 ⟨v2, ⟨rfl, hB2⟩, hO2⟩
  obtain ⟨bN, bP, dN, dP, rfl, hMr, hCr⟩ := hO2.read
  have hx2 := (hB2.block _ (Array.getElem?_eq_some_iff.1 HX1.out).1).trans HX1.out
  have HM2 := Lib.hid (HM1.out.below (hB2.mono hw1))
  have HC2 := Lib.hid (HC1.out.below (hB2.mono hw1))
  have HB2 := Lib.hid (HB1.out.trans (hB2.mono hw1))
  have HX2 := Lib.hid hx2
  have hw2 := HB2.out.size
  have HSD := Lib.hid (specDok w2.heap.size bN dN G bP dP P w2 hMr hCr (Nat.le_refl _) HF.out.1 HF.out.2)
  rw [HY.out] at HSD
  clear hO2 hMr hCr hB2 hx2 c0 c1 HM1 HC1 HB1 HX1
  go_wp2_with fail
  refine HSD.out.mono ?_
  rintro e w3 ⟨rfl, hB3⟩
  have hx3 := (hB3.block _ (Array.getElem?_eq_some_iff.1 HX2.out).1).trans HX2.out
  obtain ⟨⟨c0, c1⟩, _⟩ := pair_cell hx3
  have HM3 := Lib.hid (HM2.out.below (hB3.mono hw2))
  have HC3 := Lib.hid (HC2.out.below (hB3.mono hw2))
  have HB3 := Lib.hid (HB2.out.trans (hB3.mono hw2))
  have HX3 := Lib.hid hx3
  have hw3 := HB3.out.size
  clear hB3 hx3 HM2 HC2 HB2 HX2 HSD
  go_wp2_with fail
  refine (toDk_any aN cN G aP cP P w.heap.size w3 HM3.out HC3.out hw3 HF.out.1 HF.out.2).mono ?_
  rintro e w4 ⟨v4, ⟨rfl, hB4⟩, hO4⟩
  obtain ⟨d1, d2, m1, e1, m2, e2, rfl⟩ := agg_of hO4.read
  have hal := (Below.refl w4.heap.size w4).alloc (Nat.le_refl _) (.cells #[.slice d1 m1 e1, .slice d2 m2 e2] 26)
  have hb45 := hB4.trans (hal.mono hB4.size)
  have hx5 : (w4.alloc (.cells #[.slice d1 m1 e1, .slice d2 m2 e2] 26)).heap[w4.heap.size]? = some (.cells #[.slice d1 m1 e1, .slice d2 m2 e2] 26) := heap_alloc_new w4 _
  have hx1 := (hb45.block _ (Array.getElem?_eq_some_iff.1 HX3.out).1).trans HX3.out
  have hR5 := hO4.read.below hal
  have HM5 := Lib.hid (HM3.out.below (hb45.mono hw3))
  have HC5 := Lib.hid (HC3.out.below (hb45.mono hw3))
  have HB5 := Lib.hid (HB3.out.trans (hb45.mono hw3))
  obtain ⟨⟨c50, c51⟩, _⟩ := pair_cell hx5
  have HX5a := Lib.hid hx5
  have HX1a := Lib.hid hx1
  have HID := Lib.hid (implDkOk _ ⟨G, P⟩ _ (hR5.more hal.size) HF.out)
  have HR5 := Lib.hid hR5
  have hz4 := hal.size
  rw [HY.out] at HID
  clear hB4 hO4 hal hb45 hx5 hx1 hR5 c0 c1 HM3 HC3 HB3 HX3
  go_wp2_with fail
  refine HID.out.mono ?_
  rintro e w8 ⟨rfl, hB8⟩
  have HX5 := Lib.hid ((hB8.block _ (Array.getElem?_eq_some_iff.1 HX5a.out).1).trans HX5a.out)
  have HX1 := Lib.hid ((hB8.block _ (Array.getElem?_eq_some_iff.1 HX1a.out).1).trans HX1a.out)
  have hlt5 := (Array.getElem?_eq_some_iff.1 HX5.out).1
  have hlt1 := (Array.getElem?_eq_some_iff.1 HX1.out).1
  have HR8 := Lib.hid (((HR5.out.more hz4).below hB8).more hB8.size)
  have HM8 := Lib.hid (HM5.out.below (hB8.mono HB5.out.size))
  have HC8 := Lib.hid (HC5.out.below (hB8.mono HB5.out.size))
  have HBW := Lib.hid (HB5.out.trans (hB8.mono HB5.out.size))
  have hw8 := HBW.out.size
  clear hB8 c50 c51 HX5a HX1a HID HR5 HM5 HC5 HB5 hz4
  go_wp2_with fail
  refine wp_region_held_drew (S := fun W => Below w8.heap.size w8 W) (by kernel_rfl) (show Below w8.heap.size w8 (World.drew _) from (Below.refl _ _).drew) (fun hS0 => ?_)
  change wpAnyH _ _ _ _ _ _ _ _ (World.drew _)
  generalize World.drew w8 = V8 at hS0 ⊢
  refine wpAnyH_take (i := 0) (v := ?_) rfl (by kernel_rfl) (by kernel_rfl) (by kernel_rfl) (fun _ _ _ h => h) (Or.inl ⟨by rfl, ?_⟩) hS0 ?_
  case refine_2 => rintro w1 s1; obtain ⟨⟨c0, c1⟩, _⟩ := pair_cell ((s1.block _ hlt1).trans HX1.out); obtain ⟨⟨c50, c51⟩, _⟩ := pair_cell ((s1.block _ hlt5).trans HX5.out); first | (go_simp; rfl) | go_simp; first | (go_simp; rfl) | go_simp
  simp only [Act.put, List.getElem_toArray, List.getElem_cons_zero, List.setIfInBounds_toArray, List.set_cons_zero, List.set_cons_succ]
  refine wpAnyH_take (i := 1) (v := ?_) rfl (by kernel_rfl) (by kernel_rfl) (by kernel_rfl) (fun _ _ _ h => h) (Or.inl ⟨by rfl, ?_⟩) hS0 ?_
  case refine_2 => rintro w1 s1; obtain ⟨⟨c0, c1⟩, _⟩ := pair_cell ((s1.block _ hlt1).trans HX1.out); obtain ⟨⟨c50, c51⟩, _⟩ := pair_cell ((s1.block _ hlt5).trans HX5.out); first | (go_simp; rfl) | go_simp; first | (go_simp; rfl) | go_simp
  simp only [Act.put, List.getElem_toArray, List.getElem_cons_succ, List.getElem_cons_zero, List.setIfInBounds_toArray, List.set_cons_zero, List.set_cons_succ]
  refine wpAnyH_ready (rs := [2]) (by kernel_rfl) (by simp) ?_
  refine AllReadyH.cons rfl (fun K hK => ?_) AllReadyH.nil
  go_simp
  refine (toDk_any aN cN G aP cP P w.heap.size _ (HM8.out.below (hS0.mono hw8)) (HC8.out.below (hS0.mono hw8)) (Nat.le_trans hw8 hS0.size) HF.out.1 HF.out.2).mono ?_
  rintro e w10 ⟨v10, ⟨rfl, hB10⟩, hO10⟩
  have hS1 := hS0.trans (hB10.mono hS0.size)
  have HR10 := Lib.hid hO10.read
  clear hB10 hO10
  refine hK.out _ _ hS1 (fun hS1 => ?_)
  clear hK K
  refine wpAnyH_ready (rs := [3]) (by kernel_rfl) (by simp) ?_
  refine AllReadyH.cons rfl (fun K hK => ?_) AllReadyH.nil
  go_simp
  refine (eqDk_same _ _ ⟨G, P⟩ _ _ ((HR8.out.below hS1).more hS1.size) HR10.out (Nat.le_refl _) HF.out).mono ?_
  rintro e w11 ⟨rfl, hB11⟩
  have hS2 := hS1.trans (hB11.mono hS1.size)
  clear hB11
  refine hK.out _ _ hS2 (fun hS2 => ?_)
  clear hK K
  refine wpAnyH_take (i := 4) (v := ?_) rfl (by kernel_rfl) (by kernel_rfl) (by kernel_rfl) (fun _ _ _ h => h) (Or.inl ⟨by rfl, ?_⟩) hS2 ?_
  case refine_2 => rintro w1 s1; obtain ⟨⟨c0, c1⟩, _⟩ := pair_cell ((s1.block _ hlt1).trans HX1.out); obtain ⟨⟨c50, c51⟩, _⟩ := pair_cell ((s1.block _ hlt5).trans HX5.out); first | (go_simp; rfl) | go_simp; first | (go_simp; rfl) | go_simp
  simp only [Act.put, List.getElem_toArray, List.getElem_cons_succ, List.getElem_cons_zero, List.setIfInBounds_toArray, List.set_cons_zero, List.set_cons_succ]
  refine wpAnyH_done (by kernel_rfl) ?_ _
  have HB12 := Lib.hid (HBW.out.trans (hS2.mono hw8))
  go_wp2_with fail
  go_ret
  exact ⟨rfl, HB12.out⟩

end Go.Proofs.Ytofpjepndhpciaa
