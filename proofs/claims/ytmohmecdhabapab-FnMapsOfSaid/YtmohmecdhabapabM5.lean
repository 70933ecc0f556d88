/-
  impl.leadsLast: the arrows of the last node of a begun row.
-/
import Derived.Test.YtmohmecdhabapabM3
import Derived.Test.YtmohmecdhabapabM0b
import Derived.Test.YtmohmecdhabapabM0
namespace Go.Proofs.Ytmohmecdhabapab
open Go.RowKit Go.Shelf Go.Deep

attribute [local irreducible] wpStill

/-- What is asked of one node of a begun row. -/
def leadAt (G H : List (List Int)) (r : List Int) (j : Nat) : Bool :=
  (!arw G j (r.length - 1) || arw H (nd r j) (nd r (r.length - 1))) && (!arw G (r.length - 1) j || arw H (nd r (r.length - 1)) (nd r j))
theorem lead_all {G H : List (List Int)} {r : List Int} (h : ∀ j, j < r.length → leadAt G H r j = true) : lead G H r = true := List.all_eq_true.2 fun j hj => h j (List.mem_range.1 hj)
theorem lead_not {G H : List (List Int)} {r : List Int} {j : Nat} (hj : j < r.length) (h : leadAt G H r j = false) : lead G H r = false :=
  Bool.eq_false_iff.2 fun e => by
    have := List.all_eq_true.1 e j (List.mem_range.2 hj)
    have h' : leadAt G H r j = true := this
    rw [h] at h'; cases h'

set_option maxRecDepth 100000 in
set_option maxHeartbeats 4000000 in
theorem leadsLastP (n₀ b o : Nat) (a a' : Option Addr) (c c' c'' : Nat) (G H : List (List Int)) (r : List Int) (w : World) (hM : Mat n₀ w a G) (hM' : Mat n₀ w a' H) (hn : n₀ ≤ w.heap.size) (hI : Ints w.heap.size w (some ⟨b, o, none⟩) r) (hG : Good G) (hG' : Good H)
    (h1 : 1 ≤ r.length) (hle : r.length ≤ G.length) (hT : Tells r.length H.length r) :
    Calls Try.prog 64 #[.agg #[.slice a G.length c], .agg #[.slice a' H.length c'], .slice (some ⟨b, o, none⟩) r.length c''] w (Ans (.bool (lead G H r)) w) := by
  have hl9 := hG.2.1
  have hl9' := hG'.2.1
  have HT := Lib.hid hT
  have HG := Lib.hid hG
  have HG' := Lib.hid hG'
  obtain ⟨z, HZ⟩ : ∃ z, Hid (lead G H r = z) := ⟨_, rfl⟩
  rw [HZ.out]
  clear hT hG hG'
  have es : ∀ (W : World) (o : Obj), (W.alloc o).heap.size = W.heap.size + 1 := fun W o => by simp
  obtain ⟨l, HL⟩ : ∃ l, Hid (l = r.length - 1) := ⟨_, rfl⟩
  have hlr : l + 1 = r.length := by have := HL.out; omega
  have hll : (r.length : Int) - 1 = (l : Int) := by omega
  have hlt2 : l < r.length := by omega
  obtain ⟨q, hq, enq, hqH⟩ := tells_at HT.out (j := l) (by omega)
  have HQ := Lib.hid hq
  have HQ2 := Lib.hid enq
  clear hq enq
  go_enter Try.func64, Try.ntmps64
  go_wp2_with fail
  have bG := (Boxed.new w 51 (.slice a G.length c)).alloc (.cells #[.slice a' H.length c'] 51)
  have bH := Boxed.new (w.alloc (.cells #[.slice a G.length c] 51)) 51 (.slice a' H.length c')
  have hB := (((Below.refl w.heap.size w).alloc (Nat.le_refl _) (.cells #[.slice a G.length c] 51)).alloc (by simp) (.cells #[.slice a' H.length c'] 51))
  rw [es] at bH
  obtain ⟨V, hV⟩ : ∃ V, (w.alloc (.cells #[.slice a G.length c] 51)).alloc (.cells #[.slice a' H.length c'] 51) = V := ⟨_, rfl⟩
  rw [hV] at bG bH hB ⊢
  clear hV
  go_loopw [14] (fun i wr => ∃ k : Nat, k ≤ r.length ∧ i = .int .i64 k ∧ Boxed wr w.heap.size 51 (.slice a G.length c) ∧ Boxed wr (w.heap.size + 1) 51 (.slice a' H.length c') ∧ Below w.heap.size w wr ∧ Hid (∀ j, j < k → leadAt G H r j = true)) (fun i _ => r.length - (intOf i).toNat)
  case atStart => exact ⟨0, Nat.zero_le _, rfl, bG, bH, hB, fun j h => absurd h (Nat.not_lt_zero _)⟩
  case round =>
    obtain ⟨k, hk, rfl, bG1, bH1, hB1, HR⟩ := hrel
    clear bG bH hB
    have hws := hB1.size
    by_cases hlt : k < r.length
    · obtain ⟨p, hp, enp, hpH⟩ := tells_at HT.out hlt
      have hIr := hI.below hB1
      obtain ⟨b2, o2, y, e2, hb, hcK, HY⟩ := hIr.at_ hlt
      cases e2
      have ey : y = (p : Int) := by have := HY.out; rw [hp] at this; cases this; rfl
      subst ey
      obtain ⟨b2, o2, y2, e2, hb2, hcL, HY2⟩ := hIr.at_ (k := l) (by omega)
      cases e2
      have ey2 : y2 = (q : Int) := by have := HY2.out; rw [HQ.out] at this; cases this; rfl
      subst ey2
      have hMr := hM.below (hB1.mono hn)
      have hMr' := hM'.below (hB1.mono hn)
      have HAT : Hid (leadAt G H r k = ((!arw G k l || arw H p q) && (!arw G l k || arw H q p))) := Lib.hid (by unfold leadAt; rw [← HL.out, enp, HQ2.out])
      have ltG := bG1.lt
      have ltH := bH1.lt
      have ltB : b < wr.heap.size := by omega
      have cG := bG1.cell
      have cH := bH1.cell
      have HC : ∀ (x : Bool) (n₁ : Nat) (a₁ : Option Addr) (c₁ : Nat) (X : List (List Int)), Good X → Mat n₁ wr a₁ X → n₁ ≤ wr.heap.size → ∀ i j, i < X.length → j < X.length → arw X i j = x → Hid (∀ W', Below wr.heap.size wr W' → Calls Try.prog 48 #[.agg #[.slice a₁ X.length c₁], .int .i64 i, .int .i64 j] W' fun e w' => e = .returned (.bool x) ∧ w' = W'.alloc (.cells #[.slice a₁ X.length c₁] 51)) :=
        fun x n₁ a₁ c₁ X hX hMX hn₁ i j hi hj hx => Lib.hid fun W' hW' => by
          have h := arrowC n₁ a₁ c₁ X W' (hMX.below (hW'.mono hn₁)) (Nat.le_trans hn₁ hW'.size) hX i j hi hj
          rw [hx] at h; exact h
      have H1 := HC (arw G k l) n₀ a c G HG.out hMr (Nat.le_trans hn hws) k l (by omega) (by omega) rfl
      have H2 := HC (arw H p q) n₀ a' c' H HG'.out hMr' (Nat.le_trans hn hws) p q hpH hqH rfl
      have H3 := HC (arw G l k) n₀ a c G HG.out hMr (Nat.le_trans hn hws) l k (by omega) (by omega) rfl
      have H4 := HC (arw H q p) n₀ a' c' H HG'.out hMr' (Nat.le_trans hn hws) q p hqH hpH rfl
      clear HC hMr hMr' hIr HY HY2 hp enp
      obtain ⟨A1, hA1⟩ : ∃ A1, A1 = arw G k l := ⟨_, rfl⟩
      obtain ⟨A2, hA2⟩ : ∃ A2, A2 = arw H p q := ⟨_, rfl⟩
      obtain ⟨A3, hA3⟩ : ∃ A3, A3 = arw G l k := ⟨_, rfl⟩
      obtain ⟨A4, hA4⟩ : ∃ A4, A4 = arw H q p := ⟨_, rfl⟩
      rw [← hA1, ← hA2, ← hA3, ← hA4] at HAT
      rw [← hA1] at H1
      rw [← hA2] at H2
      rw [← hA3] at H3
      rw [← hA4] at H4
      clear hA1 hA2 hA3 hA4
      have bG_wr := bG1
      have bH_wr := bH1
      have hw_wr := Below.refl wr.heap.size wr
      clear bG1 bH1
      cases A1 with
      | false =>
        go_wp2_with fail
        refine wp_region_noPanic (region_two (f := 12) (n := 14) (v0 := .agg #[.slice a G.length c]) (v1 := .int .i64 k) (v2 := .int .i64 l) (by kernel_rfl) (by kernel_rfl) (by kernel_rfl) (by kernel_rfl) rfl rfl rfl rfl rfl rfl (fun _ _ _ _ _ h => h) (.inl ⟨by rfl, fun w => by go_simp⟩) (.inl ⟨by rfl, fun w => by go_simp⟩) ⟨by rfl, by go_simp⟩ ⟨by rfl, fun K hK => ?_⟩)
        go_simp
        go_at_call 48
        refine (H1.out _ hw_wr.drew).mono ?_
        rintro e w' ⟨rfl, rfl⟩
        have bG_U1 : Boxed (wr.drew.alloc (.cells #[.slice a G.length c] 51)) w.heap.size 51 (.slice a G.length c) := Boxed.alloc (W := wr.drew) bG_wr _
        have bH_U1 : Boxed (wr.drew.alloc (.cells #[.slice a G.length c] 51)) (w.heap.size + 1) 51 (.slice a' H.length c') := Boxed.alloc (W := wr.drew) bH_wr _
        have hw_U1 : Below wr.heap.size wr (wr.drew.alloc (.cells #[.slice a G.length c] 51)) := (hw_wr.drew).alloc hw_wr.size _
        obtain ⟨U1, hU⟩ : ∃ U1, wr.drew.alloc (.cells #[.slice a G.length c] 51) = U1 := ⟨_, rfl⟩
        rw [hU] at bG_U1 bH_U1 hw_U1 ⊢
        clear hU
        have cG_U1 := bG_U1.cell
        have cH_U1 := bH_U1.cell
        have cK_U1 : U1.cell? ⟨b, o + k, none⟩ = some (.int .i64 p) := (hw_U1.cell (p := ⟨b, o + k, none⟩) ltB).trans hcK
        have cL_U1 : U1.cell? ⟨b, o + l, none⟩ = some (.int .i64 q) := (hw_U1.cell (p := ⟨b, o + l, none⟩) ltB).trans hcL
        dsimp only
        refine hK.1 _ _ (.bool false) ?_ ?_
        · exact .inl ⟨by rfl, fun w => by go_simp⟩
        clear hK K
        simp only [Act.put, List.setIfInBounds_toArray, List.set_cons_zero, List.set_cons_succ]
        simp only [List.drop_succ_cons, List.drop_zero]
        iterate 11 (refine wpStill_unwanted (by rfl) ?_; simp only [Act.put, List.setIfInBounds_toArray, List.set_cons_zero, List.set_cons_succ])
        refine wpStill_wanted (by rfl) (fun K hK => ?_)
        go_simp
        refine hK _ ?_
        clear hK K
        refine wpStill_nil (NoPanic.normal ?_)
        cases A3 with
        | false =>
          go_wp2_with fail
          refine wp_region_noPanic (region_two (f := 12) (n := 14) (v0 := .agg #[.slice a G.length c]) (v1 := .int .i64 l) (v2 := .int .i64 k) (by kernel_rfl) (by kernel_rfl) (by kernel_rfl) (by kernel_rfl) rfl rfl rfl rfl rfl rfl (fun _ _ _ _ _ h => h) (.inl ⟨by rfl, fun w => by go_simp⟩) (.inl ⟨by rfl, fun w => by go_simp⟩) ⟨by rfl, by go_simp⟩ ⟨by rfl, fun K hK => ?_⟩)
          go_simp
          go_at_call 48
          refine (H3.out _ hw_U1.drew).mono ?_
          rintro e w' ⟨rfl, rfl⟩
          have bG_U2a : Boxed (U1.drew.alloc (.cells #[.slice a G.length c] 51)) w.heap.size 51 (.slice a G.length c) := Boxed.alloc (W := U1.drew) bG_U1 _
          have bH_U2a : Boxed (U1.drew.alloc (.cells #[.slice a G.length c] 51)) (w.heap.size + 1) 51 (.slice a' H.length c') := Boxed.alloc (W := U1.drew) bH_U1 _
          have hw_U2a : Below wr.heap.size wr (U1.drew.alloc (.cells #[.slice a G.length c] 51)) := (hw_U1.drew).alloc hw_U1.size _
          obtain ⟨U2a, hU⟩ : ∃ U2a, U1.drew.alloc (.cells #[.slice a G.length c] 51) = U2a := ⟨_, rfl⟩
          rw [hU] at bG_U2a bH_U2a hw_U2a ⊢
          clear hU
          have cG_U2a := bG_U2a.cell
          have cH_U2a := bH_U2a.cell
          have cK_U2a : U2a.cell? ⟨b, o + k, none⟩ = some (.int .i64 p) := (hw_U2a.cell (p := ⟨b, o + k, none⟩) ltB).trans hcK
          have cL_U2a : U2a.cell? ⟨b, o + l, none⟩ = some (.int .i64 q) := (hw_U2a.cell (p := ⟨b, o + l, none⟩) ltB).trans hcL
          dsimp only
          refine hK.1 _ _ (.bool false) ?_ ?_
          · exact .inl ⟨by rfl, fun w => by go_simp⟩
          clear hK K
          simp only [Act.put, List.setIfInBounds_toArray, List.set_cons_zero, List.set_cons_succ]
          simp only [List.drop_succ_cons, List.drop_zero]
          iterate 11 (refine wpStill_unwanted (by rfl) ?_; simp only [Act.put, List.setIfInBounds_toArray, List.set_cons_zero, List.set_cons_succ])
          refine wpStill_wanted (by rfl) (fun K hK => ?_)
          go_simp
          refine hK _ ?_
          clear hK K
          refine wpStill_nil (NoPanic.normal ?_)
          go_wp2_with fail
          go_roundw
          case rel => exact ⟨k + 1, by omega, by go_num, bG_U2a, bH_U2a, hB1.trans (hw_U2a.mono hws), fun j hj => by
            by_cases e : j = k
            · subst e; rw [HAT.out]; simp
            · exact HR.out j (by omega)⟩
          case measure => simp [intOf]; omega
        | true =>
          go_wp2_with fail
          refine wp_region_noPanic (region_two (f := 12) (n := 14) (v0 := .agg #[.slice a G.length c]) (v1 := .int .i64 l) (v2 := .int .i64 k) (by kernel_rfl) (by kernel_rfl) (by kernel_rfl) (by kernel_rfl) rfl rfl rfl rfl rfl rfl (fun _ _ _ _ _ h => h) (.inl ⟨by rfl, fun w => by go_simp⟩) (.inl ⟨by rfl, fun w => by go_simp⟩) ⟨by rfl, by go_simp⟩ ⟨by rfl, fun K hK => ?_⟩)
          go_simp
          go_at_call 48
          refine (H3.out _ hw_U1.drew).mono ?_
          rintro e w' ⟨rfl, rfl⟩
          have bG_U2a : Boxed (U1.drew.alloc (.cells #[.slice a G.length c] 51)) w.heap.size 51 (.slice a G.length c) := Boxed.alloc (W := U1.drew) bG_U1 _
          have bH_U2a : Boxed (U1.drew.alloc (.cells #[.slice a G.length c] 51)) (w.heap.size + 1) 51 (.slice a' H.length c') := Boxed.alloc (W := U1.drew) bH_U1 _
          have hw_U2a : Below wr.heap.size wr (U1.drew.alloc (.cells #[.slice a G.length c] 51)) := (hw_U1.drew).alloc hw_U1.size _
          obtain ⟨U2a, hU⟩ : ∃ U2a, U1.drew.alloc (.cells #[.slice a G.length c] 51) = U2a := ⟨_, rfl⟩
          rw [hU] at bG_U2a bH_U2a hw_U2a ⊢
          clear hU
          have cG_U2a := bG_U2a.cell
          have cH_U2a := bH_U2a.cell
          have cK_U2a : U2a.cell? ⟨b, o + k, none⟩ = some (.int .i64 p) := (hw_U2a.cell (p := ⟨b, o + k, none⟩) ltB).trans hcK
          have cL_U2a : U2a.cell? ⟨b, o + l, none⟩ = some (.int .i64 q) := (hw_U2a.cell (p := ⟨b, o + l, none⟩) ltB).trans hcL
          dsimp only
          refine hK.2 _ _ (.bool true) ?_ ?_
          · exact .inl ⟨by rfl, fun w => by go_simp⟩
          clear hK K
          simp only [Act.put, List.setIfInBounds_toArray, List.set_cons_zero, List.set_cons_succ]
          cases A4 with
          | false =>
            simp only [List.take_succ_cons, List.take_zero, List.drop_succ_cons, List.drop_zero, Nat.reduceSub]
            iterate 9 (refine wpStill_wanted (by rfl) (fun K hK => ?_); go_simp; refine hK _ ?_; clear hK K)
            refine wpStill_nil ?_
            go_wp2_with fail
            refine (H4.out _ hw_U2a).mono ?_
            rintro e w' ⟨rfl, rfl⟩
            have bG_X2a : Boxed (U2a.alloc (.cells #[.slice a' H.length c'] 51)) w.heap.size 51 (.slice a G.length c) := Boxed.alloc (W := U2a) bG_U2a _
            have bH_X2a : Boxed (U2a.alloc (.cells #[.slice a' H.length c'] 51)) (w.heap.size + 1) 51 (.slice a' H.length c') := Boxed.alloc (W := U2a) bH_U2a _
            have hw_X2a : Below wr.heap.size wr (U2a.alloc (.cells #[.slice a' H.length c'] 51)) := (hw_U2a).alloc hw_U2a.size _
            obtain ⟨X2a, hU⟩ : ∃ X2a, U2a.alloc (.cells #[.slice a' H.length c'] 51) = X2a := ⟨_, rfl⟩
            rw [hU] at bG_X2a bH_X2a hw_X2a ⊢
            clear hU
            have cG_X2a := bG_X2a.cell
            have cH_X2a := bH_X2a.cell
            have cK_X2a : X2a.cell? ⟨b, o + k, none⟩ = some (.int .i64 p) := (hw_X2a.cell (p := ⟨b, o + k, none⟩) ltB).trans hcK
            have cL_X2a : X2a.cell? ⟨b, o + l, none⟩ = some (.int .i64 q) := (hw_X2a.cell (p := ⟨b, o + l, none⟩) ltB).trans hcL
            have HN : Hid (z = false) := Lib.hid (HZ.out.symm.trans (lead_not hlt (by rw [HAT.out]; simp)))
            go_wp2_with fail
            refine NoPanic.normal ?_
            go_wp2_with fail
            go_ret
            exact ⟨ret_bool HN.out.symm, hB1.trans (hw_X2a.mono hws)⟩
          | true =>
            simp only [List.take_succ_cons, List.take_zero, List.drop_succ_cons, List.drop_zero, Nat.reduceSub]
            iterate 9 (refine wpStill_wanted (by rfl) (fun K hK => ?_); go_simp; refine hK _ ?_; clear hK K)
            refine wpStill_nil ?_
            go_wp2_with fail
            refine (H4.out _ hw_U2a).mono ?_
            rintro e w' ⟨rfl, rfl⟩
            have bG_X2a : Boxed (U2a.alloc (.cells #[.slice a' H.length c'] 51)) w.heap.size 51 (.slice a G.length c) := Boxed.alloc (W := U2a) bG_U2a _
            have bH_X2a : Boxed (U2a.alloc (.cells #[.slice a' H.length c'] 51)) (w.heap.size + 1) 51 (.slice a' H.length c') := Boxed.alloc (W := U2a) bH_U2a _
            have hw_X2a : Below wr.heap.size wr (U2a.alloc (.cells #[.slice a' H.length c'] 51)) := (hw_U2a).alloc hw_U2a.size _
            obtain ⟨X2a, hU⟩ : ∃ X2a, U2a.alloc (.cells #[.slice a' H.length c'] 51) = X2a := ⟨_, rfl⟩
            rw [hU] at bG_X2a bH_X2a hw_X2a ⊢
            clear hU
            have cG_X2a := bG_X2a.cell
            have cH_X2a := bH_X2a.cell
            have cK_X2a : X2a.cell? ⟨b, o + k, none⟩ = some (.int .i64 p) := (hw_X2a.cell (p := ⟨b, o + k, none⟩) ltB).trans hcK
            have cL_X2a : X2a.cell? ⟨b, o + l, none⟩ = some (.int .i64 q) := (hw_X2a.cell (p := ⟨b, o + l, none⟩) ltB).trans hcL
            go_wp2_with fail
            refine NoPanic.normal ?_
            go_wp2_with fail
            go_roundw
            case rel => exact ⟨k + 1, by omega, by go_num, bG_X2a, bH_X2a, hB1.trans (hw_X2a.mono hws), fun j hj => by
              by_cases e : j = k
              · subst e; rw [HAT.out]; simp
              · exact HR.out j (by omega)⟩
            case measure => simp [intOf]; omega
      | true =>
        go_wp2_with fail
        refine wp_region_noPanic (region_two (f := 12) (n := 14) (v0 := .agg #[.slice a G.length c]) (v1 := .int .i64 k) (v2 := .int .i64 l) (by kernel_rfl) (by kernel_rfl) (by kernel_rfl) (by kernel_rfl) rfl rfl rfl rfl rfl rfl (fun _ _ _ _ _ h => h) (.inl ⟨by rfl, fun w => by go_simp⟩) (.inl ⟨by rfl, fun w => by go_simp⟩) ⟨by rfl, by go_simp⟩ ⟨by rfl, fun K hK => ?_⟩)
        go_simp
        go_at_call 48
        refine (H1.out _ hw_wr.drew).mono ?_
        rintro e w' ⟨rfl, rfl⟩
        have bG_U1 : Boxed (wr.drew.alloc (.cells #[.slice a G.length c] 51)) w.heap.size 51 (.slice a G.length c) := Boxed.alloc (W := wr.drew) bG_wr _
        have bH_U1 : Boxed (wr.drew.alloc (.cells #[.slice a G.length c] 51)) (w.heap.size + 1) 51 (.slice a' H.length c') := Boxed.alloc (W := wr.drew) bH_wr _
        have hw_U1 : Below wr.heap.size wr (wr.drew.alloc (.cells #[.slice a G.length c] 51)) := (hw_wr.drew).alloc hw_wr.size _
        obtain ⟨U1, hU⟩ : ∃ U1, wr.drew.alloc (.cells #[.slice a G.length c] 51) = U1 := ⟨_, rfl⟩
        rw [hU] at bG_U1 bH_U1 hw_U1 ⊢
        clear hU
        have cG_U1 := bG_U1.cell
        have cH_U1 := bH_U1.cell
        have cK_U1 : U1.cell? ⟨b, o + k, none⟩ = some (.int .i64 p) := (hw_U1.cell (p := ⟨b, o + k, none⟩) ltB).trans hcK
        have cL_U1 : U1.cell? ⟨b, o + l, none⟩ = some (.int .i64 q) := (hw_U1.cell (p := ⟨b, o + l, none⟩) ltB).trans hcL
        dsimp only
        refine hK.2 _ _ (.bool true) ?_ ?_
        · exact .inl ⟨by rfl, fun w => by go_simp⟩
        clear hK K
        simp only [Act.put, List.setIfInBounds_toArray, List.set_cons_zero, List.set_cons_succ]
        cases A2 with
        | false =>
          simp only [List.take_succ_cons, List.take_zero, List.drop_succ_cons, List.drop_zero, Nat.reduceSub]
          iterate 9 (refine wpStill_wanted (by rfl) (fun K hK => ?_); go_simp; refine hK _ ?_; clear hK K)
          refine wpStill_nil ?_
          go_wp2_with fail
          refine (H2.out _ hw_U1).mono ?_
          rintro e w' ⟨rfl, rfl⟩
          have bG_X1 : Boxed (U1.alloc (.cells #[.slice a' H.length c'] 51)) w.heap.size 51 (.slice a G.length c) := Boxed.alloc (W := U1) bG_U1 _
          have bH_X1 : Boxed (U1.alloc (.cells #[.slice a' H.length c'] 51)) (w.heap.size + 1) 51 (.slice a' H.length c') := Boxed.alloc (W := U1) bH_U1 _
          have hw_X1 : Below wr.heap.size wr (U1.alloc (.cells #[.slice a' H.length c'] 51)) := (hw_U1).alloc hw_U1.size _
          obtain ⟨X1, hU⟩ : ∃ X1, U1.alloc (.cells #[.slice a' H.length c'] 51) = X1 := ⟨_, rfl⟩
          rw [hU] at bG_X1 bH_X1 hw_X1 ⊢
          clear hU
          have cG_X1 := bG_X1.cell
          have cH_X1 := bH_X1.cell
          have cK_X1 : X1.cell? ⟨b, o + k, none⟩ = some (.int .i64 p) := (hw_X1.cell (p := ⟨b, o + k, none⟩) ltB).trans hcK
          have cL_X1 : X1.cell? ⟨b, o + l, none⟩ = some (.int .i64 q) := (hw_X1.cell (p := ⟨b, o + l, none⟩) ltB).trans hcL
          have HN : Hid (z = false) := Lib.hid (HZ.out.symm.trans (lead_not hlt (by rw [HAT.out]; simp)))
          go_wp2_with fail
          refine NoPanic.normal ?_
          go_wp2_with fail
          go_ret
          exact ⟨ret_bool HN.out.symm, hB1.trans (hw_X1.mono hws)⟩
        | true =>
          simp only [List.take_succ_cons, List.take_zero, List.drop_succ_cons, List.drop_zero, Nat.reduceSub]
          iterate 9 (refine wpStill_wanted (by rfl) (fun K hK => ?_); go_simp; refine hK _ ?_; clear hK K)
          refine wpStill_nil ?_
          go_wp2_with fail
          refine (H2.out _ hw_U1).mono ?_
          rintro e w' ⟨rfl, rfl⟩
          have bG_X1 : Boxed (U1.alloc (.cells #[.slice a' H.length c'] 51)) w.heap.size 51 (.slice a G.length c) := Boxed.alloc (W := U1) bG_U1 _
          have bH_X1 : Boxed (U1.alloc (.cells #[.slice a' H.length c'] 51)) (w.heap.size + 1) 51 (.slice a' H.length c') := Boxed.alloc (W := U1) bH_U1 _
          have hw_X1 : Below wr.heap.size wr (U1.alloc (.cells #[.slice a' H.length c'] 51)) := (hw_U1).alloc hw_U1.size _
          obtain ⟨X1, hU⟩ : ∃ X1, U1.alloc (.cells #[.slice a' H.length c'] 51) = X1 := ⟨_, rfl⟩
          rw [hU] at bG_X1 bH_X1 hw_X1 ⊢
          clear hU
          have cG_X1 := bG_X1.cell
          have cH_X1 := bH_X1.cell
          have cK_X1 : X1.cell? ⟨b, o + k, none⟩ = some (.int .i64 p) := (hw_X1.cell (p := ⟨b, o + k, none⟩) ltB).trans hcK
          have cL_X1 : X1.cell? ⟨b, o + l, none⟩ = some (.int .i64 q) := (hw_X1.cell (p := ⟨b, o + l, none⟩) ltB).trans hcL
          go_wp2_with fail
          refine NoPanic.normal ?_
          cases A3 with
          | false =>
            go_wp2_with fail
            refine wp_region_noPanic (region_two (f := 12) (n := 14) (v0 := .agg #[.slice a G.length c]) (v1 := .int .i64 l) (v2 := .int .i64 k) (by kernel_rfl) (by kernel_rfl) (by kernel_rfl) (by kernel_rfl) rfl rfl rfl rfl rfl rfl (fun _ _ _ _ _ h => h) (.inl ⟨by rfl, fun w => by go_simp⟩) (.inl ⟨by rfl, fun w => by go_simp⟩) ⟨by rfl, by go_simp⟩ ⟨by rfl, fun K hK => ?_⟩)
            go_simp
            go_at_call 48
            refine (H3.out _ hw_X1.drew).mono ?_
            rintro e w' ⟨rfl, rfl⟩
            have bG_U2b : Boxed (X1.drew.alloc (.cells #[.slice a G.length c] 51)) w.heap.size 51 (.slice a G.length c) := Boxed.alloc (W := X1.drew) bG_X1 _
            have bH_U2b : Boxed (X1.drew.alloc (.cells #[.slice a G.length c] 51)) (w.heap.size + 1) 51 (.slice a' H.length c') := Boxed.alloc (W := X1.drew) bH_X1 _
            have hw_U2b : Below wr.heap.size wr (X1.drew.alloc (.cells #[.slice a G.length c] 51)) := (hw_X1.drew).alloc hw_X1.size _
            obtain ⟨U2b, hU⟩ : ∃ U2b, X1.drew.alloc (.cells #[.slice a G.length c] 51) = U2b := ⟨_, rfl⟩
            rw [hU] at bG_U2b bH_U2b hw_U2b ⊢
            clear hU
            have cG_U2b := bG_U2b.cell
            have cH_U2b := bH_U2b.cell
            have cK_U2b : U2b.cell? ⟨b, o + k, none⟩ = some (.int .i64 p) := (hw_U2b.cell (p := ⟨b, o + k, none⟩) ltB).trans hcK
            have cL_U2b : U2b.cell? ⟨b, o + l, none⟩ = some (.int .i64 q) := (hw_U2b.cell (p := ⟨b, o + l, none⟩) ltB).trans hcL
            dsimp only
            refine hK.1 _ _ (.bool false) ?_ ?_
            · exact .inl ⟨by rfl, fun w => by go_simp⟩
            clear hK K
            simp only [Act.put, List.setIfInBounds_toArray, List.set_cons_zero, List.set_cons_succ]
            simp only [List.drop_succ_cons, List.drop_zero]
            iterate 11 (refine wpStill_unwanted (by rfl) ?_; simp only [Act.put, List.setIfInBounds_toArray, List.set_cons_zero, List.set_cons_succ])
            refine wpStill_wanted (by rfl) (fun K hK => ?_)
            go_simp
            refine hK _ ?_
            clear hK K
            refine wpStill_nil (NoPanic.normal ?_)
            go_wp2_with fail
            go_roundw
            case rel => exact ⟨k + 1, by omega, by go_num, bG_U2b, bH_U2b, hB1.trans (hw_U2b.mono hws), fun j hj => by
              by_cases e : j = k
              · subst e; rw [HAT.out]; simp
              · exact HR.out j (by omega)⟩
            case measure => simp [intOf]; omega
          | true =>
            go_wp2_with fail
            refine wp_region_noPanic (region_two (f := 12) (n := 14) (v0 := .agg #[.slice a G.length c]) (v1 := .int .i64 l) (v2 := .int .i64 k) (by kernel_rfl) (by kernel_rfl) (by kernel_rfl) (by kernel_rfl) rfl rfl rfl rfl rfl rfl (fun _ _ _ _ _ h => h) (.inl ⟨by rfl, fun w => by go_simp⟩) (.inl ⟨by rfl, fun w => by go_simp⟩) ⟨by rfl, by go_simp⟩ ⟨by rfl, fun K hK => ?_⟩)
            go_simp
            go_at_call 48
            refine (H3.out _ hw_X1.drew).mono ?_
            rintro e w' ⟨rfl, rfl⟩
            have bG_U2b : Boxed (X1.drew.alloc (.cells #[.slice a G.length c] 51)) w.heap.size 51 (.slice a G.length c) := Boxed.alloc (W := X1.drew) bG_X1 _
            have bH_U2b : Boxed (X1.drew.alloc (.cells #[.slice a G.length c] 51)) (w.heap.size + 1) 51 (.slice a' H.length c') := Boxed.alloc (W := X1.drew) bH_X1 _
            have hw_U2b : Below wr.heap.size wr (X1.drew.alloc (.cells #[.slice a G.length c] 51)) := (hw_X1.drew).alloc hw_X1.size _
            obtain ⟨U2b, hU⟩ : ∃ U2b, X1.drew.alloc (.cells #[.slice a G.length c] 51) = U2b := ⟨_, rfl⟩
            rw [hU] at bG_U2b bH_U2b hw_U2b ⊢
            clear hU
            have cG_U2b := bG_U2b.cell
            have cH_U2b := bH_U2b.cell
            have cK_U2b : U2b.cell? ⟨b, o + k, none⟩ = some (.int .i64 p) := (hw_U2b.cell (p := ⟨b, o + k, none⟩) ltB).trans hcK
            have cL_U2b : U2b.cell? ⟨b, o + l, none⟩ = some (.int .i64 q) := (hw_U2b.cell (p := ⟨b, o + l, none⟩) ltB).trans hcL
            dsimp only
            refine hK.2 _ _ (.bool true) ?_ ?_
            · exact .inl ⟨by rfl, fun w => by go_simp⟩
            clear hK K
            simp only [Act.put, List.setIfInBounds_toArray, List.set_cons_zero, List.set_cons_succ]
            cases A4 with
            | false =>
              simp only [List.take_succ_cons, List.take_zero, List.drop_succ_cons, List.drop_zero, Nat.reduceSub]
              iterate 9 (refine wpStill_wanted (by rfl) (fun K hK => ?_); go_simp; refine hK _ ?_; clear hK K)
              refine wpStill_nil ?_
              go_wp2_with fail
              refine (H4.out _ hw_U2b).mono ?_
              rintro e w' ⟨rfl, rfl⟩
              have bG_X2b : Boxed (U2b.alloc (.cells #[.slice a' H.length c'] 51)) w.heap.size 51 (.slice a G.length c) := Boxed.alloc (W := U2b) bG_U2b _
              have bH_X2b : Boxed (U2b.alloc (.cells #[.slice a' H.length c'] 51)) (w.heap.size + 1) 51 (.slice a' H.length c') := Boxed.alloc (W := U2b) bH_U2b _
              have hw_X2b : Below wr.heap.size wr (U2b.alloc (.cells #[.slice a' H.length c'] 51)) := (hw_U2b).alloc hw_U2b.size _
              obtain ⟨X2b, hU⟩ : ∃ X2b, U2b.alloc (.cells #[.slice a' H.length c'] 51) = X2b := ⟨_, rfl⟩
              rw [hU] at bG_X2b bH_X2b hw_X2b ⊢
              clear hU
              have cG_X2b := bG_X2b.cell
              have cH_X2b := bH_X2b.cell
              have cK_X2b : X2b.cell? ⟨b, o + k, none⟩ = some (.int .i64 p) := (hw_X2b.cell (p := ⟨b, o + k, none⟩) ltB).trans hcK
              have cL_X2b : X2b.cell? ⟨b, o + l, none⟩ = some (.int .i64 q) := (hw_X2b.cell (p := ⟨b, o + l, none⟩) ltB).trans hcL
              have HN : Hid (z = false) := Lib.hid (HZ.out.symm.trans (lead_not hlt (by rw [HAT.out]; simp)))
              go_wp2_with fail
              refine NoPanic.normal ?_
              go_wp2_with fail
              go_ret
              exact ⟨ret_bool HN.out.symm, hB1.trans (hw_X2b.mono hws)⟩
            | true =>
              simp only [List.take_succ_cons, List.take_zero, List.drop_succ_cons, List.drop_zero, Nat.reduceSub]
              iterate 9 (refine wpStill_wanted (by rfl) (fun K hK => ?_); go_simp; refine hK _ ?_; clear hK K)
              refine wpStill_nil ?_
              go_wp2_with fail
              refine (H4.out _ hw_U2b).mono ?_
              rintro e w' ⟨rfl, rfl⟩
              have bG_X2b : Boxed (U2b.alloc (.cells #[.slice a' H.length c'] 51)) w.heap.size 51 (.slice a G.length c) := Boxed.alloc (W := U2b) bG_U2b _
              have bH_X2b : Boxed (U2b.alloc (.cells #[.slice a' H.length c'] 51)) (w.heap.size + 1) 51 (.slice a' H.length c') := Boxed.alloc (W := U2b) bH_U2b _
              have hw_X2b : Below wr.heap.size wr (U2b.alloc (.cells #[.slice a' H.length c'] 51)) := (hw_U2b).alloc hw_U2b.size _
              obtain ⟨X2b, hU⟩ : ∃ X2b, U2b.alloc (.cells #[.slice a' H.length c'] 51) = X2b := ⟨_, rfl⟩
              rw [hU] at bG_X2b bH_X2b hw_X2b ⊢
              clear hU
              have cG_X2b := bG_X2b.cell
              have cH_X2b := bH_X2b.cell
              have cK_X2b : X2b.cell? ⟨b, o + k, none⟩ = some (.int .i64 p) := (hw_X2b.cell (p := ⟨b, o + k, none⟩) ltB).trans hcK
              have cL_X2b : X2b.cell? ⟨b, o + l, none⟩ = some (.int .i64 q) := (hw_X2b.cell (p := ⟨b, o + l, none⟩) ltB).trans hcL
              go_wp2_with fail
              refine NoPanic.normal ?_
              go_wp2_with fail
              go_roundw
              case rel => exact ⟨k + 1, by omega, by go_num, bG_X2b, bH_X2b, hB1.trans (hw_X2b.mono hws), fun j hj => by
                by_cases e : j = k
                · subst e; rw [HAT.out]; simp
                · exact HR.out j (by omega)⟩
              case measure => simp [intOf]; omega
    · obtain rfl : k = r.length := by omega
      have HN : Hid (z = true) := Lib.hid (HZ.out.symm.trans (lead_all HR.out))
      go_wp2_with fail
      go_ret
      exact ⟨ret_bool HN.out.symm, hB1⟩

end Go.Proofs.Ytmohmecdhabapab
