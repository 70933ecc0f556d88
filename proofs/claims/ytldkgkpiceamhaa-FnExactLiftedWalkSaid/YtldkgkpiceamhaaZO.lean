/-
  Several texts in one.
  impl.leadsLast: the arrows of the last node of a begun row.
  The begun row in its block; a function that leaves with a mark for each range that it has gone through.
-/
import Derived.Test.YtldkgkpiceamhaaZN
import Derived.Test.YtldkgkpiceamhaaZM
namespace Go.Proofs.Ytldkgkpiceamhaa
open Go.RowKit Go.Shelf Go.Deep

attribute [local irreducible] wpStill

/-- What is asked of one node of a begun row. -/
def leadAt (G H : List (List Int)) (r : List Int) (j : Nat) : Bool :=
  (!arw G j (r.length - 1) || arw H (nd r j) (nd r (r.length - 1))) && (!arw G (r.length - 1) j || arw H (nd r (r.length - 1)) (nd r j))
theorem lead_all {G H : List (List Int)} {r : List Int} (h : ∀ j, j < r.length → leadAt G H r j = true) : lead G H r = true := List.all_eq_true.2 fun j hj => h j (List.mem_range.1 hj)
theorem lead_not {G H : List (List Int)} {r : List Int} {j : Nat} (hj : j < r.length) (h : leadAt G H r j = false) : lead G H r = false :=
  Bool.eq_false_iff.2 fun e => by
    have := List.all_eq_true.1 e j (List.mem_range.2 hj)
    have h' : leadAt G H r j = true := this
    rw [h] at h'; cases h'

set_option maxRecDepth 100000 in
set_option maxHeartbeats 4000000 in
theorem leadsLastP (n₀ b o : Nat) (a a' : Option Addr) (c c' c'' : Nat) (G H : List (List Int)) (r : List Int) (w : World) (hM : Mat n₀ w a G) (hM' : Mat n₀ w a' H) (hn : n₀ ≤ w.heap.size) (hI : Ints w.heap.size w (some ⟨b, o, none⟩) r) (hG : Good G) (hG' : Good H)
    (h1 : 1 ≤ r.length) (hle : r.length ≤ G.length) (hT : Tells r.length H.length r) :
    Calls Try.prog 114 #[.agg #[.slice a G.length c], .agg #[.slice a' H.length c'], .slice (some ⟨b, o, none⟩) r.length c''] w (Ans (.bool (lead G H r)) w) := by
  have hl9 := hG.2.1
  have hl9' := hG'.2.1
  have HT := Lib.hid hT
  have HG := Lib.hid hG
  have HG' := Lib.hid hG'
  obtain ⟨z, HZ⟩ : ∃ z, Hid (lead G H r = z) := ⟨_, rfl⟩
  rw [HZ.out]
  clear hT hG hG'
  have es : ∀ (W : World) (o : Obj), (W.alloc o).heap.size = W.heap.size + 1 := fun W o => by simp
  obtain ⟨l, HL⟩ : ∃ l, Hid (l = r.length - 1) := ⟨_, rfl⟩
  have hlr : l + 1 = r.length := by have := HL.out; omega
  have hll : (r.length : Int) - 1 = (l : Int) := by omega
  have hlt2 : l < r.length := by omega
  obtain ⟨q, hq, enq, hqH⟩ := tells_at HT.out (j := l) (by omega)
  have HQ := Lib.hid hq
  have HQ2 := Lib.hid enq
  clear hq enq
  go_enter Try.func114, Try.ntmps114
  go_wp2_with fail
  have bG := (Boxed.new w 61 (.slice a G.length c)).alloc (.cells #[.slice a' H.length c'] 61)
  have bH := Boxed.new (w.alloc (.cells #[.slice a G.length c] 61)) 61 (.slice a' H.length c')
  have hB := (((Below.refl w.heap.size w).alloc (Nat.le_refl _) (.cells #[.slice a G.length c] 61)).alloc (by simp) (.cells #[.slice a' H.length c'] 61))
  rw [es] at bH
  obtain ⟨V, hV⟩ : ∃ V, (w.alloc (.cells #[.slice a G.length c] 61)).alloc (.cells #[.slice a' H.length c'] 61) = V := ⟨_, rfl⟩
  rw [hV] at bG bH hB ⊢
  clear hV
  go_loopw [14] (fun i wr => ∃ k : Nat, k ≤ r.length ∧ i = .int .i64 k ∧ Boxed wr w.heap.size 61 (.slice a G.length c) ∧ Boxed wr (w.heap.size + 1) 61 (.slice a' H.length c') ∧ Below w.heap.size w wr ∧ Hid (∀ j, j < k → leadAt G H r j = true)) (fun i _ => r.length - (intOf i).toNat)
  case atStart => exact ⟨0, Nat.zero_le _, rfl, bG, bH, hB, fun j h => absurd h (Nat.not_lt_zero _)⟩
  case round =>
    obtain ⟨k, hk, rfl, bG1, bH1, hB1, HR⟩ := hrel
    clear bG bH hB
    have hws := hB1.size
    by_cases hlt : k < r.length
    · obtain ⟨p, hp, enp, hpH⟩ := tells_at HT.out hlt
      have hIr := hI.below hB1
      obtain ⟨b2, o2, y, e2, hb, hcK, HY⟩ := hIr.at_ hlt
      cases e2
      have ey : y = (p : Int) := by have := HY.out; rw [hp] at this; cases this; rfl
      subst ey
      obtain ⟨b2, o2, y2, e2, hb2, hcL, HY2⟩ := hIr.at_ (k := l) (by omega)
      cases e2
      have ey2 : y2 = (q : Int) := by have := HY2.out; rw [HQ.out] at this; cases this; rfl
      subst ey2
      have hMr := hM.below (hB1.mono hn)
      have hMr' := hM'.below (hB1.mono hn)
      have HAT : Hid (leadAt G H r k = ((!arw G k l || arw H p q) && (!arw G l k || arw H q p))) := Lib.hid (by unfold leadAt; rw [← HL.out, enp, HQ2.out])
      have ltG := bG1.lt
      have ltH := bH1.lt
      have ltB : b < wr.heap.size := by omega
      have cG := bG1.cell
      have cH := bH1.cell
      have HC : ∀ (x : Bool) (n₁ : Nat) (a₁ : Option Addr) (c₁ : Nat) (X : List (List Int)), Good X → Mat n₁ wr a₁ X → n₁ ≤ wr.heap.size → ∀ i j, i < X.length → j < X.length → arw X i j = x → Hid (∀ W', Below wr.heap.size wr W' → Calls Try.prog 63 #[.agg #[.slice a₁ X.length c₁], .int .i64 i, .int .i64 j] W' fun e w' => e = .returned (.bool x) ∧ w' = W'.alloc (.cells #[.slice a₁ X.length c₁] 61)) :=
        fun x n₁ a₁ c₁ X hX hMX hn₁ i j hi hj hx => Lib.hid fun W' hW' => by
          have h := arrowC n₁ a₁ c₁ X W' (hMX.below (hW'.mono hn₁)) (Nat.le_trans hn₁ hW'.size) hX i j hi hj
          rw [hx] at h; exact h
      have H1 := HC (arw G k l) n₀ a c G HG.out hMr (Nat.le_trans hn hws) k l (by omega) (by omega) rfl
      have H2 := HC (arw H p q) n₀ a' c' H HG'.out hMr' (Nat.le_trans hn hws) p q hpH hqH rfl
      have H3 := HC (arw G l k) n₀ a c G HG.out hMr (Nat.le_trans hn hws) l k (by omega) (by omega) rfl
      have H4 := HC (arw H q p) n₀ a' c' H HG'.out hMr' (Nat.le_trans hn hws) q p hqH hpH rfl
      clear HC hMr hMr' hIr HY HY2 hp enp
      obtain ⟨A1, hA1⟩ : ∃ A1, A1 = arw G k l := ⟨_, rfl⟩
      obtain ⟨A2, hA2⟩ : ∃ A2, A2 = arw H p q := ⟨_, rfl⟩
      obtain ⟨A3, hA3⟩ : ∃ A3, A3 = arw G l k := ⟨_, rfl⟩
      obtain ⟨A4, hA4⟩ : ∃ A4, A4 = arw H q p := ⟨_, rfl⟩
      rw [← hA1, ← hA2, ← hA3, ← hA4] at HAT
      rw [← hA1] at H1
      rw [← hA2] at H2
      rw [← hA3] at H3
      rw [← hA4] at H4
      clear hA1 hA2 hA3 hA4
      have bG_wr := bG1
      have bH_wr := bH1
      have hw_wr := Below.refl wr.heap.size wr
      clear bG1 bH1
      cases A1 with
      | false =>
        go_wp2_with fail
        refine wp_region_noPanic (region_two (f := 12) (n := 14) (v0 := .agg #[.slice a G.length c]) (v1 := .int .i64 k) (v2 := .int .i64 l) (by kernel_rfl) (by kernel_rfl) (by kernel_rfl) (by kernel_rfl) rfl rfl rfl rfl rfl rfl (fun _ _ _ _ _ h => h) (.inl ⟨by rfl, fun w => by go_simp⟩) (.inl ⟨by rfl, fun w => by go_simp⟩) ⟨by rfl, by go_simp⟩ ⟨by rfl, fun K hK => ?_⟩)
        go_simp
        go_at_call 63
        refine (H1.out _ hw_wr.drew).mono ?_
        rintro e w' ⟨rfl, rfl⟩
        have bG_U1 : Boxed (wr.drew.alloc (.cells #[.slice a G.length c] 61)) w.heap.size 61 (.slice a G.length c) := Boxed.alloc (W := wr.drew) bG_wr _
        have bH_U1 : Boxed (wr.drew.alloc (.cells #[.slice a G.length c] 61)) (w.heap.size + 1) 61 (.slice a' H.length c') := Boxed.alloc (W := wr.drew) bH_wr _
        have hw_U1 : Below wr.heap.size wr (wr.drew.alloc (.cells #[.slice a G.length c] 61)) := (hw_wr.drew).alloc hw_wr.size _
        obtain ⟨U1, hU⟩ : ∃ U1, wr.drew.alloc (.cells #[.slice a G.length c] 61) = U1 := ⟨_, rfl⟩
        rw [hU] at bG_U1 bH_U1 hw_U1 ⊢
        clear hU
        have cG_U1 := bG_U1.cell
        have cH_U1 := bH_U1.cell
        have cK_U1 : U1.cell? ⟨b, o + k, none⟩ = some (.int .i64 p) := (hw_U1.cell (p := ⟨b, o + k, none⟩) ltB).trans hcK
        have cL_U1 : U1.cell? ⟨b, o + l, none⟩ = some (.int .i64 q) := (hw_U1.cell (p := ⟨b, o + l, none⟩) ltB).trans hcL
        dsimp only
        refine hK.1 _ _ (.bool false) ?_ ?_
        · exact .inl ⟨by rfl, fun w => by go_simp⟩
        clear hK K
        simp only [Act.put, List.setIfInBounds_toArray, List.set_cons_zero, List.set_cons_succ]
        simp only [List.drop_succ_cons, List.drop_zero]
        iterate 11 (refine wpStill_unwanted (by rfl) ?_; simp only [Act.put, List.setIfInBounds_toArray, List.set_cons_zero, List.set_cons_succ])
        refine wpStill_wanted (by rfl) (fun K hK => ?_)
        go_simp
        refine hK _ ?_
        clear hK K
        refine wpStill_nil (NoPanic.normal ?_)
        cases A3 with
        | false =>
          go_wp2_with fail
          refine wp_region_noPanic (region_two (f := 12) (n := 14) (v0 := .agg #[.slice a G.length c]) (v1 := .int .i64 l) (v2 := .int .i64 k) (by kernel_rfl) (by kernel_rfl) (by kernel_rfl) (by kernel_rfl) rfl rfl rfl rfl rfl rfl (fun _ _ _ _ _ h => h) (.inl ⟨by rfl, fun w => by go_simp⟩) (.inl ⟨by rfl, fun w => by go_simp⟩) ⟨by rfl, by go_simp⟩ ⟨by rfl, fun K hK => ?_⟩)
          go_simp
          go_at_call 63
          refine (H3.out _ hw_U1.drew).mono ?_
          rintro e w' ⟨rfl, rfl⟩
          have bG_U2a : Boxed (U1.drew.alloc (.cells #[.slice a G.length c] 61)) w.heap.size 61 (.slice a G.length c) := Boxed.alloc (W := U1.drew) bG_U1 _
          have bH_U2a : Boxed (U1.drew.alloc (.cells #[.slice a G.length c] 61)) (w.heap.size + 1) 61 (.slice a' H.length c') := Boxed.alloc (W := U1.drew) bH_U1 _
          have hw_U2a : Below wr.heap.size wr (U1.drew.alloc (.cells #[.slice a G.length c] 61)) := (hw_U1.drew).alloc hw_U1.size _
          obtain ⟨U2a, hU⟩ : ∃ U2a, U1.drew.alloc (.cells #[.slice a G.length c] 61) = U2a := ⟨_, rfl⟩
          rw [hU] at bG_U2a bH_U2a hw_U2a ⊢
          clear hU
          have cG_U2a := bG_U2a.cell
          have cH_U2a := bH_U2a.cell
          have cK_U2a : U2a.cell? ⟨b, o + k, none⟩ = some (.int .i64 p) := (hw_U2a.cell (p := ⟨b, o + k, none⟩) ltB).trans hcK
          have cL_U2a : U2a.cell? ⟨b, o + l, none⟩ = some (.int .i64 q) := (hw_U2a.cell (p := ⟨b, o + l, none⟩) ltB).trans hcL
          dsimp only
          refine hK.1 _ _ (.bool false) ?_ ?_
          · exact .inl ⟨by rfl, fun w => by go_simp⟩
          clear hK K
          simp only [Act.put, List.setIfInBounds_toArray, List.set_cons_zero, List.set_cons_succ]
          simp only [List.drop_succ_cons, List.drop_zero]
          iterate 11 (refine wpStill_unwanted (by rfl) ?_; simp only [Act.put, List.setIfInBounds_toArray, List.set_cons_zero, List.set_cons_succ])
          refine wpStill_wanted (by rfl) (fun K hK => ?_)
          go_simp
          refine hK _ ?_
          clear hK K
          refine wpStill_nil (NoPanic.normal ?_)
          go_wp2_with fail
          go_roundw
          case rel => exact ⟨k + 1, by omega, by go_num, bG_U2a, bH_U2a, hB1.trans (hw_U2a.mono hws), fun j hj => by
            by_cases e : j = k
            · subst e; rw [HAT.out]; simp
            · exact HR.out j (by omega)⟩
          case measure => simp [intOf]; omega
        | true =>
          go_wp2_with fail
          refine wp_region_noPanic (region_two (f := 12) (n := 14) (v0 := .agg #[.slice a G.length c]) (v1 := .int .i64 l) (v2 := .int .i64 k) (by kernel_rfl) (by kernel_rfl) (by kernel_rfl) (by kernel_rfl) rfl rfl rfl rfl rfl rfl (fun _ _ _ _ _ h => h) (.inl ⟨by rfl, fun w => by go_simp⟩) (.inl ⟨by rfl, fun w => by go_simp⟩) ⟨by rfl, by go_simp⟩ ⟨by rfl, fun K hK => ?_⟩)
          go_simp
          go_at_call 63
          refine (H3.out _ hw_U1.drew).mono ?_
          rintro e w' ⟨rfl, rfl⟩
          have bG_U2a : Boxed (U1.drew.alloc (.cells #[.slice a G.length c] 61)) w.heap.size 61 (.slice a G.length c) := Boxed.alloc (W := U1.drew) bG_U1 _
          have bH_U2a : Boxed (U1.drew.alloc (.cells #[.slice a G.length c] 61)) (w.heap.size + 1) 61 (.slice a' H.length c') := Boxed.alloc (W := U1.drew) bH_U1 _
          have hw_U2a : Below wr.heap.size wr (U1.drew.alloc (.cells #[.slice a G.length c] 61)) := (hw_U1.drew).alloc hw_U1.size _
          obtain ⟨U2a, hU⟩ : ∃ U2a, U1.drew.alloc (.cells #[.slice a G.length c] 61) = U2a := ⟨_, rfl⟩
          rw [hU] at bG_U2a bH_U2a hw_U2a ⊢
          clear hU
          have cG_U2a := bG_U2a.cell
          have cH_U2a := bH_U2a.cell
          have cK_U2a : U2a.cell? ⟨b, o + k, none⟩ = some (.int .i64 p) := (hw_U2a.cell (p := ⟨b, o + k, none⟩) ltB).trans hcK
          have cL_U2a : U2a.cell? ⟨b, o + l, none⟩ = some (.int .i64 q) := (hw_U2a.cell (p := ⟨b, o + l, none⟩) ltB).trans hcL
          dsimp only
          refine hK.2 _ _ (.bool true) ?_ ?_
          · exact .inl ⟨by rfl, fun w => by go_simp⟩
          clear hK K
          simp only [Act.put, List.setIfInBounds_toArray, List.set_cons_zero, List.set_cons_succ]
          cases A4 with
          | false =>
            simp only [List.take_succ_cons, List.take_zero, List.drop_succ_cons, List.drop_zero, Nat.reduceSub]
            iterate 9 (refine wpStill_wanted (by rfl) (fun K hK => ?_); go_simp; refine hK _ ?_; clear hK K)
            refine wpStill_nil ?_
            go_wp2_with fail
            refine (H4.out _ hw_U2a).mono ?_
            rintro e w' ⟨rfl, rfl⟩
            have bG_X2a : Boxed (U2a.alloc (.cells #[.slice a' H.length c'] 61)) w.heap.size 61 (.slice a G.length c) := Boxed.alloc (W := U2a) bG_U2a _
            have bH_X2a : Boxed (U2a.alloc (.cells #[.slice a' H.length c'] 61)) (w.heap.size + 1) 61 (.slice a' H.length c') := Boxed.alloc (W := U2a) bH_U2a _
            have hw_X2a : Below wr.heap.size wr (U2a.alloc (.cells #[.slice a' H.length c'] 61)) := (hw_U2a).alloc hw_U2a.size _
            obtain ⟨X2a, hU⟩ : ∃ X2a, U2a.alloc (.cells #[.slice a' H.length c'] 61) = X2a := ⟨_, rfl⟩
            rw [hU] at bG_X2a bH_X2a hw_X2a ⊢
            clear hU
            have cG_X2a := bG_X2a.cell
            have cH_X2a := bH_X2a.cell
            have cK_X2a : X2a.cell? ⟨b, o + k, none⟩ = some (.int .i64 p) := (hw_X2a.cell (p := ⟨b, o + k, none⟩) ltB).trans hcK
            have cL_X2a : X2a.cell? ⟨b, o + l, none⟩ = some (.int .i64 q) := (hw_X2a.cell (p := ⟨b, o + l, none⟩) ltB).trans hcL
            have HN : Hid (z = false) := Lib.hid (HZ.out.symm.trans (lead_not hlt (by rw [HAT.out]; simp)))
            go_wp2_with fail
            refine NoPanic.normal ?_
            go_wp2_with fail
            go_ret
            exact ⟨ret_bool HN.out.symm, hB1.trans (hw_X2a.mono hws)⟩
          | true =>
            simp only [List.take_succ_cons, List.take_zero, List.drop_succ_cons, List.drop_zero, Nat.reduceSub]
            iterate 9 (refine wpStill_wanted (by rfl) (fun K hK => ?_); go_simp; refine hK _ ?_; clear hK K)
            refine wpStill_nil ?_
            go_wp2_with fail
            refine (H4.out _ hw_U2a).mono ?_
            rintro e w' ⟨rfl, rfl⟩
            have bG_X2a : Boxed (U2a.alloc (.cells #[.slice a' H.length c'] 61)) w.heap.size 61 (.slice a G.length c) := Boxed.alloc (W := U2a) bG_U2a _
            have bH_X2a : Boxed (U2a.alloc (.cells #[.slice a' H.length c'] 61)) (w.heap.size + 1) 61 (.slice a' H.length c') := Boxed.alloc (W := U2a) bH_U2a _
            have hw_X2a : Below wr.heap.size wr (U2a.alloc (.cells #[.slice a' H.length c'] 61)) := (hw_U2a).alloc hw_U2a.size _
            obtain ⟨X2a, hU⟩ : ∃ X2a, U2a.alloc (.cells #[.slice a' H.length c'] 61) = X2a := ⟨_, rfl⟩
            rw [hU] at bG_X2a bH_X2a hw_X2a ⊢
            clear hU
            have cG_X2a := bG_X2a.cell
            have cH_X2a := bH_X2a.cell
            have cK_X2a : X2a.cell? ⟨b, o + k, none⟩ = some (.int .i64 p) := (hw_X2a.cell (p := ⟨b, o + k, none⟩) ltB).trans hcK
            have cL_X2a : X2a.cell? ⟨b, o + l, none⟩ = some (.int .i64 q) := (hw_X2a.cell (p := ⟨b, o + l, none⟩) ltB).trans hcL
            go_wp2_with fail
            refine NoPanic.normal ?_
            go_wp2_with fail
            go_roundw
            case rel => exact ⟨k + 1, by omega, by go_num, bG_X2a, bH_X2a, hB1.trans (hw_X2a.mono hws), fun j hj => by
              by_cases e : j = k
              · subst e; rw [HAT.out]; simp
              · exact HR.out j (by omega)⟩
            case measure => simp [intOf]; omega
      | true =>
        go_wp2_with fail
        refine wp_region_noPanic (region_two (f := 12) (n := 14) (v0 := .agg #[.slice a G.length c]) (v1 := .int .i64 k) (v2 := .int .i64 l) (by kernel_rfl) (by kernel_rfl) (by kernel_rfl) (by kernel_rfl) rfl rfl rfl rfl rfl rfl (fun _ _ _ _ _ h => h) (.inl ⟨by rfl, fun w => by go_simp⟩) (.inl ⟨by rfl, fun w => by go_simp⟩) ⟨by rfl, by go_simp⟩ ⟨by rfl, fun K hK => ?_⟩)
        go_simp
        go_at_call 63
        refine (H1.out _ hw_wr.drew).mono ?_
        rintro e w' ⟨rfl, rfl⟩
        have bG_U1 : Boxed (wr.drew.alloc (.cells #[.slice a G.length c] 61)) w.heap.size 61 (.slice a G.length c) := Boxed.alloc (W := wr.drew) bG_wr _
        have bH_U1 : Boxed (wr.drew.alloc (.cells #[.slice a G.length c] 61)) (w.heap.size + 1) 61 (.slice a' H.length c') := Boxed.alloc (W := wr.drew) bH_wr _
        have hw_U1 : Below wr.heap.size wr (wr.drew.alloc (.cells #[.slice a G.length c] 61)) := (hw_wr.drew).alloc hw_wr.size _
        obtain ⟨U1, hU⟩ : ∃ U1, wr.drew.alloc (.cells #[.slice a G.length c] 61) = U1 := ⟨_, rfl⟩
        rw [hU] at bG_U1 bH_U1 hw_U1 ⊢
        clear hU
        have cG_U1 := bG_U1.cell
        have cH_U1 := bH_U1.cell
        have cK_U1 : U1.cell? ⟨b, o + k, none⟩ = some (.int .i64 p) := (hw_U1.cell (p := ⟨b, o + k, none⟩) ltB).trans hcK
        have cL_U1 : U1.cell? ⟨b, o + l, none⟩ = some (.int .i64 q) := (hw_U1.cell (p := ⟨b, o + l, none⟩) ltB).trans hcL
        dsimp only
        refine hK.2 _ _ (.bool true) ?_ ?_
        · exact .inl ⟨by rfl, fun w => by go_simp⟩
        clear hK K
        simp only [Act.put, List.setIfInBounds_toArray, List.set_cons_zero, List.set_cons_succ]
        cases A2 with
        | false =>
          simp only [List.take_succ_cons, List.take_zero, List.drop_succ_cons, List.drop_zero, Nat.reduceSub]
          iterate 9 (refine wpStill_wanted (by rfl) (fun K hK => ?_); go_simp; refine hK _ ?_; clear hK K)
          refine wpStill_nil ?_
          go_wp2_with fail
          refine (H2.out _ hw_U1).mono ?_
          rintro e w' ⟨rfl, rfl⟩
          have bG_X1 : Boxed (U1.alloc (.cells #[.slice a' H.length c'] 61)) w.heap.size 61 (.slice a G.length c) := Boxed.alloc (W := U1) bG_U1 _
          have bH_X1 : Boxed (U1.alloc (.cells #[.slice a' H.length c'] 61)) (w.heap.size + 1) 61 (.slice a' H.length c') := Boxed.alloc (W := U1) bH_U1 _
          have hw_X1 : Below wr.heap.size wr (U1.alloc (.cells #[.slice a' H.length c'] 61)) := (hw_U1).alloc hw_U1.size _
          obtain ⟨X1, hU⟩ : ∃ X1, U1.alloc (.cells #[.slice a' H.length c'] 61) = X1 := ⟨_, rfl⟩
          rw [hU] at bG_X1 bH_X1 hw_X1 ⊢
          clear hU
          have cG_X1 := bG_X1.cell
          have cH_X1 := bH_X1.cell
          have cK_X1 : X1.cell? ⟨b, o + k, none⟩ = some (.int .i64 p) := (hw_X1.cell (p := ⟨b, o + k, none⟩) ltB).trans hcK
          have cL_X1 : X1.cell? ⟨b, o + l, none⟩ = some (.int .i64 q) := (hw_X1.cell (p := ⟨b, o + l, none⟩) ltB).trans hcL
          have HN : Hid (z = false) := Lib.hid (HZ.out.symm.trans (lead_not hlt (by rw [HAT.out]; simp)))
          go_wp2_with fail
          refine NoPanic.normal ?_
          go_wp2_with fail
          go_ret
          exact ⟨ret_bool HN.out.symm, hB1.trans (hw_X1.mono hws)⟩
        | true =>
          simp only [List.take_succ_cons, List.take_zero, List.drop_succ_cons, List.drop_zero, Nat.reduceSub]
          iterate 9 (refine wpStill_wanted (by rfl) (fun K hK => ?_); go_simp; refine hK _ ?_; clear hK K)
          refine wpStill_nil ?_
          go_wp2_with fail
          refine (H2.out _ hw_U1).mono ?_
          rintro e w' ⟨rfl, rfl⟩
          have bG_X1 : Boxed (U1.alloc (.cells #[.slice a' H.length c'] 61)) w.heap.size 61 (.slice a G.length c) := Boxed.alloc (W := U1) bG_U1 _
          have bH_X1 : Boxed (U1.alloc (.cells #[.slice a' H.length c'] 61)) (w.heap.size + 1) 61 (.slice a' H.length c') := Boxed.alloc (W := U1) bH_U1 _
          have hw_X1 : Below wr.heap.size wr (U1.alloc (.cells #[.slice a' H.length c'] 61)) := (hw_U1).alloc hw_U1.size _
          obtain ⟨X1, hU⟩ : ∃ X1, U1.alloc (.cells #[.slice a' H.length c'] 61) = X1 := ⟨_, rfl⟩
          rw [hU] at bG_X1 bH_X1 hw_X1 ⊢
          clear hU
          have cG_X1 := bG_X1.cell
          have cH_X1 := bH_X1.cell
          have cK_X1 : X1.cell? ⟨b, o + k, none⟩ = some (.int .i64 p) := (hw_X1.cell (p := ⟨b, o + k, none⟩) ltB).trans hcK
          have cL_X1 : X1.cell? ⟨b, o + l, none⟩ = some (.int .i64 q) := (hw_X1.cell (p := ⟨b, o + l, none⟩) ltB).trans hcL
          go_wp2_with fail
          refine NoPanic.normal ?_
          cases A3 with
          | false =>
            go_wp2_with fail
            refine wp_region_noPanic (region_two (f := 12) (n := 14) (v0 := .agg #[.slice a G.length c]) (v1 := .int .i64 l) (v2 := .int .i64 k) (by kernel_rfl) (by kernel_rfl) (by kernel_rfl) (by kernel_rfl) rfl rfl rfl rfl rfl rfl (fun _ _ _ _ _ h => h) (.inl ⟨by rfl, fun w => by go_simp⟩) (.inl ⟨by rfl, fun w => by go_simp⟩) ⟨by rfl, by go_simp⟩ ⟨by rfl, fun K hK => ?_⟩)
            go_simp
            go_at_call 63
            refine (H3.out _ hw_X1.drew).mono ?_
            rintro e w' ⟨rfl, rfl⟩
            have bG_U2b : Boxed (X1.drew.alloc (.cells #[.slice a G.length c] 61)) w.heap.size 61 (.slice a G.length c) := Boxed.alloc (W := X1.drew) bG_X1 _
            have bH_U2b : Boxed (X1.drew.alloc (.cells #[.slice a G.length c] 61)) (w.heap.size + 1) 61 (.slice a' H.length c') := Boxed.alloc (W := X1.drew) bH_X1 _
            have hw_U2b : Below wr.heap.size wr (X1.drew.alloc (.cells #[.slice a G.length c] 61)) := (hw_X1.drew).alloc hw_X1.size _
            obtain ⟨U2b, hU⟩ : ∃ U2b, X1.drew.alloc (.cells #[.slice a G.length c] 61) = U2b := ⟨_, rfl⟩
            rw [hU] at bG_U2b bH_U2b hw_U2b ⊢
            clear hU
            have cG_U2b := bG_U2b.cell
            have cH_U2b := bH_U2b.cell
            have cK_U2b : U2b.cell? ⟨b, o + k, none⟩ = some (.int .i64 p) := (hw_U2b.cell (p := ⟨b, o + k, none⟩) ltB).trans hcK
            have cL_U2b : U2b.cell? ⟨b, o + l, none⟩ = some (.int .i64 q) := (hw_U2b.cell (p := ⟨b, o + l, none⟩) ltB).trans hcL
            dsimp only
            refine hK.1 _ _ (.bool false) ?_ ?_
            · exact .inl ⟨by rfl, fun w => by go_simp⟩
            clear hK K
            simp only [Act.put, List.setIfInBounds_toArray, List.set_cons_zero, List.set_cons_succ]
            simp only [List.drop_succ_cons, List.drop_zero]
            iterate 11 (refine wpStill_unwanted (by rfl) ?_; simp only [Act.put, List.setIfInBounds_toArray, List.set_cons_zero, List.set_cons_succ])
            refine wpStill_wanted (by rfl) (fun K hK => ?_)
            go_simp
            refine hK _ ?_
            clear hK K
            refine wpStill_nil (NoPanic.normal ?_)
            go_wp2_with fail
            go_roundw
            case rel => exact ⟨k + 1, by omega, by go_num, bG_U2b, bH_U2b, hB1.trans (hw_U2b.mono hws), fun j hj => by
              by_cases e : j = k
              · subst e; rw [HAT.out]; simp
              · exact HR.out j (by omega)⟩
            case measure => simp [intOf]; omega
          | true =>
            go_wp2_with fail
            refine wp_region_noPanic (region_two (f := 12) (n := 14) (v0 := .agg #[.slice a G.length c]) (v1 := .int .i64 l) (v2 := .int .i64 k) (by kernel_rfl) (by kernel_rfl) (by kernel_rfl) (by kernel_rfl) rfl rfl rfl rfl rfl rfl (fun _ _ _ _ _ h => h) (.inl ⟨by rfl, fun w => by go_simp⟩) (.inl ⟨by rfl, fun w => by go_simp⟩) ⟨by rfl, by go_simp⟩ ⟨by rfl, fun K hK => ?_⟩)
            go_simp
            go_at_call 63
            refine (H3.out _ hw_X1.drew).mono ?_
            rintro e w' ⟨rfl, rfl⟩
            have bG_U2b : Boxed (X1.drew.alloc (.cells #[.slice a G.length c] 61)) w.heap.size 61 (.slice a G.length c) := Boxed.alloc (W := X1.drew) bG_X1 _
            have bH_U2b : Boxed (X1.drew.alloc (.cells #[.slice a G.length c] 61)) (w.heap.size + 1) 61 (.slice a' H.length c') := Boxed.alloc (W := X1.drew) bH_X1 _
            have hw_U2b : Below wr.heap.size wr (X1.drew.alloc (.cells #[.slice a G.length c] 61)) := (hw_X1.drew).alloc hw_X1.size _
            obtain ⟨U2b, hU⟩ : ∃ U2b, X1.drew.alloc (.cells #[.slice a G.length c] 61) = U2b := ⟨_, rfl⟩
            rw [hU] at bG_U2b bH_U2b hw_U2b ⊢
            clear hU
            have cG_U2b := bG_U2b.cell
            have cH_U2b := bH_U2b.cell
            have cK_U2b : U2b.cell? ⟨b, o + k, none⟩ = some (.int .i64 p) := (hw_U2b.cell (p := ⟨b, o + k, none⟩) ltB).trans hcK
            have cL_U2b : U2b.cell? ⟨b, o + l, none⟩ = some (.int .i64 q) := (hw_U2b.cell (p := ⟨b, o + l, none⟩) ltB).trans hcL
            dsimp only
            refine hK.2 _ _ (.bool true) ?_ ?_
            · exact .inl ⟨by rfl, fun w => by go_simp⟩
            clear hK K
            simp only [Act.put, List.setIfInBounds_toArray, List.set_cons_zero, List.set_cons_succ]
            cases A4 with
            | false =>
              simp only [List.take_succ_cons, List.take_zero, List.drop_succ_cons, List.drop_zero, Nat.reduceSub]
              iterate 9 (refine wpStill_wanted (by rfl) (fun K hK => ?_); go_simp; refine hK _ ?_; clear hK K)
              refine wpStill_nil ?_
              go_wp2_with fail
              refine (H4.out _ hw_U2b).mono ?_
              rintro e w' ⟨rfl, rfl⟩
              have bG_X2b : Boxed (U2b.alloc (.cells #[.slice a' H.length c'] 61)) w.heap.size 61 (.slice a G.length c) := Boxed.alloc (W := U2b) bG_U2b _
              have bH_X2b : Boxed (U2b.alloc (.cells #[.slice a' H.length c'] 61)) (w.heap.size + 1) 61 (.slice a' H.length c') := Boxed.alloc (W := U2b) bH_U2b _
              have hw_X2b : Below wr.heap.size wr (U2b.alloc (.cells #[.slice a' H.length c'] 61)) := (hw_U2b).alloc hw_U2b.size _
              obtain ⟨X2b, hU⟩ : ∃ X2b, U2b.alloc (.cells #[.slice a' H.length c'] 61) = X2b := ⟨_, rfl⟩
              rw [hU] at bG_X2b bH_X2b hw_X2b ⊢
              clear hU
              have cG_X2b := bG_X2b.cell
              have cH_X2b := bH_X2b.cell
              have cK_X2b : X2b.cell? ⟨b, o + k, none⟩ = some (.int .i64 p) := (hw_X2b.cell (p := ⟨b, o + k, none⟩) ltB).trans hcK
              have cL_X2b : X2b.cell? ⟨b, o + l, none⟩ = some (.int .i64 q) := (hw_X2b.cell (p := ⟨b, o + l, none⟩) ltB).trans hcL
              have HN : Hid (z = false) := Lib.hid (HZ.out.symm.trans (lead_not hlt (by rw [HAT.out]; simp)))
              go_wp2_with fail
              refine NoPanic.normal ?_
              go_wp2_with fail
              go_ret
              exact ⟨ret_bool HN.out.symm, hB1.trans (hw_X2b.mono hws)⟩
            | true =>
              simp only [List.take_succ_cons, List.take_zero, List.drop_succ_cons, List.drop_zero, Nat.reduceSub]
              iterate 9 (refine wpStill_wanted (by rfl) (fun K hK => ?_); go_simp; refine hK _ ?_; clear hK K)
              refine wpStill_nil ?_
              go_wp2_with fail
              refine (H4.out _ hw_U2b).mono ?_
              rintro e w' ⟨rfl, rfl⟩
              have bG_X2b : Boxed (U2b.alloc (.cells #[.slice a' H.length c'] 61)) w.heap.size 61 (.slice a G.length c) := Boxed.alloc (W := U2b) bG_U2b _
              have bH_X2b : Boxed (U2b.alloc (.cells #[.slice a' H.length c'] 61)) (w.heap.size + 1) 61 (.slice a' H.length c') := Boxed.alloc (W := U2b) bH_U2b _
              have hw_X2b : Below wr.heap.size wr (U2b.alloc (.cells #[.slice a' H.length c'] 61)) := (hw_U2b).alloc hw_U2b.size _
              obtain ⟨X2b, hU⟩ : ∃ X2b, U2b.alloc (.cells #[.slice a' H.length c'] 61) = X2b := ⟨_, rfl⟩
              rw [hU] at bG_X2b bH_X2b hw_X2b ⊢
              clear hU
              have cG_X2b := bG_X2b.cell
              have cH_X2b := bH_X2b.cell
              have cK_X2b : X2b.cell? ⟨b, o + k, none⟩ = some (.int .i64 p) := (hw_X2b.cell (p := ⟨b, o + k, none⟩) ltB).trans hcK
              have cL_X2b : X2b.cell? ⟨b, o + l, none⟩ = some (.int .i64 q) := (hw_X2b.cell (p := ⟨b, o + l, none⟩) ltB).trans hcL
              go_wp2_with fail
              refine NoPanic.normal ?_
              go_wp2_with fail
              go_roundw
              case rel => exact ⟨k + 1, by omega, by go_num, bG_X2b, bH_X2b, hB1.trans (hw_X2b.mono hws), fun j hj => by
                by_cases e : j = k
                · subst e; rw [HAT.out]; simp
                · exact HR.out j (by omega)⟩
              case measure => simp [intOf]; omega
    · obtain rfl : k = r.length := by omega
      have HN : Hid (z = true) := Lib.hid (HZ.out.symm.trans (lead_all HR.out))
      go_wp2_with fail
      go_ret
      exact ⟨ret_bool HN.out.symm, hB1⟩

end Go.Proofs.Ytldkgkpiceamhaa

namespace Go.Proofs.Ytldkgkpiceamhaa
open Go.RowKit Go.Shelf Go.Deep

/-- THE BLOCK b, of N cells, BEGINS WITH THE ROW p. -/
def Hold (b N : Nat) (p : List Int) (W : World) : Prop := W.ownsRow b 3 1 (.slice (some ⟨b, 0, none⟩) p.length N) p.length (p.map (Value.int .i64))
theorem Hold.lt {b N : Nat} {p : List Int} {W : World} (h : Hold b N p W) : b < W.heap.size := (World.ownsRow.lt h b rfl).2
theorem Hold.shut {b N : Nat} {p : List Int} {W : World} (h : Hold b N p W) : p.length ≤ N := by
  rcases h.2 with ⟨h0, _⟩ | ⟨g, cap, cur, e0, _, _, hnc, _⟩
  · cases h0
  · cases e0; exact hnc
theorem Hold.trunc {b N : Nat} {p : List Int} {x : Int} {W : World} (h : Hold b N (p ++ [x]) W) : Hold b N p W := by
  obtain ⟨h1, h2⟩ := h
  rcases h2 with ⟨h0, _⟩ | ⟨g, cap, cur, e0, hb, hg, hnc, hcm, hs, ht⟩
  · cases h0
  · cases e0
    refine ⟨by simp, .inr ⟨b, N, cur, rfl, hb, hg, by rw [List.length_append, List.length_singleton] at hnc; omega, hcm, hs, ?_⟩⟩
    have h3 := congrArg (List.take p.length) ht
    rw [List.take_take] at h3
    simp only [List.length_append, List.length_singleton, Nat.mul_one, List.map_append] at h3
    rw [show min p.length (p.length + 1) = p.length by omega, List.take_append_of_le_length (by simp)] at h3
    rw [Nat.mul_one, h3]
    exact List.take_of_length_le (by simp)
theorem Hold.kept {b N : Nat} {p : List Int} {A C : World} {row : Option Nat} (h : Hold b N p A) (hg : A.grownBy C row) (hne : some b ≠ row) : Hold b N p C := World.ownsRow.kept h hg (.inr hne)
theorem Hold.below {b N n : Nat} {p : List Int} {A C : World} (h : Hold b N p A) (hb : Below n A C) (hn : b < n) : Hold b N p C := by
  obtain ⟨h1, h2⟩ := h
  refine ⟨h1, ?_⟩
  rcases h2 with h0 | ⟨g, cap, cur, e0, hb', hg, hr⟩
  · exact .inl h0
  · have e1 := e0
    cases e1
    exact .inr ⟨b, N, cur, e0, hb', (hb.block b hn).trans hg, hr⟩
theorem Hold.alloc {b N : Nat} {p : List Int} {W : World} (h : Hold b N p W) (o : Obj) : Hold b N p (W.alloc o) := World.ownsRow.alloc h o
theorem Hold.keepC {b N T : Nat} {S : Nat → Prop} {p : List Int} {A C : World} (h : Hold b N p A) (hk : KeepC S T A C) (hS : ¬ S b) : Hold b N p C := by
  obtain ⟨h1, h2⟩ := h
  refine ⟨h1, ?_⟩
  rcases h2 with h0 | ⟨g, cap, cur, e0, hb', hg, hr⟩
  · exact .inl h0
  · have e1 := e0
    cases e1
    exact .inr ⟨b, N, cur, e0, hb', hk.2 b _ hS hg (.inl rfl), hr⟩
theorem hold_own {β : Type} (b N : Nat) (p : β → List Int) : Own (fun s W => Hold b N (p s) W) := fun s A C row h hg hr => h.kept hg fun e => by
  obtain ⟨o, ho, hc⟩ := hr b e.symm
  rcases h.2 with ⟨h0, _⟩ | ⟨g, cap, cur, e0, hb', hgg, _⟩
  · cases h0
  · cases e0; rw [hgg] at ho; cases ho; cases hc
theorem Hold.ints {b N : Nat} {p : List Int} {W : World} (h : Hold b N p W) : Ints W.heap.size W (some ⟨b, 0, none⟩) p := by
  obtain ⟨aa, cc, e, hI⟩ := own_ints (xs := p) (x := .slice (some ⟨b, 0, none⟩) p.length N) h
  cases e
  exact hI

/-- THE MARKS of the ranges that are through, the last one first. -/
def marks (Ds : List Nat) : List Deferred := Ds.map fun D => { target := .collected D, args := #[] }
def Marked (T : Nat) (Ds : List Nat) (W : World) : Prop := Ds.Pairwise (· > ·) ∧ ∀ D ∈ Ds, T ≤ D ∧ D < W.heap.size ∧ W.heap[D]? = some (.deferred (some []))
theorem Marked.nil (T : Nat) (W : World) : Marked T [] W := ⟨List.Pairwise.nil, fun D h => by cases h⟩
theorem Marked.cons {T D : Nat} {Ds : List Nat} {W : World} (h : Marked T Ds W) (hT : T ≤ D) (hk : W.heap[D]? = some (.deferred (some []))) (hD : ∀ x ∈ Ds, x < D) : Marked T (D :: Ds) W :=
  ⟨List.Pairwise.cons (fun x hx => hD x hx) h.1, fun x hx => by
    rcases List.mem_cons.1 hx with rfl | hx
    · exact ⟨hT, (Array.getElem?_eq_some_iff.1 hk).1, hk⟩
    · exact h.2 x hx⟩
theorem Marked.keep {T : Nat} {Ds : List Nat} {A C : World} (h : Marked T Ds A) (hs : A.heap.size ≤ C.heap.size) (hk : ∀ (D : Nat) (o : Obj), T ≤ D → A.heap[D]? = some o → o.isCells = false → C.heap[D]? = some o) : Marked T Ds C :=
  ⟨h.1, fun D hD => ⟨(h.2 D hD).1, Nat.lt_of_lt_of_le (h.2 D hD).2.1 hs, hk D _ (h.2 D hD).1 (h.2 D hD).2.2 rfl⟩⟩
theorem Marked.keepC {T : Nat} {S : Nat → Prop} {Ds : List Nat} {A C : World} (h : Marked T Ds A) (hk : KeepC S T A C) (hS : ∀ B, S B → B < T) : Marked T Ds C :=
  h.keep hk.1 fun D o hD ho _ => hk.2 D o (fun s => by have := hS D s; omega) ho (.inr hD)
theorem Marked.grown {T : Nat} {Ds : List Nat} {A C : World} {row : Option Nat} (h : Marked T Ds A) (hg : A.grownBy C row) (hr : ∀ r, row = some r → ∃ o : Obj, A.heap[r]? = some o ∧ (o.isCells = true ∨ A.heap.size ≤ r)) : Marked T Ds C :=
  h.keep hg.size fun D o _ ho hc => (hg.block D (Array.getElem?_eq_some_iff.1 ho).1 (fun e => by
    obtain ⟨o', ho', h'⟩ := hr D e.symm
    rw [ho] at ho'; cases ho'
    rcases h' with h' | h'
    · rw [hc] at h'; cases h'
    · have := (Array.getElem?_eq_some_iff.1 ho).1; omega)).trans ho
theorem Marked.below {T n : Nat} {Ds : List Nat} {A C : World} (h : Marked T Ds A) (hb : Below n A C) (hn : A.heap.size ≤ n) : Marked T Ds C :=
  h.keep hb.size fun D _ _ ho _ => (hb.block D (by have := (Array.getElem?_eq_some_iff.1 ho).1; omega)).trans ho

theorem Marked.from {T B : Nat} {Ds : List Nat} {A C : World} {row : Option Nat} (h : Marked T Ds A) (hlt : ∀ D ∈ Ds, D < B) (hg : A.grownBy C row) (hr : ∀ r, row = some r → B ≤ r) : Marked T Ds C :=
  ⟨h.1, fun D hD => ⟨(h.2 D hD).1, Nat.lt_of_lt_of_le (h.2 D hD).2.1 hg.size, (hg.block D (h.2 D hD).2.1 (fun e => by have := hr D e.symm; have := hlt D hD; omega)).trans (h.2 D hD).2.2⟩⟩
theorem Marked.row {T b N : Nat} {p : List Int} {Ds : List Nat} {A C : World} (h : Marked T Ds A) (hH : Hold b N p A) (hg : A.grownBy C (some b)) : Marked T Ds C :=
  h.grown hg fun r e => by
    cases e
    rcases hH.2 with ⟨h0, _⟩ | ⟨g, cap, cur, e0, _, hgg, _⟩
    · cases h0
    · cases e0; exact ⟨_, hgg, .inl rfl⟩
theorem Marked.other {T b : Nat} {Ds : List Nat} {A C : World} (h : Marked T Ds A) (hb : b < T) (hg : A.grownBy C (some b)) : Marked T Ds C :=
  ⟨h.1, fun D hD => ⟨(h.2 D hD).1, Nat.lt_of_lt_of_le (h.2 D hD).2.1 hg.size, (hg.block D (h.2 D hD).2.1 (fun e => by have e' := Option.some.inj e; have := (h.2 D hD).1; omega)).trans (h.2 D hD).2.2⟩⟩
theorem tells_snoc {m' : Nat} {p : List Int} {k : Nat} (h : Tells p.length m' p) (hk : k < m') : Tells (p ++ [(k : Int)]).length m' (p ++ [(k : Int)]) := by
  refine ⟨rfl, fun j y hy => ?_⟩
  by_cases hj : j < p.length
  · rw [List.getElem?_append_left hj] at hy; exact h.2 j y hy
  · rw [List.getElem?_append_right (by omega)] at hy
    have e : j - p.length = 0 := by have := (List.getElem?_eq_some_iff.1 hy).1; simp at this; omega
    rw [e] at hy
    simp at hy
    omega

/-- IT LEAVES: the marks are taken, one after the other. -/
theorem leaves_marks {P : Program} {F : Fence} {n T : Nat} {fn : Func} {tmps : Array Value} {R : Ending → World → Prop} (Z : World → Prop) (hZ : ∀ (W : World) (D : Nat), T ≤ D → W.heap[D]? = some (.deferred (some [])) → Z W → Z (W.putObj D (.deferred none)))
    (hR : ∀ W, Z W → LeavesInM F n P fn tmps R [] .returning W) : ∀ (Ds : List Nat) (W : World), Marked T Ds W → Z W → LeavesInM F n P fn tmps R (marks Ds) .returning W := by
  intro Ds
  induction Ds with
  | nil => exact fun W _ hz => hR W hz
  | cons D Ds ih =>
    intro W h hz
    obtain ⟨h1, h2, h3⟩ := h.2 D (List.mem_cons_self ..)
    refine ⟨by simp, .inl ⟨D, _, rfl, run_takeDeferred h3, ih _ ⟨(List.pairwise_cons.1 h.1).2, fun x hx => ?_⟩ (hZ W D h1 h3 hz)⟩⟩
    obtain ⟨x1, x2, x3⟩ := h.2 x (List.mem_cons_of_mem _ hx)
    have hlt := (List.pairwise_cons.1 h.1).1 x hx
    exact ⟨x1, by simpa using x2, (World.putObj_heap_other (by omega)).trans x3⟩

set_option maxHeartbeats 1000000 in
theorem mapsBegun_in (n : Nat) (a a' a'' : Option Addr) (m m' m'' c c' c'' : Nat) (w : World) :
    CallsIn Fence.wide n Try.prog 103 #[.agg #[.slice a m c], .agg #[.slice a' m' c'], .slice a'' m'' c''] w fun e w' =>
      e = .returned (.func (.func 113) #[] #[.pointer (some ⟨w.heap.size + 1 + 1, 0, none⟩), .pointer (some ⟨w.heap.size, 0, none⟩), .pointer (some ⟨w.heap.size + 1, 0, none⟩)]) ∧
      w' = ((w.alloc (.cells #[.slice a m c] 61)).alloc (.cells #[.slice a' m' c'] 61)).alloc (.cells #[.slice a'' m'' c''] 24) := by
  refine callsIn_of_wp Try.func103 rfl trivial ?_ rfl
  simp only [Try.ntmps103, List.size_toArray, List.length_cons, List.length_nil, Nat.reduceAdd, Nat.reduceSub, Array.replicate_succ, Array.replicate_zero, List.push_toArray, List.append_toArray, List.nil_append, List.cons_append]
  gi_wp2
  go_ret
  exact ⟨rfl, rfl⟩

end Go.Proofs.Ytldkgkpiceamhaa
