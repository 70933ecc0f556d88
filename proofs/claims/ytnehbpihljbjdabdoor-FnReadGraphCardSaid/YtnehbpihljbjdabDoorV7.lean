/-
  The draw and the walk of the law of P65 (ReadGraph).
-/
import Derived.Test.YtnehbpihljbjdabDoorS7
import Derived.Test.YtnehbpihljbjdabDoorS9
import Derived.Test.YtnehbpihljbjdabDoorV6
import Derived.Test.YtnehbpihljbjdabDoorZD
import Derived.Test.YtnehbpihljbjdabDoorZK
import Derived.Test.YtnehbpihljbjdabDoorG1
namespace Go.Proofs.YtnehbpihljbjdabDoor
open Go.RowKit Go.Shelf Go.Deep

/-- The five texts that may be laid in. -/
def litS : Nat → ByteArray
  | 0 => ⟨#[]⟩
  | 1 => ⟨#[48]⟩
  | 2 => ⟨#[47]⟩
  | 3 => ⟨#[57]⟩
  | _ => ⟨#[49, 48]⟩
theorem litS_size (q : Nat) : (litS q).size ≤ 2 := by
  unfold litS; split <;> decide
theorem lit_cell (W : World) (q : Nat) (h : q < 5) : (W.alloc (.cells #[.string ⟨#[]⟩, .string ⟨#[48]⟩, .string ⟨#[47]⟩, .string ⟨#[57]⟩, .string ⟨#[49, 48]⟩] 9)).cell? ⟨W.heap.size, q, none⟩ = some (.string (litS q)) := by
  have h5 : q = 0 ∨ q = 1 ∨ q = 2 ∨ q = 3 ∨ q = 4 := by omega
  rcases h5 with rfl | rfl | rfl | rfl | rfl <;> simp [litS]
def DrawnS (w : World) (e : Ending) (w' : World) : Prop := ∃ s : ByteArray, e = .returned (.string s) ∧ s.size ≤ 1000 ∧ Below w.heap.size w w'

set_option maxRecDepth 100000 in
set_option maxHeartbeats 4000000 in
theorem drawRead_any (a : Option Addr) (n c : Nat) (w : World) (hn : n ≤ 1048576) (hc : n ≤ c) (hy : Bytes w.heap.size w a n) :
    Calls Tryd.prog 13 #[.slice a n c] w (DrawnS w) := by
  go_enter Tryd.func13, Tryd.ntmps13
  go_wp2_with fail
  refine (open_any a n c w hn hc hy).mono ?_
  rintro e w1 ⟨rfl, hR1, hB⟩
  have hz1 := hB.size
  have HB1 := Lib.hid hB
  obtain ⟨B, hBe⟩ : ∃ B, w.heap.size = B := ⟨_, rfl⟩
  rw [hBe] at hR1 ⊢
  go_wp2_with fail
  refine (graph_anyK B B 0 5 5 0 w1 hR1 (by omega) (by omega) (by omega) (by omega) (by omega) (by omega)).mono ?_
  rintro e w2 ⟨a2, c2, xss, rfl, hF, x2, hR2, hg2, hx4⟩
  have HG2 := Lib.hid hg2
  have HF := Lib.hid hF
  have HM2 := Lib.hid (x2.laid hR2)
  clear hF hR1 hg2 hB hy x2
  go_wp2_with fail
  refine (specText _ _ _ _ _ HM2.out (Nat.le_refl _) HF.out).mono ?_
  obtain ⟨t, HT⟩ : ∃ t, Hid (gTextB xss = t) := ⟨_, rfl⟩
  have hts : t.size ≤ 90 := by rw [← HT.out]; exact text_small
  rw [HT.out]
  rintro e w3 ⟨rfl, hB3⟩
  have hR3 : Rd B B w3 200 := hR2.keep (grown_of_below hB3) (fun r e => by cases e)
  have HG3 := Lib.hid (grow_B HG2.out (grown_of_below hB3) (fun r e => by cases e))
  clear hR2 hB3 HM2
  go_wp2_with fail
  refine (pick_any B B 200 _ _ hR3 (by omega)).mono ?_
  rintro e w4 ⟨x4, ⟨rfl, hp0, hp1, _⟩, hR4, hg4, -⟩
  have HG4 := Lib.hid (grow_B HG3.out hg4 (fun r e => by cases e; exact .inr rfl))
  have hfin : ∀ (w5 : World), w1.grownBy w5 (some B) → Below w.heap.size w w5 := fun w5 h => HB1.out.grown h hz1 (fun k e => by cases e; exact Nat.le_of_eq hBe)
  have HFIN := Lib.hid hfin
  clear hfin hR3 hg4
  by_cases hx : x4 = 0
  · subst hx
    by_cases ht0 : 0 < t.size
    · have hti : (0 : Int) < (t.size : Int) := by omega
      clear hp0 hp1
      go_wp2_with fail
      refine (pick_any B B 201 _ _ hR4 (by omega)).mono ?_
      rintro e w5 ⟨x5, ⟨rfl, hk0, hk1, _⟩, hR5, hg5, -⟩
      have hk2 := hk1 (by omega)
      obtain ⟨k, rfl⟩ : ∃ k : Nat, x5 = (k : Int) := ⟨x5.toNat, by omega⟩
      have HG5 := Lib.hid (grow_B HG4.out hg5 (fun r e => by cases e; exact .inr rfl))
      have HR5 := Lib.hid hR5
      have hk3 : (k : Int) ≤ (t.size : Int) := by omega
      have hk4 : (k : Int) + 1 ≤ (t.size : Int) := by omega
      have hk5 : (0 : Int) ≤ (k : Int) + 1 := by omega
      have hkw : IntKind.i64.wrap ((k : Int) + 1) = (k : Int) + 1 := by simp [IntKind.wrap, IntKind.bits, IntKind.signed]; omega
      clear hk1 hR4 hg5 hR5
      go_wp2_with fail
      refine wp_region_any (by kernel_rfl) ?_
      change wpAny _ _ _ _ _ _ _ (World.drew _)
      obtain ⟨U, hU⟩ : ∃ U, w5.drew = U := ⟨_, rfl⟩
      have hRU : Rd B B U 202 := by rw [← hU]; exact HR5.out
      have HGU : Hid (w1.grownBy U (some B)) := Lib.hid (by rw [← hU]; exact ⟨HG5.out.os, HG5.out.tape, HG5.out.output, HG5.out.size, HG5.out.block⟩)
      rw [hU]
      clear hU
      have hBU := hRU.lt
      have h1s : (t.extract 0 k).size ≤ 90 := by rw [ByteArray.size_extract]; omega
      have h2s : (t.extract (k + 1) t.size).size ≤ 90 := by rw [ByteArray.size_extract]; omega
      refine wpAny_take (i := 0) (v := ?_) rfl (by kernel_rfl) (by kernel_rfl) (by kernel_rfl) (fun _ _ _ h => h) (Or.inl ⟨by rfl, ?_⟩) ?_
      case refine_2 => intro w; first | (go_simp; rfl) | go_simp
      simp only [Act.put, List.getElem_toArray, List.getElem_cons_zero, List.setIfInBounds_toArray, List.set_cons_zero, List.set_cons_succ]
      refine wpAny_take (i := 1) (v := ?_) rfl (by kernel_rfl) (by kernel_rfl) (by kernel_rfl) (fun _ _ _ h => h) (Or.inl ⟨by rfl, ?_⟩) ?_
      case refine_2 => intro w; first | (go_simp; rfl) | go_simp
      simp only [Act.put, List.getElem_toArray, List.getElem_cons_succ, List.getElem_cons_zero, List.setIfInBounds_toArray, List.set_cons_zero, List.set_cons_succ]
      refine wpAny_take (i := 2) (v := ?_) rfl (by kernel_rfl) (by kernel_rfl) (by kernel_rfl) (fun _ _ _ h => h) (Or.inl ⟨by rfl, ?_⟩) ?_
      case refine_2 => intro w; first | (go_simp; rfl) | go_simp
      simp only [Act.put, List.getElem_toArray, List.getElem_cons_succ, List.getElem_cons_zero, List.setIfInBounds_toArray, List.set_cons_zero, List.set_cons_succ]
      refine wpAny_take (i := 4) (v := ?_) rfl (by kernel_rfl) (by kernel_rfl) (by kernel_rfl) (fun _ _ _ h => h) (Or.inl ⟨by rfl, ?_⟩) ?_
      case refine_2 => intro w; first | (go_simp; rfl) | go_simp
      simp only [Act.put, List.getElem_toArray, List.getElem_cons_succ, List.getElem_cons_zero, List.setIfInBounds_toArray, List.set_cons_zero, List.set_cons_succ]
      refine wpAny_take (i := 9) (v := ?_) rfl (by kernel_rfl) (by kernel_rfl) (by kernel_rfl) (fun _ _ _ h => h) (Or.inl ⟨by rfl, ?_⟩) ?_
      case refine_2 => intro w; first | (go_simp; rfl) | go_simp
      simp only [Act.put, List.getElem_toArray, List.getElem_cons_succ, List.getElem_cons_zero, List.setIfInBounds_toArray, List.set_cons_zero, List.set_cons_succ]
      refine wpAny_take (i := 10) (v := ?_) rfl (by kernel_rfl) (by kernel_rfl) (by kernel_rfl) (fun _ _ _ h => h) (Or.inl ⟨by rfl, ?_⟩) ?_
      case refine_2 => intro w; first | (go_simp; rfl) | go_simp
      simp only [Act.put, List.getElem_toArray, List.getElem_cons_succ, List.getElem_cons_zero, List.setIfInBounds_toArray, List.set_cons_zero, List.set_cons_succ]
      refine wpAny_take (i := 11) (v := ?_) rfl (by kernel_rfl) (by kernel_rfl) (by kernel_rfl) (fun _ _ _ h => h) (Or.inl ⟨by rfl, ?_⟩) ?_
      case refine_2 => intro w; first | (go_simp; rfl) | go_simp
      simp only [Act.put, List.getElem_toArray, List.getElem_cons_succ, List.getElem_cons_zero, List.setIfInBounds_toArray, List.set_cons_zero, List.set_cons_succ]
      refine wpAny_take (i := 12) (v := ?_) rfl (by kernel_rfl) (by kernel_rfl) (by kernel_rfl) (fun _ _ _ h => h) (Or.inl ⟨by rfl, ?_⟩) ?_
      case refine_2 => intro w; first | (go_simp; rfl) | go_simp
      simp only [Act.put, List.getElem_toArray, List.getElem_cons_succ, List.getElem_cons_zero, List.setIfInBounds_toArray, List.set_cons_zero, List.set_cons_succ]
      generalize t.extract 0 k = p1 at h1s ⊢
      generalize t.extract (k + 1) t.size = p2 at h2s ⊢
      have HRU := Lib.hid hRU
      clear hRU
      refine wpAny_ready (rs := [3, 5]) (by kernel_rfl) (by simp) ?_
      refine AllReady.cons rfl (fun K hK => ?_) (AllReady.cons rfl (fun K hK => ?_) AllReady.nil)
      · go_simp
        refine hK _ _ ?_
        clear hK K
        have HRA : Hid (Rd B B (U.alloc (.cells #[.string ⟨#[]⟩, .string ⟨#[48]⟩, .string ⟨#[47]⟩, .string ⟨#[57]⟩, .string ⟨#[49, 48]⟩] 9)) 202) := Lib.hid (HRU.out.keep (World.grownBy_alloc U _ none) (fun r e => by cases e))
        refine wpAny_ready (rs := [5]) (by kernel_rfl) (by simp) ?_
        refine AllReady.cons rfl (fun K hK => ?_) AllReady.nil
        go_simp
        refine (pick_any B B 202 5 _ (HRA.out) (by omega)).mono ?_
        rintro e w9 ⟨y, ⟨rfl, hy0', hy1', _⟩, hR9, hg9, hs9⟩
        have hy2' := hy1' (by omega)
        obtain ⟨q, rfl⟩ : ∃ q : Nat, y = (q : Int) := ⟨y.toNat, by omega⟩
        have hq5 : q < 5 := by omega
        have hqi : (q : Int) < 5 := by omega
        have hls := litS_size q
        have hnb1 : ¬ 9223372036854775807 < p1.size + (litS q).size := by omega
        have hnb2 : ¬ 9223372036854775807 < p1.size + (litS q).size + p2.size := by omega
        have hcl : w9.cell? ⟨U.heap.size, q, none⟩ = some (.string (litS q)) := hg9.cell (lit_cell U q hq5) (fun e => by have e' : U.heap.size = B := Option.some.inj e; omega)
        have HGF := Lib.hid (grow_B (grow_B HGU.out (World.grownBy_alloc U (.cells #[.string ⟨#[]⟩, .string ⟨#[48]⟩, .string ⟨#[47]⟩, .string ⟨#[57]⟩, .string ⟨#[49, 48]⟩] 9) none) (fun r e => by cases e)) hg9 (fun r e => by cases e; exact .inr rfl))
        clear hg9 hs9 hR9 hy1'
        refine hK _ _ ?_
        clear hK K
        refine wpAny_take (i := 6) (v := ?_) rfl (by kernel_rfl) (by kernel_rfl) (by kernel_rfl) (fun _ _ _ h => h) (Or.inl ⟨by rfl, ?_⟩) ?_
        case refine_2 => intro w; first | (go_simp; rfl) | go_simp
        simp only [Act.put, List.getElem_toArray, List.getElem_cons_succ, List.getElem_cons_zero, List.setIfInBounds_toArray, List.set_cons_zero, List.set_cons_succ]
        refine wpAny_ready (rs := [7]) (by kernel_rfl) (by simp) ?_
        refine AllReady.cons rfl (fun K hK => ?_) AllReady.nil
        go_simp
        refine hK _ _ ?_
        clear hK K
        refine wpAny_take (i := 8) (v := ?_) rfl (by kernel_rfl) (by kernel_rfl) (by kernel_rfl) (fun _ _ _ h => h) (Or.inl ⟨by rfl, ?_⟩) ?_
        case refine_2 => intro w; first | (go_simp; rfl) | go_simp
        simp only [Act.put, List.getElem_toArray, List.getElem_cons_succ, List.getElem_cons_zero, List.setIfInBounds_toArray, List.set_cons_zero, List.set_cons_succ]
        refine wpAny_take (i := 13) (v := ?_) rfl (by kernel_rfl) (by kernel_rfl) (by kernel_rfl) (fun _ _ _ h => h) (Or.inl ⟨by rfl, ?_⟩) ?_
        case refine_2 => intro w; first | (go_simp; rfl) | go_simp
        simp only [Act.put, List.getElem_toArray, List.getElem_cons_succ, List.getElem_cons_zero, List.setIfInBounds_toArray, List.set_cons_zero, List.set_cons_succ]
        refine wpAny_take (i := 14) (v := ?_) rfl (by kernel_rfl) (by kernel_rfl) (by kernel_rfl) (fun _ _ _ h => h) (Or.inl ⟨by rfl, ?_⟩) ?_
        case refine_2 => intro w; first | (go_simp; rfl) | go_simp
        simp only [Act.put, List.getElem_toArray, List.getElem_cons_succ, List.getElem_cons_zero, List.setIfInBounds_toArray, List.set_cons_zero, List.set_cons_succ]
        refine wpAny_done (by kernel_rfl) ?_ _
        go_wp2_with fail
        go_ret
        exact ⟨_, rfl, by rw [ByteArray.size_append, ByteArray.size_append]; omega, HFIN.out _ HGF.out⟩
      · go_simp
        refine (pick_any B B 202 5 _ (HRU.out) (by omega)).mono ?_
        rintro e w9 ⟨y, ⟨rfl, hy0', hy1', _⟩, hR9, hg9, hs9⟩
        have hy2' := hy1' (by omega)
        obtain ⟨q, rfl⟩ : ∃ q : Nat, y = (q : Int) := ⟨y.toNat, by omega⟩
        have hq5 : q < 5 := by omega
        have hqi : (q : Int) < 5 := by omega
        have hls := litS_size q
        have hnb1 : ¬ 9223372036854775807 < p1.size + (litS q).size := by omega
        have hnb2 : ¬ 9223372036854775807 < p1.size + (litS q).size + p2.size := by omega
        have HGF := Lib.hid (grow_B HGU.out hg9 (fun r e => by cases e; exact .inr rfl))
        have hcl := lit_cell w9 q hq5
        clear hg9 hs9 hR9 hy1'
        refine hK _ _ ?_
        clear hK K
        refine wpAny_ready (rs := [3]) (by kernel_rfl) (by simp) ?_
        refine AllReady.cons rfl (fun K hK => ?_) AllReady.nil
        go_simp
        refine hK _ _ ?_
        clear hK K
        refine wpAny_take (i := 6) (v := ?_) rfl (by kernel_rfl) (by kernel_rfl) (by kernel_rfl) (fun _ _ _ h => h) (Or.inl ⟨by rfl, ?_⟩) ?_
        case refine_2 => intro w; first | (go_simp; rfl) | go_simp
        simp only [Act.put, List.getElem_toArray, List.getElem_cons_succ, List.getElem_cons_zero, List.setIfInBounds_toArray, List.set_cons_zero, List.set_cons_succ]
        refine wpAny_ready (rs := [7]) (by kernel_rfl) (by simp) ?_
        refine AllReady.cons rfl (fun K hK => ?_) AllReady.nil
        go_simp
        refine hK _ _ ?_
        clear hK K
        refine wpAny_take (i := 8) (v := ?_) rfl (by kernel_rfl) (by kernel_rfl) (by kernel_rfl) (fun _ _ _ h => h) (Or.inl ⟨by rfl, ?_⟩) ?_
        case refine_2 => intro w; first | (go_simp; rfl) | go_simp
        simp only [Act.put, List.getElem_toArray, List.getElem_cons_succ, List.getElem_cons_zero, List.setIfInBounds_toArray, List.set_cons_zero, List.set_cons_succ]
        refine wpAny_take (i := 13) (v := ?_) rfl (by kernel_rfl) (by kernel_rfl) (by kernel_rfl) (fun _ _ _ h => h) (Or.inl ⟨by rfl, ?_⟩) ?_
        case refine_2 => intro w; first | (go_simp; rfl) | go_simp
        simp only [Act.put, List.getElem_toArray, List.getElem_cons_succ, List.getElem_cons_zero, List.setIfInBounds_toArray, List.set_cons_zero, List.set_cons_succ]
        refine wpAny_take (i := 14) (v := ?_) rfl (by kernel_rfl) (by kernel_rfl) (by kernel_rfl) (fun _ _ _ h => h) (Or.inl ⟨by rfl, ?_⟩) ?_
        case refine_2 => intro w; first | (go_simp; rfl) | go_simp
        simp only [Act.put, List.getElem_toArray, List.getElem_cons_succ, List.getElem_cons_zero, List.setIfInBounds_toArray, List.set_cons_zero, List.set_cons_succ]
        refine wpAny_done (by kernel_rfl) ?_ _
        go_wp2_with fail
        go_ret
        exact ⟨_, rfl, by rw [ByteArray.size_append, ByteArray.size_append]; omega, HFIN.out _ (grow_B HGF.out (World.grownBy_alloc w9 _ none) (fun r e => by cases e))⟩
    · have hti : ¬ (0 : Int) < (t.size : Int) := by omega
      go_wp2_with fail
      go_ret
      exact ⟨t, rfl, by omega, HFIN.out _ HG4.out⟩
  · have hxb : (x4 == 0) = false := by simpa using hx
    clear hx
    go_wp2_with fail
    go_ret
    exact ⟨t, rfl, by omega, HFIN.out _ HG4.out⟩

set_option maxRecDepth 100000 in
set_option maxHeartbeats 4000000 in
theorem readGraph_any (a : Option Addr) (n c : Nat) (m : Int) (w : World) (hc : n ≤ c) (hl : n ≤ 9223372036854775807) (hy : Bytes w.heap.size w a n) (hm : w.cell? ⟨0, 0, none⟩ = some (.int .i64 m)) :
    Calls Tryd.prog 4 #[.slice a n c] w (Ans (.bool true) w) := by
  by_cases hbig : 1048576 < n
  · go_enter Tryd.func4, Tryd.ntmps4
    go_wp2_with fail
    go_ret
    exact ⟨rfl, Below.refl _ _⟩
  have h0 := block_of_cell hm
  have HM := Lib.hid hm
  clear hm
  go_enter Tryd.func4, Tryd.ntmps4
  go_wp2_with fail
  refine (drawRead_any a n c w (by omega) hc hy).mono ?_
  rintro e w1 ⟨s, rfl, hs, hB⟩
  have HB := Lib.hid hB
  have hs2 : s.size ≤ 1048576 := by omega
  clear hB hy
  obtain ⟨T, HT, HTF⟩ : ∃ T, Hid (rdL s.data.toList = T) ∧ Hid (Fit T) := ⟨_, rfl, rd_fit⟩
  obtain ⟨z, HZ⟩ : ∃ z, Hid (rdOk s.data.toList = z) := ⟨_, rfl⟩
  have htl := HTF.out.1
  have hzz : (z != z) = false := by simp
  go_wp2_with fail
  refine (implRead s m w1 hs2 ((HB.out.cell (p := ⟨0, 0, none⟩) h0).trans HM.out)).mono ?_
  rw [HT.out, HZ.out]
  rintro e w2 ⟨b2, c2, ⟨rfl, hB2⟩, hO2⟩
  have hT2 := hO2.mat
  have HB2 := Lib.hid (HB.out.trans (hB2.mono HB.out.size))
  clear hB2 hO2
  go_wp2_with fail
  refine (specRead s w2 hs2).mono ?_
  rw [HT.out, HZ.out]
  rintro e w3 ⟨b3, c3, ⟨rfl, hB3⟩, hX3⟩
  have hz3 := hB3.size
  have hT3 := (hT2.below hB3).more hz3
  have HB3 := Lib.hid (HB2.out.trans (hB3.mono HB2.out.size))
  clear hB3 hT2
  go_wp2_with fail
  refine (sameSS_same _ _ _ _ _ _ _ hT3 hX3 HTF.out).mono ?_
  rintro e w4 h4
  obtain ⟨rfl, hB4⟩ := h4.below
  have hz4 := hB4.size
  have hT4 := (hT3.below hB4).more hz4
  have HB4 := Lib.hid (HB3.out.trans (hB4.mono HB3.out.size))
  clear h4 hB4 hT3 hX3
  cases z with
  | false =>
    obtain rfl : T = [] := by rw [← HT.out, rdL_no HZ.out]
    clear hT4
    go_wp2_with fail
    refine (alive_any _).mono ?_
    rintro e w6 ⟨rfl, hB6⟩
    have HB6 := Lib.hid (HB4.out.trans (hB6.mono HB4.out.size))
    clear hB6
    go_wp2_with fail
    go_ret
    exact ⟨rfl, HB6.out⟩
  | true =>
    have HG : Hid (gOk T = true) := Lib.hid (by rw [← HT.out]; exact gOk_true (rd_good HZ.out))
    have HTX : Hid (gTextB T = s) := Lib.hid (by rw [← HT.out, rd_text HZ.out])
    go_wp2_with fail
    refine (implOk _ _ _ _ hT4 HTF.out).mono ?_
    rw [HG.out]
    rintro e w5 ⟨rfl, hB5⟩
    have hz5 := hB5.size
    have hT5 := (hT4.below hB5).more hz5
    have HB5 := Lib.hid (HB4.out.trans (hB5.mono HB4.out.size))
    clear hB5 hT4
    go_wp2_with fail
    refine (implText _ _ _ _ hT5 HTF.out).mono ?_
    rw [HTX.out]
    rintro e w6 ⟨rfl, hB6⟩
    have HB6 := Lib.hid (HB5.out.trans (hB6.mono HB5.out.size))
    clear hB6 hT5
    go_wp2_with fail
    refine (alive_any _).mono ?_
    rintro e w7 ⟨rfl, hB7⟩
    have HB7 := Lib.hid (HB6.out.trans (hB7.mono HB6.out.size))
    clear hB7
    go_wp2_with fail
    go_ret
    exact ⟨rfl, HB7.out⟩

end Go.Proofs.YtnehbpihljbjdabDoor
