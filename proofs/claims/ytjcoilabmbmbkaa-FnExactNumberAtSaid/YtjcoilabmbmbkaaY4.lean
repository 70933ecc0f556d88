/-
  The program's powerWith.
-/
import Derived.Test.YtjcoilabmbmbkaaY3
import Derived.RegionTactic
namespace Go.Proofs.Ytjcoilabmbmbkaa
open Go.RowKit Go.Shelf Go.Deep

theorem PBox.drew {W : World} {B m c m' c' : Nat} {a a' : Option Addr} (h : PBox W B a m c a' m' c') : PBox W.drew B a m c a' m' c' := h
theorem PBox.frozen {W : World} {B m c m' c' : Nat} {a a' : Option Addr} (h : PBox W B a m c a' m' c') (k : Nat) : W.frozen? ⟨B, k, none⟩ = false := by simp [World.frozen?, show W.heap[B]? = _ from h]
theorem PBox.store {W : World} {B m c m' c' : Nat} {a a' : Option Addr} (h : PBox W B a m c a' m' c') (b b' : Option Addr) (n d n' d' : Nat) : PBox ((W.setCell ⟨B, 0, none⟩ (.slice b n d)).setCell ⟨B, 1, none⟩ (.slice b' n' d')) B b n d b' n' d' := by
  unfold PBox at h ⊢
  simp [World.setCell, Array.getElem?_modify, h]
theorem PBox.far {W : World} {B B' m c m' c' k : Nat} {a a' : Option Addr} {v : Value} (h : PBox W B a m c a' m' c') (hne : B ≠ B') : PBox (W.setCell ⟨B', k, none⟩ v) B a m c a' m' c' := (Below.heap_setCell W ⟨B', k, none⟩ v B hne).trans h

set_option maxRecDepth 100000 in
set_option maxHeartbeats 8000000 in
theorem powWithN1 (a a' : Option Addr) (c c' : Nat) (H G : List (List Int)) (w : World) (hM : Mat w.heap.size w a H) (_hM' : Mat w.heap.size w a' G) (hf : Fit H) (_hf' : Fit G) (hx : gOk H = false) :
    Calls Try.prog 48 #[.slice a H.length c, .slice a' G.length c'] w (Ans (.tuple #[.agg #[.slice a H.length c, .slice a' G.length c'], .bool false]) w) := by
  have HC1 : Hid (∀ W, Below w.heap.size w W → Calls Try.prog 21 #[.slice a H.length c] W (Ans (.bool false) W)) := Lib.hid fun W hW => by
    have h := implOk a c H W ((hM.below hW).more hW.size) hf
    rw [hx] at h; exact h
  have hB00 := ((Below.refl w.heap.size w).alloc (Nat.le_refl _) (.cells #[.slice none 0 0, .slice none 0 0] 58)).alloc (by simp) (.cells #[.slice a H.length c, .slice a' G.length c'] 58)
  have hR00 := (PBox.new w none 0 0 none 0 0).alloc (.cells #[.slice a H.length c, .slice a' G.length c'] 58)
  have hP00 := PBox.new (w.alloc (.cells #[.slice none 0 0, .slice none 0 0] 58)) a H.length c a' G.length c'
  rw [World.size_alloc] at hP00
  clear hM _hM' hf _hf' hx
  go_enter Try.func48, Try.ntmps48
  go_wp2_with fail
  refine wp_region_held_drew (S := fun W => PBox W (w.heap.size + 1) a H.length c a' G.length c') (by kernel_rfl) hP00.drew (fun hS0 => ?_)
  change wpAnyH _ _ _ _ _ _ _ _ (World.drew _)
  have hB0 := hB00.drew
  have hR0 := hR00.drew
  obtain ⟨V, hV⟩ : ∃ V, World.drew ((w.alloc (.cells #[.slice none 0 0, .slice none 0 0] 58)).alloc (.cells #[.slice a H.length c, .slice a' G.length c'] 58)) = V := ⟨_, rfl⟩
  rw [hV] at hS0 hB0 hR0 ⊢
  clear hV hB00 hR00 hP00
  have hP0 := hS0
  have ltR0 := hR0.lt
  have ltP0 := hP0.lt
  refine wpAnyH_take (i := 0) (v := ?_) rfl (by kernel_rfl) (by kernel_rfl) (by kernel_rfl) (fun _ _ _ h => h) (Or.inl ⟨by rfl, ?_⟩) hS0 ?_
  case refine_2 => rintro w s1; have c0 := s1.base; have c1 := s1.exponent; first | (go_simp; rfl) | go_simp
  simp only [Act.put, List.getElem_toArray, List.getElem_cons_zero, List.setIfInBounds_toArray, List.set_cons_zero, List.set_cons_succ]
  refine wpAnyH_take (i := 1) (v := ?_) rfl (by kernel_rfl) (by kernel_rfl) (by kernel_rfl) (fun _ _ _ h => h) (Or.inl ⟨by rfl, ?_⟩) hS0 ?_
  case refine_2 => rintro w s1; have c0 := s1.base; have c1 := s1.exponent; first | (go_simp; rfl) | go_simp
  simp only [Act.put, List.getElem_toArray, List.getElem_cons_succ, List.getElem_cons_zero, List.setIfInBounds_toArray, List.set_cons_zero, List.set_cons_succ]
  refine wpAnyH_ready (rs := [2]) (by kernel_rfl) (by simp) ?_
  refine AllReadyH.cons rfl (fun K hK => ?_) AllReadyH.nil
  go_simp
  refine (HC1.out _ hB0).mono ?_
  rintro e w1 ⟨rfl, hD1⟩
  have hB1 := hB0.trans (hD1.mono hB0.size)
  have hP1 := hP0.below hD1 ltP0
  have hR1 := hR0.below hD1 ltR0
  have ltR1 := hR1.lt
  have ltP1 := hP1.lt
  refine hK.out _ _ hP1 (fun hS1 => ?_)
  clear hK K
  refine wpAnyH_take (i := 3) (v := ?_) rfl (by kernel_rfl) (by kernel_rfl) (by kernel_rfl) (fun _ _ _ h => h) (Or.inl ⟨by rfl, ?_⟩) hS1 ?_
  case refine_2 => rintro w s1; have c0 := s1.base; have c1 := s1.exponent; first | (go_simp; rfl) | go_simp
  simp only [Act.put, List.getElem_toArray, List.getElem_cons_succ, List.getElem_cons_zero, List.setIfInBounds_toArray, List.set_cons_zero, List.set_cons_succ]
  refine wpAnyH_take (i := 4) (v := undef) rfl (by kernel_rfl) (by kernel_rfl) (by kernel_rfl) (fun _ _ _ h => h) (Or.inr ⟨by rfl, rfl⟩) hS1 ?_
  simp only [Act.put, List.getElem_toArray, List.getElem_cons_succ, List.getElem_cons_zero, List.setIfInBounds_toArray, List.set_cons_zero, List.set_cons_succ]
  refine wpAnyH_take (i := 5) (v := undef) rfl (by kernel_rfl) (by kernel_rfl) (by kernel_rfl) (fun _ _ _ h => h) (Or.inr ⟨by rfl, rfl⟩) hS1 ?_
  simp only [Act.put, List.getElem_toArray, List.getElem_cons_succ, List.getElem_cons_zero, List.setIfInBounds_toArray, List.set_cons_zero, List.set_cons_succ]
  refine wpAnyH_take (i := 6) (v := ?_) rfl (by kernel_rfl) (by kernel_rfl) (by kernel_rfl) (fun _ _ _ h => h) (Or.inl ⟨by rfl, ?_⟩) hS1 ?_
  case refine_2 => rintro w s1; have c0 := s1.base; have c1 := s1.exponent; first | (go_simp; rfl) | go_simp
  simp only [Act.put, List.getElem_toArray, List.getElem_cons_succ, List.getElem_cons_zero, List.setIfInBounds_toArray, List.set_cons_zero, List.set_cons_succ]
  refine wpAnyH_take (i := 7) (v := ?_) rfl (by kernel_rfl) (by kernel_rfl) (by kernel_rfl) (fun _ _ _ h => h) (Or.inl ⟨by rfl, ?_⟩) hS1 ?_
  case refine_2 => rintro w s1; have c0 := s1.base; have c1 := s1.exponent; first | (go_simp; rfl) | go_simp
  simp only [Act.put, List.getElem_toArray, List.getElem_cons_succ, List.getElem_cons_zero, List.setIfInBounds_toArray, List.set_cons_zero, List.set_cons_succ]
  refine wpAnyH_take (i := 8) (v := undef) rfl (by kernel_rfl) (by kernel_rfl) (by kernel_rfl) (fun _ _ _ h => h) (Or.inr ⟨by rfl, rfl⟩) hS1 ?_
  simp only [Act.put, List.getElem_toArray, List.getElem_cons_succ, List.getElem_cons_zero, List.setIfInBounds_toArray, List.set_cons_zero, List.set_cons_succ]
  refine wpAnyH_take (i := 9) (v := undef) rfl (by kernel_rfl) (by kernel_rfl) (by kernel_rfl) (fun _ _ _ h => h) (Or.inr ⟨by rfl, rfl⟩) hS1 ?_
  simp only [Act.put, List.getElem_toArray, List.getElem_cons_succ, List.getElem_cons_zero, List.setIfInBounds_toArray, List.set_cons_zero, List.set_cons_succ]
  refine wpAnyH_take (i := 10) (v := undef) rfl (by kernel_rfl) (by kernel_rfl) (by kernel_rfl) (fun _ _ _ h => h) (Or.inr ⟨by rfl, rfl⟩) hS1 ?_
  simp only [Act.put, List.getElem_toArray, List.getElem_cons_succ, List.getElem_cons_zero, List.setIfInBounds_toArray, List.set_cons_zero, List.set_cons_succ]
  refine wpAnyH_take (i := 11) (v := ?_) rfl (by kernel_rfl) (by kernel_rfl) (by kernel_rfl) (fun _ _ _ h => h) (Or.inl ⟨by rfl, ?_⟩) hS1 ?_
  case refine_2 => rintro w s1; have c0 := s1.base; have c1 := s1.exponent; first | (go_simp; rfl) | go_simp
  simp only [Act.put, List.getElem_toArray, List.getElem_cons_succ, List.getElem_cons_zero, List.setIfInBounds_toArray, List.set_cons_zero, List.set_cons_succ]
  refine wpAnyH_ready (rs := [12]) (by kernel_rfl) (by simp) ?_
  refine AllReadyH.cons rfl (fun K hK => ?_) AllReadyH.nil
  go_simp
  have cR := hR1.base
  have cR' := hR1.exponent
  have fR := hR1.frozen 0
  have fR' := hR1.frozen 1
  go_simp
  have hE := hR1.store a a' H.length c G.length c'
  have hBE := (hB1.setCell (p := ⟨w.heap.size, 0, none⟩) (Nat.le_refl _) (.slice a H.length c)).setCell (p := ⟨w.heap.size, 1, none⟩) (Nat.le_refl _) (.slice a' G.length c')
  refine hK.out _ _ ((hP1.far (by omega)).far (by omega)) (fun hS2 => ?_)
  clear hK K
  refine wpAnyH_take (i := 13) (v := ?_) rfl (by kernel_rfl) (by kernel_rfl) (by kernel_rfl) (fun _ _ _ h => h) (Or.inl ⟨by rfl, ?_⟩) hS2 ?_
  case refine_2 => rintro w s1; have c0 := s1.base; have c1 := s1.exponent; first | (go_simp; rfl) | go_simp
  simp only [Act.put, List.getElem_toArray, List.getElem_cons_succ, List.getElem_cons_zero, List.setIfInBounds_toArray, List.set_cons_zero, List.set_cons_succ]
  refine wpAnyH_done (by kernel_rfl) ?_ _
  have cE := hE.base
  have cE' := hE.exponent
  go_wp2_with fail
  refine ⟨rfl, .tuple #[.agg #[.slice a H.length c, .slice a' G.length c'], .bool false], ?_, rfl, hBE⟩
  simp [results, Try.f48, go_sem, cE, cE']

set_option maxRecDepth 100000 in
set_option maxHeartbeats 8000000 in
theorem powWithN2 (a a' : Option Addr) (c c' : Nat) (H G : List (List Int)) (w : World) (hM : Mat w.heap.size w a H) (hM' : Mat w.heap.size w a' G) (hf : Fit H) (hf' : Fit G) (hx : gOk H = true) (hy : gOk G = false) :
    Calls Try.prog 48 #[.slice a H.length c, .slice a' G.length c'] w (Ans (.tuple #[.agg #[.slice a H.length c, .slice a' G.length c'], .bool false]) w) := by
  have HC1 : Hid (∀ W, Below w.heap.size w W → Calls Try.prog 21 #[.slice a H.length c] W (Ans (.bool true) W)) := Lib.hid fun W hW => by
    have h := implOk a c H W ((hM.below hW).more hW.size) hf
    rw [hx] at h; exact h
  have HC2 : Hid (∀ W, Below w.heap.size w W → Calls Try.prog 21 #[.slice a' G.length c'] W (Ans (.bool false) W)) := Lib.hid fun W hW => by
    have h := implOk a' c' G W ((hM'.below hW).more hW.size) hf'
    rw [hy] at h; exact h
  have hB00 := ((Below.refl w.heap.size w).alloc (Nat.le_refl _) (.cells #[.slice none 0 0, .slice none 0 0] 58)).alloc (by simp) (.cells #[.slice a H.length c, .slice a' G.length c'] 58)
  have hR00 := (PBox.new w none 0 0 none 0 0).alloc (.cells #[.slice a H.length c, .slice a' G.length c'] 58)
  have hP00 := PBox.new (w.alloc (.cells #[.slice none 0 0, .slice none 0 0] 58)) a H.length c a' G.length c'
  rw [World.size_alloc] at hP00
  clear hM hM' hf hf' hx hy
  go_enter Try.func48, Try.ntmps48
  go_wp2_with fail
  refine wp_region_held_drew (S := fun W => PBox W (w.heap.size + 1) a H.length c a' G.length c') (by kernel_rfl) hP00.drew (fun hS0 => ?_)
  change wpAnyH _ _ _ _ _ _ _ _ (World.drew _)
  have hB0 := hB00.drew
  have hR0 := hR00.drew
  obtain ⟨V, hV⟩ : ∃ V, World.drew ((w.alloc (.cells #[.slice none 0 0, .slice none 0 0] 58)).alloc (.cells #[.slice a H.length c, .slice a' G.length c'] 58)) = V := ⟨_, rfl⟩
  rw [hV] at hS0 hB0 hR0 ⊢
  clear hV hB00 hR00 hP00
  have hP0 := hS0
  have ltR0 := hR0.lt
  have ltP0 := hP0.lt
  refine wpAnyH_take (i := 0) (v := ?_) rfl (by kernel_rfl) (by kernel_rfl) (by kernel_rfl) (fun _ _ _ h => h) (Or.inl ⟨by rfl, ?_⟩) hS0 ?_
  case refine_2 => rintro w s1; have c0 := s1.base; have c1 := s1.exponent; first | (go_simp; rfl) | go_simp
  simp only [Act.put, List.getElem_toArray, List.getElem_cons_zero, List.setIfInBounds_toArray, List.set_cons_zero, List.set_cons_succ]
  refine wpAnyH_take (i := 1) (v := ?_) rfl (by kernel_rfl) (by kernel_rfl) (by kernel_rfl) (fun _ _ _ h => h) (Or.inl ⟨by rfl, ?_⟩) hS0 ?_
  case refine_2 => rintro w s1; have c0 := s1.base; have c1 := s1.exponent; first | (go_simp; rfl) | go_simp
  simp only [Act.put, List.getElem_toArray, List.getElem_cons_succ, List.getElem_cons_zero, List.setIfInBounds_toArray, List.set_cons_zero, List.set_cons_succ]
  refine wpAnyH_ready (rs := [2]) (by kernel_rfl) (by simp) ?_
  refine AllReadyH.cons rfl (fun K hK => ?_) AllReadyH.nil
  go_simp
  refine (HC1.out _ hB0).mono ?_
  rintro e w1 ⟨rfl, hD1⟩
  have hB1 := hB0.trans (hD1.mono hB0.size)
  have hP1 := hP0.below hD1 ltP0
  have hR1 := hR0.below hD1 ltR0
  have ltR1 := hR1.lt
  have ltP1 := hP1.lt
  refine hK.out _ _ hP1 (fun hS1 => ?_)
  clear hK K
  refine wpAnyH_take (i := 3) (v := ?_) rfl (by kernel_rfl) (by kernel_rfl) (by kernel_rfl) (fun _ _ _ h => h) (Or.inl ⟨by rfl, ?_⟩) hS1 ?_
  case refine_2 => rintro w s1; have c0 := s1.base; have c1 := s1.exponent; first | (go_simp; rfl) | go_simp
  simp only [Act.put, List.getElem_toArray, List.getElem_cons_succ, List.getElem_cons_zero, List.setIfInBounds_toArray, List.set_cons_zero, List.set_cons_succ]
  refine wpAnyH_take (i := 4) (v := ?_) rfl (by kernel_rfl) (by kernel_rfl) (by kernel_rfl) (fun _ _ _ h => h) (Or.inl ⟨by rfl, ?_⟩) hS1 ?_
  case refine_2 => rintro w s1; have c0 := s1.base; have c1 := s1.exponent; first | (go_simp; rfl) | go_simp
  simp only [Act.put, List.getElem_toArray, List.getElem_cons_succ, List.getElem_cons_zero, List.setIfInBounds_toArray, List.set_cons_zero, List.set_cons_succ]
  refine wpAnyH_ready (rs := [5]) (by kernel_rfl) (by simp) ?_
  refine AllReadyH.cons rfl (fun K hK => ?_) AllReadyH.nil
  go_simp
  refine (HC2.out _ hB1).mono ?_
  rintro e w2 ⟨rfl, hD2⟩
  have hB2 := hB1.trans (hD2.mono hB1.size)
  have hP2 := hP1.below hD2 ltP1
  have hR2 := hR1.below hD2 ltR1
  have ltR2 := hR2.lt
  have ltP2 := hP2.lt
  refine hK.out _ _ hP2 (fun hS2 => ?_)
  clear hK K
  refine wpAnyH_take (i := 6) (v := ?_) rfl (by kernel_rfl) (by kernel_rfl) (by kernel_rfl) (fun _ _ _ h => h) (Or.inl ⟨by rfl, ?_⟩) hS2 ?_
  case refine_2 => rintro w s1; have c0 := s1.base; have c1 := s1.exponent; first | (go_simp; rfl) | go_simp
  simp only [Act.put, List.getElem_toArray, List.getElem_cons_succ, List.getElem_cons_zero, List.setIfInBounds_toArray, List.set_cons_zero, List.set_cons_succ]
  refine wpAnyH_take (i := 7) (v := ?_) rfl (by kernel_rfl) (by kernel_rfl) (by kernel_rfl) (fun _ _ _ h => h) (Or.inl ⟨by rfl, ?_⟩) hS2 ?_
  case refine_2 => rintro w s1; have c0 := s1.base; have c1 := s1.exponent; first | (go_simp; rfl) | go_simp
  simp only [Act.put, List.getElem_toArray, List.getElem_cons_succ, List.getElem_cons_zero, List.setIfInBounds_toArray, List.set_cons_zero, List.set_cons_succ]
  refine wpAnyH_take (i := 8) (v := undef) rfl (by kernel_rfl) (by kernel_rfl) (by kernel_rfl) (fun _ _ _ h => h) (Or.inr ⟨by rfl, rfl⟩) hS2 ?_
  simp only [Act.put, List.getElem_toArray, List.getElem_cons_succ, List.getElem_cons_zero, List.setIfInBounds_toArray, List.set_cons_zero, List.set_cons_succ]
  refine wpAnyH_take (i := 9) (v := undef) rfl (by kernel_rfl) (by kernel_rfl) (by kernel_rfl) (fun _ _ _ h => h) (Or.inr ⟨by rfl, rfl⟩) hS2 ?_
  simp only [Act.put, List.getElem_toArray, List.getElem_cons_succ, List.getElem_cons_zero, List.setIfInBounds_toArray, List.set_cons_zero, List.set_cons_succ]
  refine wpAnyH_take (i := 10) (v := undef) rfl (by kernel_rfl) (by kernel_rfl) (by kernel_rfl) (fun _ _ _ h => h) (Or.inr ⟨by rfl, rfl⟩) hS2 ?_
  simp only [Act.put, List.getElem_toArray, List.getElem_cons_succ, List.getElem_cons_zero, List.setIfInBounds_toArray, List.set_cons_zero, List.set_cons_succ]
  refine wpAnyH_take (i := 11) (v := ?_) rfl (by kernel_rfl) (by kernel_rfl) (by kernel_rfl) (fun _ _ _ h => h) (Or.inl ⟨by rfl, ?_⟩) hS2 ?_
  case refine_2 => rintro w s1; have c0 := s1.base; have c1 := s1.exponent; first | (go_simp; rfl) | go_simp
  simp only [Act.put, List.getElem_toArray, List.getElem_cons_succ, List.getElem_cons_zero, List.setIfInBounds_toArray, List.set_cons_zero, List.set_cons_succ]
  refine wpAnyH_ready (rs := [12]) (by kernel_rfl) (by simp) ?_
  refine AllReadyH.cons rfl (fun K hK => ?_) AllReadyH.nil
  go_simp
  have cR := hR2.base
  have cR' := hR2.exponent
  have fR := hR2.frozen 0
  have fR' := hR2.frozen 1
  go_simp
  have hE := hR2.store a a' H.length c G.length c'
  have hBE := (hB2.setCell (p := ⟨w.heap.size, 0, none⟩) (Nat.le_refl _) (.slice a H.length c)).setCell (p := ⟨w.heap.size, 1, none⟩) (Nat.le_refl _) (.slice a' G.length c')
  refine hK.out _ _ ((hP2.far (by omega)).far (by omega)) (fun hS3 => ?_)
  clear hK K
  refine wpAnyH_take (i := 13) (v := ?_) rfl (by kernel_rfl) (by kernel_rfl) (by kernel_rfl) (fun _ _ _ h => h) (Or.inl ⟨by rfl, ?_⟩) hS3 ?_
  case refine_2 => rintro w s1; have c0 := s1.base; have c1 := s1.exponent; first | (go_simp; rfl) | go_simp
  simp only [Act.put, List.getElem_toArray, List.getElem_cons_succ, List.getElem_cons_zero, List.setIfInBounds_toArray, List.set_cons_zero, List.set_cons_succ]
  refine wpAnyH_done (by kernel_rfl) ?_ _
  have cE := hE.base
  have cE' := hE.exponent
  go_wp2_with fail
  refine ⟨rfl, .tuple #[.agg #[.slice a H.length c, .slice a' G.length c'], .bool false], ?_, rfl, hBE⟩
  simp [results, Try.f48, go_sem, cE, cE']

set_option maxRecDepth 100000 in
set_option maxHeartbeats 8000000 in
theorem powWithN3 (a a' : Option Addr) (c c' : Nat) (H G : List (List Int)) (w : World) (hM : Mat w.heap.size w a H) (hM' : Mat w.heap.size w a' G) (hf : Fit H) (hf' : Fit G) (hx : gOk H = true) (hy : gOk G = true) (h9 : ¬ H.length ^ G.length ≤ 9) :
    Calls Try.prog 48 #[.slice a H.length c, .slice a' G.length c'] w (Ans (.tuple #[.agg #[.slice a H.length c, .slice a' G.length c'], .bool false]) w) := by
  have HC1 : Hid (∀ W, Below w.heap.size w W → Calls Try.prog 21 #[.slice a H.length c] W (Ans (.bool true) W)) := Lib.hid fun W hW => by
    have h := implOk a c H W ((hM.below hW).more hW.size) hf
    rw [hx] at h; exact h
  have HC2 : Hid (∀ W, Below w.heap.size w W → Calls Try.prog 21 #[.slice a' G.length c'] W (Ans (.bool true) W)) := Lib.hid fun W hW => by
    have h := implOk a' c' G W ((hM'.below hW).more hW.size) hf'
    rw [hy] at h; exact h
  obtain ⟨z, hz⟩ : ∃ z, H.length ^ G.length = z := ⟨_, rfl⟩
  have HC3 := Lib.hid fun W => powNodes a a' H.length c G.length c' W (good_of hx).2.1 (good_of hy).2.1
  rw [hz] at HC3 h9
  have h9z : ¬ (z : Int) ≤ 9 := by omega
  clear hz
  have hB00 := ((Below.refl w.heap.size w).alloc (Nat.le_refl _) (.cells #[.slice none 0 0, .slice none 0 0] 58)).alloc (by simp) (.cells #[.slice a H.length c, .slice a' G.length c'] 58)
  have hR00 := (PBox.new w none 0 0 none 0 0).alloc (.cells #[.slice a H.length c, .slice a' G.length c'] 58)
  have hP00 := PBox.new (w.alloc (.cells #[.slice none 0 0, .slice none 0 0] 58)) a H.length c a' G.length c'
  rw [World.size_alloc] at hP00
  clear hM hM' hf hf' hx hy h9
  go_enter Try.func48, Try.ntmps48
  go_wp2_with fail
  refine wp_region_held_drew (S := fun W => PBox W (w.heap.size + 1) a H.length c a' G.length c') (by kernel_rfl) hP00.drew (fun hS0 => ?_)
  change wpAnyH _ _ _ _ _ _ _ _ (World.drew _)
  have hB0 := hB00.drew
  have hR0 := hR00.drew
  obtain ⟨V, hV⟩ : ∃ V, World.drew ((w.alloc (.cells #[.slice none 0 0, .slice none 0 0] 58)).alloc (.cells #[.slice a H.length c, .slice a' G.length c'] 58)) = V := ⟨_, rfl⟩
  rw [hV] at hS0 hB0 hR0 ⊢
  clear hV hB00 hR00 hP00
  have hP0 := hS0
  have ltR0 := hR0.lt
  have ltP0 := hP0.lt
  refine wpAnyH_take (i := 0) (v := ?_) rfl (by kernel_rfl) (by kernel_rfl) (by kernel_rfl) (fun _ _ _ h => h) (Or.inl ⟨by rfl, ?_⟩) hS0 ?_
  case refine_2 => rintro w s1; have c0 := s1.base; have c1 := s1.exponent; first | (go_simp; rfl) | go_simp
  simp only [Act.put, List.getElem_toArray, List.getElem_cons_zero, List.setIfInBounds_toArray, List.set_cons_zero, List.set_cons_succ]
  refine wpAnyH_take (i := 1) (v := ?_) rfl (by kernel_rfl) (by kernel_rfl) (by kernel_rfl) (fun _ _ _ h => h) (Or.inl ⟨by rfl, ?_⟩) hS0 ?_
  case refine_2 => rintro w s1; have c0 := s1.base; have c1 := s1.exponent; first | (go_simp; rfl) | go_simp
  simp only [Act.put, List.getElem_toArray, List.getElem_cons_succ, List.getElem_cons_zero, List.setIfInBounds_toArray, List.set_cons_zero, List.set_cons_succ]
  refine wpAnyH_ready (rs := [2]) (by kernel_rfl) (by simp) ?_
  refine AllReadyH.cons rfl (fun K hK => ?_) AllReadyH.nil
  go_simp
  refine (HC1.out _ hB0).mono ?_
  rintro e w1 ⟨rfl, hD1⟩
  have hB1 := hB0.trans (hD1.mono hB0.size)
  have hP1 := hP0.below hD1 ltP0
  have hR1 := hR0.below hD1 ltR0
  have ltR1 := hR1.lt
  have ltP1 := hP1.lt
  refine hK.out _ _ hP1 (fun hS1 => ?_)
  clear hK K
  refine wpAnyH_take (i := 3) (v := ?_) rfl (by kernel_rfl) (by kernel_rfl) (by kernel_rfl) (fun _ _ _ h => h) (Or.inl ⟨by rfl, ?_⟩) hS1 ?_
  case refine_2 => rintro w s1; have c0 := s1.base; have c1 := s1.exponent; first | (go_simp; rfl) | go_simp
  simp only [Act.put, List.getElem_toArray, List.getElem_cons_succ, List.getElem_cons_zero, List.setIfInBounds_toArray, List.set_cons_zero, List.set_cons_succ]
  refine wpAnyH_take (i := 4) (v := ?_) rfl (by kernel_rfl) (by kernel_rfl) (by kernel_rfl) (fun _ _ _ h => h) (Or.inl ⟨by rfl, ?_⟩) hS1 ?_
  case refine_2 => rintro w s1; have c0 := s1.base; have c1 := s1.exponent; first | (go_simp; rfl) | go_simp
  simp only [Act.put, List.getElem_toArray, List.getElem_cons_succ, List.getElem_cons_zero, List.setIfInBounds_toArray, List.set_cons_zero, List.set_cons_succ]
  refine wpAnyH_ready (rs := [5]) (by kernel_rfl) (by simp) ?_
  refine AllReadyH.cons rfl (fun K hK => ?_) AllReadyH.nil
  go_simp
  refine (HC2.out _ hB1).mono ?_
  rintro e w2 ⟨rfl, hD2⟩
  have hB2 := hB1.trans (hD2.mono hB1.size)
  have hP2 := hP1.below hD2 ltP1
  have hR2 := hR1.below hD2 ltR1
  have ltR2 := hR2.lt
  have ltP2 := hP2.lt
  refine hK.out _ _ hP2 (fun hS2 => ?_)
  clear hK K
  refine wpAnyH_take (i := 6) (v := ?_) rfl (by kernel_rfl) (by kernel_rfl) (by kernel_rfl) (fun _ _ _ h => h) (Or.inl ⟨by rfl, ?_⟩) hS2 ?_
  case refine_2 => rintro w s1; have c0 := s1.base; have c1 := s1.exponent; first | (go_simp; rfl) | go_simp
  simp only [Act.put, List.getElem_toArray, List.getElem_cons_succ, List.getElem_cons_zero, List.setIfInBounds_toArray, List.set_cons_zero, List.set_cons_succ]
  refine wpAnyH_take (i := 7) (v := ?_) rfl (by kernel_rfl) (by kernel_rfl) (by kernel_rfl) (fun _ _ _ h => h) (Or.inl ⟨by rfl, ?_⟩) hS2 ?_
  case refine_2 => rintro w s1; have c0 := s1.base; have c1 := s1.exponent; first | (go_simp; rfl) | go_simp
  simp only [Act.put, List.getElem_toArray, List.getElem_cons_succ, List.getElem_cons_zero, List.setIfInBounds_toArray, List.set_cons_zero, List.set_cons_succ]
  refine wpAnyH_take (i := 8) (v := ?_) rfl (by kernel_rfl) (by kernel_rfl) (by kernel_rfl) (fun _ _ _ h => h) (Or.inl ⟨by rfl, ?_⟩) hS2 ?_
  case refine_2 => rintro w s1; have c0 := s1.base; have c1 := s1.exponent; first | (go_simp; rfl) | go_simp
  simp only [Act.put, List.getElem_toArray, List.getElem_cons_succ, List.getElem_cons_zero, List.setIfInBounds_toArray, List.set_cons_zero, List.set_cons_succ]
  refine wpAnyH_ready (rs := [9]) (by kernel_rfl) (by simp) ?_
  refine AllReadyH.cons rfl (fun K hK => ?_) AllReadyH.nil
  go_simp
  refine (HC3.out _).mono ?_
  rintro e w3 ⟨rfl, hD3⟩
  have hB3 := hB2.trans (hD3.mono hB2.size)
  have hP3 := hP2.below hD3 ltP2
  have hR3 := hR2.below hD3 ltR2
  have ltR3 := hR3.lt
  have ltP3 := hP3.lt
  refine hK.out _ _ hP3 (fun hS3 => ?_)
  clear hK K
  refine wpAnyH_take (i := 10) (v := ?_) rfl (by kernel_rfl) (by kernel_rfl) (by kernel_rfl) (fun _ _ _ h => h) (Or.inl ⟨by rfl, ?_⟩) hS3 ?_
  case refine_2 => rintro w s1; have c0 := s1.base; have c1 := s1.exponent; first | (go_simp; rfl) | go_simp
  simp only [Act.put, List.getElem_toArray, List.getElem_cons_succ, List.getElem_cons_zero, List.setIfInBounds_toArray, List.set_cons_zero, List.set_cons_succ]
  refine wpAnyH_take (i := 11) (v := ?_) rfl (by kernel_rfl) (by kernel_rfl) (by kernel_rfl) (fun _ _ _ h => h) (Or.inl ⟨by rfl, ?_⟩) hS3 ?_
  case refine_2 => rintro w s1; have c0 := s1.base; have c1 := s1.exponent; first | (go_simp; rfl) | go_simp
  simp only [Act.put, List.getElem_toArray, List.getElem_cons_succ, List.getElem_cons_zero, List.setIfInBounds_toArray, List.set_cons_zero, List.set_cons_succ]
  refine wpAnyH_ready (rs := [12]) (by kernel_rfl) (by simp) ?_
  refine AllReadyH.cons rfl (fun K hK => ?_) AllReadyH.nil
  go_simp
  have cR := hR3.base
  have cR' := hR3.exponent
  have fR := hR3.frozen 0
  have fR' := hR3.frozen 1
  go_simp
  have hE := hR3.store a a' H.length c G.length c'
  have hBE := (hB3.setCell (p := ⟨w.heap.size, 0, none⟩) (Nat.le_refl _) (.slice a H.length c)).setCell (p := ⟨w.heap.size, 1, none⟩) (Nat.le_refl _) (.slice a' G.length c')
  refine hK.out _ _ ((hP3.far (by omega)).far (by omega)) (fun hS4 => ?_)
  clear hK K
  refine wpAnyH_take (i := 13) (v := ?_) rfl (by kernel_rfl) (by kernel_rfl) (by kernel_rfl) (fun _ _ _ h => h) (Or.inl ⟨by rfl, ?_⟩) hS4 ?_
  case refine_2 => rintro w s1; have c0 := s1.base; have c1 := s1.exponent; first | (go_simp; rfl) | go_simp
  simp only [Act.put, List.getElem_toArray, List.getElem_cons_succ, List.getElem_cons_zero, List.setIfInBounds_toArray, List.set_cons_zero, List.set_cons_succ]
  refine wpAnyH_done (by kernel_rfl) ?_ _
  have cE := hE.base
  have cE' := hE.exponent
  go_wp2_with fail
  refine ⟨rfl, .tuple #[.agg #[.slice a H.length c, .slice a' G.length c'], .bool false], ?_, rfl, hBE⟩
  simp [results, Try.f48, go_sem, cE, cE', h9z]

set_option maxRecDepth 100000 in
set_option maxHeartbeats 8000000 in
theorem powWithY (a a' : Option Addr) (c c' : Nat) (H G : List (List Int)) (w : World) (hM : Mat w.heap.size w a H) (hM' : Mat w.heap.size w a' G) (hf : Fit H) (hf' : Fit G) (hx : gOk H = true) (hy : gOk G = true) (h9 : H.length ^ G.length ≤ 9) :
    Calls Try.prog 48 #[.slice a H.length c, .slice a' G.length c'] w (Ans (.tuple #[.agg #[.slice a H.length c, .slice a' G.length c'], .bool true]) w) := by
  have HC1 : Hid (∀ W, Below w.heap.size w W → Calls Try.prog 21 #[.slice a H.length c] W (Ans (.bool true) W)) := Lib.hid fun W hW => by
    have h := implOk a c H W ((hM.below hW).more hW.size) hf
    rw [hx] at h; exact h
  have HC2 : Hid (∀ W, Below w.heap.size w W → Calls Try.prog 21 #[.slice a' G.length c'] W (Ans (.bool true) W)) := Lib.hid fun W hW => by
    have h := implOk a' c' G W ((hM'.below hW).more hW.size) hf'
    rw [hy] at h; exact h
  obtain ⟨z, hz⟩ : ∃ z, H.length ^ G.length = z := ⟨_, rfl⟩
  have HC3 := Lib.hid fun W => powNodes a a' H.length c G.length c' W (good_of hx).2.1 (good_of hy).2.1
  rw [hz] at HC3 h9
  have h9z : (z : Int) ≤ 9 := by omega
  clear hz
  have hB00 := ((Below.refl w.heap.size w).alloc (Nat.le_refl _) (.cells #[.slice none 0 0, .slice none 0 0] 58)).alloc (by simp) (.cells #[.slice a H.length c, .slice a' G.length c'] 58)
  have hR00 := (PBox.new w none 0 0 none 0 0).alloc (.cells #[.slice a H.length c, .slice a' G.length c'] 58)
  have hP00 := PBox.new (w.alloc (.cells #[.slice none 0 0, .slice none 0 0] 58)) a H.length c a' G.length c'
  rw [World.size_alloc] at hP00
  clear hM hM' hf hf' hx hy h9
  go_enter Try.func48, Try.ntmps48
  go_wp2_with fail
  refine wp_region_held_drew (S := fun W => PBox W (w.heap.size + 1) a H.length c a' G.length c') (by kernel_rfl) hP00.drew (fun hS0 => ?_)
  change wpAnyH _ _ _ _ _ _ _ _ (World.drew _)
  have hB0 := hB00.drew
  have hR0 := hR00.drew
  obtain ⟨V, hV⟩ : ∃ V, World.drew ((w.alloc (.cells #[.slice none 0 0, .slice none 0 0] 58)).alloc (.cells #[.slice a H.length c, .slice a' G.length c'] 58)) = V := ⟨_, rfl⟩
  rw [hV] at hS0 hB0 hR0 ⊢
  clear hV hB00 hR00 hP00
  have hP0 := hS0
  have ltR0 := hR0.lt
  have ltP0 := hP0.lt
  refine wpAnyH_take (i := 0) (v := ?_) rfl (by kernel_rfl) (by kernel_rfl) (by kernel_rfl) (fun _ _ _ h => h) (Or.inl ⟨by rfl, ?_⟩) hS0 ?_
  case refine_2 => rintro w s1; have c0 := s1.base; have c1 := s1.exponent; first | (go_simp; rfl) | go_simp
  simp only [Act.put, List.getElem_toArray, List.getElem_cons_zero, List.setIfInBounds_toArray, List.set_cons_zero, List.set_cons_succ]
  refine wpAnyH_take (i := 1) (v := ?_) rfl (by kernel_rfl) (by kernel_rfl) (by kernel_rfl) (fun _ _ _ h => h) (Or.inl ⟨by rfl, ?_⟩) hS0 ?_
  case refine_2 => rintro w s1; have c0 := s1.base; have c1 := s1.exponent; first | (go_simp; rfl) | go_simp
  simp only [Act.put, List.getElem_toArray, List.getElem_cons_succ, List.getElem_cons_zero, List.setIfInBounds_toArray, List.set_cons_zero, List.set_cons_succ]
  refine wpAnyH_ready (rs := [2]) (by kernel_rfl) (by simp) ?_
  refine AllReadyH.cons rfl (fun K hK => ?_) AllReadyH.nil
  go_simp
  refine (HC1.out _ hB0).mono ?_
  rintro e w1 ⟨rfl, hD1⟩
  have hB1 := hB0.trans (hD1.mono hB0.size)
  have hP1 := hP0.below hD1 ltP0
  have hR1 := hR0.below hD1 ltR0
  have ltR1 := hR1.lt
  have ltP1 := hP1.lt
  refine hK.out _ _ hP1 (fun hS1 => ?_)
  clear hK K
  refine wpAnyH_take (i := 3) (v := ?_) rfl (by kernel_rfl) (by kernel_rfl) (by kernel_rfl) (fun _ _ _ h => h) (Or.inl ⟨by rfl, ?_⟩) hS1 ?_
  case refine_2 => rintro w s1; have c0 := s1.base; have c1 := s1.exponent; first | (go_simp; rfl) | go_simp
  simp only [Act.put, List.getElem_toArray, List.getElem_cons_succ, List.getElem_cons_zero, List.setIfInBounds_toArray, List.set_cons_zero, List.set_cons_succ]
  refine wpAnyH_take (i := 4) (v := ?_) rfl (by kernel_rfl) (by kernel_rfl) (by kernel_rfl) (fun _ _ _ h => h) (Or.inl ⟨by rfl, ?_⟩) hS1 ?_
  case refine_2 => rintro w s1; have c0 := s1.base; have c1 := s1.exponent; first | (go_simp; rfl) | go_simp
  simp only [Act.put, List.getElem_toArray, List.getElem_cons_succ, List.getElem_cons_zero, List.setIfInBounds_toArray, List.set_cons_zero, List.set_cons_succ]
  refine wpAnyH_ready (rs := [5]) (by kernel_rfl) (by simp) ?_
  refine AllReadyH.cons rfl (fun K hK => ?_) AllReadyH.nil
  go_simp
  refine (HC2.out _ hB1).mono ?_
  rintro e w2 ⟨rfl, hD2⟩
  have hB2 := hB1.trans (hD2.mono hB1.size)
  have hP2 := hP1.below hD2 ltP1
  have hR2 := hR1.below hD2 ltR1
  have ltR2 := hR2.lt
  have ltP2 := hP2.lt
  refine hK.out _ _ hP2 (fun hS2 => ?_)
  clear hK K
  refine wpAnyH_take (i := 6) (v := ?_) rfl (by kernel_rfl) (by kernel_rfl) (by kernel_rfl) (fun _ _ _ h => h) (Or.inl ⟨by rfl, ?_⟩) hS2 ?_
  case refine_2 => rintro w s1; have c0 := s1.base; have c1 := s1.exponent; first | (go_simp; rfl) | go_simp
  simp only [Act.put, List.getElem_toArray, List.getElem_cons_succ, List.getElem_cons_zero, List.setIfInBounds_toArray, List.set_cons_zero, List.set_cons_succ]
  refine wpAnyH_take (i := 7) (v := ?_) rfl (by kernel_rfl) (by kernel_rfl) (by kernel_rfl) (fun _ _ _ h => h) (Or.inl ⟨by rfl, ?_⟩) hS2 ?_
  case refine_2 => rintro w s1; have c0 := s1.base; have c1 := s1.exponent; first | (go_simp; rfl) | go_simp
  simp only [Act.put, List.getElem_toArray, List.getElem_cons_succ, List.getElem_cons_zero, List.setIfInBounds_toArray, List.set_cons_zero, List.set_cons_succ]
  refine wpAnyH_take (i := 8) (v := ?_) rfl (by kernel_rfl) (by kernel_rfl) (by kernel_rfl) (fun _ _ _ h => h) (Or.inl ⟨by rfl, ?_⟩) hS2 ?_
  case refine_2 => rintro w s1; have c0 := s1.base; have c1 := s1.exponent; first | (go_simp; rfl) | go_simp
  simp only [Act.put, List.getElem_toArray, List.getElem_cons_succ, List.getElem_cons_zero, List.setIfInBounds_toArray, List.set_cons_zero, List.set_cons_succ]
  refine wpAnyH_ready (rs := [9]) (by kernel_rfl) (by simp) ?_
  refine AllReadyH.cons rfl (fun K hK => ?_) AllReadyH.nil
  go_simp
  refine (HC3.out _).mono ?_
  rintro e w3 ⟨rfl, hD3⟩
  have hB3 := hB2.trans (hD3.mono hB2.size)
  have hP3 := hP2.below hD3 ltP2
  have hR3 := hR2.below hD3 ltR2
  have ltR3 := hR3.lt
  have ltP3 := hP3.lt
  refine hK.out _ _ hP3 (fun hS3 => ?_)
  clear hK K
  refine wpAnyH_take (i := 10) (v := ?_) rfl (by kernel_rfl) (by kernel_rfl) (by kernel_rfl) (fun _ _ _ h => h) (Or.inl ⟨by rfl, ?_⟩) hS3 ?_
  case refine_2 => rintro w s1; have c0 := s1.base; have c1 := s1.exponent; first | (go_simp; rfl) | go_simp
  simp only [Act.put, List.getElem_toArray, List.getElem_cons_succ, List.getElem_cons_zero, List.setIfInBounds_toArray, List.set_cons_zero, List.set_cons_succ]
  refine wpAnyH_take (i := 11) (v := ?_) rfl (by kernel_rfl) (by kernel_rfl) (by kernel_rfl) (fun _ _ _ h => h) (Or.inl ⟨by rfl, ?_⟩) hS3 ?_
  case refine_2 => rintro w s1; have c0 := s1.base; have c1 := s1.exponent; first | (go_simp; rfl) | go_simp
  simp only [Act.put, List.getElem_toArray, List.getElem_cons_succ, List.getElem_cons_zero, List.setIfInBounds_toArray, List.set_cons_zero, List.set_cons_succ]
  refine wpAnyH_ready (rs := [12]) (by kernel_rfl) (by simp) ?_
  refine AllReadyH.cons rfl (fun K hK => ?_) AllReadyH.nil
  go_simp
  have cR := hR3.base
  have cR' := hR3.exponent
  have fR := hR3.frozen 0
  have fR' := hR3.frozen 1
  go_simp
  have hE := hR3.store a a' H.length c G.length c'
  have hBE := (hB3.setCell (p := ⟨w.heap.size, 0, none⟩) (Nat.le_refl _) (.slice a H.length c)).setCell (p := ⟨w.heap.size, 1, none⟩) (Nat.le_refl _) (.slice a' G.length c')
  refine hK.out _ _ ((hP3.far (by omega)).far (by omega)) (fun hS4 => ?_)
  clear hK K
  refine wpAnyH_take (i := 13) (v := ?_) rfl (by kernel_rfl) (by kernel_rfl) (by kernel_rfl) (fun _ _ _ h => h) (Or.inl ⟨by rfl, ?_⟩) hS4 ?_
  case refine_2 => rintro w s1; have c0 := s1.base; have c1 := s1.exponent; first | (go_simp; rfl) | go_simp
  simp only [Act.put, List.getElem_toArray, List.getElem_cons_succ, List.getElem_cons_zero, List.setIfInBounds_toArray, List.set_cons_zero, List.set_cons_succ]
  refine wpAnyH_done (by kernel_rfl) ?_ _
  have cE := hE.base
  have cE' := hE.exponent
  go_wp2_with fail
  refine ⟨rfl, .tuple #[.agg #[.slice a H.length c, .slice a' G.length c'], .bool true], ?_, rfl, hBE⟩
  simp [results, Try.f48, go_sem, cE, cE']

theorem powWith (a a' : Option Addr) (c c' : Nat) (H G : List (List Int)) (w : World) (hM : Mat w.heap.size w a H) (hM' : Mat w.heap.size w a' G) (hf : Fit H) (hf' : Fit G) :
    Calls Try.prog 48 #[.slice a H.length c, .slice a' G.length c'] w (Ans (.tuple #[.agg #[.slice a H.length c, .slice a' G.length c'], .bool (powOk H G)]) w) := by
  by_cases hx : gOk H = true
  · by_cases hy : gOk G = true
    · by_cases h9 : H.length ^ G.length ≤ 9
      · rw [powOk_yes hy hx h9]; exact powWithY a a' c c' H G w hM hM' hf hf' hx hy h9
      · rw [powOk_no3 h9]; exact powWithN3 a a' c c' H G w hM hM' hf hf' hx hy h9
    · have hy : gOk G = false := by simpa using hy
      rw [powOk_no1 hy]; exact powWithN2 a a' c c' H G w hM hM' hf hf' hx hy
  · have hx : gOk H = false := by simpa using hx
    rw [powOk_no2 hx]; exact powWithN1 a a' c c' H G w hM hM' hf hf' hx

end Go.Proofs.Ytjcoilabmbmbkaa
