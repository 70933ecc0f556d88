/-
  The model's DeedText.
-/
import Derived.Test.YtofpjepndhpciaaDoorLD0
import Derived.Test.YtofpjepndhpciaaDoorLC
import Derived.Test.YtofpjepndhpciaaDoorS1
import Derived.Deep.RegionHeld3
namespace Go.Proofs.YtofpjepndhpciaaDoor
open Go.RowKit Go.Shelf Go.Deep

attribute [local go_sem] deed_eq deed_guard

/-- A TEXT AS BYTES. -/
abbrev tB (l : List UInt8) : ByteArray := ⟨l.toArray⟩
theorem tB_ext {s : ByteArray} {l : List UInt8} (h : s.data.toList = l) : s = tB l := ByteArray.ext (by rw [← h])
theorem dig_list (x : Nat) : (digB x).data.toList = [dgI (x : Int)] := rfl
theorem arrow_text (x y : Nat) : ((⟨#[97, 114, 114, 111, 119, 32]⟩ : ByteArray) ++ digB x ++ (⟨#[32]⟩ : ByteArray) ++ digB y) = tB (tArrow ++ [dgI (x : Int), 32, dgI (y : Int)]) := by
  refine tB_ext ?_
  simp only [ByteArray.data_append, Array.toList_append, dig_list]
  rfl
theorem drop_text (x : Nat) : ((⟨#[100, 114, 111, 112, 32]⟩ : ByteArray) ++ digB x) = tB (tDrop ++ [dgI (x : Int)]) := by
  refine tB_ext ?_
  simp only [ByteArray.data_append, Array.toList_append, dig_list]
  rfl
theorem ddT_drop {d : Dd} (h : d.k = 2 ∧ (0 ≤ d.a ∧ d.a ≤ 9) ∧ d.b = 0) : ddT d = tDrop ++ [dgI d.a] := by
  unfold ddT; rw [if_neg (fun e => by omega), if_pos h]
theorem ddT_none {d : Dd} (h1 : ¬ (d.k = 0 ∧ (0 ≤ d.a ∧ d.a ≤ 9) ∧ (0 ≤ d.b ∧ d.b ≤ 9))) (h2 : ¬ (d.k = 2 ∧ (0 ≤ d.a ∧ d.a ≤ 9) ∧ d.b = 0)) (h3 : d ≠ ⟨1, 0, 0⟩) (h4 : d ≠ ⟨3, 0, 0⟩) (h5 : d ≠ ⟨4, 0, 0⟩) (h6 : d ≠ ⟨5, 0, 0⟩) : ddT d = [] := by
  unfold ddT; rw [if_neg h1, if_neg h2, if_neg h3, if_neg h4, if_neg h5, if_neg h6]
/-- The deed in its box, and nothing turned below. -/
structure DdBox (k a b : Int) (w W : World) : Prop where
  ck : W.cell? ⟨w.heap.size, 0, none⟩ = some (.int .i64 k)
  ca : W.cell? ⟨w.heap.size, 1, none⟩ = some (.int .i64 a)
  cb : W.cell? ⟨w.heap.size, 2, none⟩ = some (.int .i64 b)
  lt : w.heap.size < W.heap.size
  low : Below w.heap.size w W
theorem DdBox.below {k a b : Int} {w W W' : World} (h : DdBox k a b w W) (hb : Below W.heap.size W W') : DdBox k a b w W' :=
  ⟨(hb.cell (p := ⟨w.heap.size, 0, none⟩) h.lt).trans h.ck, (hb.cell (p := ⟨w.heap.size, 1, none⟩) h.lt).trans h.ca, (hb.cell (p := ⟨w.heap.size, 2, none⟩) h.lt).trans h.cb, Nat.lt_of_lt_of_le h.lt hb.size, h.low.trans (hb.mono h.low.size)⟩
theorem DdBox.new (k a b : Int) (w : World) : DdBox k a b w (w.alloc (.cells #[.int .i64 k, .int .i64 a, .int .i64 b] 24)) :=
  ⟨by simp [go_sem], by simp [go_sem], by simp [go_sem], by simp, (Below.refl _ _).alloc (Nat.le_refl _) _⟩

def TextOf (d : Dd) (w : World) (e : Ending) (w' : World) : Prop := e = .returned (.string (tB (ddT d))) ∧ Below w.heap.size w w'

set_option maxRecDepth 100000 in
set_option maxHeartbeats 4000000 in
theorem specDdt (k a b : Int) (w : World) : Calls Tryd.prog 12 #[.agg #[.int .i64 k, .int .i64 a, .int .i64 b]] w (TextOf ⟨k, a, b⟩ w) := by
  have HD := Lib.hid (DdBox.new k a b w)
  obtain ⟨T, HT⟩ : ∃ T, Hid (ddT ⟨k, a, b⟩ = T) := ⟨_, rfl⟩
  unfold TextOf
  rw [HT.out]
  by_cases hk0 : k = 0
  · subst hk0
    by_cases ha : 0 ≤ a ∧ a ≤ 9
    · have da : decide (0 ≤ a ∧ a ≤ 9) = true := decide_eq_true ha
      by_cases hb : 0 ≤ b ∧ b ≤ 9
      · have db : decide (0 ≤ b ∧ b ≤ 9) = true := decide_eq_true hb
        obtain ⟨x, rfl⟩ : ∃ x : Nat, a = (x : Int) := ⟨a.toNat, by omega⟩
        obtain ⟨y, rfl⟩ : ∃ y : Nat, b = (y : Int) := ⟨b.toNat, by omega⟩
        have HT2 : Hid (T = tArrow ++ [dgI (x : Int), 32, dgI (y : Int)]) := Lib.hid (HT.out.symm.trans (ddT_arrow ⟨rfl, ha, hb⟩))
        have HS0 := Lib.hid HD.out
        go_enter Tryd.func12, Tryd.ntmps12
        go_wp2_with (go_at_call 36; refine (in_any _ _ _ _).mono ?_; rintro e w' ⟨rfl, rfl⟩)
        refine wp_region_held_drew (S := fun W => DdBox 0 x y w W) (by kernel_rfl) (HS0.out.below (Below.refl _ _).drew) (fun hS0 => ?_)
        change wpAnyH _ _ _ _ _ _ _ _ (World.drew _)
        obtain ⟨V, hV⟩ : ∃ V, World.drew (w.alloc (.cells #[.int .i64 0, .int .i64 (x : Int), .int .i64 (y : Int)] 24)) = V := ⟨_, rfl⟩
        rw [hV] at hS0 ⊢
        clear hV
        refine wpAnyH_take (i := 0) (v := ?_) rfl (by kernel_rfl) (by kernel_rfl) (by kernel_rfl) (fun _ _ _ h => h) (Or.inl ⟨by rfl, ?_⟩) hS0 ?_
        case refine_2 => rintro w s1; have c0 := s1.ca; have c1 := s1.cb; first | (go_simp; rfl) | go_simp
        simp only [Act.put, List.getElem_toArray, List.getElem_cons_zero, List.setIfInBounds_toArray, List.set_cons_zero, List.set_cons_succ]
        refine wpAnyH_take (i := 1) (v := ?_) rfl (by kernel_rfl) (by kernel_rfl) (by kernel_rfl) (fun _ _ _ h => h) (Or.inl ⟨by rfl, ?_⟩) hS0 ?_
        case refine_2 => rintro w s1; have c0 := s1.ca; have c1 := s1.cb; first | (go_simp; rfl) | go_simp
        simp only [Act.put, List.getElem_toArray, List.getElem_cons_succ, List.getElem_cons_zero, List.setIfInBounds_toArray, List.set_cons_zero, List.set_cons_succ]
        refine wpAnyH_take (i := 5) (v := ?_) rfl (by kernel_rfl) (by kernel_rfl) (by kernel_rfl) (fun _ _ _ h => h) (Or.inl ⟨by rfl, ?_⟩) hS0 ?_
        case refine_2 => rintro w s1; have c0 := s1.ca; have c1 := s1.cb; first | (go_simp; rfl) | go_simp
        simp only [Act.put, List.getElem_toArray, List.getElem_cons_succ, List.getElem_cons_zero, List.setIfInBounds_toArray, List.set_cons_zero, List.set_cons_succ]
        refine wpAnyH_take (i := 6) (v := ?_) rfl (by kernel_rfl) (by kernel_rfl) (by kernel_rfl) (fun _ _ _ h => h) (Or.inl ⟨by rfl, ?_⟩) hS0 ?_
        case refine_2 => rintro w s1; have c0 := s1.ca; have c1 := s1.cb; first | (go_simp; rfl) | go_simp
        simp only [Act.put, List.getElem_toArray, List.getElem_cons_succ, List.getElem_cons_zero, List.setIfInBounds_toArray, List.set_cons_zero, List.set_cons_succ]
        refine wpAnyH_ready (rs := [2]) (by kernel_rfl) (by simp) ?_
        refine AllReadyH.cons rfl (fun K hK => ?_) AllReadyH.nil
        go_simp
        refine (number_any x (by omega) _).mono ?_
        rintro e w1 ⟨rfl, hB1⟩
        have hS1 := hS0.below hB1
        refine hK.out _ _ hS1 (fun hS1 => ?_)
        clear hK K
        refine wpAnyH_take (i := 3) (v := ?_) rfl (by kernel_rfl) (by kernel_rfl) (by kernel_rfl) (fun _ _ _ h => h) (Or.inl ⟨by rfl, ?_⟩) hS1 ?_
        case refine_2 => rintro w s1; have c0 := s1.ca; have c1 := s1.cb; first | (go_simp; rfl) | go_simp
        simp only [Act.put, List.getElem_toArray, List.getElem_cons_succ, List.getElem_cons_zero, List.setIfInBounds_toArray, List.set_cons_zero, List.set_cons_succ]
        refine wpAnyH_take (i := 4) (v := ?_) rfl (by kernel_rfl) (by kernel_rfl) (by kernel_rfl) (fun _ _ _ h => h) (Or.inl ⟨by rfl, ?_⟩) hS1 ?_
        case refine_2 => rintro w s1; have c0 := s1.ca; have c1 := s1.cb; first | (go_simp; rfl) | go_simp
        simp only [Act.put, List.getElem_toArray, List.getElem_cons_succ, List.getElem_cons_zero, List.setIfInBounds_toArray, List.set_cons_zero, List.set_cons_succ]
        refine wpAnyH_ready (rs := [7]) (by kernel_rfl) (by simp) ?_
        refine AllReadyH.cons rfl (fun K hK => ?_) AllReadyH.nil
        go_simp
        refine (number_any y (by omega) _).mono ?_
        rintro e w2 ⟨rfl, hB2⟩
        have hS2 := hS1.below hB2
        refine hK.out _ _ hS2 (fun hS2 => ?_)
        clear hK K
        refine wpAnyH_take (i := 8) (v := ?_) rfl (by kernel_rfl) (by kernel_rfl) (by kernel_rfl) (fun _ _ _ h => h) (Or.inl ⟨by rfl, ?_⟩) hS2 ?_
        case refine_2 => rintro w s1; have c0 := s1.ca; have c1 := s1.cb; first | (go_simp; rfl) | go_simp
        simp only [Act.put, List.getElem_toArray, List.getElem_cons_succ, List.getElem_cons_zero, List.setIfInBounds_toArray, List.set_cons_zero, List.set_cons_succ]
        refine wpAnyH_take (i := 9) (v := ?_) rfl (by kernel_rfl) (by kernel_rfl) (by kernel_rfl) (fun _ _ _ h => h) (Or.inl ⟨by rfl, ?_⟩) hS2 ?_
        case refine_2 => rintro w s1; have c0 := s1.ca; have c1 := s1.cb; first | (go_simp; rfl) | go_simp
        simp only [Act.put, List.getElem_toArray, List.getElem_cons_succ, List.getElem_cons_zero, List.setIfInBounds_toArray, List.set_cons_zero, List.set_cons_succ]
        refine wpAnyH_done (by kernel_rfl) ?_ _
        go_wp2_with fail
        go_ret
        exact ⟨by rw [HT2.out, arrow_text x y]; rfl, hS2.low⟩
      · have db : decide (0 ≤ b ∧ b ≤ 9) = false := decide_eq_false hb
        have n1 : eqD ⟨0, a, b⟩ ⟨1, 0, 0⟩ = false := eqD_no (fun e => by have h1 := (Dd.mk.inj e).1; have h2 := (Dd.mk.inj e).2.1; have h3 := (Dd.mk.inj e).2.2; omega)
        have n3 : eqD ⟨0, a, b⟩ ⟨3, 0, 0⟩ = false := eqD_no (fun e => by have h1 := (Dd.mk.inj e).1; have h2 := (Dd.mk.inj e).2.1; have h3 := (Dd.mk.inj e).2.2; omega)
        have n4 : eqD ⟨0, a, b⟩ ⟨4, 0, 0⟩ = false := eqD_no (fun e => by have h1 := (Dd.mk.inj e).1; have h2 := (Dd.mk.inj e).2.1; have h3 := (Dd.mk.inj e).2.2; omega)
        have n5 : eqD ⟨0, a, b⟩ ⟨5, 0, 0⟩ = false := eqD_no (fun e => by have h1 := (Dd.mk.inj e).1; have h2 := (Dd.mk.inj e).2.1; have h3 := (Dd.mk.inj e).2.2; omega)
        have HT2 : Hid (T = []) := Lib.hid (HT.out.symm.trans (ddT_none (fun h => by simp only at h; omega) (fun h => by simp only at h; omega) (of_decide_eq_false n1) (of_decide_eq_false n3) (of_decide_eq_false n4) (of_decide_eq_false n5)))
        go_enter Tryd.func12, Tryd.ntmps12
        go_wp2_with (go_at_call 36; refine (in_any _ _ _ _).mono ?_; rintro e w' ⟨rfl, rfl⟩)
        try go_ret
        exact ⟨by rw [HT2.out]; rfl, (Below.refl _ _).alloc (Nat.le_refl _) _⟩
    · have da : decide (0 ≤ a ∧ a ≤ 9) = false := decide_eq_false ha
      have n1 : eqD ⟨0, a, b⟩ ⟨1, 0, 0⟩ = false := eqD_no (fun e => by have h1 := (Dd.mk.inj e).1; have h2 := (Dd.mk.inj e).2.1; have h3 := (Dd.mk.inj e).2.2; omega)
      have n3 : eqD ⟨0, a, b⟩ ⟨3, 0, 0⟩ = false := eqD_no (fun e => by have h1 := (Dd.mk.inj e).1; have h2 := (Dd.mk.inj e).2.1; have h3 := (Dd.mk.inj e).2.2; omega)
      have n4 : eqD ⟨0, a, b⟩ ⟨4, 0, 0⟩ = false := eqD_no (fun e => by have h1 := (Dd.mk.inj e).1; have h2 := (Dd.mk.inj e).2.1; have h3 := (Dd.mk.inj e).2.2; omega)
      have n5 : eqD ⟨0, a, b⟩ ⟨5, 0, 0⟩ = false := eqD_no (fun e => by have h1 := (Dd.mk.inj e).1; have h2 := (Dd.mk.inj e).2.1; have h3 := (Dd.mk.inj e).2.2; omega)
      have HT2 : Hid (T = []) := Lib.hid (HT.out.symm.trans (ddT_none (fun h => by simp only at h; omega) (fun h => by simp only at h; omega) (of_decide_eq_false n1) (of_decide_eq_false n3) (of_decide_eq_false n4) (of_decide_eq_false n5)))
      go_enter Tryd.func12, Tryd.ntmps12
      go_wp2_with (go_at_call 36; refine (in_any _ _ _ _).mono ?_; rintro e w' ⟨rfl, rfl⟩)
      try go_ret
      exact ⟨by rw [HT2.out]; rfl, (Below.refl _ _).alloc (Nat.le_refl _) _⟩
  by_cases hk2 : k = 2
  · subst hk2
    by_cases ha : 0 ≤ a ∧ a ≤ 9
    · have da : decide (0 ≤ a ∧ a ≤ 9) = true := decide_eq_true ha
      by_cases hb : b = 0
      · subst hb
        obtain ⟨x, rfl⟩ : ∃ x : Nat, a = (x : Int) := ⟨a.toNat, by omega⟩
        have HT2 : Hid (T = tDrop ++ [dgI (x : Int)]) := Lib.hid (HT.out.symm.trans (ddT_drop ⟨rfl, ha, rfl⟩))
        go_enter Tryd.func12, Tryd.ntmps12
        go_wp2_with (go_at_call 36; refine (in_any _ _ _ _).mono ?_; rintro e w' ⟨rfl, rfl⟩)
        refine (number_any x (by omega) _).mono ?_
        rintro e w1 ⟨rfl, hB1⟩
        have hS1 := HD.out.below hB1
        go_wp2_with fail
        go_ret
        exact ⟨by rw [HT2.out, drop_text x]; rfl, hS1.low⟩
      · have db : (b == 0) = false := beq_eq_false_iff_ne.2 hb
        have n1 : eqD ⟨2, a, b⟩ ⟨1, 0, 0⟩ = false := eqD_no (fun e => by have h1 := (Dd.mk.inj e).1; have h2 := (Dd.mk.inj e).2.1; have h3 := (Dd.mk.inj e).2.2; omega)
        have n3 : eqD ⟨2, a, b⟩ ⟨3, 0, 0⟩ = false := eqD_no (fun e => by have h1 := (Dd.mk.inj e).1; have h2 := (Dd.mk.inj e).2.1; have h3 := (Dd.mk.inj e).2.2; omega)
        have n4 : eqD ⟨2, a, b⟩ ⟨4, 0, 0⟩ = false := eqD_no (fun e => by have h1 := (Dd.mk.inj e).1; have h2 := (Dd.mk.inj e).2.1; have h3 := (Dd.mk.inj e).2.2; omega)
        have n5 : eqD ⟨2, a, b⟩ ⟨5, 0, 0⟩ = false := eqD_no (fun e => by have h1 := (Dd.mk.inj e).1; have h2 := (Dd.mk.inj e).2.1; have h3 := (Dd.mk.inj e).2.2; omega)
        have HT2 : Hid (T = []) := Lib.hid (HT.out.symm.trans (ddT_none (fun h => by simp only at h; omega) (fun h => by simp only at h; omega) (of_decide_eq_false n1) (of_decide_eq_false n3) (of_decide_eq_false n4) (of_decide_eq_false n5)))
        go_enter Tryd.func12, Tryd.ntmps12
        go_wp2_with (go_at_call 36; refine (in_any _ _ _ _).mono ?_; rintro e w' ⟨rfl, rfl⟩)
        try go_ret
        exact ⟨by rw [HT2.out]; rfl, (Below.refl _ _).alloc (Nat.le_refl _) _⟩
    · have da : decide (0 ≤ a ∧ a ≤ 9) = false := decide_eq_false ha
      have n1 : eqD ⟨2, a, b⟩ ⟨1, 0, 0⟩ = false := eqD_no (fun e => by have h1 := (Dd.mk.inj e).1; have h2 := (Dd.mk.inj e).2.1; have h3 := (Dd.mk.inj e).2.2; omega)
      have n3 : eqD ⟨2, a, b⟩ ⟨3, 0, 0⟩ = false := eqD_no (fun e => by have h1 := (Dd.mk.inj e).1; have h2 := (Dd.mk.inj e).2.1; have h3 := (Dd.mk.inj e).2.2; omega)
      have n4 : eqD ⟨2, a, b⟩ ⟨4, 0, 0⟩ = false := eqD_no (fun e => by have h1 := (Dd.mk.inj e).1; have h2 := (Dd.mk.inj e).2.1; have h3 := (Dd.mk.inj e).2.2; omega)
      have n5 : eqD ⟨2, a, b⟩ ⟨5, 0, 0⟩ = false := eqD_no (fun e => by have h1 := (Dd.mk.inj e).1; have h2 := (Dd.mk.inj e).2.1; have h3 := (Dd.mk.inj e).2.2; omega)
      have HT2 : Hid (T = []) := Lib.hid (HT.out.symm.trans (ddT_none (fun h => by simp only at h; omega) (fun h => by simp only at h; omega) (of_decide_eq_false n1) (of_decide_eq_false n3) (of_decide_eq_false n4) (of_decide_eq_false n5)))
      go_enter Tryd.func12, Tryd.ntmps12
      go_wp2_with (go_at_call 36; refine (in_any _ _ _ _).mono ?_; rintro e w' ⟨rfl, rfl⟩)
      try go_ret
      exact ⟨by rw [HT2.out]; rfl, (Below.refl _ _).alloc (Nat.le_refl _) _⟩
  have e0 : (k == 0) = false := beq_eq_false_iff_ne.2 hk0
  have e2 : (k == 2) = false := beq_eq_false_iff_ne.2 hk2
  by_cases h1 : (⟨k, a, b⟩ : Dd) = ⟨1, 0, 0⟩
  · obtain ⟨rfl, rfl, rfl⟩ := Dd.mk.inj h1
    have HT2 : Hid (T = tNode) := Lib.hid (HT.out.symm.trans (by decide))
    have y1 : eqD ⟨1, 0, 0⟩ ⟨1, 0, 0⟩ = true := by decide
    go_enter Tryd.func12, Tryd.ntmps12
    go_wp2_with (go_at_call 36; refine (in_any _ _ _ _).mono ?_; rintro e w' ⟨rfl, rfl⟩)
    try go_ret
    exact ⟨by rw [HT2.out]; rfl, (Below.refl _ _).alloc (Nat.le_refl _) _⟩
  have n1 : eqD ⟨k, a, b⟩ ⟨1, 0, 0⟩ = false := eqD_no h1
  by_cases h3 : (⟨k, a, b⟩ : Dd) = ⟨3, 0, 0⟩
  · obtain ⟨rfl, rfl, rfl⟩ := Dd.mk.inj h3
    have HT2 : Hid (T = tCore) := Lib.hid (HT.out.symm.trans (by decide))
    have y1 : eqD ⟨3, 0, 0⟩ ⟨1, 0, 0⟩ = false := by decide
    have y3 : eqD ⟨3, 0, 0⟩ ⟨3, 0, 0⟩ = true := by decide
    go_enter Tryd.func12, Tryd.ntmps12
    go_wp2_with (go_at_call 36; refine (in_any _ _ _ _).mono ?_; rintro e w' ⟨rfl, rfl⟩)
    try go_ret
    exact ⟨by rw [HT2.out]; rfl, (Below.refl _ _).alloc (Nat.le_refl _) _⟩
  have n3 : eqD ⟨k, a, b⟩ ⟨3, 0, 0⟩ = false := eqD_no h3
  by_cases h4 : (⟨k, a, b⟩ : Dd) = ⟨4, 0, 0⟩
  · obtain ⟨rfl, rfl, rfl⟩ := Dd.mk.inj h4
    have HT2 : Hid (T = tTurn) := Lib.hid (HT.out.symm.trans (by decide))
    have y1 : eqD ⟨4, 0, 0⟩ ⟨1, 0, 0⟩ = false := by decide
    have y3 : eqD ⟨4, 0, 0⟩ ⟨3, 0, 0⟩ = false := by decide
    have y4 : eqD ⟨4, 0, 0⟩ ⟨4, 0, 0⟩ = true := by decide
    go_enter Tryd.func12, Tryd.ntmps12
    go_wp2_with (go_at_call 36; refine (in_any _ _ _ _).mono ?_; rintro e w' ⟨rfl, rfl⟩)
    try go_ret
    exact ⟨by rw [HT2.out]; rfl, (Below.refl _ _).alloc (Nat.le_refl _) _⟩
  have n4 : eqD ⟨k, a, b⟩ ⟨4, 0, 0⟩ = false := eqD_no h4
  by_cases h5 : (⟨k, a, b⟩ : Dd) = ⟨5, 0, 0⟩
  · obtain ⟨rfl, rfl, rfl⟩ := Dd.mk.inj h5
    have HT2 : Hid (T = tBack) := Lib.hid (HT.out.symm.trans (by decide))
    have y1 : eqD ⟨5, 0, 0⟩ ⟨1, 0, 0⟩ = false := by decide
    have y3 : eqD ⟨5, 0, 0⟩ ⟨3, 0, 0⟩ = false := by decide
    have y4 : eqD ⟨5, 0, 0⟩ ⟨4, 0, 0⟩ = false := by decide
    have y5 : eqD ⟨5, 0, 0⟩ ⟨5, 0, 0⟩ = true := by decide
    go_enter Tryd.func12, Tryd.ntmps12
    go_wp2_with (go_at_call 36; refine (in_any _ _ _ _).mono ?_; rintro e w' ⟨rfl, rfl⟩)
    try go_ret
    exact ⟨by rw [HT2.out]; rfl, (Below.refl _ _).alloc (Nat.le_refl _) _⟩
  have n5 : eqD ⟨k, a, b⟩ ⟨5, 0, 0⟩ = false := eqD_no h5
  have HT2 : Hid (T = []) := Lib.hid (HT.out.symm.trans (ddT_none (fun h => hk0 h.1) (fun h => hk2 h.1) h1 h3 h4 h5))
  go_enter Tryd.func12, Tryd.ntmps12
  go_wp2_with (go_at_call 36; refine (in_any _ _ _ _).mono ?_; rintro e w' ⟨rfl, rfl⟩)
  all_goals first | exact absurd (by simp only [Dd.mk.injEq]; omega) h1 | exact absurd (by simp only [Dd.mk.injEq]; omega) h3 | exact absurd (by simp only [Dd.mk.injEq]; omega) h4 | exact absurd (by simp only [Dd.mk.injEq]; omega) h5 | skip
  all_goals
    go_ret
    exact ⟨by rw [HT2.out]; rfl, (Below.refl _ _).alloc (Nat.le_refl _) _⟩

end Go.Proofs.YtofpjepndhpciaaDoor
