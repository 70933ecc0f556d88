/-
  The walk of the exact law of DeskNew.
-/
import Derived.Test.YtofpjepndhpciaaLW
import Derived.Test.YtofpjepndhpciaaZA
namespace Go.Proofs.Ytofpjepndhpciaa
open Go.RowKit Go.Shelf Go.Deep

/-- The model's answer, read. -/
def NewS (D : Dk) (yes : Bool) (w : World) (e : Ending) (w' : World) : Prop := ∃ (d1 d2 : Option Addr) (m1 e1 m2 e2 : Nat), (e = .returned (.tuple #[.agg #[.slice d1 m1 e1, .slice d2 m2 e2], .bool yes]) ∧ Below w.heap.size w w') ∧ DeskR w'.heap.size w' (.agg #[.slice d1 m1 e1, .slice d2 m2 e2]) D
theorem specNewS (a : Option Addr) (c : Nat) (G : List (List Int)) (n₀ : Nat) (w : World) (hM : Mat n₀ w a G) (hn : n₀ ≤ w.heap.size) (hF : Fit G) :
    Calls Try.prog 13 #[.slice a G.length c] w (NewS (newD G) (gOk G) w) := by
  refine (specNew a c G n₀ w hM hn hF).mono ?_
  intro e w' h
  unfold MadeNew at h
  unfold newD
  split at h
  · rename_i hg
    obtain ⟨a', c', ⟨rfl, hb⟩, hO⟩ := h
    rw [if_pos hg, hg]
    exact ⟨_, _, _, _, _, _, ⟨rfl, hb⟩, a', none, c', 0, rfl, hO.mat.mat, fun h => absurd rfl h⟩
  · rename_i hg
    rw [if_neg hg, show gOk G = false by simpa using hg]
    exact ⟨_, _, _, _, _, _, ⟨h.1, h.2⟩, zero_read w'⟩
theorem agg_of {n : Nat} {W : World} {v : Value} {d : Dk} (h : DeskR n W v d) : ∃ (d1 d2 : Option Addr) (m1 e1 m2 e2 : Nat), v = .agg #[.slice d1 m1 e1, .slice d2 m2 e2] := by
  obtain ⟨aN, aP, cN, cP, e, _⟩ := h
  exact ⟨_, _, _, _, _, _, e⟩
def NewI (D : Dk) (yes : Bool) (w : World) (e : Ending) (w' : World) : Prop := ∃ (d1 d2 : Option Addr) (m1 e1 m2 e2 : Nat), (e = .returned (.tuple #[.agg #[.slice d1 m1 e1, .slice d2 m2 e2], .bool yes]) ∧ Below w.heap.size w w') ∧ ODk w.heap.size w'.heap.size w' (.agg #[.slice d1 m1 e1, .slice d2 m2 e2]) D
theorem NewD.agg {G : List (List Int)} {yes : Bool} {w w' : World} {e : Ending} (h : NewD G yes w e w') : NewI (newD G) yes w e w' := by
  obtain ⟨v, ⟨rfl, hb⟩, hO⟩ := h
  obtain ⟨d1, d2, m1, e1, m2, e2, rfl⟩ := agg_of hO.read
  exact ⟨_, _, _, _, _, _, ⟨rfl, hb⟩, hO⟩

/-- WHAT STANDS while an exact law of a desk compares. -/
structure ExD (w W : World) (p4 p7 : Nat) (x4 y4 x7 y7 : Value) (n4 lo hi : Nat) (D D' : Dk) : Prop where
  low : Below w.heap.size w W
  b4 : W.heap[p4]? = some (.cells #[x4, y4] 26)
  b7 : W.heap[p7]? = some (.cells #[x7, y7] 26)
  r4 : DeskR n4 W (.agg #[x4, y4]) D
  o7 : ODk lo hi W (.agg #[x7, y7]) D'
  num : w.heap.size ≤ n4 ∧ n4 ≤ p4 ∧ p4 < lo ∧ lo ≤ hi ∧ hi ≤ p7 ∧ p7 < W.heap.size
theorem ExD.below {w W W' : World} {p4 p7 : Nat} {x4 y4 x7 y7 : Value} {n4 lo hi : Nat} {D D' : Dk} (h : ExD w W p4 p7 x4 y4 x7 y7 n4 lo hi D D') (hb : Below W.heap.size W W') : ExD w W' p4 p7 x4 y4 x7 y7 n4 lo hi D D' := by
  have hs := hb.size
  have hl := h.low.size
  obtain ⟨h1, h2, h3, h4, h5, h6⟩ := h.num
  exact ⟨h.low.trans (hb.mono hl), (hb.block _ (by omega)).trans h.b4, (hb.block _ (by omega)).trans h.b7, h.r4.below (hb.mono (by omega)), h.o7.below hb (by omega), h1, h2, h3, h4, h5, by omega⟩
theorem ExD.touch {w W W' : World} {p4 p7 : Nat} {x4 y4 x7 y7 : Value} {n4 lo hi : Nat} {D D' : Dk} (h : ExD w W p4 p7 x4 y4 x7 y7 n4 lo hi D D') (ht : Touch (fun B => p4 < B ∧ B < lo) W W') : ExD w W' p4 p7 x4 y4 x7 y7 n4 lo hi D D' := by
  have hs := ht.size
  obtain ⟨h1, h2, h3, h4, h5, h6⟩ := h.num
  exact ⟨h.low.trans (ht.below fun B s => by omega), (ht.block _ fun s => by omega).trans h.b4, (ht.block _ fun s => by omega).trans h.b7, h.r4.below (ht.below fun B s => by omega), h.o7.touch ht fun B s => by omega, h1, h2, h3, h4, h5, by omega⟩
theorem ExD.mark {w W W' : World} {p4 p7 : Nat} {x4 y4 x7 y7 : Value} {n4 lo hi : Nat} {D D' D2 : Dk} (h : ExD w W p4 p7 x4 y4 x7 y7 n4 lo hi D D') (ht : ∃ o, Touch (fun B => lo ≤ B ∧ B < hi) (W.alloc o) W') (hO : ODk lo hi W' (.agg #[x7, y7]) D2) : ExD w W' p4 p7 x4 y4 x7 y7 n4 lo hi D D2 := by
  obtain ⟨o, ht⟩ := ht
  have h' := h.below ((Below.refl _ _).alloc (Nat.le_refl _) o)
  have hs := ht.size
  obtain ⟨h1, h2, h3, h4, h5, h6⟩ := h'.num
  exact ⟨h'.low.trans (ht.below fun B s => by omega), (ht.block _ fun s => by omega).trans h'.b4, (ht.block _ fun s => by omega).trans h'.b7, h'.r4.below (ht.below fun B s => by omega), hO, h1, h2, h3, h4, h5, by omega⟩

set_option maxRecDepth 100000 in
set_option maxHeartbeats 8000000 in
theorem exDeskNew_any (a : Option Addr) (c : Nat) (G : List (List Int)) (w : World) (hM : Mat w.heap.size w a G) (hl : G.length ≤ 9223372036854775807) (hr : ∀ xs ∈ G, xs.length ≤ 9223372036854775807) :
    Calls Try.prog 6 #[.slice a G.length c] w (Ans (.bool true) w) := by
  have Hr : Hid (∀ xs ∈ G, xs.length ≤ 9223372036854775807) := hr
  clear hr
  go_enter Try.func6, Try.ntmps6
  go_wp2_with fail
  refine (szSS_any _ _ _ _ _ hM hl Hr.out).mono ?_
  rintro e w1 ⟨r, ⟨rfl, rfl⟩, hfit⟩
  by_cases hr0 : r < 0
  · go_wp2_with fail
    go_ret
    exact ⟨rfl, Below.refl _ _⟩
  have HF := Lib.hid (hfit (by omega))
  have HMW := Lib.hid hM
  clear hfit
  obtain ⟨yes, HY⟩ : ∃ yes, Hid (gOk G = yes) := ⟨_, rfl⟩
  obtain ⟨D, HD⟩ : ∃ D, Hid (newD G = D) := ⟨_, rfl⟩
  have HFD : Hid (FitK D ∧ totD D ≤ 81) := by rw [← HD.out]; exact newD_fit
  have hyy : (yes != yes) = false := bne_self_eq_false _
  have HTO := fun (W : World) (hb : Below w.heap.size w W) => toSS_any a c G w.heap.size W (HMW.out.below hb) HF.out hb.size
  have HTO := Lib.hid HTO
  have HIM : Hid (∀ (W : World) (b : Nat) (F : Nat → Nat), OwnM W b F G → Calls Try.prog 12 #[.slice (some ⟨b, 0, none⟩) G.length G.length] W (NewI D yes W)) := Lib.hid fun W b F hO => by
    refine (implNew _ _ G W hO.size HF.out).mono ?_
    intro e w' h
    have h2 := h.agg
    rw [HD.out, HY.out] at h2
    exact h2
  clear hM
  go_wp2_with fail
  refine (HTO.out w (Below.refl _ _)).mono ?_
  rintro e w1 ⟨rfl, hB1, -, hO1⟩
  go_wp2_with fail
  refine (specNewS _ _ G _ w1 hO1.size (Nat.le_refl _) HF.out).mono ?_
  rw [HD.out, HY.out]
  rintro e w2 ⟨d1, d2, m1, e1, m2, e2, ⟨rfl, hB2⟩, hR2⟩
  have hz1 := hB1.size
  have hB12 := hB1.trans (hB2.mono hB1.size)
  have hz2 := hB2.size
  have hal2 := (Below.refl w2.heap.size w2).alloc (Nat.le_refl _) (.cells #[.slice d1 m1 e1, .slice d2 m2 e2] 26)
  have hX3 : (w2.alloc (.cells #[.slice d1 m1 e1, .slice d2 m2 e2] 26)).heap[w2.heap.size]? = some (.cells #[.slice d1 m1 e1, .slice d2 m2 e2] 26) := heap_alloc_new w2 _
  have hR3 := hR2.below hal2
  have hB3 := hB12.trans (hal2.mono hB12.size)
  have hz3 : (w2.alloc (.cells #[.slice d1 m1 e1, .slice d2 m2 e2] 26)).heap.size = w2.heap.size + 1 := by simp
  clear hO1 hB1 hB2 hR2 hal2 hB12
  go_wp2_with fail
  obtain ⟨V3, hV3⟩ : ∃ V, w2.alloc (.cells #[.slice d1 m1 e1, .slice d2 m2 e2] 26) = V := ⟨_, rfl⟩
  rw [hV3] at hX3 hR3 hB3 hz3 ⊢
  clear hV3
  refine (HTO.out V3 hB3).mono ?_
  rintro e w5 ⟨rfl, hB5, hs5, hO5⟩
  rw [hz3] at hs5 hO5
  have hX5 := (hB5.block w2.heap.size (by omega)).trans hX3
  have hR5 := hR3.below (hB5.mono (by omega))
  have hB35 := hB3.trans (hB5.mono hB3.size)
  have hz5 := hB5.size
  clear hX3 hR3 hB3 hB5
  go_wp2_with fail
  refine (HIM.out w5 _ _ hO5).mono ?_
  rintro e w6 ⟨d3, d4, m3, e3, m4, e4, ⟨rfl, hB6⟩, hO6⟩
  have hX6 := (hB6.block w2.heap.size (by omega)).trans hX5
  have hR6 := hR5.below (hB6.mono (by omega))
  have hB36 := hB35.trans (hB6.mono hB35.size)
  have hz6 := hB6.size
  have hXO6 := hO5.below hB6 (by omega) (fun i hi => by show w2.heap.size + 1 + 1 + i < _; omega)
  have hal := (Below.refl w6.heap.size w6).alloc (Nat.le_refl _) (.cells #[.slice d3 m3 e3, .slice d4 m4 e4] 26)
  have hzz : (w6.alloc (.cells #[.slice d3 m3 e3, .slice d4 m4 e4] 26)).heap.size = w6.heap.size + 1 := by simp
  have hE7 : ExD w (w6.alloc (.cells #[.slice d3 m3 e3, .slice d4 m4 e4] 26)) w2.heap.size w6.heap.size (.slice d1 m1 e1) (.slice d2 m2 e2) (.slice d3 m3 e3) (.slice d4 m4 e4) w2.heap.size w5.heap.size w6.heap.size D D :=
    ⟨hB36.trans (hal.mono hB36.size), (hal.block _ (by omega)).trans hX6, heap_alloc_new w6 _, hR6.below (hal.mono (by omega)), hO6.below hal (Nat.le_refl _), by omega, Nat.le_refl _, by omega, by omega, Nat.le_refl _, by omega⟩
  have hXO7 := hXO6.below hal (by omega) (fun i hi => by show w2.heap.size + 1 + 1 + i < _; omega)
  have hp : w2.heap.size + 1 + 1 + G.length ≤ w5.heap.size ∧ w5.heap.size ≤ w6.heap.size := ⟨by omega, by omega⟩
  obtain ⟨⟨c40, c41⟩, _⟩ := dk_cell hE7.b4
  obtain ⟨⟨c70, c71⟩, _⟩ := dk_cell hE7.b7
  have HE7 := Lib.hid hE7
  have HX7 := Lib.hid hXO7
  have HP := Lib.hid hp
  clear hX5 hR5 hB35 hO5 hX6 hR6 hB36 hB6 hO6 hXO6 hal hs5 hz3 hzz hE7 hXO7 hp
  go_wp2_with fail
  refine (eqDk_same _ _ D _ _ HE7.out.o7.read (HE7.out.r4.more (by have := HE7.out.num; omega)) (Nat.le_refl _) HFD.out.1).mono ?_
  rintro e w8 ⟨rfl, hB8⟩
  have hE8 := HE7.out.below hB8
  have HX8 := Lib.hid (HX7.out.below hB8 (HX7.out.len.1) (HX7.out.len.2))
  have hB8w := hE8.low
  obtain ⟨⟨c40', c41'⟩, _⟩ := dk_cell hE8.b4
  obtain ⟨⟨c70', c71'⟩, _⟩ := dk_cell hE8.b7
  have HE8 := Lib.hid hE8
  clear c40 c41 c70 c71 hB8 HE7 HX7 hE8
  go_wp2_with fail
  refine (HTO.out w8 hB8w).mono ?_
  rintro e w9 ⟨rfl, hB9, -, hO9⟩
  have HE9 := Lib.hid (HE8.out.below hB9)
  have hX9 := HX8.out.below hB9 (HX8.out.len.1) (HX8.out.len.2)
  clear hB9 HE8 HX8 c40' c41' c70' c71' hB8w
  go_wp2_with fail
  refine (eqSS_same _ _ _ _ G _ w9 hX9.size hO9.size HF.out).mono ?_
  rintro e w10 h10
  obtain ⟨rfl, hB10⟩ := h10.below
  have HE10 := Lib.hid (HE9.out.below hB10)
  have hX10 := hX9.below hB10 hX9.len.1 hX9.len.2
  clear hB10 HE9 hX9 hO9 h10
  go_wp2_with fail
  refine (markSS_any _ _ 1 _ G w10 hX10 HF.out (fun i j h => by have h' : w2.heap.size + 1 + 1 + i = w2.heap.size + 1 + 1 + j := h; omega) (by omega)).mono ?_
  rintro e w11 ⟨he, -, ht11⟩
  obtain ⟨k11, hk11⟩ : ∃ k, k = 1 + tot G := ⟨_, rfl⟩
  rw [← hk11] at he
  subst he
  have hE11 := HE10.out.touch (ht11.more fun B s => by
    obtain ⟨i, hi, rfl⟩ := s
    have h1 := HP.out
    show w2.heap.size < w2.heap.size + 1 + 1 + i ∧ w2.heap.size + 1 + 1 + i < w5.heap.size
    omega)
  obtain ⟨⟨c40, c41⟩, _⟩ := dk_cell hE11.b4
  obtain ⟨⟨c70, c71⟩, _⟩ := dk_cell hE11.b7
  have HE11 := Lib.hid hE11
  clear hk11 hE11 ht11 HE10 hX10
  go_wp2_with fail
  refine (eqDk_same _ _ D _ _ HE11.out.o7.read (HE11.out.r4.more (by have := HE11.out.num; omega)) (Nat.le_refl _) HFD.out.1).mono ?_
  rintro e w12 ⟨rfl, hB12⟩
  have hE12 := HE11.out.below hB12
  obtain ⟨⟨c40', c41'⟩, _⟩ := dk_cell hE12.b4
  obtain ⟨⟨c70', c71'⟩, _⟩ := dk_cell hE12.b7
  have HE12 := Lib.hid hE12
  clear hE12 hB12 HE11 c40 c41 c70 c71
  go_wp2_with fail
  refine (markDk_any w5.heap.size w6.heap.size _ D 1 w12 HE12.out.o7 (by have := HE12.out.num; omega) HFD.out.1 (by have := HFD.out.2; omega)).mono ?_
  rintro e w13 ⟨he, hO13, ht13⟩
  obtain ⟨m, hm⟩ : ∃ m, m = 1 + totD D := ⟨_, rfl⟩
  rw [← hm] at he
  subst he
  have hE13 := HE12.out.mark ht13 hO13
  have HQ := Lib.hid hm
  have hmm : ((m : Int) != (m : Int)) = false := bne_self_eq_false _
  obtain ⟨⟨c40, c41⟩, _⟩ := dk_cell hE13.b4
  obtain ⟨⟨c70, c71⟩, _⟩ := dk_cell hE13.b7
  have HE13 := Lib.hid hE13
  clear hE13 hO13 ht13 hm HE12 c40' c41' c70' c71'
  go_wp2_with fail
  refine (heldDk_any _ D 1 w13.heap.size w13 HE13.out.o7.read (Nat.le_refl _) HFD.out.1 (by have := HFD.out.2; omega)).mono ?_
  rintro e w14 ⟨he, hB14⟩
  rw [← HQ.out] at he
  subst he
  have hE14 := HE13.out.below hB14
  have hB14w := hE14.low
  have HE14 := Lib.hid hE14
  clear hE14 hB14 HE13 c40 c41 c70 c71
  go_wp2_with fail
  refine (HTO.out w14 hB14w).mono ?_
  rintro e w15 ⟨rfl, hB15, -, hO15⟩
  have HE15 := Lib.hid (HE14.out.below hB15)
  clear hB15 HE14 hB14w
  go_wp2_with fail
  refine (HIM.out w15 _ _ hO15).mono ?_
  rintro e w16 ⟨d5, d6, m5, e5, m6, e6, ⟨rfl, hB16⟩, hO16⟩
  have hE16 := HE15.out.below hB16
  have hal := (Below.refl w16.heap.size w16).alloc (Nat.le_refl _) (.cells #[.slice d5 m5 e5, .slice d6 m6 e6] 26)
  have hE17 := hE16.below hal
  have hx17 : (w16.alloc (.cells #[.slice d5 m5 e5, .slice d6 m6 e6] 26)).heap[w16.heap.size]? = some (.cells #[.slice d5 m5 e5, .slice d6 m6 e6] 26) := heap_alloc_new w16 _
  have hO17 := hO16.below hal (Nat.le_refl _)
  obtain ⟨⟨c40, c41⟩, _⟩ := dk_cell hE17.b4
  obtain ⟨⟨c70, c71⟩, _⟩ := dk_cell hE17.b7
  obtain ⟨⟨c50, c51⟩, _⟩ := dk_cell hx17
  have HE17 := Lib.hid hE17
  have HO17 := Lib.hid hO17
  clear hB16 hE16 hO16 hal hE17 hx17 hO17 HE15 hO15
  go_wp2_with fail
  refine (eqDk_same _ _ D _ _ HO17.out.read (HE17.out.r4.more (by have := HE17.out.num; omega)) (Nat.le_refl _) HFD.out.1).mono ?_
  rintro e w18 ⟨rfl, hB18⟩
  have hE18 := HE17.out.below hB18
  obtain ⟨⟨c70', c71'⟩, _⟩ := dk_cell hE18.b7
  have HE18 := Lib.hid hE18
  clear c40 c41 c70 c71 c50 c51 hB18 hE18 HE17 HO17
  go_wp2_with fail
  refine (heldDk_any _ D 1 w18.heap.size w18 HE18.out.o7.read (Nat.le_refl _) HFD.out.1 (by have := HFD.out.2; omega)).mono ?_
  rintro e w19 ⟨he, hB19⟩
  rw [← HQ.out] at he
  subst he
  have HE19 := Lib.hid (HE18.out.below hB19)
  clear hB19 HE18 c70' c71'
  go_wp2_with fail
  go_ret
  exact ⟨rfl, HE19.out.low⟩

end Go.Proofs.Ytofpjepndhpciaa
