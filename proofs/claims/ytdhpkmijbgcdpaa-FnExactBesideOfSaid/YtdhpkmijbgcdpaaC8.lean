/-
  The walk of the exact law of BesideOf.
-/
import Derived.Test.YtdhpkmijbgcdpaaG1
import Derived.Test.YtdhpkmijbgcdpaaJ5
import Derived.Test.YtdhpkmijbgcdpaaJ6
namespace Go.Proofs.Ytdhpkmijbgcdpaa
open Go.RowKit Go.Shelf

theorem bes_fit {xss yss : List (List Int)} (h1 : besOk xss yss = true → 1 ≤ xss.length) : Fit (besL xss yss) := by
  by_cases h : besOk xss yss = true
  · rw [besL_yes h]
    have h9 : xss.length + yss.length ≤ 9 := by
      unfold besOk at h
      simp only [Bool.and_eq_true, decide_eq_true_eq] at h
      exact h.2
    have := h1 h
    exact (rowsP_good _ (by omega) h9).fit
  · rw [besL_no (by simpa using h)]
    exact ⟨by simp, fun xs hx => by cases hx⟩
theorem besOk_one {xss yss : List (List Int)} (h : besOk xss yss = true) : 1 ≤ xss.length := by
  unfold besOk at h
  simp only [Bool.and_eq_true, decide_eq_true_eq] at h
  exact (good_of h.1.1).1
theorem Touch.ownM {S : Nat → Prop} {W W' : World} {b : Nat} {G : Nat → Nat} {xss : List (List Int)} (h : Touch S W W') (ho : OwnM W b G xss) (hb : ¬ S b) (hG : ∀ i, i < xss.length → ¬ S (G i)) : OwnM W' b G xss := h.own ho hb hG

set_option maxRecDepth 100000 in
set_option maxHeartbeats 4000000 in
theorem exBesideOf_any (a : Option Addr) (c : Nat) (xss : List (List Int)) (a' : Option Addr) (c' : Nat) (yss : List (List Int)) (w : World) (hM : Mat w.heap.size w a xss) (hl : xss.length ≤ 9223372036854775807) (hr : ∀ xs ∈ xss, xs.length ≤ 9223372036854775807) (hJ : Mat w.heap.size w a' yss) (hlj : yss.length ≤ 9223372036854775807) (hrj : ∀ xs ∈ yss, xs.length ≤ 9223372036854775807) :
    Calls Try.prog 12 #[.slice a xss.length c, .slice a' yss.length c'] w (Ans (.bool true) w) := by
  have Hr : Hid (∀ xs ∈ xss, xs.length ≤ 9223372036854775807) := hr
  have Hrj : Hid (∀ xs ∈ yss, xs.length ≤ 9223372036854775807) := hrj
  clear hr hrj
  obtain ⟨zs, HZ, hzf⟩ : ∃ zs, Hid (besL xss yss = zs) ∧ Hid (Fit zs) := ⟨_, rfl, bes_fit besOk_one⟩
  obtain ⟨yes, HY⟩ : ∃ yes, Hid (besOk xss yss = yes) := ⟨_, rfl⟩
  have hyy : (yes != yes) = false := by simp
  go_enter Try.func12, Try.ntmps12
  go_wp2_with fail
  refine (szSS_le _ _ _ _ _ _ (by omega) (by omega) hM hl Hr.out).mono ?_
  rintro e w1 ⟨r, ⟨rfl, rfl⟩, hr1, hfit⟩
  by_cases hr0 : r < 0
  · go_wp2_with fail
    go_ret
    exact ⟨rfl, Below.refl _ _⟩
  have hF := hfit (by omega)
  have HF := Lib.hid hF
  have hl2 := hF.1
  clear hF hfit
  go_wp2_with fail
  refine (szSS_le _ _ _ _ _ _ (by omega) (by omega) hJ hlj Hrj.out).mono ?_
  rintro e w1 ⟨r2, ⟨rfl, rfl⟩, hr2, hfit⟩
  by_cases hr02 : r2 < 0
  · go_wp2_with fail
    go_ret
    exact ⟨rfl, Below.refl _ _⟩
  have hF := hfit (by omega)
  have HFj := Lib.hid hF
  have hly2 := hF.1
  clear hF hfit
  -- the model's answer
  go_wp2_with fail
  refine (toSS_any _ _ _ _ _ hM HF.out (Nat.le_refl _)).mono ?_
  rintro e w1 ⟨rfl, hB1, -, hO1⟩
  have hM1 := hO1.size
  have hJ1 := hJ.below hB1
  have hz1 := hB1.size
  clear hO1
  go_wp2_with fail
  refine (toSS_any _ _ _ _ _ hJ1 HFj.out hz1).mono ?_
  rintro e w2 ⟨rfl, hB2, -, hO2⟩
  have hM1' := hM1.below hB2
  have hK2 := hO2.size
  have hz2 := hB2.size
  have hB12 := hB1.trans (hB2.mono hz1)
  clear hM1 hO2 hJ1 hB1 hB2
  go_wp2_with fail
  refine (specBeside _ _ _ _ _ _ _ _ (hM1'.more hz2) hK2 (Nat.le_refl _) HF.out HFj.out).mono ?_
  rintro e w3 h3
  rw [HZ.out, HY.out] at h3
  obtain ⟨a3, c3, ⟨rfl, hB3⟩, hW⟩ := h3
  have hz12 := hB12.size
  have hB13 := hB12.trans (hB3.mono hz12)
  have hM3 := hM.below hB13
  have hJ3 := hJ.below hB13
  have hz13 := hB13.size
  clear hM1' hK2 hB3 hB12 hz1 hz2 hz12
  -- the arguments, copied
  go_wp2_with fail
  refine (toSS_any _ _ _ _ _ hM3 HF.out hz13).mono ?_
  rintro e w4 ⟨rfl, hB4, hs4, hX⟩
  have hs4' : w3.heap.size + 1 + xss.length ≤ w4.heap.size := by omega
  clear hs4
  have hz4 := hB4.size
  have hJ4 := hJ3.below (hB4.mono hz13)
  go_wp2_with fail
  refine (toSS_any _ _ _ _ _ hJ4 HFj.out (by omega)).mono ?_
  rintro e w5 ⟨rfl, hB5, hs5, hY⟩
  have hs5' : w4.heap.size + 1 + yss.length ≤ w5.heap.size := by omega
  clear hs5
  have hz5 := hB5.size
  have hX5 := hX.below hB5 hX.len.1 hX.len.2
  have hM5 := (hM3.below (hB4.mono hz13)).below (hB5.mono (by omega))
  have hJ5 := hJ4.below (hB5.mono (by omega))
  have hW5 := (hW.below hB4).below (hB5.mono hz4)
  have HB5 := Lib.hid ((hB13.trans (hB4.mono hz13)).trans (hB5.mono (by omega)))
  have hMx := hX5.size
  have hJx := hY.size
  clear hM3 hJ3 hJ4 hW hX hB13 hB4 hB5
  -- the program's answer
  go_wp2_with fail
  refine (implBeside _ _ _ _ _ _ _ hMx hJx HF.out HFj.out).mono ?_
  rintro e w6 h6
  rw [HZ.out, HY.out] at h6
  obtain ⟨a6, c6, ⟨rfl, hB6⟩, hR⟩ := h6
  have hz6 := hB6.size
  have hX6 := hX5.below hB6 hX5.len.1 hX5.len.2
  have hY6 := hY.below hB6 hY.len.1 hY.len.2
  have hM6 := hM5.below (hB6.mono (by omega))
  have hJ6 := hJ5.below (hB6.mono (by omega))
  have hW6 := hW5.below (hB6.mono (by omega))
  have HB6 := Lib.hid (HB5.out.trans (hB6.mono HB5.out.size))
  have hG6 := hR.mat
  clear hX5 hY hM5 hJ5 hW5 hMx hJx hB6 HB5
  go_wp2_with fail
  refine (eqSS_same _ _ _ _ _ _ _ hG6 (hW6.more (by omega)) hzf.out).mono ?_
  rintro e w7 h7
  obtain ⟨rfl, hB7⟩ := h7.below
  have hz7 := hB7.size
  have hX7 := hX6.below hB7 hX6.len.1 hX6.len.2
  have hY7 := hY6.below hB7 hY6.len.1 hY6.len.2
  have hM7 := hM6.below (hB7.mono (by omega))
  have hJ7 := hJ6.below (hB7.mono (by omega))
  have hW7 := hW6.below (hB7.mono (by omega))
  have hR7 := hR.below hB7
  have HB7 := Lib.hid (HB6.out.trans (hB7.mono HB6.out.size))
  clear hX6 hY6 hM6 hJ6 hW6 hR hG6 h7 hB7 HB6
  -- the arguments are as they were
  go_wp2_with fail
  refine (toSS_any _ _ _ _ _ hM7 HF.out (by omega)).mono ?_
  rintro e w8 ⟨rfl, hB8, -, hO8⟩
  have hA8 := hO8.size
  have hz8 := hB8.size
  have hX8 := hX7.below hB8 hX7.len.1 hX7.len.2
  have hY8 := hY7.below hB8 hY7.len.1 hY7.len.2
  have hM8 := hM7.below (hB8.mono (by omega))
  have hJ8 := hJ7.below (hB8.mono (by omega))
  have hW8 := hW7.below (hB8.mono (by omega))
  have hR8 := hR7.below hB8
  have HB8 := Lib.hid (HB7.out.trans (hB8.mono HB7.out.size))
  clear hO8 hX7 hY7 hM7 hJ7 hW7 hR7 hB8 HB7
  go_wp2_with fail
  refine (eqSS_same _ _ _ _ _ _ _ hX8.size hA8 HF.out).mono ?_
  rintro e w9 h9
  obtain ⟨rfl, hB9⟩ := h9.below
  have hz9 := hB9.size
  have hX9 := hX8.below hB9 hX8.len.1 hX8.len.2
  have hY9 := hY8.below hB9 hY8.len.1 hY8.len.2
  have hM9 := hM8.below (hB9.mono (by omega))
  have hJ9 := hJ8.below (hB9.mono (by omega))
  have hW9 := hW8.below (hB9.mono (by omega))
  have hR9 := hR8.below hB9
  have HB9 := Lib.hid (HB8.out.trans (hB9.mono HB8.out.size))
  clear hX8 hY8 hM8 hJ8 hW8 hR8 hA8 h9 hB9 HB8
  go_wp2_with fail
  refine (toSS_any _ _ _ _ _ hJ9 HFj.out (by omega)).mono ?_
  rintro e w10 ⟨rfl, hB10, -, hO10⟩
  have hA10 := hO10.size
  have hz10 := hB10.size
  have hX10 := hX9.below hB10 hX9.len.1 hX9.len.2
  have hY10 := hY9.below hB10 hY9.len.1 hY9.len.2
  have hM10 := hM9.below (hB10.mono (by omega))
  have hJ10 := hJ9.below (hB10.mono (by omega))
  have hW10 := hW9.below (hB10.mono (by omega))
  have hR10 := hR9.below hB10
  have HB10 := Lib.hid (HB9.out.trans (hB10.mono HB9.out.size))
  clear hO10 hX9 hY9 hM9 hJ9 hW9 hR9 hB10 HB9
  go_wp2_with fail
  refine (eqSS_same _ _ _ _ _ _ _ hY10.size hA10 HFj.out).mono ?_
  rintro e w11 h11
  obtain ⟨rfl, hB11⟩ := h11.below
  have hz11 := hB11.size
  have hX11 := hX10.below hB11 hX10.len.1 hX10.len.2
  have hY11 := hY10.below hB11 hY10.len.1 hY10.len.2
  have hM11 := hM10.below (hB11.mono (by omega))
  have hJ11 := hJ10.below (hB11.mono (by omega))
  have hW11 := hW10.below (hB11.mono (by omega))
  have hR11 := hR10.below hB11
  have HB11 := Lib.hid (HB10.out.trans (hB11.mono HB10.out.size))
  clear hX10 hY10 hM10 hJ10 hW10 hR10 hA10 h11 hB11 HB10
  -- the arguments' copies are marked: the answer stays
  go_wp2_with fail
  refine (markSS_any _ _ 1 _ _ _ hX11 HF.out (fun i j h => by have h' : w3.heap.size + 1 + i = w3.heap.size + 1 + j := h; omega) (by omega)).mono ?_
  rintro e w12 ⟨he12, -, ht12⟩
  have ht := tot_le HF.out xss.length (Nat.le_refl _)
  rw [tot_all] at ht
  have hq12 : 1 + tot xss ≤ 1200000000000 := by
    have : xss.length * 1048576 ≤ 1048576 * 1048576 := Nat.mul_le_mul hl2 (Nat.le_refl _)
    omega
  obtain ⟨k12, hk12⟩ : ∃ k12, k12 = 1 + tot xss := ⟨_, rfl⟩
  rw [← hk12] at he12 hq12
  subst he12
  clear hk12 ht
  have hS12 : ∀ B, (∃ i, i < xss.length ∧ B = w3.heap.size + 1 + i) → w3.heap.size ≤ B ∧ B < w4.heap.size := fun B s => by obtain ⟨i, hi, rfl⟩ := s; omega
  have hY12 := ht12.own hY11 (fun s => by have := hS12 _ s; omega) (fun i hi s => by have := hS12 _ s; omega)
  have hM12 := ht12.mat hM11 fun B s => by have := hS12 B s; omega
  have hJ12 := ht12.mat hJ11 fun B s => by have := hS12 B s; omega
  have hW12 := ht12.mat hW11 fun B s => (hS12 B s).1
  have hR12 := ht12.ownR hR11 (fun B s => (hS12 B s).2) (by omega)
  have hz12 : w12.heap.size = w11.heap.size := ht12.size
  have HB12 := Lib.hid (HB11.out.trans (ht12.below (n := w.heap.size) fun B s => by have := hS12 B s; omega))
  have hz12' : w11.heap.size ≤ w12.heap.size := by omega
  clear hX11 hY11 hM11 hJ11 hW11 hR11 ht12 HB11 hS12 hz12
  go_wp2_with fail
  refine (markSS_big _ _ k12 _ _ _ hY12 HFj.out (fun i j h => by have h' : w4.heap.size + 1 + i = w4.heap.size + 1 + j := h; omega) hq12).mono ?_
  rintro e w13 ⟨he13, -, ht13⟩
  obtain ⟨k13, hk13⟩ : ∃ k13, k13 = k12 + tot yss := ⟨_, rfl⟩
  have hS13 : ∀ B, (∃ i, i < yss.length ∧ B = w4.heap.size + 1 + i) → w4.heap.size ≤ B ∧ B < w5.heap.size := fun B s => by obtain ⟨i, hi, rfl⟩ := s; omega
  rw [← hk13] at he13
  subst he13
  clear hk13
  have hM13 := ht13.mat hM12 fun B s => by have := hS13 B s; omega
  have hJ13 := ht13.mat hJ12 fun B s => by have := hS13 B s; omega
  have hW13 := ht13.mat hW12 fun B s => by have := hS13 B s; omega
  have hR13 := ht13.ownR (n := w5.heap.size) hR12 (fun B s => (hS13 B s).2) (by omega)
  have hz13b : w13.heap.size = w12.heap.size := ht13.size
  have HB13 := Lib.hid (HB12.out.trans (ht13.below (n := w.heap.size) fun B s => by have := hS13 B s; omega))
  have hz13' : w12.heap.size ≤ w13.heap.size := by omega
  clear hY12 hM12 hJ12 hW12 hR12 ht13 HB12 hz13b hS13
  go_wp2_with fail
  refine (eqSS_same _ _ _ _ _ _ _ hR13.mat (hW13.more (by omega)) hzf.out).mono ?_
  rintro e w14 h14
  obtain ⟨rfl, hB14⟩ := h14.below
  have hM14 := hM13.below (hB14.mono (by omega))
  have hJ14 := hJ13.below (hB14.mono (by omega))
  have hW14 := hW13.below (hB14.mono (by omega))
  have hR14 := hR13.below hB14
  have hz14 := hB14.size
  have HB14 := Lib.hid (HB13.out.trans (hB14.mono HB13.out.size))
  clear hM13 hJ13 hW13 hR13 h14 hB14 HB13
  -- the answer is marked, and held
  go_wp2_with fail
  refine (markR_any _ _ _ 1 _ _ hR14 hzf.out (by omega)).mono ?_
  rintro e w15 ⟨he15, hR15, ht15⟩
  obtain ⟨k15, hk15⟩ : ∃ k15, k15 = 1 + tot zs := ⟨_, rfl⟩
  rw [← hk15] at he15
  subst he15
  have HK15 := Lib.hid hk15
  clear hk15
  have hM15 := ht15.mat hM14 fun B s => by omega
  have hJ15 := ht15.mat hJ14 fun B s => by omega
  have hW15 := ht15.mat hW14 fun B s => by omega
  have hz15 : w14.heap.size ≤ w15.heap.size := by rw [ht15.size]; exact Nat.le_refl _
  have HB15 := Lib.hid (HB14.out.trans (ht15.below (n := w.heap.size) fun B s => by omega))
  have hkk : ((k15 : Int) != (k15 : Int)) = false := by simp
  clear hM14 hJ14 hW14 hR14 ht15 HB14
  go_wp2_with fail
  refine (heldSS_any _ _ 1 _ _ _ hR15.mat hzf.out (by omega)).mono ?_
  rw [← HK15.out]
  rintro e w16 ⟨rfl, rfl⟩
  -- another call's answer does not share it
  go_wp2_with fail
  refine (toSS_any _ _ _ _ _ hM15 HF.out (by omega)).mono ?_
  rintro e w17 ⟨rfl, hB17, -, hO17⟩
  have hA17 := hO17.size
  have hz17 := hB17.size
  have hJ17 := hJ15.below (hB17.mono (by omega))
  have hW17 := hW15.below (hB17.mono (by omega))
  have hR17 := hR15.below hB17
  have HB17 := Lib.hid (HB15.out.trans (hB17.mono HB15.out.size))
  clear hO17 hM15 hJ15 hW15 hR15 hB17 HB15
  go_wp2_with fail
  refine (toSS_any _ _ _ _ _ hJ17 HFj.out (by omega)).mono ?_
  rintro e w18 ⟨rfl, hB18, -, hO18⟩
  have hA18 := hO18.size
  have hz18 := hB18.size
  have hA18' := (hA17.below hB18).more hz18
  have hW18 := hW17.below (hB18.mono (by omega))
  have hR18 := hR17.below hB18
  have HB18 := Lib.hid (HB17.out.trans (hB18.mono HB17.out.size))
  clear hO18 hA17 hJ17 hW17 hR17 hB18 HB17
  go_wp2_with fail
  refine (implBeside _ _ _ _ _ _ _ hA18' hA18 HF.out HFj.out).mono ?_
  rintro e w19 h19
  rw [HZ.out, HY.out] at h19
  obtain ⟨a19, c19, ⟨rfl, hB19⟩, hR19⟩ := h19
  have hG19 := hR19.mat
  have hW19 := hW18.below (hB19.mono (by omega))
  have hO19 := hR18.below hB19
  have hz19 := hB19.size
  have HB19 := Lib.hid (HB18.out.trans (hB19.mono HB18.out.size))
  clear hA18 hA18' hW18 hR18 hR19 hB19 HB18
  go_wp2_with fail
  refine (eqSS_same _ _ _ _ _ _ _ hG19 (hW19.more (by omega)) hzf.out).mono ?_
  rintro e w20 h20
  obtain ⟨rfl, hB20⟩ := h20.below
  have hO20 := hO19.below hB20
  have HB20 := Lib.hid (HB19.out.trans (hB20.mono HB19.out.size))
  clear hG19 hW19 hO19 h20 hB20 HB19
  go_wp2_with fail
  refine (heldSS_any _ _ 1 _ _ _ hO20.mat hzf.out (by omega)).mono ?_
  rw [← HK15.out]
  rintro e w21 ⟨rfl, rfl⟩
  go_wp2_with fail
  go_ret
  exact ⟨rfl, HB20.out⟩

end Go.Proofs.Ytdhpkmijbgcdpaa
