/-
  The walk of the exact law of CoversOf.
-/
import Derived.Test.YtldkgkpiceamhaaZA
import Derived.Test.YtldkgkpiceamhaaZI
import Derived.Test.YtldkgkpiceamhaaZB
import Derived.Test.YtldkgkpiceamhaaXF
import Derived.Test.YtldkgkpiceamhaaXC
import Derived.Test.YtldkgkpiceamhaaN3a
namespace Go.Proofs.Ytldkgkpiceamhaa
open Go.RowKit Go.Shelf

set_option maxRecDepth 100000 in
set_option maxHeartbeats 8000000 in
theorem exCoversOf_any (a0 : Option Addr) (c0 : Nat) (x0 : List (List Int)) (a1 : Option Addr) (c1 : Nat) (x1 : List (List Int)) (w : World) (hM0 : Mat w.heap.size w a0 x0) (hl0 : x0.length ≤ 9223372036854775807) (hr0 : ∀ xs ∈ x0, xs.length ≤ 9223372036854775807) (hM1 : Mat w.heap.size w a1 x1) (hl1 : x1.length ≤ 9223372036854775807) (hr1 : ∀ xs ∈ x1, xs.length ≤ 9223372036854775807) :
    Calls Try.prog 13 #[.slice a0 x0.length c0, .slice a1 x1.length c1] w (Ans (.bool true) w) := by
  have Hr0 : Hid (∀ xs ∈ x0, xs.length ≤ 9223372036854775807) := hr0
  clear hr0
  have Hr1 : Hid (∀ xs ∈ x1, xs.length ≤ 9223372036854775807) := hr1
  clear hr1
  obtain ⟨zs, HZ, HZL⟩ : ∃ zs, Hid (cvsL x0 x1 = zs) ∧ Hid (Fit zs) := ⟨_, rfl, cvs_fit⟩
  have hzl := HZL.out.1
  go_enter Try.func13, Try.ntmps13
  go_wp2_with fail
  refine (szSS_le _ _ _ _ _ _ (by omega) (by omega) hM0 hl0 Hr0.out).mono ?_
  rintro e wq ⟨r0, ⟨rfl, rfl⟩, hrr0, hfit0⟩
  by_cases hrn0 : r0 < 0
  · go_wp2_with fail
    go_ret
    exact ⟨rfl, Below.refl _ _⟩
  have HF0 := Lib.hid (hfit0 (by omega))
  have hlf0 := HF0.out.1
  clear hfit0
  go_wp2_with fail
  refine (szSS_le _ _ _ _ _ _ (by omega) (by omega) hM1 hl1 Hr1.out).mono ?_
  rintro e wq ⟨r1, ⟨rfl, rfl⟩, hrr1, hfit1⟩
  by_cases hrn1 : r1 < 0
  · go_wp2_with fail
    go_ret
    exact ⟨rfl, Below.refl _ _⟩
  have HF1 := Lib.hid (hfit1 (by omega))
  have hlf1 := HF1.out.1
  clear hfit1
  have HB0 := Lib.hid (Below.refl w.heap.size w)
  have M0_0 := hM0
  have M1_0 := hM1
  clear hM0 hM1
  -- the model's answer
  go_wp2_with fail
  refine (toSS_any _ _ _ _ _ M0_0 HF0.out (by omega)).mono ?_
  rintro e w1 ⟨rfl, hB1, -, S0_1⟩
  have hz1 := hB1.size
  have M0_1 := M0_0.below (hB1.mono (by omega))
  have M1_1 := M1_0.below (hB1.mono (by omega))
  have HB1 := Lib.hid (HB0.out.trans (hB1.mono HB0.out.size))
  clear hB1 HB0 M0_0 M1_0
  go_wp2_with fail
  refine (toSS_any _ _ _ _ _ M1_1 HF1.out (by omega)).mono ?_
  rintro e w2 ⟨rfl, hB2, -, S1_2⟩
  have hz2 := hB2.size
  have M0_2 := M0_1.below (hB2.mono (by omega))
  have M1_2 := M1_1.below (hB2.mono (by omega))
  have S0_2 := S0_1.below hB2 S0_1.len.1 S0_1.len.2
  have HB2 := Lib.hid (HB1.out.trans (hB2.mono HB1.out.size))
  clear hB2 HB1 M0_1 M1_1 S0_1
  go_wp2_with fail
  refine (specCvsR _ _ _ _ _ _ _ S0_2.size S1_2.size HF0.out HF1.out).mono ?_
  rintro e w3 h3
  rw [HZ.out] at h3
  obtain ⟨b0, db0, ⟨rfl, hB3⟩, W_3⟩ := h3
  have hz3 := hB3.size
  have M0_3 := M0_2.below (hB3.mono (by omega))
  have M1_3 := M1_2.below (hB3.mono (by omega))
  have HB3 := Lib.hid (HB2.out.trans (hB3.mono HB2.out.size))
  clear hB3 HB2 M0_2 M1_2 S0_2 S1_2
  -- the program's answer
  go_wp2_with fail
  refine (toSS_any _ _ _ _ _ M0_3 HF0.out (by omega)).mono ?_
  rintro e w4 ⟨rfl, hB4, hs4, X0_4⟩
  have hs4' : w3.heap.size + 1 + x0.length ≤ w4.heap.size := by omega
  clear hs4
  have hz4 := hB4.size
  have M0_4 := M0_3.below (hB4.mono (by omega))
  have M1_4 := M1_3.below (hB4.mono (by omega))
  have W_4 := W_3.below (hB4.mono (by omega))
  have HB4 := Lib.hid (HB3.out.trans (hB4.mono HB3.out.size))
  clear hB4 HB3 M0_3 M1_3 W_3
  go_wp2_with fail
  refine (toSS_any _ _ _ _ _ M1_4 HF1.out (by omega)).mono ?_
  rintro e w5 ⟨rfl, hB5, hs5, X1_5⟩
  have hs5' : w4.heap.size + 1 + x1.length ≤ w5.heap.size := by omega
  clear hs5
  have hz5 := hB5.size
  have M0_5 := M0_4.below (hB5.mono (by omega))
  have M1_5 := M1_4.below (hB5.mono (by omega))
  have W_5 := W_4.below (hB5.mono (by omega))
  have X0_5 := X0_4.below hB5 X0_4.len.1 X0_4.len.2
  have HB5 := Lib.hid (HB4.out.trans (hB5.mono HB4.out.size))
  clear hB5 HB4 M0_4 M1_4 W_4 X0_4
  go_wp2_with fail
  refine (implCvs _ _ _ _ _ _ _ X0_5.size X1_5.size HF0.out HF1.out).mono ?_
  rintro e w6 h6
  rw [HZ.out] at h6
  obtain ⟨b1, db1, ⟨rfl, hB6⟩, V_6⟩ := h6
  have hz6 := hB6.size
  have M0_6 := M0_5.below (hB6.mono (by omega))
  have M1_6 := M1_5.below (hB6.mono (by omega))
  have W_6 := W_5.below (hB6.mono (by omega))
  have X0_6 := X0_5.below hB6 X0_5.len.1 X0_5.len.2
  have X1_6 := X1_5.below hB6 X1_5.len.1 X1_5.len.2
  have HB6 := Lib.hid (HB5.out.trans (hB6.mono HB5.out.size))
  clear hB6 HB5 M0_5 M1_5 W_5 X0_5 X1_5
  go_wp2_with fail
  refine (eqSS_same _ _ _ _ _ _ _ V_6.mat.mat (W_6.more (by omega)) HZL.out).mono ?_
  rintro e w7 h7
  obtain ⟨rfl, hB7⟩ := h7.below
  clear h7
  have hz7 := hB7.size
  have M0_7 := M0_6.below (hB7.mono (by omega))
  have M1_7 := M1_6.below (hB7.mono (by omega))
  have W_7 := W_6.below (hB7.mono (by omega))
  have X0_7 := X0_6.below hB7 X0_6.len.1 X0_6.len.2
  have X1_7 := X1_6.below hB7 X1_6.len.1 X1_6.len.2
  have V_7 := V_6.below hB7
  have HB7 := Lib.hid (HB6.out.trans (hB7.mono HB6.out.size))
  clear hB7 HB6 M0_6 M1_6 W_6 X0_6 X1_6 V_6
  -- the arguments are as they were
  go_wp2_with fail
  refine (toSS_any _ _ _ _ _ M0_7 HF0.out (by omega)).mono ?_
  rintro e w8 ⟨rfl, hB8, -, Y0_8⟩
  have hz8 := hB8.size
  have M0_8 := M0_7.below (hB8.mono (by omega))
  have M1_8 := M1_7.below (hB8.mono (by omega))
  have W_8 := W_7.below (hB8.mono (by omega))
  have X0_8 := X0_7.below hB8 X0_7.len.1 X0_7.len.2
  have X1_8 := X1_7.below hB8 X1_7.len.1 X1_7.len.2
  have V_8 := V_7.below hB8
  have HB8 := Lib.hid (HB7.out.trans (hB8.mono HB7.out.size))
  clear hB8 HB7 M0_7 M1_7 W_7 X0_7 X1_7 V_7
  go_wp2_with fail
  refine (eqSS_same _ _ _ _ _ _ _ X0_8.size Y0_8.size HF0.out).mono ?_
  rintro e w9 h9
  obtain ⟨rfl, hB9⟩ := h9.below
  clear h9
  have hz9 := hB9.size
  have M0_9 := M0_8.below (hB9.mono (by omega))
  have M1_9 := M1_8.below (hB9.mono (by omega))
  have W_9 := W_8.below (hB9.mono (by omega))
  have X0_9 := X0_8.below hB9 X0_8.len.1 X0_8.len.2
  have X1_9 := X1_8.below hB9 X1_8.len.1 X1_8.len.2
  have V_9 := V_8.below hB9
  have HB9 := Lib.hid (HB8.out.trans (hB9.mono HB8.out.size))
  clear hB9 HB8 M0_8 M1_8 W_8 X0_8 X1_8 V_8 Y0_8
  go_wp2_with fail
  refine (toSS_any _ _ _ _ _ M1_9 HF1.out (by omega)).mono ?_
  rintro e w10 ⟨rfl, hB10, -, Y1_10⟩
  have hz10 := hB10.size
  have M0_10 := M0_9.below (hB10.mono (by omega))
  have M1_10 := M1_9.below (hB10.mono (by omega))
  have W_10 := W_9.below (hB10.mono (by omega))
  have X0_10 := X0_9.below hB10 X0_9.len.1 X0_9.len.2
  have X1_10 := X1_9.below hB10 X1_9.len.1 X1_9.len.2
  have V_10 := V_9.below hB10
  have HB10 := Lib.hid (HB9.out.trans (hB10.mono HB9.out.size))
  clear hB10 HB9 M0_9 M1_9 W_9 X0_9 X1_9 V_9
  go_wp2_with fail
  refine (eqSS_same _ _ _ _ _ _ _ X1_10.size Y1_10.size HF1.out).mono ?_
  rintro e w11 h11
  obtain ⟨rfl, hB11⟩ := h11.below
  clear h11
  have hz11 := hB11.size
  have M0_11 := M0_10.below (hB11.mono (by omega))
  have M1_11 := M1_10.below (hB11.mono (by omega))
  have W_11 := W_10.below (hB11.mono (by omega))
  have X0_11 := X0_10.below hB11 X0_10.len.1 X0_10.len.2
  have X1_11 := X1_10.below hB11 X1_10.len.1 X1_10.len.2
  have V_11 := V_10.below hB11
  have HB11 := Lib.hid (HB10.out.trans (hB11.mono HB10.out.size))
  clear hB11 HB10 M0_10 M1_10 W_10 X0_10 X1_10 V_10 Y1_10
  -- the arguments' copies are marked: the answer stays
  have htt0 := tot_le HF0.out x0.length (Nat.le_refl _)
  rw [tot_all] at htt0
  have htm0 : x0.length * 1048576 ≤ 1048576 * 1048576 := Nat.mul_le_mul hlf0 (Nat.le_refl _)
  go_wp2_with fail
  refine (markSS_huge _ _ 1 _ _ _ X0_11 HF0.out (fun i j h => by have h' : w3.heap.size + 1 + i = w3.heap.size + 1 + j := h; omega) (by omega)).mono ?_
  rintro e w12 ⟨he12, -, ht12⟩
  obtain ⟨k0, hk0⟩ : ∃ k0, k0 = 1 + tot x0 := ⟨_, rfl⟩
  rw [← hk0] at he12
  subst he12
  have hqk0 : k0 ≤ 1099511627777 := by omega
  clear hk0
  have hS12 : ∀ B, (∃ i, i < x0.length ∧ B = w3.heap.size + 1 + i) → w3.heap.size ≤ B ∧ B < w4.heap.size := fun B s => by obtain ⟨i, hi, rfl⟩ := s; constructor <;> omega
  have M0_12 := ht12.mat M0_11 fun B s => by have := hS12 B s; omega
  have M1_12 := ht12.mat M1_11 fun B s => by have := hS12 B s; omega
  have W_12 := ht12.mat W_11 fun B s => by have := hS12 B s; omega
  have X1_12 := ht12.own X1_11 (fun s => by have := hS12 _ s; omega) (fun i hi s => by have h' := hS12 (w4.heap.size + 1 + i) s; omega)
  have V_12 := ht12.ownSep (n := w4.heap.size) V_11 (fun B s => by have := hS12 B s; omega) (by omega)
  have hz12 : w11.heap.size ≤ w12.heap.size := by rw [ht12.size]; exact Nat.le_refl _
  have HB12 := Lib.hid (HB11.out.trans (ht12.below (n := w.heap.size) fun B s => by have := hS12 B s; omega))
  clear ht12 hS12 HB11 M0_11 M1_11 W_11 X0_11 X1_11 V_11
  clear htt0 htm0
  have htt1 := tot_le HF1.out x1.length (Nat.le_refl _)
  rw [tot_all] at htt1
  have htm1 : x1.length * 1048576 ≤ 1048576 * 1048576 := Nat.mul_le_mul hlf1 (Nat.le_refl _)
  go_wp2_with fail
  refine (markSS_huge _ _ k0 _ _ _ X1_12 HF1.out (fun i j h => by have h' : w4.heap.size + 1 + i = w4.heap.size + 1 + j := h; omega) (by omega)).mono ?_
  rintro e w13 ⟨he13, -, ht13⟩
  obtain ⟨k1, hk1⟩ : ∃ k1, k1 = k0 + tot x1 := ⟨_, rfl⟩
  rw [← hk1] at he13
  subst he13
  have hqk1 : k1 ≤ 2199023255553 := by omega
  clear hk1
  have hS13 : ∀ B, (∃ i, i < x1.length ∧ B = w4.heap.size + 1 + i) → w4.heap.size ≤ B ∧ B < w5.heap.size := fun B s => by obtain ⟨i, hi, rfl⟩ := s; constructor <;> omega
  have M0_13 := ht13.mat M0_12 fun B s => by have := hS13 B s; omega
  have M1_13 := ht13.mat M1_12 fun B s => by have := hS13 B s; omega
  have W_13 := ht13.mat W_12 fun B s => by have := hS13 B s; omega
  have V_13 := ht13.ownSep (n := w5.heap.size) V_12 (fun B s => by have := hS13 B s; omega) (by omega)
  have hz13 : w12.heap.size ≤ w13.heap.size := by rw [ht13.size]; exact Nat.le_refl _
  have HB13 := Lib.hid (HB12.out.trans (ht13.below (n := w.heap.size) fun B s => by have := hS13 B s; omega))
  clear ht13 hS13 HB12 M0_12 M1_12 W_12 X1_12 V_12
  clear htt1 htm1
  go_wp2_with fail
  refine (eqSS_same _ _ _ _ _ _ _ V_13.mat.mat (W_13.more (by omega)) HZL.out).mono ?_
  rintro e w14 h14
  obtain ⟨rfl, hB14⟩ := h14.below
  clear h14
  have hz14 := hB14.size
  have M0_14 := M0_13.below (hB14.mono (by omega))
  have M1_14 := M1_13.below (hB14.mono (by omega))
  have W_14 := W_13.below (hB14.mono (by omega))
  have V_14 := V_13.below hB14
  have HB14 := Lib.hid (HB13.out.trans (hB14.mono HB13.out.size))
  clear hB14 HB13 M0_13 M1_13 W_13 V_13
  -- the answer is marked, and held
  go_wp2_with fail
  refine (markSep_any _ _ _ 1 _ _ V_14 HZL.out (by omega)).mono ?_
  rintro e w15 ⟨he15, U_15, ht15⟩
  obtain ⟨q9, hq9⟩ : ∃ q9, q9 = 1 + tot zs := ⟨_, rfl⟩
  rw [← hq9] at he15
  subst he15
  have HQ9 := Lib.hid hq9
  clear hq9
  have hS15 : ∀ B, w5.heap.size ≤ B → w5.heap.size ≤ B := fun B s => s
  have M0_15 := ht15.mat M0_14 fun B s => by have := hS15 B s; omega
  have M1_15 := ht15.mat M1_14 fun B s => by have := hS15 B s; omega
  have W_15 := ht15.mat W_14 fun B s => by have := hS15 B s; omega
  have hz15 : w14.heap.size ≤ w15.heap.size := by rw [ht15.size]; exact Nat.le_refl _
  have HB15 := Lib.hid (HB14.out.trans (ht15.below (n := w.heap.size) fun B s => by have := hS15 B s; omega))
  clear ht15 hS15 HB14 M0_14 M1_14 W_14 V_14
  have hqq : ((q9 : Int) != (q9 : Int)) = false := by simp
  go_wp2_with fail
  refine (heldSS_any _ _ 1 _ zs _ U_15.mat.mat HZL.out (by omega)).mono ?_
  rw [← HQ9.out]
  rintro e wq ⟨rfl, rfl⟩
  -- another call's answer does not share it
  go_wp2_with fail
  refine (toSS_any _ _ _ _ _ M0_15 HF0.out (by omega)).mono ?_
  rintro e w16 ⟨rfl, hB16, -, A0_16⟩
  have hz16 := hB16.size
  have M0_16 := M0_15.below (hB16.mono (by omega))
  have M1_16 := M1_15.below (hB16.mono (by omega))
  have W_16 := W_15.below (hB16.mono (by omega))
  have U_16 := U_15.below hB16
  have HB16 := Lib.hid (HB15.out.trans (hB16.mono HB15.out.size))
  clear hB16 HB15 M0_15 M1_15 W_15 U_15
  go_wp2_with fail
  refine (toSS_any _ _ _ _ _ M1_16 HF1.out (by omega)).mono ?_
  rintro e w17 ⟨rfl, hB17, -, A1_17⟩
  have hz17 := hB17.size
  have M0_17 := M0_16.below (hB17.mono (by omega))
  have M1_17 := M1_16.below (hB17.mono (by omega))
  have W_17 := W_16.below (hB17.mono (by omega))
  have U_17 := U_16.below hB17
  have A0_17 := A0_16.below hB17 A0_16.len.1 A0_16.len.2
  have HB17 := Lib.hid (HB16.out.trans (hB17.mono HB16.out.size))
  clear hB17 HB16 M0_16 M1_16 W_16 U_16 A0_16
  go_wp2_with fail
  refine (implCvs _ _ _ _ _ _ _ A0_17.size A1_17.size HF0.out HF1.out).mono ?_
  rintro e w18 h18
  rw [HZ.out] at h18
  obtain ⟨b2, db2, ⟨rfl, hB18⟩, Z_18⟩ := h18
  have hz18 := hB18.size
  have W_18 := W_17.below (hB18.mono (by omega))
  have U_18 := U_17.below hB18
  have HB18 := Lib.hid (HB17.out.trans (hB18.mono HB17.out.size))
  clear hB18 HB17 M0_17 M1_17 W_17 U_17 A0_17 A1_17
  go_wp2_with fail
  refine (eqSS_same _ _ _ _ _ _ _ Z_18.mat.mat (W_18.more (by omega)) HZL.out).mono ?_
  rintro e w19 h19
  obtain ⟨rfl, hB19⟩ := h19.below
  clear h19
  have hz19 := hB19.size
  have W_19 := W_18.below (hB19.mono (by omega))
  have U_19 := U_18.below hB19
  have Z_19 := Z_18.below hB19
  have HB19 := Lib.hid (HB18.out.trans (hB19.mono HB18.out.size))
  clear hB19 HB18 W_18 U_18 Z_18
  go_wp2_with fail
  refine (heldSS_any _ _ 1 _ zs _ U_19.mat.mat HZL.out (by omega)).mono ?_
  rw [← HQ9.out]
  rintro e wq ⟨rfl, rfl⟩
  go_wp2_with fail
  go_ret
  exact ⟨rfl, HB19.out⟩

end Go.Proofs.Ytldkgkpiceamhaa
