/-
  The walk of the exact law of TwiceOf.
-/
import Derived.Test.YtldkgkpiceamhaaZA
import Derived.Test.YtldkgkpiceamhaaZI
import Derived.Test.YtldkgkpiceamhaaZB
import Derived.Test.YtldkgkpiceamhaaXF
import Derived.Test.YtldkgkpiceamhaaXC
import Derived.Test.YtldkgkpiceamhaaN3a
namespace Go.Proofs.Ytldkgkpiceamhaa
open Go.RowKit Go.Shelf

set_option maxRecDepth 100000 in
set_option maxHeartbeats 8000000 in
theorem exTwiceOf_any (a0 : Option Addr) (c0 : Nat) (x0 : List (List Int)) (w : World) (hM0 : Mat w.heap.size w a0 x0) (hl0 : x0.length ≤ 9223372036854775807) (hr0 : ∀ xs ∈ x0, xs.length ≤ 9223372036854775807) :
    Calls Try.prog 14 #[.slice a0 x0.length c0] w (Ans (.bool true) w) := by
  have Hr0 : Hid (∀ xs ∈ x0, xs.length ≤ 9223372036854775807) := hr0
  clear hr0
  obtain ⟨zs, HZ, HZL⟩ : ∃ zs, Hid (twL x0 = zs) ∧ Hid (Fit zs) := ⟨_, rfl, tw_fit⟩
  have hzl := HZL.out.1
  go_enter Try.func14, Try.ntmps14
  go_wp2_with fail
  refine (szSS_le _ _ _ _ _ _ (by omega) (by omega) hM0 hl0 Hr0.out).mono ?_
  rintro e wq ⟨r0, ⟨rfl, rfl⟩, hrr0, hfit0⟩
  by_cases hrn0 : r0 < 0
  · go_wp2_with fail
    go_ret
    exact ⟨rfl, Below.refl _ _⟩
  have HF0 := Lib.hid (hfit0 (by omega))
  have hlf0 := HF0.out.1
  clear hfit0
  have HB0 := Lib.hid (Below.refl w.heap.size w)
  have M0_0 := hM0
  clear hM0
  -- the model's answer
  go_wp2_with fail
  refine (toSS_any _ _ _ _ _ M0_0 HF0.out (by omega)).mono ?_
  rintro e w1 ⟨rfl, hB1, -, S0_1⟩
  have hz1 := hB1.size
  have M0_1 := M0_0.below (hB1.mono (by omega))
  have HB1 := Lib.hid (HB0.out.trans (hB1.mono HB0.out.size))
  clear hB1 HB0 M0_0
  go_wp2_with fail
  refine (specTwR _ _ _ _ S0_1.size HF0.out).mono ?_
  rintro e w2 h2
  rw [HZ.out] at h2
  obtain ⟨b0, db0, ⟨rfl, hB2⟩, W_2⟩ := h2
  have hz2 := hB2.size
  have M0_2 := M0_1.below (hB2.mono (by omega))
  have HB2 := Lib.hid (HB1.out.trans (hB2.mono HB1.out.size))
  clear hB2 HB1 M0_1 S0_1
  -- the program's answer
  go_wp2_with fail
  refine (toSS_any _ _ _ _ _ M0_2 HF0.out (by omega)).mono ?_
  rintro e w3 ⟨rfl, hB3, hs3, X0_3⟩
  have hs3' : w2.heap.size + 1 + x0.length ≤ w3.heap.size := by omega
  clear hs3
  have hz3 := hB3.size
  have M0_3 := M0_2.below (hB3.mono (by omega))
  have W_3 := W_2.below (hB3.mono (by omega))
  have HB3 := Lib.hid (HB2.out.trans (hB3.mono HB2.out.size))
  clear hB3 HB2 M0_2 W_2
  go_wp2_with fail
  refine (implTw _ _ _ _ X0_3.size HF0.out).mono ?_
  rintro e w4 h4
  rw [HZ.out] at h4
  obtain ⟨b1, db1, ⟨rfl, hB4⟩, V_4⟩ := h4
  have hz4 := hB4.size
  have M0_4 := M0_3.below (hB4.mono (by omega))
  have W_4 := W_3.below (hB4.mono (by omega))
  have X0_4 := X0_3.below hB4 X0_3.len.1 X0_3.len.2
  have HB4 := Lib.hid (HB3.out.trans (hB4.mono HB3.out.size))
  clear hB4 HB3 M0_3 W_3 X0_3
  go_wp2_with fail
  refine (eqSS_same _ _ _ _ _ _ _ V_4.mat.mat (W_4.more (by omega)) HZL.out).mono ?_
  rintro e w5 h5
  obtain ⟨rfl, hB5⟩ := h5.below
  clear h5
  have hz5 := hB5.size
  have M0_5 := M0_4.below (hB5.mono (by omega))
  have W_5 := W_4.below (hB5.mono (by omega))
  have X0_5 := X0_4.below hB5 X0_4.len.1 X0_4.len.2
  have V_5 := V_4.below hB5
  have HB5 := Lib.hid (HB4.out.trans (hB5.mono HB4.out.size))
  clear hB5 HB4 M0_4 W_4 X0_4 V_4
  -- the arguments are as they were
  go_wp2_with fail
  refine (toSS_any _ _ _ _ _ M0_5 HF0.out (by omega)).mono ?_
  rintro e w6 ⟨rfl, hB6, -, Y0_6⟩
  have hz6 := hB6.size
  have M0_6 := M0_5.below (hB6.mono (by omega))
  have W_6 := W_5.below (hB6.mono (by omega))
  have X0_6 := X0_5.below hB6 X0_5.len.1 X0_5.len.2
  have V_6 := V_5.below hB6
  have HB6 := Lib.hid (HB5.out.trans (hB6.mono HB5.out.size))
  clear hB6 HB5 M0_5 W_5 X0_5 V_5
  go_wp2_with fail
  refine (eqSS_same _ _ _ _ _ _ _ X0_6.size Y0_6.size HF0.out).mono ?_
  rintro e w7 h7
  obtain ⟨rfl, hB7⟩ := h7.below
  clear h7
  have hz7 := hB7.size
  have M0_7 := M0_6.below (hB7.mono (by omega))
  have W_7 := W_6.below (hB7.mono (by omega))
  have X0_7 := X0_6.below hB7 X0_6.len.1 X0_6.len.2
  have V_7 := V_6.below hB7
  have HB7 := Lib.hid (HB6.out.trans (hB7.mono HB6.out.size))
  clear hB7 HB6 M0_6 W_6 X0_6 V_6 Y0_6
  -- the arguments' copies are marked: the answer stays
  have htt0 := tot_le HF0.out x0.length (Nat.le_refl _)
  rw [tot_all] at htt0
  have htm0 : x0.length * 1048576 ≤ 1048576 * 1048576 := Nat.mul_le_mul hlf0 (Nat.le_refl _)
  go_wp2_with fail
  refine (markSS_huge _ _ 1 _ _ _ X0_7 HF0.out (fun i j h => by have h' : w2.heap.size + 1 + i = w2.heap.size + 1 + j := h; omega) (by omega)).mono ?_
  rintro e w8 ⟨he8, -, ht8⟩
  obtain ⟨k0, hk0⟩ : ∃ k0, k0 = 1 + tot x0 := ⟨_, rfl⟩
  rw [← hk0] at he8
  subst he8
  have hqk0 : k0 ≤ 1099511627777 := by omega
  clear hk0
  have hS8 : ∀ B, (∃ i, i < x0.length ∧ B = w2.heap.size + 1 + i) → w2.heap.size ≤ B ∧ B < w3.heap.size := fun B s => by obtain ⟨i, hi, rfl⟩ := s; constructor <;> omega
  have M0_8 := ht8.mat M0_7 fun B s => by have := hS8 B s; omega
  have W_8 := ht8.mat W_7 fun B s => by have := hS8 B s; omega
  have V_8 := ht8.ownSep (n := w3.heap.size) V_7 (fun B s => by have := hS8 B s; omega) (by omega)
  have hz8 : w7.heap.size ≤ w8.heap.size := by rw [ht8.size]; exact Nat.le_refl _
  have HB8 := Lib.hid (HB7.out.trans (ht8.below (n := w.heap.size) fun B s => by have := hS8 B s; omega))
  clear ht8 hS8 HB7 M0_7 W_7 X0_7 V_7
  clear htt0 htm0
  go_wp2_with fail
  refine (eqSS_same _ _ _ _ _ _ _ V_8.mat.mat (W_8.more (by omega)) HZL.out).mono ?_
  rintro e w9 h9
  obtain ⟨rfl, hB9⟩ := h9.below
  clear h9
  have hz9 := hB9.size
  have M0_9 := M0_8.below (hB9.mono (by omega))
  have W_9 := W_8.below (hB9.mono (by omega))
  have V_9 := V_8.below hB9
  have HB9 := Lib.hid (HB8.out.trans (hB9.mono HB8.out.size))
  clear hB9 HB8 M0_8 W_8 V_8
  -- the answer is marked, and held
  go_wp2_with fail
  refine (markSep_any _ _ _ 1 _ _ V_9 HZL.out (by omega)).mono ?_
  rintro e w10 ⟨he10, U_10, ht10⟩
  obtain ⟨q9, hq9⟩ : ∃ q9, q9 = 1 + tot zs := ⟨_, rfl⟩
  rw [← hq9] at he10
  subst he10
  have HQ9 := Lib.hid hq9
  clear hq9
  have hS10 : ∀ B, w3.heap.size ≤ B → w3.heap.size ≤ B := fun B s => s
  have M0_10 := ht10.mat M0_9 fun B s => by have := hS10 B s; omega
  have W_10 := ht10.mat W_9 fun B s => by have := hS10 B s; omega
  have hz10 : w9.heap.size ≤ w10.heap.size := by rw [ht10.size]; exact Nat.le_refl _
  have HB10 := Lib.hid (HB9.out.trans (ht10.below (n := w.heap.size) fun B s => by have := hS10 B s; omega))
  clear ht10 hS10 HB9 M0_9 W_9 V_9
  have hqq : ((q9 : Int) != (q9 : Int)) = false := by simp
  go_wp2_with fail
  refine (heldSS_any _ _ 1 _ zs _ U_10.mat.mat HZL.out (by omega)).mono ?_
  rw [← HQ9.out]
  rintro e wq ⟨rfl, rfl⟩
  -- another call's answer does not share it
  go_wp2_with fail
  refine (toSS_any _ _ _ _ _ M0_10 HF0.out (by omega)).mono ?_
  rintro e w11 ⟨rfl, hB11, -, A0_11⟩
  have hz11 := hB11.size
  have M0_11 := M0_10.below (hB11.mono (by omega))
  have W_11 := W_10.below (hB11.mono (by omega))
  have U_11 := U_10.below hB11
  have HB11 := Lib.hid (HB10.out.trans (hB11.mono HB10.out.size))
  clear hB11 HB10 M0_10 W_10 U_10
  go_wp2_with fail
  refine (implTw _ _ _ _ A0_11.size HF0.out).mono ?_
  rintro e w12 h12
  rw [HZ.out] at h12
  obtain ⟨b2, db2, ⟨rfl, hB12⟩, Z_12⟩ := h12
  have hz12 := hB12.size
  have W_12 := W_11.below (hB12.mono (by omega))
  have U_12 := U_11.below hB12
  have HB12 := Lib.hid (HB11.out.trans (hB12.mono HB11.out.size))
  clear hB12 HB11 M0_11 W_11 U_11 A0_11
  go_wp2_with fail
  refine (eqSS_same _ _ _ _ _ _ _ Z_12.mat.mat (W_12.more (by omega)) HZL.out).mono ?_
  rintro e w13 h13
  obtain ⟨rfl, hB13⟩ := h13.below
  clear h13
  have hz13 := hB13.size
  have W_13 := W_12.below (hB13.mono (by omega))
  have U_13 := U_12.below hB13
  have Z_13 := Z_12.below hB13
  have HB13 := Lib.hid (HB12.out.trans (hB13.mono HB12.out.size))
  clear hB13 HB12 W_12 U_12 Z_12
  go_wp2_with fail
  refine (heldSS_any _ _ 1 _ zs _ U_13.mat.mat HZL.out (by omega)).mono ?_
  rw [← HQ9.out]
  rintro e wq ⟨rfl, rfl⟩
  go_wp2_with fail
  go_ret
  exact ⟨rfl, HB13.out⟩

end Go.Proofs.Ytldkgkpiceamhaa
