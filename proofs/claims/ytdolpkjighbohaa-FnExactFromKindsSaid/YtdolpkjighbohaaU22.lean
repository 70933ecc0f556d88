/-
  The walk of the exact law of FromKinds.
-/
import Derived.Test.YtdolpkjighbohaaZA
import Derived.Test.YtdolpkjighbohaaZI
import Derived.Test.YtdolpkjighbohaaG2
import Derived.Test.YtdolpkjighbohaaWP
import Derived.Test.YtdolpkjighbohaaPD
import Derived.Test.YtdolpkjighbohaaV20a
import Derived.Test.YtdolpkjighbohaaW0
namespace Go.Proofs.Ytdolpkjighbohaa
open Go.RowKit Go.Shelf

theorem own_intsN_U22 {W : World} {base c n : Nat} {a : Option Addr} {xs : List Int} (hn : xs.length = n) (h : W.ownsRow base 3 1 (.slice a n c) n (xs.map (Value.int .i64))) : Ints W.heap.size W a xs := by
  subst hn; exact own_intsQ h

set_option maxRecDepth 100000 in
set_option maxHeartbeats 8000000 in
theorem exFromKinds_any (a0 : Option Addr) (c0 : Nat) (x0 : List (List Int)) (a1 : Option Addr) (c1 : Nat) (x1 : List (List Int)) (a2 : Option Addr) (c2 : Nat) (x2 : List Int) (w : World) (hM0 : Mat w.heap.size w a0 x0) (hl0 : x0.length ≤ 9223372036854775807) (hr0 : ∀ xs ∈ x0, xs.length ≤ 9223372036854775807) (hM1 : Mat w.heap.size w a1 x1) (hl1 : x1.length ≤ 9223372036854775807) (hr1 : ∀ xs ∈ x1, xs.length ≤ 9223372036854775807) (hM2 : Ints w.heap.size w a2 x2) (hl2 : x2.length ≤ 9223372036854775807) :
    Calls Try.prog 14 #[.slice a0 x0.length c0, .slice a1 x1.length c1, .slice a2 x2.length c2] w (Ans (.bool true) w) := by
  have Hr0 : Hid (∀ xs ∈ x0, xs.length ≤ 9223372036854775807) := hr0
  clear hr0
  have Hr1 : Hid (∀ xs ∈ x1, xs.length ≤ 9223372036854775807) := hr1
  clear hr1
  by_cases hbig2 : 1048576 < x2.length
  · go_enter Try.func14, Try.ntmps14
    go_wp2_with fail
    go_ret
    exact ⟨rfl, Below.refl _ _⟩
  have HF2 : Hid (x2.length ≤ 1048576) := Lib.hid (by omega)
  have hly2 := HF2.out
  obtain ⟨zs, HZ, HZL⟩ : ∃ zs, Hid (frI x0 x1 x2 = zs) ∧ Hid (zs.length ≤ 1048576) := ⟨_, rfl, frI_le⟩
  have hzl := HZL.out
  go_enter Try.func14, Try.ntmps14
  go_wp2_with fail
  refine (szSS_le _ _ _ _ _ _ (by omega) (by omega) hM0 hl0 Hr0.out).mono ?_
  rintro e wq ⟨r0, ⟨rfl, rfl⟩, hrr0, hfit0⟩
  by_cases hrn0 : r0 < 0
  · go_wp2_with fail
    go_ret
    exact ⟨rfl, Below.refl _ _⟩
  have HF0 := Lib.hid (hfit0 (by omega))
  have hlf0 := HF0.out.1
  clear hfit0
  go_wp2_with fail
  refine (szSS_le _ _ _ _ _ _ (by omega) (by omega) hM1 hl1 Hr1.out).mono ?_
  rintro e wq ⟨r1, ⟨rfl, rfl⟩, hrr1, hfit1⟩
  by_cases hrn1 : r1 < 0
  · go_wp2_with fail
    go_ret
    exact ⟨rfl, Below.refl _ _⟩
  have HF1 := Lib.hid (hfit1 (by omega))
  have hlf1 := HF1.out.1
  clear hfit1
  have HB0 := Lib.hid (Below.refl w.heap.size w)
  have M0_0 := hM0
  have M1_0 := hM1
  have M2_0 := hM2
  clear hM0 hM1 hM2
  -- the model's answer
  go_wp2_with fail
  refine (toSS_any _ _ _ _ _ M0_0 HF0.out (by omega)).mono ?_
  rintro e w1 ⟨rfl, hB1, -, S0_1⟩
  have hz1 := hB1.size
  have M0_1 := M0_0.below (hB1.mono (by omega))
  have M1_1 := M1_0.below (hB1.mono (by omega))
  have M2_1 := M2_0.below (hB1.mono (by omega))
  have HB1 := Lib.hid (HB0.out.trans (hB1.mono HB0.out.size))
  clear hB1 HB0 M0_0 M1_0 M2_0
  go_wp2_with fail
  refine (toSS_any _ _ _ _ _ M1_1 HF1.out (by omega)).mono ?_
  rintro e w2 ⟨rfl, hB2, -, S1_2⟩
  have hz2 := hB2.size
  have M0_2 := M0_1.below (hB2.mono (by omega))
  have M1_2 := M1_1.below (hB2.mono (by omega))
  have M2_2 := M2_1.below (hB2.mono (by omega))
  have S0_2 := S0_1.below hB2 S0_1.len.1 S0_1.len.2
  have HB2 := Lib.hid (HB1.out.trans (hB2.mono HB1.out.size))
  clear hB2 HB1 M0_1 M1_1 M2_1 S0_1
  go_wp2_with fail
  refine (toS_any _ _ _ _ _ M2_2 HF2.out (by omega)).mono ?_
  rintro e w3 ⟨rfl, hB3, -, S2_3⟩
  have hz3 := hB3.size
  have M0_3 := M0_2.below (hB3.mono (by omega))
  have M1_3 := M1_2.below (hB3.mono (by omega))
  have M2_3 := M2_2.below (hB3.mono (by omega))
  have S0_3 := S0_2.below hB3 S0_2.len.1 S0_2.len.2
  have S1_3 := S1_2.below hB3 S1_2.len.1 S1_2.len.2
  have HB3 := Lib.hid (HB2.out.trans (hB3.mono HB2.out.size))
  clear hB3 HB2 M0_2 M1_2 M2_2 S0_2 S1_2
  go_wp2_with fail
  refine (specFrom _ _ _ _ _ _ _ _ _ _ _ S0_3.size S1_3.size (S2_3.ints (n₀ := w3.heap.size) S2_3.lt) (Nat.le_refl _) HF0.out HF1.out HF2.out).mono ?_
  rintro e w4 h4
  rw [HZ.out] at h4
  obtain ⟨b0, db0, ⟨rfl, hB4⟩, W_4⟩ := h4
  have hz4 := hB4.size
  have M0_4 := M0_3.below (hB4.mono (by omega))
  have M1_4 := M1_3.below (hB4.mono (by omega))
  have M2_4 := M2_3.below (hB4.mono (by omega))
  have HB4 := Lib.hid (HB3.out.trans (hB4.mono HB3.out.size))
  clear hB4 HB3 M0_3 M1_3 M2_3 S0_3 S1_3 S2_3
  -- the program's answer
  go_wp2_with fail
  refine (toSS_any _ _ _ _ _ M0_4 HF0.out (by omega)).mono ?_
  rintro e w5 ⟨rfl, hB5, hs5, X0_5⟩
  have hs5' : w4.heap.size + 1 + x0.length ≤ w5.heap.size := by omega
  clear hs5
  have hz5 := hB5.size
  have M0_5 := M0_4.below (hB5.mono (by omega))
  have M1_5 := M1_4.below (hB5.mono (by omega))
  have M2_5 := M2_4.below (hB5.mono (by omega))
  have W_5 := W_4.below (hB5.mono (by omega))
  have HB5 := Lib.hid (HB4.out.trans (hB5.mono HB4.out.size))
  clear hB5 HB4 M0_4 M1_4 M2_4 W_4
  go_wp2_with fail
  refine (toSS_any _ _ _ _ _ M1_5 HF1.out (by omega)).mono ?_
  rintro e w6 ⟨rfl, hB6, hs6, X1_6⟩
  have hs6' : w5.heap.size + 1 + x1.length ≤ w6.heap.size := by omega
  clear hs6
  have hz6 := hB6.size
  have M0_6 := M0_5.below (hB6.mono (by omega))
  have M1_6 := M1_5.below (hB6.mono (by omega))
  have M2_6 := M2_5.below (hB6.mono (by omega))
  have W_6 := W_5.below (hB6.mono (by omega))
  have X0_6 := X0_5.below hB6 X0_5.len.1 X0_5.len.2
  have HB6 := Lib.hid (HB5.out.trans (hB6.mono HB5.out.size))
  clear hB6 HB5 M0_5 M1_5 M2_5 W_5 X0_5
  go_wp2_with fail
  refine (toS_any _ _ _ _ _ M2_6 HF2.out (by omega)).mono ?_
  rintro e w7 ⟨rfl, hB7, hs7, X2_7⟩
  have hs7' : w6.heap.size + 1 ≤ w7.heap.size := by omega
  clear hs7
  have hz7 := hB7.size
  have M0_7 := M0_6.below (hB7.mono (by omega))
  have M1_7 := M1_6.below (hB7.mono (by omega))
  have M2_7 := M2_6.below (hB7.mono (by omega))
  have W_7 := W_6.below (hB7.mono (by omega))
  have X0_7 := X0_6.below hB7 X0_6.len.1 X0_6.len.2
  have X1_7 := X1_6.below hB7 X1_6.len.1 X1_6.len.2
  have HB7 := Lib.hid (HB6.out.trans (hB7.mono HB6.out.size))
  clear hB7 HB6 M0_6 M1_6 M2_6 W_6 X0_6 X1_6
  go_wp2_with fail
  refine (implFrom _ _ _ _ _ _ _ _ _ _ X0_7.size X1_7.size (X2_7.ints (n₀ := w7.heap.size) X2_7.lt) HF0.out HF1.out HF2.out).mono ?_
  rintro e w8 h8
  rw [HZ.out] at h8
  obtain ⟨b1, db1, ⟨rfl, hB8⟩, V_8⟩ := h8
  have hz8 := hB8.size
  have M0_8 := M0_7.below (hB8.mono (by omega))
  have M1_8 := M1_7.below (hB8.mono (by omega))
  have M2_8 := M2_7.below (hB8.mono (by omega))
  have W_8 := W_7.below (hB8.mono (by omega))
  have X0_8 := X0_7.below hB8 X0_7.len.1 X0_7.len.2
  have X1_8 := X1_7.below hB8 X1_7.len.1 X1_7.len.2
  have X2_8 := X2_7.below hB8 X2_7.lt
  have HB8 := Lib.hid (HB7.out.trans (hB8.mono HB7.out.size))
  clear hB8 HB7 M0_7 M1_7 M2_7 W_7 X0_7 X1_7 X2_7
  go_wp2_with fail
  refine (eqS_same _ _ _ _ _ _ _ (own_intsQ V_8) (W_8.more (by omega)) HZL.out).mono ?_
  rintro e w9 h9
  obtain ⟨rfl, hB9⟩ := h9.below
  clear h9
  have hz9 := hB9.size
  have M0_9 := M0_8.below (hB9.mono (by omega))
  have M1_9 := M1_8.below (hB9.mono (by omega))
  have M2_9 := M2_8.below (hB9.mono (by omega))
  have W_9 := W_8.below (hB9.mono (by omega))
  have X0_9 := X0_8.below hB9 X0_8.len.1 X0_8.len.2
  have X1_9 := X1_8.below hB9 X1_8.len.1 X1_8.len.2
  have X2_9 := X2_8.below hB9 X2_8.lt
  have V_9 := ownsRow_below V_8 hB9
  have HB9 := Lib.hid (HB8.out.trans (hB9.mono HB8.out.size))
  clear hB9 HB8 M0_8 M1_8 M2_8 W_8 X0_8 X1_8 X2_8 V_8
  -- the arguments are as they were
  go_wp2_with fail
  refine (toSS_any _ _ _ _ _ M0_9 HF0.out (by omega)).mono ?_
  rintro e w10 ⟨rfl, hB10, -, Y0_10⟩
  have hz10 := hB10.size
  have M0_10 := M0_9.below (hB10.mono (by omega))
  have M1_10 := M1_9.below (hB10.mono (by omega))
  have M2_10 := M2_9.below (hB10.mono (by omega))
  have W_10 := W_9.below (hB10.mono (by omega))
  have X0_10 := X0_9.below hB10 X0_9.len.1 X0_9.len.2
  have X1_10 := X1_9.below hB10 X1_9.len.1 X1_9.len.2
  have X2_10 := X2_9.below hB10 X2_9.lt
  have V_10 := ownsRow_below V_9 hB10
  have HB10 := Lib.hid (HB9.out.trans (hB10.mono HB9.out.size))
  clear hB10 HB9 M0_9 M1_9 M2_9 W_9 X0_9 X1_9 X2_9 V_9
  go_wp2_with fail
  refine (eqSS_same _ _ _ _ _ _ _ X0_10.size Y0_10.size HF0.out).mono ?_
  rintro e w11 h11
  obtain ⟨rfl, hB11⟩ := h11.below
  clear h11
  have hz11 := hB11.size
  have M0_11 := M0_10.below (hB11.mono (by omega))
  have M1_11 := M1_10.below (hB11.mono (by omega))
  have M2_11 := M2_10.below (hB11.mono (by omega))
  have W_11 := W_10.below (hB11.mono (by omega))
  have X0_11 := X0_10.below hB11 X0_10.len.1 X0_10.len.2
  have X1_11 := X1_10.below hB11 X1_10.len.1 X1_10.len.2
  have X2_11 := X2_10.below hB11 X2_10.lt
  have V_11 := ownsRow_below V_10 hB11
  have HB11 := Lib.hid (HB10.out.trans (hB11.mono HB10.out.size))
  clear hB11 HB10 M0_10 M1_10 M2_10 W_10 X0_10 X1_10 X2_10 V_10 Y0_10
  go_wp2_with fail
  refine (toSS_any _ _ _ _ _ M1_11 HF1.out (by omega)).mono ?_
  rintro e w12 ⟨rfl, hB12, -, Y1_12⟩
  have hz12 := hB12.size
  have M0_12 := M0_11.below (hB12.mono (by omega))
  have M1_12 := M1_11.below (hB12.mono (by omega))
  have M2_12 := M2_11.below (hB12.mono (by omega))
  have W_12 := W_11.below (hB12.mono (by omega))
  have X0_12 := X0_11.below hB12 X0_11.len.1 X0_11.len.2
  have X1_12 := X1_11.below hB12 X1_11.len.1 X1_11.len.2
  have X2_12 := X2_11.below hB12 X2_11.lt
  have V_12 := ownsRow_below V_11 hB12
  have HB12 := Lib.hid (HB11.out.trans (hB12.mono HB11.out.size))
  clear hB12 HB11 M0_11 M1_11 M2_11 W_11 X0_11 X1_11 X2_11 V_11
  go_wp2_with fail
  refine (eqSS_same _ _ _ _ _ _ _ X1_12.size Y1_12.size HF1.out).mono ?_
  rintro e w13 h13
  obtain ⟨rfl, hB13⟩ := h13.below
  clear h13
  have hz13 := hB13.size
  have M0_13 := M0_12.below (hB13.mono (by omega))
  have M1_13 := M1_12.below (hB13.mono (by omega))
  have M2_13 := M2_12.below (hB13.mono (by omega))
  have W_13 := W_12.below (hB13.mono (by omega))
  have X0_13 := X0_12.below hB13 X0_12.len.1 X0_12.len.2
  have X1_13 := X1_12.below hB13 X1_12.len.1 X1_12.len.2
  have X2_13 := X2_12.below hB13 X2_12.lt
  have V_13 := ownsRow_below V_12 hB13
  have HB13 := Lib.hid (HB12.out.trans (hB13.mono HB12.out.size))
  clear hB13 HB12 M0_12 M1_12 M2_12 W_12 X0_12 X1_12 X2_12 V_12 Y1_12
  go_wp2_with fail
  refine (toS_any _ _ _ _ _ M2_13 HF2.out (by omega)).mono ?_
  rintro e w14 ⟨rfl, hB14, -, Y2_14⟩
  have hz14 := hB14.size
  have M0_14 := M0_13.below (hB14.mono (by omega))
  have M1_14 := M1_13.below (hB14.mono (by omega))
  have M2_14 := M2_13.below (hB14.mono (by omega))
  have W_14 := W_13.below (hB14.mono (by omega))
  have X0_14 := X0_13.below hB14 X0_13.len.1 X0_13.len.2
  have X1_14 := X1_13.below hB14 X1_13.len.1 X1_13.len.2
  have X2_14 := X2_13.below hB14 X2_13.lt
  have V_14 := ownsRow_below V_13 hB14
  have HB14 := Lib.hid (HB13.out.trans (hB14.mono HB13.out.size))
  clear hB14 HB13 M0_13 M1_13 M2_13 W_13 X0_13 X1_13 X2_13 V_13
  go_wp2_with fail
  refine (eqS_same _ _ _ _ _ _ _ (X2_14.ints (n₀ := w14.heap.size) X2_14.lt) (Y2_14.ints (n₀ := w14.heap.size) Y2_14.lt) HF2.out).mono ?_
  rintro e w15 h15
  obtain ⟨rfl, hB15⟩ := h15.below
  clear h15
  have hz15 := hB15.size
  have M0_15 := M0_14.below (hB15.mono (by omega))
  have M1_15 := M1_14.below (hB15.mono (by omega))
  have M2_15 := M2_14.below (hB15.mono (by omega))
  have W_15 := W_14.below (hB15.mono (by omega))
  have X0_15 := X0_14.below hB15 X0_14.len.1 X0_14.len.2
  have X1_15 := X1_14.below hB15 X1_14.len.1 X1_14.len.2
  have X2_15 := X2_14.below hB15 X2_14.lt
  have V_15 := ownsRow_below V_14 hB15
  have HB15 := Lib.hid (HB14.out.trans (hB15.mono HB14.out.size))
  clear hB15 HB14 M0_14 M1_14 M2_14 W_14 X0_14 X1_14 X2_14 V_14 Y2_14
  -- the arguments' copies are marked: the answer stays
  have htt0 := tot_le HF0.out x0.length (Nat.le_refl _)
  rw [tot_all] at htt0
  have htm0 : x0.length * 1048576 ≤ 1048576 * 1048576 := Nat.mul_le_mul hlf0 (Nat.le_refl _)
  go_wp2_with fail
  refine (markSS_huge _ _ 1 _ _ _ X0_15 HF0.out (fun i j h => by have h' : w4.heap.size + 1 + i = w4.heap.size + 1 + j := h; omega) (by omega)).mono ?_
  rintro e w16 ⟨he16, -, ht16⟩
  obtain ⟨k0, hk0⟩ : ∃ k0, k0 = 1 + tot x0 := ⟨_, rfl⟩
  rw [← hk0] at he16
  subst he16
  have hqk0 : k0 ≤ 1099511627777 := by omega
  clear hk0
  have hS16 : ∀ B, (∃ i, i < x0.length ∧ B = w4.heap.size + 1 + i) → w4.heap.size ≤ B ∧ B < w5.heap.size := fun B s => by obtain ⟨i, hi, rfl⟩ := s; constructor <;> omega
  have M0_16 := ht16.mat M0_15 fun B s => by have := hS16 B s; omega
  have M1_16 := ht16.mat M1_15 fun B s => by have := hS16 B s; omega
  have M2_16 := ht16.ints M2_15 fun B s => by have := hS16 B s; omega
  have W_16 := ht16.ints W_15 fun B s => by have := hS16 B s; omega
  have X1_16 := ht16.own X1_15 (fun s => by have := hS16 _ s; omega) (fun i hi s => by have h' := hS16 (w5.heap.size + 1 + i) s; omega)
  have X2_16 := ht16.rowI' X2_15 fun s => by have := hS16 _ s; omega
  have V_16 := own_blockQ V_15 (fun g hg => ht16.block g (fun s => by have h1 := (V_15.lt g hg).1; have h2 := hS16 g s; omega))
  have hz16 : w15.heap.size ≤ w16.heap.size := by rw [ht16.size]; exact Nat.le_refl _
  have HB16 := Lib.hid (HB15.out.trans (ht16.below (n := w.heap.size) fun B s => by have := hS16 B s; omega))
  clear ht16 hS16 HB15 M0_15 M1_15 M2_15 W_15 X0_15 X1_15 X2_15 V_15
  clear htt0 htm0
  have htt1 := tot_le HF1.out x1.length (Nat.le_refl _)
  rw [tot_all] at htt1
  have htm1 : x1.length * 1048576 ≤ 1048576 * 1048576 := Nat.mul_le_mul hlf1 (Nat.le_refl _)
  go_wp2_with fail
  refine (markSS_huge _ _ k0 _ _ _ X1_16 HF1.out (fun i j h => by have h' : w5.heap.size + 1 + i = w5.heap.size + 1 + j := h; omega) (by omega)).mono ?_
  rintro e w17 ⟨he17, -, ht17⟩
  obtain ⟨k1, hk1⟩ : ∃ k1, k1 = k0 + tot x1 := ⟨_, rfl⟩
  rw [← hk1] at he17
  subst he17
  have hqk1 : k1 ≤ 2199023255553 := by omega
  clear hk1
  have hS17 : ∀ B, (∃ i, i < x1.length ∧ B = w5.heap.size + 1 + i) → w5.heap.size ≤ B ∧ B < w6.heap.size := fun B s => by obtain ⟨i, hi, rfl⟩ := s; constructor <;> omega
  have M0_17 := ht17.mat M0_16 fun B s => by have := hS17 B s; omega
  have M1_17 := ht17.mat M1_16 fun B s => by have := hS17 B s; omega
  have M2_17 := ht17.ints M2_16 fun B s => by have := hS17 B s; omega
  have W_17 := ht17.ints W_16 fun B s => by have := hS17 B s; omega
  have X2_17 := ht17.rowI' X2_16 fun s => by have := hS17 _ s; omega
  have V_17 := own_blockQ V_16 (fun g hg => ht17.block g (fun s => by have h1 := (V_16.lt g hg).1; have h2 := hS17 g s; omega))
  have hz17 : w16.heap.size ≤ w17.heap.size := by rw [ht17.size]; exact Nat.le_refl _
  have HB17 := Lib.hid (HB16.out.trans (ht17.below (n := w.heap.size) fun B s => by have := hS17 B s; omega))
  clear ht17 hS17 HB16 M0_16 M1_16 M2_16 W_16 X1_16 X2_16 V_16
  clear htt1 htm1
  go_wp2_with fail
  refine (markS_any _ _ k1 _ _ X2_17 HF2.out (by omega)).mono ?_
  rintro e w18 ⟨he18, -, ht18⟩
  obtain ⟨k2, hk2⟩ : ∃ k2, k2 = k1 + x2.length := ⟨_, rfl⟩
  rw [← hk2] at he18
  subst he18
  have hqk2 : k2 ≤ 3298534883329 := by omega
  clear hk2
  have hS18 : ∀ B, B = w6.heap.size → w6.heap.size ≤ B ∧ B < w7.heap.size := fun B s => by subst s; constructor <;> omega
  have M0_18 := ht18.mat M0_17 fun B s => by have := hS18 B s; omega
  have M1_18 := ht18.mat M1_17 fun B s => by have := hS18 B s; omega
  have M2_18 := ht18.ints M2_17 fun B s => by have := hS18 B s; omega
  have W_18 := ht18.ints W_17 fun B s => by have := hS18 B s; omega
  have V_18 := own_blockQ V_17 (fun g hg => ht18.block g (fun s => by have h1 := (V_17.lt g hg).1; have h2 := hS18 g s; omega))
  have hz18 : w17.heap.size ≤ w18.heap.size := by rw [ht18.size]; exact Nat.le_refl _
  have HB18 := Lib.hid (HB17.out.trans (ht18.below (n := w.heap.size) fun B s => by have := hS18 B s; omega))
  clear ht18 hS18 HB17 M0_17 M1_17 M2_17 W_17 X2_17 V_17
  go_wp2_with fail
  refine (eqS_same _ _ _ _ _ _ _ (own_intsQ V_18) (W_18.more (by omega)) HZL.out).mono ?_
  rintro e w19 h19
  obtain ⟨rfl, hB19⟩ := h19.below
  clear h19
  have hz19 := hB19.size
  have M0_19 := M0_18.below (hB19.mono (by omega))
  have M1_19 := M1_18.below (hB19.mono (by omega))
  have M2_19 := M2_18.below (hB19.mono (by omega))
  have W_19 := W_18.below (hB19.mono (by omega))
  have V_19 := ownsRow_below V_18 hB19
  have HB19 := Lib.hid (HB18.out.trans (hB19.mono HB18.out.size))
  clear hB19 HB18 M0_18 M1_18 M2_18 W_18 V_18
  -- the answer is marked, and held
  go_wp2_with fail
  refine (markO_anyQ _ _ 1 _ _ V_19 HZL.out (by omega)).mono ?_
  rintro e w20 ⟨he20, U_20, ht20⟩
  obtain ⟨q9, hq9⟩ : ∃ q9, q9 = 1 + zs.length := ⟨_, rfl⟩
  rw [← hq9] at he20
  subst he20
  have HQ9 := Lib.hid hq9
  clear hq9
  have hS20 : ∀ B, (Value.slice b1 zs.length db1).ownBlock = some B → w7.heap.size ≤ B := fun B s => (V_19.lt B s).1
  have M0_20 := ht20.mat M0_19 fun B s => by have := hS20 B s; omega
  have M1_20 := ht20.mat M1_19 fun B s => by have := hS20 B s; omega
  have M2_20 := ht20.ints M2_19 fun B s => by have := hS20 B s; omega
  have W_20 := ht20.ints W_19 fun B s => by have := hS20 B s; omega
  have hz20 : w19.heap.size ≤ w20.heap.size := by rw [ht20.size]; exact Nat.le_refl _
  have HB20 := Lib.hid (HB19.out.trans (ht20.below (n := w.heap.size) fun B s => by have := hS20 B s; omega))
  clear ht20 hS20 HB19 M0_19 M1_19 M2_19 W_19 V_19
  have hqq : ((q9 : Int) != (q9 : Int)) = false := by simp
  go_wp2_with fail
  refine (heldS_any _ _ 1 _ _ _ (own_intsN_U22 (seqL_length 1 zs.length) U_20) HZL.out (by omega)).mono ?_
  rw [← HQ9.out]
  rintro e wq ⟨rfl, rfl⟩
  -- another call's answer does not share it
  go_wp2_with fail
  refine (toSS_any _ _ _ _ _ M0_20 HF0.out (by omega)).mono ?_
  rintro e w21 ⟨rfl, hB21, -, A0_21⟩
  have hz21 := hB21.size
  have M0_21 := M0_20.below (hB21.mono (by omega))
  have M1_21 := M1_20.below (hB21.mono (by omega))
  have M2_21 := M2_20.below (hB21.mono (by omega))
  have W_21 := W_20.below (hB21.mono (by omega))
  have U_21 := ownsRow_below U_20 hB21
  have HB21 := Lib.hid (HB20.out.trans (hB21.mono HB20.out.size))
  clear hB21 HB20 M0_20 M1_20 M2_20 W_20 U_20
  go_wp2_with fail
  refine (toSS_any _ _ _ _ _ M1_21 HF1.out (by omega)).mono ?_
  rintro e w22 ⟨rfl, hB22, -, A1_22⟩
  have hz22 := hB22.size
  have M0_22 := M0_21.below (hB22.mono (by omega))
  have M1_22 := M1_21.below (hB22.mono (by omega))
  have M2_22 := M2_21.below (hB22.mono (by omega))
  have W_22 := W_21.below (hB22.mono (by omega))
  have U_22 := ownsRow_below U_21 hB22
  have A0_22 := A0_21.below hB22 A0_21.len.1 A0_21.len.2
  have HB22 := Lib.hid (HB21.out.trans (hB22.mono HB21.out.size))
  clear hB22 HB21 M0_21 M1_21 M2_21 W_21 U_21 A0_21
  go_wp2_with fail
  refine (toS_any _ _ _ _ _ M2_22 HF2.out (by omega)).mono ?_
  rintro e w23 ⟨rfl, hB23, -, A2_23⟩
  have hz23 := hB23.size
  have M0_23 := M0_22.below (hB23.mono (by omega))
  have M1_23 := M1_22.below (hB23.mono (by omega))
  have M2_23 := M2_22.below (hB23.mono (by omega))
  have W_23 := W_22.below (hB23.mono (by omega))
  have U_23 := ownsRow_below U_22 hB23
  have A0_23 := A0_22.below hB23 A0_22.len.1 A0_22.len.2
  have A1_23 := A1_22.below hB23 A1_22.len.1 A1_22.len.2
  have HB23 := Lib.hid (HB22.out.trans (hB23.mono HB22.out.size))
  clear hB23 HB22 M0_22 M1_22 M2_22 W_22 U_22 A0_22 A1_22
  go_wp2_with fail
  refine (implFrom _ _ _ _ _ _ _ _ _ _ A0_23.size A1_23.size (A2_23.ints (n₀ := w23.heap.size) A2_23.lt) HF0.out HF1.out HF2.out).mono ?_
  rintro e w24 h24
  rw [HZ.out] at h24
  obtain ⟨b2, db2, ⟨rfl, hB24⟩, Z_24⟩ := h24
  have hz24 := hB24.size
  have W_24 := W_23.below (hB24.mono (by omega))
  have U_24 := ownsRow_below U_23 hB24
  have HB24 := Lib.hid (HB23.out.trans (hB24.mono HB23.out.size))
  clear hB24 HB23 M0_23 M1_23 M2_23 W_23 U_23 A0_23 A1_23 A2_23
  go_wp2_with fail
  refine (eqS_same _ _ _ _ _ _ _ (own_intsQ Z_24) (W_24.more (by omega)) HZL.out).mono ?_
  rintro e w25 h25
  obtain ⟨rfl, hB25⟩ := h25.below
  clear h25
  have hz25 := hB25.size
  have W_25 := W_24.below (hB25.mono (by omega))
  have U_25 := ownsRow_below U_24 hB25
  have Z_25 := ownsRow_below Z_24 hB25
  have HB25 := Lib.hid (HB24.out.trans (hB25.mono HB24.out.size))
  clear hB25 HB24 W_24 U_24 Z_24
  go_wp2_with fail
  refine (heldS_any _ _ 1 _ _ _ (own_intsN_U22 (seqL_length 1 zs.length) U_25) HZL.out (by omega)).mono ?_
  rw [← HQ9.out]
  rintro e wq ⟨rfl, rfl⟩
  go_wp2_with fail
  go_ret
  exact ⟨rfl, HB25.out⟩

end Go.Proofs.Ytdolpkjighbohaa
