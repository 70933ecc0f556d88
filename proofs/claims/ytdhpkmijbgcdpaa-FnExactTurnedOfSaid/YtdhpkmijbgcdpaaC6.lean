/-
  The walk of the exact law of TurnedOf.
-/
import Derived.Test.YtdhpkmijbgcdpaaA1
import Derived.Test.YtdhpkmijbgcdpaaG1
import Derived.Test.YtdhpkmijbgcdpaaG2
namespace Go.Proofs.Ytdhpkmijbgcdpaa
open Go.RowKit Go.Shelf

set_option maxRecDepth 100000 in
set_option maxHeartbeats 4000000 in
theorem exTurnedOf_any (a : Option Addr) (c : Nat) (xss : List (List Int)) (w : World) (hM : Mat w.heap.size w a xss) (hl : xss.length ≤ 9223372036854775807) (hr : ∀ xs ∈ xss, xs.length ≤ 9223372036854775807) :
    Calls Try.prog 11 #[.slice a xss.length c] w (Ans (.bool true) w) := by
  have Hr : Hid (∀ xs ∈ xss, xs.length ≤ 9223372036854775807) := hr
  clear hr
  go_enter Try.func11, Try.ntmps11
  go_wp2_with fail
  refine (szSS_any _ _ _ _ _ hM hl Hr.out).mono ?_
  rintro e w1 ⟨r, ⟨rfl, rfl⟩, hfit⟩
  by_cases hr0 : r < 0
  · go_wp2_with fail
    go_ret
    exact ⟨rfl, Below.refl _ _⟩
  have hF := hfit (by omega)
  have HF := Lib.hid hF
  have hl2 := hF.1
  clear hF hfit
  -- the model's answer
  go_wp2_with fail
  refine (toSS_any _ _ _ _ _ hM HF.out (Nat.le_refl _)).mono ?_
  rintro e w1 ⟨rfl, hB1, -, hO1⟩
  have hM1 := hO1.size
  clear hO1
  go_wp2_with fail
  refine (specTurned _ _ _ _ _ hM1 (Nat.le_refl _) HF.out).mono ?_
  rintro e w2 ⟨a2, c2, ⟨rfl, hB2⟩, hW⟩
  have hB12 := hB1.trans (hB2.mono hB1.size)
  have hM2 := hM.below hB12
  have hz2 := hB12.size
  clear hM1 hB1 hB2
  -- the arguments, copied
  go_wp2_with fail
  refine (toSS_any _ _ _ _ _ hM2 HF.out hz2).mono ?_
  rintro e w3 ⟨rfl, hB3, hs3, hX⟩
  have hMx := hX.size
  -- the program's answer
  go_wp2_with fail
  refine (implTurned _ _ _ _ hMx HF.out).mono ?_
  rintro e w4 ⟨a4, c4, ⟨rfl, hB4⟩, hR⟩
  have hX4 := hX.below hB4 hX.len.1 hX.len.2
  have hM4 := (hM2.below (hB3.mono hz2)).below (hB4.mono (Nat.le_trans hz2 hB3.size))
  have hW4 := (hW.below hB3).below (hB4.mono hB3.size)
  have hz3 := hB3.size
  have hz4 := hB4.size
  have HB4 := Lib.hid (hB12.trans ((hB3.mono hz2).trans (hB4.mono (Nat.le_trans hz2 hz3))))
  clear hM2 hW hMx hX hB3 hB4 hB12
  have hG4 := hR.mat
  go_wp2_with fail
  refine (eqSS_same _ _ _ _ _ _ _ hG4 (hW4.more (Nat.le_trans hz3 hz4)) turned_fit).mono ?_
  rintro e w5 h5
  obtain ⟨rfl, hB5⟩ := h5.below
  have hX5 := hX4.below hB5 hX4.len.1 hX4.len.2
  have hM5 := hM4.below (hB5.mono (by omega))
  have hW5 := hW4.below (hB5.mono (by omega))
  have hR5 := hR.below hB5
  have hz5 := hB5.size
  have HB5 := Lib.hid (HB4.out.trans (hB5.mono HB4.out.size))
  clear hX4 hM4 hW4 hR hG4 h5 hB5 HB4
  -- the arguments are as they were
  go_wp2_with fail
  refine (toSS_any _ _ _ _ _ hM5 HF.out (by omega)).mono ?_
  rintro e w6 ⟨rfl, hB6, -, hO6⟩
  have hA6 := hO6.size
  have hX6 := hX5.below hB6 hX5.len.1 hX5.len.2
  have hM6 := hM5.below (hB6.mono (by omega))
  have hW6 := hW5.below (hB6.mono (by omega))
  have hR6 := hR5.below hB6
  have hz6 := hB6.size
  have HB6 := Lib.hid (HB5.out.trans (hB6.mono HB5.out.size))
  clear hO6 hX5 hM5 hW5 hR5 hB6 HB5
  go_wp2_with fail
  refine (eqSS_same _ _ _ _ _ _ _ hX6.size hA6 HF.out).mono ?_
  rintro e w7 h7
  obtain ⟨rfl, hB7⟩ := h7.below
  have hX7 := hX6.below hB7 hX6.len.1 hX6.len.2
  have hM7 := hM6.below (hB7.mono (by omega))
  have hW7 := hW6.below (hB7.mono (by omega))
  have hR7 := hR6.below hB7
  have hz7 := hB7.size
  have HB7 := Lib.hid (HB6.out.trans (hB7.mono HB6.out.size))
  clear hX6 hM6 hW6 hR6 hA6 h7 hB7 HB6
  -- the arguments' copies are marked: the answer stays
  have hs3' : w2.heap.size + 1 + xss.length ≤ w3.heap.size := by omega
  clear hs3
  go_wp2_with fail
  refine (markSS_any _ _ 1 _ _ _ hX7 HF.out (fun i j h => by have h' : w2.heap.size + 1 + i = w2.heap.size + 1 + j := h; omega) (by omega)).mono ?_
  rintro e w8 ⟨he8, -, ht8⟩
  obtain ⟨k8, hk8⟩ : ∃ k8, k8 = 1 + tot xss := ⟨_, rfl⟩
  rw [← hk8] at he8
  subst he8
  clear hk8
  have hS8 : ∀ B, (∃ i, i < xss.length ∧ B = w2.heap.size + 1 + i) → w2.heap.size ≤ B ∧ B < w3.heap.size := fun B s => by obtain ⟨i, hi, rfl⟩ := s; omega
  have hM8 := ht8.mat hM7 fun B s => by have := hS8 B s; omega
  have hW8 := ht8.mat hW7 fun B s => (hS8 B s).1
  have hR8 := ht8.ownR hR7 (fun B s => (hS8 B s).2) (Nat.le_refl _)
  have hz8 : w8.heap.size = w7.heap.size := ht8.size
  have HB8 := Lib.hid (HB7.out.trans (ht8.below (n := w.heap.size) fun B s => by have := hS8 B s; omega))
  have HS8 := Lib.hid hS8
  have hz8' : w7.heap.size ≤ w8.heap.size := by omega
  clear hX7 hM7 hW7 hR7 ht8 HB7 hS8 hz8
  go_wp2_with fail
  refine (eqSS_same _ _ _ _ _ _ _ hR8.mat (hW8.more (by omega)) turned_fit).mono ?_
  rintro e w9 h9
  obtain ⟨rfl, hB9⟩ := h9.below
  have hM9 := hM8.below (hB9.mono (by omega))
  have hW9 := hW8.below (hB9.mono (by omega))
  have hR9 := hR8.below hB9
  have hz9 := hB9.size
  have HB9 := Lib.hid (HB8.out.trans (hB9.mono HB8.out.size))
  clear hM8 hW8 hR8 h9 hB9 HB8
  -- the answer is marked, and held
  go_wp2_with fail
  refine (markR_any _ _ _ 1 _ _ hR9 turned_fit (by omega)).mono ?_
  rintro e w10 ⟨he10, hR10, ht10⟩
  obtain ⟨k10, hk10⟩ : ∃ k10, k10 = 1 + tot (turnedL xss) := ⟨_, rfl⟩
  rw [← hk10] at he10
  subst he10
  have HK10 := Lib.hid hk10
  clear hk10
  have hM10 := ht10.mat hM9 fun B s => by omega
  have hW10 := ht10.mat hW9 fun B s => by omega
  have hz10 : w9.heap.size ≤ w10.heap.size := by rw [ht10.size]; exact Nat.le_refl _
  have HB10 := Lib.hid (HB9.out.trans (ht10.below (n := w.heap.size) fun B s => by omega))
  have hkk : ((k10 : Int) != (k10 : Int)) = false := by simp
  clear hM9 hW9 hR9 ht10 HB9
  go_wp2_with fail
  refine (heldSS_any _ _ 1 _ _ _ hR10.mat turned_fit (by omega)).mono ?_
  rw [← HK10.out]
  rintro e w11 ⟨rfl, rfl⟩
  -- another call's answer does not share it
  go_wp2_with fail
  refine (toSS_any _ _ _ _ _ hM10 HF.out (by omega)).mono ?_
  rintro e w12 ⟨rfl, hB12', -, hO12⟩
  have hA12 := hO12.size
  have hW12 := hW10.below (hB12'.mono (by omega))
  have hR12 := hR10.below hB12'
  have hz12 := hB12'.size
  have HB12 := Lib.hid (HB10.out.trans (hB12'.mono HB10.out.size))
  clear hO12 hM10 hW10 hR10 hB12' HB10
  go_wp2_with fail
  refine (implTurned _ _ _ _ hA12 HF.out).mono ?_
  rintro e w13 ⟨a13, c13, ⟨rfl, hB13⟩, hR13⟩
  have hG13 := hR13.mat
  have hW13 := hW12.below (hB13.mono (by omega))
  have hO13 := hR12.below hB13
  have hz13 := hB13.size
  have HB13 := Lib.hid (HB12.out.trans (hB13.mono HB12.out.size))
  clear hA12 hW12 hR12 hR13 hB13 HB12
  go_wp2_with fail
  refine (eqSS_same _ _ _ _ _ _ _ hG13 (hW13.more (by omega)) turned_fit).mono ?_
  rintro e w14 h14
  obtain ⟨rfl, hB14⟩ := h14.below
  have hO14 := hO13.below hB14
  have HB14 := Lib.hid (HB13.out.trans (hB14.mono HB13.out.size))
  clear hG13 hW13 hO13 h14 hB14 HB13
  go_wp2_with fail
  refine (heldSS_any _ _ 1 _ _ _ hO14.mat turned_fit (by omega)).mono ?_
  rw [← HK10.out]
  rintro e w15 ⟨rfl, rfl⟩
  go_wp2_with fail
  go_ret
  exact ⟨rfl, HB14.out⟩

end Go.Proofs.Ytdhpkmijbgcdpaa
