/-
  The walk of the exact law of TestAt.
-/
import Derived.Test.YtdaoifpmmgfpbaaZA
import Derived.Test.YtdaoifpmmgfpbaaZI
import Derived.Test.YtdaoifpmmgfpbaaZB
import Derived.Test.YtdaoifpmmgfpbaaXE
import Derived.Test.YtdaoifpmmgfpbaaKM
import Derived.Test.YtdaoifpmmgfpbaaN3a
namespace Go.Proofs.Ytdaoifpmmgfpbaa
open Go.RowKit Go.Shelf

set_option maxRecDepth 100000 in
set_option maxHeartbeats 8000000 in
theorem exTestAt_any (x0 : Int) (w : World)  :
    Calls Try.prog 8 #[.int .i64 x0] w (Ans (.bool true) w) := by
  obtain ⟨zs, HZ, HZL⟩ : ∃ zs, Hid (tstI x0 = zs) ∧ Hid (Fit zs) := ⟨_, rfl, tst_fit⟩
  have hzl := HZL.out.1
  go_enter Try.func8, Try.ntmps8
  have HB0 := Lib.hid (Below.refl w.heap.size w)
  -- the model's answer
  go_wp2_with fail
  refine (specTstR x0 _).mono ?_
  rintro e w1 h1
  rw [HZ.out] at h1
  obtain ⟨b0, db0, ⟨rfl, hB1⟩, W_1⟩ := h1
  have hz1 := hB1.size
  have HB1 := Lib.hid (HB0.out.trans (hB1.mono HB0.out.size))
  clear hB1 HB0 
  -- the program's answer
  go_wp2_with fail
  refine (implTst x0 _).mono ?_
  rintro e w2 h2
  rw [HZ.out] at h2
  obtain ⟨b1, db1, ⟨rfl, hB2⟩, V_2⟩ := h2
  have hz2 := hB2.size
  have W_2 := W_1.below (hB2.mono (by omega))
  have HB2 := Lib.hid (HB1.out.trans (hB2.mono HB1.out.size))
  clear hB2 HB1 W_1
  go_wp2_with fail
  refine (eqSS_same _ _ _ _ _ _ _ V_2.mat.mat (W_2.more (by omega)) HZL.out).mono ?_
  rintro e w3 h3
  obtain ⟨rfl, hB3⟩ := h3.below
  clear h3
  have hz3 := hB3.size
  have W_3 := W_2.below (hB3.mono (by omega))
  have V_3 := V_2.below hB3
  have HB3 := Lib.hid (HB2.out.trans (hB3.mono HB2.out.size))
  clear hB3 HB2 W_2 V_2
  -- the arguments are as they were
  -- the arguments' copies are marked: the answer stays
  -- the answer is marked, and held
  go_wp2_with fail
  refine (markSep_any _ _ _ 1 _ _ V_3 HZL.out (by omega)).mono ?_
  rintro e w4 ⟨he4, U_4, ht4⟩
  obtain ⟨q9, hq9⟩ : ∃ q9, q9 = 1 + tot zs := ⟨_, rfl⟩
  rw [← hq9] at he4
  subst he4
  have HQ9 := Lib.hid hq9
  clear hq9
  have hS4 : ∀ B, w1.heap.size ≤ B → w1.heap.size ≤ B := fun B s => s
  have W_4 := ht4.mat W_3 fun B s => by have := hS4 B s; omega
  have hz4 : w3.heap.size ≤ w4.heap.size := by rw [ht4.size]; exact Nat.le_refl _
  have HB4 := Lib.hid (HB3.out.trans (ht4.below (n := w.heap.size) fun B s => by have := hS4 B s; omega))
  clear ht4 hS4 HB3 W_3 V_3
  have hqq : ((q9 : Int) != (q9 : Int)) = false := by simp
  go_wp2_with fail
  refine (heldSS_any _ _ 1 _ zs _ U_4.mat.mat HZL.out (by omega)).mono ?_
  rw [← HQ9.out]
  rintro e wq ⟨rfl, rfl⟩
  -- another call's answer does not share it
  go_wp2_with fail
  refine (implTst x0 _).mono ?_
  rintro e w5 h5
  rw [HZ.out] at h5
  obtain ⟨b2, db2, ⟨rfl, hB5⟩, Z_5⟩ := h5
  have hz5 := hB5.size
  have W_5 := W_4.below (hB5.mono (by omega))
  have U_5 := U_4.below hB5
  have HB5 := Lib.hid (HB4.out.trans (hB5.mono HB4.out.size))
  clear hB5 HB4 W_4 U_4
  go_wp2_with fail
  refine (eqSS_same _ _ _ _ _ _ _ Z_5.mat.mat (W_5.more (by omega)) HZL.out).mono ?_
  rintro e w6 h6
  obtain ⟨rfl, hB6⟩ := h6.below
  clear h6
  have hz6 := hB6.size
  have W_6 := W_5.below (hB6.mono (by omega))
  have U_6 := U_5.below hB6
  have Z_6 := Z_5.below hB6
  have HB6 := Lib.hid (HB5.out.trans (hB6.mono HB5.out.size))
  clear hB6 HB5 W_5 U_5 Z_5
  go_wp2_with fail
  refine (heldSS_any _ _ 1 _ zs _ U_6.mat.mat HZL.out (by omega)).mono ?_
  rw [← HQ9.out]
  rintro e wq ⟨rfl, rfl⟩
  go_wp2_with fail
  go_ret
  exact ⟨rfl, HB6.out⟩

end Go.Proofs.Ytdaoifpmmgfpbaa
