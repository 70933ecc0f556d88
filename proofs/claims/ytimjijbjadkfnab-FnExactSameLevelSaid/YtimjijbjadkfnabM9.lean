/-
  The model's MapsOf, CountOf, BelowOk, SameLevel.
-/
import Derived.Test.YtimjijbjadkfnabM7
import Derived.Test.YtimjijbjadkfnabM8
namespace Go.Proofs.Ytimjijbjadkfnab
open Go.RowKit Go.Shelf Go.Deep

set_option maxRecDepth 100000 in
set_option maxHeartbeats 1000000 in
theorem specMapsOfO (a : Option Addr) (c : Nat) (a' : Option Addr) (c' : Nat) (G H : List (List Int)) (n₀ : Nat) (w : World) (hM : Mat n₀ w a G) (hM' : Mat n₀ w a' H) (hn : n₀ ≤ w.heap.size) (hf : Fit G) (hf' : Fit H) :
    Calls Try.prog 22 #[.slice a G.length c, .slice a' H.length c'] w (MadeO (mapsL G H) w) := by
  have HF := Lib.hid hf
  have HF' := Lib.hid hf'
  clear hf hf'
  obtain ⟨zs, HZ⟩ : ∃ zs, Hid (mapsL G H = zs) := ⟨_, rfl⟩
  rw [HZ.out]
  by_cases hg : fewI G H = true
  · go_enter Try.func22, Try.ntmps22
    go_wp2_with fail
    refine (specFew _ _ _ _ _ _ _ _ hM hM' HF.out HF'.out).mono ?_
    rw [hg]
    rintro e wq ⟨rfl, rfl⟩
    go_wp2_with fail
    refine (specMapsO _ _ _ _ _ _ _ _ hM hM' hn hg).mono ?_
    rw [HZ.out]
    rintro e w1 ⟨a1, c1, ⟨rfl, hB1⟩, hR⟩
    go_wp2_with fail
    go_ret
    exact ⟨a1, c1, ⟨rfl, hB1⟩, hR⟩
  · have hn' : fewI G H = false := by simpa using hg
    have h0 : zs = [] := HZ.out.symm.trans (mapsL_no hn')
    subst h0
    clear hg
    go_enter Try.func22, Try.ntmps22
    go_wp2_with fail
    refine (specFew _ _ _ _ _ _ _ _ hM hM' HF.out HF'.out).mono ?_
    rw [hn']
    rintro e wq ⟨rfl, rfl⟩
    go_wp2_with fail
    go_ret
    exact ⟨_, _, ⟨rfl, (Below.refl _ w).alloc (Nat.le_refl _) _⟩, OwnMat.start w (Nat.le_refl _)⟩

theorem specMapsOf (a : Option Addr) (c : Nat) (a' : Option Addr) (c' : Nat) (G H : List (List Int)) (n₀ : Nat) (w : World) (hM : Mat n₀ w a G) (hM' : Mat n₀ w a' H) (hn : n₀ ≤ w.heap.size) (hf : Fit G) (hf' : Fit H) :
    Calls Try.prog 22 #[.slice a G.length c, .slice a' H.length c'] w (ReadM (mapsL G H) w) :=
  (specMapsOfO a c a' c' G H n₀ w hM hM' hn hf hf').mono fun _ _ ⟨a, c, h1, h2⟩ => ⟨a, c, h1, h2.mat⟩

set_option maxRecDepth 100000 in
set_option maxHeartbeats 1000000 in
theorem specCount (a : Option Addr) (c : Nat) (a' : Option Addr) (c' : Nat) (G H : List (List Int)) (n₀ : Nat) (w : World) (hM : Mat n₀ w a G) (hM' : Mat n₀ w a' H) (hn : n₀ ≤ w.heap.size) (hf : Fit G) (hf' : Fit H) :
    Calls Try.prog 26 #[.slice a G.length c, .slice a' H.length c'] w (Ans (.int .i64 (countI G H)) w) := by
  have HF := Lib.hid hf
  have HF' := Lib.hid hf'
  clear hf hf'
  obtain ⟨z, HZ⟩ : ∃ z, Hid (countI G H = z) := ⟨_, rfl⟩
  rw [HZ.out]
  by_cases hg : fewI G H = true
  · obtain ⟨zs, hzs⟩ : ∃ zs, mapsL G H = zs := ⟨_, rfl⟩
    have HZS := Lib.hid hzs
    have HC : Hid (z = (zs.length : Int)) := Lib.hid (by rw [← HZ.out, countI_yes hg, hzs])
    clear hzs
    go_enter Try.func26, Try.ntmps26
    go_wp2_with fail
    refine (specFew _ _ _ _ _ _ _ _ hM hM' HF.out HF'.out).mono ?_
    rw [hg]
    rintro e wq ⟨rfl, rfl⟩
    go_wp2_with fail
    refine (specMaps _ _ _ _ _ _ _ _ hM hM' hn hg).mono ?_
    rw [HZS.out]
    rintro e w1 ⟨a1, c1, ⟨rfl, hB1⟩, hR⟩
    clear hR
    go_wp2_with fail
    go_ret
    exact ⟨ret_int HC.out.symm, hB1⟩
  · have hn' : fewI G H = false := by simpa using hg
    have HC : Hid (z = -1) := Lib.hid (by rw [← HZ.out, countI_no hn'])
    clear hg
    go_enter Try.func26, Try.ntmps26
    go_wp2_with fail
    refine (specFew _ _ _ _ _ _ _ _ hM hM' HF.out HF'.out).mono ?_
    rw [hn']
    rintro e wq ⟨rfl, rfl⟩
    go_wp2_with fail
    go_ret
    exact ⟨ret_int HC.out.symm, Below.refl _ _⟩

set_option maxRecDepth 100000 in
set_option maxHeartbeats 1000000 in
theorem specBelow (a : Option Addr) (c : Nat) (a' : Option Addr) (c' : Nat) (G H : List (List Int)) (n₀ : Nat) (w : World) (hM : Mat n₀ w a G) (hM' : Mat n₀ w a' H) (hn : n₀ ≤ w.heap.size) (hf : Fit G) (hf' : Fit H) :
    Calls Try.prog 28 #[.slice a G.length c, .slice a' H.length c'] w (Ans (.bool (belowI G H)) w) := by
  have HC := Lib.hid (specCount a c a' c' G H n₀ w hM hM' hn hf hf')
  rw [← belowI_count]
  obtain ⟨z, hz⟩ : ∃ z, countI G H = z := ⟨_, rfl⟩
  have HZ := Lib.hid hz
  have hz0 : -1 ≤ z := by rw [← hz]; unfold countI; split <;> omega
  have hz1 : z ≤ 7000 := by
    rw [← hz]
    unfold countI
    split
    · have := mapsL_le G H; omega
    · omega
  rw [hz]
  clear hz hM hM' hf hf'
  go_enter Try.func28, Try.ntmps28
  go_wp2_with fail
  refine HC.out.mono ?_
  rw [HZ.out]
  rintro e w1 ⟨rfl, hB1⟩
  go_wp2_with fail
  go_ret
  exact ⟨ret_bool (by simp), hB1⟩

set_option maxRecDepth 100000 in
set_option maxHeartbeats 1000000 in
theorem specLevel (a : Option Addr) (c : Nat) (a' : Option Addr) (c' : Nat) (G H : List (List Int)) (n₀ : Nat) (w : World) (hM : Mat n₀ w a G) (hM' : Mat n₀ w a' H) (hn : n₀ ≤ w.heap.size) (hf : Fit G) (hf' : Fit H) :
    Calls Try.prog 29 #[.slice a G.length c, .slice a' H.length c'] w (Ans (.bool (levelI G H)) w) := by
  have HF := Lib.hid hf
  have HF' := Lib.hid hf'
  clear hf hf'
  obtain ⟨x, hx⟩ : ∃ x, belowI G H = x := ⟨_, rfl⟩
  obtain ⟨y, hy⟩ : ∃ y, belowI H G = y := ⟨_, rfl⟩
  have HX := Lib.hid hx
  have HY := Lib.hid hy
  have e : levelI G H = (x && y) := by unfold levelI; rw [hx, hy]
  rw [e]
  clear hx hy e
  go_enter Try.func29, Try.ntmps29
  go_wp2_with fail
  refine (specBelow _ _ _ _ _ _ _ _ hM hM' hn HF.out HF'.out).mono ?_
  rw [HX.out]
  rintro e w1 ⟨rfl, hB1⟩
  have hz1 := hB1.size
  have hM1 := hM.below (hB1.mono hn)
  have hM1' := hM'.below (hB1.mono hn)
  clear hM hM'
  cases x with
  | false =>
    go_wp2_with fail
    go_ret
    exact ⟨rfl, hB1⟩
  | true =>
    go_wp2_with fail
    refine (specBelow _ _ _ _ _ _ _ _ hM1' hM1 (by omega) HF'.out HF.out).mono ?_
    rw [HY.out]
    rintro e w2 ⟨rfl, hB2⟩
    go_wp2_with fail
    go_ret
    exact ⟨ret_bool (by simp), hB1.trans (hB2.mono hz1)⟩

end Go.Proofs.Ytimjijbjadkfnab
