/-
  The model's MapsOf, CountOf, BelowOk, SameLevel.
-/
import Derived.Test.YtofpjepndhpciaaM7
import Derived.Test.YtofpjepndhpciaaM8
namespace Go.Proofs.Ytofpjepndhpciaa
open Go.RowKit Go.Shelf Go.Deep

set_option maxRecDepth 100000 in
set_option maxHeartbeats 1000000 in
theorem specMapsOfO (a : Option Addr) (c : Nat) (a' : Option Addr) (c' : Nat) (G H : List (List Int)) (n₀ : Nat) (w : World) (hM : Mat n₀ w a G) (hM' : Mat n₀ w a' H) (hn : n₀ ≤ w.heap.size) (hf : Fit G) (hf' : Fit H) :
    Calls Try.prog 65 #[.slice a G.length c, .slice a' H.length c'] w (MadeO (mapsL G H) w) := by
  have HF := Lib.hid hf
  have HF' := Lib.hid hf'
  clear hf hf'
  obtain ⟨zs, HZ⟩ : ∃ zs, Hid (mapsL G H = zs) := ⟨_, rfl⟩
  rw [HZ.out]
  by_cases hg : fewI G H = true
  · go_enter Try.func65, Try.ntmps65
    go_wp2_with fail
    refine (specFew _ _ _ _ _ _ _ _ hM hM' HF.out HF'.out).mono ?_
    rw [hg]
    rintro e wq ⟨rfl, rfl⟩
    go_wp2_with fail
    refine (specMapsO _ _ _ _ _ _ _ _ hM hM' hn hg).mono ?_
    rw [HZ.out]
    rintro e w1 ⟨a1, c1, ⟨rfl, hB1⟩, hR⟩
    go_wp2_with fail
    go_ret
    exact ⟨a1, c1, ⟨rfl, hB1⟩, hR⟩
  · have hn' : fewI G H = false := by simpa using hg
    have h0 : zs = [] := HZ.out.symm.trans (mapsL_no hn')
    subst h0
    clear hg
    go_enter Try.func65, Try.ntmps65
    go_wp2_with fail
    refine (specFew _ _ _ _ _ _ _ _ hM hM' HF.out HF'.out).mono ?_
    rw [hn']
    rintro e wq ⟨rfl, rfl⟩
    go_wp2_with fail
    go_ret
    exact ⟨_, _, ⟨rfl, (Below.refl _ w).alloc (Nat.le_refl _) _⟩, OwnMat.start w (Nat.le_refl _)⟩

theorem specMapsOf (a : Option Addr) (c : Nat) (a' : Option Addr) (c' : Nat) (G H : List (List Int)) (n₀ : Nat) (w : World) (hM : Mat n₀ w a G) (hM' : Mat n₀ w a' H) (hn : n₀ ≤ w.heap.size) (hf : Fit G) (hf' : Fit H) :
    Calls Try.prog 65 #[.slice a G.length c, .slice a' H.length c'] w (ReadM (mapsL G H) w) :=
  (specMapsOfO a c a' c' G H n₀ w hM hM' hn hf hf').mono fun _ _ ⟨a, c, h1, h2⟩ => ⟨a, c, h1, h2.mat⟩

end Go.Proofs.Ytofpjepndhpciaa
