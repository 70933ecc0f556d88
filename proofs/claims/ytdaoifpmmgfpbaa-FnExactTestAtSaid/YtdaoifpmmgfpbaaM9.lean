/-
  The model's MapsOf, CountOf, BelowOk, SameLevel.
-/
import Derived.Test.YtdaoifpmmgfpbaaM7
import Derived.Test.YtdaoifpmmgfpbaaM8
namespace Go.Proofs.Ytdaoifpmmgfpbaa
open Go.RowKit Go.Shelf Go.Deep

set_option maxRecDepth 100000 in
set_option maxHeartbeats 1000000 in
theorem specCount (a : Option Addr) (c : Nat) (a' : Option Addr) (c' : Nat) (G H : List (List Int)) (n₀ : Nat) (w : World) (hM : Mat n₀ w a G) (hM' : Mat n₀ w a' H) (hn : n₀ ≤ w.heap.size) (hf : Fit G) (hf' : Fit H) :
    Calls Try.prog 55 #[.slice a G.length c, .slice a' H.length c'] w (Ans (.int .i64 (countI G H)) w) := by
  have HF := Lib.hid hf
  have HF' := Lib.hid hf'
  clear hf hf'
  obtain ⟨z, HZ⟩ : ∃ z, Hid (countI G H = z) := ⟨_, rfl⟩
  rw [HZ.out]
  by_cases hg : fewI G H = true
  · obtain ⟨zs, hzs⟩ : ∃ zs, mapsL G H = zs := ⟨_, rfl⟩
    have HZS := Lib.hid hzs
    have HC : Hid (z = (zs.length : Int)) := Lib.hid (by rw [← HZ.out, countI_yes hg, hzs])
    clear hzs
    go_enter Try.func55, Try.ntmps55
    go_wp2_with fail
    refine (specFew _ _ _ _ _ _ _ _ hM hM' HF.out HF'.out).mono ?_
    rw [hg]
    rintro e wq ⟨rfl, rfl⟩
    go_wp2_with fail
    refine (specMaps _ _ _ _ _ _ _ _ hM hM' hn hg).mono ?_
    rw [HZS.out]
    rintro e w1 ⟨a1, c1, ⟨rfl, hB1⟩, hR⟩
    clear hR
    go_wp2_with fail
    go_ret
    exact ⟨ret_int HC.out.symm, hB1⟩
  · have hn' : fewI G H = false := by simpa using hg
    have HC : Hid (z = -1) := Lib.hid (by rw [← HZ.out, countI_no hn'])
    clear hg
    go_enter Try.func55, Try.ntmps55
    go_wp2_with fail
    refine (specFew _ _ _ _ _ _ _ _ hM hM' HF.out HF'.out).mono ?_
    rw [hn']
    rintro e wq ⟨rfl, rfl⟩
    go_wp2_with fail
    go_ret
    exact ⟨ret_int HC.out.symm, Below.refl _ _⟩

end Go.Proofs.Ytdaoifpmmgfpbaa
