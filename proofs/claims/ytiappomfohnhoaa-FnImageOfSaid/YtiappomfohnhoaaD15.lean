/-
  DrawImageOf: two graphs and a row.
-/
import Derived.Test.YtiappomfohnhoaaO2
namespace Go.Proofs.Ytiappomfohnhoaa
open Go.RowKit Go.Shelf

set_option maxHeartbeats 400000 in
theorem drawImageOf_any (a : Option Addr) (n c : Nat) (w : World) (hn : n ≤ 1048576) (hc : n ≤ c) (hy : Bytes w.heap.size w a n) :
    Calls Try.prog 47 #[.slice a n c] w (DrawnMF w) := by
  go_enter Try.func47, Try.ntmps47
  go_wp2_with fail
  refine (open_any a n c w hn hc hy).mono ?_
  rintro e w1 ⟨rfl, hR, hB⟩
  have hz1 := hB.size
  go_wp2_with fail
  refine (map_any w.heap.size w.heap.size 0 w1 hR (by omega)).mono ?_
  rintro e w2 ⟨a2, c2, xss, a3, c3, yss, a4, c4, f, rfl, ⟨hF, hM, hl⟩, ⟨hF3, hM3, hl3⟩, ⟨hfl, hI⟩, hR2, hg2⟩
  have HB2 := Lib.hid (hB.grown hg2 hz1 (fun k e => by cases e; exact Nat.le_refl _))
  have HF := Lib.hid hF
  have HM := Lib.hid (hM.laid hR2)
  have HF3 := Lib.hid hF3
  have HM3 := Lib.hid (hM3.laid hR2)
  have HI := Lib.hid (hI.laid hR2)
  clear hF hM hF3 hM3 hI hg2 hR2 hB hR hy hz1
  go_wp2_with fail
  go_ret3
  exact ⟨a2, c2, xss, a3, c3, yss, a4, c4, f, rfl, ⟨HF.out, HM.out, hl⟩, ⟨HF3.out, HM3.out, hl3⟩, ⟨hfl, HI.out⟩, HB2.out⟩

end Go.Proofs.Ytiappomfohnhoaa
