/-
  The plain draws of stage 6: DrawKindsBy, DrawFromKinds, DrawApartOk, DrawCountApart, DrawAllKinds.
-/
import Derived.Test.YtdolpkjighbohaaO2
import Derived.Test.YtdolpkjighbohaaK3
import Derived.Test.YtdolpkjighbohaaZP
namespace Go.Proofs.Ytdolpkjighbohaa
open Go.RowKit Go.Shelf

set_option maxHeartbeats 400000 in
theorem drawKindsBy_any (a : Option Addr) (n c : Nat) (w : World) (hn : n ≤ 1048576) (hc : n ≤ c) (hy : Bytes w.heap.size w a n) :
    Calls Try.prog 32 #[.slice a n c] w (DrawnMF w) := by
  go_enter Try.func32, Try.ntmps32
  go_wp2_with fail
  refine (open_any a n c w hn hc hy).mono ?_
  rintro e w1 ⟨rfl, hR, hB⟩
  have hz1 := hB.size
  go_wp2_with fail
  refine (map_any w.heap.size w.heap.size 0 w1 hR (by omega)).mono ?_
  rintro e w2 ⟨a2, c2, xss, a3, c3, yss, a4, c4, f, rfl, ⟨hF, hM, hl⟩, ⟨hF3, hM3, hl3⟩, ⟨hfl, hI⟩, hR2, hg2⟩
  have HB2 := Lib.hid (hB.grown hg2 hz1 (fun k e => by cases e; exact Nat.le_refl _))
  have HF := Lib.hid hF
  have HM := Lib.hid (hM.laid hR2)
  have HF3 := Lib.hid hF3
  have HM3 := Lib.hid (hM3.laid hR2)
  have HI := Lib.hid (hI.laid hR2)
  clear hF hM hF3 hM3 hI hg2 hR2 hB hR hy hz1
  go_wp2_with fail
  go_ret3
  exact ⟨a2, c2, xss, a3, c3, yss, a4, c4, f, rfl, ⟨HF.out, HM.out, hl⟩, ⟨HF3.out, HM3.out, hl3⟩, ⟨hfl, HI.out⟩, HB2.out⟩

set_option maxHeartbeats 400000 in
theorem drawFromKinds_any (a : Option Addr) (n c : Nat) (w : World) (hn : n ≤ 1048576) (hc : n ≤ c) (hy : Bytes w.heap.size w a n) :
    Calls Try.prog 35 #[.slice a n c] w (DrawnMF w) := by
  go_enter Try.func35, Try.ntmps35
  go_wp2_with fail
  refine (open_any a n c w hn hc hy).mono ?_
  rintro e w1 ⟨rfl, hR, hB⟩
  have hz1 := hB.size
  go_wp2_with fail
  refine (map_any w.heap.size w.heap.size 0 w1 hR (by omega)).mono ?_
  rintro e w2 ⟨a2, c2, xss, a3, c3, yss, a4, c4, f, rfl, ⟨hF, hM, hl⟩, ⟨hF3, hM3, hl3⟩, ⟨hfl, hI⟩, hR2, hg2⟩
  have HB2 := Lib.hid (hB.grown hg2 hz1 (fun k e => by cases e; exact Nat.le_refl _))
  have HF := Lib.hid hF
  have HM := Lib.hid (hM.laid hR2)
  have HF3 := Lib.hid hF3
  have HM3 := Lib.hid (hM3.laid hR2)
  have HI := Lib.hid (hI.laid hR2)
  clear hF hM hF3 hM3 hI hg2 hR2 hB hR hy hz1
  go_wp2_with fail
  go_ret3
  exact ⟨a2, c2, xss, a3, c3, yss, a4, c4, f, rfl, ⟨HF.out, HM.out, hl⟩, ⟨HF3.out, HM3.out, hl3⟩, ⟨hfl, HI.out⟩, HB2.out⟩

set_option maxHeartbeats 400000 in
theorem drawApartOk_any (a : Option Addr) (n c : Nat) (w : World) (hn : n ≤ 1048576) (hc : n ≤ c) (hy : Bytes w.heap.size w a n) :
    Calls Try.prog 40 #[.slice a n c] w (DrawnMF w) := by
  go_enter Try.func40, Try.ntmps40
  go_wp2_with fail
  refine (open_any a n c w hn hc hy).mono ?_
  rintro e w1 ⟨rfl, hR, hB⟩
  have hz1 := hB.size
  go_wp2_with fail
  refine (map_any w.heap.size w.heap.size 0 w1 hR (by omega)).mono ?_
  rintro e w2 ⟨a2, c2, xss, a3, c3, yss, a4, c4, f, rfl, ⟨hF, hM, hl⟩, ⟨hF3, hM3, hl3⟩, ⟨hfl, hI⟩, hR2, hg2⟩
  have HB2 := Lib.hid (hB.grown hg2 hz1 (fun k e => by cases e; exact Nat.le_refl _))
  have HF := Lib.hid hF
  have HM := Lib.hid (hM.laid hR2)
  have HF3 := Lib.hid hF3
  have HM3 := Lib.hid (hM3.laid hR2)
  have HI := Lib.hid (hI.laid hR2)
  clear hF hM hF3 hM3 hI hg2 hR2 hB hR hy hz1
  go_wp2_with fail
  go_ret3
  exact ⟨a2, c2, xss, a3, c3, yss, a4, c4, f, rfl, ⟨HF.out, HM.out, hl⟩, ⟨HF3.out, HM3.out, hl3⟩, ⟨hfl, HI.out⟩, HB2.out⟩

set_option maxHeartbeats 400000 in
theorem drawCountApart_any (a : Option Addr) (n c : Nat) (w : World) (hn : n ≤ 1048576) (hc : n ≤ c) (hy : Bytes w.heap.size w a n) :
    Calls Try.prog 42 #[.slice a n c] w (DrawnP4 w) := by
  go_enter Try.func42, Try.ntmps42
  go_wp2_with fail
  refine (open_any a n c w hn hc hy).mono ?_
  rintro e w1 ⟨rfl, hR, hB⟩
  have hz1 := hB.size
  go_wp2_with fail
  refine (pair_any w.heap.size w.heap.size 0 12 w1 hR (by omega) (by omega) (by omega)).mono ?_
  rintro e w2 ⟨a2, c2, xss, a3, c3, yss, rfl, ⟨hF, hM, hl⟩, ⟨hF3, hM3, hl3⟩, hR2, hg2⟩
  have HB2 := Lib.hid (hB.grown hg2 hz1 (fun k e => by cases e; exact Nat.le_refl _))
  have HF := Lib.hid hF
  have HM := Lib.hid (hM.laid hR2)
  have HF3 := Lib.hid hF3
  have HM3 := Lib.hid (hM3.laid hR2)
  clear hF hM hF3 hM3 hg2 hR2 hB hR hy hz1
  go_wp2_with fail
  go_ret2
  exact ⟨a2, c2, xss, a3, c3, yss, rfl, ⟨HF.out, HM.out, hl⟩, ⟨HF3.out, HM3.out, hl3⟩, HB2.out⟩

set_option maxRecDepth 100000 in
set_option maxHeartbeats 1000000 in
theorem drawAllKinds_any (a : Option Addr) (n c : Nat) (w : World) (hn : n ≤ 1048576) (hc : n ≤ c) (hy : Bytes w.heap.size w a n) :
    Calls Try.prog 22 #[.slice a n c] w (DrawnMK 5 w) := by
  go_enter Try.func22, Try.ntmps22
  go_wp2_with fail
  refine (open_any a n c w hn hc hy).mono ?_
  rintro e w1 ⟨rfl, hR1, hB⟩
  have hz1 := hB.size
  obtain ⟨B, hBe⟩ : ∃ B, w.heap.size = B := ⟨_, rfl⟩
  have HB1 := Lib.hid hB
  rw [hBe] at hR1 ⊢
  have HBE := Lib.hid hBe
  clear hB hBe hy
  go_wp2_with fail
  refine (graph_anyK B B (0) 5 5 9 w1 hR1 (by omega) (by omega) (by omega) (by omega) (by omega) (by omega)).mono ?_
  rintro e w2 ⟨aG, cG, G, rfl, hFG, hG2, hR2, hg2, hlG⟩
  have HFG := Lib.hid hFG
  have HG2 := Lib.hid hG2
  clear hFG hG2
  have HB2 := Lib.hid (HB1.out.grown hg2 hz1 (fun k e => by cases e; exact Nat.le_of_eq HBE.out))
  have hz2 := HB2.out.size
  clear hg2 hR1 HB1 hz1 
  have LG := Lib.hid (HG2.out.laid hR2)
  go_wp2_with fail
  go_ret
  exact ⟨_, _, _, rfl, ⟨HFG.out, LG.out, hlG⟩, HB2.out⟩

end Go.Proofs.Ytdolpkjighbohaa
