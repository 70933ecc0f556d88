/-
  Two graphs of at most four nodes drawn: DrawBelowOk, DrawSameLevel, DrawMapsOf, DrawCountOf.
-/
import Derived.Test.YtimjijbjadkfnaaC2
import Derived.Test.YtimjijbjadkfnaaZK
namespace Go.Proofs.Ytimjijbjadkfnaa
open Go.RowKit Go.Shelf

/-- TWO GRAPHS OF AT MOST FOUR NODES, or what are none, ARE DRAWN. -/
def DrawnP4 (w : World) (e : Ending) (w' : World) : Prop :=
  ∃ (a : Option Addr) (c : Nat) (xss : List (List Int)) (a' : Option Addr) (c' : Nat) (yss : List (List Int)), e = .returned (.tuple #[.slice a xss.length c, .slice a' yss.length c']) ∧ (Fit xss ∧ Mat w'.heap.size w' a xss ∧ xss.length ≤ 4) ∧ (Fit yss ∧ Mat w'.heap.size w' a' yss ∧ yss.length ≤ 4) ∧ Below w.heap.size w w'

set_option maxHeartbeats 400000 in
theorem drawBelowOk_any (a : Option Addr) (n c : Nat) (w : World) (hn : n ≤ 1048576) (hc : n ≤ c) (hy : Bytes w.heap.size w a n) :
    Calls Try.prog 25 #[.slice a n c] w (DrawnP4 w) := by
  go_enter Try.func25, Try.ntmps25
  go_wp2_with fail
  refine (open_any a n c w hn hc hy).mono ?_
  rintro e w1 ⟨rfl, hR, hB⟩
  have hz1 := hB.size
  go_wp2_with fail
  refine (pair_any w.heap.size w.heap.size 0 12 w1 hR (by omega) (by omega) (by omega)).mono ?_
  rintro e w2 ⟨a2, c2, xss, a3, c3, yss, rfl, ⟨hF, hM, hl⟩, ⟨hF3, hM3, hl3⟩, hR2, hg2⟩
  have HB2 := Lib.hid (hB.grown hg2 hz1 (fun k e => by cases e; exact Nat.le_refl _))
  have HF := Lib.hid hF
  have HM := Lib.hid (hM.laid hR2)
  have HF3 := Lib.hid hF3
  have HM3 := Lib.hid (hM3.laid hR2)
  clear hF hM hF3 hM3 hg2 hR2 hB hR hy hz1
  go_wp2_with fail
  go_ret2
  exact ⟨a2, c2, xss, a3, c3, yss, rfl, ⟨HF.out, HM.out, hl⟩, ⟨HF3.out, HM3.out, hl3⟩, HB2.out⟩

set_option maxHeartbeats 400000 in
theorem drawSameLevel_any (a : Option Addr) (n c : Nat) (w : World) (hn : n ≤ 1048576) (hc : n ≤ c) (hy : Bytes w.heap.size w a n) :
    Calls Try.prog 28 #[.slice a n c] w (DrawnP4 w) := by
  go_enter Try.func28, Try.ntmps28
  go_wp2_with fail
  refine (open_any a n c w hn hc hy).mono ?_
  rintro e w1 ⟨rfl, hR, hB⟩
  have hz1 := hB.size
  go_wp2_with fail
  refine (pair_any w.heap.size w.heap.size 0 12 w1 hR (by omega) (by omega) (by omega)).mono ?_
  rintro e w2 ⟨a2, c2, xss, a3, c3, yss, rfl, ⟨hF, hM, hl⟩, ⟨hF3, hM3, hl3⟩, hR2, hg2⟩
  have HB2 := Lib.hid (hB.grown hg2 hz1 (fun k e => by cases e; exact Nat.le_refl _))
  have HF := Lib.hid hF
  have HM := Lib.hid (hM.laid hR2)
  have HF3 := Lib.hid hF3
  have HM3 := Lib.hid (hM3.laid hR2)
  clear hF hM hF3 hM3 hg2 hR2 hB hR hy hz1
  go_wp2_with fail
  go_ret2
  exact ⟨a2, c2, xss, a3, c3, yss, rfl, ⟨HF.out, HM.out, hl⟩, ⟨HF3.out, HM3.out, hl3⟩, HB2.out⟩

set_option maxHeartbeats 400000 in
theorem drawMapsOf_any (a : Option Addr) (n c : Nat) (w : World) (hn : n ≤ 1048576) (hc : n ≤ c) (hy : Bytes w.heap.size w a n) :
    Calls Try.prog 14 #[.slice a n c] w (DrawnP4 w) := by
  go_enter Try.func14, Try.ntmps14
  go_wp2_with fail
  refine (open_any a n c w hn hc hy).mono ?_
  rintro e w1 ⟨rfl, hR, hB⟩
  have hz1 := hB.size
  go_wp2_with fail
  refine (pair_any w.heap.size w.heap.size 0 12 w1 hR (by omega) (by omega) (by omega)).mono ?_
  rintro e w2 ⟨a2, c2, xss, a3, c3, yss, rfl, ⟨hF, hM, hl⟩, ⟨hF3, hM3, hl3⟩, hR2, hg2⟩
  have HB2 := Lib.hid (hB.grown hg2 hz1 (fun k e => by cases e; exact Nat.le_refl _))
  have HF := Lib.hid hF
  have HM := Lib.hid (hM.laid hR2)
  have HF3 := Lib.hid hF3
  have HM3 := Lib.hid (hM3.laid hR2)
  clear hF hM hF3 hM3 hg2 hR2 hB hR hy hz1
  go_wp2_with fail
  go_ret2
  exact ⟨a2, c2, xss, a3, c3, yss, rfl, ⟨HF.out, HM.out, hl⟩, ⟨HF3.out, HM3.out, hl3⟩, HB2.out⟩

set_option maxHeartbeats 400000 in
theorem drawCountOf_any (a : Option Addr) (n c : Nat) (w : World) (hn : n ≤ 1048576) (hc : n ≤ c) (hy : Bytes w.heap.size w a n) :
    Calls Try.prog 20 #[.slice a n c] w (DrawnP4 w) := by
  go_enter Try.func20, Try.ntmps20
  go_wp2_with fail
  refine (open_any a n c w hn hc hy).mono ?_
  rintro e w1 ⟨rfl, hR, hB⟩
  have hz1 := hB.size
  go_wp2_with fail
  refine (pair_any w.heap.size w.heap.size 0 12 w1 hR (by omega) (by omega) (by omega)).mono ?_
  rintro e w2 ⟨a2, c2, xss, a3, c3, yss, rfl, ⟨hF, hM, hl⟩, ⟨hF3, hM3, hl3⟩, hR2, hg2⟩
  have HB2 := Lib.hid (hB.grown hg2 hz1 (fun k e => by cases e; exact Nat.le_refl _))
  have HF := Lib.hid hF
  have HM := Lib.hid (hM.laid hR2)
  have HF3 := Lib.hid hF3
  have HM3 := Lib.hid (hM3.laid hR2)
  clear hF hM hF3 hM3 hg2 hR2 hB hR hy hz1
  go_wp2_with fail
  go_ret2
  exact ⟨a2, c2, xss, a3, c3, yss, rfl, ⟨HF.out, HM.out, hl⟩, ⟨HF3.out, HM3.out, hl3⟩, HB2.out⟩

end Go.Proofs.Ytimjijbjadkfnaa
