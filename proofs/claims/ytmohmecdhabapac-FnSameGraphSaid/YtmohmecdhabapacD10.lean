/-
  Two graphs drawn, often the same but for the order: DrawSameGraph.
-/
import Derived.Test.YtmohmecdhabapacD9
import Derived.Test.YtmohmecdhabapacI3
import Derived.Test.YtmohmecdhabapacC10
namespace Go.Proofs.Ytmohmecdhabapac
open Go.RowKit Go.Shelf

def DrawnTwo (w : World) (e : Ending) (w' : World) : Prop :=
  ∃ (a : Option Addr) (c : Nat) (xss : List (List Int)) (a' : Option Addr) (c' : Nat) (yss : List (List Int)), e = .returned (.tuple #[.slice a xss.length c, .slice a' yss.length c']) ∧ (Fit xss ∧ Mat w'.heap.size w' a xss) ∧ (Fit yss ∧ Mat w'.heap.size w' a' yss) ∧ Below w.heap.size w w'

set_option maxRecDepth 100000 in
set_option maxHeartbeats 4000000 in
theorem drawSame_any (a : Option Addr) (n c : Nat) (w : World) (hn : n ≤ 1048576) (hc : n ≤ c) (hy : Bytes w.heap.size w a n) :
    Calls Try.prog 14 #[.slice a n c] w (DrawnTwo w) := by
  go_enter Try.func14, Try.ntmps14
  go_wp2_with fail
  refine (open_any a n c w hn hc hy).mono ?_
  rintro e w1 ⟨rfl, hR1, hB⟩
  have hz1 := hB.size
  have HB1 := Lib.hid hB
  obtain ⟨B, hBe⟩ : ∃ B, w.heap.size = B := ⟨_, rfl⟩
  rw [hBe] at hR1 ⊢
  go_wp2_with fail
  refine (graph_anyK B B 0 4 4 14 w1 hR1 (by omega) (by omega) (by omega) (by omega) (by omega) (by omega)).mono ?_
  rintro e w2 ⟨a2, c2, xss, rfl, hF, x2, hR2, hg2, hx4⟩
  have HG2 := Lib.hid hg2
  have HF := Lib.hid hF
  have hlx := hF.1
  have HX2 := Lib.hid x2
  have HM2 := Lib.hid (x2.laid hR2)
  clear hF hR1 hg2 hB hy x2
  go_wp2_with fail
  refine (specOk_any _ _ _ _ _ HM2.out HF.out).mono ?_
  have hfin : ∀ (w5 : World) (N5 : Nat), Rd B B w5 N5 → w2.grownBy w5 (some B) → Mat w5.heap.size w5 a2 xss ∧ Below w.heap.size w w5 := fun w5 N5 h1 h2 =>
    ⟨(HX2.out.erasedKept hR2 h2 h2.size).laid h1, HB1.out.grown (grow_B HG2.out h2 (fun r e => by cases e; exact .inr rfl)) hz1 (fun k e => by cases e; exact Nat.le_of_eq hBe)⟩
  have HFIN := Lib.hid hfin
  clear hfin
  by_cases hg : gOk xss = true
  · rw [hg]
    rintro e wq ⟨rfl, rfl⟩
    go_wp2_with fail
    refine (pick_any B B 200 _ _ hR2 (by omega)).mono ?_
    rintro e w4 ⟨x4, ⟨rfl, hp0, hp1, _⟩, hR4, hg4, -⟩
    by_cases hx : 0 < x4
    · have hxb : decide (x4 > 0) = true := by simpa using hx
      have HG4 := Lib.hid hg4
      clear hg4 hp1
      go_wp2_with fail
      refine (order_any B B 201 xss.length _ hR4 (by omega) (by omega)).mono ?_
      rintro e w5 ⟨g, cap, rfl, HO⟩
      obtain ⟨ys, hyl, HI⟩ := HO.out.ints
      have HR5 := HO.out.1
      have hg5 := grow_B HG4.out HO.out.2.1 (fun r e => by cases e; exact .inr rfl)
      have HI5 := Lib.hid (HI.laid HR5)
      obtain ⟨hM5, hB5⟩ := HFIN.out w5 _ HR5 hg5
      have HP := Lib.hid (specPart a2 (some ⟨g, 0, none⟩) c2 cap xss ys w5.heap.size w5 hM5 HI5.out (Nat.le_refl _) (by omega) HF.out)
      rw [hyl] at HP
      have HPF : Hid (Fit (partL xss ys)) := Lib.hid part_fit
      have HM5 := Lib.hid hM5
      have HB5 := Lib.hid hB5
      clear hR2 hR4 HR5 hg5 HI hM5 hB5 HO HFIN
      go_wp2_with fail
      refine HP.out.mono ?_
      rintro e w6 ⟨a6, c6, ⟨rfl, hB6⟩, hM6⟩
      have hz6 := hB6.size
      have HM6 := Lib.hid ((HM5.out.below hB6).more hz6)
      have HM7 := Lib.hid hM6
      have HB6 := Lib.hid (HB5.out.trans (hB6.mono HB5.out.size))
      clear hM6 hB6
      go_wp2_with fail
      go_ret2
      exact ⟨a2, c2, xss, a6, c6, _, rfl, ⟨HF.out, HM6.out⟩, ⟨HPF.out, HM7.out⟩, HB6.out⟩
    · have hxb : decide (x4 > 0) = false := by simpa using hx
      have HG4 := Lib.hid hg4
      clear hg4 hp1 hx
      go_wp2_with fail
      refine (graph_anyK B B 201 4 4 14 w4 hR4 (by omega) (by omega) (by omega) (by omega) (by omega) (by omega)).mono ?_
      rintro e w5 ⟨a5, c5, yss, rfl, hF5, x5, hR5, hg5, hy4⟩
      obtain ⟨hM5, hB5⟩ := HFIN.out w5 _ hR5 (grow_B HG4.out hg5 (fun r e => by cases e; exact .inr rfl))
      have HM5 := Lib.hid hM5
      have HN5 := Lib.hid (x5.laid hR5)
      have HB5 := Lib.hid hB5
      have HF5 := Lib.hid hF5
      clear hM5 hB5 x5 hR5 hg5 hF5 hR4 hR2 HFIN
      go_wp2_with fail
      go_ret2
      exact ⟨a2, c2, xss, a5, c5, yss, rfl, ⟨HF.out, HM5.out⟩, ⟨HF5.out, HN5.out⟩, HB5.out⟩
  · have hn : gOk xss = false := by simpa using hg
    rw [hn]
    rintro e wq ⟨rfl, rfl⟩
    go_wp2_with fail
    refine (graph_anyK B B 200 4 4 14 w2 hR2 (by omega) (by omega) (by omega) (by omega) (by omega) (by omega)).mono ?_
    rintro e w5 ⟨a5, c5, yss, rfl, hF5, x5, hR5, hg5, hy4⟩
    obtain ⟨hM5, hB5⟩ := HFIN.out w5 _ hR5 hg5
    have HM5 := Lib.hid hM5
    have HN5 := Lib.hid (x5.laid hR5)
    have HB5 := Lib.hid hB5
    have HF5 := Lib.hid hF5
    clear hM5 hB5 x5 hR5 hg5 hF5 hR2 HFIN
    go_wp2_with fail
    go_ret2
    exact ⟨a2, c2, xss, a5, c5, yss, rfl, ⟨HF.out, HM5.out⟩, ⟨HF5.out, HN5.out⟩, HB5.out⟩

end Go.Proofs.Ytmohmecdhabapac
