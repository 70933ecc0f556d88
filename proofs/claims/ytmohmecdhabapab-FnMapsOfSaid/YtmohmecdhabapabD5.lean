/-
  Two graphs of at most four nodes drawn: l20Pair.
-/
import Derived.Test.YtmohmecdhabapabA4
import Derived.Test.YtmohmecdhabapabD4
namespace Go.Proofs.Ytmohmecdhabapab
open Go.RowKit Go.Shelf

/-- TWO GRAPHS, or what are none, ARE DRAWN, each of at most four nodes. -/
def DrawnP (n₀ B N : Nat) (w : World) (e : Ending) (w' : World) : Prop :=
  ∃ (a : Option Addr) (c : Nat) (xss : List (List Int)) (a' : Option Addr) (c' : Nat) (yss : List (List Int)), e = .returned (.tuple #[.slice a xss.length c, .slice a' yss.length c']) ∧
    (Fit xss ∧ Mat w'.heap.size (w'.setRow B #[]) a xss ∧ xss.length ≤ 4) ∧ (Fit yss ∧ Mat w'.heap.size (w'.setRow B #[]) a' yss ∧ yss.length ≤ 4) ∧ Rd n₀ B w' N ∧ w.grownBy w' (some B)

set_option maxHeartbeats 1000000 in
theorem pair_any (n₀ B N : Nat) (odd : Int) (w : World) (hR : Rd n₀ B w N) (hN : N ≤ 300000) (ho0 : 0 ≤ odd) (ho1 : odd ≤ 1000) :
    Calls Try.prog 49 #[.pointer (some ⟨B, 0, none⟩), .int .i64 odd] w (DrawnP n₀ B (N + 401) w) := by
  have hBw := hR.lt
  go_enter Try.func49, Try.ntmps49
  go_wp2_with fail
  refine (graph_anyK n₀ B N 4 4 odd w hR (by omega) (by omega) (by omega) (by omega) (by omega) (by omega)).mono ?_
  rintro e w1 ⟨a1, c1, xss, rfl, hF1, hM1, hR1, hg1, hl1⟩
  have HF1 := Lib.hid hF1
  have HM1 := Lib.hid hM1
  have hxl := hF1.1
  clear hF1 hM1
  go_wp2_with fail
  refine (graph_anyK n₀ B (N + 200) 4 4 odd w1 hR1 (by omega) (by omega) (by omega) (by omega) (by omega) (by omega)).mono ?_
  rintro e w2 ⟨a2, c2, yss, rfl, hF2, hM2, hR2, hg2, hl2⟩
  have hyl := hF2.1
  have HF2 := Lib.hid hF2
  have HM2 := Lib.hid hM2
  have HX2 := Lib.hid (HM1.out.erasedKept hR1 hg2 hg2.size)
  have hX := HX2.out.laid hR2
  have HG2 := Lib.hid (grow_B hg1 hg2 (fun r e => by cases e; exact .inr rfl))
  clear hF2 hM2 HM1 hg1 hg2 hR1 hR
  go_wp2_with fail
  refine (specOk_any _ _ xss _ w2 hX HF1.out).mono ?_
  rintro e w3 ⟨rfl, rfl⟩
  obtain ⟨z, HZ⟩ : ∃ z, Hid (gOk xss = z) := ⟨_, rfl⟩
  rw [HZ.out]
  cases z with
  | false =>
    go_wp2_with fail
    go_ret2
    exact ⟨_, _, _, _, _, _, rfl, ⟨HF1.out, HX2.out, hl1⟩, ⟨HF2.out, HM2.out, hl2⟩, hR2.more (by omega), HG2.out⟩
  | true =>
    go_wp2_with fail
    refine (pick_any n₀ B (N + 400) 4 w2 hR2 (by omega)).mono ?_
    rintro e w4 ⟨x, ⟨rfl, hx0, hx1, _⟩, hR4, hg4, -⟩
    have HX4 := Lib.hid (HX2.out.erasedKept hR2 hg4 hg4.size)
    have HY4 := Lib.hid (HM2.out.erasedKept hR2 hg4 hg4.size)
    have HG4 := Lib.hid (grow_B HG2.out hg4 (fun r e => by cases e; exact .inr rfl))
    clear hx1 hR2 hg4 HX2 HM2 HG2 hX
    by_cases hx : x = 0
    · have hxb : (x == 0) = true := by simp [hx]
      clear hx
      go_wp2_with fail
      go_ret2
      exact ⟨_, _, _, _, _, _, rfl, ⟨HF1.out, HX4.out, hl1⟩, ⟨HF1.out, HX4.out, hl1⟩, hR4.more (by omega), HG4.out⟩
    · have hxb : (x == 0) = false := by simp [hx]
      clear hx
      go_wp2_with fail
      go_ret2
      exact ⟨_, _, _, _, _, _, rfl, ⟨HF1.out, HX4.out, hl1⟩, ⟨HF2.out, HY4.out, hl2⟩, hR4.more (by omega), HG4.out⟩

end Go.Proofs.Ytmohmecdhabapab
