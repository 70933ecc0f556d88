/-
  Two graphs drawn: DrawBesideOf.
-/
import Derived.Test.YtdhpkmijbgcdpaaC2
namespace Go.Proofs.Ytdhpkmijbgcdpaa
open Go.RowKit Go.Shelf

/-- TWO GRAPHS, or what are none, ARE DRAWN. -/
def DrawnMM (w : World) (e : Ending) (w' : World) : Prop :=
  ∃ (a : Option Addr) (c : Nat) (xss : List (List Int)) (a' : Option Addr) (c' : Nat) (yss : List (List Int)), e = .returned (.tuple #[.slice a xss.length c, .slice a' yss.length c']) ∧ (Fit xss ∧ Mat w'.heap.size w' a xss) ∧ (Fit yss ∧ Mat w'.heap.size w' a' yss) ∧ Below w.heap.size w w'

set_option maxHeartbeats 400000 in
theorem drawBesideOf_any (a : Option Addr) (n c : Nat) (w : World) (hn : n ≤ 1048576) (hc : n ≤ c) (hy : Bytes w.heap.size w a n) :
    Calls Try.prog 27 #[.slice a n c] w (DrawnMM w) := by
  go_enter Try.func27, Try.ntmps27
  go_wp2_with fail
  refine (open_any a n c w hn hc hy).mono ?_
  rintro e w1 ⟨rfl, hR, hB⟩
  have hz1 := hB.size
  go_wp2_with fail
  refine (graph_any w.heap.size w.heap.size 0 5 14 w1 hR (by omega) (by omega) (by omega) (by omega) (by omega)).mono ?_
  rintro e w2 ⟨a2, c2, xss, rfl, hF, hM, hR2, hg2⟩
  have hb2 : ∃ cs t fr, w2.heap[w.heap.size]? = some (.cells cs t fr) := by obtain ⟨_, _, _, _, hb, _⟩ := hR2; exact ⟨_, _, _, hb⟩
  have hB2 := hB.grown hg2 hz1 (fun k e => by cases e; exact Nat.le_refl _)
  have HF := Lib.hid hF
  have HM := Lib.hid hM
  clear hF hM hg2 hB hR hy hz1
  go_wp2_with fail
  refine (graph_any w.heap.size w.heap.size 200 5 14 w2 hR2 (by omega) (by omega) (by omega) (by omega) (by omega)).mono ?_
  rintro e w3 ⟨a3, c3, yss, rfl, hF3, hM3, hR3, hg3⟩
  have hB3 := hB2.grown hg3 hB2.size (fun k e => by cases e; exact Nat.le_refl _)
  obtain ⟨cs, t, fr, hb2⟩ := hb2
  have hX : Mat w3.heap.size w3 a2 xss := (HM.out.sub (erased_sub hb2 fun k hk hne => hg3.block k hk (fun e => hne (Option.some.inj e)))).more hg3.size
  have hY : Mat w3.heap.size w3 a3 yss := by obtain ⟨_, _, _, _, hb, _⟩ := hR3; exact hM3.sub (erased_sub hb fun _ _ _ => rfl)
  have HX := Lib.hid hX
  have HY := Lib.hid hY
  have HB := Lib.hid hB3
  have HF3 := Lib.hid hF3
  clear hX hY hB3 hF3 hM3 hR3 hg3 hB2 hR2 HM hb2
  go_wp2_with fail
  go_ret2
  exact ⟨a2, c2, xss, a3, c3, yss, rfl, ⟨HF.out, HX.out⟩, ⟨HF3.out, HY.out⟩, HB.out⟩

end Go.Proofs.Ytdhpkmijbgcdpaa
