/-
  The walk of the law of P62 (GraphOk); what is asked of graphs of one node.
-/
import Derived.Test.YtofpjepndhpciaaZA
import Derived.Test.YtofpjepndhpciaaZD
namespace Go.Proofs.Ytofpjepndhpciaa
open Go.RowKit Go.Shelf

/-- A DRAW BEHIND A CODE: rows of integers that can be read; whatever lay below lies as it lay. -/
def DrawnM (w : World) (e : Ending) (w' : World) : Prop :=
  ∃ (a : Option Addr) (c : Nat) (xss : List (List Int)), e = .returned (.slice a xss.length c) ∧ Fit xss ∧ Mat w'.heap.size w' a xss ∧ Below w.heap.size w w'
theorem drawnM_of {N n₀ : Nat} {w w1 w2 : World} {e : Ending} (hB : Below w.heap.size w w1) (h : DrawnG n₀ w.heap.size N w1 e w2) : DrawnM w e w2 := by
  obtain ⟨a, c, xss, he, hF, hM, hR, hg⟩ := h
  obtain ⟨_, _, _, _, hb, _⟩ := hR
  exact ⟨a, c, xss, he, hF, hM.sub (erased_sub hb fun _ _ _ => rfl), hB.grown hg hB.size (fun k e => by cases e; exact Nat.le_refl _)⟩

/-- THE WORLD BEHIND THE LITERAL [][]int{{x}}. -/
theorem mat_lit (w : World) (x : Int) : Mat ((w.alloc (.cells #[.int .i64 x] 3)).alloc (.cells #[.slice (some ⟨w.heap.size, 0, none⟩) 1 1] 47)).heap.size
    ((w.alloc (.cells #[.int .i64 x] 3)).alloc (.cells #[.slice (some ⟨w.heap.size, 0, none⟩) 1 1] 47)) (some ⟨w.heap.size + 1, 0, none⟩) [[x]] := fun _ => by
  refine ⟨w.heap.size + 1, 0, rfl, by simp, fun i hi => ?_⟩
  obtain rfl : i = 0 := by simp at hi; omega
  refine ⟨some ⟨w.heap.size, 0, none⟩, 1, ?_, fun _ => ⟨w.heap.size, 0, rfl, by simp; omega, fun j hj => ?_⟩⟩
  · have := World.alloc_heap_new (w.alloc (.cells #[.int .i64 x] 3)) (.cells #[.slice (some ⟨w.heap.size, 0, none⟩) 1 1] 47)
    rw [World.size_alloc] at this
    simp only [World.cell?]
    rw [this]
    rfl
  · obtain rfl : j = 0 := by simp at hj; omega
    have := (Below.heap_alloc (w.alloc (.cells #[.int .i64 x] 3)) (.cells #[.slice (some ⟨w.heap.size, 0, none⟩) 1 1] 47) w.heap.size (by simp)).trans (World.alloc_heap_new w _)
    simp [World.cell?, this]
theorem fit_lit (x : Int) : Fit [[x]] := ⟨by simp, fun xs h => by simp at h; subst h; simp⟩
theorem gOk_lit {x : Int} (h : x = 0 ∨ x = 1) : gOk [[x]] = true := by rcases h with rfl | rfl <;> decide

theorem implLit (w : World) (x : Int) (b : Bool) (h : gOk [[x]] = b) :
    Calls Try.prog 16 #[.slice (some ⟨w.heap.size + 1, 0, none⟩) 1 1] ((w.alloc (.cells #[.int .i64 x] 3)).alloc (.cells #[.slice (some ⟨w.heap.size, 0, none⟩) 1 1] 47))
      (Ans (.bool b) ((w.alloc (.cells #[.int .i64 x] 3)).alloc (.cells #[.slice (some ⟨w.heap.size, 0, none⟩) 1 1] 47))) := by
  rw [← h]
  exact implOk (some ⟨w.heap.size + 1, 0, none⟩) 1 [[x]] _ (mat_lit w x) (fit_lit x)
theorem implEmpty (w : World) (a : Option Addr) (c : Nat) : Calls Try.prog 16 #[.slice a 0 c] w (Ans (.bool false) w) :=
  implOk a c [] w (fun h => absurd rfl h) ⟨by simp, fun xs h => absurd h (by simp)⟩
theorem below_lit (w : World) (o1 o2 : Obj) : Below w.heap.size w ((w.alloc o1).alloc o2) := ((Below.refl _ _).alloc (Nat.le_refl _) _).alloc (by simp) _

set_option maxHeartbeats 400000 in
theorem alive_any (w : World) : Calls Try.prog 10 #[] w (Ans (.bool true) w) := by
  go_enter Try.func10, Try.ntmps10
  go_wp2_with fail
  refine (implLit w 1 true (by decide)).mono ?_
  rintro e w1 ⟨rfl, hB1⟩
  have hB := Lib.hid ((below_lit w _ _).trans (hB1.mono (below_lit w _ _).size))
  clear hB1
  go_wp2_with fail
  refine (implLit w1 2 false (by decide)).mono ?_
  rintro e w2 ⟨rfl, hB2⟩
  have hBB := Lib.hid (hB.out.trans (((below_lit w1 _ _).trans (hB2.mono (below_lit w1 _ _).size)).mono hB.out.size))
  clear hB2 hB
  go_wp2_with fail
  go_ret
  exact ⟨rfl, hBB.out⟩

end Go.Proofs.Ytofpjepndhpciaa
