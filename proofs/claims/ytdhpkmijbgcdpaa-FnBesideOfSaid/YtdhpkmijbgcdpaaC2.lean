/-
  The walk of the law of P62 (GraphOk); what is asked of graphs of one node.
-/
import Derived.Test.YtdhpkmijbgcdpaaB2
import Derived.Test.YtdhpkmijbgcdpaaD3
namespace Go.Proofs.Ytdhpkmijbgcdpaa
open Go.RowKit Go.Shelf

/-- A DRAW BEHIND A CODE: rows of integers that can be read; whatever lay below lies as it lay. -/
def DrawnM (w : World) (e : Ending) (w' : World) : Prop :=
  ∃ (a : Option Addr) (c : Nat) (xss : List (List Int)), e = .returned (.slice a xss.length c) ∧ Fit xss ∧ Mat w'.heap.size w' a xss ∧ Below w.heap.size w w'
theorem drawnM_of {N n₀ : Nat} {w w1 w2 : World} {e : Ending} (hB : Below w.heap.size w w1) (h : DrawnG n₀ w.heap.size N w1 e w2) : DrawnM w e w2 := by
  obtain ⟨a, c, xss, he, hF, hM, hR, hg⟩ := h
  obtain ⟨_, _, _, _, hb, _⟩ := hR
  exact ⟨a, c, xss, he, hF, hM.sub (erased_sub hb fun _ _ _ => rfl), hB.grown hg hB.size (fun k e => by cases e; exact Nat.le_refl _)⟩

set_option maxHeartbeats 400000 in
theorem drawGraphOk_any (a : Option Addr) (n c : Nat) (w : World) (hn : n ≤ 1048576) (hc : n ≤ c) (hy : Bytes w.heap.size w a n) :
    Calls Try.prog 16 #[.slice a n c] w (DrawnM w) := by
  go_enter Try.func16, Try.ntmps16
  go_wp2_with fail
  refine (open_any a n c w hn hc hy).mono ?_
  rintro e w1 ⟨rfl, hR, hB⟩
  go_wp2_with fail
  refine (graph_any w.heap.size w.heap.size 0 5 2 w1 hR (by omega) (by omega) (by omega) (by omega) (by omega)).mono ?_
  rintro e w2 h2
  have h3 := drawnM_of hB h2
  obtain ⟨a, c, xss, rfl, h4⟩ := h3
  have H4 := Lib.hid h4
  clear h4 h2 hR hB hy
  go_wp2_with fail
  go_ret
  exact ⟨a, c, xss, rfl, H4.out⟩

/-- THE WORLD BEHIND THE LITERAL [][]int{{x}}. -/
theorem mat_lit (w : World) (x : Int) : Mat ((w.alloc (.cells #[.int .i64 x] 3)).alloc (.cells #[.slice (some ⟨w.heap.size, 0, none⟩) 1 1] 26)).heap.size
    ((w.alloc (.cells #[.int .i64 x] 3)).alloc (.cells #[.slice (some ⟨w.heap.size, 0, none⟩) 1 1] 26)) (some ⟨w.heap.size + 1, 0, none⟩) [[x]] := fun _ => by
  refine ⟨w.heap.size + 1, 0, rfl, by simp, fun i hi => ?_⟩
  obtain rfl : i = 0 := by simp at hi; omega
  refine ⟨some ⟨w.heap.size, 0, none⟩, 1, ?_, fun _ => ⟨w.heap.size, 0, rfl, by simp; omega, fun j hj => ?_⟩⟩
  · have := World.alloc_heap_new (w.alloc (.cells #[.int .i64 x] 3)) (.cells #[.slice (some ⟨w.heap.size, 0, none⟩) 1 1] 26)
    rw [World.size_alloc] at this
    simp only [World.cell?]
    rw [this]
    rfl
  · obtain rfl : j = 0 := by simp at hj; omega
    have := (Below.heap_alloc (w.alloc (.cells #[.int .i64 x] 3)) (.cells #[.slice (some ⟨w.heap.size, 0, none⟩) 1 1] 26) w.heap.size (by simp)).trans (World.alloc_heap_new w _)
    simp [World.cell?, this]
theorem fit_lit (x : Int) : Fit [[x]] := ⟨by simp, fun xs h => by simp at h; subst h; simp⟩
theorem gOk_lit {x : Int} (h : x = 0 ∨ x = 1) : gOk [[x]] = true := by rcases h with rfl | rfl <;> decide

theorem implLit (w : World) (x : Int) (b : Bool) (h : gOk [[x]] = b) :
    Calls Try.prog 17 #[.slice (some ⟨w.heap.size + 1, 0, none⟩) 1 1] ((w.alloc (.cells #[.int .i64 x] 3)).alloc (.cells #[.slice (some ⟨w.heap.size, 0, none⟩) 1 1] 26))
      (Ans (.bool b) ((w.alloc (.cells #[.int .i64 x] 3)).alloc (.cells #[.slice (some ⟨w.heap.size, 0, none⟩) 1 1] 26))) := by
  rw [← h]
  exact implOk (some ⟨w.heap.size + 1, 0, none⟩) 1 [[x]] _ (mat_lit w x) (fit_lit x)
theorem implEmpty (w : World) (a : Option Addr) (c : Nat) : Calls Try.prog 17 #[.slice a 0 c] w (Ans (.bool false) w) :=
  implOk a c [] w (fun h => absurd rfl h) ⟨by simp, fun xs h => absurd h (by simp)⟩
theorem below_lit (w : World) (o1 o2 : Obj) : Below w.heap.size w ((w.alloc o1).alloc o2) := ((Below.refl _ _).alloc (Nat.le_refl _) _).alloc (by simp) _

set_option maxHeartbeats 400000 in
theorem alive_any (w : World) : Calls Try.prog 19 #[] w (Ans (.bool true) w) := by
  go_enter Try.func19, Try.ntmps19
  go_wp2_with fail
  refine (implLit w 1 true (by decide)).mono ?_
  rintro e w1 ⟨rfl, hB1⟩
  have hB := Lib.hid ((below_lit w _ _).trans (hB1.mono (below_lit w _ _).size))
  clear hB1
  go_wp2_with fail
  refine (implLit w1 2 false (by decide)).mono ?_
  rintro e w2 ⟨rfl, hB2⟩
  have hBB := Lib.hid (hB.out.trans (((below_lit w1 _ _).trans (hB2.mono (below_lit w1 _ _).size)).mono hB.out.size))
  clear hB2 hB
  go_wp2_with fail
  go_ret
  exact ⟨rfl, hBB.out⟩

set_option maxHeartbeats 1000000 in
theorem graphOk_any (a : Option Addr) (n c : Nat) (w : World) (hc : n ≤ c) (hl : n ≤ 9223372036854775807) (hy : Bytes w.heap.size w a n) :
    Calls Try.prog 3 #[.slice a n c] w (Ans (.bool true) w) := by
  by_cases hbig : 1048576 < n
  · go_enter Try.func3, Try.ntmps3
    go_wp2_with fail
    go_ret
    exact ⟨rfl, Below.refl _ _⟩
  go_enter Try.func3, Try.ntmps3
  go_wp2_with fail
  refine (drawGraphOk_any a n c w (by omega) hc hy).mono ?_
  rintro e w1 ⟨a1, c1, xss, rfl, hF, hM, hB⟩
  have HB := Lib.hid hB
  have HF := Lib.hid hF
  have h00 : ((gOk xss) != (gOk xss)) = false := by cases gOk xss <;> rfl
  clear hB hF hy
  go_wp2_with fail
  refine (implOk _ _ _ _ hM HF.out).mono ?_
  rintro e w2 ⟨rfl, hB2⟩
  have hM2 : Mat w1.heap.size w2 a1 xss := hM.below hB2
  have HB2 := Lib.hid (HB.out.trans (hB2.mono HB.out.size))
  clear hM hB2
  go_wp2_with fail
  refine (specOk_any _ _ _ _ _ hM2 HF.out).mono ?_
  rintro e w3 ⟨rfl, rfl⟩
  clear hM2
  go_wp2_with fail
  refine (implLit w2 0 true (by decide)).mono ?_
  rintro e w3 ⟨rfl, hB3⟩
  have HB3 := Lib.hid (HB2.out.trans (((below_lit w2 _ _).trans (hB3.mono (below_lit w2 _ _).size)).mono HB2.out.size))
  clear hB3
  go_wp2_with fail
  refine (implLit w3 1 true (by decide)).mono ?_
  rintro e w4 ⟨rfl, hB4⟩
  have HB4 := Lib.hid (HB3.out.trans (((below_lit w3 _ _).trans (hB4.mono (below_lit w3 _ _).size)).mono HB3.out.size))
  clear hB4
  go_wp2_with fail
  refine (implEmpty _ _ _).mono ?_
  rintro e w5 ⟨rfl, hB5⟩
  have HB5 := Lib.hid (HB4.out.trans ((((Below.refl _ w4).alloc (Nat.le_refl _) _).trans (hB5.mono (by simp))).mono HB4.out.size))
  clear hB5
  go_wp2_with fail
  refine (alive_any _).mono ?_
  rintro e w6 ⟨rfl, hB6⟩
  have HB6 := Lib.hid (HB5.out.trans (hB6.mono HB5.out.size))
  clear hB6
  go_wp2_with fail
  go_ret
  exact ⟨rfl, HB6.out⟩

end Go.Proofs.Ytdhpkmijbgcdpaa
