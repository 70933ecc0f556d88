/-
  The walk of the law of P5 (MapOk).
-/
import Derived.Test.YtldkgkpiceamhaaZH
import Derived.Test.YtldkgkpiceamhaaWV
import Derived.Test.YtldkgkpiceamhaaZL
import Derived.Test.YtldkgkpiceamhaaZN
import Derived.Test.YtldkgkpiceamhaaZQ
namespace Go.Proofs.Ytldkgkpiceamhaa
open Go.RowKit Go.Shelf

/-- TWO GRAPHS, or what are none, AND A ROW ARE DRAWN. -/
def DrawnMF (w : World) (e : Ending) (w' : World) : Prop :=
  ∃ (a : Option Addr) (c : Nat) (xss : List (List Int)) (a' : Option Addr) (c' : Nat) (yss : List (List Int)) (a3 : Option Addr) (c3 : Nat) (f : List Int), e = .returned (.tuple #[.slice a xss.length c, .slice a' yss.length c', .slice a3 f.length c3]) ∧
    (Fit xss ∧ Mat w'.heap.size w' a xss ∧ xss.length ≤ 4) ∧ (Fit yss ∧ Mat w'.heap.size w' a' yss ∧ yss.length ≤ 4) ∧ (f.length ≤ 1048576 ∧ Ints w'.heap.size w' a3 f) ∧ Below w.heap.size w w'
/-- k rows, each of n times the same number. -/
def cst (x : Int) (n k : Nat) : List (List Int) := List.replicate k (List.replicate n x)
theorem cst_length (x : Int) (n k : Nat) : (cst x n k).length = k := List.length_replicate
theorem cst_succ (x : Int) (n k : Nat) : cst x n (k + 1) = cst x n k ++ [List.replicate n x] := List.replicate_succ'
theorem cst_good {x : Int} {n : Nat} (hx : x = 0 ∨ x = 1) (h1 : 1 ≤ n) (h9 : n ≤ 9) : Good (cst x n n) := by
  refine ⟨by rw [cst_length]; exact h1, by rw [cst_length]; exact h9, fun xs h => ?_⟩
  have := List.eq_of_mem_replicate h
  subst this
  exact ⟨by rw [cst_length]; simp, fun y hy => by rw [List.eq_of_mem_replicate hy]; exact hx⟩
theorem cst_arw {x : Int} {n i j : Nat} (hi : i < n) (hj : j < n) : arw (cst x n n) i j = (x == 1) := by
  simp [arw, ent, cst, hi, hj]
theorem map_cst1 {G H : List (List Int)} {f : List Int} (h : mapOkI G H f = true) : mapOkI G (cst 1 H.length H.length) f = true := by
  obtain ⟨⟨h1, h2⟩, h3, h4⟩ := mapOk_iff.1 h
  refine mapOk_iff.2 ⟨⟨h1, gOk_true (cst_good (.inr rfl) (good_of h2).1 (good_of h2).2.1)⟩, by rw [cst_length]; exact h3, fun i j hi hj _ => ?_⟩
  rw [cst_arw (nd_tells h3 hi) (nd_tells h3 hj)]; rfl
theorem map_cst0 {G H : List (List Int)} {f : List Int} (h : mapOkI G H f = true) : mapOkI (cst 0 G.length G.length) H f = true := by
  obtain ⟨⟨h1, h2⟩, h3, h4⟩ := mapOk_iff.1 h
  refine mapOk_iff.2 ⟨⟨gOk_true (cst_good (.inl rfl) (good_of h1).1 (good_of h1).2.1), h2⟩, by rw [cst_length]; exact h3, fun i j hi hj ha => ?_⟩
  rw [cst_length] at hi hj
  rw [cst_arw hi hj] at ha
  cases ha
theorem mapOk_turned {G H : List (List Int)} {f : List Int} (hG : Good G) (hH : Good H) : mapOkI (turnedL G) (turnedL H) f = mapOkI G H f := by
  rw [Bool.eq_iff_iff, mapOk_iff, mapOk_iff, map_turned_iff hG hH]
  simp [gOk_true hG, gOk_true hH, gOk_true (turned_good hG), gOk_true (turned_good hH)]
theorem made_own {w : World} (m : Nat) (hm : m ≤ 1000) : (w.alloc (.cells (madeCells #[.int .i64 0] m) 3)).ownsRow w.heap.size 3 1 (.slice (some ⟨w.heap.size, 0, none⟩) m m) (List.replicate m (0 : Int)).length ((List.replicate m (0 : Int)).map (Value.int .i64)) := by
  have h := World.ownsRow_lit (base := w.heap.size) (e := 3) (size := 1) w (madeCells #[.int .i64 0] m) m (Nat.le_refl _) (by unfold maxLen; omega) (by rw [size_madeCells]; omega)
  rw [made_list] at h
  rw [List.length_replicate, List.map_replicate]
  exact h

end Go.Proofs.Ytldkgkpiceamhaa
