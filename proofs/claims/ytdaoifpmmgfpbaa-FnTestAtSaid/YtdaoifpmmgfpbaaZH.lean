/-
  Several texts in one.
  Two graphs and a row drawn: l20Map.
  Two graphs of at most four nodes drawn: DrawBelowOk, DrawSameLevel, DrawMapsOf, DrawCountOf.
-/
import Derived.Test.YtdaoifpmmgfpbaaZK
import Derived.Test.YtdaoifpmmgfpbaaM9
import Derived.Deep.RegionHeld3
import Derived.OwnWalk
import Derived.Test.YtdaoifpmmgfpbaaC2
namespace Go.Proofs.Ytdaoifpmmgfpbaa
open Go.RowKit Go.Shelf Go.Deep

theorem OwnMat.erased {base B : Nat} {W : World} {v : Value} {xss : List (List Int)} (h : OwnMat base W v xss) (hB : B < base) : OwnMat base (W.setRow B #[]) v xss := by
  obtain ⟨vs, ho, hv⟩ := h
  exact ⟨vs, ho.kept (erased_grown W B) (.inr fun e => by have := (ho.lt B e).1; omega), fun i x xs hx hxs => (hv i x xs hx hxs).kept (erased_grown W B) (.inr fun e => by have := ((hv i x xs hx hxs).lt B e).1; omega)⟩
theorem OwnMat.matErased {base B : Nat} {W : World} {a : Option Addr} {c : Nat} {xss : List (List Int)} (h : OwnMat base W (.slice a xss.length c) xss) (hB : B < base) : Mat W.heap.size (W.setRow B #[]) a xss := by
  have := (h.erased hB).mat
  rwa [show (W.setRow B #[]).heap.size = W.heap.size by simp] at this
/-- TWO GRAPHS, or what are none, AND A ROW ARE DRAWN. -/
def DrawnMap (n₀ B N : Nat) (w : World) (e : Ending) (w' : World) : Prop :=
  ∃ (a : Option Addr) (c : Nat) (xss : List (List Int)) (a' : Option Addr) (c' : Nat) (yss : List (List Int)) (a3 : Option Addr) (c3 : Nat) (f : List Int), e = .returned (.tuple #[.slice a xss.length c, .slice a' yss.length c', .slice a3 f.length c3]) ∧
    (Fit xss ∧ Mat w'.heap.size (w'.setRow B #[]) a xss ∧ xss.length ≤ 4) ∧ (Fit yss ∧ Mat w'.heap.size (w'.setRow B #[]) a' yss ∧ yss.length ≤ 4) ∧ (f.length ≤ 1048576 ∧ Ints w'.heap.size (w'.setRow B #[]) a3 f) ∧ Rd n₀ B w' N ∧ w.grownBy w' (some B)

end Go.Proofs.Ytdaoifpmmgfpbaa

namespace Go.Proofs.Ytdaoifpmmgfpbaa
open Go.RowKit Go.Shelf

/-- TWO GRAPHS OF AT MOST FOUR NODES, or what are none, ARE DRAWN. -/
def DrawnP4 (w : World) (e : Ending) (w' : World) : Prop :=
  ∃ (a : Option Addr) (c : Nat) (xss : List (List Int)) (a' : Option Addr) (c' : Nat) (yss : List (List Int)), e = .returned (.tuple #[.slice a xss.length c, .slice a' yss.length c']) ∧ (Fit xss ∧ Mat w'.heap.size w' a xss ∧ xss.length ≤ 4) ∧ (Fit yss ∧ Mat w'.heap.size w' a' yss ∧ yss.length ≤ 4) ∧ Below w.heap.size w w'

end Go.Proofs.Ytdaoifpmmgfpbaa
