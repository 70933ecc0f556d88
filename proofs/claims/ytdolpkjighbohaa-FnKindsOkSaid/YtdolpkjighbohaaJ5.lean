/-
  spec.BesideOf, walked.
-/
import Derived.Test.YtdolpkjighbohaaZJ
import Derived.Deep.AppendLies
import Derived.Deep.RegionHeld3
namespace Go.Proofs.Ytdolpkjighbohaa
open Go.RowKit Go.Shelf Go.Deep

/-- Rows, beside a yes or no. -/
def ReadB (zss : List (List Int)) (yes : Bool) (w : World) (e : Ending) (w' : World) : Prop := ∃ (a : Option Addr) (c : Nat), (e = .returned (.tuple #[.slice a zss.length c, .bool yes]) ∧ Below w.heap.size w w') ∧ Mat w'.heap.size w' a zss

/-- As ReadB; its rows are its own. -/
def ReadBO (zss : List (List Int)) (yes : Bool) (w : World) (e : Ending) (w' : World) : Prop := ∃ (a : Option Addr) (c : Nat), (e = .returned (.tuple #[.slice a zss.length c, .bool yes]) ∧ Below w.heap.size w w') ∧ OwnMat w.heap.size w' (.slice a zss.length c) zss
theorem ReadBO.read {zss : List (List Int)} {yes : Bool} {w w' : World} {e : Ending} (h : ReadBO zss yes w e w') : ReadB zss yes w e w' := by
  obtain ⟨a, c, h1, h2⟩ := h
  exact ⟨a, c, h1, h2.mat⟩

theorem ints_news {n₀ : Nat} {W : World} {b o : Nat} {xs : List Int} (h : Ints n₀ W (some ⟨b, o, none⟩) xs) : ∀ j u, (xs.map (Value.int .i64))[j]? = some u → W.cell? ((⟨b, o, none⟩ : Addr).add j) = some u := fun j u hu => by
  rw [List.getElem?_map] at hu
  have hj : j < xs.length := by
    rcases Nat.lt_or_ge j xs.length with h | h
    · exact h
    · rw [List.getElem?_eq_none h] at hu; cases hu
  obtain ⟨b', o', x, e, _, hc, HX⟩ := h.at_ hj
  cases e
  rw [HX.out] at hu
  cases hu
  rw [Addr.add_lit]
  exact hc

theorem made_list (m : Nat) : (madeCells #[Value.int .i64 0] m).toList = List.replicate m (Value.int .i64 0) := by
  apply List.ext_getElem
  · simp [madeCells]
  · intro k h1 h2
    simp [madeCells, Nat.mod_one]

end Go.Proofs.Ytdolpkjighbohaa
