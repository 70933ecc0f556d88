/-
  Several texts in one.
  Sizes and marks of a second slice of rows.
  The model's BehindOf.
  Marks of a list that is new or nil; marks behind many others.
-/
import Derived.Test.YtofpjepndhpciaaDoorZA
import Derived.Test.YtofpjepndhpciaaDoorZB
import Derived.Test.YtofpjepndhpciaaDoorZQ
import Derived.Test.YtofpjepndhpciaaDoorZN
namespace Go.Proofs.YtofpjepndhpciaaDoor
open Go.RowKit Go.Shelf

/-- WHAT szIntSS SAYS: where it is not negative, all is short, and what is left is no more than it was at most. -/
def SzLe (xss : List (List Int)) (w : World) (e : Ending) (w' : World) : Prop := ∃ r : Int, (e = .returned (.int .i64 r) ∧ w = w') ∧ r ≤ 1048576 ∧ (0 ≤ r → Fit xss)

end Go.Proofs.YtofpjepndhpciaaDoor

namespace Go.Proofs.YtofpjepndhpciaaDoor
open Go.RowKit Go.Shelf Go.Deep

/-- A NEW LIST THAT CAN BE READ. -/
def ReadI (xs : List Int) (w : World) (e : Ending) (w' : World) : Prop := ∃ (a : Option Addr) (c : Nat), (e = .returned (.slice a xs.length c) ∧ Below w.heap.size w w') ∧ Ints w'.heap.size w' a xs

end Go.Proofs.YtofpjepndhpciaaDoor

namespace Go.Proofs.YtofpjepndhpciaaDoor
open Go.RowKit Go.Shelf

theorem behI_le {G H K : List (List Int)} {f e : List Int} (hl : f.length ≤ 1048576) : (behI G H K f e).length ≤ 1048576 := by
  by_cases h : mapOkI G H f = true ∧ mapOkI H K e = true
  · rw [behI_yes h.1 h.2, behL_length]; exact hl
  · rw [behI_no h]; simp
theorem Touch.rowI' {S : Nat → Prop} {W W' : World} {b : Nat} {xs : List Int} (h : Touch S W W') (hr : RowI W b xs) (hb : ¬ S b) : RowI W' b xs := World.rowIs.of_block hr (h.block b hb)
theorem OwnI.below {base : Nat} {W W' : World} {a : Option Addr} {c : Nat} {xs : List Int} (h : OwnI base W a c xs) (hb : Below W.heap.size W W') : OwnI base W' a c xs := by
  rcases h with h | ⟨b, h1, h2, h3, h4⟩
  · exact .inl h
  · exact .inr ⟨b, h1, h2, h3.below hb h3.lt, h4⟩
theorem OwnI.ints {base : Nat} {W : World} {a : Option Addr} {c : Nat} {xs : List Int} (h : OwnI base W a c xs) : Ints W.heap.size W a xs := by
  rcases h with ⟨rfl, rfl, rfl⟩ | ⟨b, rfl, rfl, h3, h4⟩
  · exact fun hne => absurd rfl hne
  · exact h3.ints h3.lt
theorem Touch.ownI {base n : Nat} {S : Nat → Prop} {W W' : World} {a : Option Addr} {c : Nat} {xs : List Int} (ht : Touch S W W') (h : OwnI base W a c xs) (hS : ∀ B, S B → B < n) (hn : n ≤ base) : OwnI base W' a c xs := by
  rcases h with h | ⟨b, h1, h2, h3, h4⟩
  · exact .inl h
  · exact .inr ⟨b, h1, h2, ht.rowI' h3 (fun s => by have := hS _ s; omega), h4⟩

/-- A NEW LIST, nil or not, IS MARKED. -/
def MarkI (base : Nat) (a : Option Addr) (c k : Nat) (xs : List Int) (w : World) (e : Ending) (w' : World) : Prop :=
  e = .returned (.int .i64 ((k + xs.length : Nat) : Int)) ∧ OwnI base w' a c (seqL k xs.length) ∧ Touch (fun B => base ≤ B) w w'
end Go.Proofs.YtofpjepndhpciaaDoor
