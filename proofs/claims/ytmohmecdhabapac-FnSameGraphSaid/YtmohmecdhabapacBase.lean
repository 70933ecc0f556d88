/-
  Words for memory: slices of integers and of rows that read as lists, below a block number. No condition of a statement stands here.
-/
import Derived.RangeFuncNested
import Derived.RangeFuncBound
import Derived.RangeFuncCalls
import Derived.RangeFuncLeaves
import Derived.RangeFuncBox
import Derived.Shelf.Abstract
import Derived.Shelf.RegionOpen
import Derived.WalkKit
import Derived.WalkSpells
import Derived.WalkLawsBesides
import Derived.OwnWalkIn
import Derived.TacticsInMore
import Derived.LoopNIn
import Derived.LoopIn
import Derived.Lib.Hide
import Derived.RegionTactic
import Derived.ChangeAlike
import Derived.Deep.QuietTactic
import Derived.BigQuiet
import Derived.Outline
import Derived.IntWalk
import Derived.Deep.OwnRows
import Derived.Deep.LoopGhost
import Derived.KernelRfl
import Derived.Test.YtmohmecdhabapacProg
namespace Go.Proofs.Ytmohmecdhabapac
open Go.RowKit Go.Shelf

/-- THE ADDRESS a LEADS TO THE INTEGERS xs, in a block below n₀; of an empty list nothing is asked. -/
def Ints (n₀ : Nat) (W : World) (a : Option Addr) (xs : List Int) : Prop :=
  xs ≠ [] → ∃ b o, a = some ⟨b, o, none⟩ ∧ b < n₀ ∧ ∀ j, j < xs.length → W.cell? ⟨b, o + j, none⟩ = some (.int .i64 (xs[j]?.getD 0))

/-- THE ADDRESS a LEADS TO ROWS OF INTEGERS. -/
def Mat (n₀ : Nat) (W : World) (a : Option Addr) (xss : List (List Int)) : Prop :=
  xss ≠ [] → ∃ b o, a = some ⟨b, o, none⟩ ∧ b < n₀ ∧ ∀ i, i < xss.length → ∃ a' c', W.cell? ⟨b, o + i, none⟩ = some (.slice a' (xss[i]?.getD []).length c') ∧ Ints n₀ W a' (xss[i]?.getD [])

theorem Ints.keep {n₀ : Nat} {A B : World} {a : Option Addr} {xs : List Int} (h : Ints n₀ A a xs) (hk : ∀ p : Addr, p.block < n₀ → B.cell? p = A.cell? p) : Ints n₀ B a xs := fun hne => by
  obtain ⟨b, o, e, hb, hc⟩ := h hne
  exact ⟨b, o, e, hb, fun j hj => (hk ⟨b, o + j, none⟩ hb).trans (hc j hj)⟩
theorem Ints.below {n₀ : Nat} {A B : World} {a : Option Addr} {xs : List Int} (h : Ints n₀ A a xs) (hb : Below n₀ A B) : Ints n₀ B a xs := h.keep fun _ hp => hb.cell hp
theorem Ints.more {n₀ n₁ : Nat} {A : World} {a : Option Addr} {xs : List Int} (h : Ints n₀ A a xs) (hn : n₀ ≤ n₁) : Ints n₁ A a xs := fun hne => by
  obtain ⟨b, o, e, hb, hc⟩ := h hne
  exact ⟨b, o, e, by omega, hc⟩
theorem Ints.at_ {n₀ : Nat} {W : World} {a : Option Addr} {xs : List Int} (h : Ints n₀ W a xs) {k : Nat} (hk : k < xs.length) :
    ∃ b o x, a = some ⟨b, o, none⟩ ∧ b < n₀ ∧ W.cell? ⟨b, o + k, none⟩ = some (.int .i64 x) ∧ Hid (xs[k]? = some x) := by
  obtain ⟨b, o, e, hb, hc⟩ := h (by intro e; simp [e] at hk)
  exact ⟨b, o, xs[k], e, hb, by rw [hc k hk, List.getElem?_eq_getElem hk]; rfl, List.getElem?_eq_getElem hk⟩
theorem Mat.keep {n₀ : Nat} {A B : World} {a : Option Addr} {xss : List (List Int)} (h : Mat n₀ A a xss) (hk : ∀ p : Addr, p.block < n₀ → B.cell? p = A.cell? p) : Mat n₀ B a xss := fun hne => by
  obtain ⟨b, o, e, hb, hc⟩ := h hne
  refine ⟨b, o, e, hb, fun i hi => ?_⟩
  obtain ⟨a', c', h1, h2⟩ := hc i hi
  exact ⟨a', c', (hk ⟨b, o + i, none⟩ hb).trans h1, h2.keep hk⟩
theorem Mat.below {n₀ : Nat} {A B : World} {a : Option Addr} {xss : List (List Int)} (h : Mat n₀ A a xss) (hb : Below n₀ A B) : Mat n₀ B a xss := h.keep fun _ hp => hb.cell hp
theorem Mat.more {n₀ n₁ : Nat} {A : World} {a : Option Addr} {xss : List (List Int)} (h : Mat n₀ A a xss) (hn : n₀ ≤ n₁) : Mat n₁ A a xss := fun hne => by
  obtain ⟨b, o, e, hb, hc⟩ := h hne
  refine ⟨b, o, e, by omega, fun i hi => ?_⟩
  obtain ⟨a', c', h1, h2⟩ := hc i hi
  exact ⟨a', c', h1, h2.more hn⟩
theorem Mat.at_ {n₀ : Nat} {W : World} {a : Option Addr} {xss : List (List Int)} (h : Mat n₀ W a xss) {k : Nat} (hk : k < xss.length) :
    ∃ b o a' c' xs, a = some ⟨b, o, none⟩ ∧ b < n₀ ∧ W.cell? ⟨b, o + k, none⟩ = some (.slice a' xs.length c') ∧ Ints n₀ W a' xs ∧ Hid (xss[k]? = some xs) := by
  obtain ⟨b, o, e, hb, hc⟩ := h (by intro e; simp [e] at hk)
  obtain ⟨a', c', h1, h2⟩ := hc k hk
  rw [List.getElem?_eq_getElem hk] at h1 h2
  exact ⟨b, o, a', c', xss[k], e, hb, h1, h2, List.getElem?_eq_getElem hk⟩

/-- HOW LONG: none longer than the great bound of the laws. -/
def Fit (xss : List (List Int)) : Prop := xss.length ≤ 1048576 ∧ ∀ xs ∈ xss, xs.length ≤ 1048576
theorem Fit.at_ {xss : List (List Int)} (h : Fit xss) {k : Nat} {xs : List Int} (hk : xss[k]? = some xs) : xs.length ≤ 1048576 := h.2 xs (List.mem_of_getElem? hk)

theorem bcell {W w1 : World} (hb : Below W.heap.size W w1) : (∀ b o, b < W.heap.size → w1.cell? ⟨b, o, none⟩ = W.cell? ⟨b, o, none⟩) ∧ (∀ b o, b < W.heap.size → w1.frozen? ⟨b, o, none⟩ = W.frozen? ⟨b, o, none⟩) :=
  ⟨fun b o h => hb.cell (p := ⟨b, o, none⟩) h, fun b o h => hb.frozen (p := ⟨b, o, none⟩) h⟩
theorem ret_int {k : IntKind} {a b : Int} (h : a = b) : Ending.returned (.int k a) = .returned (.int k b) := by rw [h]
theorem ret_bool {a b : Bool} (h : a = b) : Ending.returned (.bool a) = .returned (.bool b) := by rw [h]

end Go.Proofs.Ytmohmecdhabapac
