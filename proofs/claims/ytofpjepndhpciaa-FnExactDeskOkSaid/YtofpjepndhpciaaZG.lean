/-
  Several texts in one.
  slices.Contains over a list of numbers; impl.someNodes.
  impl.PartOf.
-/
import Derived.Test.YtofpjepndhpciaaZB
import Derived.Test.YtofpjepndhpciaaZF
import Derived.StillTailTactics
namespace Go.Proofs.Ytofpjepndhpciaa
open Go.RowKit Go.Shelf

/-- THE FIRST PLACE of v, or a number below 0. -/
def IdxPost (xs : List Int) (v : Int) (w : World) (e : Ending) (w' : World) : Prop := ∃ r : Int, (e = .returned (.int .i64 r) ∧ w = w') ∧ (0 ≤ r ↔ v ∈ xs)

/-- NODES OF m, each once. -/
def Nodes (m : Nat) (ys : List Int) : Prop := (∀ (j : Nat) (y : Int), ys[j]? = some y → 0 ≤ y ∧ y < m) ∧ ∀ (i j : Nat) (y : Int), i < j → ys[i]? = some y → ys[j]? ≠ some y
/-- The first k are so. -/
def NodesTo (m : Nat) (ys : List Int) (k : Nat) : Prop := (∀ (j : Nat) (y : Int), j < k → ys[j]? = some y → 0 ≤ y ∧ y < m) ∧ ∀ (i j : Nat) (y : Int), i < j → j < k → ys[i]? = some y → ys[j]? ≠ some y
theorem nodesTo_zero (m : Nat) (ys : List Int) : NodesTo m ys 0 := ⟨fun _ _ h => absurd h (Nat.not_lt_zero _), fun _ _ _ _ h => absurd h (Nat.not_lt_zero _)⟩
theorem nodesTo_succ {m : Nat} {ys : List Int} {k : Nat} {y : Int} (h : NodesTo m ys k) (hy : ys[k]? = some y) (h0 : 0 ≤ y) (h1 : y < m) (hn : y ∉ ys.take k) : NodesTo m ys (k + 1) := by
  refine ⟨fun j x hj hx => ?_, fun i j x hij hj hi hx => ?_⟩
  · by_cases e : j = k
    · subst e; rw [hy] at hx; cases hx; exact ⟨h0, h1⟩
    · exact h.1 j x (by omega) hx
  · by_cases e : j = k
    · subst e
      rw [hy] at hx; cases hx
      exact hn (List.mem_of_getElem? (by rw [List.getElem?_take, if_pos hij]; exact hi))
    · exact h.2 i j x hij (by omega) hi hx
theorem nodes_all {m : Nat} {ys : List Int} (h : NodesTo m ys ys.length) : Nodes m ys :=
  ⟨fun j y hy => h.1 j y (List.getElem?_eq_some_iff.1 hy).1 hy, fun i j y hij hi hj => h.2 i j y hij (List.getElem?_eq_some_iff.1 hj).1 hi hj⟩
theorem not_nodes_range {m : Nat} {ys : List Int} {k : Nat} {y : Int} (hy : ys[k]? = some y) (h : ¬ (0 ≤ y ∧ y < m)) : ¬ Nodes m ys := fun hN => h (hN.1 k y hy)
theorem not_nodes_twice {m : Nat} {ys : List Int} {k : Nat} {y : Int} (hy : ys[k]? = some y) (h : y ∈ ys.take k) : ¬ Nodes m ys := fun hN => by
  obtain ⟨i, hi, e⟩ := List.mem_iff_getElem.1 h
  have hik : i < k := by rw [List.length_take] at hi; omega
  refine hN.2 i k y hik ?_ hy
  rw [List.getElem_take] at e
  rw [← e]; exact List.getElem?_eq_getElem _
/-- Not more than there are. -/
theorem nodes_le : ∀ {m : Nat} {ys : List Int}, Nodes m ys → ys.length ≤ m
  | 0, [], _ => by simp
  | 0, y :: ys, h => by have := h.1 0 y rfl; omega
  | m + 1, ys, h => by
    by_cases hm : (m : Int) ∈ ys
    · obtain ⟨i, hi, e⟩ := List.mem_iff_getElem.1 hm
      have h2 : Nodes m (ys.eraseIdx i) := by
        have key : ∀ (j : Nat) (y : Int), (ys.eraseIdx i)[j]? = some y → ∃ j', j' ≠ i ∧ ys[j']? = some y ∧ j' = if j < i then j else j + 1 := fun j y hy => by
          rw [List.getElem?_eraseIdx] at hy
          by_cases hj : j < i
          · rw [if_pos hj] at hy; exact ⟨j, by omega, hy, by rw [if_pos hj]⟩
          · rw [if_neg hj] at hy; exact ⟨j + 1, by omega, hy, by rw [if_neg hj]⟩
        have ei : ys[i]? = some (m : Int) := by rw [List.getElem?_eq_getElem hi, e]
        refine ⟨fun j y hy => ?_, fun a b y hab ha hb => ?_⟩
        · obtain ⟨j', hne, hj', _⟩ := key j y hy
          have hr := h.1 j' y hj'
          have : y ≠ m := fun e => by
            subst e
            rcases Nat.lt_or_gt_of_ne hne with hl | hl
            · exact h.2 j' i _ hl hj' ei
            · exact h.2 i j' _ hl ei hj'
          omega
        · obtain ⟨a', _, ha', ea⟩ := key a y ha
          obtain ⟨b', _, hb', eb⟩ := key b y hb
          refine h.2 a' b' y ?_ ha' hb'
          by_cases h1 : a < i <;> by_cases h2 : b < i <;> simp only [h1, h2, if_true, if_false] at ea eb <;> omega
      have := nodes_le h2
      rw [List.length_eraseIdx_of_lt hi] at this
      omega
    · have h2 : Nodes m ys := ⟨fun j y hy => by
        have hr := h.1 j y hy
        have : y ≠ m := fun e => hm (e ▸ List.mem_of_getElem? hy)
        omega, h.2⟩
      have := nodes_le h2
      omega

theorem Ints.take {n₀ : Nat} {W : World} {a : Option Addr} {xs : List Int} (h : Ints n₀ W a xs) (k : Nat) : Ints n₀ W a (xs.take k) := fun hne => by
  obtain ⟨b, o, e, hb, hc⟩ := h fun e => hne (by rw [e]; simp)
  refine ⟨b, o, e, hb, fun j hj => ?_⟩
  rw [List.length_take] at hj
  rw [hc j (by omega), List.getElem?_take, if_pos (by omega)]
end Go.Proofs.Ytofpjepndhpciaa

namespace Go.Proofs.Ytofpjepndhpciaa
open Go.RowKit Go.Shelf Go.Deep

/-- The node told at place i. -/
def nd (ys : List Int) (i : Nat) : Nat := (ys[i]?.getD 0).toNat
theorem nd_eq {ys : List Int} {i : Nat} {y : Int} (h : ys[i]? = some y) : nd ys i = y.toNat := by simp [nd, h]
open Classical in
/-- THE GRAPH OF SOME NODES; nothing for others. -/
noncomputable def partL (xss : List (List Int)) (ys : List Int) : List (List Int) :=
  if gOk xss = true ∧ 1 ≤ ys.length ∧ Nodes xss.length ys then rowsP ys.length (fun i j => arw xss (nd ys i) (nd ys j)) else []
theorem partL_yes {xss : List (List Int)} {ys : List Int} (h : gOk xss = true) (h1 : 1 ≤ ys.length) (hN : Nodes xss.length ys) : partL xss ys = rowsP ys.length (fun i j => arw xss (nd ys i) (nd ys j)) := if_pos ⟨h, h1, hN⟩
theorem partL_no {xss : List (List Int)} {ys : List Int} (h : ¬ (gOk xss = true ∧ 1 ≤ ys.length ∧ Nodes xss.length ys)) : partL xss ys = [] := if_neg h

theorem arrowC (n₀ : Nat) (a : Option Addr) (c : Nat) (xss : List (List Int)) (w : World) (hM : Mat n₀ w a xss) (hn : n₀ ≤ w.heap.size) (hG : Good xss) (i j : Nat) (hi : i < xss.length) (hj : j < xss.length) :
    Calls Try.prog 51 #[.agg #[.slice a xss.length c], .int .i64 i, .int .i64 j] w fun e w' => e = .returned (.bool (arw xss i j)) ∧ w' = w.alloc (.cells #[.slice a xss.length c] 51) :=
  callsIn_wide.1 (arrow_in Fence.wide 0 (fun _ => trivial) rfl n₀ a c xss w hM hn hG i j hi hj)

end Go.Proofs.Ytofpjepndhpciaa
