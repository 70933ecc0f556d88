/-
  The draws of stage 5: l20Loose; DrawStaysOk, DrawImageOf, DrawStaysOf, DrawCoreOf, DrawCoreOk, DrawTurnsOf, DrawRigidOk.
-/
import Derived.Test.YtdolpkjighbohaaZP
import Derived.Test.YtdolpkjighbohaaZV
namespace Go.Proofs.Ytdolpkjighbohaa
open Go.RowKit Go.Shelf Go.Deep

/-- Two nodes, each with an arrow to the other one. -/
def turnG : List (List Int) := [[0, 1], [1, 0]]
theorem turnG_fit : Fit turnG := ⟨by decide, fun xs hx => by
  simp only [turnG, List.mem_cons, List.not_mem_nil, or_false] at hx
  rcases hx with rfl | rfl <;> decide⟩
theorem turn_lit (w : World) {B : Nat} (hB : B < w.heap.size) (hs : ∀ (W : World) (k : Nat), k ≠ B → (W.setRow B #[]).heap[k]? = W.heap[k]?) :
    Mat (((w.alloc (.cells #[.int .i64 0, .int .i64 1] 3)).alloc (.cells #[.int .i64 1, .int .i64 0] 3)).alloc (.cells #[.slice (some ⟨w.heap.size, 0, none⟩) 2 2, .slice (some ⟨w.heap.size + 1, 0, none⟩) 2 2] 24)).heap.size
      ((((w.alloc (.cells #[.int .i64 0, .int .i64 1] 3)).alloc (.cells #[.int .i64 1, .int .i64 0] 3)).alloc (.cells #[.slice (some ⟨w.heap.size, 0, none⟩) 2 2, .slice (some ⟨w.heap.size + 1, 0, none⟩) 2 2] 24)).setRow B #[]) (some ⟨w.heap.size + 2, 0, none⟩) turnG := by
  have e1 : (((w.alloc (.cells #[.int .i64 0, .int .i64 1] 3)).alloc (.cells #[.int .i64 1, .int .i64 0] 3)).alloc (.cells #[.slice (some ⟨w.heap.size, 0, none⟩) 2 2, .slice (some ⟨w.heap.size + 1, 0, none⟩) 2 2] 24)).heap[w.heap.size + 2]? = some (.cells #[.slice (some ⟨w.heap.size, 0, none⟩) 2 2, .slice (some ⟨w.heap.size + 1, 0, none⟩) 2 2] 24) := by
    have h := World.alloc_heap_new ((w.alloc (.cells #[.int .i64 0, .int .i64 1] 3)).alloc (.cells #[.int .i64 1, .int .i64 0] 3)) (.cells #[.slice (some ⟨w.heap.size, 0, none⟩) 2 2, .slice (some ⟨w.heap.size + 1, 0, none⟩) 2 2] 24)
    simpa using h
  have e2 : (((w.alloc (.cells #[.int .i64 0, .int .i64 1] 3)).alloc (.cells #[.int .i64 1, .int .i64 0] 3)).alloc (.cells #[.slice (some ⟨w.heap.size, 0, none⟩) 2 2, .slice (some ⟨w.heap.size + 1, 0, none⟩) 2 2] 24)).heap[w.heap.size + 1]? = some (.cells #[.int .i64 1, .int .i64 0] 3) := by
    have h := World.alloc_heap_new (w.alloc (.cells #[.int .i64 0, .int .i64 1] 3)) (.cells #[.int .i64 1, .int .i64 0] 3)
    rw [Below.heap_alloc _ _ _ (by simp)]
    simpa using h
  have e3 : (((w.alloc (.cells #[.int .i64 0, .int .i64 1] 3)).alloc (.cells #[.int .i64 1, .int .i64 0] 3)).alloc (.cells #[.slice (some ⟨w.heap.size, 0, none⟩) 2 2, .slice (some ⟨w.heap.size + 1, 0, none⟩) 2 2] 24)).heap[w.heap.size]? = some (.cells #[.int .i64 0, .int .i64 1] 3) := by
    have h := World.alloc_heap_new w (.cells #[.int .i64 0, .int .i64 1] 3)
    rw [Below.heap_alloc _ _ _ (by simp; omega), Below.heap_alloc _ _ _ (by simp)]
    exact h
  generalize (((w.alloc (.cells #[.int .i64 0, .int .i64 1] 3)).alloc (.cells #[.int .i64 1, .int .i64 0] 3)).alloc (.cells #[.slice (some ⟨w.heap.size, 0, none⟩) 2 2, .slice (some ⟨w.heap.size + 1, 0, none⟩) 2 2] 24)) = V at e1 e2 e3 ⊢
  have s1 := (hs V (w.heap.size + 2) (by omega)).trans e1
  have s2 := (hs V (w.heap.size + 1) (by omega)).trans e2
  have s3 := (hs V w.heap.size (by omega)).trans e3
  have l1 : w.heap.size + 2 < V.heap.size := (Array.getElem?_eq_some_iff.1 e1).1
  generalize V.setRow B #[] = U at s1 s2 s3 ⊢
  refine fun _ => ⟨w.heap.size + 2, 0, rfl, l1, fun i hi => ?_⟩
  have hi2 : i = 0 ∨ i = 1 := by simp [turnG] at hi; omega
  rcases hi2 with rfl | rfl
  · refine ⟨some ⟨w.heap.size, 0, none⟩, 2, by simp [World.cell?, s1, turnG], fun _ => ⟨w.heap.size, 0, rfl, by omega, fun j hj => ?_⟩⟩
    have hj2 : j = 0 ∨ j = 1 := by simp [turnG] at hj; omega
    rcases hj2 with rfl | rfl <;> simp [World.cell?, s3, turnG]
  · refine ⟨some ⟨w.heap.size + 1, 0, none⟩, 2, by simp [World.cell?, s1, turnG], fun _ => ⟨w.heap.size + 1, 0, rfl, by omega, fun j hj => ?_⟩⟩
    have hj2 : j = 0 ∨ j = 1 := by simp [turnG] at hj; omega
    rcases hj2 with rfl | rfl <;> simp [World.cell?, s2, turnG]
theorem bes_turn {H : List (List Int)} (h2 : H.length ≤ 2) : (besL turnG H).length ≤ 4 ∧ Fit (besL turnG H) := by
  by_cases h : besOk turnG H = true
  · have := bes_length h
    exact ⟨by rw [this]; simp [turnG]; omega, (bes_good h).fit⟩
  · rw [besL_no (by simpa using h)]
    exact ⟨by simp, by simp, fun xs hx => by cases hx⟩

/-- A GRAPH, or what is none, AND A LIST ARE DRAWN. -/
def DrawnML (m : Nat) (w : World) (e : Ending) (w' : World) : Prop :=
  ∃ (a : Option Addr) (c : Nat) (xss : List (List Int)) (a3 : Option Addr) (c3 : Nat) (f : List Int), e = .returned (.tuple #[.slice a xss.length c, .slice a3 f.length c3]) ∧
    (Fit xss ∧ Mat w'.heap.size w' a xss ∧ xss.length ≤ m) ∧ (f.length ≤ 1048576 ∧ Ints w'.heap.size w' a3 f) ∧ Below w.heap.size w w'

end Go.Proofs.Ytdolpkjighbohaa
