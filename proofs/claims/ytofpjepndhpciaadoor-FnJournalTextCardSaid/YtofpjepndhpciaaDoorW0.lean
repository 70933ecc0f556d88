/-
  A list of one's own, built by append, is marked.
-/
import Derived.Test.YtofpjepndhpciaaDoorZA
import Derived.Test.YtofpjepndhpciaaDoorZB
import Derived.Test.YtofpjepndhpciaaDoorZI
namespace Go.Proofs.YtofpjepndhpciaaDoor
open Go.RowKit Go.Shelf Go.Deep

theorem own_blockQ {W W' : World} {base e n : Nat} {v : Value} {xs : List Value} (h : W.ownsRow base e 1 v n xs) (hk : ∀ g, v.ownBlock = some g → W'.heap[g]? = W.heap[g]?) : W'.ownsRow base e 1 v n xs := by
  obtain ⟨h1, h2⟩ := h
  refine ⟨h1, ?_⟩
  rcases h2 with h0 | ⟨g, cap, cur, rfl, hb, hg, hr⟩
  · exact .inl h0
  · exact .inr ⟨g, cap, cur, rfl, hb, (hk g rfl).trans hg, hr⟩
def MarkOQ (base : Nat) (x : Value) (k m : Nat) (w : World) (e : Ending) (w' : World) : Prop := e = .returned (.int .i64 ((k + m : Nat) : Int)) ∧ w'.ownsRow base 3 1 x m ((seqL k m).map (Value.int .i64)) ∧ Touch (fun B => x.ownBlock = some B) w w'
theorem seqL_moreQ (k m : Nat) : seqL k (m + 1) = seqL k m ++ [((k + m : Nat) : Int)] := by simp [seqL, List.range_succ]
theorem set_markQ (k j : Nat) (xs : List Int) (hj : j < xs.length) : ((seqL k j ++ xs.drop j).map (Value.int .i64)).set j (.int .i64 ((k + j : Nat) : Int)) = (seqL k (j + 1) ++ xs.drop (j + 1)).map (Value.int .i64) := by
  rw [seqL_moreQ, List.drop_eq_getElem_cons hj, ← List.map_set]
  congr 1
  rw [List.set_append_right _ _ (by rw [seqL_length]; exact Nat.le_refl _), seqL_length, Nat.sub_self, List.set_cons_zero, List.append_assoc]
  rfl
theorem own_intsQ {W : World} {base c : Nat} {a : Option Addr} {xs : List Int} (h : W.ownsRow base 3 1 (.slice a xs.length c) xs.length (xs.map (Value.int .i64))) : Ints W.heap.size W a xs := by
  obtain ⟨aa, cc, e, hI⟩ := own_ints (xs := xs) (x := .slice a xs.length c) h
  cases e
  exact hI

/-- A NEW LIST, of any capacity (nil where it is empty). -/
def MadeOwn (xs : List Int) (w : World) (e : Ending) (w' : World) : Prop := ∃ (a : Option Addr) (c : Nat), (e = .returned (.slice a xs.length c) ∧ Below w.heap.size w w') ∧ w'.ownsRow w.heap.size 3 1 (.slice a xs.length c) xs.length (xs.map (Value.int .i64))

end Go.Proofs.YtofpjepndhpciaaDoor
