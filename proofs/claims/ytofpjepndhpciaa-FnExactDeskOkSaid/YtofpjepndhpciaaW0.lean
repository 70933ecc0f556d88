/-
  A list of one's own, built by append, is marked.
-/
import Derived.Test.YtofpjepndhpciaaZA
import Derived.Test.YtofpjepndhpciaaZB
import Derived.Test.YtofpjepndhpciaaZI
namespace Go.Proofs.Ytofpjepndhpciaa
open Go.RowKit Go.Shelf Go.Deep

theorem own_blockQ {W W' : World} {base e n : Nat} {v : Value} {xs : List Value} (h : W.ownsRow base e 1 v n xs) (hk : ∀ g, v.ownBlock = some g → W'.heap[g]? = W.heap[g]?) : W'.ownsRow base e 1 v n xs := by
  obtain ⟨h1, h2⟩ := h
  refine ⟨h1, ?_⟩
  rcases h2 with h0 | ⟨g, cap, cur, rfl, hb, hg, hr⟩
  · exact .inl h0
  · exact .inr ⟨g, cap, cur, rfl, hb, (hk g rfl).trans hg, hr⟩
def MarkOQ (base : Nat) (x : Value) (k m : Nat) (w : World) (e : Ending) (w' : World) : Prop := e = .returned (.int .i64 ((k + m : Nat) : Int)) ∧ w'.ownsRow base 3 1 x m ((seqL k m).map (Value.int .i64)) ∧ Touch (fun B => x.ownBlock = some B) w w'
theorem seqL_moreQ (k m : Nat) : seqL k (m + 1) = seqL k m ++ [((k + m : Nat) : Int)] := by simp [seqL, List.range_succ]
theorem set_markQ (k j : Nat) (xs : List Int) (hj : j < xs.length) : ((seqL k j ++ xs.drop j).map (Value.int .i64)).set j (.int .i64 ((k + j : Nat) : Int)) = (seqL k (j + 1) ++ xs.drop (j + 1)).map (Value.int .i64) := by
  rw [seqL_moreQ, List.drop_eq_getElem_cons hj, ← List.map_set]
  congr 1
  rw [List.set_append_right _ _ (by rw [seqL_length]; exact Nat.le_refl _), seqL_length, Nat.sub_self, List.set_cons_zero, List.append_assoc]
  rfl
set_option maxHeartbeats 1000000 in
theorem markO_anyQ (base : Nat) (x : Value) (k : Nat) (xs : List Int) (w : World) (hR : w.ownsRow base 3 1 x xs.length (xs.map (Value.int .i64))) (hl : xs.length ≤ 1048576) (hk : k ≤ 4000000000000) :
    Calls Try.prog 41 #[x, .int .i64 k] w (MarkOQ base x k xs.length w) := by
  rcases hR.2 with ⟨rfl, h0⟩ | ⟨g, cap, cur, rfl, _⟩
  · have hxs : xs = [] := List.eq_nil_of_length_eq_zero h0
    subst hxs
    go_enter Try.func41, Try.ntmps41
    go_wp2
    go_loopw [1, 5] (fun t i wr => i = .int .i64 0 ∧ t = .int .i64 (k : Int) ∧ wr = w) (fun _ _ _ => 0)
    case atStart => exact ⟨rfl, rfl, rfl⟩
    case round =>
      obtain ⟨rfl, rfl, rfl⟩ := hrel
      go_wp2
      go_ret
      exact ⟨rfl, World.ownsRow_nil _ _ _ _, Touch.refl _ _⟩
  · have HR0 : Hid (w.ownsRow base 3 1 (.slice (some ⟨g, 0, none⟩) xs.length cap) xs.length ((seqL k 0 ++ xs.drop 0).map (Value.int .i64))) := Lib.hid (by simpa [seqL] using hR)
    clear hR
    go_enter Try.func41, Try.ntmps41
    go_wp2
    go_loopw [1, 5] (fun t i wr => ∃ j : Nat, j ≤ xs.length ∧ i = .int .i64 j ∧ t = .int .i64 ((k + j : Nat) : Int) ∧ Hid (wr.ownsRow base 3 1 (.slice (some ⟨g, 0, none⟩) xs.length cap) xs.length ((seqL k j ++ xs.drop j).map (Value.int .i64))) ∧ Hid (Touch (fun B => some g = some B) w wr))
      (fun _ i _ => xs.length - (intOf i).toNat)
    case atStart => exact ⟨0, Nat.zero_le _, rfl, rfl, HR0, Touch.refl _ _⟩
    case round =>
      obtain ⟨j, hj, rfl, rfl, HR, HT⟩ := hrel
      clear HR0
      by_cases hlt : j < xs.length
      · have hc : wr.cell? ⟨g, j, none⟩ = some (.int .i64 (xs[j]'hlt)) := by
          rw [HR.out.cellAt j (by omega), List.getElem?_map, List.getElem?_append_right (by rw [seqL_length]; exact Nat.le_refl _), seqL_length, Nat.sub_self, List.getElem?_drop, Nat.add_zero, List.getElem?_eq_getElem hlt]; rfl
        have hf := HR.out.frozenAt j
        have HS := Lib.hid (HR.out.stored j (.int .i64 ((k + j : Nat) : Int))).1
        have e1 : ((k + j : Nat) : Int) = (k : Int) + j := by omega
        rw [set_markQ k j xs hlt, e1] at HS
        rw [e1]
        go_wp2
        go_roundw
        case rel => exact ⟨j + 1, by omega, by go_num, by rw [show ((k + (j + 1) : Nat) : Int) = (k : Int) + j + 1 by omega], HS, Lib.hid (HT.out.trans (Touch.set (S := fun B => some g = some B) _ rfl j _))⟩
        case measure => simp [intOf]; omega
      · obtain rfl : j = xs.length := by omega
        go_wp2
        go_ret
        refine ⟨rfl, ?_, HT.out⟩
        have h := HR.out
        rw [List.drop_length, List.append_nil] at h
        exact h

theorem own_intsQ {W : World} {base c : Nat} {a : Option Addr} {xs : List Int} (h : W.ownsRow base 3 1 (.slice a xs.length c) xs.length (xs.map (Value.int .i64))) : Ints W.heap.size W a xs := by
  obtain ⟨aa, cc, e, hI⟩ := own_ints (xs := xs) (x := .slice a xs.length c) h
  cases e
  exact hI

/-- A NEW LIST, of any capacity (nil where it is empty). -/
def MadeOwn (xs : List Int) (w : World) (e : Ending) (w' : World) : Prop := ∃ (a : Option Addr) (c : Nat), (e = .returned (.slice a xs.length c) ∧ Below w.heap.size w w') ∧ w'.ownsRow w.heap.size 3 1 (.slice a xs.length c) xs.length (xs.map (Value.int .i64))

end Go.Proofs.Ytofpjepndhpciaa
