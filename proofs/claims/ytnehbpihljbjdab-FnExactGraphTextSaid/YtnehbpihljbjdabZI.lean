/-
  Several texts in one.
  Sizes and marks of a second slice of rows.
  The model's BehindOf.
  Marks of a list that is new or nil; marks behind many others.
-/
import Derived.Test.YtnehbpihljbjdabZA
import Derived.Test.YtnehbpihljbjdabG2
import Derived.Test.YtnehbpihljbjdabZQ
import Derived.Test.YtnehbpihljbjdabZN
namespace Go.Proofs.Ytnehbpihljbjdab
open Go.RowKit Go.Shelf

/-- WHAT szIntSS SAYS: where it is not negative, all is short, and what is left is no more than it was at most. -/
def SzLe (xss : List (List Int)) (w : World) (e : Ending) (w' : World) : Prop := ∃ r : Int, (e = .returned (.int .i64 r) ∧ w = w') ∧ r ≤ 1048576 ∧ (0 ≤ r → Fit xss)

set_option maxHeartbeats 400000 in
theorem szSS_le (a : Option Addr) (c : Nat) (xss : List (List Int)) (n₀ : Nat) (w : World) (L : Int) (hL0 : 0 ≤ L) (hL1 : L ≤ 1048576) (hM : Mat n₀ w a xss) (hl : xss.length ≤ 9223372036854775807) (hr : ∀ xs ∈ xss, xs.length ≤ 9223372036854775807) :
    Calls Try.prog 4 #[.slice a xss.length c, .int .i64 L] w (SzLe xss w) := by
  have Hl : Hid (xss.length ≤ 9223372036854775807) := hl
  have Hr : Hid (∀ xs ∈ xss, xs.length ≤ 9223372036854775807) := hr
  clear hr
  by_cases hbig : L < (xss.length : Int)
  · go_enter Try.func4, Try.ntmps4
    go_wp2
    go_ret
    exact ⟨-1, ⟨rfl, rfl⟩, by omega, fun h => absurd h (by omega)⟩
  · go_enter Try.func4, Try.ntmps4
    go_wp2
    go_loop [1, 5] (fun l i => ∃ (k : Nat) (r : Int), k ≤ xss.length ∧ i = .int .i64 k ∧ l = .int .i64 r ∧ 0 ≤ r ∧ r ≤ 1048576 ∧ Hid (∀ j xs, j < k → xss[j]? = some xs → xs.length ≤ 1048576))
      (fun _ i => xss.length - (intOf i).toNat)
    case atStart => exact ⟨0, _, Nat.zero_le _, rfl, rfl, by omega, by omega, fun j xs h => absurd h (Nat.not_lt_zero _)⟩
    case round =>
      obtain ⟨k, r, hk, rfl, rfl, hr0, hr1, HF⟩ := hrel
      by_cases hlt : k < xss.length
      · obtain ⟨b, o, a', c', xs, rfl, hb, hc, hI, HX⟩ := hM.at_ hlt
        have hm : xs.length ≤ 9223372036854775807 := Hr.out xs (List.mem_of_getElem? HX.out)
        by_cases hx : (xs.length : Int) ≤ r
        · go_wp2_with (go_at_call 9; refine (szS_yes _ _ _ _ _ (by omega) (by omega)).mono ?_; rintro e w' ⟨rfl, rfl⟩)
          go_round
          case rel => exact ⟨k + 1, r - xs.length, by omega, by go_num, rfl, by omega, by omega, fun j ys hj hy => by
            by_cases e : j = k
            · subst e; rw [HX.out] at hy; cases hy; omega
            · exact HF.out j ys (by omega) hy⟩
          case measure => simp [intOf]; omega
        · go_wp2_with (go_at_call 9; refine (szS_no _ _ _ _ _ (by omega) (by omega) (by omega)).mono ?_; rintro e w' ⟨rfl, rfl⟩)
          go_ret
          exact ⟨-1, ⟨rfl, rfl⟩, by omega, fun h => absurd h (by omega)⟩
      · obtain rfl : k = xss.length := by omega
        go_wp2
        go_ret
        refine ⟨_, ⟨rfl, rfl⟩, by omega, fun _ => ⟨by omega, fun xs hxs => ?_⟩⟩
        obtain ⟨j, hj, rfl⟩ := List.mem_iff_getElem.1 hxs
        exact HF.out j _ hj (List.getElem?_eq_getElem hj)

end Go.Proofs.Ytnehbpihljbjdab

namespace Go.Proofs.Ytnehbpihljbjdab
open Go.RowKit Go.Shelf Go.Deep

/-- A NEW LIST THAT CAN BE READ. -/
def ReadI (xs : List Int) (w : World) (e : Ending) (w' : World) : Prop := ∃ (a : Option Addr) (c : Nat), (e = .returned (.slice a xs.length c) ∧ Below w.heap.size w w') ∧ Ints w'.heap.size w' a xs

end Go.Proofs.Ytnehbpihljbjdab

namespace Go.Proofs.Ytnehbpihljbjdab
open Go.RowKit Go.Shelf

theorem behI_le {G H K : List (List Int)} {f e : List Int} (hl : f.length ≤ 1048576) : (behI G H K f e).length ≤ 1048576 := by
  by_cases h : mapOkI G H f = true ∧ mapOkI H K e = true
  · rw [behI_yes h.1 h.2, behL_length]; exact hl
  · rw [behI_no h]; simp
theorem Touch.rowI' {S : Nat → Prop} {W W' : World} {b : Nat} {xs : List Int} (h : Touch S W W') (hr : RowI W b xs) (hb : ¬ S b) : RowI W' b xs := World.rowIs.of_block hr (h.block b hb)
theorem OwnI.below {base : Nat} {W W' : World} {a : Option Addr} {c : Nat} {xs : List Int} (h : OwnI base W a c xs) (hb : Below W.heap.size W W') : OwnI base W' a c xs := by
  rcases h with h | ⟨b, h1, h2, h3, h4⟩
  · exact .inl h
  · exact .inr ⟨b, h1, h2, h3.below hb h3.lt, h4⟩
theorem OwnI.ints {base : Nat} {W : World} {a : Option Addr} {c : Nat} {xs : List Int} (h : OwnI base W a c xs) : Ints W.heap.size W a xs := by
  rcases h with ⟨rfl, rfl, rfl⟩ | ⟨b, rfl, rfl, h3, h4⟩
  · exact fun hne => absurd rfl hne
  · exact h3.ints h3.lt
theorem Touch.ownI {base n : Nat} {S : Nat → Prop} {W W' : World} {a : Option Addr} {c : Nat} {xs : List Int} (ht : Touch S W W') (h : OwnI base W a c xs) (hS : ∀ B, S B → B < n) (hn : n ≤ base) : OwnI base W' a c xs := by
  rcases h with h | ⟨b, h1, h2, h3, h4⟩
  · exact .inl h
  · exact .inr ⟨b, h1, h2, ht.rowI' h3 (fun s => by have := hS _ s; omega), h4⟩

/-- A NEW LIST, nil or not, IS MARKED. -/
def MarkI (base : Nat) (a : Option Addr) (c k : Nat) (xs : List Int) (w : World) (e : Ending) (w' : World) : Prop :=
  e = .returned (.int .i64 ((k + xs.length : Nat) : Int)) ∧ OwnI base w' a c (seqL k xs.length) ∧ Touch (fun B => base ≤ B) w w'
end Go.Proofs.Ytnehbpihljbjdab
