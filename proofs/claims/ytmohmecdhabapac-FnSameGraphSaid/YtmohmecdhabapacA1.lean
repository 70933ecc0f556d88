/-
  The laws' own helpers: how large an argument is (szIntS, szIntSS).
-/
import Derived.Test.YtmohmecdhabapacBase
namespace Go.Proofs.Ytmohmecdhabapac
open Go.RowKit Go.Shelf

theorem szS_yes (a : Option Addr) (n c : Nat) (left : Int) (w : World) (hn : (n : Int) ≤ left) (h1 : left ≤ 1048576) :
    Calls Try.prog 48 #[.slice a n c, .int .i64 left] w fun e w' => e = .returned (.int .i64 (left - n)) ∧ w = w' := by
  go_enter Try.func48, Try.ntmps48
  go_wp2
  go_ret
  exact ⟨rfl, rfl⟩

theorem szS_no (a : Option Addr) (n c : Nat) (left : Int) (w : World) (h0 : 0 ≤ left) (hn : left < (n : Int)) (h1 : n ≤ 9223372036854775807) :
    Calls Try.prog 48 #[.slice a n c, .int .i64 left] w fun e w' => e = .returned (.int .i64 (-1)) ∧ w = w' := by
  go_enter Try.func48, Try.ntmps48
  go_wp2
  go_ret
  exact ⟨rfl, rfl⟩

/-- WHAT szIntSS SAYS: where it is not negative, all is short. -/
def SzPost (xss : List (List Int)) (w : World) (e : Ending) (w' : World) : Prop := ∃ r : Int, (e = .returned (.int .i64 r) ∧ w = w') ∧ (0 ≤ r → Fit xss)

set_option maxHeartbeats 400000 in
theorem szSS_any (a : Option Addr) (c : Nat) (xss : List (List Int)) (n₀ : Nat) (w : World) (hM : Mat n₀ w a xss) (hl : xss.length ≤ 9223372036854775807) (hr : ∀ xs ∈ xss, xs.length ≤ 9223372036854775807) :
    Calls Try.prog 19 #[.slice a xss.length c, .int .i64 1048576] w (SzPost xss w) := by
  have Hl : Hid (xss.length ≤ 9223372036854775807) := hl
  have Hr : Hid (∀ xs ∈ xss, xs.length ≤ 9223372036854775807) := hr
  clear hr
  by_cases hbig : 1048576 < xss.length
  · go_enter Try.func19, Try.ntmps19
    go_wp2
    go_ret
    exact ⟨-1, ⟨rfl, rfl⟩, fun h => absurd h (by omega)⟩
  · go_enter Try.func19, Try.ntmps19
    go_wp2
    go_loop [1, 5] (fun l i => ∃ (k : Nat) (r : Int), k ≤ xss.length ∧ i = .int .i64 k ∧ l = .int .i64 r ∧ 0 ≤ r ∧ r ≤ 1048576 ∧ Hid (∀ j xs, j < k → xss[j]? = some xs → xs.length ≤ 1048576))
      (fun _ i => xss.length - (intOf i).toNat)
    case atStart => exact ⟨0, _, Nat.zero_le _, rfl, rfl, by omega, by omega, fun j xs h => absurd h (Nat.not_lt_zero _)⟩
    case round =>
      obtain ⟨k, r, hk, rfl, rfl, hr0, hr1, HF⟩ := hrel
      by_cases hlt : k < xss.length
      · obtain ⟨b, o, a', c', xs, rfl, hb, hc, hI, HX⟩ := hM.at_ hlt
        have hm : xs.length ≤ 9223372036854775807 := Hr.out xs (List.mem_of_getElem? HX.out)
        by_cases hx : (xs.length : Int) ≤ r
        · go_wp2_with (go_at_call 48; refine (szS_yes _ _ _ _ _ (by omega) (by omega)).mono ?_; rintro e w' ⟨rfl, rfl⟩)
          go_round
          case rel => exact ⟨k + 1, r - xs.length, by omega, by go_num, rfl, by omega, by omega, fun j ys hj hy => by
            by_cases e : j = k
            · subst e; rw [HX.out] at hy; cases hy; omega
            · exact HF.out j ys (by omega) hy⟩
          case measure => simp [intOf]; omega
        · go_wp2_with (go_at_call 48; refine (szS_no _ _ _ _ _ (by omega) (by omega) (by omega)).mono ?_; rintro e w' ⟨rfl, rfl⟩)
          go_ret
          exact ⟨-1, ⟨rfl, rfl⟩, fun h => absurd h (by omega)⟩
      · obtain rfl : k = xss.length := by omega
        go_wp2
        go_ret
        refine ⟨_, ⟨rfl, rfl⟩, fun _ => ⟨by omega, fun xs hxs => ?_⟩⟩
        obtain ⟨j, hj, rfl⟩ := List.mem_iff_getElem.1 hxs
        exact HF.out j _ hj (List.getElem?_eq_getElem hj)

end Go.Proofs.Ytmohmecdhabapac
