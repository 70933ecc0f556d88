/-
  Several texts in one.
  Sizes and marks of a second slice of rows.
  The model's BehindOf.
  Marks of a list that is new or nil; marks behind many others.
-/
import Derived.Test.YtofpjepndhpciaaZA
import Derived.Test.YtofpjepndhpciaaZB
import Derived.Test.YtofpjepndhpciaaZQ
import Derived.Test.YtofpjepndhpciaaZN
namespace Go.Proofs.Ytofpjepndhpciaa
open Go.RowKit Go.Shelf

/-- WHAT szIntSS SAYS: where it is not negative, all is short, and what is left is no more than it was at most. -/
def SzLe (xss : List (List Int)) (w : World) (e : Ending) (w' : World) : Prop := ∃ r : Int, (e = .returned (.int .i64 r) ∧ w = w') ∧ r ≤ 1048576 ∧ (0 ≤ r → Fit xss)

set_option maxHeartbeats 400000 in
theorem szSS_le (a : Option Addr) (c : Nat) (xss : List (List Int)) (n₀ : Nat) (w : World) (L : Int) (hL0 : 0 ≤ L) (hL1 : L ≤ 1048576) (hM : Mat n₀ w a xss) (hl : xss.length ≤ 9223372036854775807) (hr : ∀ xs ∈ xss, xs.length ≤ 9223372036854775807) :
    Calls Try.prog 21 #[.slice a xss.length c, .int .i64 L] w (SzLe xss w) := by
  have Hl : Hid (xss.length ≤ 9223372036854775807) := hl
  have Hr : Hid (∀ xs ∈ xss, xs.length ≤ 9223372036854775807) := hr
  clear hr
  by_cases hbig : L < (xss.length : Int)
  · go_enter Try.func21, Try.ntmps21
    go_wp2
    go_ret
    exact ⟨-1, ⟨rfl, rfl⟩, by omega, fun h => absurd h (by omega)⟩
  · go_enter Try.func21, Try.ntmps21
    go_wp2
    go_loop [1, 5] (fun l i => ∃ (k : Nat) (r : Int), k ≤ xss.length ∧ i = .int .i64 k ∧ l = .int .i64 r ∧ 0 ≤ r ∧ r ≤ 1048576 ∧ Hid (∀ j xs, j < k → xss[j]? = some xs → xs.length ≤ 1048576))
      (fun _ i => xss.length - (intOf i).toNat)
    case atStart => exact ⟨0, _, Nat.zero_le _, rfl, rfl, by omega, by omega, fun j xs h => absurd h (Nat.not_lt_zero _)⟩
    case round =>
      obtain ⟨k, r, hk, rfl, rfl, hr0, hr1, HF⟩ := hrel
      by_cases hlt : k < xss.length
      · obtain ⟨b, o, a', c', xs, rfl, hb, hc, hI, HX⟩ := hM.at_ hlt
        have hm : xs.length ≤ 9223372036854775807 := Hr.out xs (List.mem_of_getElem? HX.out)
        by_cases hx : (xs.length : Int) ≤ r
        · go_wp2_with (go_at_call 38; refine (szS_yes _ _ _ _ _ (by omega) (by omega)).mono ?_; rintro e w' ⟨rfl, rfl⟩)
          go_round
          case rel => exact ⟨k + 1, r - xs.length, by omega, by go_num, rfl, by omega, by omega, fun j ys hj hy => by
            by_cases e : j = k
            · subst e; rw [HX.out] at hy; cases hy; omega
            · exact HF.out j ys (by omega) hy⟩
          case measure => simp [intOf]; omega
        · go_wp2_with (go_at_call 38; refine (szS_no _ _ _ _ _ (by omega) (by omega) (by omega)).mono ?_; rintro e w' ⟨rfl, rfl⟩)
          go_ret
          exact ⟨-1, ⟨rfl, rfl⟩, by omega, fun h => absurd h (by omega)⟩
      · obtain rfl : k = xss.length := by omega
        go_wp2
        go_ret
        refine ⟨_, ⟨rfl, rfl⟩, by omega, fun _ => ⟨by omega, fun xs hxs => ?_⟩⟩
        obtain ⟨j, hj, rfl⟩ := List.mem_iff_getElem.1 hxs
        exact HF.out j _ hj (List.getElem?_eq_getElem hj)

set_option maxHeartbeats 400000 in
theorem markSS_big (b c k : Nat) (G : Nat → Nat) (xss : List (List Int)) (w : World) (hO : OwnM w b G xss) (hF : Fit xss) (hG : ∀ i j, G i = G j → i = j) (hk : k ≤ 1200000000000) :
    Calls Try.prog 24 #[.slice (some ⟨b, 0, none⟩) xss.length c, .int .i64 k] w (MarkSS b G k xss w) := by
  have HF := Lib.hid hF
  have HGi := Lib.hid hG
  have hl := hF.1
  have HP0 : Hid (MPart b G k xss w w 0) := ⟨hO.1, fun j xs h => absurd h (Nat.not_lt_zero _), fun j xs _ hx => hO.2 j xs hx, Touch.refl _ _⟩
  clear hF hG
  go_enter Try.func24, Try.ntmps24
  go_wp2
  go_loopw [1, 5] (fun t i wr => ∃ j q : Nat, j ≤ xss.length ∧ i = .int .i64 j ∧ t = .int .i64 (q : Int) ∧ Hid (q = k + tot (xss.take j)) ∧ Hid (MPart b G k xss w wr j)) (fun _ i _ => xss.length - (intOf i).toNat)
  case atStart => exact ⟨0, k, Nat.zero_le _, rfl, rfl, Lib.hid (by simp [tot]), HP0⟩
  case round =>
    obtain ⟨j, q, hj, rfl, rfl, HQ, HP⟩ := hrel
    clear HP0
    by_cases hlt : j < xss.length
    · have hX := List.getElem?_eq_getElem hlt
      obtain ⟨xs, HX⟩ : ∃ xs, Hid (xss[j]? = some xs) := ⟨_, hX⟩
      have hc : wr.cell? ⟨b, j, none⟩ = some (.slice (some ⟨G j, 0, none⟩) xs.length xs.length) := by
        have := HP.out.top.cell hlt
        rw [HX.out] at this; exact this
      have hx1 := HF.out.at_ HX.out
      have hq : q ≤ 2400000000000 := by rw [HQ.out]; have := tot_le HF.out j hj; omega
      have hrow := HP.out.rest j xs (Nat.le_refl _) HX.out
      clear hX
      go_wp2_with (go_at_call 41; refine (markS_any _ _ _ _ _ hrow hx1 (by omega)).mono ?_; rintro e w1 ⟨rfl, hr1, ht1⟩; have HP1 := Lib.hid (HP.out.step HGi.out HX.out (by rw [← HQ.out]; exact hr1) ht1); clear hr1 ht1)
      go_roundw
      case rel => exact ⟨j + 1, q + xs.length, by omega, by go_num, rfl, Lib.hid (by rw [tot_succ HX.out, HQ.out]; omega), HP1⟩
      case measure => simp [intOf]; omega
    · obtain rfl : j = xss.length := by omega
      go_wp2
      go_ret
      exact ⟨by rw [HQ.out, tot_all]; rfl, HP.out.own, HP.out.touch⟩

end Go.Proofs.Ytofpjepndhpciaa

namespace Go.Proofs.Ytofpjepndhpciaa
open Go.RowKit Go.Shelf Go.Deep

/-- A NEW LIST THAT CAN BE READ. -/
def ReadI (xs : List Int) (w : World) (e : Ending) (w' : World) : Prop := ∃ (a : Option Addr) (c : Nat), (e = .returned (.slice a xs.length c) ∧ Below w.heap.size w w') ∧ Ints w'.heap.size w' a xs

end Go.Proofs.Ytofpjepndhpciaa

namespace Go.Proofs.Ytofpjepndhpciaa
open Go.RowKit Go.Shelf

set_option maxHeartbeats 400000 in
theorem markSS_huge (b c k : Nat) (G : Nat → Nat) (xss : List (List Int)) (w : World) (hO : OwnM w b G xss) (hF : Fit xss) (hG : ∀ i j, G i = G j → i = j) (hk : k ≤ 2500000000000) :
    Calls Try.prog 24 #[.slice (some ⟨b, 0, none⟩) xss.length c, .int .i64 k] w (MarkSS b G k xss w) := by
  have HF := Lib.hid hF
  have HGi := Lib.hid hG
  have hl := hF.1
  have HP0 : Hid (MPart b G k xss w w 0) := ⟨hO.1, fun j xs h => absurd h (Nat.not_lt_zero _), fun j xs _ hx => hO.2 j xs hx, Touch.refl _ _⟩
  clear hF hG
  go_enter Try.func24, Try.ntmps24
  go_wp2
  go_loopw [1, 5] (fun t i wr => ∃ j q : Nat, j ≤ xss.length ∧ i = .int .i64 j ∧ t = .int .i64 (q : Int) ∧ Hid (q = k + tot (xss.take j)) ∧ Hid (MPart b G k xss w wr j)) (fun _ i _ => xss.length - (intOf i).toNat)
  case atStart => exact ⟨0, k, Nat.zero_le _, rfl, rfl, Lib.hid (by simp [tot]), HP0⟩
  case round =>
    obtain ⟨j, q, hj, rfl, rfl, HQ, HP⟩ := hrel
    clear HP0
    by_cases hlt : j < xss.length
    · have hX := List.getElem?_eq_getElem hlt
      obtain ⟨xs, HX⟩ : ∃ xs, Hid (xss[j]? = some xs) := ⟨_, hX⟩
      have hc : wr.cell? ⟨b, j, none⟩ = some (.slice (some ⟨G j, 0, none⟩) xs.length xs.length) := by
        have := HP.out.top.cell hlt
        rw [HX.out] at this; exact this
      have hx1 := HF.out.at_ HX.out
      have hq : q ≤ 3800000000000 := by rw [HQ.out]; have := tot_le HF.out j hj; omega
      have hrow := HP.out.rest j xs (Nat.le_refl _) HX.out
      clear hX
      go_wp2_with (go_at_call 41; refine (markS_any _ _ _ _ _ hrow hx1 (by omega)).mono ?_; rintro e w1 ⟨rfl, hr1, ht1⟩; have HP1 := Lib.hid (HP.out.step HGi.out HX.out (by rw [← HQ.out]; exact hr1) ht1); clear hr1 ht1)
      go_roundw
      case rel => exact ⟨j + 1, q + xs.length, by omega, by go_num, rfl, Lib.hid (by rw [tot_succ HX.out, HQ.out]; omega), HP1⟩
      case measure => simp [intOf]; omega
    · obtain rfl : j = xss.length := by omega
      go_wp2
      go_ret
      exact ⟨by rw [HQ.out, tot_all]; rfl, HP.out.own, HP.out.touch⟩

set_option maxHeartbeats 400000 in
theorem markNilS (k : Nat) (w : World) : Calls Try.prog 41 #[.slice none 0 0, .int .i64 k] w fun e w' => e = .returned (.int .i64 (k : Int)) ∧ w = w' := by
  go_enter Try.func41, Try.ntmps41
  go_wp2
  go_loop [1, 5] (fun t i => i = .int .i64 0 ∧ t = .int .i64 (k : Int)) (fun _ _ => 0)
  case atStart => exact ⟨rfl, rfl⟩
  case round =>
    obtain ⟨rfl, rfl⟩ := hrel
    go_wp2
    go_ret
    exact ⟨rfl, rfl⟩

theorem behI_le {G H K : List (List Int)} {f e : List Int} (hl : f.length ≤ 1048576) : (behI G H K f e).length ≤ 1048576 := by
  by_cases h : mapOkI G H f = true ∧ mapOkI H K e = true
  · rw [behI_yes h.1 h.2, behL_length]; exact hl
  · rw [behI_no h]; simp
theorem Touch.rowI' {S : Nat → Prop} {W W' : World} {b : Nat} {xs : List Int} (h : Touch S W W') (hr : RowI W b xs) (hb : ¬ S b) : RowI W' b xs := World.rowIs.of_block hr (h.block b hb)
theorem OwnI.below {base : Nat} {W W' : World} {a : Option Addr} {c : Nat} {xs : List Int} (h : OwnI base W a c xs) (hb : Below W.heap.size W W') : OwnI base W' a c xs := by
  rcases h with h | ⟨b, h1, h2, h3, h4⟩
  · exact .inl h
  · exact .inr ⟨b, h1, h2, h3.below hb h3.lt, h4⟩
theorem OwnI.ints {base : Nat} {W : World} {a : Option Addr} {c : Nat} {xs : List Int} (h : OwnI base W a c xs) : Ints W.heap.size W a xs := by
  rcases h with ⟨rfl, rfl, rfl⟩ | ⟨b, rfl, rfl, h3, h4⟩
  · exact fun hne => absurd rfl hne
  · exact h3.ints h3.lt
theorem Touch.ownI {base n : Nat} {S : Nat → Prop} {W W' : World} {a : Option Addr} {c : Nat} {xs : List Int} (ht : Touch S W W') (h : OwnI base W a c xs) (hS : ∀ B, S B → B < n) (hn : n ≤ base) : OwnI base W' a c xs := by
  rcases h with h | ⟨b, h1, h2, h3, h4⟩
  · exact .inl h
  · exact .inr ⟨b, h1, h2, ht.rowI' h3 (fun s => by have := hS _ s; omega), h4⟩

/-- A NEW LIST, nil or not, IS MARKED. -/
def MarkI (base : Nat) (a : Option Addr) (c k : Nat) (xs : List Int) (w : World) (e : Ending) (w' : World) : Prop :=
  e = .returned (.int .i64 ((k + xs.length : Nat) : Int)) ∧ OwnI base w' a c (seqL k xs.length) ∧ Touch (fun B => base ≤ B) w w'
theorem markI_any (base : Nat) (a : Option Addr) (c k : Nat) (xs : List Int) (w : World) (hO : OwnI base w a c xs) (hl : xs.length ≤ 1048576) (hk : k ≤ 1000) :
    Calls Try.prog 41 #[.slice a xs.length c, .int .i64 k] w (MarkI base a c k xs w) := by
  rcases hO with ⟨rfl, rfl, rfl⟩ | ⟨b, rfl, rfl, h3, h4⟩
  · refine (markNilS k w).mono ?_
    rintro e w' ⟨rfl, rfl⟩
    exact ⟨by simp, .inl ⟨rfl, rfl, rfl⟩, Touch.refl _ _⟩
  · refine (markS_any b xs.length k xs w h3 hl (by omega)).mono ?_
    rintro e w' ⟨rfl, hr, ht⟩
    exact ⟨rfl, .inr ⟨b, rfl, by rw [seqL_length], hr, h4⟩, ht.more fun B s => by subst s; exact h4⟩

end Go.Proofs.Ytofpjepndhpciaa
