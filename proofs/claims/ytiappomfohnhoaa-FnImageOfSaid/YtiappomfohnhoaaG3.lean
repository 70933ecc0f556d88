/-
  The laws' own helpers: hasInt, ascend.
-/
import Derived.Test.YtiappomfohnhoaaZA
import Derived.Test.YtiappomfohnhoaaZU
namespace Go.Proofs.Ytiappomfohnhoaa
open Go.RowKit Go.Shelf

def hasB (xs : List Int) (n : Int) : Bool := decide (n ∈ xs)
/-- Strictly ascending. -/
def Up (xs : List Int) : Prop := ∀ (i : Nat) (x y : Int), xs[i]? = some x → xs[i + 1]? = some y → x < y
theorem imgN_up (m : Nat) (f : List Int) : (imgN m f).Pairwise (· < ·) := List.Pairwise.sublist List.filter_sublist List.pairwise_lt_range
theorem imgL_up (m : Nat) (f : List Int) : Up (imgL m f) := fun i x y hx hy => by
  unfold imgL at hx hy
  rw [List.getElem?_map] at hx hy
  obtain ⟨a, ha, rfl⟩ := Option.map_eq_some_iff.1 hx
  obtain ⟨b, hb, rfl⟩ := Option.map_eq_some_iff.1 hy
  obtain ⟨h1, e1⟩ := List.getElem?_eq_some_iff.1 ha
  obtain ⟨h2, e2⟩ := List.getElem?_eq_some_iff.1 hb
  have := (List.pairwise_iff_getElem.1 (imgN_up m f)) i (i + 1) h1 h2 (by omega)
  rw [e1, e2] at this
  omega

set_option maxHeartbeats 400000 in
theorem hasInt_any (a : Option Addr) (c : Nat) (xs : List Int) (n : Int) (n₀ : Nat) (w : World) (hI : Ints n₀ w a xs) (hl : xs.length ≤ 1048576) :
    Calls Try.prog 50 #[.slice a xs.length c, .int .i64 n] w fun e w' => e = .returned (.bool (hasB xs n)) ∧ w = w' := by
  obtain ⟨z, HZ⟩ : ∃ z, Hid (hasB xs n = z) := ⟨_, rfl⟩
  rw [HZ.out]
  go_enter Try.func50, Try.ntmps50
  go_wp2_with fail
  go_loop [5] (fun i => ∃ k : Nat, k ≤ xs.length ∧ i = .int .i64 k ∧ Hid (n ∉ xs.take k)) (fun i => xs.length - (intOf i).toNat)
  case atStart => exact ⟨0, Nat.zero_le _, rfl, Lib.hid (by simp)⟩
  case round =>
    obtain ⟨k, hk, rfl, HN⟩ := hrel
    by_cases hlt : k < xs.length
    · obtain ⟨b, o, y, rfl, hb, hc, HY⟩ := hI.at_ hlt
      by_cases hy : y = n
      · have HE : Hid (z = true) := Lib.hid (by rw [← HZ.out]; exact decide_eq_true (by rw [← hy]; exact List.mem_of_getElem? HY.out))
        have hb2 : (y == n) = true := by simp [hy]
        clear hy
        go_wp2_with fail
        go_ret
        exact ⟨ret_bool HE.out.symm, rfl⟩
      · have HN2 : Hid (n ∉ xs.take (k + 1)) := Lib.hid (by
          rw [List.take_add_one, HY.out]
          intro h
          rcases List.mem_append.1 h with h | h
          · exact HN.out h
          · simp at h; exact hy h.symm)
        have hb2 : (y == n) = false := by simp [hy]
        clear hy
        go_wp2_with fail
        go_round
        case rel => exact ⟨k + 1, by omega, by go_num, HN2⟩
        case measure => simp [intOf]; omega
    · have HE : Hid (z = false) := Lib.hid (by
        rw [← HZ.out]
        have h := HN.out
        rw [List.take_of_length_le (by omega)] at h
        exact decide_eq_false h)
      go_wp2_with fail
      go_ret
      exact ⟨ret_bool HE.out.symm, rfl⟩

set_option maxHeartbeats 400000 in
theorem ascend_any (a : Option Addr) (c : Nat) (xs : List Int) (n₀ : Nat) (w : World) (hI : Ints n₀ w a xs) (hl : xs.length ≤ 1048576) (hU : Up xs) :
    Calls Try.prog 51 #[.slice a xs.length c] w (Still (.bool true) w) := by
  have HU := Lib.hid hU
  clear hU
  go_enter Try.func51, Try.ntmps51
  go_wp2_with fail
  go_loopw [3] (fun i wr => ∃ k n : Nat, (k ≤ xs.length ∨ k = 0) ∧ i = .int .i64 ((k : Int) + 1) ∧ wr = w.drewN n) (fun i _ => xs.length + 1 - (intOf i).toNat)
  case atStart => exact ⟨0, 0, .inr rfl, rfl, rfl⟩
  case round =>
    obtain ⟨k, n, hk, rfl, rfl⟩ := hrel
    by_cases hlt : k + 1 < xs.length
    · obtain ⟨b, o, y, rfl, hb, hc, HY⟩ := hI.at_ (k := k) (by omega)
      obtain ⟨b2, o2, y2, e2, hb2, hc2, HY2⟩ := hI.at_ hlt
      cases e2
      have hlt2 := HU.out k y y2 HY.out HY2.out
      have hge : decide (y ≥ y2) = false := decide_eq_false (by omega)
      have k0 : (0 : Int) ≤ (k : Int) := Int.natCast_nonneg _
      have e1 : (k : Int) + 1 - 1 = (k : Int) := by omega
      have k1 : (k : Int) + 1 < (xs.length : Int) := by omega
      have k2 : ((k : Int) + 1).toNat = k + 1 := by omega
      go_wp2_with fail
      go_quiet (fail)
      go_wp2_with fail
      go_roundw
      case rel => exact ⟨k + 1, _, by omega, by go_num, rfl⟩
      case measure => simp [intOf]; omega
    · go_wp2_with fail
      go_ret
      exact ⟨rfl, n, rfl⟩

end Go.Proofs.Ytiappomfohnhoaa
