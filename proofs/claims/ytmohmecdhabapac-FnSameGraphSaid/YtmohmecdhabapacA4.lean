/-
  What a graph is, in plain words, and that the model's GraphOk says so.
-/
import Derived.Test.YtmohmecdhabapacA3
namespace Go.Proofs.Ytmohmecdhabapac
open Go.RowKit Go.Shelf

/-- ONE ROW OF A GRAPH OF n NODES. -/
def RowGood (n : Nat) (xs : List Int) : Prop := xs.length = n ∧ ∀ x ∈ xs, x = 0 ∨ x = 1
/-- A GRAPH: 1 to 9 rows of noughts and ones, each as long as there are rows. -/
def Good (xss : List (List Int)) : Prop := 1 ≤ xss.length ∧ xss.length ≤ 9 ∧ ∀ xs ∈ xss, RowGood xss.length xs
def gOk (xss : List (List Int)) : Bool := decide (1 ≤ xss.length) && (decide (xss.length ≤ 9) && xss.all fun xs => decide (xs.length = xss.length) && xs.all fun x => decide (x = 0 ∨ x = 1))
theorem gOk_iff (xss : List (List Int)) : gOk xss = true ↔ Good xss := by simp [gOk, Good, RowGood]
theorem gOk_true {xss : List (List Int)} (h : Good xss) : gOk xss = true := (gOk_iff xss).2 h
theorem good_of {xss : List (List Int)} (h : gOk xss = true) : Good xss := (gOk_iff xss).1 h
theorem gOk_false {xss : List (List Int)} (h : ¬ Good xss) : gOk xss = false := Bool.eq_false_iff.2 fun e => h (good_of e)
theorem not_good_of {xss : List (List Int)} (h : gOk xss = false) : ¬ Good xss := fun g => by rw [gOk_true g] at h; cases h
theorem gOk_row {xss : List (List Int)} {k : Nat} {xs : List Int} (hk : xss[k]? = some xs) (h : ¬ RowGood xss.length xs) : gOk xss = false :=
  gOk_false fun g => h (g.2.2 xs (List.mem_of_getElem? hk))

theorem in_yes (x lo hi : Int) (w : World) (h1 : lo ≤ x) (h2 : x ≤ hi) :
    Calls Try.prog 37 #[.int .i64 x, .int .i64 lo, .int .i64 hi] w fun e w' => e = .returned (.bool true) ∧ w = w' := by
  go_enter Try.func37, Try.ntmps37
  go_wp2
  go_ret
  exact ⟨rfl, rfl⟩
theorem in_lo (x lo hi : Int) (w : World) (h1 : x < lo) :
    Calls Try.prog 37 #[.int .i64 x, .int .i64 lo, .int .i64 hi] w fun e w' => e = .returned (.bool false) ∧ w = w' := by
  go_enter Try.func37, Try.ntmps37
  go_wp2
  go_ret
  exact ⟨rfl, rfl⟩
theorem in_hi (x lo hi : Int) (w : World) (h0 : lo ≤ x) (h1 : hi < x) :
    Calls Try.prog 37 #[.int .i64 x, .int .i64 lo, .int .i64 hi] w fun e w' => e = .returned (.bool false) ∧ w = w' := by
  have hd : decide (x ≤ hi) = false := decide_eq_false (by omega)
  go_enter Try.func37, Try.ntmps37
  go_wp2
  go_ret
  exact ⟨rfl, rfl⟩
theorem in_any (x lo hi : Int) (w : World) :
    Calls Try.prog 37 #[.int .i64 x, .int .i64 lo, .int .i64 hi] w fun e w' => e = .returned (.bool (decide (lo ≤ x ∧ x ≤ hi))) ∧ w = w' := by
  by_cases h1 : lo ≤ x
  · by_cases h2 : x ≤ hi
    · exact (in_yes x lo hi w h1 h2).mono fun _ _ ⟨he, hw⟩ => ⟨by rw [he, decide_eq_true ⟨h1, h2⟩], hw⟩
    · exact (in_hi x lo hi w h1 (by omega)).mono fun _ _ ⟨he, hw⟩ => ⟨by rw [he, decide_eq_false (by omega)], hw⟩
  · exact (in_lo x lo hi w (by omega)).mono fun _ _ ⟨he, hw⟩ => ⟨by rw [he, decide_eq_false (by omega)], hw⟩

set_option maxHeartbeats 1000000 in
theorem specOk_any (a : Option Addr) (c : Nat) (xss : List (List Int)) (n₀ : Nat) (w : World) (hM : Mat n₀ w a xss) (hF : Fit xss) :
    Calls Try.prog 36 #[.slice a xss.length c] w fun e w' => e = .returned (.bool (gOk xss)) ∧ w = w' := by
  have HF := Lib.hid hF
  have hl := hF.1
  clear hF
  go_enter Try.func36, Try.ntmps36
  go_wp2
  go_loop [3] (fun i => ∃ k : Nat, k ≤ xss.length ∧ i = .int .i64 k ∧ Hid (∀ j xs, j < k → xss[j]? = some xs → RowGood xss.length xs)) (fun i => xss.length - (intOf i).toNat)
  case atStart => exact ⟨0, Nat.zero_le _, rfl, fun j xs h => absurd h (Nat.not_lt_zero _)⟩
  case round =>
    obtain ⟨k, hk, rfl, HR⟩ := hrel
    by_cases hlt : k < xss.length
    · obtain ⟨b, o, a', c', xs, rfl, hb, hc, hI, HX⟩ := hM.at_ hlt
      have hm := HF.out.at_ HX.out
      by_cases hx : xs.length = xss.length
      · have HE := Lib.hid hx
        have hx1 : ((xs.length : Int) == xss.length) = true := by simp [hx]
        have hx2 : ((xs.length : Int) != xss.length) = false := by simp [hx]
        clear hx
        go_wp2
        go_loop [4] (fun i => ∃ j : Nat, j ≤ xs.length ∧ i = .int .i64 j ∧ Hid (∀ m x, m < j → xs[m]? = some x → x = 0 ∨ x = 1)) (fun i => xs.length - (intOf i).toNat)
        case atStart => exact ⟨0, Nat.zero_le _, rfl, fun j xs h => absurd h (Nat.not_lt_zero _)⟩
        case round =>
          obtain ⟨j, hj, rfl, HS⟩ := hrel
          by_cases hlj : j < xs.length
          · obtain ⟨b', o', x, rfl, hb', hc', HY⟩ := hI.at_ hlj
            by_cases hx0 : 0 ≤ x ∧ x ≤ 1
            · obtain ⟨h0, h1⟩ := hx0
              go_wp2_with (go_at_call 37; refine (in_yes _ _ _ _ h0 h1).mono ?_; rintro e w' ⟨rfl, rfl⟩)
              go_round
              case rel => exact ⟨j + 1, by omega, by go_num, fun m y hm hy => by
                by_cases e : m = j
                · subst e; rw [HY.out] at hy; cases hy; omega
                · exact HS.out m y (by omega) hy⟩
              case measure => simp [intOf]; omega
            · have hxx : decide (0 ≤ x ∧ x ≤ 1) = false := decide_eq_false hx0
              go_wp2_with (go_at_call 37; refine (in_any _ _ _ _).mono ?_; rw [hxx]; rintro e w' ⟨rfl, rfl⟩)
              go_ret
              exact ⟨ret_bool (gOk_row HX.out fun g => hx0 (by rcases g.2 x (List.mem_of_getElem? HY.out) with h | h <;> omega)).symm, rfl⟩
          · obtain rfl : j = xs.length := by omega
            go_wp2
            go_round
            case rel => exact ⟨k + 1, by omega, by go_num, fun m ys hm hy => by
              by_cases e : m = k
              · subst e; rw [HX.out] at hy; cases hy
                refine ⟨HE.out, fun y hy => ?_⟩
                obtain ⟨i, hi, rfl⟩ := List.mem_iff_getElem.1 hy
                exact HS.out i _ hi (List.getElem?_eq_getElem hi)
              · exact HR.out m ys (by omega) hy⟩
            case measure => simp [intOf]; omega
      · have hx2 : ((xs.length : Int) != xss.length) = true := by simp; omega
        go_wp2
        go_ret
        exact ⟨ret_bool (gOk_row HX.out fun g => hx g.1).symm, rfl⟩
    · obtain rfl : k = xss.length := by omega
      go_wp2_with (go_at_call 37; refine (in_any _ _ _ _).mono ?_; rintro e w' ⟨rfl, rfl⟩)
      go_ret
      refine ⟨ret_bool ?_, rfl⟩
      by_cases hg : 1 ≤ xss.length ∧ xss.length ≤ 9
      · have hG : Good xss := ⟨hg.1, hg.2, fun xs hxs => by
          obtain ⟨j, hj, rfl⟩ := List.mem_iff_getElem.1 hxs
          exact HR.out j _ hj (List.getElem?_eq_getElem hj)⟩
        rw [gOk_true hG]
        simp only [Bool.and_eq_true, decide_eq_true_eq]; omega
      · rw [gOk_false fun g => hg ⟨g.1, g.2.1⟩]
        simp only [Bool.and_eq_false_iff, decide_eq_false_iff_not]; omega

end Go.Proofs.Ytmohmecdhabapac
