/-
  sameInts, sameRows; the arrows of a graph turned round are as many; the other draws of one graph.
-/
import Derived.Test.YtkkifphpogfjfaaC2
import Derived.Test.YtkkifphpogfjfaaZF
namespace Go.Proofs.Ytkkifphpogfjfaa
open Go.RowKit Go.Shelf

set_option maxHeartbeats 400000 in
theorem sameS_same (a a' : Option Addr) (c c' : Nat) (xs : List Int) (n₀ : Nat) (w : World) (hI : Ints n₀ w a xs) (hI' : Ints n₀ w a' xs) (hl : xs.length ≤ 1048576) :
    Calls Try.prog 39 #[.slice a xs.length c, .slice a' xs.length c'] w (Still (.bool true) w) := by
  go_enter Try.func39, Try.ntmps39
  go_wp2
  go_loopw [5] (fun i wr => ∃ (k n : Nat), k ≤ xs.length ∧ i = .int .i64 k ∧ wr = w.drewN n) (fun i _ => xs.length - (intOf i).toNat)
  case atStart => exact ⟨0, 0, Nat.zero_le _, rfl, rfl⟩
  case round =>
    obtain ⟨k, n, hk, rfl, rfl⟩ := hrel
    by_cases hlt : k < xs.length
    · obtain ⟨b, o, x, rfl, hb, hc, HX⟩ := hI.at_ hlt
      obtain ⟨b', o', x', rfl, hb', hc', HX'⟩ := hI'.at_ hlt
      obtain rfl : x = x' := Option.some.inj (HX.out.symm.trans HX'.out)
      go_wp2
      go_quiet (fail)
      go_wp2
      go_roundw
      case rel => exact ⟨k + 1, _, by omega, by go_num, rfl⟩
      case measure => simp [intOf]; omega
    · obtain rfl : k = xs.length := by omega
      go_wp2
      go_ret
      exact ⟨rfl, n, rfl⟩

set_option maxHeartbeats 400000 in
theorem sameSS_same (a a' : Option Addr) (c c' : Nat) (xss : List (List Int)) (n₀ : Nat) (w : World) (hM : Mat n₀ w a xss) (hM' : Mat n₀ w a' xss) (hF : Fit xss) :
    Calls Try.prog 19 #[.slice a xss.length c, .slice a' xss.length c'] w (Still (.bool true) w) := by
  have HF := Lib.hid hF
  have hl := hF.1
  clear hF
  go_enter Try.func19, Try.ntmps19
  go_wp2
  go_loopw [5] (fun i wr => ∃ (k n : Nat), k ≤ xss.length ∧ i = .int .i64 k ∧ wr = w.drewN n) (fun i _ => xss.length - (intOf i).toNat)
  case atStart => exact ⟨0, 0, Nat.zero_le _, rfl, rfl⟩
  case round =>
    obtain ⟨k, n, hk, rfl, rfl⟩ := hrel
    by_cases hlt : k < xss.length
    · obtain ⟨b, o, d, e, xs, rfl, hb, hc, hI, HX⟩ := hM.at_ hlt
      obtain ⟨b', o', d', e', xs', rfl, hb', hc', hI', HX'⟩ := hM'.at_ hlt
      obtain rfl : xs = xs' := Option.some.inj (HX.out.symm.trans HX'.out)
      have hx1 := HF.out.at_ HX.out
      go_wp2
      go_quiet ((go_at_call 39; exact Calls_quiet_add (sameS_same d d' e e' xs n₀ _ (hI.drewN _) (hI'.drewN _) hx1)))
      go_wp2
      go_roundw
      case rel => exact ⟨k + 1, _, by omega, by go_num, rfl⟩
      case measure => simp [intOf]; omega
    · obtain rfl : k = xss.length := by omega
      go_wp2
      go_ret
      exact ⟨rfl, n, rfl⟩

def sumN : Nat → (Nat → Nat) → Nat
  | 0, _ => 0
  | n + 1, f => sumN n f + f n
theorem sumN_zero (n : Nat) : sumN n (fun _ => 0) = 0 := by
  induction n with
  | zero => rfl
  | succ n ih => simp [sumN, ih]
theorem sumN_add (n : Nat) (f g : Nat → Nat) : sumN n (fun i => f i + g i) = sumN n f + sumN n g := by
  induction n with
  | zero => rfl
  | succ n ih => simp only [sumN, ih]; omega
theorem sumN_congr {n : Nat} {f g : Nat → Nat} (h : ∀ i, i < n → f i = g i) : sumN n f = sumN n g := by
  induction n with
  | zero => rfl
  | succ n ih => simp only [sumN]; rw [ih fun i hi => h i (by omega), h n (by omega)]
theorem sumN_swap (a b : Nat) (f : Nat → Nat → Nat) : sumN a (fun i => sumN b (f i)) = sumN b (fun j => sumN a (fun i => f i j)) := by
  induction a with
  | zero => simp [sumN, sumN_zero]
  | succ a ih => simp only [sumN]; rw [ih, ← sumN_add]
def bN (b : Bool) : Nat := if b = true then 1 else 0
/-- HOW MANY PAIRS pass a test. -/
def cnt (m : Nat) (p : Nat → Nat → Bool) : Nat := ((PL m).filter fun x => p x.1.1 x.2.1).length
theorem cnt_take (m : Nat) (p : Nat → Nat → Bool) (i : Nat) (hi : i < m) : ∀ j, j ≤ m → (((PL m).take (i * m + j)).filter fun x => p x.1.1 x.2.1).length = (((PL m).take (i * m)).filter fun x => p x.1.1 x.2.1).length + sumN j (fun l => bN (p i l))
  | 0, _ => by simp [sumN]
  | j + 1, hj => by
    rw [← PL_take hi (by omega), List.filter_append, List.length_append, cnt_take m p i hi j (by omega)]
    simp only [sumN, bN]
    cases hp : p i j <;> simp [hp] <;> omega
theorem cnt_rows (m : Nat) (p : Nat → Nat → Bool) : ∀ i, i ≤ m → (((PL m).take (i * m)).filter fun x => p x.1.1 x.2.1).length = sumN i (fun k => sumN m (fun l => bN (p k l)))
  | 0, _ => by simp [sumN]
  | i + 1, hi => by
    rw [Nat.add_mul, Nat.one_mul, cnt_take m p i (by omega) m (Nat.le_refl _), cnt_rows m p i (by omega)]
    rfl
theorem cnt_sum (m : Nat) (p : Nat → Nat → Bool) : cnt m p = sumN m (fun k => sumN m (fun l => bN (p k l))) := by
  have h := cnt_rows m p m (Nat.le_refl _)
  rw [List.take_of_length_le (by rw [PL_length]; exact Nat.le_refl _)] at h
  exact h
theorem cnt_swap (m : Nat) (p : Nat → Nat → Bool) : cnt m (fun i j => p j i) = cnt m p := by rw [cnt_sum, cnt_sum, sumN_swap]
theorem cnt_congr {m : Nat} {p q : Nat → Nat → Bool} (h : ∀ i j, i < m → j < m → p i j = q i j) : cnt m p = cnt m q := by
  rw [cnt_sum, cnt_sum]
  exact sumN_congr fun i hi => sumN_congr fun j hj => by rw [h i j hi hj]
theorem AL_cnt (xss : List (List Int)) : (AL xss).length = cnt xss.length (arw xss) := rfl
theorem AL_rowsP (m : Nat) (p : Nat → Nat → Bool) : (AL (rowsP m p)).length = cnt m p := by
  rw [AL_cnt, rowsP_length]
  exact cnt_congr fun i j hi hj => arw_rowsP hi hj
theorem turned_good {xss : List (List Int)} (h : Good xss) : Good (turnedL xss) := by
  rw [turnedL_yes (gOk_true h)]; exact rowsP_good _ h.1 h.2.1
theorem turned_arrows {xss : List (List Int)} (h : Good xss) : arrowsI (turnedL xss) = arrowsI xss := by
  rw [arrowsI_yes (gOk_true (turned_good h)), arrowsI_yes (gOk_true h), turnedL_yes (gOk_true h), AL_rowsP, cnt_swap, AL_cnt]
theorem turned_length {xss : List (List Int)} (h : Good xss) : (turnedL xss).length = xss.length := by rw [turnedL_yes (gOk_true h), rowsP_length]
theorem turned_turned {xss : List (List Int)} (h : Good xss) : turnedL (turnedL xss) = xss := by
  rw [turnedL_yes (gOk_true (turned_good h)), turned_length h, turnedL_yes (gOk_true h)]
  conv => rhs; rw [good_rowsP h]
  exact rowsP_congr fun i j hi hj => arw_rowsP hj hi
theorem turned_fit {xss : List (List Int)} : Fit (turnedL xss) := by
  by_cases hg : gOk xss = true
  · exact (turned_good (good_of hg)).fit
  · rw [turnedL_no (by simpa using hg)]; exact ⟨by simp, fun xs h => absurd h (by simp)⟩

end Go.Proofs.Ytkkifphpogfjfaa
