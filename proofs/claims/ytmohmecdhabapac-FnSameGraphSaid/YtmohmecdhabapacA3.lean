/-
  The laws' own helpers: two slices that read alike are found equal (eqIntS, eqIntSS).
-/
import Derived.Test.YtmohmecdhabapacBase
namespace Go.Proofs.Ytmohmecdhabapac
open Go.RowKit Go.Shelf

/-- THE ANSWER IS v; THE WORLD HAS DRAWN, NO MORE. -/
def Still (v : Value) (w : World) (e : Ending) (w' : World) : Prop := e = .returned v ∧ ∃ n, w' = w.drewN n
theorem Still.below {v : Value} {w w' : World} {e : Ending} (h : Still v w e w') : e = .returned v ∧ Below w.heap.size w w' := by
  obtain ⟨he, n, rfl⟩ := h
  exact ⟨he, ⟨rfl, rfl, rfl, Nat.le_refl _, fun _ _ => rfl⟩⟩
theorem below_drewN {B : Nat} {a w : World} (h : Below B a w) (n : Nat) : Below B a (w.drewN n) := ⟨h.os, h.tape, h.output, h.size, h.block⟩
theorem Ints.drewN {n₀ : Nat} {W : World} {a : Option Addr} {xs : List Int} (h : Ints n₀ W a xs) (n : Nat) : Ints n₀ (W.drewN n) a xs := h
theorem Mat.drewN {n₀ : Nat} {W : World} {a : Option Addr} {xss : List (List Int)} (h : Mat n₀ W a xss) (n : Nat) : Mat n₀ (W.drewN n) a xss := h

theorem Calls_quiet_add {P : Program} {f : FuncId} {args : Array Value} {w : World} {a n : Nat} {v : Value}
    (h : Calls P f args (w.drewN (a + n)) (Still v (w.drewN (a + n)))) :
    Calls P f args (w.drewN (a + n)) fun e w'' => e = .returned v ∧ ∃ m, w'' = w.drewN (a + m) :=
  h.mono fun _ _ ⟨he, m, hm⟩ => ⟨he, n + m, by rw [hm, World.drewN_drewN, Nat.add_assoc]⟩

set_option maxHeartbeats 400000 in
theorem eqS_same (a a' : Option Addr) (c c' : Nat) (xs : List Int) (n₀ : Nat) (w : World) (hI : Ints n₀ w a xs) (hI' : Ints n₀ w a' xs) (hl : xs.length ≤ 1048576) :
    Calls Try.prog 21 #[.slice a xs.length c, .slice a' xs.length c'] w (Still (.bool true) w) := by
  go_enter Try.func21, Try.ntmps21
  go_wp2
  go_loopw [5] (fun i wr => ∃ (k n : Nat), k ≤ xs.length ∧ i = .int .i64 k ∧ wr = w.drewN n) (fun i _ => xs.length - (intOf i).toNat)
  case atStart => exact ⟨0, 0, Nat.zero_le _, rfl, rfl⟩
  case round =>
    obtain ⟨k, n, hk, rfl, rfl⟩ := hrel
    by_cases hlt : k < xs.length
    · obtain ⟨b, o, x, rfl, hb, hc, HX⟩ := hI.at_ hlt
      obtain ⟨b', o', x', rfl, hb', hc', HX'⟩ := hI'.at_ hlt
      obtain rfl : x = x' := Option.some.inj (HX.out.symm.trans HX'.out)
      go_wp2
      go_quiet (fail)
      go_wp2
      go_roundw
      case rel => exact ⟨k + 1, _, by omega, by go_num, rfl⟩
      case measure => simp [intOf]; omega
    · obtain rfl : k = xs.length := by omega
      go_wp2
      go_ret
      exact ⟨rfl, n, rfl⟩

set_option maxHeartbeats 400000 in
theorem eqSS_same (a a' : Option Addr) (c c' : Nat) (xss : List (List Int)) (n₀ : Nat) (w : World) (hM : Mat n₀ w a xss) (hM' : Mat n₀ w a' xss) (hF : Fit xss) :
    Calls Try.prog 22 #[.slice a xss.length c, .slice a' xss.length c'] w (Still (.bool true) w) := by
  have HF := Lib.hid hF
  have hl := hF.1
  clear hF
  go_enter Try.func22, Try.ntmps22
  go_wp2
  go_loopw [5] (fun i wr => ∃ (k n : Nat), k ≤ xss.length ∧ i = .int .i64 k ∧ wr = w.drewN n) (fun i _ => xss.length - (intOf i).toNat)
  case atStart => exact ⟨0, 0, Nat.zero_le _, rfl, rfl⟩
  case round =>
    obtain ⟨k, n, hk, rfl, rfl⟩ := hrel
    by_cases hlt : k < xss.length
    · obtain ⟨b, o, d, e, xs, rfl, hb, hc, hI, HX⟩ := hM.at_ hlt
      obtain ⟨b', o', d', e', xs', rfl, hb', hc', hI', HX'⟩ := hM'.at_ hlt
      obtain rfl : xs = xs' := Option.some.inj (HX.out.symm.trans HX'.out)
      have hx1 := HF.out.at_ HX.out
      go_wp2
      go_quiet ((go_at_call 21; exact Calls_quiet_add (eqS_same d d' e e' xs n₀ _ (hI.drewN _) (hI'.drewN _) hx1)))
      go_wp2
      go_roundw
      case rel => exact ⟨k + 1, _, by omega, by go_num, rfl⟩
      case measure => simp [intOf]; omega
    · obtain rfl : k = xss.length := by omega
      go_wp2
      go_ret
      exact ⟨rfl, n, rfl⟩

end Go.Proofs.Ytmohmecdhabapac
