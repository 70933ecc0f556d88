/-
  The model's SameGraph: are two graphs of as many nodes the same (spec.l1Same)?
-/
import Derived.Test.YtmohmecdhabapacQ7
import Derived.Test.YtmohmecdhabapacE3
namespace Go.Proofs.Ytmohmecdhabapac
open Go.RowKit Go.Shelf Go.Deep

theorem drewN_twoQ (w : World) (n m : Nat) : (w.drewN n).drewN m = w.drewN (n + m) := by simp [World.drewN, Nat.add_assoc]
theorem ent_ext {xss yss : List (List Int)} (h : Good xss) (h' : Good yss) (hl : yss.length = xss.length) (he : ∀ i j, i < xss.length → j < xss.length → ent xss i j = ent yss i j) : xss = yss := by
  have e1 := good_rowsP h
  have e2 := good_rowsP h'
  rw [hl] at e2
  rw [e1, e2]
  refine rowsP_congr fun i j hi hj => ?_
  unfold arw
  rw [he i j hi hj]
def StillQ (v : Value) (w : World) (e : Ending) (w' : World) : Prop := e = .returned v ∧ ∃ n, w' = w.drewN n

set_option maxHeartbeats 2000000 in
theorem sameG_yes (a a' : Option Addr) (c c' N : Nat) (xss yss : List (List Int)) (n₀ : Nat) (w : World) (hM : Mat n₀ w a xss) (hM' : Mat n₀ w a' yss) (h : Good xss) (h' : Good yss) (hx : xss.length = N) (hy : yss.length = N) (b : Bool) (hb : b = decide (xss = yss)) :
    Calls Try.prog 46 #[.slice a N c, .slice a' N c'] w (StillQ (.bool b) w) := by
  have HX1 := Lib.hid hx
  have HY1 := Lib.hid hy
  have HG := Lib.hid h
  have HG' := Lib.hid h'
  have hN9 : N ≤ 9 := by rw [← hx]; exact h.2.1
  have HB := Lib.hid hb
  clear hx hy h h' hb
  go_enter Try.func46, Try.ntmps46
  go_wp2
  go_loopw [5] (fun i wr => ∃ (k n : Nat), k ≤ N ∧ i = .int .i64 k ∧ wr = w.drewN n ∧ Hid (∀ i j, i < k → j < N → ent xss i j = ent yss i j)) (fun i _ => N - (intOf i).toNat)
  case atStart => exact ⟨0, 0, Nat.zero_le _, rfl, rfl, Lib.hid fun i j hi => absurd hi (Nat.not_lt_zero _)⟩
  case round =>
    obtain ⟨k, n, hk, rfl, rfl, HK⟩ := hrel
    by_cases hlt : k < N
    · obtain ⟨b0, o, r, d, xs, rfl, hb0, hc, hI, HX⟩ := hM.at_ (k := k) (by rw [HX1.out]; exact hlt)
      obtain ⟨b0', o', r', d', ys, rfl, hb0', hc', hI', HY⟩ := hM'.at_ (k := k) (by rw [HY1.out]; exact hlt)
      have HE := Lib.hid (show xs.length = N by rw [← HX1.out]; exact HG.out.len HX.out)
      have HE' := Lib.hid (show ys.length = N by rw [← HY1.out]; exact HG'.out.len HY.out)
      rw [HE.out] at hc
      rw [HE'.out] at hc'
      go_wp2
      go_loopw [6] (fun i wr => ∃ (j m : Nat), j ≤ N ∧ i = .int .i64 j ∧ wr = w.drewN m ∧ Hid (∀ l, l < j → ent xss k l = ent yss k l)) (fun i _ => N - (intOf i).toNat)
      case atStart => exact ⟨0, n, Nat.zero_le _, rfl, rfl, Lib.hid fun l hl => absurd hl (Nat.not_lt_zero _)⟩
      case round =>
        obtain ⟨j, m, hj, rfl, rfl, HJ⟩ := hrel
        by_cases hlj : j < N
        · obtain ⟨b1, o1, v, rfl, hb1, hc1, HV⟩ := hI.at_ (k := j) (by rw [HE.out]; exact hlj)
          obtain ⟨b1', o1', v', rfl, hb1', hc1', HV'⟩ := hI'.at_ (k := j) (by rw [HE'.out]; exact hlj)
          have HU := Lib.hid (ent_eq HX.out HV.out)
          have HU' := Lib.hid (ent_eq HY.out HV'.out)
          by_cases e : v = v'
          · subst e
            have HJ2 : Hid (∀ l, l < j + 1 → ent xss k l = ent yss k l) := Lib.hid fun l hl => by
              by_cases e : l = j
              · subst e; rw [HU.out, HU'.out]
              · exact HJ.out l (by omega)
            go_wp2
            go_quiet (fail)
            go_wp2
            go_roundw
            case rel => exact ⟨j + 1, _, by omega, by go_num, rfl, HJ2⟩
            case measure => simp [intOf]; omega
          · have hvv : (v != v') = true := by simpa using e
            have hbf : b = false := by
              rw [HB.out]
              refine decide_eq_false fun e2 => e ?_
              rw [← HU.out, ← HU'.out, e2]
            go_wp2
            go_quiet (fail)
            go_wp2
            go_ret
            exact ⟨by rw [hbf]; rfl, _, drewN_twoQ _ _ _⟩
        · obtain rfl : j = N := by omega
          have HK2 : Hid (∀ i l, i < k + 1 → l < j → ent xss i l = ent yss i l) := Lib.hid fun i l hi hl => by
            by_cases e : i = k
            · subst e; exact HJ.out l hl
            · exact HK.out i l (by omega) hl
          go_wp2
          go_roundw
          case rel => exact ⟨k + 1, _, by omega, by go_num, rfl, HK2⟩
          case measure => simp [intOf]; omega
    · obtain rfl : k = N := by omega
      have hbt : b = true := by
        rw [HB.out]
        exact decide_eq_true (ent_ext HG.out HG'.out (by rw [HX1.out, HY1.out]) (fun i j hi hj => HK.out i j (by rw [← HX1.out]; exact hi) (by rw [← HX1.out]; exact hj)))
      go_wp2
      go_ret
      exact ⟨by rw [hbt]; rfl, n, rfl⟩

end Go.Proofs.Ytmohmecdhabapac
