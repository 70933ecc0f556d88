/-
  spec.KindsOk, spec.ApartOk, walked.
-/
import Derived.Test.YtdolpkjighbohaaWH
import Derived.Test.YtdolpkjighbohaaZN
import Derived.Test.YtdolpkjighbohaaZI
import Derived.Laws.Small
namespace Go.Proofs.Ytdolpkjighbohaa
open Go.RowKit Go.Shelf Go.Deep

set_option maxRecDepth 100000 in
set_option maxHeartbeats 2000000 in
theorem specKinds (a a' : Option Addr) (c c' : Nat) (G : List (List Int)) (ks : List Int) (n₀ : Nat) (w : World) (hM : Mat n₀ w a G) (hI : Ints n₀ w a' ks) (hF : Fit G) (hl : ks.length ≤ 1048576) :
    Calls Try.prog 19 #[.slice a G.length c, .slice a' ks.length c'] w fun e w' => e = .returned (.bool (kOkI G ks)) ∧ w = w' := by
  obtain ⟨z, HZ⟩ : ∃ z, Hid (kOkI G ks = z) := ⟨_, rfl⟩
  rw [HZ.out]
  have HF := Lib.hid hF
  have hlG := hF.1
  clear hF
  go_enter Try.func19, Try.ntmps19
  go_wp2_with fail
  go_loopw [5, 6] (fun v i wr => ∃ (k t : Nat), k ≤ ks.length ∧ t ≤ k ∧ i = .int .i64 k ∧ v = .int .i64 t ∧ wr = w ∧ Hid (topK (ks.take k) = t) ∧ Hid (kindOk (ks.take k) = true)) (fun _ i _ => ks.length - (intOf i).toNat)
  case atStart => exact ⟨0, 0, Nat.zero_le _, Nat.le_refl _, rfl, rfl, rfl, Lib.hid rfl, Lib.hid rfl⟩
  case round =>
    obtain ⟨k, t, hk, htk, rfl, rfl, rfl, HT, HK⟩ := hrel
    by_cases hlt : k < ks.length
    · obtain ⟨b, o, y, rfl, hb, hc, HY⟩ := hI.at_ hlt
      by_cases hy : 0 ≤ y ∧ y ≤ (t : Int)
      · have HN := Lib.hid (kind_next HY.out HK.out hy.1 (by rw [HT.out]; exact hy.2))
        have HT2 := Lib.hid (topK_next HY.out hy.1)
        rw [HT.out] at HT2
        have hd : decide (0 ≤ y ∧ y ≤ (t : Int)) = true := decide_eq_true hy
        obtain ⟨hy0, hyt⟩ := hy
        go_wp2_with (go_at_call 60; refine (in_any _ _ _ _).mono ?_; rw [hd]; rintro e w' ⟨rfl, rfl⟩)
        go_roundw
        case rel =>
          by_cases hgt : y + 1 > (t : Int)
          · exact ⟨k + 1, t + 1, by omega, by omega, by go_num, by rw [if_pos hgt]; congr 1; omega, by first | trivial | rfl, Lib.hid (by have := HT2.out; omega), HN⟩
          · exact ⟨k + 1, t, by omega, by omega, by go_num, by rw [if_neg hgt], by first | trivial | rfl, Lib.hid (by have := HT2.out; omega), HN⟩
        case measure => simp [intOf]; omega
      · have HN : Hid (z = false) := Lib.hid (by rw [← HZ.out]; exact kOk_no2 (kind_fail HY.out (by rw [HT.out]; exact hy)))
        have hd : decide (0 ≤ y ∧ y ≤ (t : Int)) = false := decide_eq_false hy
        clear hy
        go_wp2_with (go_at_call 60; refine (in_any _ _ _ _).mono ?_; rw [hd]; rintro e w' ⟨rfl, rfl⟩)
        go_ret
        exact ⟨ret_bool HN.out.symm, rfl⟩
    · have HE : Hid (z = (gOk G && decide (ks.length = G.length))) := Lib.hid (by
        rw [← HZ.out]; exact kOk_eq (by have := HK.out; rwa [List.take_of_length_le (by omega)] at this))
      cases hg : gOk G with
      | false =>
        have HN : Hid (z = false) := Lib.hid (by rw [HE.out, hg]; rfl)
        go_wp2_with (go_at_call 20; refine (specOk_any _ _ _ _ _ hM HF.out).mono ?_; rw [hg]; rintro e w' ⟨rfl, rfl⟩)
        go_ret
        exact ⟨ret_bool HN.out.symm, rfl⟩
      | true =>
        by_cases hh : ks.length = G.length
        · have HN : Hid (z = true) := Lib.hid (by rw [HE.out, hg, decide_eq_true hh]; rfl)
          have hq : ((ks.length : Int) == (G.length : Int)) = true := by simp [hh]
          clear hh
          go_wp2_with (go_at_call 20; refine (specOk_any _ _ _ _ _ hM HF.out).mono ?_; rw [hg]; rintro e w' ⟨rfl, rfl⟩)
          go_ret
          exact ⟨ret_bool HN.out.symm, rfl⟩
        · have HN : Hid (z = false) := Lib.hid (by rw [HE.out, hg, decide_eq_false hh]; rfl)
          have hq : ((ks.length : Int) == (G.length : Int)) = false := by simp; omega
          clear hh
          go_wp2_with (go_at_call 20; refine (specOk_any _ _ _ _ _ hM HF.out).mono ?_; rw [hg]; rintro e w' ⟨rfl, rfl⟩)
          go_ret
          exact ⟨ret_bool HN.out.symm, rfl⟩

set_option maxRecDepth 100000 in
set_option maxHeartbeats 2000000 in
theorem specApart (a a' a'' : Option Addr) (c c' c'' : Nat) (G H : List (List Int)) (f : List Int) (n₀ : Nat) (w : World) (hM : Mat n₀ w a G) (hM' : Mat n₀ w a' H) (hI : Ints n₀ w a'' f) (hF : Fit G) (hF' : Fit H) (hl : f.length ≤ 1048576) :
    Calls Try.prog 41 #[.slice a G.length c, .slice a' H.length c', .slice a'' f.length c''] w (Still (.bool (apaI G H f)) w) := by
  obtain ⟨z, HZ⟩ : ∃ z, Hid (apaI G H f = z) := ⟨_, rfl⟩
  rw [HZ.out]
  have HMap := Lib.hid fun W n (hW : W = w.drewN n) => specMapOk a c a' c' a'' c'' G H f n₀ W (by rw [hW]; exact hM.drewN n) (by rw [hW]; exact hM'.drewN n) (by rw [hW]; exact hI.drewN n) hF hF' hl
  clear hF hF'
  go_enter Try.func41, Try.ntmps41
  go_wp2_with fail
  go_loopw [7] (fun i wr => ∃ (k n : Nat), k ≤ f.length ∧ i = .int .i64 k ∧ wr = w.drewN n ∧ Hid (∀ k' j, j < k' → k' < k → f[j]? ≠ f[k']?)) (fun i _ => f.length - (intOf i).toNat)
  case atStart => exact ⟨0, 0, Nat.zero_le _, rfl, rfl, Lib.hid fun k' j _ h => absurd h (Nat.not_lt_zero _)⟩
  case round =>
    obtain ⟨k, n, hk, rfl, rfl, HR⟩ := hrel
    by_cases hlt : k < f.length
    · obtain ⟨b, o, y, rfl, hb, hc, HY⟩ := hI.at_ hlt
      go_wp2_with fail
      go_loopw [8] (fun i wq => ∃ (j m : Nat), j ≤ k ∧ i = .int .i64 j ∧ wq = w.drewN m ∧ Hid (∀ j', j' < j → f[j']? ≠ f[k]?)) (fun i _ => k - (intOf i).toNat)
      case atStart => exact ⟨0, n, Nat.zero_le _, rfl, rfl, Lib.hid fun j' h => absurd h (Nat.not_lt_zero _)⟩
      case round =>
        obtain ⟨j, m, hj, rfl, rfl, HJ⟩ := hrel
        by_cases hjk : j < k
        · obtain ⟨b2, o2, y2, e2, hb2, hc2, HY2⟩ := hI.at_ (show j < f.length by omega)
          cases e2
          by_cases he : y2 = y
          · have HN : Hid (z = false) := Lib.hid (by rw [← HZ.out]; exact apa_no hjk hlt (by rw [HY.out, HY2.out, he]))
            have hyb : (y2 == y) = true := by simp [he]
            clear he
            go_wp2_with fail
            go_quiet (fail)
            go_wp2_with fail
            go_ret
            exact ⟨ret_bool HN.out.symm, _, by first | rfl | exact drewN_two _ _ _⟩
          · have HJ2 : Hid (∀ j', j' < j + 1 → f[j']? ≠ f[k]?) := Lib.hid fun j' hj' => by
              by_cases ej : j' = j
              · subst ej; rw [HY.out, HY2.out]; intro h; exact he (Option.some.inj h)
              · exact HJ.out j' (by omega)
            have hyb : (y2 == y) = false := by simp [he]
            clear he
            go_wp2_with fail
            go_quiet (fail)
            go_wp2_with fail
            go_roundw
            case rel => exact ⟨j + 1, _, by omega, by go_num, by first | rfl | exact drewN_two _ _ _, HJ2⟩
            case measure => simp [intOf]; omega
        · have HR2 : Hid (∀ k' j, j < k' → k' < k + 1 → f[j]? ≠ f[k']?) := Lib.hid fun k' j' h1 h2 => by
            by_cases ek : k' = k
            · subst ek; exact HJ.out j' (by omega)
            · exact HR.out k' j' h1 (by omega)
          go_wp2_with fail
          go_roundw
          case rel => exact ⟨k + 1, _, by omega, by go_num, rfl, HR2⟩
          case measure => simp [intOf]; omega
    · have HN : Hid (z = mapOkI G H f) := Lib.hid (by
        rw [← HZ.out]; exact apa_yes fun k' j h1 h2 => HR.out k' j h1 (by omega))
      go_wp2_with fail
      refine (HMap.out _ n rfl).mono ?_
      rintro e w' ⟨rfl, m, rfl⟩
      go_wp2_with fail
      go_ret
      exact ⟨ret_bool HN.out.symm, _, by first | rfl | exact drewN_two _ _ _⟩

end Go.Proofs.Ytdolpkjighbohaa
