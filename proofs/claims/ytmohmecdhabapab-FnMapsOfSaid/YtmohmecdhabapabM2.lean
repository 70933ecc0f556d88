/-
  impl.FewOk and its model.
-/
import Derived.Test.YtmohmecdhabapabL1
namespace Go.Proofs.Ytmohmecdhabapab
open Go.RowKit Go.Shelf

theorem pow_le9 {m k : Nat} (hm : m ≤ 9) (hk : k ≤ 9) : m ^ k ≤ 387420489 :=
  Nat.le_trans (Nat.pow_le_pow_left hm k) (Nat.le_trans (Nat.pow_le_pow_right (by decide) hk) (by decide))
theorem few_yes {G H : List (List Int)} (h : gOk G = true) (h' : gOk H = true) : fewI G H = decide (H.length ^ G.length ≤ 7000) := by unfold fewI; rw [h, h']; rfl
theorem few_at {G H : List (List Int)} {k p : Nat} (hH : 1 ≤ H.length) (hk : k ≤ G.length) (hp : p = H.length ^ k) (hx : k = G.length ∨ 7000 < p) : p ≤ 7000 ↔ H.length ^ G.length ≤ 7000 := by
  rcases hx with rfl | hx
  · rw [hp]
  · have := Nat.pow_le_pow_right hH hk
    rw [← hp] at this
    omega

set_option maxRecDepth 100000 in
set_option maxHeartbeats 1000000 in
theorem implFew (a : Option Addr) (c : Nat) (a' : Option Addr) (c' : Nat) (G H : List (List Int)) (w : World) (hM : Mat w.heap.size w a G) (hM' : Mat w.heap.size w a' H) (hf : Fit G) (hf' : Fit H) :
    Calls Try.prog 11 #[.slice a G.length c, .slice a' H.length c'] w (Ans (.bool (fewI G H)) w) := by
  have HF := Lib.hid hf
  have HF' := Lib.hid hf'
  have hl := hf.1
  have hl' := hf'.1
  clear hf hf'
  by_cases hg : gOk G = true
  · by_cases hg' : gOk H = true
    · rw [few_yes hg hg']
      have h9 := (good_of hg).2.1
      have h9' := (good_of hg').2.1
      go_enter Try.func11, Try.ntmps11
      go_wp2_with fail
      refine (implOk _ _ _ _ hM HF.out).mono ?_
      rintro e w1 ⟨rfl, hB1⟩
      have hz1 := hB1.size
      have hM1' := (hM'.below hB1).more hz1
      clear hM hM'
      go_wp2_with fail
      refine (implOk _ _ _ _ hM1' HF'.out).mono ?_
      rintro e w2 ⟨rfl, hB2⟩
      have HB := Lib.hid (hB1.trans (hB2.mono hz1))
      clear hM1' hB1 hB2 hz1
      go_wp2_with fail
      go_loop [5, 16] (fun r i => ∃ k : Nat, k ≤ G.length ∧ i = .int .i64 k ∧ ∃ p : Nat, r = .int .i64 p ∧ Hid (p = H.length ^ k)) (fun _ i => G.length - (intOf i).toNat)
      case atStart => exact ⟨0, Nat.zero_le _, rfl, 1, rfl, Lib.hid (by simp)⟩
      case round =>
        obtain ⟨k, hk, rfl, p, rfl, HP⟩ := hrel
        by_cases hlt : k < G.length
        · have hpm : p * H.length ≤ 387420489 := by rw [HP.out, ← Nat.pow_succ]; exact pow_le9 h9' (by omega)
          have hp0 : (0 : Int) ≤ (p : Int) * (H.length : Int) := by rw [← Int.natCast_mul]; omega
          have hp1 : (p : Int) * (H.length : Int) ≤ 387420489 := by rw [← Int.natCast_mul]; omega
          go_wp2_with fail
          go_round
          case rel => exact ⟨k + 1, by omega, by go_num, p * H.length, by rw [Int.natCast_mul], Lib.hid (by rw [HP.out, Nat.pow_succ])⟩
          case measure => simp [intOf]; omega
        · obtain rfl : k = G.length := by omega
          have hp2 : p ≤ 387420489 := by rw [HP.out]; exact pow_le9 h9' h9
          go_wp2_with fail
          go_ret
          exact ⟨ret_bool (by rw [← HP.out]; exact decide_eq_decide.2 (by omega)), HB.out⟩
    · have hn : gOk H = false := by simpa using hg'
      rw [few_no2 hn]
      clear hg'
      go_enter Try.func11, Try.ntmps11
      go_wp2_with fail
      refine (implOk _ _ _ _ hM HF.out).mono ?_
      rintro e w1 ⟨rfl, hB1⟩
      have hz1 := hB1.size
      have hM1' := (hM'.below hB1).more hz1
      clear hM hM'
      go_wp2_with fail
      refine (implOk _ _ _ _ hM1' HF'.out).mono ?_
      rintro e w2 ⟨rfl, hB2⟩
      have HB := Lib.hid (hB1.trans (hB2.mono hz1))
      clear hM1' hB1 hB2 hz1
      go_wp2_with fail
      go_ret
      exact ⟨rfl, HB.out⟩
  · have hn : gOk G = false := by simpa using hg
    rw [few_no1 hn]
    clear hg
    go_enter Try.func11, Try.ntmps11
    go_wp2_with fail
    refine (implOk _ _ _ _ hM HF.out).mono ?_
    rintro e w1 ⟨rfl, hB1⟩
    clear hM hM'
    go_wp2_with fail
    go_ret
    exact ⟨rfl, hB1⟩

set_option maxRecDepth 100000 in
set_option maxHeartbeats 1000000 in
theorem specFew (a : Option Addr) (c : Nat) (a' : Option Addr) (c' : Nat) (G H : List (List Int)) (n₀ : Nat) (w : World) (hM : Mat n₀ w a G) (hM' : Mat n₀ w a' H) (hf : Fit G) (hf' : Fit H) :
    Calls Try.prog 12 #[.slice a G.length c, .slice a' H.length c'] w fun e w' => e = .returned (.bool (fewI G H)) ∧ w = w' := by
  have HF := Lib.hid hf
  have HF' := Lib.hid hf'
  have hl := hf.1
  have hl' := hf'.1
  clear hf hf'
  obtain ⟨z, HZ⟩ : ∃ z, Hid (fewI G H = z) := ⟨_, rfl⟩
  rw [HZ.out]
  go_enter Try.func12, Try.ntmps12
  go_wp2_with fail
  go_loop [5, 6] (fun r i => ∃ k : Nat, k ≤ G.length ∧ i = .int .i64 k ∧ ∃ p : Nat, r = .int .i64 p ∧ p ≤ 7340032000 ∧ Hid (p = H.length ^ k)) (fun _ i => G.length - (intOf i).toNat)
  case atStart => exact ⟨0, Nat.zero_le _, rfl, 1, rfl, by omega, Lib.hid (by simp)⟩
  case round =>
    obtain ⟨k, hk, rfl, p, rfl, hp, HP⟩ := hrel
    have HX : Hid (1 ≤ H.length → (k = G.length ∨ 7000 < p) → (p ≤ 7000 ↔ H.length ^ G.length ≤ 7000)) := Lib.hid fun h1 h2 => few_at h1 hk HP.out h2
    by_cases hlt : k < G.length
    · by_cases hp7 : p ≤ 7000
      · have hpm : p * H.length ≤ 7000 * 1048576 := Nat.mul_le_mul hp7 hl'
        have hp0 : (0 : Int) ≤ (p : Int) * (H.length : Int) := by rw [← Int.natCast_mul]; omega
        have hp1 : (p : Int) * (H.length : Int) ≤ 7340032000 := by rw [← Int.natCast_mul]; omega
        go_wp2_with fail
        go_round
        case rel => exact ⟨k + 1, by omega, by go_num, p * H.length, by rw [Int.natCast_mul], by omega, Lib.hid (by rw [HP.out, Nat.pow_succ])⟩
        case measure => simp [intOf]; omega
      · go_wp2_with fail
        refine (specOk_any _ _ _ _ _ hM HF.out).mono ?_
        rintro e w' ⟨rfl, rfl⟩
        by_cases hg : gOk G = true
        · rw [hg]
          go_wp2_with fail
          refine (specOk_any _ _ _ _ _ hM' HF'.out).mono ?_
          rintro e w' ⟨rfl, rfl⟩
          by_cases hg' : gOk H = true
          · rw [hg']
            have HD : Hid (decide ((p : Int) ≤ 7000) = decide (H.length ^ G.length ≤ 7000)) := Lib.hid (decide_eq_decide.2 (Iff.trans (by omega) (HX.out (good_of hg').1 (.inr (by omega)))))
            go_wp2_with fail
            go_ret
            exact ⟨ret_bool (by rw [← HZ.out, few_yes hg hg']; simpa using HD.out), rfl⟩
          · have hn : gOk H = false := by simpa using hg'
            rw [hn]
            clear hg'
            go_wp2_with fail
            go_ret
            exact ⟨ret_bool (by rw [← HZ.out, few_no2 hn]), rfl⟩
        · have hn : gOk G = false := by simpa using hg
          rw [hn]
          clear hg
          go_wp2_with fail
          go_ret
          exact ⟨ret_bool (by rw [← HZ.out, few_no1 hn]), rfl⟩
    · have hke : k = G.length := by omega
      go_wp2_with fail
      refine (specOk_any _ _ _ _ _ hM HF.out).mono ?_
      rintro e w' ⟨rfl, rfl⟩
      by_cases hg : gOk G = true
      · rw [hg]
        go_wp2_with fail
        refine (specOk_any _ _ _ _ _ hM' HF'.out).mono ?_
        rintro e w' ⟨rfl, rfl⟩
        by_cases hg' : gOk H = true
        · rw [hg']
          have HD : Hid (decide ((p : Int) ≤ 7000) = decide (H.length ^ G.length ≤ 7000)) := Lib.hid (decide_eq_decide.2 (Iff.trans (by omega) (HX.out (good_of hg').1 (.inl hke))))
          go_wp2_with fail
          go_ret
          exact ⟨ret_bool (by rw [← HZ.out, few_yes hg hg']; simpa using HD.out), rfl⟩
        · have hn : gOk H = false := by simpa using hg'
          rw [hn]
          clear hg'
          go_wp2_with fail
          go_ret
          exact ⟨ret_bool (by rw [← HZ.out, few_no2 hn]), rfl⟩
      · have hn : gOk G = false := by simpa using hg
        rw [hn]
        clear hg
        go_wp2_with fail
        go_ret
        exact ⟨ret_bool (by rw [← HZ.out, few_no1 hn]), rfl⟩

end Go.Proofs.Ytmohmecdhabapab
