/-
  spec.RowAt, spec.NumberAt, walked.
-/
import Derived.Test.YtjcoilabmbmbkaaY6
import Derived.Test.YtjcoilabmbmbkaaYA
import Derived.Test.YtjcoilabmbmbkaaZI
namespace Go.Proofs.Ytjcoilabmbmbkaa
open Go.RowKit Go.Shelf Go.Deep

set_option maxRecDepth 100000 in
set_option maxHeartbeats 2000000 in
theorem specRowAt (a a' : Option Addr) (c c' : Nat) (H G : List (List Int)) (x : Int) (n₀ : Nat) (w : World) (hM : Mat n₀ w a H) (hM' : Mat n₀ w a' G) (hn₀ : n₀ ≤ w.heap.size) (hF : Fit H) (hF' : Fit G) :
    Calls Try.prog 26 #[.slice a H.length c, .slice a' G.length c', .int .i64 x] w (ReadI (rowAtI H G x) w) := by
  have hS := specPow a a' c c' H G n₀ w hM hM' hn₀ hF hF'
  clear hM hM' hF hF'
  by_cases hok : powOk H G = true
  · obtain ⟨hH, hG, h9⟩ := powOk_of hok
    have hPL := pow_length hok
    have h1 := pow_pos1 (G := G) hH
    obtain ⟨N, hN⟩ : ∃ N, H.length ^ G.length = N := ⟨_, rfl⟩
    obtain ⟨zs, HZ⟩ : ∃ zs, Hid (rowAtI H G x = zs) := ⟨_, rfl⟩
    rw [hok] at hS
    obtain ⟨T, hT⟩ : ∃ T, powL H G = T := ⟨_, rfl⟩
    rw [hT] at hS hPL
    rw [hN] at hPL h9 h1
    rw [HZ.out]
    have HS := Lib.hid hS
    have HPL := Lib.hid hPL
    have hx9 := hG.2.1
    have hm1 := hH.1
    have hm9 := hH.2.1
    have HY : Hid (0 ≤ x → x < (N : Int) → rowR H.length G.length x.toNat = zs) := Lib.hid fun p q => by rw [← HZ.out, rowAt_yes hok p (by rw [hN]; exact q)]
    have HNo : Hid (¬ (0 ≤ x ∧ x < (N : Int)) → zs = []) := Lib.hid fun p => by rw [← HZ.out]; exact rowAt_no fun hh => p ⟨hh.2.1, by rw [← hN]; exact hh.2.2⟩
    clear hS hPL hT hN hok hH hG HZ
    go_enter Try.func26, Try.ntmps26
    go_wp2_with fail
    refine HS.out.mono ?_
    rintro e w1 ⟨b, d, ⟨rfl, hB⟩, -⟩
    have hTN : T.length = N := HPL.out
    rw [hTN]
    clear hTN
    have hB1 := hB.size
    by_cases hx0 : x < 0
    · have HE := Lib.hid (HNo.out (by omega))
      go_wp2_with fail
      refine (in_lo _ _ _ _ hx0).mono ?_
      rintro e w' ⟨rfl, rfl⟩
      go_wp2_with fail
      go_ret
      exact ⟨_, _, ⟨by rw [HE.out]; rfl, hB.alloc hB1 _⟩, fun h => absurd HE.out h⟩
    by_cases hx1 : (N : Int) ≤ x
    · have HE := Lib.hid (HNo.out (by omega))
      go_wp2_with fail
      refine (in_hi _ _ _ _ (by omega) (by omega)).mono ?_
      rintro e w' ⟨rfl, rfl⟩
      go_wp2_with fail
      go_ret
      exact ⟨_, _, ⟨by rw [HE.out]; rfl, hB.alloc hB1 _⟩, fun h => absurd HE.out h⟩
    have HE := Lib.hid (HY.out (by omega) (by omega))
    obtain ⟨n, rfl⟩ : ∃ n : Nat, x = n := ⟨x.toNat, by omega⟩
    go_wp2_with fail
    refine (in_yes _ _ _ _ (by omega) (by omega)).mono ?_
    rintro e w' ⟨rfl, rfl⟩
    go_wp2_with fail
    refine (specRow n G.length H.length _ (by omega) hx9 hm1 hm9).mono ?_
    rintro e w2 ⟨rfl, hB2, hR2⟩
    have HB2 := Lib.hid (hB.trans (hB2.mono hB1))
    have HL := Lib.hid (show zs.length = G.length by rw [← HE.out, rowR_length])
    have HR2 := Lib.hid (show RowI w2 _ zs by rw [← HE.out, Int.toNat_natCast]; exact hR2)
    clear hB2 hR2
    go_wp2_with fail
    go_ret
    exact ⟨_, _, ⟨by rw [HL.out]; rfl, HB2.out⟩, HR2.out.ints HR2.out.lt⟩
  · have hn : powOk H G = false := by simpa using hok
    rw [hn] at hS
    rw [rowAt_no fun h => hok h.1]
    have HS := Lib.hid hS
    clear hS hok hn
    go_enter Try.func26, Try.ntmps26
    go_wp2_with fail
    refine HS.out.mono ?_
    rintro e w1 ⟨b, d, ⟨rfl, hB⟩, -⟩
    have hB1 := hB.size
    go_wp2_with fail
    go_ret
    exact ⟨_, _, ⟨rfl, hB.alloc hB1 _⟩, fun h => absurd rfl h⟩

theorem numR_lt {M k : Nat} {r : List Int} (h : ∀ j y, j < k → r[j]? = some y → 0 ≤ y ∧ y < (M : Int)) (hk : k ≤ r.length) : numR M (r.take k) < M ^ k :=
  (rowR_numR k _ ⟨by rw [List.length_take]; omega, fun j y hy => by
    have hj := (List.getElem?_eq_some_iff.1 hy).1
    rw [List.length_take] at hj
    rw [List.getElem?_take_of_lt (by omega)] at hy
    exact h j y (by omega) hy⟩).2

set_option maxRecDepth 100000 in
set_option maxHeartbeats 2000000 in
theorem specNumAt (a a' a3 : Option Addr) (c c' c3 : Nat) (H G : List (List Int)) (r : List Int) (n₀ : Nat) (w : World) (hM : Mat n₀ w a H) (hM' : Mat n₀ w a' G) (hI : Ints n₀ w a3 r) (hn₀ : n₀ ≤ w.heap.size) (hF : Fit H) (hF' : Fit G) (hl : r.length ≤ 1048576) :
    Calls Try.prog 29 #[.slice a H.length c, .slice a' G.length c', .slice a3 r.length c3] w (Ans (.int .i64 (numAtI H G r)) w) := by
  have hS := specPow a a' c c' H G n₀ w hM hM' hn₀ hF hF'
  have hlf' := hF'.1
  clear hM hM' hF hF'
  obtain ⟨z, HZ⟩ : ∃ z, Hid (numAtI H G r = z) := ⟨_, rfl⟩
  rw [HZ.out]
  by_cases hok : powOk H G = true
  · obtain ⟨hH, hG, h9⟩ := powOk_of hok
    rw [hok] at hS
    have HS := Lib.hid hS
    have hx9 := hG.2.1
    have hm1 := hH.1
    have hm9 := hH.2.1
    have HUP : Hid (∀ k, k ≤ G.length → H.length ^ k ≤ 9) := Lib.hid fun k hk => Nat.le_trans (pow_up hm1 hk) h9
    have HNo : Hid (tellsI G.length H.length r = false → z = -1) := Lib.hid fun h => by rw [← HZ.out]; exact numAt_no fun hh => by rw [h] at hh; cases hh.2
    have HY : Hid (tellsI G.length H.length r = true → z = (numR H.length r : Int)) := Lib.hid fun h => by rw [← HZ.out]; exact numAt_yes hok h
    clear hS hok hH hG h9 HZ
    by_cases hfl : r.length = G.length
    · have HL := Lib.hid hfl
      have hfne : ((r.length : Int) != (G.length : Int)) = false := by simp; omega
      have hr9 : r.length ≤ 9 := by omega
      clear hfl
      go_enter Try.func29, Try.ntmps29
      go_wp2_with fail
      refine HS.out.mono ?_
      rintro e w1 ⟨b1, d1, ⟨rfl, hB1⟩, -⟩
      have hI1 := hI.below (hB1.mono hn₀)
      have HB1 := Lib.hid hB1
      clear hI hB1
      go_wp2_with fail
      go_loop [9, 10] (fun v i => ∃ k q : Nat, k ≤ r.length ∧ i = .int .i64 k ∧ v = .int .i64 q ∧ q ≤ 9 ∧ Hid (q = numR H.length (r.take k)) ∧ Hid (∀ (j : Nat) (y : Int), j < k → r[j]? = some y → 0 ≤ y ∧ y < H.length)) (fun _ i => r.length - (intOf i).toNat)
      case atStart => exact ⟨0, 0, Nat.zero_le _, rfl, rfl, by omega, Lib.hid (by simp [numR]), Lib.hid fun j y h => absurd h (Nat.not_lt_zero _)⟩
      case round =>
        obtain ⟨k, q, hk, rfl, rfl, hq, HQ, HR⟩ := hrel
        by_cases hlt : k < r.length
        · obtain ⟨b, o, y, rfl, hb, hc, HYY⟩ := hI1.at_ hlt
          by_cases hy0 : y < 0
          · have HN : Hid (z = -1) := Lib.hid (HNo.out (tells_no fun h => by have := (h.2 k y HYY.out).1; omega))
            go_wp2_with fail
            refine (in_lo _ _ _ _ hy0).mono ?_
            rintro e w' ⟨rfl, rfl⟩
            go_wp2_with fail
            go_ret
            exact ⟨by rw [HN.out]; rfl, HB1.out⟩
          by_cases hy1 : (H.length : Int) ≤ y
          · have HN : Hid (z = -1) := Lib.hid (HNo.out (tells_no fun h => by have := (h.2 k y HYY.out).2; omega))
            go_wp2_with fail
            refine (in_hi _ _ _ _ (by omega) (by omega)).mono ?_
            rintro e w' ⟨rfl, rfl⟩
            go_wp2_with fail
            go_ret
            exact ⟨by rw [HN.out]; rfl, HB1.out⟩
          obtain ⟨p, rfl⟩ : ∃ p : Nat, y = p := ⟨y.toNat, by omega⟩
          have HRN : Hid (∀ (j : Nat) (x : Int), j < k + 1 → r[j]? = some x → 0 ≤ x ∧ x < H.length) := Lib.hid fun j x hj hx => by
            by_cases e : j = k
            · subst e; rw [HYY.out] at hx; cases hx; omega
            · exact HR.out j x (by omega) hx
          have HQN : Hid (q * H.length + p = numR H.length (r.take (k + 1))) := Lib.hid (by rw [numR_next HYY.out, HQ.out])
          have hqn : q * H.length + p ≤ 9 := by
            rw [HQN.out]
            exact Nat.le_trans (Nat.le_of_lt (numR_lt HRN.out hlt)) (HUP.out (k + 1) (by rw [← HL.out]; exact hlt))
          have hp0 : (0 : Int) ≤ (q : Int) * (H.length : Int) := by rw [← Int.natCast_mul]; omega
          have hp1 : (q : Int) * (H.length : Int) + (p : Int) ≤ 9 := by rw [← Int.natCast_mul]; omega
          go_wp2_with fail
          refine (in_yes _ _ _ _ (by omega) (by omega)).mono ?_
          rintro e w' ⟨rfl, rfl⟩
          go_wp2_with fail
          go_round
          case rel => exact ⟨k + 1, q * H.length + p, by omega, by go_num, by rw [Int.natCast_add, Int.natCast_mul], hqn, HQN, HRN⟩
          case measure => simp [intOf]; omega
        · have hkl : k = r.length := by omega
          have HE : Hid (z = (q : Int)) := Lib.hid (by
            rw [HY.out (tells_yes ⟨HL.out, fun j y hy => HR.out j y (by rw [hkl]; exact (List.getElem?_eq_some_iff.1 hy).1) hy⟩), HQ.out, hkl, List.take_length])
          clear hkl
          go_wp2_with fail
          go_ret
          exact ⟨by rw [HE.out]; rfl, HB1.out⟩
    · have HN : Hid (z = -1) := Lib.hid (HNo.out (tells_no fun h => hfl h.1))
      have hfne : ((r.length : Int) != (G.length : Int)) = true := by simp; omega
      clear hfl
      go_enter Try.func29, Try.ntmps29
      go_wp2_with fail
      refine HS.out.mono ?_
      rintro e w1 ⟨b1, d1, ⟨rfl, hB1⟩, -⟩
      have HB1 := Lib.hid hB1
      clear hB1
      go_wp2_with fail
      go_ret
      exact ⟨by rw [HN.out]; rfl, HB1.out⟩
  · have hn : powOk H G = false := by simpa using hok
    rw [hn] at hS
    have HS := Lib.hid hS
    have HN : Hid (z = -1) := Lib.hid (by rw [← HZ.out]; exact numAt_no fun h => hok h.1)
    clear hS hok hn
    go_enter Try.func29, Try.ntmps29
    go_wp2_with fail
    refine HS.out.mono ?_
    rintro e w1 ⟨b1, d1, ⟨rfl, hB1⟩, -⟩
    have HB1 := Lib.hid hB1
    clear hB1
    go_wp2_with fail
    go_ret
    exact ⟨by rw [HN.out]; rfl, HB1.out⟩

end Go.Proofs.Ytjcoilabmbmbkaa
