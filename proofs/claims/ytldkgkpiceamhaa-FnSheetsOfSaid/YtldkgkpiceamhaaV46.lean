/-
  The walk of the law of P55 (SheetsOf).
-/
import Derived.Test.YtldkgkpiceamhaaXD
import Derived.Test.YtldkgkpiceamhaaXB
import Derived.Test.YtldkgkpiceamhaaZA
import Derived.Test.YtldkgkpiceamhaaZE
import Derived.Test.YtldkgkpiceamhaaZB
import Derived.Test.YtldkgkpiceamhaaXF
namespace Go.Proofs.Ytldkgkpiceamhaa
open Go.RowKit Go.Shelf

theorem sumN_bool46 {n : Nat} {P : Nat → Bool} : sumN n (fun j => bN (P j)) ≤ n := by
  induction n with
  | zero => exact Nat.le_refl _
  | succ n ih =>
    have : bN (P n) ≤ 1 := by unfold bN; split <;> omega
    simp only [sumN]; omega
set_option maxRecDepth 100000 in
set_option maxHeartbeats 8000000 in
theorem sheetsOf_any (a : Option Addr) (n c : Nat) (w : World) (hc : n ≤ c) (hl : n ≤ 9223372036854775807) (hy : Bytes w.heap.size w a n) :
    Calls Try.prog 6 #[.slice a n c] w (Ans (.bool true) w) := by
  by_cases hbign : 1048576 < n
  · go_enter Try.func6, Try.ntmps6
    go_wp2_with fail
    go_ret
    exact ⟨rfl, Below.refl _ _⟩
  go_enter Try.func6, Try.ntmps6
  go_wp2_with fail
  refine (drawSheetsOf_any a n c w (by omega) hc hy).mono ?_
  rintro e w1 ⟨aG, cG, G, aH, cH, H, aF, cF, f, rfl, ⟨hF, x1, hG9⟩, ⟨hF', y1, hH4⟩, ⟨hfl, f1⟩, hB⟩
  have HB1 := Lib.hid hB
  have HF := Lib.hid hF
  have HF' := Lib.hid hF'
  obtain ⟨z, HZ⟩ : ∃ z, Hid (sheI G H f = z) := ⟨_, rfl⟩
  have hzz : (z != z) = false := by simp
  clear hB hF hF' hy
  go_wp2_with fail
  refine (implShe _ _ _ _ _ _ _ _ _ _ x1 y1 f1 HF.out HF'.out hfl).mono ?_
  rw [HZ.out]
  rintro e w2 ⟨rfl, hB2⟩
  have hz2 := hB2.size
  have x2 := (x1.below hB2).more hz2
  have y2 := (y1.below hB2).more hz2
  have f2 := (f1.below hB2).more hz2
  have HB2 := Lib.hid (HB1.out.trans (hB2.mono HB1.out.size))
  clear hB2 hz2 x1 y1 f1
  go_wp2_with fail
  refine (specShe _ _ _ _ _ _ _ _ _ _ _ x2 y2 f2 HF.out HF'.out hfl).mono ?_
  rw [HZ.out]
  rintro e w3 h3
  obtain ⟨rfl, hB3⟩ := h3.below
  clear h3
  have hz3 := hB3.size
  have x3 := (x2.below hB3).more hz3
  have y3 := (y2.below hB3).more hz3
  have f3 := (f2.below hB3).more hz3
  have HB3 := Lib.hid (HB2.out.trans (hB3.mono HB2.out.size))
  clear hB3 hz3 x2 y2 f2
  by_cases hco : (covI G H f && oneI H) = true
  · obtain ⟨hcv, hone⟩ : covI G H f = true ∧ oneI H = true := by simpa using hco
    have hmp := (cov_iff.1 hcv).1
    obtain ⟨⟨hgG, hgH⟩, hfm⟩ := mapOk_iff.1 hmp
    have HT := Lib.hid hfm.1
    obtain ⟨s, hs⟩ : ∃ s, fibN G f 0 = s := ⟨_, rfl⟩
    obtain rfl : z = (s : Int) := by rw [← HZ.out, she_yes hcv hone, hs]
    have HFB : Hid (∀ y, y < H.length → sumN G.length (fun j => bN (nd f j == y)) = s) := Lib.hid fun y hy => by
      have := cov_sheets hcv hone y hy
      rw [hs] at this
      exact this
    have HND : Hid (G.length = s * H.length) := Lib.hid (by rw [← hs]; exact cov_nodes hcv hone)
    have HAR : Hid (arrowsI G = (s : Int) * arrowsI H) := Lib.hid (by rw [← hs]; exact cov_arrows hcv hone)
    have hs9 : s ≤ 9 := by
      have := HFB.out 0 (good_of hgH).1
      rw [← this]
      exact Nat.le_trans sumN_bool46 hG9
    obtain ⟨A, HA⟩ : ∃ A, Hid (arrowsI G = A) := ⟨_, rfl⟩
    obtain ⟨C, HC⟩ : ∃ C, Hid (arrowsI H = C) := ⟨_, rfl⟩
    have hC : 0 ≤ C ∧ C ≤ 81 := by
      rw [← HC.out, arrowsI_yes hgH]
      have h1 := AL_le H
      have h2 : H.length * H.length ≤ 4 * 4 := Nat.mul_le_mul hH4 hH4
      omega
    have hA : 0 ≤ A ∧ A ≤ 81 := by
      rw [← HA.out, arrowsI_yes hgG]
      have h1 := AL_le G
      have h2 : G.length * G.length ≤ 9 * 9 := Nat.mul_le_mul hG9 hG9
      omega
    have hwA : wrap64 A = A := by unfold wrap64; omega
    have hAC : (s : Int) * C = A := by rw [← HC.out, ← HA.out]; exact HAR.out.symm
    have hLN : (s : Int) * (H.length : Int) = (G.length : Int) := by rw [← Int.natCast_mul, ← HND.out]
    have hfl1 : f.length ≤ G.length := by have := HT.out.1; omega
    have hfl2 : G.length ≤ f.length := by have := HT.out.1; omega
    have hAA : (A == A) = true := by simp
    have hGG : ((G.length : Int) == (G.length : Int)) = true := by simp
    have hss : ((s : Int) != (s : Int)) = false := by simp
    have hF3 := Lib.hid f3
    clear hco hcv hone hmp hgG hgH hfm hs f3
    go_wp2_with fail
    go_loopw [7] (fun i wr => ∃ k : Nat, k ≤ H.length ∧ i = .int .i64 k ∧ w3 = wr) (fun i _ => H.length - (intOf i).toNat)
    case atStart => exact ⟨0, Nat.zero_le _, rfl, rfl⟩
    case round =>
      obtain ⟨k, hk, rfl, rfl⟩ := hrel
      by_cases hlt : k < H.length
      · have HFk := Lib.hid (HFB.out k hlt)
        have hki : (k : Int) < (H.length : Int) := by omega
        go_wp2_with fail
        go_loopw [8, 9] (fun s i wr => ∃ (j t : Nat), j ≤ f.length ∧ i = .int .i64 j ∧ s = .int .i64 t ∧ Hid (sumN j (fun i => bN (nd f i == k)) = t) ∧ w3 = wr) (fun _ i _ => f.length - (intOf i).toNat)
        case atStart => exact ⟨0, 0, Nat.zero_le _, rfl, rfl, Lib.hid rfl, rfl⟩
        case round =>
          obtain ⟨j, t, hjl, rfl, rfl, HTt, rfl⟩ := hrel
          by_cases hltj : j < f.length
          · obtain ⟨b7, o7, v7, rfl, hb7, hc7, HV7⟩ := hF3.out.at_ hltj
            have hv7 := HT.out.2 j v7 HV7.out
            obtain ⟨p, rfl⟩ : ∃ p : Nat, v7 = (p : Int) := ⟨v7.toNat, by omega⟩
            have HNJ : Hid (nd f j = p) := Lib.hid (by rw [nd_eq HV7.out]; exact Int.toNat_natCast _)
            have hji : (j : Int) < (f.length : Int) := by omega
            have ht9 : t ≤ 9 := by rw [← HTt.out]; exact Nat.le_trans sumN_bool46 (by omega)
            by_cases hpk : p = k
            · have hpe : ((p : Int) == (k : Int)) = true := by rw [hpk]; exact beq_self_eq_true _
              have HT2 : Hid (sumN (j + 1) (fun i => bN (nd f i == k)) = t + 1) := Lib.hid (by
                simp only [sumN]
                rw [HTt.out, HNJ.out, hpk]; simp [bN])
              clear hpk hv7
              go_wp2_with fail
              go_roundw
              case rel => exact ⟨j + 1, t + 1, by omega, by go_num, by go_num, HT2, by first | rfl | trivial⟩
              case measure => simp [intOf]; omega
            · have hpe : ((p : Int) == (k : Int)) = false := beq_eq_false_iff_ne.2 (by omega)
              have HT2 : Hid (sumN (j + 1) (fun i => bN (nd f i == k)) = t) := Lib.hid (by
                have hb : (p == k) = false := by simpa using hpk
                simp only [sumN]
                rw [HTt.out, HNJ.out, hb]; simp [bN])
              clear hpk hv7
              go_wp2_with fail
              go_roundw
              case rel => exact ⟨j + 1, t, by omega, by go_num, rfl, HT2, by first | rfl | trivial⟩
              case measure => simp [intOf]; omega
          · obtain rfl : j = f.length := by omega
            have hts : t = s := by
              rw [← HTt.out, ← HFk.out]
              congr 1; omega
            subst hts
            go_wp2_with fail
            go_roundw
            case rel => exact ⟨k + 1, by omega, by go_num, by first | rfl | trivial⟩
            case measure => simp [intOf]; omega
      · obtain rfl : k = H.length := by omega
        go_wp2_with fail
        refine (implArrows _ _ _ _ x3 HF.out).mono ?_
        rw [HA.out]
        rintro e w4 ⟨rfl, hB4⟩
        have hz4 := hB4.size
        have x4 := (x3.below hB4).more hz4
        have y4 := (y3.below hB4).more hz4
        have HB4 := Lib.hid (HB3.out.trans (hB4.mono HB3.out.size))
        clear hB4 hz4 x3 y3
        go_wp2_with fail
        refine (implArrows _ _ _ _ y4 HF'.out).mono ?_
        rw [HC.out]
        rintro e w5 ⟨rfl, hB5⟩
        have hz5 := hB5.size
        have x5 := (x4.below hB5).more hz5
        have y5 := (y4.below hB5).more hz5
        have HB5 := Lib.hid (HB4.out.trans (hB5.mono HB4.out.size))
        clear hB5 hz5 x4 y4
        clear x5 y5
        go_wp2_with fail
        go_ret
        exact ⟨rfl, HB5.out⟩
  · obtain rfl : z = -1 := HZ.out.symm.trans (she_no (by simpa using hco))
    clear x3 y3 f3
    go_wp2_with fail
    refine (alive_any _).mono ?_
    rintro e w4 ⟨rfl, hB4⟩
    have hz4 := hB4.size
    have HB4 := Lib.hid (HB3.out.trans (hB4.mono HB3.out.size))
    clear hB4 hz4 
    go_wp2_with fail
    go_ret
    exact ⟨rfl, HB4.out⟩

end Go.Proofs.Ytldkgkpiceamhaa
