/-
  The walk of the law of P25 (TurnsOf).
-/
import Derived.Test.YtiappomfohnhoaaD14
import Derived.Test.YtiappomfohnhoaaZV
import Derived.Test.YtiappomfohnhoaaZR
import Derived.Test.YtiappomfohnhoaaM7
import Derived.Test.YtiappomfohnhoaaZF
import Derived.Test.YtiappomfohnhoaaG1
namespace Go.Proofs.Ytiappomfohnhoaa
open Go.RowKit Go.Shelf

/-- n factors, as the law multiplies them. -/
def facN : Nat → Nat
  | 0 => 1
  | n + 1 => facN n * (n + 1)
theorem desc_fac {n : Nat} (h : n ≤ 5) : descN n n = facN n := by
  have : n = 0 ∨ n = 1 ∨ n = 2 ∨ n = 3 ∨ n = 4 ∨ n = 5 := by omega
  rcases this with rfl | rfl | rfl | rfl | rfl | rfl <;> rfl
theorem fac_le {n : Nat} (h : n ≤ 9) : facN n ≤ 362880 := by
  have : n = 0 ∨ n = 1 ∨ n = 2 ∨ n = 3 ∨ n = 4 ∨ n = 5 ∨ n = 6 ∨ n = 7 ∨ n = 8 ∨ n = 9 := by omega
  rcases this with rfl | rfl | rfl | rfl | rfl | rfl | rfl | rfl | rfl | rfl <;> decide

set_option maxRecDepth 100000 in
set_option maxHeartbeats 8000000 in
theorem turnsOf_any (a : Option Addr) (n c : Nat) (w : World) (hc : n ≤ c) (hl : n ≤ 9223372036854775807) (hy : Bytes w.heap.size w a n) :
    Calls Try.prog 16 #[.slice a n c] w (Ans (.bool true) w) := by
  by_cases hbign : 1048576 < n
  · go_enter Try.func16, Try.ntmps16
    go_wp2_with fail
    go_ret
    exact ⟨rfl, Below.refl _ _⟩
  go_enter Try.func16, Try.ntmps16
  go_wp2_with fail
  refine (drawTurnsOf_any a n c w (by omega) hc hy).mono ?_
  rintro e w1 ⟨aG, cG, G, rfl, ⟨hF, x1, hx4⟩, hB⟩
  have HB1 := Lib.hid hB
  have HF := Lib.hid hF
  have hlG := hF.1
  obtain ⟨r, HR⟩ : ∃ r, Hid (turI G = r) := ⟨_, rfl⟩
  have hrr : (r != r) = false := by simp
  clear hB hF hy
  go_wp2_with fail
  refine (implTurns _ _ _ _ x1 HF.out).mono ?_
  rw [HR.out]
  rintro e w2 ⟨rfl, hB2⟩
  have hz2 := hB2.size
  have x2 := (x1.below hB2).more hz2
  have HB2 := Lib.hid (HB1.out.trans (hB2.mono HB1.out.size))
  clear hB2 hz2 x1
  go_wp2_with fail
  refine (specTurns _ _ _ _ _ x2 (Nat.le_refl _) HF.out).mono ?_
  rw [HR.out]
  rintro e w3 ⟨rfl, hB3⟩
  have hz3 := hB3.size
  have x3 := (x2.below hB3).more hz3
  have HB3 := Lib.hid (HB2.out.trans (hB3.mono HB2.out.size))
  clear hB3 hz3 x2
  by_cases h5 : g5 G = true
  · obtain ⟨hg, h55⟩ := g5_iff.1 h5
    have hle := tur_le h5
    have hdv := tur_divides G
    rw [desc_fac h55] at hdv
    have hty := turI_yes h5
    rw [HR.out] at hty hle
    obtain ⟨s, hs⟩ : ∃ s, (turA G).length = s := ⟨_, rfl⟩
    rw [hs] at hdv hty
    obtain rfl : r = (s : Int) := hty
    have HDV : Hid (facN G.length % s = 0) := Lib.hid (Nat.mod_eq_zero_of_dvd hdv)
    have HTT : Hid (turI (turnedL G) = (s : Int)) := Lib.hid (by rw [tur_turned h5, HR.out])
    have HTF : Hid (Fit (turnedL G)) := Lib.hid (by rw [turnedL_yes hg]; exact (rowsP_good _ (good_of hg).1 (good_of hg).2.1).fit)
    have hg1 := (good_of hg).1
    obtain ⟨q, HQ⟩ : ∃ q, Hid (countI G G = q) := ⟨_, rfl⟩
    rw [HQ.out] at hle
    obtain ⟨hle1, hle2⟩ := hle
    have hs0 : (s : Int) ≠ 0 := by omega
    have hs1 : s ≠ 0 := by omega
    obtain ⟨A, HA⟩ : ∃ A, Hid (facN G.length = A) := ⟨_, rfl⟩
    have hA9 : A ≤ 362880 := by rw [← HA.out]; exact fac_le (by omega)
    rw [HA.out] at HDV
    have HREM : Hid (Int.tmod (A : Int) (s : Int) = 0) := Lib.hid (by rw [Int.tmod_eq_emod_of_nonneg (Int.natCast_nonneg _), ← Int.natCast_emod, HDV.out]; rfl)
    clear h5 hg hdv hs hrr
    go_wp2_with fail
    go_loop [5, 6] (fun v i => ∃ k p : Nat, 1 ≤ k ∧ k ≤ G.length ∧ i = .int .i64 ((k : Int) + 1) ∧ v = .int .i64 p ∧ Hid (p = facN k)) (fun _ i => G.length + 1 - (intOf i).toNat)
    case atStart => exact ⟨1, 1, Nat.le_refl _, hg1, rfl, rfl, Lib.hid rfl⟩
    case round =>
      obtain ⟨k, p, hk1, hk, rfl, rfl, HP⟩ := hrel
      by_cases hlt : k < G.length
      · have hpk : p * (k + 1) ≤ 362880 := by rw [HP.out]; exact fac_le (n := k + 1) (by omega)
        have hp0 : (0 : Int) ≤ (p : Int) * ((k : Int) + 1) := by have : (p : Int) * ((k : Int) + 1) = ((p * (k + 1) : Nat) : Int) := by rw [Int.natCast_mul]; rfl
                                                                 omega
        have hp1 : (p : Int) * ((k : Int) + 1) ≤ 362880 := by have : (p : Int) * ((k : Int) + 1) = ((p * (k + 1) : Nat) : Int) := by rw [Int.natCast_mul]; rfl
                                                              omega
        go_wp2_with fail
        go_round
        case rel => exact ⟨k + 1, p * (k + 1), by omega, by omega, by go_num, by rw [Int.natCast_mul]; rfl, Lib.hid (by rw [HP.out]; rfl)⟩
        case measure => simp [intOf]; omega
      · have hpA : p = A := by rw [HP.out, ← HA.out, show k = G.length by omega]
        subst hpA
        clear HP
        have hrem := HREM.out
        go_wp2_with fail
        refine (implCount _ _ _ _ _ _ _ x3 x3 HF.out HF.out).mono ?_
        rw [HQ.out]
        rintro e w4 ⟨rfl, hB4⟩
        have hz4 := hB4.size
        have x4 := (x3.below hB4).more hz4
        have HB4 := Lib.hid (HB3.out.trans (hB4.mono HB3.out.size))
        clear hB4 hz4 x3
        go_wp2_with fail
        refine (implTurned _ _ _ _ x4 HF.out).mono ?_
        rintro e w5 ⟨b5, c5, ⟨rfl, hB5⟩, hO5⟩
        have t5 := hO5.mat
        clear hO5
        have hz5 := hB5.size
        have x5 := (x4.below hB5).more hz5
        have HB5 := Lib.hid (HB4.out.trans (hB5.mono HB4.out.size))
        clear hB5 hz5 x4
        go_wp2_with fail
        refine (implTurns _ _ _ _ t5 HTF.out).mono ?_
        rw [HTT.out]
        rintro e w6 ⟨rfl, hB6⟩
        have hz6 := hB6.size
        have x6 := (x5.below hB6).more hz6
        have t6 := (t5.below hB6).more hz6
        have HB6 := Lib.hid (HB5.out.trans (hB6.mono HB5.out.size))
        clear hB6 hz6 x5 t5
        go_wp2_with fail
        go_ret
        exact ⟨rfl, HB6.out⟩
  · have hn : g5 G = false := by simpa using h5
    obtain rfl : r = -1 := HR.out.symm.trans (turI_no hn)
    clear h5 hn hrr
    clear x3
    go_wp2_with fail
    refine (alive_any _).mono ?_
    rintro e w4 ⟨rfl, hB4⟩
    have hz4 := hB4.size
    have HB4 := Lib.hid (HB3.out.trans (hB4.mono HB3.out.size))
    clear hB4 hz4 
    go_wp2_with fail
    go_ret
    exact ⟨rfl, HB4.out⟩

end Go.Proofs.Ytiappomfohnhoaa
