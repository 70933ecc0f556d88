/-
  The walk of the law of P37 (LongestIn).
-/
import Derived.Test.YtkkifphpogfjfaaWC
import Derived.Test.YtkkifphpogfjfaaWB
import Derived.Test.YtkkifphpogfjfaaM7
import Derived.Test.YtkkifphpogfjfaaWQ
import Derived.Test.YtkkifphpogfjfaaG1
namespace Go.Proofs.Ytkkifphpogfjfaa
open Go.RowKit Go.Shelf

/-- What is longest, and what is walked. -/
theorem lng_cmp {G : List (List Int)} {k : Nat} (hg : gOk G = true) (hk : 1 ≤ k) (hk9 : k ≤ 9) : (wkS G k = false → lngK G = true ∧ lngI G ≤ (k : Int)) ∧ (wkS G k = true → lngK G = true → ¬ lngI G ≤ (k : Int)) := by
  constructor
  · intro h
    obtain ⟨n, hn, hle⟩ := (lng_le hk hk9).2 h
    unfold lngK lngI
    rw [hg, hn]
    exact ⟨rfl, by show (n : Int) ≤ (k : Int); omega⟩
  · intro h hK hle
    obtain ⟨_, n, hn⟩ := lngK_some hK
    have e : lngI G = (n : Int) := by unfold lngI; rw [hg, hn]; rfl
    have := (lng_le (G := G) hk hk9).1 ⟨n, hn, by omega⟩
    rw [h] at this; cases this
theorem lng_neg {G : List (List Int)} (h : lngK G = false) : lngI G = -1 := by
  unfold lngK at h
  unfold lngI
  cases hg : gOk G with
  | false => rfl
  | true =>
    rw [hg] at h
    cases hn : lngO G with
    | none => rfl
    | some n => rw [hn] at h; cases h

set_option maxRecDepth 100000 in
set_option maxHeartbeats 8000000 in
theorem longestIn_any (a : Option Addr) (n c : Nat) (w : World) (hc : n ≤ c) (hl : n ≤ 9223372036854775807) (hy : Bytes w.heap.size w a n) :
    Calls Try.prog 6 #[.slice a n c] w (Ans (.bool true) w) := by
  by_cases hbign : 1048576 < n
  · go_enter Try.func6, Try.ntmps6
    go_wp2_with fail
    go_ret
    exact ⟨rfl, Below.refl _ _⟩
  go_enter Try.func6, Try.ntmps6
  go_wp2_with fail
  refine (drawLongestIn_any a n c w (by omega) hc hy).mono ?_
  rintro e w1 ⟨aG, cG, G, rfl, ⟨hF, x1, hx4⟩, hB⟩
  have HB1 := Lib.hid hB
  have HF := Lib.hid hF
  obtain ⟨m, HM⟩ : ∃ m, Hid (lngK G = m) := ⟨_, rfl⟩
  obtain ⟨z, HI⟩ : ∃ z, Hid (lngI G = z) := ⟨_, rfl⟩
  obtain ⟨k, HK⟩ : ∃ k, Hid (gOk G = k) := ⟨_, rfl⟩
  have hmm : (m != m) = false := by simp
  have hzz : (z != z) = false := by simp
  clear hB hF hy
  go_wp2_with fail
  refine (implLng _ _ _ _ x1 HF.out).mono ?_
  rw [HI.out, HM.out]
  rintro e w2 ⟨rfl, hB2⟩
  have hz2 := hB2.size
  have x2 := (x1.below hB2).more hz2
  have HB2 := Lib.hid (HB1.out.trans (hB2.mono HB1.out.size))
  clear hB2 hz2 x1
  go_wp2_with fail
  refine (specLng _ _ _ _ _ x2 (Nat.le_refl _) HF.out).mono ?_
  rw [HI.out, HM.out]
  rintro e w3 ⟨rfl, hB3⟩
  have hz3 := hB3.size
  have x3 := (x2.below hB3).more hz3
  have HB3 := Lib.hid (HB2.out.trans (hB3.mono HB2.out.size))
  clear hB3 hz3 x2
  go_wp2_with fail
  refine (specOk_any _ _ _ _ _ x3 HF.out).mono ?_
  rw [HK.out]
  rintro e wq ⟨rfl, rfl⟩
  cases k with
  | false =>
    obtain ⟨e1, e2⟩ := lng_badR HK.out
    obtain rfl : m = false := HM.out.symm.trans e2
    obtain rfl : z = -1 := HI.out.symm.trans e1
    clear x3
    go_wp2_with fail
    refine (alive_any _).mono ?_
    rintro e w4 ⟨rfl, hB4⟩
    have hz4 := hB4.size
    have HB4 := Lib.hid (HB3.out.trans (hB4.mono HB3.out.size))
    clear hB4 hz4 
    go_wp2_with fail
    go_ret
    exact ⟨rfl, HB4.out⟩
  | true =>
    cases m with
    | false =>
      obtain rfl : z = -1 := HI.out.symm.trans (lng_neg HM.out)
      by_cases h4 : (4 : Int) < (G.length : Int)
      · clear x3
        go_wp2_with fail
        refine (alive_any _).mono ?_
        rintro e w4 ⟨rfl, hB4⟩
        have hz4 := hB4.size
        have HB4 := Lib.hid (HB3.out.trans (hB4.mono HB3.out.size))
        clear hB4 hz4 
        go_wp2_with fail
        go_ret
        exact ⟨rfl, HB4.out⟩
      · have HLP : Hid (∀ k, 1 ≤ k → k ≤ 4 → belowI G (linL k) = !wkS G k ∧ belowI (patL (k + 1)) G = wkS G k) := Lib.hid fun k h1 h2 => line_or_path HK.out (by omega) h1 h2
        have HCM : Hid (∀ k, 1 ≤ k → k ≤ 4 → (wkS G k = false → False) ∧ (wkS G k = true → True)) := Lib.hid fun k h1 h2 => by
          have h := lng_cmp (G := G) HK.out h1 (show k ≤ 9 by omega)
          rw [HM.out, HI.out] at h
          exact ⟨fun h3 => (by have := (h.1 h3).1; cases this), fun _ => trivial⟩
        have hz3 := Nat.le_refl w3.heap.size
        clear hmm hzz HI HM HK
        go_wp2_with fail
        go_loopw [8] (fun i wr => ∃ k : Nat, k ≤ 4 ∧ i = .int .i64 ((k : Int) + 1) ∧ Below w3.heap.size w3 wr) (fun i _ => 5 - (intOf i).toNat)
        case atStart => exact ⟨0, Nat.zero_le _, rfl, Below.refl _ _⟩
        case round =>
          obtain ⟨k, hk, rfl, hB⟩ := hrel
          have hws := hB.size
          by_cases hlt : k < 4
          · have hki : (k : Int) + 1 ≤ 4 := by omega
            have HL1 : Hid (linI ((k : Int) + 1) = linL (k + 1)) := Lib.hid (by
              have h := linI_yes (n := k + 1) (by omega) (by omega)
              rwa [show ((k + 1 : Nat) : Int) = (k : Int) + 1 by omega] at h)
            have HP1 : Hid (patI ((k : Int) + 1 + 1) = patL (k + 1 + 1)) := Lib.hid (by
              have h := patI_yes (n := k + 1 + 1) (by omega) (by omega)
              rwa [show ((k + 1 + 1 : Nat) : Int) = (k : Int) + 1 + 1 by omega] at h)
            have HF1 : Hid (Fit (linL (k + 1))) := Lib.hid (lin_good (by omega) (by omega)).fit
            have HF2 : Hid (Fit (patL (k + 1 + 1))) := Lib.hid (pat_good (by omega) (by omega)).fit
            have HC := Lib.hid (HCM.out (k + 1) (by omega) (by omega))
            obtain ⟨hA1, hA2⟩ := HLP.out (k + 1) (by omega) (by omega)
            have x4 := (x3.below hB).more hws
            have HB4 := Lib.hid hB
            obtain ⟨b, hb⟩ : ∃ b, wkS G (k + 1) = b := ⟨_, rfl⟩
            rw [hb] at hA1 hA2 HC
            have HA1 := Lib.hid hA1
            have HA2 := Lib.hid hA2
            clear hb hA1 hA2 hB
            obtain ⟨Q, HQ⟩ : ∃ Q, Hid (linL (k + 1) = Q) := ⟨_, rfl⟩
            obtain ⟨R, HR⟩ : ∃ R, Hid (patL (k + 1 + 1) = R) := ⟨_, rfl⟩
            rw [HQ.out] at HL1 HF1 HA1
            rw [HR.out] at HP1 HF2 HA2
            clear HQ HR
            obtain ⟨w4, rfl⟩ : ∃ w4 : World, w4 = wr := ⟨_, rfl⟩
            cases b with
            | false =>
              exact (HC.out.1 rfl).elim
            | true =>
              go_wp2_with fail
              refine (implLin ((k : Int) + 1) _).mono ?_
              rw [HL1.out]
              rintro e w5 ⟨b5, c5, ⟨rfl, hB5⟩, hO5⟩
              have l5 := hO5.mat.mat
              clear hO5
              have hz5 := hB5.size
              have x5 := (x4.below hB5).more hz5
              have HB5 := Lib.hid (HB4.out.trans (hB5.mono HB4.out.size))
              clear hB5 hz5 x4
              go_wp2_with fail
              refine (implBelow _ _ _ _ _ _ _ x5 l5 HF.out HF1.out).mono ?_
              rw [HA1.out]
              rintro e w6 ⟨rfl, hB6⟩
              have hz6 := hB6.size
              have x6 := (x5.below hB6).more hz6
              have l6 := (l5.below hB6).more hz6
              have HB6 := Lib.hid (HB5.out.trans (hB6.mono HB5.out.size))
              clear hB6 hz6 x5 l5
              clear l6
              go_wp2_with fail
              refine (implPat ((k : Int) + 1 + 1) _).mono ?_
              rw [HP1.out]
              rintro e w7 ⟨b7, c7, ⟨rfl, hB7⟩, hO7⟩
              have p7 := hO7.mat.mat
              clear hO7
              have hz7 := hB7.size
              have x7 := (x6.below hB7).more hz7
              have HB7 := Lib.hid (HB6.out.trans (hB7.mono HB6.out.size))
              clear hB7 hz7 x6
              go_wp2_with fail
              refine (implBelow _ _ _ _ _ _ _ p7 x7 HF2.out HF.out).mono ?_
              rw [HA2.out]
              rintro e w8 ⟨rfl, hB8⟩
              have hz8 := hB8.size
              have x8 := (x7.below hB8).more hz8
              have p8 := (p7.below hB8).more hz8
              have HB8 := Lib.hid (HB7.out.trans (hB8.mono HB7.out.size))
              clear hB8 hz8 x7 p7
              clear x8 p8
              go_wp2_with fail
              go_roundw
              case rel => exact ⟨k + 1, by omega, by go_num, HB8.out⟩
              case measure => simp [intOf]; omega
          · obtain rfl : k = 4 := by omega
            go_wp2_with fail
            go_ret
            exact ⟨rfl, HB3.out.trans (hB.mono HB3.out.size)⟩
    | true =>
      by_cases h4 : (4 : Int) < (G.length : Int)
      · clear x3
        go_wp2_with fail
        refine (alive_any _).mono ?_
        rintro e w4 ⟨rfl, hB4⟩
        have hz4 := hB4.size
        have HB4 := Lib.hid (HB3.out.trans (hB4.mono HB3.out.size))
        clear hB4 hz4 
        go_wp2_with fail
        go_ret
        exact ⟨rfl, HB4.out⟩
      · have HLP : Hid (∀ k, 1 ≤ k → k ≤ 4 → belowI G (linL k) = !wkS G k ∧ belowI (patL (k + 1)) G = wkS G k) := Lib.hid fun k h1 h2 => line_or_path HK.out (by omega) h1 h2
        have HCM : Hid (∀ k, 1 ≤ k → k ≤ 4 → (wkS G k = false → z ≤ (k : Int)) ∧ (wkS G k = true → ¬ z ≤ (k : Int))) := Lib.hid fun k h1 h2 => by
          have h := lng_cmp (G := G) HK.out h1 (show k ≤ 9 by omega)
          rw [HM.out, HI.out] at h
          exact ⟨fun h3 => (h.1 h3).2, fun h3 => h.2 h3 rfl⟩
        have hz3 := Nat.le_refl w3.heap.size
        clear hmm hzz HI HM HK
        go_wp2_with fail
        go_loopw [8] (fun i wr => ∃ k : Nat, k ≤ 4 ∧ i = .int .i64 ((k : Int) + 1) ∧ Below w3.heap.size w3 wr) (fun i _ => 5 - (intOf i).toNat)
        case atStart => exact ⟨0, Nat.zero_le _, rfl, Below.refl _ _⟩
        case round =>
          obtain ⟨k, hk, rfl, hB⟩ := hrel
          have hws := hB.size
          by_cases hlt : k < 4
          · have hki : (k : Int) + 1 ≤ 4 := by omega
            have HL1 : Hid (linI ((k : Int) + 1) = linL (k + 1)) := Lib.hid (by
              have h := linI_yes (n := k + 1) (by omega) (by omega)
              rwa [show ((k + 1 : Nat) : Int) = (k : Int) + 1 by omega] at h)
            have HP1 : Hid (patI ((k : Int) + 1 + 1) = patL (k + 1 + 1)) := Lib.hid (by
              have h := patI_yes (n := k + 1 + 1) (by omega) (by omega)
              rwa [show ((k + 1 + 1 : Nat) : Int) = (k : Int) + 1 + 1 by omega] at h)
            have HF1 : Hid (Fit (linL (k + 1))) := Lib.hid (lin_good (by omega) (by omega)).fit
            have HF2 : Hid (Fit (patL (k + 1 + 1))) := Lib.hid (pat_good (by omega) (by omega)).fit
            have HC := Lib.hid (HCM.out (k + 1) (by omega) (by omega))
            obtain ⟨hA1, hA2⟩ := HLP.out (k + 1) (by omega) (by omega)
            have x4 := (x3.below hB).more hws
            have HB4 := Lib.hid hB
            obtain ⟨b, hb⟩ : ∃ b, wkS G (k + 1) = b := ⟨_, rfl⟩
            rw [hb] at hA1 hA2 HC
            have HA1 := Lib.hid hA1
            have HA2 := Lib.hid hA2
            clear hb hA1 hA2 hB
            obtain ⟨Q, HQ⟩ : ∃ Q, Hid (linL (k + 1) = Q) := ⟨_, rfl⟩
            obtain ⟨R, HR⟩ : ∃ R, Hid (patL (k + 1 + 1) = R) := ⟨_, rfl⟩
            rw [HQ.out] at HL1 HF1 HA1
            rw [HR.out] at HP1 HF2 HA2
            clear HQ HR
            obtain ⟨w4, rfl⟩ : ∃ w4 : World, w4 = wr := ⟨_, rfl⟩
            cases b with
            | false =>
              have hzk : z ≤ (k : Int) + 1 := by
                have h := HC.out.1 rfl
                omega
              go_wp2_with fail
              refine (implLin ((k : Int) + 1) _).mono ?_
              rw [HL1.out]
              rintro e w5 ⟨b5, c5, ⟨rfl, hB5⟩, hO5⟩
              have l5 := hO5.mat.mat
              clear hO5
              have hz5 := hB5.size
              have x5 := (x4.below hB5).more hz5
              have HB5 := Lib.hid (HB4.out.trans (hB5.mono HB4.out.size))
              clear hB5 hz5 x4
              go_wp2_with fail
              refine (implBelow _ _ _ _ _ _ _ x5 l5 HF.out HF1.out).mono ?_
              rw [HA1.out]
              rintro e w6 ⟨rfl, hB6⟩
              have hz6 := hB6.size
              have x6 := (x5.below hB6).more hz6
              have l6 := (l5.below hB6).more hz6
              have HB6 := Lib.hid (HB5.out.trans (hB6.mono HB5.out.size))
              clear hB6 hz6 x5 l5
              clear l6
              go_wp2_with fail
              refine (implPat ((k : Int) + 1 + 1) _).mono ?_
              rw [HP1.out]
              rintro e w7 ⟨b7, c7, ⟨rfl, hB7⟩, hO7⟩
              have p7 := hO7.mat.mat
              clear hO7
              have hz7 := hB7.size
              have x7 := (x6.below hB7).more hz7
              have HB7 := Lib.hid (HB6.out.trans (hB7.mono HB6.out.size))
              clear hB7 hz7 x6
              go_wp2_with fail
              refine (implBelow _ _ _ _ _ _ _ p7 x7 HF2.out HF.out).mono ?_
              rw [HA2.out]
              rintro e w8 ⟨rfl, hB8⟩
              have hz8 := hB8.size
              have x8 := (x7.below hB8).more hz8
              have p8 := (p7.below hB8).more hz8
              have HB8 := Lib.hid (HB7.out.trans (hB8.mono HB7.out.size))
              clear hB8 hz8 x7 p7
              clear x8 p8
              go_wp2_with fail
              go_roundw
              case rel => exact ⟨k + 1, by omega, by go_num, HB8.out⟩
              case measure => simp [intOf]; omega
            | true =>
              have hzk : ¬ z ≤ (k : Int) + 1 := by
                have h := HC.out.2 rfl
                omega
              go_wp2_with fail
              refine (implLin ((k : Int) + 1) _).mono ?_
              rw [HL1.out]
              rintro e w5 ⟨b5, c5, ⟨rfl, hB5⟩, hO5⟩
              have l5 := hO5.mat.mat
              clear hO5
              have hz5 := hB5.size
              have x5 := (x4.below hB5).more hz5
              have HB5 := Lib.hid (HB4.out.trans (hB5.mono HB4.out.size))
              clear hB5 hz5 x4
              go_wp2_with fail
              refine (implBelow _ _ _ _ _ _ _ x5 l5 HF.out HF1.out).mono ?_
              rw [HA1.out]
              rintro e w6 ⟨rfl, hB6⟩
              have hz6 := hB6.size
              have x6 := (x5.below hB6).more hz6
              have l6 := (l5.below hB6).more hz6
              have HB6 := Lib.hid (HB5.out.trans (hB6.mono HB5.out.size))
              clear hB6 hz6 x5 l5
              clear l6
              go_wp2_with fail
              refine (implPat ((k : Int) + 1 + 1) _).mono ?_
              rw [HP1.out]
              rintro e w7 ⟨b7, c7, ⟨rfl, hB7⟩, hO7⟩
              have p7 := hO7.mat.mat
              clear hO7
              have hz7 := hB7.size
              have x7 := (x6.below hB7).more hz7
              have HB7 := Lib.hid (HB6.out.trans (hB7.mono HB6.out.size))
              clear hB7 hz7 x6
              go_wp2_with fail
              refine (implBelow _ _ _ _ _ _ _ p7 x7 HF2.out HF.out).mono ?_
              rw [HA2.out]
              rintro e w8 ⟨rfl, hB8⟩
              have hz8 := hB8.size
              have x8 := (x7.below hB8).more hz8
              have p8 := (p7.below hB8).more hz8
              have HB8 := Lib.hid (HB7.out.trans (hB8.mono HB7.out.size))
              clear hB8 hz8 x7 p7
              clear x8 p8
              go_wp2_with fail
              go_roundw
              case rel => exact ⟨k + 1, by omega, by go_num, HB8.out⟩
              case measure => simp [intOf]; omega
          · obtain rfl : k = 4 := by omega
            go_wp2_with fail
            go_ret
            exact ⟨rfl, HB3.out.trans (hB.mono HB3.out.size)⟩

end Go.Proofs.Ytkkifphpogfjfaa
