/-
  The walk of the law of P40 (HeightsOf).
-/
import Derived.Test.YtkkifphpogfjfaaWC
import Derived.Test.YtkkifphpogfjfaaWB
import Derived.Test.YtkkifphpogfjfaaZN
import Derived.Test.YtkkifphpogfjfaaWQ
import Derived.Test.YtkkifphpogfjfaaG1
namespace Go.Proofs.Ytkkifphpogfjfaa
open Go.RowKit Go.Shelf

set_option maxRecDepth 100000 in
set_option maxHeartbeats 8000000 in
theorem heightsOf_any (a : Option Addr) (n c : Nat) (w : World) (hc : n ≤ c) (hl : n ≤ 9223372036854775807) (hy : Bytes w.heap.size w a n) :
    Calls Try.prog 9 #[.slice a n c] w (Ans (.bool true) w) := by
  by_cases hbign : 1048576 < n
  · go_enter Try.func9, Try.ntmps9
    go_wp2_with fail
    go_ret
    exact ⟨rfl, Below.refl _ _⟩
  go_enter Try.func9, Try.ntmps9
  go_wp2_with fail
  refine (drawHeightsOf_any a n c w (by omega) hc hy).mono ?_
  rintro e w1 ⟨aG, cG, G, rfl, ⟨hF, x1, hx4⟩, hB⟩
  have HB1 := Lib.hid hB
  have HF := Lib.hid hF
  obtain ⟨ys, HY, HYL⟩ : ∃ ys, Hid (hgtL G = ys) ∧ Hid (ys.length ≤ 1048576) := ⟨_, rfl, hgtL_le⟩
  obtain ⟨m, HM⟩ : ∃ m, Hid (lngK G = m) := ⟨_, rfl⟩
  obtain ⟨zi, HI⟩ : ∃ z, Hid (lngI G = z) := ⟨_, rfl⟩
  have hmm : (m != m) = false := by simp
  have hyl := HYL.out
  clear hB hF hy
  go_wp2_with fail
  refine (implHgt _ _ _ _ x1 HF.out).mono ?_
  rw [HY.out, HM.out]
  rintro e w2 ⟨b2, c2, ⟨rfl, hB2⟩, hO2⟩
  have g2 := own_intsQ hO2
  clear hO2
  have hz2 := hB2.size
  have x2 := (x1.below hB2).more hz2
  have HB2 := Lib.hid (HB1.out.trans (hB2.mono HB1.out.size))
  clear hB2 hz2 x1
  go_wp2_with fail
  refine (specHgt _ _ _ _ _ x2 (Nat.le_refl _) HF.out).mono ?_
  rw [HY.out, HM.out]
  rintro e w3 ⟨b3, c3, ⟨rfl, hB3⟩, t3⟩
  have hz3 := hB3.size
  have x3 := (x2.below hB3).more hz3
  have g3 := (g2.below hB3).more hz3
  have HB3 := Lib.hid (HB2.out.trans (hB3.mono HB2.out.size))
  clear hB3 hz3 x2 g2
  go_wp2_with fail
  refine (sameS_same _ _ _ _ _ _ _ g3 t3 HYL.out).mono ?_
  rintro e w4 h4
  obtain ⟨rfl, hB4⟩ := h4.below
  clear h4
  have hz4 := hB4.size
  have x4 := (x3.below hB4).more hz4
  have g4 := (g3.below hB4).more hz4
  have t4 := (t3.below hB4).more hz4
  have HB4 := Lib.hid (HB3.out.trans (hB4.mono HB3.out.size))
  clear hB4 hz4 x3 g3 t3
  clear t4
  go_wp2_with fail
  refine (implLng _ _ _ _ x4 HF.out).mono ?_
  rw [HI.out, HM.out]
  rintro e w5 ⟨rfl, hB5⟩
  have hz5 := hB5.size
  have x5 := (x4.below hB5).more hz5
  have g5 := (g4.below hB5).more hz5
  have HB5 := Lib.hid (HB4.out.trans (hB5.mono HB4.out.size))
  clear hB5 hz5 x4 g4
  cases m with
  | false =>
    obtain rfl : ys = [] := HY.out.symm.trans (hgt_no HM.out)
    clear x5 g5
    go_wp2_with fail
    refine (alive_any _).mono ?_
    rintro e w6 ⟨rfl, hB6⟩
    have hz6 := hB6.size
    have HB6 := Lib.hid (HB5.out.trans (hB6.mono HB5.out.size))
    clear hB6 hz6 
    go_wp2_with fail
    go_ret
    exact ⟨rfl, HB6.out⟩
  | true =>
    obtain ⟨hg, n, hn⟩ := lngK_some HM.out
    have hn1 := (lng_some hn).1
    have HZN : Hid (zi = (n : Int)) := Lib.hid (by rw [← HI.out]; unfold lngI; rw [hg, hn]; rfl)
    have HME : Hid (mapOkI G (linL n) ys = true) := Lib.hid (by rw [← HY.out]; exact (hgt_map hg hn).1)
    have HSM : Hid (∃ i, i < G.length ∧ nd ys i = n - 1) := Lib.hid (by
      obtain ⟨i, hi, e⟩ := (hgt_map hg hn).2
      exact ⟨i, hi, by rw [← HY.out, hgt_nd HM.out hi]; exact e⟩)
    have HT : Hid (Tells G.length n ys) := Lib.hid (by
      have h := (mapOk_iff.1 HME.out).2.1
      rwa [lin_len] at h)
    have HLF : Hid (Fit (linL n)) := Lib.hid (lin_good hn1.1 hn1.2).fit
    have HLI : Hid (linI (n : Int) = linL n) := Lib.hid (linI_yes hn1.1 hn1.2)
    have HLN : Hid (ys.length = G.length) := Lib.hid HT.out.1
    have hzn := HZN.out
    subst hzn
    obtain ⟨Q, HQ⟩ : ∃ Q, Hid (linL n = Q) := ⟨_, rfl⟩
    rw [HQ.out] at HME HLF HLI
    have hn11 := hn1.1
    have hn19 := hn1.2
    clear hg hn hn1 HI
    go_wp2_with fail
    go_loopw [10, 11] (fun v i wr => ∃ (k t : Nat), k ≤ ys.length ∧ t ≤ 9 ∧ i = .int .i64 k ∧ v = .int .i64 t ∧ wr = w5 ∧ Hid (∀ j, j < k → nd ys j ≤ t) ∧ Hid (t = 0 ∨ ∃ j, j < k ∧ nd ys j = t)) (fun _ i _ => ys.length - (intOf i).toNat)
    case atStart => exact ⟨0, 0, Nat.zero_le _, Nat.zero_le _, rfl, rfl, rfl, Lib.hid fun j h => absurd h (Nat.not_lt_zero _), Lib.hid (.inl rfl)⟩
    case round =>
      obtain ⟨k, t, hk, ht, rfl, rfl, hwr, HUP, HIN⟩ := hrel
      subst hwr
      obtain ⟨w5, rfl⟩ : ∃ w5 : World, w5 = wr := ⟨_, rfl⟩
      by_cases hlt : k < ys.length
      · obtain ⟨b1, o1, v1, rfl, hb1, hc1, HV1⟩ := g5.at_ hlt
        obtain ⟨p, hp, hpn, hpm⟩ := tells_at HT.out (j := k) (by rw [← HLN.out]; exact hlt)
        have ev : v1 = (p : Int) := by have := HV1.out; rw [hp] at this; cases this; rfl
        subst ev
        have HPN := Lib.hid hpn
        clear hp hpn
        go_wp2_with fail
        go_roundw
        case rel =>
          by_cases hgt : t < p
          · exact ⟨k + 1, p, by omega, by omega, by go_num, by first | rw [if_pos hgt] | (congr 1; omega), by first | trivial | rfl, Lib.hid fun j hj => by
              by_cases e : j = k
              · rw [e, HPN.out]; exact Nat.le_refl _
              · have := HUP.out j (by omega); omega, Lib.hid (.inr ⟨k, by omega, HPN.out⟩)⟩
          · exact ⟨k + 1, t, by omega, ht, by go_num, by first | rw [if_neg hgt] | (congr 1; omega), by first | trivial | rfl, Lib.hid fun j hj => by
              by_cases e : j = k
              · rw [e, HPN.out]; omega
              · exact HUP.out j (by omega), Lib.hid (HIN.out.imp id fun ⟨j, h1, h2⟩ => ⟨j, by omega, h2⟩)⟩
        case measure => simp [intOf]; omega
      · obtain rfl : k = ys.length := by omega
        have HTN : Hid (t = n - 1) := Lib.hid (by
          obtain ⟨i, hi, e⟩ := HSM.out
          have h1 := HUP.out i (by have := HLN.out; omega)
          rcases HIN.out with h2 | ⟨j, h2, h3⟩
          · omega
          · obtain ⟨p, _, e2, h4⟩ := tells_at HT.out (j := j) (by have := HLN.out; omega)
            omega)
        have htn : (t : Int) = (n : Int) - 1 := by have := HTN.out; omega
        clear HUP HIN ht
        go_wp2_with fail
        refine (implLin (n : Int) _).mono ?_
        rw [HLI.out]
        rintro e w6 ⟨b6, c6, ⟨rfl, hB6⟩, hO6⟩
        have q6 := hO6.mat.mat
        clear hO6
        have hz6 := hB6.size
        have x6 := (x5.below hB6).more hz6
        have g6 := (g5.below hB6).more hz6
        have HB6 := Lib.hid (HB5.out.trans (hB6.mono HB5.out.size))
        clear hB6 hz6 x5 g5
        go_wp2_with fail
        refine (implMapOk _ _ _ _ _ _ _ _ _ _ x6 q6 g6 HF.out HLF.out HYL.out).mono ?_
        rw [HME.out]
        rintro e w7 ⟨rfl, hB7⟩
        have hz7 := hB7.size
        have x7 := (x6.below hB7).more hz7
        have g7 := (g6.below hB7).more hz7
        have q7 := (q6.below hB7).more hz7
        have HB7 := Lib.hid (HB6.out.trans (hB7.mono HB6.out.size))
        clear hB7 hz7 x6 g6 q6
        clear x7 g7 q7
        go_wp2_with fail
        go_ret
        exact ⟨rfl, HB7.out⟩

end Go.Proofs.Ytkkifphpogfjfaa
