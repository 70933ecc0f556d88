/-
  The walk of the law of P43 (CountColours).
-/
import Derived.Test.YtpcmenhchabgiaaWX
import Derived.Test.YtpcmenhchabgiaaZA
import Derived.Test.YtpcmenhchabgiaaZE
import Derived.Test.YtpcmenhchabgiaaWT
import Derived.Test.YtpcmenhchabgiaaZB
import Derived.Test.YtpcmenhchabgiaaVA
namespace Go.Proofs.Ytpcmenhchabgiaa
open Go.RowKit Go.Shelf

set_option maxRecDepth 100000 in
set_option maxHeartbeats 8000000 in
theorem countColours_any (a : Option Addr) (n c : Nat) (w : World) (hc : n ≤ c) (hl : n ≤ 9223372036854775807) (hy : Bytes w.heap.size w a n) :
    Calls Try.prog 5 #[.slice a n c] w (Ans (.bool true) w) := by
  by_cases hbign : 1048576 < n
  · go_enter Try.func5, Try.ntmps5
    go_wp2_with fail
    go_ret
    exact ⟨rfl, Below.refl _ _⟩
  go_enter Try.func5, Try.ntmps5
  go_wp2_with fail
  refine (drawCountColours_any a n c w (by omega) hc hy).mono ?_
  rintro e w1 ⟨aG, cG, G, z, rfl, ⟨hF, x1, hx5⟩, ⟨z0, z5⟩, hB⟩
  have HB1 := Lib.hid hB
  have HF := Lib.hid hF
  obtain ⟨u, HU⟩ : ∃ u, Hid (cocI G z = u) := ⟨_, rfl⟩
  have huu : (u != u) = false := by simp
  clear hB hF hy
  go_wp2_with fail
  refine (implCoc _ _ _ _ _ x1 HF.out).mono ?_
  rw [HU.out]
  rintro e w2 ⟨rfl, hB2⟩
  have hz2 := hB2.size
  have x2 := (x1.below hB2).more hz2
  have HB2 := Lib.hid (HB1.out.trans (hB2.mono HB1.out.size))
  clear hB2 hz2 x1
  go_wp2_with fail
  refine (specCoc _ _ _ _ _ _ x2 (Nat.le_refl _) HF.out).mono ?_
  rw [HU.out]
  rintro e w3 ⟨rfl, hB3⟩
  have hz3 := hB3.size
  have x3 := (x2.below hB3).more hz3
  have HB3 := Lib.hid (HB2.out.trans (hB3.mono HB2.out.size))
  clear hB3 hz3 x2
  by_cases hk : cocK G z = true
  · obtain ⟨h5, hz1, hz4⟩ := cocK_iff.1 hk
    obtain ⟨m, rfl⟩ : ∃ m : Nat, z = (m : Int) := ⟨z.toNat, by omega⟩
    have hm1 : 1 ≤ m := by omega
    have hm4 : m ≤ 4 := by omega
    have hg := (g5_iff.1 h5).1
    have HGD := Lib.hid (good_of hg)
    have hu0 : 0 ≤ u := by rw [← HU.out]; exact coc_nn h5 hm1 hm4
    have hu0' : ¬ u < 0 := by omega
    have HLE : Hid (u ≤ ((m ^ G.length : Nat) : Int)) := Lib.hid (by rw [← HU.out]; exact coc_le h5 hm1 hm4)
    have HLP : Hid (lpK G G.length = true → u = 0) := Lib.hid fun h => by rw [← HU.out]; exact coc_lp h5 hm1 hm4 h
    obtain ⟨A, HA⟩ : ∃ A, Hid (arrowsI G = A) := ⟨_, rfl⟩
    have HAR : Hid (A ≤ 0 → u = ((m ^ G.length : Nat) : Int)) := Lib.hid fun h => by
      rw [← HU.out]; exact coc_all h5 hm1 hm4 (fun i j hi hj => no_arrows hg (by rw [HA.out]; omega) hi hj)
    have HMO : Hid (m = 4 ∨ ∃ y : Int, cocI G ((m : Int) + 1) = y ∧ u ≤ y ∧ ¬ (m : Int) = 4) := Lib.hid (by
      by_cases e : m = 4
      · exact .inl e
      · refine .inr ⟨_, rfl, ?_, by omega⟩
        have h := coc_more h5 hm1 (show m + 1 ≤ 4 by omega)
        rw [HU.out] at h
        exact h)
    have HPW : Hid (∀ k, k < G.length → m ^ k ≤ 256 ∧ m ^ (k + 1) = m ^ k * m ∧ m ^ k * m ≤ 1024) := Lib.hid fun k hk => by
      have h1 : m ^ k ≤ 4 ^ k := Nat.pow_le_pow_left hm4 k
      have h2 : 4 ^ k ≤ 4 ^ 4 := Nat.pow_le_pow_right (by omega) (by omega)
      have h3 : m ^ k * m ≤ 256 * 4 := Nat.mul_le_mul (by omega) hm4
      exact ⟨by omega, Nat.pow_succ _ _, by omega⟩
    clear hk huu h5 hg
    go_wp2_with fail
    go_loopw [6, 7, 8] (fun l a i wr => ∃ (k p : Nat) (b : Bool), k ≤ G.length ∧ i = .int .i64 k ∧ a = .int .i64 p ∧ l = .bool b ∧ Hid (m ^ k = p) ∧ Hid (lpK G k = b) ∧ w3 = wr) (fun _ _ i _ => G.length - (intOf i).toNat)
    case atStart => exact ⟨0, 1, false, Nat.zero_le _, rfl, rfl, rfl, rfl, rfl, rfl⟩
    case round =>
      obtain ⟨k, p, b, hk, rfl, rfl, rfl, HP, HB, rfl⟩ := hrel
      by_cases hlt : k < G.length
      · skip
        obtain ⟨b1, o1, ar, cr, xs, rfl, hb1, hc1, hI1, HXS⟩ := x3.at_ hlt
        have HE := Lib.hid (HGD.out.len HXS.out)
        have hjx : k < xs.length := by rw [HE.out]; exact hlt
        obtain ⟨b2, o2, v, rfl, hb2, hc2, HY⟩ := hI1.at_ hjx
        have hls : lpK G (k + 1) = (b || v == 1) := by rw [lpK_at HXS.out HY.out, HB.out]
        have hki : (k : Int) < (G.length : Int) := by omega
        have hkx : (k : Int) < (xs.length : Int) := by omega
        clear hI1
        have HQ : Hid (∃ q : Nat, m ^ (k + 1) = q ∧ (p : Int) * (m : Int) = (q : Int) ∧ q ≤ 1024) := Lib.hid (by
          obtain ⟨h1, h2, h3⟩ := HPW.out k hlt
          rw [HP.out] at h2 h3
          exact ⟨p * m, h2, (Int.natCast_mul _ _).symm, h3⟩)
        obtain ⟨q, hq1, hq2, hq3⟩ := HQ.out
        have HQ1 := Lib.hid hq1
        have hw : IntKind.i64.wrap ((p : Int) * (m : Int)) = (q : Int) := by rw [hq2, IntKind.wrap_i64]; omega
        clear hq1 HQ
        cases b with
        | true =>
          go_wp2_with fail
          go_roundw
          case rel => exact ⟨k + 1, q, true, by omega, by go_num, rfl, rfl, HQ1, Lib.hid (by rw [hls]; rfl), by first | rfl | trivial⟩
          case measure => simp [intOf]; omega
        | false =>
          have HV := Lib.hid hls
          clear hls
          by_cases hv : v = 1
          · subst hv
            go_wp2_with fail
            go_roundw
            case rel => exact ⟨k + 1, q, true, by omega, by go_num, rfl, rfl, HQ1, Lib.hid (by rw [HV.out]; rfl), by first | rfl | trivial⟩
            case measure => simp [intOf]; omega
          · go_wp2_with fail
            go_roundw
            case rel => exact ⟨k + 1, q, false, by omega, by go_num, rfl, by simp [hv], HQ1, Lib.hid (by rw [HV.out]; simp [hv]), by first | rfl | trivial⟩
            case measure => simp [intOf]; omega
      · obtain rfl : k = G.length := by omega
        have hle : u ≤ (p : Int) := by have := HLE.out; rwa [HP.out] at this
        have har : A ≤ 0 → u = (p : Int) := fun h => by have := HAR.out h; rwa [HP.out] at this
        have hlp : b = true → u = 0 := fun h => HLP.out (by rw [HB.out]; exact h)
        clear HB HP hlt
        cases b with
        | true =>
          obtain rfl : u = 0 := hlp rfl
          go_wp2_with fail
          refine (implArrows _ _ _ _ x3 HF.out).mono ?_
          rw [HA.out]
          rintro e w4 ⟨rfl, hB4⟩
          have hz4 := hB4.size
          have x4 := (x3.below hB4).more hz4
          have HB4 := Lib.hid (HB3.out.trans (hB4.mono HB3.out.size))
          clear hB4 hz4 x3
          by_cases hA : 0 < A
          · rcases HMO.out with rfl | ⟨y, hy1, hy2, hy3⟩
            · clear x4
              go_wp2_with fail
              go_ret
              exact ⟨ret_bool (by simp), HB4.out⟩
            · have HY := Lib.hid hy1
              clear hy1
              go_wp2_with fail
              refine (implCoc _ _ _ _ _ x4 HF.out).mono ?_
              rw [HY.out]
              rintro e w5 ⟨rfl, hB5⟩
              have hz5 := hB5.size
              have x5 := (x4.below hB5).more hz5
              have HB5 := Lib.hid (HB4.out.trans (hB5.mono HB4.out.size))
              clear hB5 hz5 x4
              clear x5
              go_wp2_with fail
              go_ret
              exact ⟨ret_bool (by simp), HB5.out⟩
          · have hup := har (by omega)
            obtain rfl : p = 0 := by omega
            clear hup har hlp
            rcases HMO.out with rfl | ⟨y, hy1, hy2, hy3⟩
            · clear x4
              go_wp2_with fail
              go_ret
              exact ⟨ret_bool (by simp), HB4.out⟩
            · have HY := Lib.hid hy1
              clear hy1
              go_wp2_with fail
              refine (implCoc _ _ _ _ _ x4 HF.out).mono ?_
              rw [HY.out]
              rintro e w5 ⟨rfl, hB5⟩
              have hz5 := hB5.size
              have x5 := (x4.below hB5).more hz5
              have HB5 := Lib.hid (HB4.out.trans (hB5.mono HB4.out.size))
              clear hB5 hz5 x4
              clear x5
              go_wp2_with fail
              go_ret
              exact ⟨ret_bool (by simp), HB5.out⟩
        | false =>
          go_wp2_with fail
          refine (implArrows _ _ _ _ x3 HF.out).mono ?_
          rw [HA.out]
          rintro e w4 ⟨rfl, hB4⟩
          have hz4 := hB4.size
          have x4 := (x3.below hB4).more hz4
          have HB4 := Lib.hid (HB3.out.trans (hB4.mono HB3.out.size))
          clear hB4 hz4 x3
          by_cases hA : 0 < A
          · rcases HMO.out with rfl | ⟨y, hy1, hy2, hy3⟩
            · clear x4
              go_wp2_with fail
              go_ret
              exact ⟨ret_bool (by simp), HB4.out⟩
            · have HY := Lib.hid hy1
              clear hy1
              go_wp2_with fail
              refine (implCoc _ _ _ _ _ x4 HF.out).mono ?_
              rw [HY.out]
              rintro e w5 ⟨rfl, hB5⟩
              have hz5 := hB5.size
              have x5 := (x4.below hB5).more hz5
              have HB5 := Lib.hid (HB4.out.trans (hB5.mono HB4.out.size))
              clear hB5 hz5 x4
              clear x5
              go_wp2_with fail
              go_ret
              exact ⟨ret_bool (by simp), HB5.out⟩
          · have hup := har (by omega)
            subst hup
            rcases HMO.out with rfl | ⟨y, hy1, hy2, hy3⟩
            · clear x4
              go_wp2_with fail
              go_ret
              exact ⟨ret_bool (by simp), HB4.out⟩
            · have HY := Lib.hid hy1
              clear hy1
              go_wp2_with fail
              refine (implCoc _ _ _ _ _ x4 HF.out).mono ?_
              rw [HY.out]
              rintro e w5 ⟨rfl, hB5⟩
              have hz5 := hB5.size
              have x5 := (x4.below hB5).more hz5
              have HB5 := Lib.hid (HB4.out.trans (hB5.mono HB4.out.size))
              clear hB5 hz5 x4
              clear x5
              go_wp2_with fail
              go_ret
              exact ⟨ret_bool (by simp), HB5.out⟩
  · obtain rfl : u = -1 := by rw [← HU.out]; exact coc_no (by simpa using hk)
    clear hk
    clear x3
    go_wp2_with fail
    refine (alive_any _).mono ?_
    rintro e w4 ⟨rfl, hB4⟩
    have hz4 := hB4.size
    have HB4 := Lib.hid (HB3.out.trans (hB4.mono HB3.out.size))
    clear hB4 hz4 
    go_wp2_with fail
    go_ret
    exact ⟨rfl, HB4.out⟩

end Go.Proofs.Ytpcmenhchabgiaa
