/-
  The exact laws' helpers at lists of graphs and at desks: how large they are.
-/
import Derived.Test.YtofpjepndhpciaaLK
import Derived.Test.YtofpjepndhpciaaZI
namespace Go.Proofs.Ytofpjepndhpciaa
open Go.RowKit Go.Shelf Go.Deep

/-- What is left is no more than it was less all numbers. -/
def SzSum (xss : List (List Int)) (L : Int) (w : World) (e : Ending) (w' : World) : Prop := ∃ r : Int, (e = .returned (.int .i64 r) ∧ w = w') ∧ (r ≤ L ∧ -1 ≤ r) ∧ (0 ≤ r → Fit xss ∧ (tot xss : Int) + r ≤ L)
theorem tot_at {xss : List (List Int)} {k : Nat} {xs : List Int} (h : xss[k]? = some xs) : tot (xss.take (k + 1)) = tot (xss.take k) + xs.length := by
  unfold tot
  rw [List.take_add_one, h]
  simp

set_option maxHeartbeats 400000 in
theorem szSS_sum (a : Option Addr) (c : Nat) (xss : List (List Int)) (n₀ : Nat) (w : World) (L : Int) (hL0 : 0 ≤ L) (hL1 : L ≤ 1048576) (hM : Mat n₀ w a xss) (hl : xss.length ≤ 9223372036854775807) (hr : ∀ xs ∈ xss, xs.length ≤ 9223372036854775807) :
    Calls Try.prog 21 #[.slice a xss.length c, .int .i64 L] w (SzSum xss L w) := by
  have Hl : Hid (xss.length ≤ 9223372036854775807) := hl
  have Hr : Hid (∀ xs ∈ xss, xs.length ≤ 9223372036854775807) := hr
  clear hr
  by_cases hbig : L < (xss.length : Int)
  · go_enter Try.func21, Try.ntmps21
    go_wp2
    go_ret
    exact ⟨-1, ⟨rfl, rfl⟩, ⟨by omega, by omega⟩, fun h => absurd h (by omega)⟩
  · go_enter Try.func21, Try.ntmps21
    go_wp2
    go_loop [1, 5] (fun l i => ∃ (k t : Nat) (r : Int), k ≤ xss.length ∧ i = .int .i64 k ∧ l = .int .i64 r ∧ 0 ≤ r ∧ (t : Int) + r ≤ L ∧ Hid (t = tot (xss.take k)) ∧ Hid (∀ j xs, j < k → xss[j]? = some xs → xs.length ≤ 1048576))
      (fun _ i => xss.length - (intOf i).toNat)
    case atStart => exact ⟨0, 0, _, Nat.zero_le _, rfl, rfl, by omega, by omega, Lib.hid (by simp [tot]), fun j xs h => absurd h (Nat.not_lt_zero _)⟩
    case round =>
      obtain ⟨k, t, r, hk, rfl, rfl, hr0, hr1, HT, HF⟩ := hrel
      by_cases hlt : k < xss.length
      · obtain ⟨b, o, a', c', xs, rfl, hb, hc, hI, HX⟩ := hM.at_ hlt
        have hm : xs.length ≤ 9223372036854775807 := Hr.out xs (List.mem_of_getElem? HX.out)
        by_cases hx : (xs.length : Int) ≤ r
        · go_wp2_with (go_at_call 38; refine (szS_yes _ _ _ _ _ (by omega) (by omega)).mono ?_; rintro e w' ⟨rfl, rfl⟩)
          go_round
          case rel => exact ⟨k + 1, t + xs.length, r - xs.length, by omega, by go_num, rfl, by omega, by omega, Lib.hid (by rw [tot_at HX.out, HT.out]), fun j ys hj hy => by
            by_cases e : j = k
            · subst e; rw [HX.out] at hy; cases hy; omega
            · exact HF.out j ys (by omega) hy⟩
          case measure => simp [intOf]; omega
        · go_wp2_with (go_at_call 38; refine (szS_no _ _ _ _ _ (by omega) (by omega) (by omega)).mono ?_; rintro e w' ⟨rfl, rfl⟩)
          go_ret
          exact ⟨-1, ⟨rfl, rfl⟩, ⟨by omega, by omega⟩, fun h => absurd h (by omega)⟩
      · obtain rfl : k = xss.length := by omega
        have ht : t = tot xss := by rw [HT.out, List.take_length]
        have HT2 := Lib.hid ht
        clear ht
        go_wp2
        go_ret
        refine ⟨_, ⟨rfl, rfl⟩, ⟨by omega, by omega⟩, fun _ => ⟨⟨by omega, fun xs hxs => ?_⟩, by rw [← HT2.out]; omega⟩⟩
        obtain ⟨j, hj, rfl⟩ := List.mem_iff_getElem.1 hxs
        exact HF.out j _ hj (List.getElem?_eq_getElem hj)

/-- All numbers of all graphs. -/
def totC (P : List (List (List Int))) : Nat := (P.map tot).sum
theorem totC_at {P : List (List (List Int))} {k : Nat} {G : List (List Int)} (h : P[k]? = some G) : totC (P.take (k + 1)) = totC (P.take k) + tot G := by
  unfold totC
  rw [List.take_add_one, h]
  simp
/-- Lengths that can be. -/
def LenG (G : List (List Int)) : Prop := G.length ≤ 9223372036854775807 ∧ ∀ xs ∈ G, xs.length ≤ 9223372036854775807
def LenC (P : List (List (List Int))) : Prop := P.length ≤ 9223372036854775807 ∧ ∀ G ∈ P, LenG G
def SzC (P : List (List (List Int))) (L : Int) (w : World) (e : Ending) (w' : World) : Prop := ∃ r : Int, (e = .returned (.int .i64 r) ∧ w = w') ∧ (r ≤ L ∧ -1 ≤ r) ∧ (0 ≤ r → FitC P ∧ (totC P : Int) + r ≤ L)

set_option maxHeartbeats 1000000 in
theorem szC_any (a : Option Addr) (c : Nat) (P : List (List (List Int))) (n₀ : Nat) (w : World) (L : Int) (hL0 : 0 ≤ L) (hL1 : L ≤ 1048576) (hM : Cube n₀ w a P) (hP : LenC P) :
    Calls Try.prog 35 #[.slice a P.length c, .int .i64 L] w (SzC P L w) := by
  have hl := hP.1
  have Hr := Lib.hid hP.2
  clear hP
  by_cases hbig : L < (P.length : Int)
  · go_enter Try.func35, Try.ntmps35
    go_wp2_with fail
    go_ret
    exact ⟨-1, ⟨rfl, rfl⟩, ⟨by omega, by omega⟩, fun h => absurd h (by omega)⟩
  · go_enter Try.func35, Try.ntmps35
    go_wp2_with fail
    go_loop [1, 5] (fun l i => ∃ (k t : Nat) (r : Int), k ≤ P.length ∧ i = .int .i64 k ∧ l = .int .i64 r ∧ 0 ≤ r ∧ (t : Int) + r ≤ L ∧ Hid (t = totC (P.take k)) ∧ Hid (∀ j G, j < k → P[j]? = some G → Fit G))
      (fun _ i => P.length - (intOf i).toNat)
    case atStart => exact ⟨0, 0, _, Nat.zero_le _, rfl, rfl, by omega, by omega, Lib.hid (by simp [totC]), Lib.hid fun j xs h => absurd h (Nat.not_lt_zero _)⟩
    case round =>
      obtain ⟨k, t, r, hk, rfl, rfl, hr0, hr1, HT, HF⟩ := hrel
      by_cases hlt : k < P.length
      · obtain ⟨b, o, G, aG, cG, rfl, hb, HG, hc, hMG⟩ := hM.at_ hlt
        have hki : (k : Int) < (P.length : Int) := by omega
        have hLG := Hr.out G (List.mem_of_getElem? HG.out)
        have HSZ := Lib.hid (szSS_sum aG cG G n₀ w r hr0 (by omega) hMG hLG.1 hLG.2)
        clear hLG hMG
        go_wp2_with fail
        refine HSZ.out.mono ?_
        rintro e w' ⟨q, ⟨rfl, rfl⟩, ⟨hq1, hq2⟩, hq⟩
        by_cases hq0 : 0 ≤ q
        · obtain ⟨hfit, htot⟩ := hq hq0
          have HF2 : Hid (∀ j H, j < k + 1 → P[j]? = some H → Fit H) := Lib.hid fun j H hj hH => by
            by_cases e : j = k
            · subst e; rw [HG.out] at hH; cases hH; exact hfit
            · exact HF.out j H (by omega) hH
          have HT2 : Hid (t + tot G = totC (P.take (k + 1))) := Lib.hid (by rw [totC_at HG.out, HT.out])
          obtain ⟨u, hu⟩ : ∃ u, tot G = u := ⟨_, rfl⟩
          rw [hu] at HT2 htot
          clear hfit hu hq
          go_wp2_with fail
          go_round
          case rel => exact ⟨k + 1, t + u, q, by omega, by go_num, rfl, by omega, by omega, HT2, HF2⟩
          case measure => simp [intOf]; omega
        · have hqn : q < 0 := by omega
          clear hq
          go_wp2_with fail
          go_ret
          exact ⟨-1, ⟨rfl, rfl⟩, ⟨by omega, by omega⟩, fun h => absurd h (by omega)⟩
      · obtain rfl : k = P.length := by omega
        have HT2 : Hid (t = totC P) := Lib.hid (by rw [HT.out, List.take_length])
        go_wp2_with fail
        go_ret
        refine ⟨_, ⟨rfl, rfl⟩, ⟨by omega, by omega⟩, fun _ => ⟨⟨by omega, fun G hG => ?_⟩, by rw [← HT2.out]; omega⟩⟩
        obtain ⟨j, hj⟩ := List.getElem?_of_mem hG
        exact HF.out j _ (List.getElem?_eq_some_iff.1 hj).1 hj

/-- A DESK THAT IS NOT TOO LARGE. -/
def FitD (d : Dk) : Prop := Fit d.now ∧ FitC d.past ∧ tot d.now + totC d.past ≤ 1048576
def LenD (d : Dk) : Prop := LenG d.now ∧ LenC d.past
def SzD (d : Dk) (w : World) (e : Ending) (w' : World) : Prop := ∃ r : Int, e = .returned (.int .i64 r) ∧ Below w.heap.size w w' ∧ (r ≤ 1048576 ∧ -1 ≤ r) ∧ (0 ≤ r → FitD d)

set_option maxHeartbeats 1000000 in
theorem szD_any (aN : Option Addr) (cN : Nat) (G : List (List Int)) (aP : Option Addr) (cP : Nat) (P : List (List (List Int))) (w : World) (hM : Mat w.heap.size w aN G) (hC : Cube w.heap.size w aP P) (hL : LenD ⟨G, P⟩) :
    Calls Try.prog 18 #[.agg #[.slice aN G.length cN, .slice aP P.length cP], .int .i64 1048576] w (SzD ⟨G, P⟩ w) := by
  have hB0 : Below w.heap.size w (w.alloc (.cells #[.slice aN G.length cN, .slice aP P.length cP] 37)) := (Below.refl _ _).alloc (Nat.le_refl _) _
  have c0 : (w.alloc (.cells #[.slice aN G.length cN, .slice aP P.length cP] 37)).cell? ⟨w.heap.size, 0, none⟩ = some (.slice aN G.length cN) := by simp [go_sem]
  have c1 : (w.alloc (.cells #[.slice aN G.length cN, .slice aP P.length cP] 37)).cell? ⟨w.heap.size, 1, none⟩ = some (.slice aP P.length cP) := by simp [go_sem]
  have hM1 := hM.below hB0
  have hC1 := hC.below hB0
  have HLG := Lib.hid hL.1
  have HLC := Lib.hid hL.2
  have HB0 := Lib.hid hB0
  obtain ⟨V, hV⟩ : ∃ V, w.alloc (.cells #[.slice aN G.length cN, .slice aP P.length cP] 37) = V := ⟨_, rfl⟩
  rw [hV] at c0 c1 hM1 hC1 HB0
  have HV := Lib.hid hV
  clear hM hC hL hB0 hV
  go_enter Try.func18, Try.ntmps18
  go_wp2_with fail
  rw [HV.out]
  refine (szSS_sum aN cN G _ V 1048576 (by omega) (by omega) hM1 HLG.out.1 HLG.out.2).mono ?_
  rintro e w' ⟨q, ⟨rfl, rfl⟩, ⟨hq1, hq2⟩, hq⟩
  by_cases hq0 : 0 ≤ q
  · obtain ⟨hfit, htot⟩ := hq hq0
    have HFit := Lib.hid hfit
    clear hfit hq
    go_wp2_with fail
    refine (szC_any aP cP P _ V q hq0 (by omega) hC1 HLC.out).mono ?_
    rintro e w' ⟨p, ⟨rfl, rfl⟩, ⟨hp1, hp2⟩, hp⟩
    have HP := Lib.hid hp
    clear hp
    by_cases hp0 : 0 ≤ p
    · go_wp2_with fail
      go_ret
      exact ⟨p, rfl, HB0.out, ⟨by omega, by omega⟩, fun h => ⟨HFit.out, (HP.out h).1, by have := (HP.out h).2; show tot G + totC P ≤ 1048576; omega⟩⟩
    · have hpn : p < 0 := by omega
      go_wp2_with fail
      go_ret
      exact ⟨-1, rfl, HB0.out, ⟨by omega, by omega⟩, fun h => absurd h (by omega)⟩
  · have hqn : q < 0 := by omega
    clear hq
    go_wp2_with fail
    go_ret
    exact ⟨-1, rfl, HB0.out, ⟨by omega, by omega⟩, fun h => absurd h (by omega)⟩

end Go.Proofs.Ytofpjepndhpciaa
