/-
  The walk of the law of P1 (TurnedOf).
-/
import Derived.Test.YtdhpkmijbgcdpaaG1
namespace Go.Proofs.Ytdhpkmijbgcdpaa
open Go.RowKit Go.Shelf

theorem turned_row {xss : List (List Int)} (h : Good xss) {i j : Nat} {xs ys : List Int} {u v : Int} (hx : (turnedL xss)[i]? = some xs) (hu : xs[j]? = some u) (hy : xss[j]? = some ys) (hv : ys[i]? = some v) : u = v := by
  have e1 := ent_eq hx hu
  have e2 := ent_eq hy hv
  rw [turnedL_yes (gOk_true h)] at e1 hx
  have hi : i < xss.length := by have := (List.getElem?_eq_some_iff.1 hx).1; rwa [rowsP_length] at this
  have hj : j < xss.length := (List.getElem?_eq_some_iff.1 hy).1
  rw [rowsP_ent hi hj] at e1
  have hg := (good_iff_ent h.1 h.2.1 (fun i xs h' => h.len h')).1 h (⟨j, hj⟩, ⟨i, hi⟩)
  simp only at hg
  unfold arw at e1
  rw [e2] at e1 hg
  rcases hg with e | e <;> rw [e] at e1 ⊢ <;> simpa using e1.symm

set_option maxRecDepth 100000 in
set_option maxHeartbeats 4000000 in
theorem turnedOf_any (a : Option Addr) (n c : Nat) (w : World) (hc : n ≤ c) (hl : n ≤ 9223372036854775807) (hy : Bytes w.heap.size w a n) :
    Calls Try.prog 5 #[.slice a n c] w (Ans (.bool true) w) := by
  by_cases hbig : 1048576 < n
  · go_enter Try.func5, Try.ntmps5
    go_wp2_with fail
    go_ret
    exact ⟨rfl, Below.refl _ _⟩
  go_enter Try.func5, Try.ntmps5
  go_wp2_with fail
  refine (drawTurnedOf_any a n c w (by omega) hc hy).mono ?_
  rintro e w1 ⟨a1, c1, xss, rfl, hF, hM, hB⟩
  have HB := Lib.hid hB
  have HF := Lib.hid hF
  clear hB hF hy
  go_wp2_with fail
  refine (implTurned _ _ _ _ hM HF.out).mono ?_
  rintro e w2 ⟨a2, c2, ⟨rfl, hB2⟩, hO⟩
  have hT2 := hO.mat
  have hM2 : Mat w1.heap.size w2 a1 xss := hM.below hB2
  have hz2 := hB2.size
  have HB2 := Lib.hid (HB.out.trans (hB2.mono HB.out.size))
  clear hM hB2 hO
  go_wp2_with fail
  refine (specTurned _ _ _ _ _ hM2 hz2 HF.out).mono ?_
  rintro e w3 ⟨a3, c3, ⟨rfl, hB3⟩, hT3⟩
  have hT2' : Mat w3.heap.size w3 a2 (turnedL xss) := (hT2.below hB3).more hB3.size
  have hM3 : Mat w3.heap.size w3 a1 xss := ((hM2.more hz2).below hB3).more hB3.size
  have HB3 := Lib.hid (HB2.out.trans (hB3.mono HB2.out.size))
  clear hT2 hM2 hB3
  go_wp2_with fail
  refine (sameSS_same _ _ _ _ _ _ _ hT2' hT3 turned_fit).mono ?_
  rintro e w4 h4
  obtain ⟨he4, k4, rfl⟩ := h4
  subst he4
  by_cases hg : gOk xss = true
  · have HG := Lib.hid (good_of hg)
    have HL := Lib.hid (turned_length HG.out)
    have hl9 := HG.out.2.1
    have hl1 := HG.out.1
    have hlT : ((turnedL xss).length : Int) = xss.length := by rw [HL.out]
    have hl0 : ((xss.length : Int) == 0) = false := beq_eq_false_iff_ne.2 (by omega)
    obtain ⟨V, hV⟩ : ∃ V, w3.drewN k4 = V := ⟨_, rfl⟩
    have hTV : Mat V.heap.size V a2 (turnedL xss) := by rw [← hV]; exact hT2'
    have hMV : Mat V.heap.size V a1 xss := by rw [← hV]; exact hM3
    have HBV : Hid (Below w.heap.size w V) := by rw [← hV]; exact below_drewN HB3.out k4
    rw [hV]
    clear hV hT2' hT3 hM3 hlT
    rw [HL.out]
    go_wp2_with fail
    go_loopw [5] (fun i wr => ∃ k q : Nat, k ≤ xss.length ∧ i = .int .i64 k ∧ wr = V.drewN q) (fun i _ => xss.length - (intOf i).toNat)
    case atStart => exact ⟨0, 0, Nat.zero_le _, rfl, rfl⟩
    case round =>
      obtain ⟨k, q, hk, rfl, rfl⟩ := hrel
      by_cases hlt : k < xss.length
      · obtain ⟨b, o, a', c', xs, rfl, hb, hc1, hI, HX⟩ := hTV.at_ (k := k) (by rw [HL.out]; exact hlt)
        have hxs : Hid (xs.length = xss.length) := (turned_good HG.out).len HX.out |>.trans HL.out
        go_wp2_with fail
        go_loopw [6] (fun i wr => ∃ j q : Nat, j ≤ xss.length ∧ i = .int .i64 j ∧ wr = V.drewN q) (fun i _ => xss.length - (intOf i).toNat)
        case atStart => exact ⟨0, q, Nat.zero_le _, rfl, rfl⟩
        case round =>
          obtain ⟨j, q2, hj, rfl, rfl⟩ := hrel
          by_cases hltj : j < xss.length
          · obtain ⟨b', o', u, rfl, hb', hc2, HU⟩ := hI.at_ (k := j) (by rw [hxs.out]; exact hltj)
            obtain ⟨b2, o2, a4, c4, ys, rfl, hb2, hc3, hI2, HY⟩ := hMV.at_ hltj
            have hys : Hid (ys.length = xss.length) := HG.out.len HY.out
            obtain ⟨b3, o3, v, rfl, hb3, hc4, HV⟩ := hI2.at_ (k := k) (by rw [hys.out]; exact hlt)
            obtain rfl : u = v := turned_row HG.out HX.out HU.out HY.out HV.out
            have hx2 : j < xs.length := by rw [hxs.out]; exact hltj
            have hy2 : k < ys.length := by rw [hys.out]; exact hlt
            have hx9 : xs.length ≤ 9 := by rw [hxs.out]; exact hl9
            have hy9 : ys.length ≤ 9 := by rw [hys.out]; exact hl9
            clear hI hI2
            go_wp2_with fail
            go_quiet (fail)
            go_wp2_with fail
            go_roundw
            case rel => exact ⟨j + 1, _, by omega, by go_num, rfl⟩
            case measure => simp [intOf]; omega
          · obtain rfl : j = xss.length := by omega
            go_wp2_with fail
            go_roundw
            case rel => exact ⟨k + 1, q2, by omega, by go_num, rfl⟩
            case measure => simp [intOf]; omega
      · obtain rfl : k = xss.length := by omega
        have HTV := Lib.hid hTV
        have HMV := Lib.hid hMV
        clear hTV hMV
        have HBV2 : Hid (Below w.heap.size w (V.drewN q)) := below_drewN HBV.out q
        obtain ⟨U, hU⟩ : ∃ U, V.drewN q = U := ⟨_, rfl⟩
        have hTU : Mat U.heap.size U a2 (turnedL xss) := by rw [← hU]; exact HTV.out
        have hMU : Mat U.heap.size U a1 xss := by rw [← hU]; exact HMV.out
        rw [hU] at HBV2 ⊢
        clear hU
        go_wp2_with fail
        rw [← HL.out]
        refine (implOk _ _ _ _ hTU turned_fit).mono ?_
        rw [gOk_true (turned_good HG.out)]
        rintro e w5 ⟨rfl, hB5⟩
        have hTW : Mat w5.heap.size w5 a2 (turnedL xss) := (hTU.below hB5).more hB5.size
        have hMW : Mat w5.heap.size w5 a1 xss := (hMU.below hB5).more hB5.size
        have HB5 := Lib.hid (HBV2.out.trans (hB5.mono HBV2.out.size))
        clear hTU hMU hB5
        go_wp2_with fail
        refine (implTurned _ _ _ _ hTW turned_fit).mono ?_
        rw [turned_turned HG.out]
        rintro e w6 ⟨a6, c6, ⟨rfl, hB6⟩, hO6⟩
        have hM6 := hO6.mat
        have hM7 : Mat w6.heap.size w6 a1 xss := (hMW.below hB6).more hB6.size
        have HB6 := Lib.hid (HB5.out.trans (hB6.mono HB5.out.size))
        clear hTW hMW hB6 hO6
        go_wp2_with fail
        rw [HL.out]
        refine (sameSS_same _ _ _ _ _ _ _ hM6 hM7 HF.out).mono ?_
        rintro e w7 h7
        obtain ⟨rfl, hB7⟩ := h7.below
        have HB7 := Lib.hid (HB6.out.trans (hB7.mono HB6.out.size))
        clear h7 hB7
        go_wp2_with fail
        go_ret
        exact ⟨rfl, HB7.out⟩
  · have hg' : gOk xss = false := by simpa using hg
    have h0 : turnedL xss = [] := turnedL_no hg'
    rw [h0]
    obtain ⟨V, hV⟩ : ∃ V, w3.drewN k4 = V := ⟨_, rfl⟩
    have hMV : Mat V.heap.size V a1 xss := by rw [← hV]; exact hM3
    have HBV : Hid (Below w.heap.size w V) := by rw [← hV]; exact below_drewN HB3.out k4
    rw [hV]
    clear hV hT2' hT3 hM3
    go_wp2_with fail
    refine (implOk _ _ _ _ hMV HF.out).mono ?_
    rw [hg']
    rintro e w5 ⟨rfl, hB5⟩
    have HB5 := Lib.hid (HBV.out.trans (hB5.mono HBV.out.size))
    clear hB5
    go_wp2_with fail
    refine (alive_any _).mono ?_
    rintro e w6 ⟨rfl, hB6⟩
    have HB6 := Lib.hid (HB5.out.trans (hB6.mono HB5.out.size))
    clear hB6
    go_wp2_with fail
    go_ret
    exact ⟨rfl, HB6.out⟩

end Go.Proofs.Ytdhpkmijbgcdpaa
