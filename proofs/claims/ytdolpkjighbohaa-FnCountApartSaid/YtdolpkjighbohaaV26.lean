/-
  The walk of the law of P33 (CountApart).
-/
import Derived.Test.YtdolpkjighbohaaD16
import Derived.Test.YtdolpkjighbohaaD17
import Derived.Test.YtdolpkjighbohaaPB
import Derived.Test.YtdolpkjighbohaaWP
import Derived.Test.YtdolpkjighbohaaM7
import Derived.Test.YtdolpkjighbohaaG1
import Derived.Test.YtdolpkjighbohaaV20a
namespace Go.Proofs.Ytdolpkjighbohaa
open Go.RowKit Go.Shelf

set_option maxRecDepth 100000 in
set_option maxHeartbeats 8000000 in
theorem countApart_any (a : Option Addr) (n c : Nat) (w : World) (hc : n ≤ c) (hl : n ≤ 9223372036854775807) (hy : Bytes w.heap.size w a n) :
    Calls Try.prog 9 #[.slice a n c] w (Ans (.bool true) w) := by
  by_cases hbign : 1048576 < n
  · go_enter Try.func9, Try.ntmps9
    go_wp2_with fail
    go_ret
    exact ⟨rfl, Below.refl _ _⟩
  go_enter Try.func9, Try.ntmps9
  go_wp2_with fail
  refine (drawCountApart_any a n c w (by omega) hc hy).mono ?_
  rintro e w1 ⟨aG, cG, G, aH, cH, H, rfl, ⟨hF, x1, hx4⟩, ⟨hFH, y1, hy4⟩, hB⟩
  have HB1 := Lib.hid hB
  have HF := Lib.hid hF
  have HFH := Lib.hid hFH
  obtain ⟨z, HZ⟩ : ∃ z, Hid (capI G H = z) := ⟨_, rfl⟩
  have hz7 : -1 ≤ z ∧ z ≤ 7000 := by
    rw [← HZ.out]
    unfold capI
    have h1 := apaL_le G H
    have h2 := mapsL_le G H
    split <;> omega
  have hzz : (z != z) = false := by simp
  clear hB hF hFH hy
  go_wp2_with fail
  refine (implCap _ _ _ _ _ _ _ x1 y1 HF.out HFH.out).mono ?_
  rw [HZ.out]
  rintro e w2 ⟨rfl, hB2⟩
  have hz2 := hB2.size
  have x2 := (x1.below hB2).more hz2
  have y2 := (y1.below hB2).more hz2
  have HB2 := Lib.hid (HB1.out.trans (hB2.mono HB1.out.size))
  clear hB2 hz2 x1 y1
  go_wp2_with fail
  refine (specCap _ _ _ _ _ _ _ _ x2 y2 (Nat.le_refl _) HF.out HFH.out).mono ?_
  rw [HZ.out]
  rintro e w3 ⟨rfl, hB3⟩
  have hz3 := hB3.size
  have x3 := (x2.below hB3).more hz3
  have y3 := (y2.below hB3).more hz3
  have HB3 := Lib.hid (HB2.out.trans (hB3.mono HB2.out.size))
  clear hB3 hz3 x2 y2
  by_cases hf : fewI G H = true
  · have hzp : z = ((apaL G H).length : Int) := by rw [← HZ.out]; exact cap_yes hf
    have hg := (fewI_iff.1 hf).1
    have h5 : g5 G = true := g5_iff.2 ⟨hg, by omega⟩
    have HSUM : Hid (((allKL G).map fun ks => (apaL (grkL G ks) H).length).sum = (mapsL G H).length) := Lib.hid (maps_kinds h5 hf)
    have HEA : Hid (∀ ks ∈ allKL G, kOkI G ks = true ∧ Fit (grkL G ks) ∧ ks.length ≤ 1048576 ∧ capI (grkL G ks) H = ((apaL (grkL G ks) H).length : Int)) := Lib.hid fun ks hk => by
      have hko := (allK_mem h5).1 hk
      exact ⟨hko, (good_of (grk_good hko)).fit, by have := (kOk_iff.1 hko).2.1; omega, cap_yes (grk_few hko hf)⟩
    have HCN : Hid (countI G H = ((mapsL G H).length : Int)) := Lib.hid (countI_yes hf)
    have hl7 := mapsL_le G H
    have hlk := (allK_fit G).2
    have hle : (apaL G H).length ≤ (mapsL G H).length := apaL_le G H
    obtain ⟨L, hL⟩ : ∃ L, allKL G = L := ⟨_, rfl⟩
    obtain ⟨M, hM⟩ : ∃ M, (mapsL G H).length = M := ⟨_, rfl⟩
    have HLL := Lib.hid hL
    rw [hL] at HSUM HEA hlk
    rw [hM] at HSUM HCN hl7 hle
    clear hf hg h5 hzz hL hM
    go_wp2_with fail
    refine (implAllK _ _ _ _ x3 HF.out).mono ?_
    rw [HLL.out]
    rintro e w4 ⟨b4, c4, ⟨rfl, hB4⟩, hO4⟩
    have l4 := hO4.mat.mat
    clear hO4
    have hz4 := hB4.size
    have x4 := (x3.below hB4).more hz4
    have y4 := (y3.below hB4).more hz4
    have HB4 := Lib.hid (HB3.out.trans (hB4.mono HB3.out.size))
    clear hB4 hz4 x3 y3
    go_wp2_with fail
    go_loopw [6, 8] (fun v i wr => ∃ (k s : Nat), k ≤ L.length ∧ i = .int .i64 k ∧ v = .int .i64 s ∧ Hid (s = ((L.take k).map fun ks => (apaL (grkL G ks) H).length).sum) ∧ Below w4.heap.size w4 wr) (fun _ i _ => L.length - (intOf i).toNat)
    case atStart => exact ⟨0, 0, Nat.zero_le _, rfl, rfl, Lib.hid (by simp), Below.refl _ _⟩
    case round =>
      obtain ⟨k, s, hk, rfl, rfl, HS, hB⟩ := hrel
      have hws := hB.size
      by_cases hlt : k < L.length
      · obtain ⟨b1, o1, ar, cr, xs, rfl, hb1, hc1, hI1, HXS⟩ := (l4.below hB).at_ hlt
        obtain ⟨hko, hfk, hxl, hcap⟩ := HEA.out xs (List.mem_of_getElem? HXS.out)
        have HKF := Lib.hid hfk
        have HXL := Lib.hid hxl
        have HCP := Lib.hid hcap
        have hMr := (x4.below hB).more hws
        have hHr := (y4.below hB).more hws
        have HNX : Hid (((L.take (k + 1)).map fun ks => (apaL (grkL G ks) H).length).sum = s + (apaL (grkL G xs) H).length) := Lib.hid (by
          rw [HS.out, take_next HXS.out, List.map_append, List.sum_append]; simp)
        have hs7 : s + (apaL (grkL G xs) H).length ≤ 7000 := by
          rw [← HNX.out]
          have := sum_take6 (fun ks => (apaL (grkL G ks) H).length) L (k + 1)
          rw [HSUM.out] at this
          omega
        obtain ⟨q, HQ⟩ : ∃ q : Nat, Hid ((apaL (grkL G xs) H).length = q) := ⟨_, rfl⟩
        obtain ⟨K, HK⟩ : ∃ K, Hid (grkL G xs = K) := ⟨_, rfl⟩
        rw [HQ.out] at HNX hs7 HCP
        rw [HK.out] at HKF HCP
        clear hko hfk hxl hcap
        go_wp2_with fail
        refine (implGrk _ _ _ _ _ _ _ hMr (hI1.more hws) HF.out HXL.out).mono ?_
        rw [HK.out]
        rintro e w5 ⟨b5, c5, ⟨rfl, hD⟩, hO⟩
        have hBX := hB.trans (hD.mono hws)
        have hH5 := (y4.below hBX).more hBX.size
        have hK5 := hO.mat.mat
        clear hO hD hMr hHr hI1 hc1
        go_wp2_with fail
        refine (implCap _ _ _ _ _ _ _ hK5 hH5 HKF.out HFH.out).mono ?_
        rw [HCP.out]
        rintro e w6 ⟨rfl, hD⟩
        have hBY := hBX.trans (hD.mono hBX.size)
        clear hD hBX hK5 hH5 hB hws
        go_wp2_with fail
        go_roundw
        case rel => exact ⟨k + 1, s + q, by omega, by go_num, by go_num, Lib.hid HNX.out.symm, hBY⟩
        case measure => simp [intOf]; omega
      · obtain rfl : k = L.length := by omega
        have hsM : s = M := by have := HS.out; rw [List.take_length] at this; rw [this]; exact HSUM.out
        subst hsM
        have x5 := (x4.below hB).more hws
        have y5 := (y4.below hB).more hws
        have HB5 := Lib.hid (HB4.out.trans (hB.mono HB4.out.size))
        obtain ⟨w5, rfl⟩ : ∃ w5 : World, w5 = wr := ⟨_, rfl⟩
        clear x4 y4 l4 hB hws HS
        go_wp2_with fail
        refine (implCount _ _ _ _ _ _ _ x5 y5 HF.out HFH.out).mono ?_
        rw [HCN.out]
        rintro e w6 ⟨rfl, hB6⟩
        have hz6 := hB6.size
        have x6 := (x5.below hB6).more hz6
        have y6 := (y5.below hB6).more hz6
        have HB6 := Lib.hid (HB5.out.trans (hB6.mono HB5.out.size))
        clear hB6 hz6 x5 y5
        go_wp2_with fail
        go_ret
        exact ⟨ret_bool (by simp), HB6.out⟩
  · obtain rfl : z = -1 := by rw [← HZ.out]; exact cap_no (by simpa using hf)
    clear hf
    clear x3 y3
    go_wp2_with fail
    refine (alive_any _).mono ?_
    rintro e w4 ⟨rfl, hB4⟩
    have hz4 := hB4.size
    have HB4 := Lib.hid (HB3.out.trans (hB4.mono HB3.out.size))
    clear hB4 hz4 
    go_wp2_with fail
    go_ret
    exact ⟨rfl, HB4.out⟩

end Go.Proofs.Ytdolpkjighbohaa
