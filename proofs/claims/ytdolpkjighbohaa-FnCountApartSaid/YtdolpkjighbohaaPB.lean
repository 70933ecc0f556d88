/-
  spec.CountApart, walked.
-/
import Derived.Test.YtdolpkjighbohaaPA
import Derived.Test.YtdolpkjighbohaaM9
namespace Go.Proofs.Ytdolpkjighbohaa
open Go.RowKit Go.Shelf Go.Deep

set_option maxRecDepth 100000 in
set_option maxHeartbeats 4000000 in
theorem specCap (a a' : Option Addr) (c c' : Nat) (G H : List (List Int)) (n₀ : Nat) (w : World) (hM : Mat n₀ w a G) (hM' : Mat n₀ w a' H) (hn : n₀ ≤ w.heap.size) (hF : Fit G) (hF' : Fit H) :
    Calls Try.prog 44 #[.slice a G.length c, .slice a' H.length c'] w (Ans (.int .i64 (capI G H)) w) := by
  have HF := Lib.hid hF
  have HF' := Lib.hid hF'
  clear hF hF'
  obtain ⟨z, HZ⟩ : ∃ z, Hid (capI G H = z) := ⟨_, rfl⟩
  rw [HZ.out]
  by_cases hg : fewI G H = true
  · have HS := Lib.hid (specMapsOf a c a' c' G H n₀ w hM hM' hn HF.out HF'.out)
    have HC : Hid (z = ((apaN (mapsL G H) (mapsL G H).length : Nat) : Int)) := Lib.hid (by rw [← HZ.out, cap_yes hg, apaN_all])
    have HML : Hid (∀ (k : Nat) (x : List Int), (mapsL G H)[k]? = some x → apaI G H x = decide x.Nodup ∧ x.length ≤ 9) := Lib.hid fun k x hx => by
      have hm := List.mem_of_getElem? hx
      exact ⟨apa_map hg hm, (map_le ((mapOk_mem hg x).2 hm)).2.2⟩
    have hl7 := mapsL_le G H
    obtain ⟨ls, hls⟩ : ∃ ls, mapsL G H = ls := ⟨_, rfl⟩
    have hS2 := HS.out
    have hC := HC.out
    have hML := HML.out
    rw [hls] at hl7 hC hML hS2
    clear HS HC HML
    have HS := Lib.hid hS2
    have HC := Lib.hid hC
    have HML := Lib.hid hML
    clear hls hS2 hC hML
    go_enter Try.func44, Try.ntmps44
    go_wp2_with fail
    refine (specFew _ _ _ _ _ _ _ _ hM hM' HF.out HF'.out).mono ?_
    rw [hg]
    rintro e wq ⟨rfl, rfl⟩
    go_wp2_with fail
    refine HS.out.mono ?_
    rintro e w1 ⟨aL, cL, ⟨rfl, hB1⟩, hL⟩
    have hM1 := hM.below (hB1.mono hn)
    have hM1' := hM'.below (hB1.mono hn)
    have hz1 := hB1.size
    go_wp2_with fail
    go_loopw [5, 7] (fun v i wr => ∃ k t : Nat, k ≤ ls.length ∧ t ≤ ls.length ∧ i = .int .i64 k ∧ v = .int .i64 t ∧ Hid (apaN ls k = t) ∧ Below w1.heap.size w1 wr) (fun _ i _ => ls.length - (intOf i).toNat)
    case atStart => exact ⟨0, 0, Nat.zero_le _, Nat.zero_le _, rfl, rfl, Lib.hid rfl, Below.refl _ _⟩
    case round =>
      obtain ⟨k, t, hk, ht, rfl, rfl, HT, hB⟩ := hrel
      have hws := hB.size
      by_cases hlt : k < ls.length
      · obtain ⟨b1, o1, ar, cr, xs, rfl, hb1, hc1, hI1, HXS⟩ := (hL.below hB).at_ hlt
        obtain ⟨hap, hx9⟩ := HML.out k xs HXS.out
        have HNX := Lib.hid (apaN_next HXS.out)
        rw [HT.out] at HNX
        have HTL := Lib.hid (apaN_le ls (k + 1))
        have hMr := hM1.below (hB.mono (Nat.le_trans hn hz1))
        have hMr' := hM1'.below (hB.mono (Nat.le_trans hn hz1))
        by_cases hnd : xs.Nodup
        · have HA : Hid (apaI G H xs = true) := Lib.hid (by rw [hap, decide_eq_true hnd])
          have HN2 : Hid (apaN ls (k + 1) = t + 1) := Lib.hid (by rw [HNX.out, if_pos hnd])
          have ht1 : t + 1 ≤ ls.length := by have := HTL.out; rw [HN2.out] at this; exact this
          clear hap hnd HNX HTL
          go_wp2_with fail
          refine (specApart a a' ar c c' cr G H xs w1.heap.size wr (hMr.more (Nat.le_trans hn hz1)) (hMr'.more (Nat.le_trans hn hz1)) hI1 HF.out HF'.out (by omega)).mono ?_
          rw [HA.out]
          rintro e w3 h3
          obtain ⟨rfl, hB3⟩ := h3.below
          have hBX := hB.trans (hB3.mono hws)
          clear h3 hB3 hMr hMr' hI1 hc1 hB
          go_wp2_with fail
          go_roundw
          case rel => exact ⟨k + 1, t + 1, by omega, ht1, by go_num, by go_num, HN2, hBX⟩
          case measure => simp [intOf]; omega
        · have HA : Hid (apaI G H xs = false) := Lib.hid (by rw [hap, decide_eq_false hnd])
          have HN2 : Hid (apaN ls (k + 1) = t) := Lib.hid (by rw [HNX.out, if_neg hnd]; rfl)
          clear hap hnd HNX HTL
          go_wp2_with fail
          refine (specApart a a' ar c c' cr G H xs w1.heap.size wr (hMr.more (Nat.le_trans hn hz1)) (hMr'.more (Nat.le_trans hn hz1)) hI1 HF.out HF'.out (by omega)).mono ?_
          rw [HA.out]
          rintro e w3 h3
          obtain ⟨rfl, hB3⟩ := h3.below
          have hBX := hB.trans (hB3.mono hws)
          clear h3 hB3 hMr hMr' hI1 hc1 hB
          go_wp2_with fail
          go_roundw
          case rel => exact ⟨k + 1, t, by omega, ht, by go_num, rfl, HN2, hBX⟩
          case measure => simp [intOf]; omega
      · obtain rfl : k = ls.length := by omega
        have HN : Hid (z = (t : Int)) := Lib.hid (by rw [HC.out, HT.out])
        go_wp2_with fail
        go_ret
        exact ⟨ret_int HN.out.symm, hB1.trans (hB.mono hz1)⟩
  · have hn' : fewI G H = false := by simpa using hg
    have HC : Hid (z = -1) := Lib.hid (by rw [← HZ.out, cap_no hn'])
    clear hg
    go_enter Try.func44, Try.ntmps44
    go_wp2_with fail
    refine (specFew _ _ _ _ _ _ _ _ hM hM' HF.out HF'.out).mono ?_
    rw [hn']
    rintro e wq ⟨rfl, rfl⟩
    go_wp2_with fail
    go_ret
    exact ⟨ret_int HC.out.symm, Below.refl _ _⟩

end Go.Proofs.Ytdolpkjighbohaa
