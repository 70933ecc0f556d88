/-
  The draw and the walk of the law of P64 (GraphText).
-/
import Derived.Test.YtnehbpihljbjdabDoorS7
import Derived.Test.YtnehbpihljbjdabDoorS2
import Derived.Test.YtnehbpihljbjdabDoorG1
import Derived.Test.YtnehbpihljbjdabDoorC2
namespace Go.Proofs.YtnehbpihljbjdabDoor
open Go.RowKit Go.Shelf

set_option maxHeartbeats 400000 in
theorem drawGraphText_any (a : Option Addr) (n c : Nat) (w : World) (hn : n ≤ 1048576) (hc : n ≤ c) (hy : Bytes w.heap.size w a n) :
    Calls Tryd.prog 6 #[.slice a n c] w (DrawnM w) := by
  go_enter Tryd.func6, Tryd.ntmps6
  go_wp2_with fail
  refine (open_any a n c w hn hc hy).mono ?_
  rintro e w1 ⟨rfl, hR, hB⟩
  go_wp2_with fail
  refine (graph_any w.heap.size w.heap.size 0 6 6 w1 hR (by omega) (by omega) (by omega) (by omega) (by omega)).mono ?_
  rintro e w2 h2
  have h3 := drawnM_of hB h2
  obtain ⟨a, c, xss, rfl, h4⟩ := h3
  have H4 := Lib.hid h4
  clear h4 h2 hR hB hy
  go_wp2_with fail
  go_ret
  exact ⟨a, c, xss, rfl, H4.out⟩

theorem block_of_cell {w : World} {v : Value} (h : w.cell? ⟨0, 0, none⟩ = some v) : 0 < w.heap.size := by simpa using World.block_lt_of_cell? _ _ h
theorem text_small {G : List (List Int)} : (gTextB G).size ≤ 90 := by
  by_cases hg : gOk G = true
  · have h9 := (good_of hg).2.1
    have h1 := textB_size G G.length
    have h2 : (G.length + 1) * G.length ≤ 10 * 9 := Nat.mul_le_mul (by omega) h9
    unfold gTextB; rw [if_pos hg]; omega
  · unfold gTextB; rw [if_neg hg]; exact Nat.zero_le _

set_option maxRecDepth 100000 in
set_option maxHeartbeats 4000000 in
theorem graphText_any (a : Option Addr) (n c : Nat) (m : Int) (w : World) (hc : n ≤ c) (hl : n ≤ 9223372036854775807) (hy : Bytes w.heap.size w a n) (hm : w.cell? ⟨0, 0, none⟩ = some (.int .i64 m)) :
    Calls Tryd.prog 3 #[.slice a n c] w (Ans (.bool true) w) := by
  by_cases hbig : 1048576 < n
  · go_enter Tryd.func3, Tryd.ntmps3
    go_wp2_with fail
    go_ret
    exact ⟨rfl, Below.refl _ _⟩
  have h0 := block_of_cell hm
  have HM := Lib.hid hm
  clear hm
  go_enter Tryd.func3, Tryd.ntmps3
  go_wp2_with fail
  refine (drawGraphText_any a n c w (by omega) hc hy).mono ?_
  rintro e w1 ⟨a1, c1, xss, rfl, hF, hM, hB⟩
  have HB := Lib.hid hB
  have HF := Lib.hid hF
  have hlx := hF.1
  clear hB hF hy
  obtain ⟨t, HT⟩ : ∃ t, Hid (gTextB xss = t) := ⟨_, rfl⟩
  have hnt : (t != t) = false := bytes_ne_self t
  have HTS : Hid (t.size ≤ 90) := Lib.hid (by rw [← HT.out]; exact text_small)
  go_wp2_with fail
  refine (implText _ _ _ _ hM HF.out).mono ?_
  rw [HT.out]
  rintro e w2 ⟨rfl, hB2⟩
  have hz2 := hB2.size
  have hM2 := (hM.below hB2).more hz2
  have HB2 := Lib.hid (HB.out.trans (hB2.mono HB.out.size))
  clear hM hB2
  go_wp2_with fail
  refine (specText _ _ _ _ _ hM2 (Nat.le_refl _) HF.out).mono ?_
  rw [HT.out]
  rintro e w3 ⟨rfl, hB3⟩
  have hz3 := hB3.size
  have hM3 := (hM2.below hB3).more hz3
  have HB3 := Lib.hid (HB2.out.trans (hB3.mono HB2.out.size))
  clear hM2 hB3
  go_wp2_with fail
  refine (specOk_any _ _ _ _ _ hM3 HF.out).mono ?_
  by_cases hg : gOk xss = true
  · rw [hg]
    rintro e wq ⟨rfl, rfl⟩
    have HG := Lib.hid (good_of hg)
    obtain ⟨hr1, hr2⟩ := rd_graph HG.out
    rw [HT.out] at hr1 hr2
    have HR := Lib.hid (implRead t m w3 (Nat.le_trans HTS.out (by omega)) ((HB3.out.cell (p := ⟨0, 0, none⟩) h0).trans HM.out))
    rw [hr1, hr2] at HR
    clear hr1 hr2 hg
    go_wp2_with fail
    refine HR.out.mono ?_
    rintro e w4 ⟨b4, c4, ⟨rfl, hB4⟩, hO4⟩
    have hz4 := hB4.size
    have hM4 := (hM3.below hB4).more hz4
    have hX4 := hO4.mat
    have HB4 := Lib.hid (HB3.out.trans (hB4.mono HB3.out.size))
    clear hM3 hB4 hO4 HR
    go_wp2_with fail
    refine (sameSS_same _ _ _ _ _ _ _ hX4 hM4 HF.out).mono ?_
    rintro e w5 h5
    obtain ⟨rfl, hB5⟩ := h5.below
    have HB5 := Lib.hid (HB4.out.trans (hB5.mono HB4.out.size))
    clear h5 hB5
    go_wp2_with fail
    go_ret
    exact ⟨rfl, HB5.out⟩
  · have hn : gOk xss = false := by simpa using hg
    have ht : t = ⟨#[]⟩ := by rw [← HT.out]; unfold gTextB; rw [if_neg hg]
    subst ht
    rw [hn]
    rintro e wq ⟨rfl, rfl⟩
    clear hg hn hM3
    go_wp2_with fail
    refine (alive_any _).mono ?_
    rintro e w6 ⟨rfl, hB6⟩
    have HB6 := Lib.hid (HB3.out.trans (hB6.mono HB3.out.size))
    clear hB6
    go_wp2_with fail
    go_ret
    exact ⟨rfl, HB6.out⟩

end Go.Proofs.YtnehbpihljbjdabDoor
