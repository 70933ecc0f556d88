/-
  The walk of the law of P70 (DeskNew).
-/
import Derived.Test.YtofpjepndhpciaaLX
namespace Go.Proofs.Ytofpjepndhpciaa
open Go.RowKit Go.Shelf Go.Deep

set_option maxRecDepth 100000 in
set_option maxHeartbeats 8000000 in
theorem deskNew_any (a : Option Addr) (n c : Nat) (w : World) (hc : n ≤ c) (hl : n ≤ 9223372036854775807) (hy : Bytes w.heap.size w a n) :
    Calls Try.prog 4 #[.slice a n c] w (Ans (.bool true) w) := by
  by_cases hbig : 1048576 < n
  · go_enter Try.func4, Try.ntmps4
    go_wp2_with fail
    go_ret
    exact ⟨rfl, Below.refl _ _⟩
  go_enter Try.func4, Try.ntmps4
  go_wp2_with fail
  refine (drawDeskNew_any a n c w (by omega) hc hy).mono ?_
  rintro e w1 ⟨a1, c1, G, rfl, hF, hM, hB⟩
  have HB := Lib.hid hB
  have HF := Lib.hid hF
  obtain ⟨yes, HY⟩ : ∃ yes, Hid (gOk G = yes) := ⟨_, rfl⟩
  obtain ⟨D, HD⟩ : ∃ D, Hid (newD G = D) := ⟨_, rfl⟩
  have HFD : Hid (FitK D ∧ totD D ≤ 81) := by rw [← HD.out]; exact newD_fit
  have hyy : (yes != yes) = false := bne_self_eq_false _
  have HMW := Lib.hid hM
  clear hB hF hy
  go_wp2_with fail
  refine (implNew _ _ _ w1 hM HF.out).mono ?_
  rw [HY.out]
  intro e w2 h
  have h2 := h.agg
  rw [HD.out] at h2
  obtain ⟨d3, d4, m3, e3, m4, e4, ⟨rfl, hB2⟩, hO2⟩ := h2
  have hR2 := hO2.read
  have hal := (Below.refl w2.heap.size w2).alloc (Nat.le_refl _) (.cells #[.slice d3 m3 e3, .slice d4 m4 e4] 26)
  have hx3 : (w2.alloc (.cells #[.slice d3 m3 e3, .slice d4 m4 e4] 26)).heap[w2.heap.size]? = some (.cells #[.slice d3 m3 e3, .slice d4 m4 e4] 26) := heap_alloc_new w2 _
  have hb23 := hB2.trans (hal.mono hB2.size)
  have hz2 := hB2.size
  have hR3 := hR2.below hal
  have hM3 := hM.below hb23
  have hb3 := HB.out.trans (hb23.mono HB.out.size)
  obtain ⟨V, hV⟩ : ∃ V, w2.alloc (.cells #[.slice d3 m3 e3, .slice d4 m4 e4] 26) = V := ⟨_, rfl⟩
  have hzV : w2.heap.size < V.heap.size := by rw [← hV]; simp
  rw [hV] at hx3 hR3 hM3 hb3 hb23
  have HV := Lib.hid hV
  have HX3 := Lib.hid hx3
  have HR3 := Lib.hid hR3
  have HB3 := Lib.hid hb3
  have HB23 := Lib.hid hb23
  clear h hO2 hR2 hal hx3 hR3 hB2 hV hM hb3 hb23
  go_wp2_with fail
  rw [HV.out]
  refine (specNewS _ _ G w1.heap.size V hM3 (by omega) HF.out).mono ?_
  rw [HD.out, HY.out]
  rintro e w4 ⟨d1, d2, m1, e1, m2, e2, ⟨rfl, hB4⟩, hR4⟩
  have hal := (Below.refl w4.heap.size w4).alloc (Nat.le_refl _) (.cells #[.slice d1 m1 e1, .slice d2 m2 e2] 26)
  have hx5 : (w4.alloc (.cells #[.slice d1 m1 e1, .slice d2 m2 e2] 26)).heap[w4.heap.size]? = some (.cells #[.slice d1 m1 e1, .slice d2 m2 e2] 26) := heap_alloc_new w4 _
  have hz4 := hB4.size
  have hx6 := (hal.block w2.heap.size (by omega)).trans ((hB4.block w2.heap.size hzV).trans HX3.out)
  have hR6 := (HR3.out.below (hB4.mono (by omega))).below (hal.mono (by omega))
  have hR5 := hR4.below hal
  have hb46 := hB4.trans (hal.mono hB4.size)
  have HB6 := Lib.hid (HB3.out.trans (hb46.mono HB3.out.size))
  have HB16 := Lib.hid (HB23.out.trans (hb46.mono HB23.out.size))
  obtain ⟨⟨c40, c41⟩, _⟩ := dk_cell hx5
  obtain ⟨⟨c70, c71⟩, _⟩ := dk_cell hx6
  have HX6 := Lib.hid hx6
  have HR6 := Lib.hid hR6
  have HR5 := Lib.hid hR5
  clear hB4 hR4 hal hx5 hx6 hR6 hR5 hb46 HR3 HB3 HB23 HX3 hM3
  go_wp2_with fail
  refine (sameDk_same _ _ D (w4.heap.size + 1) _ (HR6.out.more (by omega)) (HR5.out.more (by omega)) (by simp) HFD.out.1).mono ?_
  rintro e w6 ⟨rfl, hB6⟩
  have hx7 := (hB6.block _ (Array.getElem?_eq_some_iff.1 HX6.out).1).trans HX6.out
  have hR7 := HR6.out.below (hB6.mono (by simp; omega))
  have HB7 := Lib.hid (HB6.out.trans (hB6.mono HB6.out.size))
  have hM7 := (HMW.out.below HB16.out).below (hB6.mono (by simp; omega))
  have hz6 := hB6.size
  have hzz : (w4.alloc (.cells #[.slice d1 m1 e1, .slice d2 m2 e2] 26)).heap.size = w4.heap.size + 1 := by simp
  have hz26 : w2.heap.size ≤ w6.heap.size := by omega
  have hz16 : w1.heap.size ≤ w6.heap.size := by omega
  obtain ⟨⟨c70', c71'⟩, _⟩ := dk_cell hx7
  have HX7 := Lib.hid hx7
  have HR7 := Lib.hid hR7
  have HM7 := Lib.hid hM7
  clear hB6 hx7 hR7 hM7 hz6 hzz c40 c41 c70 c71 HB6 HR6 HR5 HX6
  by_cases hg : gOk G = true
  · obtain rfl : true = yes := hg.symm.trans HY.out
    obtain rfl : D = ⟨G, []⟩ := by rw [← HD.out]; unfold newD; rw [if_pos hg]
    have hd : dokI ⟨G, []⟩ = true := dok_iff.2 ⟨fun g h => by simp at h, hg, Nat.zero_le _⟩
    have HDO := Lib.hid (implDkOk _ _ w6 (HR7.out.more hz26) HFD.out.1)
    rw [hd] at HDO
    obtain ⟨aN, aP, cN, cP, ee, hMN, _⟩ := HR7.out
    simp only [Value.agg.injEq, Array.mk.injEq, List.cons.injEq, Value.slice.injEq, and_true] at ee
    obtain ⟨⟨rfl, hm3, rfl⟩, ⟨rfl, hm4, rfl⟩⟩ := ee
    have hm4' : m4 = 0 := hm4
    have hm3' : m3 = G.length := hm3
    subst hm4' hm3'
    have HMN := Lib.hid hMN
    clear hg hd hMN hm3 hm4
    go_wp2_with fail
    refine HDO.out.mono ?_
    rintro e w7 ⟨rfl, hB8⟩
    obtain ⟨⟨c0, c1⟩, _⟩ := dk_cell ((hB8.block _ (Array.getElem?_eq_some_iff.1 HX7.out).1).trans HX7.out)
    have hM8 := HM7.out.below (hB8.mono hz16)
    have hN8 := HMN.out.below (hB8.mono hz26)
    have HB8 := Lib.hid (HB7.out.trans (hB8.mono HB7.out.size))
    have hz7 := hB8.size
    clear hB8 HDO c70' c71'
    go_wp2_with fail
    refine (sameSS_same _ _ _ _ G w7.heap.size w7 (hN8.more (by omega)) (hM8.more (by omega)) HF.out).mono ?_
    rintro e w8 h8
    obtain ⟨rfl, hB9⟩ := h8.below
    obtain ⟨c0', c1'⟩ : w8.cell? ⟨w2.heap.size, 0, none⟩ = _ ∧ w8.cell? ⟨w2.heap.size, 1, none⟩ = _ := ⟨(hB9.cell (p := ⟨w2.heap.size, 0, none⟩) (by show w2.heap.size < w7.heap.size; have := (Array.getElem?_eq_some_iff.1 HX7.out).1; omega)).trans c0, (hB9.cell (p := ⟨w2.heap.size, 1, none⟩) (by show w2.heap.size < w7.heap.size; have := (Array.getElem?_eq_some_iff.1 HX7.out).1; omega)).trans c1⟩
    have HB9 := Lib.hid (HB8.out.trans (hB9.mono HB8.out.size))
    clear h8 hB9 hM8 hN8 c0 c1
    go_wp2_with fail
    go_ret
    exact ⟨rfl, HB9.out⟩
  · obtain rfl : false = yes := by rw [← HY.out]; simpa using Eq.symm (by simpa using hg : gOk G = false)
    obtain rfl : D = ⟨[], []⟩ := by rw [← HD.out]; unfold newD; rw [if_neg hg]
    have hg' : gOk G = false := by simpa using hg
    have HG := Lib.hid hg'
    clear hg hg'
    go_wp2_with fail
    refine (noDk_any _ _ _ _ _ _ w6 (HR7.out.more hz26)).mono ?_
    rintro e w7 ⟨rfl, hB8⟩
    have hM8 := HM7.out.below (hB8.mono hz16)
    have HB8 := Lib.hid (HB7.out.trans (hB8.mono HB7.out.size))
    have hz7 := hB8.size
    have hI := implOk a1 c1 G w7 (hM8.more (by omega)) HF.out
    rw [HG.out] at hI
    clear hB8 hM8 c70' c71'
    go_wp2_with fail
    refine hI.mono ?_
    rintro e w8 ⟨rfl, hB9⟩
    have HB9 := Lib.hid (HB8.out.trans (hB9.mono HB8.out.size))
    clear hB9 hI
    go_wp2_with fail
    refine (alive_any _).mono ?_
    rintro e w9 ⟨rfl, hB10⟩
    have HB10 := Lib.hid (HB9.out.trans (hB10.mono HB9.out.size))
    clear hB10
    go_wp2_with fail
    go_ret
    exact ⟨rfl, HB10.out⟩

end Go.Proofs.Ytofpjepndhpciaa
