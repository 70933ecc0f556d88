/-
  Several texts in one.
  The program's DeskOk; a desk that is the zero value.
  The exact laws' toDesk.
-/
import Derived.Test.YtofpjepndhpciaaXG
namespace Go.Proofs.Ytofpjepndhpciaa
open Go.RowKit Go.Shelf Go.Deep

theorem dok_now {d : Dk} (h : gOk d.now = false) : dokI d = false := by unfold dokI; rw [h]; simp
theorem dok_long {d : Dk} (h : ¬ d.past.length ≤ 8) : dokI d = false := by unfold dokI; rw [decide_eq_false h]; simp
theorem dok_all {d : Dk} (h1 : gOk d.now = true) (h2 : d.past.length ≤ 8) (h : ∀ (j : Nat) (G : List (List Int)), j < d.past.length → d.past[j]? = some G → gOk G = true) : dokI d = true := by
  rw [dok_past h, h1, decide_eq_true h2]; rfl

set_option maxRecDepth 100000 in
set_option maxHeartbeats 4000000 in
theorem implDkOk (v : Value) (d : Dk) (w : World) (h : DeskR w.heap.size w v d) (hF : FitK d) :
    Calls Try.prog 8 #[v] w (Ans (.bool (dokI d)) w) := by
  obtain ⟨aN, aP, cN, cP, rfl, hM, hC⟩ := h
  have hA : Below w.heap.size w (w.alloc (.cells #[.slice aN d.now.length cN, .slice aP d.past.length cP] 26)) := (Below.refl _ _).alloc (Nat.le_refl _) _
  have hX : (w.alloc (.cells #[.slice aN d.now.length cN, .slice aP d.past.length cP] 26)).heap[w.heap.size]? = some (.cells #[.slice aN d.now.length cN, .slice aP d.past.length cP] 26) := heap_alloc_new w _
  have hM1 := (hM.below hA).more hA.size
  have hC1 := (hC.below hA).more hA.size
  have hpl := hF.2.1
  obtain ⟨c0, c1⟩ := (dk_cell hX).1
  obtain ⟨V, hV⟩ : ∃ V, w.alloc (.cells #[.slice aN d.now.length cN, .slice aP d.past.length cP] 26) = V := ⟨_, rfl⟩
  have HC0 := Lib.hid (And.intro c0 c1)
  rw [hV] at hA hX hM1 hC1
  have HV := Lib.hid hV
  have HA := Lib.hid hA
  have HX := Lib.hid hX
  have HF := Lib.hid hF
  have HO := Lib.hid (implOk aN cN d.now V hM1 hF.1)
  have HC1 := Lib.hid hC1
  clear hV hA hX hM hC hM1 hC1 hF HC0
  by_cases hg : gOk d.now = true
  · rw [hg] at HO
    have HG := Lib.hid hg
    clear hg
    go_enter Try.func8, Try.ntmps8
    go_wp2_with fail
    clear c0 c1
    rw [HV.out]
    refine HO.out.mono ?_
    rintro e w1 ⟨rfl, hB1⟩
    obtain ⟨c0, c1⟩ := (dk_cell ((hB1.block _ (Array.getElem?_eq_some_iff.1 HX.out).1).trans HX.out)).1
    have HC2 := Lib.hid ((HC1.out.below hB1).more hB1.size)
    have HB1 := Lib.hid (HA.out.trans (hB1.mono HA.out.size))
    clear hB1 HC1 HX
    by_cases h8 : d.past.length ≤ 8
    · go_wp2_with fail
      go_loopw [18] (fun i wr => ∃ k : Nat, k ≤ d.past.length ∧ i = .int .i64 k ∧ Hid (Below w1.heap.size w1 wr) ∧ Hid (∀ (j : Nat) (G : List (List Int)), j < k → d.past[j]? = some G → gOk G = true)) (fun i _ => d.past.length - (intOf i).toNat)
      case atStart => exact ⟨0, Nat.zero_le _, rfl, Lib.hid (Below.refl _ _), Lib.hid fun j G h => absurd h (Nat.not_lt_zero _)⟩
      case round =>
        obtain ⟨k, hk, rfl, HB, HP⟩ := hrel
        by_cases hlt : k < d.past.length
        · obtain ⟨b, o, G, aG, cG, rfl, hb, HGk, hc, hMG⟩ := (HC2.out.below HB.out).at_ hlt
          have hFG := HF.out.2.at_ HGk.out
          have HOG := Lib.hid (implOk aG cG G wr (hMG.more HB.out.size) hFG)
          clear hMG hFG
          by_cases hgk : gOk G = true
          · rw [hgk] at HOG
            have HGG : Hid (∀ (j : Nat) (H : List (List Int)), j < k + 1 → d.past[j]? = some H → gOk H = true) := Lib.hid fun j H hj hH => by
              by_cases e : j = k
              · subst e; rw [HGk.out] at hH; cases hH; exact hgk
              · exact HP.out j H (by omega) hH
            clear hgk
            go_wp2_with fail
            refine HOG.out.mono ?_
            rintro e w2 ⟨rfl, hB2⟩
            have HB2 := Lib.hid (HB.out.trans (hB2.mono HB.out.size))
            clear hB2 HOG
            go_wp2_with fail
            go_roundw
            case rel => exact ⟨k + 1, by omega, by go_num, HB2, HGG⟩
            case measure => simp [intOf]; omega
          · rw [show gOk G = false by simpa using hgk] at HOG
            have HD : Hid (dokI d = false) := Lib.hid (dok_false_past HGk.out (by simpa using hgk))
            clear hgk
            go_wp2_with fail
            refine HOG.out.mono ?_
            rintro e w2 ⟨rfl, hB2⟩
            have HB2 := Lib.hid (HB1.out.trans ((HB.out.trans (hB2.mono HB.out.size)).mono HB1.out.size))
            clear hB2 HOG
            go_wp2_with fail
            go_ret
            rw [HD.out]
            exact ⟨rfl, HB2.out⟩
        · obtain rfl : k = d.past.length := by omega
          have HD : Hid (dokI d = true) := Lib.hid (dok_all HG.out h8 HP.out)
          have HB2 := Lib.hid (HB1.out.trans (HB.out.mono HB1.out.size))
          go_wp2_with fail
          go_ret
          rw [HD.out]
          exact ⟨rfl, HB2.out⟩
    · have HD : Hid (dokI d = false) := Lib.hid (dok_long h8)
      go_wp2_with fail
      go_ret
      rw [HD.out]
      exact ⟨rfl, HB1.out⟩
  · rw [show gOk d.now = false by simpa using hg] at HO
    have HD : Hid (dokI d = false) := Lib.hid (dok_now (by simpa using hg))
    clear hg
    go_enter Try.func8, Try.ntmps8
    go_wp2_with fail
    clear c0 c1
    rw [HV.out]
    refine HO.out.mono ?_
    rintro e w1 ⟨rfl, hB1⟩
    have HB1 := Lib.hid (HA.out.trans (hB1.mono HA.out.size))
    clear hB1
    go_wp2_with fail
    go_ret
    rw [HD.out]
    exact ⟨rfl, HB1.out⟩

set_option maxHeartbeats 1000000 in
theorem noDk_any (d1 d2 : Option Addr) (m1 e1 m2 e2 : Nat) (w : World) (h : DeskR w.heap.size w (.agg #[.slice d1 m1 e1, .slice d2 m2 e2]) ⟨[], []⟩) : Calls Try.prog 15 #[.agg #[.slice d1 m1 e1, .slice d2 m2 e2]] w (Ans (.bool true) w) := by
  have hA : Below w.heap.size w (w.alloc (.cells #[.slice d1 m1 e1, .slice d2 m2 e2] 26)) := (Below.refl _ _).alloc (Nat.le_refl _) _
  have hX : (w.alloc (.cells #[.slice d1 m1 e1, .slice d2 m2 e2] 26)).heap[w.heap.size]? = some (.cells #[.slice d1 m1 e1, .slice d2 m2 e2] 26) := heap_alloc_new w _
  obtain ⟨c0, c1⟩ := (dk_cell hX).1
  have HR := Lib.hid ((h.below hA).more hA.size)
  have HA := Lib.hid hA
  clear hA hX h
  go_enter Try.func15, Try.ntmps15
  go_wp2_with fail
  refine (sameDk_same _ _ ⟨[], []⟩ _ _ HR.out (zero_read _) (Nat.le_refl _) ⟨by simp [Fit], by simp [FitC]⟩).mono ?_
  rintro e w1 ⟨rfl, hB⟩
  have HB := Lib.hid (HA.out.trans (hB.mono HA.out.size))
  clear hB
  go_wp2_with fail
  go_ret
  exact ⟨rfl, HB.out⟩

set_option maxHeartbeats 400000 in
theorem drawDeskNew_any (a : Option Addr) (n c : Nat) (w : World) (hn : n ≤ 1048576) (hc : n ≤ c) (hy : Bytes w.heap.size w a n) :
    Calls Try.prog 11 #[.slice a n c] w (DrawnM w) := by
  go_enter Try.func11, Try.ntmps11
  go_wp2_with fail
  refine (open_any a n c w hn hc hy).mono ?_
  rintro e w1 ⟨rfl, hR, hB⟩
  go_wp2_with fail
  refine (graph_any w.heap.size w.heap.size 0 5 4 w1 hR (by omega) (by omega) (by omega) (by omega) (by omega)).mono ?_
  rintro e w2 h2
  have h3 := drawnM_of hB h2
  obtain ⟨a, c, xss, rfl, h4⟩ := h3
  have H4 := Lib.hid h4
  clear h4 h2 hR hB hy
  go_wp2_with fail
  go_ret
  exact ⟨a, c, xss, rfl, H4.out⟩

end Go.Proofs.Ytofpjepndhpciaa

namespace Go.Proofs.Ytofpjepndhpciaa
open Go.RowKit Go.Shelf Go.Deep

theorem pair_cell {W : World} {B t : Nat} {x y : Value} (h : W.heap[B]? = some (.cells #[x, y] t)) : (W.cell? ⟨B, 0, none⟩ = some x ∧ W.cell? ⟨B, 1, none⟩ = some y) ∧ ∀ i, W.frozen? ⟨B, i, none⟩ = false := by
  refine ⟨⟨?_, ?_⟩, fun i => ?_⟩
  · unfold World.cell?; rw [h]; rfl
  · unfold World.cell?; rw [h]; rfl
  · unfold World.frozen?; rw [h]; simp
/-- THREE BOXES. -/
theorem boxed3 (w : World) (x y u v r s : Value) (t : Nat) : Below w.heap.size w (((w.alloc (.cells #[x, y] t)).alloc (.cells #[u, v] 26)).alloc (.cells #[r, s] 26)) ∧
    (((w.alloc (.cells #[x, y] t)).alloc (.cells #[u, v] 26)).alloc (.cells #[r, s] 26)).heap[w.heap.size]? = some (.cells #[x, y] t) ∧
    (((w.alloc (.cells #[x, y] t)).alloc (.cells #[u, v] 26)).alloc (.cells #[r, s] 26)).heap[w.heap.size + 1]? = some (.cells #[u, v] 26) ∧
    (((w.alloc (.cells #[x, y] t)).alloc (.cells #[u, v] 26)).alloc (.cells #[r, s] 26)).heap[w.heap.size + 1 + 1]? = some (.cells #[r, s] 26) ∧
    (((w.alloc (.cells #[x, y] t)).alloc (.cells #[u, v] 26)).alloc (.cells #[r, s] 26)).heap.size = w.heap.size + 1 + 1 + 1 := by
  have es : ∀ (W : World) (o : Obj), (W.alloc o).heap.size = W.heap.size + 1 := fun W o => by simp
  have al : ∀ (W : World) (o : Obj), Below W.heap.size W (W.alloc o) := fun W o => (Below.refl _ _).alloc (Nat.le_refl _) _
  have hA1 := al w (.cells #[x, y] t)
  have hA2 := hA1.alloc hA1.size (.cells #[u, v] 26)
  have hX1 : (w.alloc (.cells #[x, y] t)).heap[w.heap.size]? = some (.cells #[x, y] t) := heap_alloc_new w _
  have hX2 := heap_alloc_new (w.alloc (.cells #[x, y] t)) (.cells #[u, v] 26)
  have hX3 := heap_alloc_new ((w.alloc (.cells #[x, y] t)).alloc (.cells #[u, v] 26)) (.cells #[r, s] 26)
  rw [es] at hX2
  rw [es, es] at hX3
  refine ⟨hA2.alloc hA2.size _, ?_, ?_, hX3, by rw [es, es, es]⟩
  · exact ((al _ _).block _ (by rw [es, es]; omega)).trans (((al _ _).block _ (by rw [es]; omega)).trans hX1)
  · exact ((al _ _).block _ (by rw [es, es]; omega)).trans hX2

set_option maxRecDepth 100000 in
set_option maxHeartbeats 4000000 in
theorem toDk_any (aN : Option Addr) (cN : Nat) (G : List (List Int)) (aP : Option Addr) (cP : Nat) (P : List (List (List Int))) (n₀ : Nat) (w : World) (hM : Mat n₀ w aN G) (hC : Cube n₀ w aP P) (hn : n₀ ≤ w.heap.size) (hF : Fit G) (hFC : FitC P) :
    Calls Try.prog 19 #[.agg #[.slice aN G.length cN, .slice aP P.length cP]] w (CopiedDk ⟨G, P⟩ w) := by
  obtain ⟨hA, hX, hY, hZ, hzV⟩ := boxed3 w (.slice aN G.length cN) (.slice aP P.length cP) (.slice none 0 0) (.slice none 0 0) (.slice none 0 0) (.slice none 0 0) 37
  have hM1 := hM.below (hA.mono hn)
  have hC1 := hC.below (hA.mono hn)
  obtain ⟨⟨c0, c1⟩, _⟩ := pair_cell hX
  obtain ⟨V, hV⟩ : ∃ V, ((w.alloc (.cells #[.slice aN G.length cN, .slice aP P.length cP] 37)).alloc (.cells #[.slice none 0 0, .slice none 0 0] 26)).alloc (.cells #[.slice none 0 0, .slice none 0 0] 26) = V := ⟨_, rfl⟩
  rw [hV] at hA hX hY hZ hzV hM1 hC1
  have HT := Lib.hid (toSS_any aN cN G n₀ V hM1 hF (by omega))
  have HV := Lib.hid hV
  have HA := Lib.hid hA
  have HX := Lib.hid hX
  have HY := Lib.hid hY
  have HZ := Lib.hid hZ
  have HC1 := Lib.hid hC1
  have HZV := Lib.hid hzV
  have HFC := Lib.hid hFC
  clear hV hA hX hY hZ hzV hM1 hC1 hM hC hF hFC
  go_enter Try.func19, Try.ntmps19
  go_wp2_with fail
  clear c0 c1
  rw [HV.out]
  refine HT.out.mono ?_
  intro e w1 hcp
  obtain ⟨⟨rfl, hb1⟩, hO⟩ := OwnG.copy hcp
  have hzV := HZV.out
  have hbs := hb1.size
  have hX1 := (hb1.block w.heap.size (by omega)).trans HX.out
  have hY1 := (hb1.block (w.heap.size + 1) (by omega)).trans HY.out
  have hZ1 := (hb1.block (w.heap.size + 1 + 1) (by omega)).trans HZ.out
  have hZ2 := dk_put hZ1 0 (.slice (some ⟨V.heap.size, 0, none⟩) G.length G.length)
  have ht : Touch (fun B => B = w.heap.size + 1 + 1) w1 (w1.setCell ⟨w.heap.size + 1 + 1, 0, none⟩ (.slice (some ⟨V.heap.size, 0, none⟩) G.length G.length)) := Touch.set (S := fun B => B = w.heap.size + 1 + 1) w1 rfl 0 _
  have hX2 := (ht.block w.heap.size (by omega)).trans hX1
  have hY2 := (ht.block (w.heap.size + 1) (by omega)).trans hY1
  have hO2 := hO.touch ht (fun B e => by cases e; left; omega)
  have hC2 := (HC1.out.below (hb1.mono (by omega))).below (ht.below (n := n₀) fun B e => by omega)
  have hb2 := (HA.out.trans (hb1.mono HA.out.size)).trans (ht.below (n := w.heap.size) fun B e => by omega)
  have hz2 := ht.size
  obtain ⟨⟨c0, c1⟩, _⟩ := pair_cell hX2
  obtain ⟨⟨z0, z1⟩, zf⟩ := dk_cell hZ1
  have zf0 := zf 0
  have HX2 := Lib.hid hX2
  have HY2 := Lib.hid hY2
  have HZ2 := Lib.hid hZ2
  have HO2 := Lib.hid hO2
  have HB2 := Lib.hid hb2
  have HC := Lib.hid (toC_any aP cP P n₀ (w1.setCell ⟨w.heap.size + 1 + 1, 0, none⟩ (.slice (some ⟨V.heap.size, 0, none⟩) G.length G.length)) hC2 HFC.out (by omega))
  obtain ⟨x, hx⟩ : ∃ x, V.heap.size = x := ⟨_, rfl⟩
  have HXX := Lib.hid hx
  have HS := Lib.hid (show w.heap.size + 1 + 1 + 1 = x ∧ x ≤ w1.heap.size ∧ (w1.setCell ⟨w.heap.size + 1 + 1, 0, none⟩ (.slice (some ⟨V.heap.size, 0, none⟩) G.length G.length)).heap.size = w1.heap.size from ⟨by omega, by omega, hz2⟩)
  rw [hx] at HZ2 HO2 HB2 HC HX2 HY2 HS c0 c1 ⊢
  clear hcp hb1 hO hX1 hY1 hZ1 hZ2 ht hX2 hY2 hO2 hC2 hb2 hz2 zf hx hzV hbs z1
  go_wp2_with fail
  refine HC.out.mono ?_
  rintro e w2 ⟨aQ, ⟨rfl, hb3⟩, hOC⟩
  obtain ⟨hs1, hs2, hs3⟩ := HS.out
  have hbs := hb3.size
  have hY3 := (hb3.block (w.heap.size + 1) (by omega)).trans HY2.out
  have hZ3 := (hb3.block (w.heap.size + 1 + 1) (by omega)).trans HZ2.out
  have hZ4 := dk_put hZ3 1 (.slice aQ P.length P.length)
  have hO3 := HO2.out.below hb3 (by omega)
  have hb4 := HB2.out.trans (hb3.mono HB2.out.size)
  have ht : Touch (fun B => B = w.heap.size + 1 + 1) w2 (w2.setCell ⟨w.heap.size + 1 + 1, 1, none⟩ (.slice aQ P.length P.length)) := Touch.set (S := fun B => B = w.heap.size + 1 + 1) w2 rfl 1 _
  have hY4 := (ht.block (w.heap.size + 1) (by omega)).trans hY3
  have hY5 := dk_put hY4 0 (.slice (some ⟨x, 0, none⟩) G.length G.length)
  have hY6 := dk_put hY5 1 (.slice aQ P.length P.length)
  have ht2 : Touch (fun B => B = w.heap.size + 1 ∨ B = w.heap.size + 1 + 1) w2 (((w2.setCell ⟨w.heap.size + 1 + 1, 1, none⟩ (.slice aQ P.length P.length)).setCell ⟨w.heap.size + 1, 0, none⟩ (.slice (some ⟨x, 0, none⟩) G.length G.length)).setCell ⟨w.heap.size + 1, 1, none⟩ (.slice aQ P.length P.length)) :=
    ((ht.more fun B e => .inr e).trans (Touch.set (S := fun B => B = w.heap.size + 1 ∨ B = w.heap.size + 1 + 1) _ (.inl rfl) 0 _)).trans (Touch.set (S := fun B => B = w.heap.size + 1 ∨ B = w.heap.size + 1 + 1) _ (.inl rfl) 1 _)
  have hOG := hO3.touch ht2 (fun B e => by omega)
  have hOP := hOC.touch ht2 (fun B e => by omega)
  have HB5 := Lib.hid (hb4.trans (ht2.below (n := w.heap.size) fun B e => by omega))
  have hz5 := ht2.size
  have HOD : Hid (OwnDk w.heap.size (((w2.setCell ⟨w.heap.size + 1 + 1, 1, none⟩ (.slice aQ P.length P.length)).setCell ⟨w.heap.size + 1, 0, none⟩ (.slice (some ⟨x, 0, none⟩) G.length G.length)).setCell ⟨w.heap.size + 1, 1, none⟩ (.slice aQ P.length P.length)).heap.size (((w2.setCell ⟨w.heap.size + 1 + 1, 1, none⟩ (.slice aQ P.length P.length)).setCell ⟨w.heap.size + 1, 0, none⟩ (.slice (some ⟨x, 0, none⟩) G.length G.length)).setCell ⟨w.heap.size + 1, 1, none⟩ (.slice aQ P.length P.length)) (.agg #[.slice (some ⟨x, 0, none⟩) G.length G.length, .slice aQ P.length P.length]) ⟨G, P⟩) :=
    Lib.hid ⟨_, _, _, _, _, _, rfl, hOG, hOP, by omega, by omega, by omega⟩
  obtain ⟨⟨z0', z1'⟩, zf'⟩ := dk_cell hZ3
  have zf1 := zf' 1
  obtain ⟨⟨q0, q1⟩, _⟩ := dk_cell hZ4
  obtain ⟨⟨s1, s3⟩, s2⟩ := dk_cell hY4
  obtain ⟨⟨t1, t3⟩, t2⟩ := dk_cell hY5
  obtain ⟨⟨r1, r3⟩, _⟩ := dk_cell hY6
  have s2b := s2 0
  have t2b := t2 1
  clear hY3 hZ3 hZ4 hO3 hb4 ht hY4 hY5 hY6 ht2 hOG hOP hz5 zf' s2 t2 hb3 hOC hs1 hs2 hs3 hbs c0 c1 z0 zf0
  go_wp2_with fail
  refine bodyPost_ret (v := .agg #[.slice (some ⟨x, 0, none⟩) G.length G.length, .slice aQ P.length P.length]) ?_ rfl ?_
  · simp [results, Try.f19, go_sem, r1, r3]
  · exact ⟨_, ⟨rfl, HB5.out⟩, HOD.out⟩

end Go.Proofs.Ytofpjepndhpciaa
