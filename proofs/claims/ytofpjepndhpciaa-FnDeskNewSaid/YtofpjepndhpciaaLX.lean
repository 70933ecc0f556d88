/-
  The program's DeskOk; a desk that is the zero value.
-/
import Derived.Test.YtofpjepndhpciaaLW
namespace Go.Proofs.Ytofpjepndhpciaa
open Go.RowKit Go.Shelf Go.Deep

theorem dok_now {d : Dk} (h : gOk d.now = false) : dokI d = false := by unfold dokI; rw [h]; simp
theorem dok_long {d : Dk} (h : ¬ d.past.length ≤ 8) : dokI d = false := by unfold dokI; rw [decide_eq_false h]; simp
theorem dok_all {d : Dk} (h1 : gOk d.now = true) (h2 : d.past.length ≤ 8) (h : ∀ (j : Nat) (G : List (List Int)), j < d.past.length → d.past[j]? = some G → gOk G = true) : dokI d = true := by
  rw [dok_past h, h1, decide_eq_true h2]; rfl

set_option maxRecDepth 100000 in
set_option maxHeartbeats 4000000 in
theorem implDkOk (v : Value) (d : Dk) (w : World) (h : DeskR w.heap.size w v d) (hF : FitK d) :
    Calls Try.prog 8 #[v] w (Ans (.bool (dokI d)) w) := by
  obtain ⟨aN, aP, cN, cP, rfl, hM, hC⟩ := h
  have hA : Below w.heap.size w (w.alloc (.cells #[.slice aN d.now.length cN, .slice aP d.past.length cP] 26)) := (Below.refl _ _).alloc (Nat.le_refl _) _
  have hX : (w.alloc (.cells #[.slice aN d.now.length cN, .slice aP d.past.length cP] 26)).heap[w.heap.size]? = some (.cells #[.slice aN d.now.length cN, .slice aP d.past.length cP] 26) := heap_alloc_new w _
  have hM1 := (hM.below hA).more hA.size
  have hC1 := (hC.below hA).more hA.size
  have hpl := hF.2.1
  obtain ⟨c0, c1⟩ := (dk_cell hX).1
  obtain ⟨V, hV⟩ : ∃ V, w.alloc (.cells #[.slice aN d.now.length cN, .slice aP d.past.length cP] 26) = V := ⟨_, rfl⟩
  have HC0 := Lib.hid (And.intro c0 c1)
  rw [hV] at hA hX hM1 hC1
  have HV := Lib.hid hV
  have HA := Lib.hid hA
  have HX := Lib.hid hX
  have HF := Lib.hid hF
  have HO := Lib.hid (implOk aN cN d.now V hM1 hF.1)
  have HC1 := Lib.hid hC1
  clear hV hA hX hM hC hM1 hC1 hF HC0
  by_cases hg : gOk d.now = true
  · rw [hg] at HO
    have HG := Lib.hid hg
    clear hg
    go_enter Try.func8, Try.ntmps8
    go_wp2_with fail
    clear c0 c1
    rw [HV.out]
    refine HO.out.mono ?_
    rintro e w1 ⟨rfl, hB1⟩
    obtain ⟨c0, c1⟩ := (dk_cell ((hB1.block _ (Array.getElem?_eq_some_iff.1 HX.out).1).trans HX.out)).1
    have HC2 := Lib.hid ((HC1.out.below hB1).more hB1.size)
    have HB1 := Lib.hid (HA.out.trans (hB1.mono HA.out.size))
    clear hB1 HC1 HX
    by_cases h8 : d.past.length ≤ 8
    · go_wp2_with fail
      go_loopw [18] (fun i wr => ∃ k : Nat, k ≤ d.past.length ∧ i = .int .i64 k ∧ Hid (Below w1.heap.size w1 wr) ∧ Hid (∀ (j : Nat) (G : List (List Int)), j < k → d.past[j]? = some G → gOk G = true)) (fun i _ => d.past.length - (intOf i).toNat)
      case atStart => exact ⟨0, Nat.zero_le _, rfl, Lib.hid (Below.refl _ _), Lib.hid fun j G h => absurd h (Nat.not_lt_zero _)⟩
      case round =>
        obtain ⟨k, hk, rfl, HB, HP⟩ := hrel
        by_cases hlt : k < d.past.length
        · obtain ⟨b, o, G, aG, cG, rfl, hb, HGk, hc, hMG⟩ := (HC2.out.below HB.out).at_ hlt
          have hFG := HF.out.2.at_ HGk.out
          have HOG := Lib.hid (implOk aG cG G wr (hMG.more HB.out.size) hFG)
          clear hMG hFG
          by_cases hgk : gOk G = true
          · rw [hgk] at HOG
            have HGG : Hid (∀ (j : Nat) (H : List (List Int)), j < k + 1 → d.past[j]? = some H → gOk H = true) := Lib.hid fun j H hj hH => by
              by_cases e : j = k
              · subst e; rw [HGk.out] at hH; cases hH; exact hgk
              · exact HP.out j H (by omega) hH
            clear hgk
            go_wp2_with fail
            refine HOG.out.mono ?_
            rintro e w2 ⟨rfl, hB2⟩
            have HB2 := Lib.hid (HB.out.trans (hB2.mono HB.out.size))
            clear hB2 HOG
            go_wp2_with fail
            go_roundw
            case rel => exact ⟨k + 1, by omega, by go_num, HB2, HGG⟩
            case measure => simp [intOf]; omega
          · rw [show gOk G = false by simpa using hgk] at HOG
            have HD : Hid (dokI d = false) := Lib.hid (dok_false_past HGk.out (by simpa using hgk))
            clear hgk
            go_wp2_with fail
            refine HOG.out.mono ?_
            rintro e w2 ⟨rfl, hB2⟩
            have HB2 := Lib.hid (HB1.out.trans ((HB.out.trans (hB2.mono HB.out.size)).mono HB1.out.size))
            clear hB2 HOG
            go_wp2_with fail
            go_ret
            rw [HD.out]
            exact ⟨rfl, HB2.out⟩
        · obtain rfl : k = d.past.length := by omega
          have HD : Hid (dokI d = true) := Lib.hid (dok_all HG.out h8 HP.out)
          have HB2 := Lib.hid (HB1.out.trans (HB.out.mono HB1.out.size))
          go_wp2_with fail
          go_ret
          rw [HD.out]
          exact ⟨rfl, HB2.out⟩
    · have HD : Hid (dokI d = false) := Lib.hid (dok_long h8)
      go_wp2_with fail
      go_ret
      rw [HD.out]
      exact ⟨rfl, HB1.out⟩
  · rw [show gOk d.now = false by simpa using hg] at HO
    have HD : Hid (dokI d = false) := Lib.hid (dok_now (by simpa using hg))
    clear hg
    go_enter Try.func8, Try.ntmps8
    go_wp2_with fail
    clear c0 c1
    rw [HV.out]
    refine HO.out.mono ?_
    rintro e w1 ⟨rfl, hB1⟩
    have HB1 := Lib.hid (HA.out.trans (hB1.mono HA.out.size))
    clear hB1
    go_wp2_with fail
    go_ret
    rw [HD.out]
    exact ⟨rfl, HB1.out⟩

set_option maxHeartbeats 1000000 in
theorem noDk_any (d1 d2 : Option Addr) (m1 e1 m2 e2 : Nat) (w : World) (h : DeskR w.heap.size w (.agg #[.slice d1 m1 e1, .slice d2 m2 e2]) ⟨[], []⟩) : Calls Try.prog 15 #[.agg #[.slice d1 m1 e1, .slice d2 m2 e2]] w (Ans (.bool true) w) := by
  have hA : Below w.heap.size w (w.alloc (.cells #[.slice d1 m1 e1, .slice d2 m2 e2] 26)) := (Below.refl _ _).alloc (Nat.le_refl _) _
  have hX : (w.alloc (.cells #[.slice d1 m1 e1, .slice d2 m2 e2] 26)).heap[w.heap.size]? = some (.cells #[.slice d1 m1 e1, .slice d2 m2 e2] 26) := heap_alloc_new w _
  obtain ⟨c0, c1⟩ := (dk_cell hX).1
  have HR := Lib.hid ((h.below hA).more hA.size)
  have HA := Lib.hid hA
  clear hA hX h
  go_enter Try.func15, Try.ntmps15
  go_wp2_with fail
  refine (sameDk_same _ _ ⟨[], []⟩ _ _ HR.out (zero_read _) (Nat.le_refl _) ⟨by simp [Fit], by simp [FitC]⟩).mono ?_
  rintro e w1 ⟨rfl, hB⟩
  have HB := Lib.hid (HA.out.trans (hB.mono HA.out.size))
  clear hB
  go_wp2_with fail
  go_ret
  exact ⟨rfl, HB.out⟩

set_option maxHeartbeats 400000 in
theorem drawDeskNew_any (a : Option Addr) (n c : Nat) (w : World) (hn : n ≤ 1048576) (hc : n ≤ c) (hy : Bytes w.heap.size w a n) :
    Calls Try.prog 11 #[.slice a n c] w (DrawnM w) := by
  go_enter Try.func11, Try.ntmps11
  go_wp2_with fail
  refine (open_any a n c w hn hc hy).mono ?_
  rintro e w1 ⟨rfl, hR, hB⟩
  go_wp2_with fail
  refine (graph_any w.heap.size w.heap.size 0 5 4 w1 hR (by omega) (by omega) (by omega) (by omega) (by omega)).mono ?_
  rintro e w2 h2
  have h3 := drawnM_of hB h2
  obtain ⟨a, c, xss, rfl, h4⟩ := h3
  have H4 := Lib.hid h4
  clear h4 h2 hR hB hy
  go_wp2_with fail
  go_ret
  exact ⟨a, c, xss, rfl, H4.out⟩

end Go.Proofs.Ytofpjepndhpciaa
