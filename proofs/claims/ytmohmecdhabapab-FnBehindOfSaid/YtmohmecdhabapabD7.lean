/-
  Three graphs and two rows drawn: DrawBehindOf.
-/
import Derived.Test.YtmohmecdhabapabC2
import Derived.Test.YtmohmecdhabapabD6
namespace Go.Proofs.Ytmohmecdhabapab
open Go.RowKit Go.Shelf Go.Deep

theorem results_tmp5 {fn : Func} {t u v x y : Tmp} (h : fn.results = #[.tmp t, .tmp u, .tmp v, .tmp x, .tmp y]) (tmps : Array Value) (P : Program) (w : World) :
    (results fn tmps).run P w = .ok (.tuple #[tmps.getD t undef, tmps.getD u undef, tmps.getD v undef, tmps.getD x undef, tmps.getD y undef]) w := by
  simp [results, h]

/-- THREE GRAPHS, or what are none, AND TWO ROWS ARE DRAWN. -/
def DrawnB5 (w : World) (e : Ending) (w' : World) : Prop :=
  ∃ (a : Option Addr) (c : Nat) (xss : List (List Int)) (a' : Option Addr) (c' : Nat) (yss : List (List Int)) (a'' : Option Addr) (c'' : Nat) (kss : List (List Int)) (a3 : Option Addr) (c3 : Nat) (f : List Int) (a4 : Option Addr) (c4 : Nat) (h : List Int),
    e = .returned (.tuple #[.slice a xss.length c, .slice a' yss.length c', .slice a'' kss.length c'', .slice a3 f.length c3, .slice a4 h.length c4]) ∧
    (Fit xss ∧ Mat w'.heap.size w' a xss) ∧ (Fit yss ∧ Mat w'.heap.size w' a' yss) ∧ (Fit kss ∧ Mat w'.heap.size w' a'' kss) ∧ (f.length ≤ 1048576 ∧ Ints w'.heap.size w' a3 f) ∧ (h.length ≤ 1048576 ∧ Ints w'.heap.size w' a4 h) ∧ Below w.heap.size w w'

set_option maxRecDepth 100000 in
set_option maxHeartbeats 4000000 in
theorem drawBehindOf_any (a : Option Addr) (n c : Nat) (w : World) (hn : n ≤ 1048576) (hc : n ≤ c) (hy : Bytes w.heap.size w a n) :
    Calls Try.prog 32 #[.slice a n c] w (DrawnB5 w) := by
  go_enter Try.func32, Try.ntmps32
  go_wp2_with fail
  refine (open_any a n c w hn hc hy).mono ?_
  rintro e w1 ⟨rfl, hR1, hB⟩
  have hz1 := hB.size
  have HB1 := Lib.hid hB
  obtain ⟨B, hBe⟩ : ∃ B, w.heap.size = B := ⟨_, rfl⟩
  have hBw : B ≤ w.heap.size := by omega
  rw [hBe] at hR1 ⊢
  go_wp2_with fail
  refine (map_any B B 0 w1 hR1 (by omega)).mono ?_
  rintro e w2 ⟨a2, c2, xss, a3, c3, yss, a4, c4, f, rfl, ⟨hF, x2, hx4⟩, ⟨hF', y2, hy4⟩, ⟨hfl, f2⟩, hR2, hg2⟩
  have HG2 := Lib.hid hg2
  have HF := Lib.hid hF
  have HF' := Lib.hid hF'
  clear hF hF' hR1 hg2 hB hy
  go_wp2_with fail
  refine (graph_anyK B B (0 + 600) 4 3 14 w2 hR2 (by omega) (by omega) (by omega) (by omega) (by omega) (by omega)).mono ?_
  rintro e w3 ⟨a5, c5, kss, rfl, hF5, k3, hR3, hg3, hk4⟩
  have x3 := x2.erasedKept hR2 hg3 hg3.size
  have y3 := y2.erasedKept hR2 hg3 hg3.size
  have f3 := f2.erasedKept hR2 hg3 hg3.size
  have HG3 := Lib.hid (grow_B HG2.out hg3 (fun r e => by cases e; exact .inr rfl))
  have HFk := Lib.hid hF5
  have hB3' : B < w3.heap.size := hR3.lt
  clear x2 y2 f2 hR2 hg3 HG2 hF5
  go_wp2_with fail
  refine (specMapsOfO _ _ _ _ yss kss _ w3 (y3.laid hR3) (k3.laid hR3) (Nat.le_refl _) HF'.out HFk.out).mono ?_
  obtain ⟨ls, hls⟩ : ∃ ls, mapsL yss kss = ls := ⟨_, rfl⟩
  have HLF : Hid (Fit ls) := Lib.hid (by rw [← hls]; exact mapsL_fit _ _)
  have hl7 : ls.length ≤ 7000 := by rw [← hls]; exact mapsL_le _ _
  rw [hls]
  clear hls
  rintro e w4 ⟨a6, c6, ⟨rfl, hB4⟩, hO⟩
  have hg4 : w3.grownBy w4 (some B) := ⟨hB4.os, hB4.tape, hB4.output, hB4.size, fun k hk _ => hB4.block k hk⟩
  have hR4 := hR3.keep (grown_of_below hB4) (fun r e => by cases e)
  have x4 := x3.erasedKept hR3 hg4 hg4.size
  have y4 := y3.erasedKept hR3 hg4 hg4.size
  have f4 := f3.erasedKept hR3 hg4 hg4.size
  have k4 := k3.erasedKept hR3 hg4 hg4.size
  have HG4 := Lib.hid (grow_B HG3.out hg4 (fun r e => by cases e; exact .inr rfl))
  clear x3 y3 f3 k3 hR3 hg4 HG3 hB4
  have hL4 := hO.matErased hB3'
  clear hO hB3'
  by_cases h0 : ls.length = 0
  · rw [h0]
    have hB4' : B < w4.heap.size := hR4.lt
    clear hL4 HLF hl7 h0
    go_wp2_with fail
    refine (specMapsOfO _ _ _ _ yss yss _ w4 (y4.laid hR4) (y4.laid hR4) (Nat.le_refl _) HF'.out HF'.out).mono ?_
    obtain ⟨ls, hls⟩ : ∃ ls, mapsL yss yss = ls := ⟨_, rfl⟩
    have HLF : Hid (Fit ls) := Lib.hid (by rw [← hls]; exact mapsL_fit _ _)
    have hl7 : ls.length ≤ 7000 := by rw [← hls]; exact mapsL_le _ _
    rw [hls]
    clear hls
    rintro e w5 ⟨a7, c7, ⟨rfl, hB5⟩, hO⟩
    have hg5 : w4.grownBy w5 (some B) := ⟨hB5.os, hB5.tape, hB5.output, hB5.size, fun k hk _ => hB5.block k hk⟩
    have hR5 := hR4.keep (grown_of_below hB5) (fun r e => by cases e)
    have x5 := x4.erasedKept hR4 hg5 hg5.size
    have y5 := y4.erasedKept hR4 hg5 hg5.size
    have f5 := f4.erasedKept hR4 hg5 hg5.size
    have HG5 := Lib.hid (grow_B HG4.out hg5 (fun r e => by cases e; exact .inr rfl))
    clear x4 y4 f4 hR4 hg5 HG4 hB5
    have hL5 := hO.matErased hB4'
    clear hO hB4'
    by_cases h0 : ls.length = 0
    · rw [h0]
      clear hL5 HLF hl7 h0
      have HX := Lib.hid (x5.laid hR5)
      have HY := Lib.hid (y5.laid hR5)
      have HI := Lib.hid (f5.laid hR5)
      have HBB := Lib.hid (HB1.out.grown HG5.out hz1 (fun k e => by cases e; exact Nat.le_of_eq hBe))
      have hs5 := HG5.out.size
      clear x5 y5 f5 hR5 HG5
      go_wp2_with fail
      (try simp only [Exit.inBlock, Exit.then])
      refine bodyPost_ret (results_tmp5 rfl _ _ _) rfl ?_
      have hba : Below w5.heap.size w5 (w5.alloc (.cells #[.int .i64 0] 3)) := (Below.refl _ _).alloc (Nat.le_refl _) _
      have hsa := hba.size
      refine ⟨a2, c2, xss, a3, c3, yss, a3, c3, yss, a4, c4, f, some ⟨w5.heap.size, 0, none⟩, 1, [0], rfl, ⟨HF.out, (HX.out.below hba).more hsa⟩, ⟨HF'.out, (HY.out.below hba).more hsa⟩, ⟨HF'.out, (HY.out.below hba).more hsa⟩, ⟨hfl, (HI.out.below hba).more hsa⟩, ⟨by simp, ?_⟩, HBB.out.alloc HBB.out.size _⟩
      have h := World.ownsRow_lit (base := w5.heap.size) (e := 3) (size := 1) w5 #[.int .i64 0] 1 (Nat.le_refl _) (by unfold maxLen; omega) rfl
      obtain ⟨a', c', e', hI'⟩ := own_ints (xs := [0]) h
      cases e'
      exact hI'
    · have hlp : (0 : Int) < (ls.length : Int) := by omega
      have HR := Lib.hid hR5
      have HLL := Lib.hid hL5
      have Hx := Lib.hid x5
      have Hy := Lib.hid y5
      have Hf := Lib.hid f5
      clear hR5 hL5 x5 y5 f5
      obtain ⟨bL, oL, rfl, hbL, hcL⟩ := (HLL.out.laid HR.out) (by intro e; rw [e] at hlp; simp at hlp)
      obtain ⟨V, hV⟩ : ∃ V : Nat → Value, ∀ q, q < ls.length → w5.cell? ⟨bL, oL + q, none⟩ = some (V q) := ⟨fun q => (w5.cell? ⟨bL, oL + q, none⟩).getD undef, fun q hq => by obtain ⟨_, _, h1, _⟩ := hcL q hq; show _ = some ((w5.cell? ⟨bL, oL + q, none⟩).getD undef); rw [h1]; rfl⟩
      clear hcL
      go_wp2_with fail
      go_region_held3 (fun w' => ∀ q, q < ls.length → w'.cell? ⟨bL, oL + q, none⟩ = some (V q)) (first | exact hV | exact hV9)
        (first | (go_at_call 55; refine (pick_any B B _ (ls.length : Int) _ (by exact HR.out) (by omega)).mono ?_; rintro e w9 ⟨y, ⟨rfl, hy0', hy1', _⟩, hR9, hg9, -⟩; have hy2' := hy1' (by omega); obtain ⟨q, rfl⟩ : ∃ q : Nat, y = (q : Int) := ⟨y.toNat, by omega⟩; have hql : q < ls.length := (by omega); have hg5 : w5.grownBy w9 (some B) := ⟨hg9.os, hg9.tape, hg9.output, hg9.size, hg9.block⟩; have HXe := Lib.hid (Hx.out.erasedKept HR.out hg5 hg5.size); have HYe := Lib.hid (Hy.out.erasedKept HR.out hg5 hg5.size); have HKe := Lib.hid (Hy.out.erasedKept HR.out hg5 hg5.size); have HIe := Lib.hid (Hf.out.erasedKept HR.out hg5 hg5.size); have HGe := Lib.hid (grow_B HG5.out hg5 (fun r e => by cases e; exact .inr rfl)); have HLe := Lib.hid (HLL.out.erasedKept HR.out hg5 hg5.size); have hV9 : ∀ q, q < ls.length → w9.cell? ⟨bL, oL + q, none⟩ = some (V q) := (fun q hq => ((HLL.out.same hg5 hR9 HR.out q hq).trans (hV q hq))); have HR9 := Lib.hid hR9; clear hy1' hR9 hg5 hg9))
      obtain ⟨b5, o5, a9, c9, fs, e9, hb5, hc5, hI5, HI5⟩ := HLe.out.at_ hql
      cases e9
      have hc6 := (erased_sub (rd_block HR9.out).choose_spec.choose_spec.choose_spec (fun _ _ _ => rfl)) _ _ hc5
      have hfs : fs.length ≤ 1048576 := HLF.out.at_ HI5.out
      have hVq : V q = .slice a9 fs.length c9 := Option.some.inj ((hV9 q hql).symm.trans hc6)
      rw [hVq]
      have HXl := Lib.hid (HXe.out.laid HR9.out)
      have HYl := Lib.hid (HYe.out.laid HR9.out)
      have HKl := Lib.hid (HKe.out.laid HR9.out)
      have HIl := Lib.hid (HIe.out.laid HR9.out)
      have HJl := Lib.hid (hI5.laid HR9.out)
      have HBB := Lib.hid (HB1.out.grown HGe.out hz1 (fun k e => by cases e; exact Nat.le_of_eq hBe))
      clear hI5 hc5 hc6
      go_wp2_with fail
      (try simp only [Exit.inBlock, Exit.then])
      refine bodyPost_ret (results_tmp5 rfl _ _ _) rfl ?_
      exact ⟨a2, c2, xss, a3, c3, yss, a3, c3, yss, a4, c4, f, a9, c9, fs, rfl, ⟨HF.out, HXl.out⟩, ⟨HF'.out, HYl.out⟩, ⟨HF'.out, HKl.out⟩, ⟨hfl, HIl.out⟩, ⟨hfs, HJl.out⟩, HBB.out⟩
  · have hlp : (0 : Int) < (ls.length : Int) := by omega
    have HR := Lib.hid hR4
    have HLL := Lib.hid hL4
    have Hx := Lib.hid x4
    have Hy := Lib.hid y4
    have Hf := Lib.hid f4
    have Hk := Lib.hid k4
    clear hR4 hL4 x4 y4 f4 k4
    obtain ⟨bL, oL, rfl, hbL, hcL⟩ := (HLL.out.laid HR.out) (by intro e; rw [e] at hlp; simp at hlp)
    obtain ⟨V, hV⟩ : ∃ V : Nat → Value, ∀ q, q < ls.length → w4.cell? ⟨bL, oL + q, none⟩ = some (V q) := ⟨fun q => (w4.cell? ⟨bL, oL + q, none⟩).getD undef, fun q hq => by obtain ⟨_, _, h1, _⟩ := hcL q hq; show _ = some ((w4.cell? ⟨bL, oL + q, none⟩).getD undef); rw [h1]; rfl⟩
    clear hcL
    go_wp2_with fail
    go_region_held3 (fun w' => ∀ q, q < ls.length → w'.cell? ⟨bL, oL + q, none⟩ = some (V q)) (first | exact hV | exact hV9)
      (first | (go_at_call 55; refine (pick_any B B _ (ls.length : Int) _ (by exact HR.out) (by omega)).mono ?_; rintro e w9 ⟨y, ⟨rfl, hy0', hy1', _⟩, hR9, hg9, -⟩; have hy2' := hy1' (by omega); obtain ⟨q, rfl⟩ : ∃ q : Nat, y = (q : Int) := ⟨y.toNat, by omega⟩; have hql : q < ls.length := (by omega); have hg5 : w4.grownBy w9 (some B) := ⟨hg9.os, hg9.tape, hg9.output, hg9.size, hg9.block⟩; have HXe := Lib.hid (Hx.out.erasedKept HR.out hg5 hg5.size); have HYe := Lib.hid (Hy.out.erasedKept HR.out hg5 hg5.size); have HKe := Lib.hid (Hk.out.erasedKept HR.out hg5 hg5.size); have HIe := Lib.hid (Hf.out.erasedKept HR.out hg5 hg5.size); have HGe := Lib.hid (grow_B HG4.out hg5 (fun r e => by cases e; exact .inr rfl)); have HLe := Lib.hid (HLL.out.erasedKept HR.out hg5 hg5.size); have hV9 : ∀ q, q < ls.length → w9.cell? ⟨bL, oL + q, none⟩ = some (V q) := (fun q hq => ((HLL.out.same hg5 hR9 HR.out q hq).trans (hV q hq))); have HR9 := Lib.hid hR9; clear hy1' hR9 hg5 hg9))
    obtain ⟨b5, o5, a9, c9, fs, e9, hb5, hc5, hI5, HI5⟩ := HLe.out.at_ hql
    cases e9
    have hc6 := (erased_sub (rd_block HR9.out).choose_spec.choose_spec.choose_spec (fun _ _ _ => rfl)) _ _ hc5
    have hfs : fs.length ≤ 1048576 := HLF.out.at_ HI5.out
    have hVq : V q = .slice a9 fs.length c9 := Option.some.inj ((hV9 q hql).symm.trans hc6)
    rw [hVq]
    have HXl := Lib.hid (HXe.out.laid HR9.out)
    have HYl := Lib.hid (HYe.out.laid HR9.out)
    have HKl := Lib.hid (HKe.out.laid HR9.out)
    have HIl := Lib.hid (HIe.out.laid HR9.out)
    have HJl := Lib.hid (hI5.laid HR9.out)
    have HBB := Lib.hid (HB1.out.grown HGe.out hz1 (fun k e => by cases e; exact Nat.le_of_eq hBe))
    clear hI5 hc5 hc6
    go_wp2_with fail
    (try simp only [Exit.inBlock, Exit.then])
    refine bodyPost_ret (results_tmp5 rfl _ _ _) rfl ?_
    exact ⟨a2, c2, xss, a3, c3, yss, a5, c5, kss, a4, c4, f, a9, c9, fs, rfl, ⟨HF.out, HXl.out⟩, ⟨HF'.out, HYl.out⟩, ⟨HFk.out, HKl.out⟩, ⟨hfl, HIl.out⟩, ⟨hfs, HJl.out⟩, HBB.out⟩

end Go.Proofs.Ytmohmecdhabapab
