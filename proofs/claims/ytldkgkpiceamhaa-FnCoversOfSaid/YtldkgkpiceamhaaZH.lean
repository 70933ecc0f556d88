/-
  Several texts in one.
  Two graphs and a row drawn: l20Map.
  Two graphs of at most four nodes drawn: DrawBelowOk, DrawSameLevel, DrawMapsOf, DrawCountOf.
  Three graphs and two rows drawn: DrawBehindOf.
-/
import Derived.Test.YtldkgkpiceamhaaZK
import Derived.Test.YtldkgkpiceamhaaM9
import Derived.Deep.RegionHeld3
import Derived.OwnWalk
import Derived.Test.YtldkgkpiceamhaaC2
namespace Go.Proofs.Ytldkgkpiceamhaa
open Go.RowKit Go.Shelf Go.Deep

theorem OwnMat.erased {base B : Nat} {W : World} {v : Value} {xss : List (List Int)} (h : OwnMat base W v xss) (hB : B < base) : OwnMat base (W.setRow B #[]) v xss := by
  obtain ⟨vs, ho, hv⟩ := h
  exact ⟨vs, ho.kept (erased_grown W B) (.inr fun e => by have := (ho.lt B e).1; omega), fun i x xs hx hxs => (hv i x xs hx hxs).kept (erased_grown W B) (.inr fun e => by have := ((hv i x xs hx hxs).lt B e).1; omega)⟩
theorem OwnMat.matErased {base B : Nat} {W : World} {a : Option Addr} {c : Nat} {xss : List (List Int)} (h : OwnMat base W (.slice a xss.length c) xss) (hB : B < base) : Mat W.heap.size (W.setRow B #[]) a xss := by
  have := (h.erased hB).mat
  rwa [show (W.setRow B #[]).heap.size = W.heap.size by simp] at this
/-- TWO GRAPHS, or what are none, AND A ROW ARE DRAWN. -/
def DrawnMap (n₀ B N : Nat) (w : World) (e : Ending) (w' : World) : Prop :=
  ∃ (a : Option Addr) (c : Nat) (xss : List (List Int)) (a' : Option Addr) (c' : Nat) (yss : List (List Int)) (a3 : Option Addr) (c3 : Nat) (f : List Int), e = .returned (.tuple #[.slice a xss.length c, .slice a' yss.length c', .slice a3 f.length c3]) ∧
    (Fit xss ∧ Mat w'.heap.size (w'.setRow B #[]) a xss ∧ xss.length ≤ 4) ∧ (Fit yss ∧ Mat w'.heap.size (w'.setRow B #[]) a' yss ∧ yss.length ≤ 4) ∧ (f.length ≤ 1048576 ∧ Ints w'.heap.size (w'.setRow B #[]) a3 f) ∧ Rd n₀ B w' N ∧ w.grownBy w' (some B)

set_option maxRecDepth 100000 in
set_option maxHeartbeats 4000000 in
theorem map_any (n₀ B N : Nat) (w : World) (hR : Rd n₀ B w N) (hN : N ≤ 200000) :
    Calls Try.prog 89 #[.pointer (some ⟨B, 0, none⟩)] w (DrawnMap n₀ B (N + 600) w) := by
  have hBw := hR.lt
  obtain ⟨i1, hj, hy0, hy1, hy2⟩ := info_parts infoInt
  go_enter Try.func89, Try.ntmps89
  go_wp2_with fail
  refine (pair_any n₀ B N 14 w hR (by omega) (by omega) (by omega)).mono ?_
  rintro e w1 ⟨a1, c1, xss, a2, c2, yss, rfl, ⟨hF, hX, hx4⟩, ⟨hF', hY, hy4⟩, hR1, hg1⟩
  have HF := Lib.hid hF
  have HF' := Lib.hid hF'
  have hlx := hF.1
  have hly := hF'.1
  have hB1 : B < w1.heap.size := hR1.lt
  go_wp2_with fail
  refine (specMapsOfO _ _ _ _ xss yss _ w1 (hX.laid hR1) (hY.laid hR1) (Nat.le_refl _) HF.out HF'.out).mono ?_
  obtain ⟨ls, hls⟩ : ∃ ls, mapsL xss yss = ls := ⟨_, rfl⟩
  have HLF : Hid (Fit ls) := Lib.hid (by rw [← hls]; exact mapsL_fit _ _)
  have hl7 : ls.length ≤ 7000 := by rw [← hls]; exact mapsL_le _ _
  rw [hls]
  clear hls hF hF'
  rintro e w2 ⟨a3, c3, ⟨rfl, hB2⟩, hO⟩
  have hg2 : w1.grownBy w2 none := grown_of_below hB2
  have hg2' : w1.grownBy w2 (some B) := ⟨hB2.os, hB2.tape, hB2.output, hB2.size, fun k hk _ => hB2.block k hk⟩
  have hR2 : Rd n₀ B w2 (N + 401) := hR1.keep hg2 (fun r e => by cases e)
  have HX2 := Lib.hid (hX.erasedKept hR1 hg2' hg2.size)
  have HY2 := Lib.hid (hY.erasedKept hR1 hg2' hg2.size)
  have HL2 := Lib.hid (hO.matErased hB1)
  have HG2 := Lib.hid (grow_B hg1 hg2' (fun r e => by cases e; exact .inr rfl))
  have hB2' : B < w2.heap.size := hR2.lt
  clear hX hY hO hB2 hg2 hg2' hg1 hR1 hR hB1
  by_cases h0 : ls.length = 0
  · rw [h0]
    clear HL2 HLF hl7
    go_wp2_with fail
    have HI0 := Lib.hid (IOut.start hR2 hB2')
    have hsz : w2.heap.size ≤ (w2.alloc (.cells #[] 3)).heap.size := by simp
    go_loopw [8, 9] (fun v i wr => ∃ (k g cap : Nat), k ≤ xss.length ∧ i = .int .i64 k ∧ v = .slice (some ⟨g, 0, none⟩) k cap ∧ Hid (IOut n₀ B w2 wr (.slice (some ⟨g, 0, none⟩) k cap) k (N + 401 + 3 * k)))
      (fun _ i _ => xss.length - (intOf i).toNat)
    case atStart => exact ⟨0, _, _, Nat.zero_le _, rfl, rfl, HI0⟩
    case round =>
      obtain ⟨k, g, cap, hk, rfl, rfl, HO⟩ := hrel
      clear HI0
      by_cases hlt : k < xss.length
      · go_wp2_with fail
        all_goals
          refine (pick_any n₀ B (N + 401 + 3 * k) _ _ HO.out.1 (by omega)).mono ?_
          rintro e w4 ⟨x4, ⟨rfl, hp0, hp1, _⟩, hR4, hg4, -⟩
          have HO4 := Lib.hid (HO.out.pick hR4 hg4)
          clear hp1 hR4 hg4 HO
          go_wp2_with fail
          refine (pick_any n₀ B (N + 401 + 3 * k + 1) _ _ HO4.out.1 (by omega)).mono ?_
          rintro e w5 ⟨x5, ⟨rfl, hq0, hq1, _⟩, hR5, hg5, -⟩
          have hq2 := hq1 (by omega)
          have HO5 := Lib.hid (HO4.out.pick hR5 hg5)
          clear hq1 hR5 hg5 HO4
          go_wp2_with fail
          refine (pick_any n₀ B (N + 401 + 3 * k + 1 + 1) _ _ HO5.out.1 (by omega)).mono ?_
          rintro e w6 ⟨x6, ⟨rfl, hr0, hr1, _⟩, hR6, hg6, -⟩
          have hr2 := hr1 (by omega)
          have HO6 := Lib.hid (HO5.out.pick hR6 hg6)
          clear hr1 hR6 hg6 HO5
          obtain ⟨ys, hyl, hown⟩ := HO6.out.2.2.2
          have hsz6 := HO6.out.2.1.size
          go_wp2_with (at_builtin; refine wpList_append_own _ rfl _ _ 24 rfl w2.heap.size 3 i1 (.int .i64 0) 1 8 Try.underlying24 hj hy0 hy1 hy2 rfl (by decide) _ _ _ rfl (hown.alloc _) ⟨w6.heap.size, 0, none⟩ 1 1 _ rfl rfl (cell_one_new _ _ _) (by simp [Value.oneCell']) (by unfold maxLen; omega) (by omega) (by simp; omega) ?_; intro v' w7 hown' hgrow _; obtain ⟨g', cap', rfl⟩ := ownsRow_succ hown'; have HO7 := Lib.hid (HO6.out.appended hyl hown hown' hgrow); clear hown' hgrow hown)
          go_roundw
          case rel => exact ⟨k + 1, g', cap', by omega, by go_num, rfl, Lib.hid (HO7.out.more (by omega))⟩
          case measure => simp [intOf]; omega
      · obtain rfl : k = xss.length := by omega
        obtain ⟨ys, hyl, HI⟩ := HO.out.ints
        have HR9 := HO.out.1
        have HG9 := HO.out.2.1
        have HX9 := Lib.hid (HX2.out.erasedKept hR2 HG9 HG9.size)
        have HY9 := Lib.hid (HY2.out.erasedKept hR2 HG9 HG9.size)
        have HG8 := Lib.hid (grow_B HG2.out HG9 (fun r e => by cases e; exact .inr rfl))
        have HI9 := Lib.hid HI
        have HR8 := Lib.hid HR9
        clear HI HO HR9 HG9
        go_wp2_with fail
        go_ret3
        exact ⟨a1, c1, xss, a2, c2, yss, some ⟨g, 0, none⟩, cap, ys, by rw [hyl]; rfl, ⟨HF.out, HX9.out, hx4⟩, ⟨HF'.out, HY9.out, hy4⟩, ⟨by omega, HI9.out⟩, HR8.out.more (by omega), HG8.out⟩
  · have hlp : (0 : Int) < (ls.length : Int) := by omega
    go_wp2_with fail
    refine (pick_any n₀ B (N + 401) 3 w2 hR2 (by omega)).mono ?_
    rintro e w3 ⟨x, ⟨rfl, hx0, hx1, _⟩, hR3, hg3, -⟩
    have HX3 := Lib.hid (HX2.out.erasedKept hR2 hg3 hg3.size)
    have HY3 := Lib.hid (HY2.out.erasedKept hR2 hg3 hg3.size)
    have HL3 := Lib.hid (HL2.out.erasedKept hR2 hg3 hg3.size)
    have HG3 := Lib.hid (grow_B HG2.out hg3 (fun r e => by cases e; exact .inr rfl))
    have hB3' : B < w3.heap.size := hR3.lt
    clear hx1 hR2 hg3 HX2 HY2 HL2 HG2 hB2'
    by_cases hx : 0 < x
    · go_wp2_with fail
      have HR3 := Lib.hid hR3
      clear hR3
      obtain ⟨bL, oL, rfl, hbL, hcL⟩ := (HL3.out.laid HR3.out) (by intro e; rw [e] at hlp; simp at hlp)
      obtain ⟨V, hV⟩ : ∃ V : Nat → Value, ∀ q, q < ls.length → w3.cell? ⟨bL, oL + q, none⟩ = some (V q) := ⟨fun q => (w3.cell? ⟨bL, oL + q, none⟩).getD undef, fun q hq => by obtain ⟨_, _, h1, _⟩ := hcL q hq; show _ = some ((w3.cell? ⟨bL, oL + q, none⟩).getD undef); rw [h1]; rfl⟩
      have HVL := Lib.hid hcL
      clear hcL
      go_region_held3 (fun w' => ∀ q, q < ls.length → w'.cell? ⟨bL, oL + q, none⟩ = some (V q)) (first | exact hV | exact hV5)
        (first | (go_at_call 66; refine (pick_any n₀ B (N + 402) (ls.length : Int) _ (by exact HR3.out) (by omega)).mono ?_; rintro e w5 ⟨y, ⟨rfl, hy0', hy1', _⟩, hR5, hg4, -⟩; have hy2' := hy1' (by omega); obtain ⟨q, rfl⟩ : ∃ q : Nat, y = (q : Int) := ⟨y.toNat, by omega⟩; have hql : q < ls.length := (by omega); have hg5 : w3.grownBy w5 (some B) := ⟨hg4.os, hg4.tape, hg4.output, hg4.size, hg4.block⟩; have HX5 := Lib.hid (HX3.out.erasedKept HR3.out hg5 hg5.size); have HY5 := Lib.hid (HY3.out.erasedKept HR3.out hg5 hg5.size); have HG5 := Lib.hid (grow_B HG3.out hg5 (fun r e => by cases e; exact .inr rfl)); have HL5 := Lib.hid (HL3.out.erasedKept HR3.out hg5 hg5.size); have hV5 : ∀ q, q < ls.length → w5.cell? ⟨bL, oL + q, none⟩ = some (V q) := (fun q hq => ((HL3.out.same hg5 hR5 HR3.out q hq).trans (hV q hq))); have HR5 := Lib.hid hR5; clear hy1' hR5 hg5 hg4))
      obtain ⟨b5, o5, a5, c5, fs, e5, hb5, hc5, hI5, HI5⟩ := HL5.out.at_ hql
      cases e5
      have hc6 := (erased_sub (rd_block HR5.out).choose_spec.choose_spec.choose_spec (fun _ _ _ => rfl)) _ _ hc5
      have hfl : fs.length ≤ 1048576 := HLF.out.at_ HI5.out
      have hVq : V q = .slice a5 fs.length c5 := Option.some.inj ((hV5 q hql).symm.trans hc6)
      rw [hVq]
      have HI6 := Lib.hid hI5
      clear hI5
      go_wp2_with fail
      go_ret3
      exact ⟨a1, c1, xss, a2, c2, yss, a5, c5, fs, rfl, ⟨HF.out, HX5.out, hx4⟩, ⟨HF'.out, HY5.out, hy4⟩, ⟨hfl, HI6.out⟩, HR5.out.more (by omega), HG5.out⟩
    · have hxb : decide (x > 0) = false := by simp; omega
      clear HL3 HLF
      go_wp2_with fail
      have HI0 := Lib.hid (IOut.start hR3 hB3')
      have hsz : w3.heap.size ≤ (w3.alloc (.cells #[] 3)).heap.size := by simp
      go_loopw [8, 9] (fun v i wr => ∃ (k g cap : Nat), k ≤ xss.length ∧ i = .int .i64 k ∧ v = .slice (some ⟨g, 0, none⟩) k cap ∧ Hid (IOut n₀ B w3 wr (.slice (some ⟨g, 0, none⟩) k cap) k (N + 402 + 3 * k)))
        (fun _ i _ => xss.length - (intOf i).toNat)
      case atStart => exact ⟨0, _, _, Nat.zero_le _, rfl, rfl, HI0⟩
      case round =>
        obtain ⟨k, g, cap, hk, rfl, rfl, HO⟩ := hrel
        clear HI0
        by_cases hlt : k < xss.length
        · go_wp2_with fail
          all_goals
            refine (pick_any n₀ B (N + 402 + 3 * k) _ _ HO.out.1 (by omega)).mono ?_
            rintro e w4 ⟨x4, ⟨rfl, hp0, hp1, _⟩, hR4, hg4, -⟩
            have HO4 := Lib.hid (HO.out.pick hR4 hg4)
            clear hp1 hR4 hg4 HO
            go_wp2_with fail
            refine (pick_any n₀ B (N + 402 + 3 * k + 1) _ _ HO4.out.1 (by omega)).mono ?_
            rintro e w5 ⟨x5, ⟨rfl, hq0, hq1, _⟩, hR5, hg5, -⟩
            have hq2 := hq1 (by omega)
            have HO5 := Lib.hid (HO4.out.pick hR5 hg5)
            clear hq1 hR5 hg5 HO4
            go_wp2_with fail
            refine (pick_any n₀ B (N + 402 + 3 * k + 1 + 1) _ _ HO5.out.1 (by omega)).mono ?_
            rintro e w6 ⟨x6, ⟨rfl, hr0, hr1, _⟩, hR6, hg6, -⟩
            have hr2 := hr1 (by omega)
            have HO6 := Lib.hid (HO5.out.pick hR6 hg6)
            clear hr1 hR6 hg6 HO5
            obtain ⟨ys, hyl, hown⟩ := HO6.out.2.2.2
            have hsz6 := HO6.out.2.1.size
            go_wp2_with (at_builtin; refine wpList_append_own _ rfl _ _ 24 rfl w3.heap.size 3 i1 (.int .i64 0) 1 8 Try.underlying24 hj hy0 hy1 hy2 rfl (by decide) _ _ _ rfl (hown.alloc _) ⟨w6.heap.size, 0, none⟩ 1 1 _ rfl rfl (cell_one_new _ _ _) (by simp [Value.oneCell']) (by unfold maxLen; omega) (by omega) (by simp; omega) ?_; intro v' w7 hown' hgrow _; obtain ⟨g', cap', rfl⟩ := ownsRow_succ hown'; have HO7 := Lib.hid (HO6.out.appended hyl hown hown' hgrow); clear hown' hgrow hown)
            go_roundw
            case rel => exact ⟨k + 1, g', cap', by omega, by go_num, rfl, Lib.hid (HO7.out.more (by omega))⟩
            case measure => simp [intOf]; omega
        · obtain rfl : k = xss.length := by omega
          obtain ⟨ys, hyl, HI⟩ := HO.out.ints
          have HR9 := HO.out.1
          have HG9 := HO.out.2.1
          have HX9 := Lib.hid (HX3.out.erasedKept hR3 HG9 HG9.size)
          have HY9 := Lib.hid (HY3.out.erasedKept hR3 HG9 HG9.size)
          have HG8 := Lib.hid (grow_B HG3.out HG9 (fun r e => by cases e; exact .inr rfl))
          have HI9 := Lib.hid HI
          have HR8 := Lib.hid HR9
          clear HI HO HR9 HG9
          go_wp2_with fail
          go_ret3
          exact ⟨a1, c1, xss, a2, c2, yss, some ⟨g, 0, none⟩, cap, ys, by rw [hyl]; rfl, ⟨HF.out, HX9.out, hx4⟩, ⟨HF'.out, HY9.out, hy4⟩, ⟨by omega, HI9.out⟩, HR8.out.more (by omega), HG8.out⟩

end Go.Proofs.Ytldkgkpiceamhaa

namespace Go.Proofs.Ytldkgkpiceamhaa
open Go.RowKit Go.Shelf

/-- TWO GRAPHS OF AT MOST FOUR NODES, or what are none, ARE DRAWN. -/
def DrawnP4 (w : World) (e : Ending) (w' : World) : Prop :=
  ∃ (a : Option Addr) (c : Nat) (xss : List (List Int)) (a' : Option Addr) (c' : Nat) (yss : List (List Int)), e = .returned (.tuple #[.slice a xss.length c, .slice a' yss.length c']) ∧ (Fit xss ∧ Mat w'.heap.size w' a xss ∧ xss.length ≤ 4) ∧ (Fit yss ∧ Mat w'.heap.size w' a' yss ∧ yss.length ≤ 4) ∧ Below w.heap.size w w'

end Go.Proofs.Ytldkgkpiceamhaa

namespace Go.Proofs.Ytldkgkpiceamhaa
open Go.RowKit Go.Shelf Go.Deep

theorem results_tmp5 {fn : Func} {t u v x y : Tmp} (h : fn.results = #[.tmp t, .tmp u, .tmp v, .tmp x, .tmp y]) (tmps : Array Value) (P : Program) (w : World) :
    (results fn tmps).run P w = .ok (.tuple #[tmps.getD t undef, tmps.getD u undef, tmps.getD v undef, tmps.getD x undef, tmps.getD y undef]) w := by
  simp [results, h]

/-- THREE GRAPHS, or what are none, AND TWO ROWS ARE DRAWN. -/
def DrawnB5 (w : World) (e : Ending) (w' : World) : Prop :=
  ∃ (a : Option Addr) (c : Nat) (xss : List (List Int)) (a' : Option Addr) (c' : Nat) (yss : List (List Int)) (a'' : Option Addr) (c'' : Nat) (kss : List (List Int)) (a3 : Option Addr) (c3 : Nat) (f : List Int) (a4 : Option Addr) (c4 : Nat) (h : List Int),
    e = .returned (.tuple #[.slice a xss.length c, .slice a' yss.length c', .slice a'' kss.length c'', .slice a3 f.length c3, .slice a4 h.length c4]) ∧
    (Fit xss ∧ Mat w'.heap.size w' a xss) ∧ (Fit yss ∧ Mat w'.heap.size w' a' yss) ∧ (Fit kss ∧ Mat w'.heap.size w' a'' kss) ∧ (f.length ≤ 1048576 ∧ Ints w'.heap.size w' a3 f) ∧ (h.length ≤ 1048576 ∧ Ints w'.heap.size w' a4 h) ∧ Below w.heap.size w w'

end Go.Proofs.Ytldkgkpiceamhaa
