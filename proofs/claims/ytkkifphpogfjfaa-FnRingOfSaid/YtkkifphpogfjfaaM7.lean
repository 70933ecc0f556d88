/-
  impl.CountOf, impl.BelowOk, impl.SameLevel.
-/
import Derived.Test.YtkkifphpogfjfaaZM
import Derived.Test.YtkkifphpogfjfaaM6b
namespace Go.Proofs.Ytkkifphpogfjfaa
open Go.RowKit Go.Shelf Go.Deep

attribute [local go_sem] Oper.semAt_some

theorem few_maps {G H : List (List Int)} (h : fewI G H = true) : (mapsFrom G H G.length []).length ≤ 7000 := by rw [← mapsL_yes h]; exact mapsL_le G H

set_option maxRecDepth 100000 in
set_option maxHeartbeats 4000000 in
theorem implCount (a : Option Addr) (c : Nat) (a' : Option Addr) (c' : Nat) (G H : List (List Int)) (w : World) (hM : Mat w.heap.size w a G) (hM' : Mat w.heap.size w a' H) (hf : Fit G) (hf' : Fit H) :
    Calls Try.prog 67 #[.slice a G.length c, .slice a' H.length c'] w (Ans (.int .i64 (countI G H)) w) := by
  have h1 : Fence.wide.fn 69 := trivial
  have h2 : Fence.wide.fn 70 := trivial
  have hdd : ∀ k : Nat, (Fence.wide.depth.isSome = true → 1 ≤ k) := fun k h => by cases h
  have es : ∀ (W : World) (o : Obj), (W.alloc o).heap.size = W.heap.size + 1 := fun W o => by simp
  have hFew := implFew a c a' c' G H w hM hM' hf hf'
  obtain ⟨z, HZ⟩ : ∃ z, Hid (countI G H = z) := ⟨_, rfl⟩
  rw [HZ.out]
  refine (callsIn_wide (n := 20)).1 ?_
  by_cases hg : fewI G H = true
  · rw [hg] at hFew
    have HFew := Lib.hid hFew
    have HG := Lib.hid (good_of (fewI_iff.1 hg).1)
    have HH := Lib.hid (good_of (fewI_iff.1 hg).2.1)
    have HN := Lib.hid (few_maps hg)
    have HZ2 : Hid (z = ((mapsFrom G H G.length []).length : Int)) := Lib.hid (by rw [← HZ.out, countI_yes hg, mapsL_yes hg])
    clear hFew hf hf' hg
    refine callsIn_of_wp_marks Try.func67 rfl trivial ?_ rfl
    simp only [Try.ntmps67, List.size_toArray, List.length_cons, List.length_nil, Nat.reduceAdd, Nat.reduceSub, Array.replicate_succ, Array.replicate_zero, List.push_toArray, List.append_toArray, List.nil_append, List.cons_append]
    gi_wp2_with (first | ((try refine ⟨hdd _, ?_⟩); gi_at_call 69; refine (callsIn_wide.2 HFew.out).mono ?_; rintro e w1 ⟨rfl, hB1⟩) | ((try refine ⟨hdd _, ?_⟩); gi_at_call 70; refine (mapsTo_in _ _ _ _ _ _ _ _).mono ?_; rintro e w' ⟨rfl, rfl⟩))
    have bC := ((Boxed.new w1 3 (.int .i64 0)).alloc (.cells #[.slice a G.length c] 59)).alloc (.cells #[.slice a' H.length c'] 59)
    have bG := (Boxed.new (w1.alloc (.cells #[.int .i64 0] 3)) 59 (.slice a G.length c)).alloc (.cells #[.slice a' H.length c'] 59)
    have bH := Boxed.new ((w1.alloc (.cells #[.int .i64 0] 3)).alloc (.cells #[.slice a G.length c] 59)) 59 (.slice a' H.length c')
    rw [es] at bG
    rw [es, es] at bH
    have hB2 := ((hB1.alloc hB1.size (.cells #[.int .i64 0] 3)).alloc (by simp; have := hB1.size; omega) (.cells #[.slice a G.length c] 59)).alloc (by simp; have := hB1.size; omega) (.cells #[.slice a' H.length c'] 59)
    have hws := hB1.size
    have hsz : (((w1.alloc (.cells #[.int .i64 0] 3)).alloc (.cells #[.slice a G.length c] 59)).alloc (.cells #[.slice a' H.length c'] 59)).heap.size = w1.heap.size + 3 := by simp
    obtain ⟨V, hV⟩ : ∃ V, ((w1.alloc (.cells #[.int .i64 0] 3)).alloc (.cells #[.slice a G.length c] 59)).alloc (.cells #[.slice a' H.length c'] 59) = V := ⟨_, rfl⟩
    rw [hV] at bC bG bH hB2 hsz ⊢
    have hMV := hM.below hB2
    have hMV' := hM'.below hB2
    clear hV hB1 hM hM'
    have hseq := mapsTo_Y w.heap.size (V.heap.size + 2) (w1.heap.size + 1) a a' c c' G H HG.out HH.out (fun B => B = w1.heap.size) V bG bH hMV hMV' (fun B s => by omega) (by omega) (by omega)
    refine range_lawY rfl rfl (fun _ => trivial) (gf := 88) (lb := #[.pointer (some ⟨w1.heap.size + 1, 0, none⟩), .pointer (some ⟨w1.heap.size + 1 + 1, 0, none⟩)]) rfl (enters_of Try.func88 (by kernel_rfl) rfl)
      hseq (.inr (by omega)) (OwnFrom.and (ownFrom_pure _ _) (Own.from (hold_own _ _ _) _)) (fun h k => KeepC.trans h k) (fun W' o o' h hc => KeepC.putObj _ (by omega) W' o o' h hc) (Below.refl _ _) (fun _ => rfl)
      (fun pre W' => Boxed W' w1.heap.size 3 (.int .i64 (pre.length : Int)) ∧ Below w.heap.size w W')
      (fun _ _ _ => False)
      ⟨OwnFrom.and (Own.from (boxed_own _ _ _) _) (ownFrom_below (Nat.le_refl _) (by omega)), fun s A C hs hgr _ => ⟨hs.1.kept hgr (fun e => by have e' := Option.some.inj e; omega), hs.2.grown hgr hs.2.size (fun r e => by cases e; omega)⟩⟩
      (fun _ => ⟨fun _ _ _ _ hs _ _ => hs, fun _ _ _ hs _ _ => hs⟩)
      ⟨bC, hB2⟩ ?a1 ?assign ?body ?done ?stop
    case assign =>
      intro l2 x W' K hK
      gi_wp2
      exact hK
    case body =>
      rintro l2 pre x W' ⟨bC', hB'⟩ hsp _
      have cC := bC'.cell
      have fC := bC'.frozen
      have hlen2 : pre.length ≤ 7000 := by
        have h := hsp.length_le
        have := HN.out
        rw [List.length_append, List.length_singleton] at h
        omega
      clear hsp hseq
      gi_wp2
      refine ⟨(KeepsOthers.setCell _ _ _).from _, KeepC.setCell (S := fun B => B = w1.heap.size) _ W' rfl 0 _, ?_, hB'.setCell (p := ⟨w1.heap.size, 0, none⟩) hws _⟩
      have hb := bC'.set (.int .i64 ((pre.length : Int) + 1))
      rw [List.length_append, List.length_singleton]
      exact hb
    case done =>
      rintro D ys W' hD rfl ⟨bC', hB'⟩ hK
      have cC := bC'.cell
      clear hseq
      gi_wp2
      refine ⟨by simp, .inl ⟨_, _, rfl, run_takeDeferred hK, ?_⟩⟩
      refine ⟨_, results_tmp rfl _ _ _, ?_, hB'.trans (belowK_b (w := w) (Nat.le_refl _) W' D _ _ (by omega) hK rfl rfl)⟩
      rw [HZ2.out]
      rfl
    case stop =>
      rintro D c' pre W' _ _ hx _
      exact hx.elim
  · have hg' : fewI G H = false := by simpa using hg
    rw [hg'] at hFew
    have HFew := Lib.hid hFew
    have HZ2 : Hid (z = -1) := Lib.hid (by rw [← HZ.out, countI_no hg'])
    clear hFew hg hM hM' hf hf' hg'
    refine callsIn_of_wp_marks Try.func67 rfl trivial ?_ rfl
    simp only [Try.ntmps67, List.size_toArray, List.length_cons, List.length_nil, Nat.reduceAdd, Nat.reduceSub, Array.replicate_succ, Array.replicate_zero, List.push_toArray, List.append_toArray, List.nil_append, List.cons_append]
    gi_wp2_with ((try refine ⟨hdd _, ?_⟩); gi_at_call 69; refine (callsIn_wide.2 HFew.out).mono ?_; rintro e w1 ⟨rfl, hB1⟩)
    refine ⟨_, results_tmp rfl _ _ _, ?_, hB1⟩
    rw [HZ2.out]
    rfl

set_option maxRecDepth 100000 in
set_option maxHeartbeats 4000000 in
theorem implBelow (a : Option Addr) (c : Nat) (a' : Option Addr) (c' : Nat) (G H : List (List Int)) (w : World) (hM : Mat w.heap.size w a G) (hM' : Mat w.heap.size w a' H) (hf : Fit G) (hf' : Fit H) :
    Calls Try.prog 29 #[.slice a G.length c, .slice a' H.length c'] w (Ans (.bool (belowI G H)) w) := by
  have h1 : Fence.wide.fn 69 := trivial
  have h2 : Fence.wide.fn 70 := trivial
  have hdd : ∀ k : Nat, (Fence.wide.depth.isSome = true → 1 ≤ k) := fun k h => by cases h
  have es : ∀ (W : World) (o : Obj), (W.alloc o).heap.size = W.heap.size + 1 := fun W o => by simp
  have hB00 : Below w.heap.size w (w.alloc (.cells #[.bool false] 4)) := (Below.refl _ _).alloc (Nat.le_refl _) _
  have hFew := implFew a c a' c' G H (w.alloc (.cells #[.bool false] 4)) ((hM.below hB00).more hB00.size) ((hM'.below hB00).more hB00.size) hf hf'
  obtain ⟨z, HZ⟩ : ∃ z, Hid (belowI G H = z) := ⟨_, rfl⟩
  rw [HZ.out]
  refine (callsIn_wide (n := 20)).1 ?_
  by_cases hg : fewI G H = true
  · rw [hg] at hFew
    have HFew := Lib.hid hFew
    have HG := Lib.hid (good_of (fewI_iff.1 hg).1)
    have HH := Lib.hid (good_of (fewI_iff.1 hg).2.1)
    have HN := Lib.hid (few_maps hg)
    have HZ2 : Hid (z = decide (0 < (mapsFrom G H G.length []).length)) := Lib.hid (by rw [← HZ.out]; unfold belowI; rw [mapsL_yes hg])
    clear hFew hf hf' hg
    refine callsIn_of_wp_marks Try.func29 rfl trivial ?_ rfl
    simp only [Try.ntmps29, List.size_toArray, List.length_cons, List.length_nil, Nat.reduceAdd, Nat.reduceSub, Array.replicate_succ, Array.replicate_zero, List.push_toArray, List.append_toArray, List.nil_append, List.cons_append]
    have hFewR : Calls Try.prog 69 #[.slice a G.length c, .slice a' H.length c'] (w.alloc (.cells #[.bool false] 4)) (Ans (.bool true) (w.alloc (.cells #[.bool false] 4))) := HFew.out
    have HFR := Lib.hid hFewR
    clear hFewR
    gi_wp2_with (first | ((try refine ⟨hdd _, ?_⟩); gi_at_call 69; refine (callsIn_wide.2 HFR.out).mono ?_; rintro e w1 ⟨rfl, hB1⟩) | ((try refine ⟨hdd _, ?_⟩); gi_at_call 70; refine (mapsTo_in _ _ _ _ _ _ _ _).mono ?_; rintro e w' ⟨rfl, rfl⟩))
    have bR0 : Boxed w1 w.heap.size 4 (.bool false) := (hB1.block _ (by simp)).trans (Boxed.new w 4 (.bool false))
    have hB0 : Below w.heap.size w w1 := ((Below.refl w.heap.size w).alloc (Nat.le_refl _) (.cells #[.bool false] 4)).trans (hB1.mono (by simp))
    have bC := (bR0.alloc (.cells #[.slice a G.length c] 59)).alloc (.cells #[.slice a' H.length c'] 59)
    have bG := (Boxed.new w1 59 (.slice a G.length c)).alloc (.cells #[.slice a' H.length c'] 59)
    have bH := Boxed.new (w1.alloc (.cells #[.slice a G.length c] 59)) 59 (.slice a' H.length c')
    rw [es] at bH
    have hB2 := (hB0.alloc hB0.size (.cells #[.slice a G.length c] 59)).alloc (by simp; have := hB0.size; omega) (.cells #[.slice a' H.length c'] 59)
    have hws : w.heap.size < w1.heap.size := bR0.lt
    have hsz : ((w1.alloc (.cells #[.slice a G.length c] 59)).alloc (.cells #[.slice a' H.length c'] 59)).heap.size = w1.heap.size + 2 := by simp
    obtain ⟨V, hV⟩ : ∃ V, (w1.alloc (.cells #[.slice a G.length c] 59)).alloc (.cells #[.slice a' H.length c'] 59) = V := ⟨_, rfl⟩
    rw [hV] at bC bG bH hB2 hsz ⊢
    have hMV := hM.below hB2
    have hMV' := hM'.below hB2
    clear hV hB1 hM hM' bR0 hB0
    have hseq := mapsTo_Y w.heap.size (V.heap.size + 2) w1.heap.size a a' c c' G H HG.out HH.out (fun B => B = w.heap.size) V bG bH hMV hMV' (fun B s => by omega) (by omega) (by omega)
    refine range_lawY rfl rfl (fun _ => trivial) (gf := 88) (lb := #[.pointer (some ⟨w1.heap.size, 0, none⟩), .pointer (some ⟨w1.heap.size + 1, 0, none⟩)]) rfl (enters_of Try.func88 (by kernel_rfl) rfl)
      hseq (.inr (by omega)) (OwnFrom.and (ownFrom_pure _ _) (Own.from (hold_own _ _ _) _)) (fun h k => KeepC.trans h k) (fun W' o o' h hc => KeepC.putObj _ (by omega) W' o o' h hc) (Below.refl _ _) (fun _ => rfl)
      (fun pre W' => (Hid (pre = []) ∧ Boxed W' w.heap.size 4 (.bool false)) ∧ Below w.heap.size w W')
      (fun c₁ pre W' => ((c₁ = .ret ∧ Hid (pre ≠ [])) ∧ Boxed W' w.heap.size 4 (.bool true)) ∧ Below w.heap.size w W')
      ⟨OwnFrom.and (OwnFrom.and (ownFrom_pure _ _) (Own.from (boxed_own _ _ _) _)) (ownFrom_below (Nat.le_refl _) (by omega)), fun s A C hs hgr _ => ⟨⟨hs.1.1, hs.1.2.kept hgr (fun e => by have e' := Option.some.inj e; omega)⟩, hs.2.grown hgr hs.2.size (fun r e => by cases e; omega)⟩⟩
      (fun _ => ⟨OwnFrom.and (OwnFrom.and (ownFrom_pure _ _) (Own.from (boxed_own _ _ _) _)) (ownFrom_below (Nat.le_refl _) (by omega)), fun s A C hs hgr _ => ⟨⟨hs.1.1, hs.1.2.kept hgr (fun e => by have e' := Option.some.inj e; omega)⟩, hs.2.grown hgr hs.2.size (fun r e => by cases e; omega)⟩⟩)
      ⟨⟨rfl, bC⟩, hB2⟩ ?a1 ?assign ?body ?done ?stop
    case assign =>
      intro l2 x W' K hK
      gi_wp2
      exact hK
    case body =>
      rintro l2 pre x W' ⟨⟨_, bC'⟩, hB'⟩ _ _
      have cC := bC'.cell
      have fC := bC'.frozen
      clear hseq
      gi_wp2
      exact ⟨(KeepsOthers.setCell _ _ _).from _, ⟨⟨rfl, by simp [Hid]⟩, bC'.set _⟩, hB'.setCell (p := ⟨w.heap.size, 0, none⟩) (Nat.le_refl _) _⟩
    case done =>
      rintro D ys W' hD rfl ⟨⟨hnil, bC'⟩, hB'⟩ hK
      have cC := bC'.cell
      have fC := bC'.frozen
      have HNil := Lib.hid hnil.out
      clear hseq hnil
      gi_wp2
      have hK' := (KeepsOthers.setCell W' ⟨w.heap.size, 0, none⟩ (.bool false)).same D _ hK rfl
      refine ⟨by simp, .inl ⟨_, _, rfl, run_takeDeferred hK', ?_⟩⟩
      have hc5 := cell_kept (bC'.set (.bool false)).cell (grownBy_putObj' _ D (.deferred none)) (fun r e => by cases e; exact ⟨_, hK', rfl⟩)
      refine ⟨.bool false, ?_, ret_bool (by rw [HZ2.out, HNil.out]; rfl), (hB'.setCell (p := ⟨w.heap.size, 0, none⟩) (Nat.le_refl _) _).trans (belowK_b (w := w) (Nat.le_refl _) _ D _ _ (by omega) hK' rfl rfl)⟩
      simp [results, Try.f29, go_sem, hc5]
    case stop =>
      rintro D c₁ pre W' hD hpre ⟨⟨⟨rfl, hne⟩, bC'⟩, hB'⟩ hK
      clear hseq
      gi_wp2
      refine ⟨by simp, .inl ⟨_, _, rfl, run_takeDeferred hK, ?_⟩⟩
      have hc5 := cell_kept bC'.cell (grownBy_putObj' _ D (.deferred none)) (fun r e => by cases e; exact ⟨_, hK, rfl⟩)
      have hpos : 0 < (mapsFrom G H G.length []).length := by
        have h1 := hpre.length_le
        have h2 : 0 < pre.length := List.length_pos_iff.2 hne.out
        omega
      refine ⟨.bool true, ?_, ret_bool (by rw [HZ2.out]; exact (decide_eq_true hpos).symm), hB'.trans (belowK_b (w := w) (Nat.le_refl _) W' D _ _ (by omega) hK rfl rfl)⟩
      simp [results, Try.f29, go_sem, hc5]
  · have hg' : fewI G H = false := by simpa using hg
    rw [hg'] at hFew
    have HFew := Lib.hid hFew
    have HZ2 : Hid (z = false) := Lib.hid (by rw [← HZ.out]; unfold belowI; rw [mapsL_no hg']; rfl)
    clear hFew hg hM hM' hf hf' hg'
    refine callsIn_of_wp_marks Try.func29 rfl trivial ?_ rfl
    simp only [Try.ntmps29, List.size_toArray, List.length_cons, List.length_nil, Nat.reduceAdd, Nat.reduceSub, Array.replicate_succ, Array.replicate_zero, List.push_toArray, List.append_toArray, List.nil_append, List.cons_append]
    gi_wp2_with ((try refine ⟨hdd _, ?_⟩); gi_at_call 69; refine (callsIn_wide.2 HFew.out).mono ?_; rintro e w1 ⟨rfl, hB1⟩; have bR0 : Boxed w1 w.heap.size 4 (.bool false) := (hB1.block _ (by simp)).trans (Boxed.new w 4 (.bool false)); have cR := bR0.cell; have fR := bR0.frozen)
    have hB0 : Below w.heap.size w w1 := hB00.trans (hB1.mono (by simp))
    have hc5 := (bR0.set (.bool false)).cell
    refine ⟨.bool false, by simp [results, Try.f29, go_sem, hc5], ret_bool HZ2.out.symm, hB0.setCell (p := ⟨w.heap.size, 0, none⟩) (Nat.le_refl _) _⟩

/-- ARE BOTH BELOW EACH OTHER? -/
def levelI (G H : List (List Int)) : Bool := belowI G H && belowI H G
end Go.Proofs.Ytkkifphpogfjfaa
