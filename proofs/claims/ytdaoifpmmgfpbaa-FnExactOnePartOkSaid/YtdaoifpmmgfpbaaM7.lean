/-
  impl.CountOf, impl.BelowOk, impl.SameLevel.
-/
import Derived.Test.YtdaoifpmmgfpbaaZM
import Derived.Test.YtdaoifpmmgfpbaaM6b
namespace Go.Proofs.Ytdaoifpmmgfpbaa
open Go.RowKit Go.Shelf Go.Deep

attribute [local go_sem] Oper.semAt_some

theorem few_maps {G H : List (List Int)} (h : fewI G H = true) : (mapsFrom G H G.length []).length ≤ 7000 := by rw [← mapsL_yes h]; exact mapsL_le G H

set_option maxRecDepth 100000 in
set_option maxHeartbeats 4000000 in
theorem implCount (a : Option Addr) (c : Nat) (a' : Option Addr) (c' : Nat) (G H : List (List Int)) (w : World) (hM : Mat w.heap.size w a G) (hM' : Mat w.heap.size w a' H) (hf : Fit G) (hf' : Fit H) :
    Calls Try.prog 39 #[.slice a G.length c, .slice a' H.length c'] w (Ans (.int .i64 (countI G H)) w) := by
  have h1 : Fence.wide.fn 72 := trivial
  have h2 : Fence.wide.fn 73 := trivial
  have hdd : ∀ k : Nat, (Fence.wide.depth.isSome = true → 1 ≤ k) := fun k h => by cases h
  have es : ∀ (W : World) (o : Obj), (W.alloc o).heap.size = W.heap.size + 1 := fun W o => by simp
  have hFew := implFew a c a' c' G H w hM hM' hf hf'
  obtain ⟨z, HZ⟩ : ∃ z, Hid (countI G H = z) := ⟨_, rfl⟩
  rw [HZ.out]
  refine (callsIn_wide (n := 20)).1 ?_
  by_cases hg : fewI G H = true
  · rw [hg] at hFew
    have HFew := Lib.hid hFew
    have HG := Lib.hid (good_of (fewI_iff.1 hg).1)
    have HH := Lib.hid (good_of (fewI_iff.1 hg).2.1)
    have HN := Lib.hid (few_maps hg)
    have HZ2 : Hid (z = ((mapsFrom G H G.length []).length : Int)) := Lib.hid (by rw [← HZ.out, countI_yes hg, mapsL_yes hg])
    clear hFew hf hf' hg
    refine callsIn_of_wp_marks Try.func39 rfl trivial ?_ rfl
    simp only [Try.ntmps39, List.size_toArray, List.length_cons, List.length_nil, Nat.reduceAdd, Nat.reduceSub, Array.replicate_succ, Array.replicate_zero, List.push_toArray, List.append_toArray, List.nil_append, List.cons_append]
    gi_wp2_with (first | ((try refine ⟨hdd _, ?_⟩); gi_at_call 72; refine (callsIn_wide.2 HFew.out).mono ?_; rintro e w1 ⟨rfl, hB1⟩) | ((try refine ⟨hdd _, ?_⟩); gi_at_call 73; refine (mapsTo_in _ _ _ _ _ _ _ _).mono ?_; rintro e w' ⟨rfl, rfl⟩))
    have bC := ((Boxed.new w1 3 (.int .i64 0)).alloc (.cells #[.slice a G.length c] 54)).alloc (.cells #[.slice a' H.length c'] 54)
    have bG := (Boxed.new (w1.alloc (.cells #[.int .i64 0] 3)) 54 (.slice a G.length c)).alloc (.cells #[.slice a' H.length c'] 54)
    have bH := Boxed.new ((w1.alloc (.cells #[.int .i64 0] 3)).alloc (.cells #[.slice a G.length c] 54)) 54 (.slice a' H.length c')
    rw [es] at bG
    rw [es, es] at bH
    have hB2 := ((hB1.alloc hB1.size (.cells #[.int .i64 0] 3)).alloc (by simp; have := hB1.size; omega) (.cells #[.slice a G.length c] 54)).alloc (by simp; have := hB1.size; omega) (.cells #[.slice a' H.length c'] 54)
    have hws := hB1.size
    have hsz : (((w1.alloc (.cells #[.int .i64 0] 3)).alloc (.cells #[.slice a G.length c] 54)).alloc (.cells #[.slice a' H.length c'] 54)).heap.size = w1.heap.size + 3 := by simp
    obtain ⟨V, hV⟩ : ∃ V, ((w1.alloc (.cells #[.int .i64 0] 3)).alloc (.cells #[.slice a G.length c] 54)).alloc (.cells #[.slice a' H.length c'] 54) = V := ⟨_, rfl⟩
    rw [hV] at bC bG bH hB2 hsz ⊢
    have hMV := hM.below hB2
    have hMV' := hM'.below hB2
    clear hV hB1 hM hM'
    have hseq := mapsTo_Y w.heap.size (V.heap.size + 2) (w1.heap.size + 1) a a' c c' G H HG.out HH.out (fun B => B = w1.heap.size) V bG bH hMV hMV' (fun B s => by omega) (by omega) (by omega)
    refine range_lawY rfl rfl (fun _ => trivial) (gf := 93) (lb := #[.pointer (some ⟨w1.heap.size + 1, 0, none⟩), .pointer (some ⟨w1.heap.size + 1 + 1, 0, none⟩)]) rfl (enters_of Try.func93 (by kernel_rfl) rfl)
      hseq (.inr (by omega)) (OwnFrom.and (ownFrom_pure _ _) (Own.from (hold_own _ _ _) _)) (fun h k => KeepC.trans h k) (fun W' o o' h hc => KeepC.putObj _ (by omega) W' o o' h hc) (Below.refl _ _) (fun _ => rfl)
      (fun pre W' => Boxed W' w1.heap.size 3 (.int .i64 (pre.length : Int)) ∧ Below w.heap.size w W')
      (fun _ _ _ => False)
      ⟨OwnFrom.and (Own.from (boxed_own _ _ _) _) (ownFrom_below (Nat.le_refl _) (by omega)), fun s A C hs hgr _ => ⟨hs.1.kept hgr (fun e => by have e' := Option.some.inj e; omega), hs.2.grown hgr hs.2.size (fun r e => by cases e; omega)⟩⟩
      (fun _ => ⟨fun _ _ _ _ hs _ _ => hs, fun _ _ _ hs _ _ => hs⟩)
      ⟨bC, hB2⟩ ?a1 ?assign ?body ?done ?stop
    case assign =>
      intro l2 x W' K hK
      gi_wp2
      exact hK
    case body =>
      rintro l2 pre x W' ⟨bC', hB'⟩ hsp _
      have cC := bC'.cell
      have fC := bC'.frozen
      have hlen2 : pre.length ≤ 7000 := by
        have h := hsp.length_le
        have := HN.out
        rw [List.length_append, List.length_singleton] at h
        omega
      clear hsp hseq
      gi_wp2
      refine ⟨(KeepsOthers.setCell _ _ _).from _, KeepC.setCell (S := fun B => B = w1.heap.size) _ W' rfl 0 _, ?_, hB'.setCell (p := ⟨w1.heap.size, 0, none⟩) hws _⟩
      have hb := bC'.set (.int .i64 ((pre.length : Int) + 1))
      rw [List.length_append, List.length_singleton]
      exact hb
    case done =>
      rintro D ys W' hD rfl ⟨bC', hB'⟩ hK
      have cC := bC'.cell
      clear hseq
      gi_wp2
      refine ⟨by simp, .inl ⟨_, _, rfl, run_takeDeferred hK, ?_⟩⟩
      refine ⟨_, results_tmp rfl _ _ _, ?_, hB'.trans (belowK_b (w := w) (Nat.le_refl _) W' D _ _ (by omega) hK rfl rfl)⟩
      rw [HZ2.out]
      rfl
    case stop =>
      rintro D c' pre W' _ _ hx _
      exact hx.elim
  · have hg' : fewI G H = false := by simpa using hg
    rw [hg'] at hFew
    have HFew := Lib.hid hFew
    have HZ2 : Hid (z = -1) := Lib.hid (by rw [← HZ.out, countI_no hg'])
    clear hFew hg hM hM' hf hf' hg'
    refine callsIn_of_wp_marks Try.func39 rfl trivial ?_ rfl
    simp only [Try.ntmps39, List.size_toArray, List.length_cons, List.length_nil, Nat.reduceAdd, Nat.reduceSub, Array.replicate_succ, Array.replicate_zero, List.push_toArray, List.append_toArray, List.nil_append, List.cons_append]
    gi_wp2_with ((try refine ⟨hdd _, ?_⟩); gi_at_call 72; refine (callsIn_wide.2 HFew.out).mono ?_; rintro e w1 ⟨rfl, hB1⟩)
    refine ⟨_, results_tmp rfl _ _ _, ?_, hB1⟩
    rw [HZ2.out]
    rfl

/-- ARE BOTH BELOW EACH OTHER? -/
def levelI (G H : List (List Int)) : Bool := belowI G H && belowI H G
end Go.Proofs.Ytdaoifpmmgfpbaa
