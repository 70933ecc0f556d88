/-
  impl.MapOk: a row leads arrows to arrows.
-/
import Derived.Test.YtmohmecdhabapabM3
import Derived.Test.YtmohmecdhabapabM0
namespace Go.Proofs.Ytmohmecdhabapab
open Go.RowKit Go.Shelf Go.Deep

attribute [local go_sem] Oper.semAt_some

set_option maxRecDepth 100000 in
set_option maxHeartbeats 4000000 in
theorem leadsAll_in (n₀ : Nat) (a a' a'' : Option Addr) (c c' c'' : Nat) (G H : List (List Int)) (f : List Int) (w : World) (hM : Mat n₀ w a G) (hM' : Mat n₀ w a' H) (hI : Ints n₀ w a'' f) (hn : n₀ ≤ w.heap.size) (hG : Good G) (hG' : Good H) (hT : Tells G.length H.length f) :
    CallsIn Fence.wide 20 Try.prog 44 #[.agg #[.slice a G.length c], .agg #[.slice a' H.length c'], .slice a'' f.length c''] w (Ans (.bool (leadsI G H f)) w) := by
  have hdd : ∀ k : Nat, (Fence.wide.depth.isSome = true → 1 ≤ k) := fun k h => by cases h
  have hl9 := hG.2.1
  have hl9' := hG'.2.1
  have hfl : f.length ≤ 9 := by rw [hT.1]; exact hl9
  have HFL := Lib.hid hT.1
  have h3 : Fence.wide.fn 54 := trivial
  have h4 : Fence.wide.fn 48 := trivial
  have HT := Lib.hid hT
  have HG := Lib.hid hG
  have HG' := Lib.hid hG'
  obtain ⟨z, HZ⟩ : ∃ z, Hid (leadsI G H f = z) := ⟨_, rfl⟩
  rw [HZ.out]
  clear hT hG hG'
  have es : ∀ (W : World) (o : Obj), (W.alloc o).heap.size = W.heap.size + 1 := fun W o => by simp
  refine callsIn_of_wp_marks Try.func44 rfl trivial ?_ rfl
  simp only [Try.ntmps44, List.size_toArray, List.length_cons, List.length_nil, Nat.reduceAdd, Nat.reduceSub, Array.replicate_succ, Array.replicate_zero, List.push_toArray, List.append_toArray, List.nil_append, List.cons_append]
  gi_wp2_with ((try refine ⟨hdd _, ?_⟩); gi_at_call 54; refine (arrows_in Fence.wide _ (fun _ => trivial) rfl _ _ _ _).mono ?_; rintro e w' ⟨rfl, rfl⟩)
  have bH := ((((Boxed.new (w.alloc (.cells #[.slice a G.length c] 51)) 51 (.slice a' H.length c')).alloc (.cells #[.slice a'' f.length c''] 29)).alloc (.cells #[.bool false] 4)).alloc (.cells #[.slice a G.length c] 51))
  have bF := ((Boxed.new ((w.alloc (.cells #[.slice a G.length c] 51)).alloc (.cells #[.slice a' H.length c'] 51)) 29 (.slice a'' f.length c'')).alloc (.cells #[.bool false] 4)).alloc (.cells #[.slice a G.length c] 51)
  have bR := (Boxed.new (((w.alloc (.cells #[.slice a G.length c] 51)).alloc (.cells #[.slice a' H.length c'] 51)).alloc (.cells #[.slice a'' f.length c''] 29)) 4 (.bool false)).alloc (.cells #[.slice a G.length c] 51)
  have bG := Boxed.new ((((w.alloc (.cells #[.slice a G.length c] 51)).alloc (.cells #[.slice a' H.length c'] 51)).alloc (.cells #[.slice a'' f.length c''] 29)).alloc (.cells #[.bool false] 4)) 51 (.slice a G.length c)
  have hB := ((((((Below.refl w.heap.size w).alloc (Nat.le_refl _) (.cells #[.slice a G.length c] 51)).alloc (by simp) (.cells #[.slice a' H.length c'] 51)).alloc (by simp; omega) (.cells #[.slice a'' f.length c''] 29)).alloc (by simp; omega) (.cells #[.bool false] 4)).alloc (by simp; omega) (.cells #[.slice a G.length c] 51))
  rw [es] at bH
  rw [es, es] at bF
  rw [es, es, es] at bR
  rw [es, es, es, es] at bG
  have hsz : (((((w.alloc (.cells #[.slice a G.length c] 51)).alloc (.cells #[.slice a' H.length c'] 51)).alloc (.cells #[.slice a'' f.length c''] 29)).alloc (.cells #[.bool false] 4)).alloc (.cells #[.slice a G.length c] 51)).heap.size = w.heap.size + 5 := by simp
  obtain ⟨V, hV⟩ : ∃ V, (((((w.alloc (.cells #[.slice a G.length c] 51)).alloc (.cells #[.slice a' H.length c'] 51)).alloc (.cells #[.slice a'' f.length c''] 29)).alloc (.cells #[.bool false] 4)).alloc (.cells #[.slice a G.length c] 51)) = V := ⟨_, rfl⟩
  rw [hV] at bH bF bR bG hB hsz ⊢
  clear hV
  have hMV := hM.below (hB.mono hn)
  refine range_law rfl rfl (fun _ => trivial) (gf := 61) (lb := #[.pointer (some ⟨w.heap.size + 1 + 1 + 1 + 1, 0, none⟩)]) rfl (enters_of Try.func61 (by kernel_rfl) rfl)
    (arrows_X Fence.wide rfl (fun _ => trivial) rfl (w.heap.size + 1 + 1 + 1 + 1) n₀ a c G HG.out (fun B => B = w.heap.size + 1 + 1 + 1) (V.heap.size + 2) V (by omega) (by omega) (fun B s => by omega) (fun B s => by omega) (by omega) bG hMV) (fun h k => KeepC.trans h k) (fun W' o o' h hc => KeepC.putObj _ (by omega) W' o o' h hc) (Below.refl _ _) (fun _ => rfl)
    (fun pre W' => (((Boxed W' (w.heap.size + 1) 51 (.slice a' H.length c') ∧ Boxed W' (w.heap.size + 1 + 1) 29 (.slice a'' f.length c'')) ∧ Boxed W' (w.heap.size + 1 + 1 + 1) 4 (.bool false)) ∧ Hid (∀ x ∈ pre, arw H (nd f x.1.1) (nd f x.2.1) = true)) ∧ Below w.heap.size w W')
    (fun c' pre W' => ((c' = .ret ∧ Hid (∃ x ∈ pre, arw H (nd f x.1.1) (nd f x.2.1) = false)) ∧ Boxed W' (w.heap.size + 1 + 1 + 1) 4 (.bool false)) ∧ Below w.heap.size w W')
    (OwnFrom.and (OwnFrom.and (OwnFrom.and (OwnFrom.and (Own.from (boxed_own _ _ _) _) (Own.from (boxed_own _ _ _) _)) (Own.from (boxed_own _ _ _) _)) (ownFrom_pure _ _)) (ownFrom_below (Nat.le_refl _) (by omega)))
    (fun c' => OwnFrom.and (OwnFrom.and (ownFrom_pure _ _) (Own.from (boxed_own _ _ _) _)) (ownFrom_below (Nat.le_refl _) (by omega)))
    ⟨⟨⟨⟨bH, bF⟩, bR⟩, fun x hx => absurd hx (by simp)⟩, hB⟩ ?a1 ?assign ?body ?done ?stop
  case assign =>
    intro l2 x W' K hK
    gi_wp2
    exact hK
  case body =>
    rintro l2 pre ⟨⟨i, hi⟩, ⟨j, hj⟩⟩ W' ⟨⟨⟨⟨bH', bF'⟩, bR'⟩, HP⟩, hB'⟩ _
    clear bH bF bR bG hB hMV
    have hws := hB'.size
    have cH := bH'.cell
    have cF := bF'.cell
    have cR := bR'.cell
    have fR := bR'.frozen
    obtain ⟨p, hp, enp, hpH⟩ := tells_at HT.out hi
    obtain ⟨q, hq, enq, hqH⟩ := tells_at HT.out hj
    have hI' := hI.below (hB'.mono hn)
    have hM2 : Mat n₀ W'.drew a' H := hM'.below (hB'.drew.mono hn)
    obtain ⟨b, o, y, rfl, hb, hc0, HY⟩ := hI'.at_ (k := i) (by have := HFL.out; omega)
    obtain ⟨b2, o2, y2, e2, hb2, hc2, HY2⟩ := hI'.at_ (k := j) (by have := HFL.out; omega)
    cases e2
    have ey : y = (p : Int) := by have := HY.out; rw [hp] at this; cases this; rfl
    have ey2 : y2 = (q : Int) := by have := HY2.out; rw [hq] at this; cases this; rfl
    subst ey ey2
    have hif : i < f.length := by have := HFL.out; omega
    have hjf : j < f.length := by have := HFL.out; omega
    have HA := Lib.hid (enp)
    have HA2 := Lib.hid (enq)
    clear hp hq enp enq HY HY2 hI'
    gi_wp2_with fail
    refine region_still_tail_in 9 (by kernel_rfl) (by kernel_rfl) (by kernel_rfl) (fun ⟨_, _, h⟩ => h) ?_
    simp only [List.take_succ_cons, List.take_zero, List.drop_succ_cons, List.drop_zero]
    repeat still_step
    try refine wpStill_nil ?_
    change wpList _ _ _ _ _ W'.drew
    have hkf : KeepsFrom V.heap.size W' W'.drew := ⟨Nat.le_refl _, fun _ _ _ h _ => h⟩
    have hkc : KeepC (fun B => B = w.heap.size + 1 + 1 + 1) (V.heap.size + 2) W' W'.drew := KeepC.drew _ _ _
    have bHU : Boxed W'.drew (w.heap.size + 1) 51 (.slice a' H.length c') := bH'
    have bFU : Boxed W'.drew (w.heap.size + 1 + 1) 29 (.slice (some ⟨b, o, none⟩) f.length c'') := bF'
    have bRU : Boxed W'.drew (w.heap.size + 1 + 1 + 1) 4 (.bool false) := bR'
    have hBU := hB'.drew
    have hn2 : n₀ ≤ W'.drew.heap.size := Nat.le_trans hn hws
    clear bH' bF' bR' hB' cH cF cR fR hc0 hc2
    obtain ⟨U, hU⟩ : ∃ U, W'.drew = U := ⟨_, rfl⟩
    rw [hU] at hM2 hkf hkc bHU bFU bRU hBU hn2 ⊢
    clear hU
    have hzU := hBU.size
    go_wp2_with fail
    refine (arrowC n₀ _ _ _ U hM2 hn2 HG'.out p q hpH hqH).mono ?_
    rintro e w' ⟨rfl, rfl⟩
    have bR2 := bRU.alloc (.cells #[.slice a' H.length c'] 51)
    have fR2 := bR2.frozen
    have cR2 := bR2.cell
    by_cases ha : arw H p q = true
    · have HP' : Hid (∀ x ∈ pre ++ [((⟨i, hi⟩ : Fin G.length), (⟨j, hj⟩ : Fin G.length))], arw H (nd f x.1.1) (nd f x.2.1) = true) := fun x hx => by
        rcases List.mem_append.1 hx with h | h
        · exact HP.out x h
        · simp only [List.mem_singleton] at h; subst h; rw [HA.out, HA2.out]; exact ha
      rw [ha]
      go_wp2_with fail
      gi_wp2
      exact ⟨hkf.trans ((KeepsOthers.alloc _ _).from _), hkc.trans (KeepC.alloc _ _ _ _), ⟨⟨⟨bHU.alloc _, bFU.alloc _⟩, bRU.alloc _⟩, HP'⟩, (hBU.alloc hzU _)⟩
    · have han : arw H p q = false := by simpa using ha
      have HN : Hid (∃ x ∈ pre ++ [((⟨i, hi⟩ : Fin G.length), (⟨j, hj⟩ : Fin G.length))], arw H (nd f x.1.1) (nd f x.2.1) = false) := ⟨(⟨i, hi⟩, ⟨j, hj⟩), by simp, by rw [HA.out, HA2.out]; exact han⟩
      clear ha
      rw [han]
      go_wp2_with fail
      gi_wp2
      exact ⟨hkf.trans (((KeepsOthers.alloc _ _).trans (KeepsOthers.setCell _ _ _)).from _), ⟨⟨rfl, HN⟩, bR2.set _⟩, (hBU.alloc hzU _).setCell (p := ⟨w.heap.size + 1 + 1 + 1, 0, none⟩) (by simp; omega) _⟩
  case done =>
    rintro D ys W' hD rfl ⟨⟨⟨⟨bH', bF'⟩, bR'⟩, HP⟩, hB'⟩ hK
    have cR := bR'.cell
    have fR := bR'.frozen
    gi_wp2
    have hK' := (KeepsOthers.setCell W' ⟨w.heap.size + 1 + 1 + 1, 0, none⟩ (.bool true)).same D _ hK rfl
    refine ⟨by simp, .inl ⟨_, _, rfl, run_takeDeferred hK', ?_⟩⟩
    have hc5 := cell_kept (bR'.set (.bool true)).cell (grownBy_putObj' _ D (.deferred none)) (fun r e => by cases e; exact ⟨_, hK', rfl⟩)
    refine ⟨.bool true, ?_, ret_bool (HZ.out.symm.trans (List.all_eq_true.2 fun x hx => HP.out x hx)).symm, (hB'.setCell (p := ⟨w.heap.size + 1 + 1 + 1, 0, none⟩) (by simp; omega) _).trans (belowK_b (w := w) (Nat.le_refl _) _ D _ _ (by omega) hK' rfl rfl)⟩
    simp [results, Try.f44, go_sem, hc5]
  case stop =>
    rintro D c' pre W' hD hpre ⟨⟨⟨rfl, HN⟩, bR'⟩, hB'⟩ hK
    gi_wp2
    refine ⟨by simp, .inl ⟨_, _, rfl, run_takeDeferred hK, ?_⟩⟩
    have hc5 := cell_kept bR'.cell (grownBy_putObj' _ D (.deferred none)) (fun r e => by cases e; exact ⟨_, hK, rfl⟩)
    have hf : leadsI G H f = false := by
      obtain ⟨x, hx, hx2⟩ := HN.out
      refine Bool.eq_false_iff.2 fun h => ?_
      have := List.all_eq_true.1 h x (hpre.subset hx)
      rw [hx2] at this
      cases this
    refine ⟨.bool false, ?_, ret_bool (HZ.out.symm.trans hf).symm, hB'.trans (belowK_b (w := w) (Nat.le_refl _) W' D _ _ (by omega) hK rfl rfl)⟩
    simp [results, Try.f44, go_sem, hc5]

end Go.Proofs.Ytmohmecdhabapab
