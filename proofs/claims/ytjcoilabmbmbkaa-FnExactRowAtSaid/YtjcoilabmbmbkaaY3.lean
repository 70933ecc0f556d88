/-
  The program's power: do two rows together lead arrows to arrows?
-/
import Derived.Test.YtjcoilabmbmbkaaY2
import Derived.Test.YtjcoilabmbmbkaaZN
namespace Go.Proofs.Ytjcoilabmbmbkaa
open Go.RowKit Go.Shelf Go.Deep

attribute [local go_sem] Oper.semAt_some

/-- Two rows, one for each end, lead each arrow of G to one of H. -/
def jnI (G H : List (List Int)) (f e : List Int) : Bool := (AL G).all fun x => arw H (nd f x.1.1) (nd e x.2.1)
theorem powP_jn (H G : List (List Int)) (a b : Nat) : powP H G a b = jnI G H (rowR H.length G.length a) (rowR H.length G.length b) := rfl
theorem pbox_own {β : Type} (B : Nat) (a : Option Addr) (m c : Nat) (a' : Option Addr) (m' c' : Nat) : Own (fun (_ : β) W => PBox W B a m c a' m' c') := fun s X Y row h hg hr =>
  (hg.block B h.lt (fun e => by
    obtain ⟨o, ho, hc⟩ := hr B e.symm
    rw [show X.heap[B]? = _ from h] at ho; cases ho; cases hc)).trans h

set_option maxRecDepth 100000 in
set_option maxHeartbeats 4000000 in
theorem powJoins_in (n₀ : Nat) (a a' a3 a4 : Option Addr) (c c' c3 c4 : Nat) (H G : List (List Int)) (f e : List Int) (w : World) (hM : Mat n₀ w a H) (hM' : Mat n₀ w a' G) (hI : Ints n₀ w a3 f) (hI' : Ints n₀ w a4 e) (hn : n₀ ≤ w.heap.size) (hH : Good H) (hG : Good G)
    (hT : Tells G.length H.length f) (hT' : Tells G.length H.length e) :
    CallsIn Fence.wide 20 Try.prog 52 #[.agg #[.slice a H.length c, .slice a' G.length c'], .slice a3 G.length c3, .slice a4 G.length c4] w (Ans (.bool (jnI G H f e)) w) := by
  have hdd : ∀ k : Nat, (Fence.wide.depth.isSome = true → 1 ≤ k) := fun k h => by cases h
  have hl9 := hG.2.1
  have hl9' := hH.2.1
  have h3 : Fence.wide.fn 83 := trivial
  have h4 : Fence.wide.fn 79 := trivial
  have HT := Lib.hid hT
  have HT' := Lib.hid hT'
  have HG := Lib.hid hG
  have HH := Lib.hid hH
  obtain ⟨z, HZ⟩ : ∃ z, Hid (jnI G H f e = z) := ⟨_, rfl⟩
  rw [HZ.out]
  clear hT hT' hG hH
  have es : ∀ (W : World) (o : Obj), (W.alloc o).heap.size = W.heap.size + 1 := fun W o => by simp
  refine callsIn_of_wp_marks Try.func52 rfl trivial ?_ rfl
  simp only [Try.ntmps52, List.size_toArray, List.length_cons, List.length_nil, Nat.reduceAdd, Nat.reduceSub, Array.replicate_succ, Array.replicate_zero, List.push_toArray, List.append_toArray, List.nil_append, List.cons_append]
  gi_wp2_with ((try refine ⟨hdd _, ?_⟩); gi_at_call 83; refine (arrows_in Fence.wide _ (fun _ => trivial) rfl _ _ _ _).mono ?_; rintro e w' ⟨rfl, rfl⟩)
  have bP := ((((PBox.new w a H.length c a' G.length c').alloc (.cells #[.slice a3 G.length c3] 30)).alloc (.cells #[.slice a4 G.length c4] 30)).alloc (.cells #[.bool false] 4)).alloc (.cells #[.slice a' G.length c'] 56)
  have bF := ((((Boxed.new (w.alloc (.cells #[.slice a H.length c, .slice a' G.length c'] 58)) 30 (.slice a3 G.length c3)).alloc (.cells #[.slice a4 G.length c4] 30)).alloc (.cells #[.bool false] 4)).alloc (.cells #[.slice a' G.length c'] 56))
  have bE := ((Boxed.new ((w.alloc (.cells #[.slice a H.length c, .slice a' G.length c'] 58)).alloc (.cells #[.slice a3 G.length c3] 30)) 30 (.slice a4 G.length c4)).alloc (.cells #[.bool false] 4)).alloc (.cells #[.slice a' G.length c'] 56)
  have bR := (Boxed.new (((w.alloc (.cells #[.slice a H.length c, .slice a' G.length c'] 58)).alloc (.cells #[.slice a3 G.length c3] 30)).alloc (.cells #[.slice a4 G.length c4] 30)) 4 (.bool false)).alloc (.cells #[.slice a' G.length c'] 56)
  have bG := Boxed.new ((((w.alloc (.cells #[.slice a H.length c, .slice a' G.length c'] 58)).alloc (.cells #[.slice a3 G.length c3] 30)).alloc (.cells #[.slice a4 G.length c4] 30)).alloc (.cells #[.bool false] 4)) 56 (.slice a' G.length c')
  have hB := ((((((Below.refl w.heap.size w).alloc (Nat.le_refl _) (.cells #[.slice a H.length c, .slice a' G.length c'] 58)).alloc (by simp) (.cells #[.slice a3 G.length c3] 30)).alloc (by simp; omega) (.cells #[.slice a4 G.length c4] 30)).alloc (by simp; omega) (.cells #[.bool false] 4)).alloc (by simp; omega) (.cells #[.slice a' G.length c'] 56))
  rw [es] at bF
  rw [es, es] at bE
  rw [es, es, es] at bR
  rw [es, es, es, es] at bG
  have hsz : (((((w.alloc (.cells #[.slice a H.length c, .slice a' G.length c'] 58)).alloc (.cells #[.slice a3 G.length c3] 30)).alloc (.cells #[.slice a4 G.length c4] 30)).alloc (.cells #[.bool false] 4)).alloc (.cells #[.slice a' G.length c'] 56)).heap.size = w.heap.size + 5 := by simp
  obtain ⟨V, hV⟩ : ∃ V, (((((w.alloc (.cells #[.slice a H.length c, .slice a' G.length c'] 58)).alloc (.cells #[.slice a3 G.length c3] 30)).alloc (.cells #[.slice a4 G.length c4] 30)).alloc (.cells #[.bool false] 4)).alloc (.cells #[.slice a' G.length c'] 56)) = V := ⟨_, rfl⟩
  rw [hV] at bP bF bE bR bG hB hsz ⊢
  clear hV
  have hMV := hM'.below (hB.mono hn)
  refine range_law rfl rfl (fun _ => trivial) (gf := 91) (lb := #[.pointer (some ⟨w.heap.size + 1 + 1 + 1 + 1, 0, none⟩)]) rfl (enters_of Try.func91 (by kernel_rfl) rfl)
    (arrows_X Fence.wide rfl (fun _ => trivial) rfl (w.heap.size + 1 + 1 + 1 + 1) n₀ a' c' G HG.out (fun B => B = w.heap.size + 1 + 1 + 1) (V.heap.size + 2) V (by omega) (by omega) (fun B s => by omega) (fun B s => by omega) (by omega) bG hMV) (fun h k => KeepC.trans h k) (fun W' o o' h hc => KeepC.putObj _ (by omega) W' o o' h hc) (Below.refl _ _) (fun _ => rfl)
    (fun pre W' => ((((PBox W' w.heap.size a H.length c a' G.length c' ∧ Boxed W' (w.heap.size + 1) 30 (.slice a3 G.length c3)) ∧ Boxed W' (w.heap.size + 1 + 1) 30 (.slice a4 G.length c4)) ∧ Boxed W' (w.heap.size + 1 + 1 + 1) 4 (.bool false)) ∧ Hid (∀ x ∈ pre, arw H (nd f x.1.1) (nd e x.2.1) = true)) ∧ Below w.heap.size w W')
    (fun c' pre W' => ((c' = .ret ∧ Hid (∃ x ∈ pre, arw H (nd f x.1.1) (nd e x.2.1) = false)) ∧ Boxed W' (w.heap.size + 1 + 1 + 1) 4 (.bool false)) ∧ Below w.heap.size w W')
    (OwnFrom.and (OwnFrom.and (OwnFrom.and (OwnFrom.and (OwnFrom.and (Own.from (pbox_own _ _ _ _ _ _ _) _) (Own.from (boxed_own _ _ _) _)) (Own.from (boxed_own _ _ _) _)) (Own.from (boxed_own _ _ _) _)) (ownFrom_pure _ _)) (ownFrom_below (Nat.le_refl _) (by omega)))
    (fun c' => OwnFrom.and (OwnFrom.and (ownFrom_pure _ _) (Own.from (boxed_own _ _ _) _)) (ownFrom_below (Nat.le_refl _) (by omega)))
    ⟨⟨⟨⟨⟨bP, bF⟩, bE⟩, bR⟩, fun x hx => absurd hx (by simp)⟩, hB⟩ ?a1 ?assign ?body ?done ?stop
  case assign =>
    intro l2 x W' K hK
    gi_wp2
    exact hK
  case body =>
    rintro l2 pre ⟨⟨i, hi⟩, ⟨j, hj⟩⟩ W' ⟨⟨⟨⟨⟨bP', bF'⟩, bE'⟩, bR'⟩, HP⟩, hB'⟩ _
    clear bP bF bE bR bG hB hMV
    have hws := hB'.size
    have cP := bP'.base
    have cF := bF'.cell
    have cE := bE'.cell
    have cR := bR'.cell
    have fR := bR'.frozen
    obtain ⟨p, hp, enp, hpH⟩ := tells_at HT.out hi
    obtain ⟨q, hq, enq, hqH⟩ := tells_at HT'.out hj
    have hIf := hI.below (hB'.mono hn)
    have hIe := hI'.below (hB'.mono hn)
    have hM2 : Mat n₀ W'.drew a H := hM.below (hB'.drew.mono hn)
    obtain ⟨b, o, y, rfl, hb, hc0, HY⟩ := hIf.at_ (k := i) (by rw [HT.out.1]; exact hi)
    obtain ⟨b2, o2, y2, rfl, hb2, hc2, HY2⟩ := hIe.at_ (k := j) (by rw [HT'.out.1]; exact hj)
    have ey : y = (p : Int) := by have := HY.out; rw [hp] at this; cases this; rfl
    have ey2 : y2 = (q : Int) := by have := HY2.out; rw [hq] at this; cases this; rfl
    subst ey ey2
    have HA := Lib.hid (enp)
    have HA2 := Lib.hid (enq)
    clear hp hq enp enq HY HY2 hIf hIe
    gi_wp2_with fail
    refine region_still_tail_in 10 (by kernel_rfl) (by kernel_rfl) (by kernel_rfl) (fun ⟨_, _, h⟩ => h) ?_
    simp only [List.take_succ_cons, List.take_zero, List.drop_succ_cons, List.drop_zero]
    repeat still_step
    try refine wpStill_nil ?_
    change wpList _ _ _ _ _ W'.drew
    have hkf : KeepsFrom V.heap.size W' W'.drew := ⟨Nat.le_refl _, fun _ _ _ h _ => h⟩
    have hkc : KeepC (fun B => B = w.heap.size + 1 + 1 + 1) (V.heap.size + 2) W' W'.drew := KeepC.drew _ _ _
    have bPU : PBox W'.drew w.heap.size a H.length c a' G.length c' := bP'
    have bFU : Boxed W'.drew (w.heap.size + 1) 30 (.slice (some ⟨b, o, none⟩) G.length c3) := bF'
    have bEU : Boxed W'.drew (w.heap.size + 1 + 1) 30 (.slice (some ⟨b2, o2, none⟩) G.length c4) := bE'
    have bRU : Boxed W'.drew (w.heap.size + 1 + 1 + 1) 4 (.bool false) := bR'
    have hBU := hB'.drew
    have hn2 : n₀ ≤ W'.drew.heap.size := Nat.le_trans hn hws
    clear bP' bF' bE' bR' hB' cP cF cE cR fR hc0 hc2
    obtain ⟨U, hU⟩ : ∃ U, W'.drew = U := ⟨_, rfl⟩
    rw [hU] at hM2 hkf hkc bPU bFU bEU bRU hBU hn2 ⊢
    clear hU
    have hzU := hBU.size
    go_wp2_with fail
    refine (arrowC n₀ _ _ _ U hM2 hn2 HH.out p q hpH hqH).mono ?_
    rintro e w' ⟨rfl, rfl⟩
    have bR2 := bRU.alloc (.cells #[.slice a H.length c] 56)
    have fR2 := bR2.frozen
    have cR2 := bR2.cell
    by_cases ha : arw H p q = true
    · have HP' : Hid (∀ x ∈ pre ++ [((⟨i, hi⟩ : Fin G.length), (⟨j, hj⟩ : Fin G.length))], arw H (nd f x.1.1) (nd e x.2.1) = true) := fun x hx => by
        rcases List.mem_append.1 hx with h | h
        · exact HP.out x h
        · simp only [List.mem_singleton] at h; subst h; rw [HA.out, HA2.out]; exact ha
      rw [ha]
      go_wp2_with fail
      gi_wp2
      exact ⟨hkf.trans ((KeepsOthers.alloc _ _).from _), hkc.trans (KeepC.alloc _ _ _ _), ⟨⟨⟨⟨bPU.alloc _, bFU.alloc _⟩, bEU.alloc _⟩, bRU.alloc _⟩, HP'⟩, (hBU.alloc hzU _)⟩
    · have han : arw H p q = false := by simpa using ha
      have HN : Hid (∃ x ∈ pre ++ [((⟨i, hi⟩ : Fin G.length), (⟨j, hj⟩ : Fin G.length))], arw H (nd f x.1.1) (nd e x.2.1) = false) := ⟨(⟨i, hi⟩, ⟨j, hj⟩), by simp, by rw [HA.out, HA2.out]; exact han⟩
      clear ha
      rw [han]
      go_wp2_with fail
      gi_wp2
      exact ⟨hkf.trans (((KeepsOthers.alloc _ _).trans (KeepsOthers.setCell _ _ _)).from _), ⟨⟨rfl, HN⟩, bR2.set _⟩, (hBU.alloc hzU _).setCell (p := ⟨w.heap.size + 1 + 1 + 1, 0, none⟩) (by simp; omega) _⟩
  case done =>
    rintro D ys W' hD rfl ⟨⟨⟨⟨⟨bP', bF'⟩, bE'⟩, bR'⟩, HP⟩, hB'⟩ hK
    have cR := bR'.cell
    have fR := bR'.frozen
    gi_wp2
    have hK' := (KeepsOthers.setCell W' ⟨w.heap.size + 1 + 1 + 1, 0, none⟩ (.bool true)).same D _ hK rfl
    refine ⟨by simp, .inl ⟨_, _, rfl, run_takeDeferred hK', ?_⟩⟩
    have hc5 := cell_kept (bR'.set (.bool true)).cell (grownBy_putObj' _ D (.deferred none)) (fun r e => by cases e; exact ⟨_, hK', rfl⟩)
    refine ⟨.bool true, ?_, ret_bool (HZ.out.symm.trans (List.all_eq_true.2 fun x hx => HP.out x hx)).symm, (hB'.setCell (p := ⟨w.heap.size + 1 + 1 + 1, 0, none⟩) (by simp; omega) _).trans (belowK_b (w := w) (Nat.le_refl _) _ D _ _ (by omega) hK' rfl rfl)⟩
    simp [results, Try.f52, go_sem, hc5]
  case stop =>
    rintro D c' pre W' hD hpre ⟨⟨⟨rfl, HN⟩, bR'⟩, hB'⟩ hK
    gi_wp2
    refine ⟨by simp, .inl ⟨_, _, rfl, run_takeDeferred hK, ?_⟩⟩
    have hc5 := cell_kept bR'.cell (grownBy_putObj' _ D (.deferred none)) (fun r e => by cases e; exact ⟨_, hK, rfl⟩)
    have hf : jnI G H f e = false := by
      obtain ⟨x, hx, hx2⟩ := HN.out
      refine Bool.eq_false_iff.2 fun h => ?_
      have := List.all_eq_true.1 h x (hpre.subset hx)
      rw [hx2] at this
      cases this
    refine ⟨.bool false, ?_, ret_bool (HZ.out.symm.trans hf).symm, hB'.trans (belowK_b (w := w) (Nat.le_refl _) W' D _ _ (by omega) hK rfl rfl)⟩
    simp [results, Try.f52, go_sem, hc5]

end Go.Proofs.Ytjcoilabmbmbkaa
