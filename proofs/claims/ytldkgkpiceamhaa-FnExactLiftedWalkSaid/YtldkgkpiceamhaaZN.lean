/-
  Several texts in one.
  impl.MapOk: a row tells nodes, and leads arrows to arrows.
  impl.MapOk: a row leads arrows to arrows.
  impl.MapOk and its model.
  The model's MapOk.
-/
import Derived.Test.YtldkgkpiceamhaaL1
import Derived.Test.YtldkgkpiceamhaaZE
import Derived.Test.YtldkgkpiceamhaaZM
import Derived.BigQuiet
namespace Go.Proofs.Ytldkgkpiceamhaa
open Go.RowKit Go.Shelf Go.Deep

/-- A ROW TELLS a node below m' for each of m nodes. -/
def Tells (m m' : Nat) (f : List Int) : Prop := f.length = m ∧ ∀ (j : Nat) (y : Int), f[j]? = some y → 0 ≤ y ∧ y < m'
def tellsI (m m' : Nat) (f : List Int) : Bool := decide (f.length = m) && f.all fun y => decide (0 ≤ y ∧ y < (m' : Int))
theorem tells_iff (m m' : Nat) (f : List Int) : tellsI m m' f = true ↔ Tells m m' f := by
  unfold tellsI Tells
  simp only [Bool.and_eq_true, decide_eq_true_eq, List.all_eq_true]
  refine and_congr_right fun _ => ⟨fun h j y hy => h y (List.mem_of_getElem? hy), fun h y hy => ?_⟩
  obtain ⟨j, hj⟩ := List.getElem?_of_mem hy
  exact h j y hj
theorem tells_yes {m m' : Nat} {f : List Int} (h : Tells m m' f) : tellsI m m' f = true := (tells_iff m m' f).2 h
theorem tells_no {m m' : Nat} {f : List Int} (h : ¬ Tells m m' f) : tellsI m m' f = false := Bool.eq_false_iff.2 fun e => h ((tells_iff m m' f).1 e)
/-- A ROW LEADS each arrow to an arrow. -/
def leadsI (G H : List (List Int)) (f : List Int) : Bool := (AL G).all fun x => arw H (nd f x.1.1) (nd f x.2.1)
/-- A MAP. -/
def mapOkI (G H : List (List Int)) (f : List Int) : Bool := gOk G && gOk H && tellsI G.length H.length f && leadsI G H f
theorem mapOk_no1 {G H : List (List Int)} {f : List Int} (h : gOk G = false) : mapOkI G H f = false := by unfold mapOkI; rw [h]; rfl
theorem mapOk_no2 {G H : List (List Int)} {f : List Int} (h : gOk H = false) : mapOkI G H f = false := by unfold mapOkI; rw [h]; simp
theorem mapOk_no3 {G H : List (List Int)} {f : List Int} (h : tellsI G.length H.length f = false) : mapOkI G H f = false := by unfold mapOkI; rw [h]; simp
theorem mapOk_yes {G H : List (List Int)} {f : List Int} (h : gOk G = true) (h' : gOk H = true) (h'' : tellsI G.length H.length f = true) : mapOkI G H f = leadsI G H f := by unfold mapOkI; rw [h, h', h'']; rfl

theorem nodesP (a : Option Addr) (m c : Nat) (w : World) :
    Calls Try.prog 61 #[.agg #[.slice a m c]] w fun e w' => e = .returned (.int .i64 m) ∧ w' = w.alloc (.cells #[.slice a m c] 61) :=
  callsIn_wide.1 (nodes_in Fence.wide 0 (fun _ => trivial) rfl a m c w)

set_option maxRecDepth 100000 in
set_option maxHeartbeats 1000000 in
theorem tellsP (a a' a'' : Option Addr) (m m' c c' c'' n₀ : Nat) (f : List Int) (w : World) (hI : Ints n₀ w a'' f) (hn : n₀ ≤ w.heap.size) (hl : f.length ≤ 1048576) :
    Calls Try.prog 91 #[.agg #[.slice a m c], .agg #[.slice a' m' c'], .slice a'' f.length c''] w (Ans (.bool (tellsI m m' f)) w) := by
  obtain ⟨z, HZ⟩ : ∃ z, Hid (tellsI m m' f = z) := ⟨_, rfl⟩
  rw [HZ.out]
  have es : ∀ (W : World) (o : Obj), (W.alloc o).heap.size = W.heap.size + 1 := fun W o => by simp
  by_cases hfl : f.length = m
  · have HL := Lib.hid hfl
    have hne : ((f.length : Int) != (m : Int)) = false := by simp; omega
    clear hfl
    go_enter Try.func91, Try.ntmps91
    go_wp2_with fail
    refine (nodesP _ _ _ _).mono ?_
    rintro e w1 ⟨rfl, rfl⟩
    have bH := (Boxed.new (w.alloc (.cells #[.slice a m c] 61)) 61 (.slice a' m' c')).alloc (.cells #[.slice a m c] 61)
    have hB := ((((Below.refl w.heap.size w).alloc (Nat.le_refl _) (.cells #[.slice a m c] 61)).alloc (by simp) (.cells #[.slice a' m' c'] 61)).alloc (by simp; omega) (.cells #[.slice a m c] 61))
    rw [es] at bH
    obtain ⟨V, hV⟩ : ∃ V, ((w.alloc (.cells #[.slice a m c] 61)).alloc (.cells #[.slice a' m' c'] 61)).alloc (.cells #[.slice a m c] 61) = V := ⟨_, rfl⟩
    rw [hV] at bH hB ⊢
    clear hV
    go_wp2_with fail
    go_loopw [16] (fun i wr => ∃ k : Nat, k ≤ f.length ∧ i = .int .i64 k ∧ Boxed wr (w.heap.size + 1) 61 (.slice a' m' c') ∧ Below w.heap.size w wr ∧ Hid (∀ (j : Nat) (y : Int), j < k → f[j]? = some y → 0 ≤ y ∧ y < m')) (fun i _ => f.length - (intOf i).toNat)
    case atStart => exact ⟨0, Nat.zero_le _, rfl, bH, hB, fun j y h => absurd h (Nat.not_lt_zero _)⟩
    case round =>
      obtain ⟨k, hk, rfl, bH1, hB1, HR⟩ := hrel
      clear bH hB
      have cH := bH1.cell
      have hws := hB1.size
      by_cases hlt : k < f.length
      · obtain ⟨b, o, y, rfl, hb, hc0, HY⟩ := hI.at_ hlt
        have hc : wr.cell? ⟨b, o + k, none⟩ = some (.int .i64 y) := (hB1.cell (p := ⟨b, o + k, none⟩) (by show b < _; omega)).trans hc0
        clear hc0
        by_cases hy0 : y < 0
        · have HN : Hid (z = false) := Lib.hid (HZ.out.symm.trans (tells_no fun h => by have := (h.2 k y HY.out).1; omega))
          go_wp2_with fail
          go_ret
          exact ⟨ret_bool HN.out.symm, hB1⟩
        by_cases hy1 : (m' : Int) ≤ y
        · have HN : Hid (z = false) := Lib.hid (HZ.out.symm.trans (tells_no fun h => by have := (h.2 k y HY.out).2; omega))
          go_wp2_with fail
          refine (nodesP _ _ _ _).mono ?_
          rintro e w1 ⟨rfl, rfl⟩
          go_wp2_with fail
          go_ret
          exact ⟨ret_bool HN.out.symm, hB1.alloc hws _⟩
        go_wp2_with fail
        refine (nodesP _ _ _ _).mono ?_
        rintro e w1 ⟨rfl, rfl⟩
        go_wp2_with fail
        go_roundw
        case rel => exact ⟨k + 1, by omega, by go_num, bH1.alloc _, hB1.alloc hws _, fun j x hj hx => by
          by_cases e : j = k
          · subst e; rw [HY.out] at hx; cases hx; omega
          · exact HR.out j x (by omega) hx⟩
        case measure => simp [intOf]; omega
      · obtain rfl : k = f.length := by omega
        have HN : Hid (z = true) := Lib.hid (HZ.out.symm.trans (tells_yes ⟨HL.out, fun j y hy => HR.out j y (List.getElem?_eq_some_iff.1 hy).1 hy⟩))
        go_wp2_with fail
        go_ret
        exact ⟨ret_bool HN.out.symm, hB1⟩
  · have HN : Hid (z = false) := Lib.hid (HZ.out.symm.trans (tells_no fun h => hfl h.1))
    have hne : ((f.length : Int) != (m : Int)) = true := by simp; omega
    clear hfl
    go_enter Try.func91, Try.ntmps91
    go_wp2_with fail
    refine (nodesP _ _ _ _).mono ?_
    rintro e w1 ⟨rfl, rfl⟩
    go_wp2_with fail
    go_ret
    exact ⟨ret_bool HN.out.symm, ((((Below.refl w.heap.size w).alloc (Nat.le_refl _) (.cells #[.slice a m c] 61)).alloc (by simp) (.cells #[.slice a' m' c'] 61)).alloc (by simp; omega) (.cells #[.slice a m c] 61))⟩

/-- The node that a row tells. -/
theorem tells_at {m m' : Nat} {f : List Int} (h : Tells m m' f) {j : Nat} (hj : j < m) : ∃ p : Nat, f[j]? = some (p : Int) ∧ nd f j = p ∧ p < m' := by
  have hj' : j < f.length := by rw [h.1]; exact hj
  obtain ⟨h0, h1⟩ := h.2 j f[j] (List.getElem?_eq_getElem hj')
  refine ⟨f[j].toNat, ?_, nd_eq (List.getElem?_eq_getElem hj'), by omega⟩
  rw [List.getElem?_eq_getElem hj', Int.toNat_of_nonneg h0]

end Go.Proofs.Ytldkgkpiceamhaa

namespace Go.Proofs.Ytldkgkpiceamhaa
open Go.RowKit Go.Shelf Go.Deep

attribute [local go_sem] Oper.semAt_some

set_option maxRecDepth 100000 in
set_option maxHeartbeats 4000000 in
theorem leadsAll_in (n₀ : Nat) (a a' a'' : Option Addr) (c c' c'' : Nat) (G H : List (List Int)) (f : List Int) (w : World) (hM : Mat n₀ w a G) (hM' : Mat n₀ w a' H) (hI : Ints n₀ w a'' f) (hn : n₀ ≤ w.heap.size) (hG : Good G) (hG' : Good H) (hT : Tells G.length H.length f) :
    CallsIn Fence.wide 20 Try.prog 92 #[.agg #[.slice a G.length c], .agg #[.slice a' H.length c'], .slice a'' f.length c''] w (Ans (.bool (leadsI G H f)) w) := by
  have hdd : ∀ k : Nat, (Fence.wide.depth.isSome = true → 1 ≤ k) := fun k h => by cases h
  have hl9 := hG.2.1
  have hl9' := hG'.2.1
  have hfl : f.length ≤ 9 := by rw [hT.1]; exact hl9
  have HFL := Lib.hid hT.1
  have h3 : Fence.wide.fn 72 := trivial
  have h4 : Fence.wide.fn 63 := trivial
  have HT := Lib.hid hT
  have HG := Lib.hid hG
  have HG' := Lib.hid hG'
  obtain ⟨z, HZ⟩ : ∃ z, Hid (leadsI G H f = z) := ⟨_, rfl⟩
  rw [HZ.out]
  clear hT hG hG'
  have es : ∀ (W : World) (o : Obj), (W.alloc o).heap.size = W.heap.size + 1 := fun W o => by simp
  refine callsIn_of_wp_marks Try.func92 rfl trivial ?_ rfl
  simp only [Try.ntmps92, List.size_toArray, List.length_cons, List.length_nil, Nat.reduceAdd, Nat.reduceSub, Array.replicate_succ, Array.replicate_zero, List.push_toArray, List.append_toArray, List.nil_append, List.cons_append]
  gi_wp2_with ((try refine ⟨hdd _, ?_⟩); gi_at_call 72; refine (arrows_in Fence.wide _ (fun _ => trivial) rfl _ _ _ _).mono ?_; rintro e w' ⟨rfl, rfl⟩)
  have bH := ((((Boxed.new (w.alloc (.cells #[.slice a G.length c] 61)) 61 (.slice a' H.length c')).alloc (.cells #[.slice a'' f.length c''] 24)).alloc (.cells #[.bool false] 4)).alloc (.cells #[.slice a G.length c] 61))
  have bF := ((Boxed.new ((w.alloc (.cells #[.slice a G.length c] 61)).alloc (.cells #[.slice a' H.length c'] 61)) 24 (.slice a'' f.length c'')).alloc (.cells #[.bool false] 4)).alloc (.cells #[.slice a G.length c] 61)
  have bR := (Boxed.new (((w.alloc (.cells #[.slice a G.length c] 61)).alloc (.cells #[.slice a' H.length c'] 61)).alloc (.cells #[.slice a'' f.length c''] 24)) 4 (.bool false)).alloc (.cells #[.slice a G.length c] 61)
  have bG := Boxed.new ((((w.alloc (.cells #[.slice a G.length c] 61)).alloc (.cells #[.slice a' H.length c'] 61)).alloc (.cells #[.slice a'' f.length c''] 24)).alloc (.cells #[.bool false] 4)) 61 (.slice a G.length c)
  have hB := ((((((Below.refl w.heap.size w).alloc (Nat.le_refl _) (.cells #[.slice a G.length c] 61)).alloc (by simp) (.cells #[.slice a' H.length c'] 61)).alloc (by simp; omega) (.cells #[.slice a'' f.length c''] 24)).alloc (by simp; omega) (.cells #[.bool false] 4)).alloc (by simp; omega) (.cells #[.slice a G.length c] 61))
  rw [es] at bH
  rw [es, es] at bF
  rw [es, es, es] at bR
  rw [es, es, es, es] at bG
  have hsz : (((((w.alloc (.cells #[.slice a G.length c] 61)).alloc (.cells #[.slice a' H.length c'] 61)).alloc (.cells #[.slice a'' f.length c''] 24)).alloc (.cells #[.bool false] 4)).alloc (.cells #[.slice a G.length c] 61)).heap.size = w.heap.size + 5 := by simp
  obtain ⟨V, hV⟩ : ∃ V, (((((w.alloc (.cells #[.slice a G.length c] 61)).alloc (.cells #[.slice a' H.length c'] 61)).alloc (.cells #[.slice a'' f.length c''] 24)).alloc (.cells #[.bool false] 4)).alloc (.cells #[.slice a G.length c] 61)) = V := ⟨_, rfl⟩
  rw [hV] at bH bF bR bG hB hsz ⊢
  clear hV
  have hMV := hM.below (hB.mono hn)
  refine range_law rfl rfl (fun _ => trivial) (gf := 99) (lb := #[.pointer (some ⟨w.heap.size + 1 + 1 + 1 + 1, 0, none⟩)]) rfl (enters_of Try.func99 (by kernel_rfl) rfl)
    (arrows_X Fence.wide rfl (fun _ => trivial) rfl (w.heap.size + 1 + 1 + 1 + 1) n₀ a c G HG.out (fun B => B = w.heap.size + 1 + 1 + 1) (V.heap.size + 2) V (by omega) (by omega) (fun B s => by omega) (fun B s => by omega) (by omega) bG hMV) (fun h k => KeepC.trans h k) (fun W' o o' h hc => KeepC.putObj _ (by omega) W' o o' h hc) (Below.refl _ _) (fun _ => rfl)
    (fun pre W' => (((Boxed W' (w.heap.size + 1) 61 (.slice a' H.length c') ∧ Boxed W' (w.heap.size + 1 + 1) 24 (.slice a'' f.length c'')) ∧ Boxed W' (w.heap.size + 1 + 1 + 1) 4 (.bool false)) ∧ Hid (∀ x ∈ pre, arw H (nd f x.1.1) (nd f x.2.1) = true)) ∧ Below w.heap.size w W')
    (fun c' pre W' => ((c' = .ret ∧ Hid (∃ x ∈ pre, arw H (nd f x.1.1) (nd f x.2.1) = false)) ∧ Boxed W' (w.heap.size + 1 + 1 + 1) 4 (.bool false)) ∧ Below w.heap.size w W')
    (OwnFrom.and (OwnFrom.and (OwnFrom.and (OwnFrom.and (Own.from (boxed_own _ _ _) _) (Own.from (boxed_own _ _ _) _)) (Own.from (boxed_own _ _ _) _)) (ownFrom_pure _ _)) (ownFrom_below (Nat.le_refl _) (by omega)))
    (fun c' => OwnFrom.and (OwnFrom.and (ownFrom_pure _ _) (Own.from (boxed_own _ _ _) _)) (ownFrom_below (Nat.le_refl _) (by omega)))
    ⟨⟨⟨⟨bH, bF⟩, bR⟩, fun x hx => absurd hx (by simp)⟩, hB⟩ ?a1 ?assign ?body ?done ?stop
  case assign =>
    intro l2 x W' K hK
    gi_wp2
    exact hK
  case body =>
    rintro l2 pre ⟨⟨i, hi⟩, ⟨j, hj⟩⟩ W' ⟨⟨⟨⟨bH', bF'⟩, bR'⟩, HP⟩, hB'⟩ _
    clear bH bF bR bG hB hMV
    have hws := hB'.size
    have cH := bH'.cell
    have cF := bF'.cell
    have cR := bR'.cell
    have fR := bR'.frozen
    obtain ⟨p, hp, enp, hpH⟩ := tells_at HT.out hi
    obtain ⟨q, hq, enq, hqH⟩ := tells_at HT.out hj
    have hI' := hI.below (hB'.mono hn)
    have hM2 : Mat n₀ W'.drew a' H := hM'.below (hB'.drew.mono hn)
    obtain ⟨b, o, y, rfl, hb, hc0, HY⟩ := hI'.at_ (k := i) (by have := HFL.out; omega)
    obtain ⟨b2, o2, y2, e2, hb2, hc2, HY2⟩ := hI'.at_ (k := j) (by have := HFL.out; omega)
    cases e2
    have ey : y = (p : Int) := by have := HY.out; rw [hp] at this; cases this; rfl
    have ey2 : y2 = (q : Int) := by have := HY2.out; rw [hq] at this; cases this; rfl
    subst ey ey2
    have hif : i < f.length := by have := HFL.out; omega
    have hjf : j < f.length := by have := HFL.out; omega
    have HA := Lib.hid (enp)
    have HA2 := Lib.hid (enq)
    clear hp hq enp enq HY HY2 hI'
    gi_wp2_with fail
    refine region_still_tail_in 9 (by kernel_rfl) (by kernel_rfl) (by kernel_rfl) (fun ⟨_, _, h⟩ => h) ?_
    simp only [List.take_succ_cons, List.take_zero, List.drop_succ_cons, List.drop_zero]
    repeat still_step
    try refine wpStill_nil ?_
    change wpList _ _ _ _ _ W'.drew
    have hkf : KeepsFrom V.heap.size W' W'.drew := ⟨Nat.le_refl _, fun _ _ _ h _ => h⟩
    have hkc : KeepC (fun B => B = w.heap.size + 1 + 1 + 1) (V.heap.size + 2) W' W'.drew := KeepC.drew _ _ _
    have bHU : Boxed W'.drew (w.heap.size + 1) 61 (.slice a' H.length c') := bH'
    have bFU : Boxed W'.drew (w.heap.size + 1 + 1) 24 (.slice (some ⟨b, o, none⟩) f.length c'') := bF'
    have bRU : Boxed W'.drew (w.heap.size + 1 + 1 + 1) 4 (.bool false) := bR'
    have hBU := hB'.drew
    have hn2 : n₀ ≤ W'.drew.heap.size := Nat.le_trans hn hws
    clear bH' bF' bR' hB' cH cF cR fR hc0 hc2
    obtain ⟨U, hU⟩ : ∃ U, W'.drew = U := ⟨_, rfl⟩
    rw [hU] at hM2 hkf hkc bHU bFU bRU hBU hn2 ⊢
    clear hU
    have hzU := hBU.size
    go_wp2_with fail
    refine (arrowC n₀ _ _ _ U hM2 hn2 HG'.out p q hpH hqH).mono ?_
    rintro e w' ⟨rfl, rfl⟩
    have bR2 := bRU.alloc (.cells #[.slice a' H.length c'] 61)
    have fR2 := bR2.frozen
    have cR2 := bR2.cell
    by_cases ha : arw H p q = true
    · have HP' : Hid (∀ x ∈ pre ++ [((⟨i, hi⟩ : Fin G.length), (⟨j, hj⟩ : Fin G.length))], arw H (nd f x.1.1) (nd f x.2.1) = true) := fun x hx => by
        rcases List.mem_append.1 hx with h | h
        · exact HP.out x h
        · simp only [List.mem_singleton] at h; subst h; rw [HA.out, HA2.out]; exact ha
      rw [ha]
      go_wp2_with fail
      gi_wp2
      exact ⟨hkf.trans ((KeepsOthers.alloc _ _).from _), hkc.trans (KeepC.alloc _ _ _ _), ⟨⟨⟨bHU.alloc _, bFU.alloc _⟩, bRU.alloc _⟩, HP'⟩, (hBU.alloc hzU _)⟩
    · have han : arw H p q = false := by simpa using ha
      have HN : Hid (∃ x ∈ pre ++ [((⟨i, hi⟩ : Fin G.length), (⟨j, hj⟩ : Fin G.length))], arw H (nd f x.1.1) (nd f x.2.1) = false) := ⟨(⟨i, hi⟩, ⟨j, hj⟩), by simp, by rw [HA.out, HA2.out]; exact han⟩
      clear ha
      rw [han]
      go_wp2_with fail
      gi_wp2
      exact ⟨hkf.trans (((KeepsOthers.alloc _ _).trans (KeepsOthers.setCell _ _ _)).from _), ⟨⟨rfl, HN⟩, bR2.set _⟩, (hBU.alloc hzU _).setCell (p := ⟨w.heap.size + 1 + 1 + 1, 0, none⟩) (by simp; omega) _⟩
  case done =>
    rintro D ys W' hD rfl ⟨⟨⟨⟨bH', bF'⟩, bR'⟩, HP⟩, hB'⟩ hK
    have cR := bR'.cell
    have fR := bR'.frozen
    gi_wp2
    have hK' := (KeepsOthers.setCell W' ⟨w.heap.size + 1 + 1 + 1, 0, none⟩ (.bool true)).same D _ hK rfl
    refine ⟨by simp, .inl ⟨_, _, rfl, run_takeDeferred hK', ?_⟩⟩
    have hc5 := cell_kept (bR'.set (.bool true)).cell (grownBy_putObj' _ D (.deferred none)) (fun r e => by cases e; exact ⟨_, hK', rfl⟩)
    refine ⟨.bool true, ?_, ret_bool (HZ.out.symm.trans (List.all_eq_true.2 fun x hx => HP.out x hx)).symm, (hB'.setCell (p := ⟨w.heap.size + 1 + 1 + 1, 0, none⟩) (by simp; omega) _).trans (belowK_b (w := w) (Nat.le_refl _) _ D _ _ (by omega) hK' rfl rfl)⟩
    simp [results, Try.f92, go_sem, hc5]
  case stop =>
    rintro D c' pre W' hD hpre ⟨⟨⟨rfl, HN⟩, bR'⟩, hB'⟩ hK
    gi_wp2
    refine ⟨by simp, .inl ⟨_, _, rfl, run_takeDeferred hK, ?_⟩⟩
    have hc5 := cell_kept bR'.cell (grownBy_putObj' _ D (.deferred none)) (fun r e => by cases e; exact ⟨_, hK, rfl⟩)
    have hf : leadsI G H f = false := by
      obtain ⟨x, hx, hx2⟩ := HN.out
      refine Bool.eq_false_iff.2 fun h => ?_
      have := List.all_eq_true.1 h x (hpre.subset hx)
      rw [hx2] at this
      cases this
    refine ⟨.bool false, ?_, ret_bool (HZ.out.symm.trans hf).symm, hB'.trans (belowK_b (w := w) (Nat.le_refl _) W' D _ _ (by omega) hK rfl rfl)⟩
    simp [results, Try.f92, go_sem, hc5]

end Go.Proofs.Ytldkgkpiceamhaa

namespace Go.Proofs.Ytldkgkpiceamhaa
open Go.RowKit Go.Shelf Go.Deep

theorem leadsAllP (n₀ : Nat) (a a' a'' : Option Addr) (c c' c'' : Nat) (G H : List (List Int)) (f : List Int) (w : World) (hM : Mat n₀ w a G) (hM' : Mat n₀ w a' H) (hI : Ints n₀ w a'' f) (hn : n₀ ≤ w.heap.size) (hG : Good G) (hG' : Good H) (hT : Tells G.length H.length f) :
    Calls Try.prog 92 #[.agg #[.slice a G.length c], .agg #[.slice a' H.length c'], .slice a'' f.length c''] w (Ans (.bool (leadsI G H f)) w) :=
  callsIn_wide.1 (leadsAll_in n₀ a a' a'' c c' c'' G H f w hM hM' hI hn hG hG' hT)

set_option maxRecDepth 100000 in
set_option maxHeartbeats 1000000 in
theorem implMapOk (a : Option Addr) (c : Nat) (a' : Option Addr) (c' : Nat) (a'' : Option Addr) (c'' : Nat) (G H : List (List Int)) (f : List Int) (w : World) (hM : Mat w.heap.size w a G) (hM' : Mat w.heap.size w a' H) (hI : Ints w.heap.size w a'' f) (hf : Fit G) (hf' : Fit H) (hl : f.length ≤ 1048576) :
    Calls Try.prog 56 #[.slice a G.length c, .slice a' H.length c', .slice a'' f.length c''] w (Ans (.bool (mapOkI G H f)) w) := by
  have HF := Lib.hid hf
  have HF' := Lib.hid hf'
  have hlf := hf.1
  have hlf' := hf'.1
  clear hf hf'
  obtain ⟨z, HZ⟩ : ∃ z, Hid (mapOkI G H f = z) := ⟨_, rfl⟩
  rw [HZ.out]
  by_cases hg : gOk G = true
  · by_cases hg' : gOk H = true
    · have HG := Lib.hid (good_of hg)
      have HG' := Lib.hid (good_of hg')
      have h9' := HG'.out.2.1
      go_enter Try.func56, Try.ntmps56
      go_wp2_with fail
      refine (implOk _ _ _ _ hM HF.out).mono ?_
      rintro e w1 ⟨rfl, hB1⟩
      have hz1 := hB1.size
      have hM1 := hM.below hB1
      have hM1' := hM'.below hB1
      have hI1 := hI.below hB1
      clear hM hM' hI
      rw [hg]
      go_wp2_with fail
      refine (implOk _ _ _ _ (hM1'.more hz1) HF'.out).mono ?_
      rintro e w2 ⟨rfl, hB2⟩
      have hB02 := hB1.trans (hB2.mono hz1)
      have hM2 := hM1.below (hB2.mono hz1)
      have hM2' := hM1'.below (hB2.mono hz1)
      have hI2 := hI1.below (hB2.mono hz1)
      have hz2 := hB02.size
      clear hM1 hM1' hI1 hB1 hB2 hz1
      rw [hg']
      go_wp2_with fail
      have bG := ((Boxed.new w2 61 (.slice a G.length c)).alloc (.cells #[.slice a' H.length c'] 61))
      have bH := Boxed.new (w2.alloc (.cells #[.slice a G.length c] 61)) 61 (.slice a' H.length c')
      have hB2V : Below w2.heap.size w2 ((w2.alloc (.cells #[.slice a G.length c] 61)).alloc (.cells #[.slice a' H.length c'] 61)) := (((Below.refl _ w2).alloc (Nat.le_refl _) _).alloc (by simp) _)
      have es : ∀ (W : World) (o : Obj), (W.alloc o).heap.size = W.heap.size + 1 := fun W o => by simp
      rw [es] at bH
      obtain ⟨V, hV⟩ : ∃ V, (w2.alloc (.cells #[.slice a G.length c] 61)).alloc (.cells #[.slice a' H.length c'] 61) = V := ⟨_, rfl⟩
      rw [hV] at bG bH hB2V ⊢
      clear hV es
      have hB3 := hB02.trans (hB2V.mono hz2)
      have hM3 := hM2.below (hB2V.mono hz2)
      have hM3' := hM2'.below (hB2V.mono hz2)
      have hI3 := hI2.below (hB2V.mono hz2)
      have hz3 := hB3.size
      have cG := bG.cell
      have cH := bH.cell
      clear hM2 hM2' hI2 hB02 hB2V
      go_wp2_with fail
      refine (tellsP _ _ _ _ _ _ _ _ _ _ _ hI3 hz3 hl).mono ?_
      rintro e w4 ⟨rfl, hB4⟩
      have bG4 := (hB4.block _ bG.lt).trans bG
      have bH4 := (hB4.block _ bH.lt).trans bH
      have hB4' := hB3.trans (hB4.mono hz3)
      have hM4 := hM3.below (hB4.mono hz3)
      have hM4' := hM3'.below (hB4.mono hz3)
      have hI4 := hI3.below (hB4.mono hz3)
      have hz4 := hB4'.size
      have cG4 := Boxed.cell bG4
      have cH4 := Boxed.cell bH4
      clear hM3 hM3' hI3 hB3 hB4 cG cH bG bH bG4 bH4
      by_cases ht : tellsI G.length H.length f = true
      · have HT := Lib.hid ((tells_iff _ _ _).1 ht)
        have HL : Hid (z = leadsI G H f) := Lib.hid (HZ.out.symm.trans (mapOk_yes hg hg' ht))
        rw [ht]
        go_wp2_with fail
        refine (leadsAllP _ _ _ _ _ _ _ _ _ _ _ hM4 hM4' hI4 hz4 HG.out HG'.out HT.out).mono ?_
        rintro e w5 ⟨rfl, hB5⟩
        go_wp2_with fail
        go_ret
        exact ⟨ret_bool HL.out.symm, hB4'.trans (hB5.mono hz4)⟩
      · have hn : tellsI G.length H.length f = false := by simpa using ht
        have HL : Hid (z = false) := Lib.hid (HZ.out.symm.trans (mapOk_no3 hn))
        rw [hn]
        go_wp2_with fail
        go_ret
        exact ⟨ret_bool HL.out.symm, hB4'⟩
    · have hn : gOk H = false := by simpa using hg'
      have HL : Hid (z = false) := Lib.hid (HZ.out.symm.trans (mapOk_no2 hn))
      clear hg'
      go_enter Try.func56, Try.ntmps56
      go_wp2_with fail
      refine (implOk _ _ _ _ hM HF.out).mono ?_
      rintro e w1 ⟨rfl, hB1⟩
      have hz1 := hB1.size
      have hM1' := hM'.below hB1
      clear hM hM' hI
      rw [hg]
      go_wp2_with fail
      refine (implOk _ _ _ _ (hM1'.more hz1) HF'.out).mono ?_
      rintro e w2 ⟨rfl, hB2⟩
      have hB02 := hB1.trans (hB2.mono hz1)
      clear hM1' hB1 hB2
      rw [hn]
      go_wp2_with fail
      go_ret
      exact ⟨ret_bool HL.out.symm, hB02⟩
  · have hn : gOk G = false := by simpa using hg
    have HL : Hid (z = false) := Lib.hid (HZ.out.symm.trans (mapOk_no1 hn))
    clear hg
    go_enter Try.func56, Try.ntmps56
    go_wp2_with fail
    refine (implOk _ _ _ _ hM HF.out).mono ?_
    rintro e w1 ⟨rfl, hB1⟩
    clear hM hM' hI
    rw [hn]
    go_wp2_with fail
    go_ret
    exact ⟨ret_bool HL.out.symm, hB1⟩

end Go.Proofs.Ytldkgkpiceamhaa

namespace Go.Proofs.Ytldkgkpiceamhaa
open Go.RowKit Go.Shelf Go.Deep

theorem AL_mem {xss : List (List Int)} (x : Fin xss.length × Fin xss.length) : x ∈ AL xss ↔ arw xss x.1.1 x.2.1 = true := by
  unfold AL
  rw [List.mem_filter]
  exact ⟨fun h => h.2, fun h => ⟨PL_all x, h⟩⟩
theorem leadsI_iff {G H : List (List Int)} {f : List Int} : leadsI G H f = true ↔ ∀ i j, i < G.length → j < G.length → arw G i j = true → arw H (nd f i) (nd f j) = true := by
  unfold leadsI
  rw [List.all_eq_true]
  exact ⟨fun h i j hi hj ha => h (⟨i, hi⟩, ⟨j, hj⟩) ((AL_mem _).2 ha), fun h x hx => h x.1.1 x.2.1 x.1.2 x.2.2 ((AL_mem x).1 hx)⟩
theorem arw_ent {xss : List (List Int)} {i j : Nat} : arw xss i j = true ↔ ent xss i j = 1 := by unfold arw; simp

set_option maxRecDepth 100000 in
set_option maxHeartbeats 4000000 in
theorem specMapOk (a : Option Addr) (c : Nat) (a' : Option Addr) (c' : Nat) (a'' : Option Addr) (c'' : Nat) (G H : List (List Int)) (f : List Int) (n₀ : Nat) (w : World) (hM : Mat n₀ w a G) (hM' : Mat n₀ w a' H) (hI : Ints n₀ w a'' f) (hf : Fit G) (hf' : Fit H) (hl : f.length ≤ 1048576) :
    Calls Try.prog 18 #[.slice a G.length c, .slice a' H.length c', .slice a'' f.length c''] w (Still (.bool (mapOkI G H f)) w) := by
  have HF := Lib.hid hf
  have HF' := Lib.hid hf'
  have hlf := hf.1
  have hlf' := hf'.1
  clear hf hf'
  obtain ⟨z, HZ⟩ : ∃ z, Hid (mapOkI G H f = z) := ⟨_, rfl⟩
  rw [HZ.out]
  by_cases hg : gOk G = true
  · by_cases hg' : gOk H = true
    · by_cases hfl : f.length = G.length
      · have HG := Lib.hid (good_of hg)
        have HG' := Lib.hid (good_of hg')
        have h1' := HG'.out.1
        have h9 := HG.out.2.1
        have h9' := HG'.out.2.1
        have HL := Lib.hid hfl
        have hfne : ((f.length : Int) != (G.length : Int)) = false := by simp; omega
        clear hfl
        go_enter Try.func18, Try.ntmps18
        go_wp2_with fail
        refine (specOk_any _ _ _ _ _ hM HF.out).mono ?_
        rintro e w' ⟨rfl, rfl⟩
        rw [hg]
        go_wp2_with fail
        refine (specOk_any _ _ _ _ _ hM' HF'.out).mono ?_
        rintro e w' ⟨rfl, rfl⟩
        rw [hg']
        go_wp2_with fail
        go_loop [7] (fun i => ∃ k : Nat, k ≤ f.length ∧ i = .int .i64 k ∧ Hid (∀ (j : Nat) (y : Int), j < k → f[j]? = some y → 0 ≤ y ∧ y < H.length)) (fun i => f.length - (intOf i).toNat)
        case atStart => exact ⟨0, Nat.zero_le _, rfl, fun j y h => absurd h (Nat.not_lt_zero _)⟩
        case round =>
          obtain ⟨k, hk, rfl, HR⟩ := hrel
          by_cases hlt : k < f.length
          · obtain ⟨b, o, y, rfl, hb, hc, HY⟩ := hI.at_ hlt
            by_cases hy0 : y < 0
            · have HN : Hid (z = false) := Lib.hid (HZ.out.symm.trans (mapOk_no3 (tells_no fun h => by have := (h.2 k y HY.out).1; omega)))
              go_wp2_with fail
              refine (in_lo _ _ _ _ hy0).mono ?_
              rintro e w' ⟨rfl, rfl⟩
              go_wp2_with fail
              go_ret
              exact ⟨ret_bool HN.out.symm, 0, rfl⟩
            by_cases hy1 : (H.length : Int) ≤ y
            · have HN : Hid (z = false) := Lib.hid (HZ.out.symm.trans (mapOk_no3 (tells_no fun h => by have := (h.2 k y HY.out).2; omega)))
              go_wp2_with fail
              refine (in_hi _ _ _ _ (by omega) (by omega)).mono ?_
              rintro e w' ⟨rfl, rfl⟩
              go_wp2_with fail
              go_ret
              exact ⟨ret_bool HN.out.symm, 0, rfl⟩
            go_wp2_with fail
            refine (in_yes _ _ _ _ (by omega) (by omega)).mono ?_
            rintro e w' ⟨rfl, rfl⟩
            go_wp2_with fail
            go_round
            case rel => exact ⟨k + 1, by omega, by go_num, fun j x hj hx => by
              by_cases e : j = k
              · subst e; rw [HY.out] at hx; cases hx; omega
              · exact HR.out j x (by omega) hx⟩
            case measure => simp [intOf]; omega
          · obtain rfl : k = f.length := by omega
            have HT : Hid (Tells G.length H.length f) := ⟨HL.out, fun j y hy => HR.out j y (List.getElem?_eq_some_iff.1 hy).1 hy⟩
            have HZ2 : Hid (leadsI G H f = z) := Lib.hid ((mapOk_yes hg hg' (tells_yes HT.out)).symm.trans HZ.out)
            clear HR HZ hlt hk
            go_wp2_with fail
            go_loopw [8] (fun i wr => ∃ (k q : Nat), k ≤ G.length ∧ i = .int .i64 k ∧ wr = w.drewN q ∧ Hid (∀ i j, i < k → j < G.length → arw G i j = true → arw H (nd f i) (nd f j) = true)) (fun i _ => G.length - (intOf i).toNat)
            case atStart => exact ⟨0, 0, Nat.zero_le _, rfl, rfl, fun i j h => absurd h (Nat.not_lt_zero _)⟩
            case round =>
              obtain ⟨k, q, hk, rfl, rfl, HR⟩ := hrel
              by_cases hlt : k < G.length
              · obtain ⟨b, o, a1, c1, xs, rfl, hb, hc, hX, HX⟩ := hM.at_ hlt
                have HE := Lib.hid (HG.out.len HX.out)
                obtain ⟨p, hp, enp, hpH⟩ := tells_at HT.out hlt
                obtain ⟨b2, o2, y, rfl, hb2, hc2, HY⟩ := hI.at_ (k := k) (by rw [HL.out]; exact hlt)
                have ey : y = (p : Int) := by have := HY.out; rw [hp] at this; cases this; rfl
                subst ey
                obtain ⟨b3, o3, a3, c3, ys, rfl, hb3, hc3, hYs, HYs⟩ := hM'.at_ hpH
                have HE3 := Lib.hid (HG'.out.len HYs.out)
                have HP := Lib.hid enp
                have hkf : k < f.length := by rw [HL.out]; exact hlt
                clear hp enp HY
                go_wp2_with fail
                go_loopw [9] (fun i wr => ∃ (j q : Nat), j ≤ G.length ∧ i = .int .i64 j ∧ wr = w.drewN q ∧ Hid (∀ l, l < j → arw G k l = true → arw H (nd f k) (nd f l) = true)) (fun i _ => G.length - (intOf i).toNat)
                case atStart => exact ⟨0, q, Nat.zero_le _, rfl, rfl, fun l h => absurd h (Nat.not_lt_zero _)⟩
                case round =>
                  obtain ⟨j, q2, hj, rfl, rfl, HRj⟩ := hrel
                  by_cases hltj : j < G.length
                  · obtain ⟨b4, o4, v, rfl, hb4, hc4, HV⟩ := hX.at_ (k := j) (by rw [HE.out]; exact hltj)
                    obtain ⟨r, hr, enr, hrH⟩ := tells_at HT.out hltj
                    obtain ⟨b5, o5, y5, e5, hb5, hc5, HY5⟩ := hI.at_ (k := j) (by rw [HL.out]; exact hltj)
                    cases e5
                    have ey5 : y5 = (r : Int) := by have := HY5.out; rw [hr] at this; cases this; rfl
                    subst ey5
                    obtain ⟨b6, o6, u, rfl, hb6, hc6, HU⟩ := hYs.at_ (k := r) (by rw [HE3.out]; exact hrH)
                    have hv : v = 0 ∨ v = 1 := by
                      have := (good_iff_ent HG.out.1 HG.out.2.1 (fun i xs h => HG.out.len h)).1 HG.out (⟨k, hlt⟩, ⟨j, hltj⟩)
                      rw [ent_eq HX.out HV.out] at this; exact this
                    have hu : u = 0 ∨ u = 1 := by
                      have := (good_iff_ent HG'.out.1 HG'.out.2.1 (fun i xs h => HG'.out.len h)).1 HG'.out (⟨p, hpH⟩, ⟨r, hrH⟩)
                      rw [ent_eq HYs.out HU.out] at this; exact this
                    have hx1 : j < xs.length := by rw [HE.out]; exact hltj
                    have hx2 : r < ys.length := by rw [HE3.out]; exact hrH
                    have hx9 : xs.length ≤ 9 := by rw [HE.out]; exact h9
                    have hy9 : ys.length ≤ 9 := by rw [HE3.out]; exact h9'
                    have hjf : j < f.length := by rw [HL.out]; exact hltj
                    have HAu : Hid (arw H (nd f k) (nd f j) = (u == 1)) := Lib.hid (by rw [HP.out, enr]; unfold arw; rw [ent_eq HYs.out HU.out])
                    have HAv : Hid (arw G k j = (v == 1)) := Lib.hid (by unfold arw; rw [ent_eq HX.out HV.out])
                    clear hr enr HY5 HV HU
                    rcases hv with rfl | rfl
                    · go_wp2_with fail
                      go_quiet (fail)
                      go_wp2_with fail
                      go_roundw
                      case rel => exact ⟨j + 1, _, by omega, by go_num, rfl, fun l hl ha => by
                        by_cases e : l = j
                        · subst e; rw [HAv.out] at ha; cases ha
                        · exact HRj.out l (by omega) ha⟩
                      case measure => simp [intOf]; omega
                    · rcases hu with rfl | rfl
                      · have HN : Hid (z = false) := Lib.hid (HZ2.out.symm.trans (Bool.eq_false_iff.2 fun h => by
                          have := leadsI_iff.1 h k j hlt hltj HAv.out
                          rw [HAu.out] at this; cases this))
                        go_wp2_with fail
                        go_quiet (fail)
                        go_wp2_with fail
                        go_ret
                        exact ⟨ret_bool HN.out.symm, _, World.drewN_drewN _ _ _⟩
                      · go_wp2_with fail
                        go_quiet (fail)
                        go_wp2_with fail
                        go_roundw
                        case rel => exact ⟨j + 1, _, by omega, by go_num, rfl, fun l hl ha => by
                          by_cases e : l = j
                          · subst e; exact HAu.out
                          · exact HRj.out l (by omega) ha⟩
                        case measure => simp [intOf]; omega
                  · obtain rfl : j = G.length := by omega
                    go_wp2_with fail
                    go_roundw
                    case rel => exact ⟨k + 1, q2, by omega, by go_num, rfl, fun i l hi hl ha => by
                      by_cases e : i = k
                      · subst e; exact HRj.out l hl ha
                      · exact HR.out i l (by omega) hl ha⟩
                    case measure => simp [intOf]; omega
              · obtain rfl : k = G.length := by omega
                have HN : Hid (z = true) := Lib.hid (HZ2.out.symm.trans (leadsI_iff.2 fun i j hi hj ha => HR.out i j hi hj ha))
                go_wp2_with fail
                go_ret
                exact ⟨ret_bool HN.out.symm, _, rfl⟩
      · have HL : Hid (z = false) := Lib.hid (HZ.out.symm.trans (mapOk_no3 (tells_no fun h => hfl h.1)))
        have hfne : ((f.length : Int) != (G.length : Int)) = true := by simp; omega
        clear hfl
        go_enter Try.func18, Try.ntmps18
        go_wp2_with fail
        refine (specOk_any _ _ _ _ _ hM HF.out).mono ?_
        rintro e w' ⟨rfl, rfl⟩
        rw [hg]
        go_wp2_with fail
        refine (specOk_any _ _ _ _ _ hM' HF'.out).mono ?_
        rintro e w' ⟨rfl, rfl⟩
        rw [hg']
        go_wp2_with fail
        go_ret
        exact ⟨ret_bool HL.out.symm, 0, rfl⟩
    · have hn : gOk H = false := by simpa using hg'
      have HL : Hid (z = false) := Lib.hid (HZ.out.symm.trans (mapOk_no2 hn))
      clear hg'
      go_enter Try.func18, Try.ntmps18
      go_wp2_with fail
      refine (specOk_any _ _ _ _ _ hM HF.out).mono ?_
      rintro e w' ⟨rfl, rfl⟩
      rw [hg]
      go_wp2_with fail
      refine (specOk_any _ _ _ _ _ hM' HF'.out).mono ?_
      rintro e w' ⟨rfl, rfl⟩
      rw [hn]
      go_wp2_with fail
      go_ret
      exact ⟨ret_bool HL.out.symm, 0, rfl⟩
  · have hn : gOk G = false := by simpa using hg
    have HL : Hid (z = false) := Lib.hid (HZ.out.symm.trans (mapOk_no1 hn))
    clear hg
    go_enter Try.func18, Try.ntmps18
    go_wp2_with fail
    refine (specOk_any _ _ _ _ _ hM HF.out).mono ?_
    rintro e w' ⟨rfl, rfl⟩
    rw [hn]
    go_wp2_with fail
    go_ret
    exact ⟨ret_bool HL.out.symm, 0, rfl⟩

end Go.Proofs.Ytldkgkpiceamhaa
