/-
  impl.GraphOk answers whether the rows are a graph.
-/
import Derived.Test.YtmohmecdhabapacB1
namespace Go.Proofs.Ytmohmecdhabapac
open Go.RowKit Go.Shelf

attribute [local go_sem] Oper.semAt_some

/-- WHAT A ROUND KEEPS: a box that lies there. -/
def KBox (B : Nat) (t : TypeId) (v : Value) (W W' : World) : Prop := Boxed W B t v → Boxed W' B t v
theorem KBox.t {B : Nat} {t : TypeId} {v : Value} {X Y Z : World} (h : KBox B t v X Y) (k : KBox B t v Y Z) : KBox B t v X Z := fun b => k (h b)
theorem KBox.b {B : Nat} {t : TypeId} {v : Value} (W : World) (l : Nat) (o o' : Obj) (h : W.heap[l]? = some o) (hc : o.isCells = false) : KBox B t v W (W.putObj l o') := fun b =>
  b.kept (grownBy_putObj' W l o') (fun e => by cases e; rw [show W.heap[B]? = _ from b] at h; cases h; cases hc)

set_option maxHeartbeats 1000000 in
theorem nodes_in (F : Fence) (n : Nat) (hF : ∀ k, F.fn k) (hro : F.round = none) (a : Option Addr) (m c : Nat) (w : World) :
    CallsIn F n Try.prog 42 #[.agg #[.slice a m c]] w fun e w' => e = .returned (.int .i64 m) ∧ w' = w.alloc (.cells #[.slice a m c] 49) := by
  have h0 := hF 42
  clear hF
  refine callsIn_of_wp Try.func42 rfl h0 ?_ hro
  simp only [Try.ntmps42, List.size_toArray, List.length_cons, List.length_nil, Nat.reduceAdd, Nat.reduceSub, Array.replicate_succ, Array.replicate_zero, List.push_toArray, List.append_toArray, List.nil_append, List.cons_append]
  gi_wp2
  go_ret
  exact ⟨rfl, rfl⟩

/-- THE NUMBER in row i at place j. -/
def ent (xss : List (List Int)) (i j : Nat) : Int := ((xss[i]?.getD [])[j]?).getD 0
theorem ent_eq {xss : List (List Int)} {i j : Nat} {xs : List Int} {v : Int} (h : xss[i]? = some xs) (k : xs[j]? = some v) : ent xss i j = v := by simp [ent, h, k]
theorem good_iff_ent {xss : List (List Int)} (h1 : 1 ≤ xss.length) (h9 : xss.length ≤ 9) (hl : ∀ (i : Nat) (xs : List Int), xss[i]? = some xs → xs.length = xss.length) :
    Good xss ↔ ∀ x : Fin xss.length × Fin xss.length, ent xss x.1.1 x.2.1 = 0 ∨ ent xss x.1.1 x.2.1 = 1 := by
  constructor
  · intro g x
    have e1 := List.getElem?_eq_getElem x.1.2
    have hx := hl _ _ e1
    have e2 := List.getElem?_eq_getElem (l := xss[x.1.1]) (i := x.2.1) (by rw [hx]; exact x.2.2)
    rw [ent_eq e1 e2]
    exact (g.2.2 _ (List.mem_of_getElem? e1)).2 _ (List.mem_of_getElem? e2)
  · intro g
    refine ⟨h1, h9, fun xs hxs => ?_⟩
    obtain ⟨i, hi, rfl⟩ := List.mem_iff_getElem.1 hxs
    have e1 := List.getElem?_eq_getElem hi
    refine ⟨hl _ _ e1, fun v hv => ?_⟩
    obtain ⟨j, hj, rfl⟩ := List.mem_iff_getElem.1 hv
    have e2 := List.getElem?_eq_getElem hj
    have := g (⟨i, hi⟩, ⟨j, by rw [← hl _ _ e1]; exact hj⟩)
    rw [ent_eq e1 e2] at this
    exact this

/-- THE ANSWER IS v; WHATEVER LAY BELOW LIES AS IT LAY. -/
def Ans (v : Value) (w : World) (e : Ending) (w' : World) : Prop := e = .returned v ∧ Below w.heap.size w w'

set_option maxRecDepth 100000 in
set_option maxHeartbeats 4000000 in
theorem ok_in (F : Fence) (n : Nat) (hF : ∀ k, F.fn k) (hro : F.round = none) (hn : 6 ≤ n) (a : Option Addr) (c : Nat) (xss : List (List Int)) (w : World) (hM : Mat w.heap.size w a xss) (hf : Fit xss) :
    CallsIn F n Try.prog 38 #[.agg #[.slice a xss.length c]] w (Ans (.bool (gOk xss)) w) := by
  have h1 : 1 ≤ n := by omega
  have hl := hf.1
  have HF := Lib.hid hf
  clear hf
  have h0 := hF 38
  have hf1 := hF 42
  have hf2 := hF 54
  have hf3 := hF 62
  have HFn := Lib.hid hF
  clear hF
  refine callsIn_of_wp_marks Try.func38 rfl h0 ?_ hro
  simp only [Try.ntmps38, List.size_toArray, List.length_cons, List.length_nil, Nat.reduceAdd, Nat.reduceSub, Array.replicate_succ, Array.replicate_zero, List.push_toArray, List.append_toArray, List.nil_append, List.cons_append]
  have hs0 : ∀ o1 o2 : Obj, ((w.alloc o1).alloc o2).heap.size = w.heap.size + 1 + 1 := by simp
  by_cases hlo : xss.length < 1
  · gi_wp2_with (gi_at_call 42; refine (nodes_in F (n - 1) HFn.out hro _ _ _ _).mono ?_; rintro e w' ⟨rfl, rfl⟩)
    refine ⟨.bool false, by simp [results, Try.f38, go_sem], ret_bool (gOk_false fun g => by have := g.1; omega).symm, ?_⟩
    exact ((((Below.refl _ _).alloc (Nat.le_refl _) _).alloc (by simp) _).alloc (by simp; omega) _)
  by_cases hhi : 9 < xss.length
  · gi_wp2_with (gi_at_call 42; refine (nodes_in F (n - 1) HFn.out hro _ _ _ _).mono ?_; rintro e w' ⟨rfl, rfl⟩)
    refine ⟨.bool false, by simp [results, Try.f38, go_sem], ret_bool (gOk_false fun g => by have := g.2.1; omega).symm, ?_⟩
    exact (((((Below.refl _ _).alloc (Nat.le_refl _) _).alloc (by simp) _).alloc (by simp; omega) _).alloc (by simp; omega) _)
  have hle : xss.length ≤ 9 := by omega
  have hge : 1 ≤ xss.length := by omega
  clear hlo hhi
  have bG := (((Boxed.new w 49 (.slice a xss.length c)).alloc (.cells #[.bool false] 4)).alloc (.cells #[.slice a xss.length c] 49)).alloc (.cells #[.slice a xss.length c] 49)
  have bR := ((Boxed.new (w.alloc (.cells #[.slice a xss.length c] 49)) 4 (.bool false)).alloc (.cells #[.slice a xss.length c] 49)).alloc (.cells #[.slice a xss.length c] 49)
  have hB0 := ((((Below.refl w.heap.size w).alloc (Nat.le_refl _) (.cells #[.slice a xss.length c] 49)).alloc (by simp) (.cells #[.bool false] 4)).alloc (by simp; omega) (.cells #[.slice a xss.length c] 49)).alloc (by simp; omega) (.cells #[.slice a xss.length c] 49)
  simp only [World.size_alloc] at bR
  gi_wp2_with (gi_at_call 42; refine (nodes_in F (n - 1) HFn.out hro _ _ _ _).mono ?_; rintro e w' ⟨rfl, rfl⟩)
  gi_loopw [19] (fun i wr => ∃ k : Nat, k ≤ xss.length ∧ i = .int .i64 k ∧ Boxed wr w.heap.size 49 (.slice a xss.length c) ∧ Boxed wr (w.heap.size + 1) 4 (.bool false) ∧ Below w.heap.size w wr ∧ Hid (∀ j xs, j < k → xss[j]? = some xs → xs.length = xss.length))
    (fun i _ => xss.length - (intOf i).toNat)
  case atStart => exact ⟨0, Nat.zero_le _, rfl, bG, bR, hB0, fun j xs h => absurd h (Nat.not_lt_zero _)⟩
  case round =>
    obtain ⟨k, hk, rfl, bG1, bR1, hB1, HR⟩ := hrel
    clear bG bR hB0 hs0
    have cG := bG1.cell
    have cR := bR1.cell
    have fR := bR1.frozen
    by_cases hlt : k < xss.length
    · obtain ⟨b, o, a', c', xs, rfl, hb, hc0, hI, HX⟩ := hM.at_ hlt
      have hc : wr.cell? ⟨b, o + k, none⟩ = some (.slice a' xs.length c') := (hB1.cell (p := ⟨b, o + k, none⟩) hb).trans hc0
      clear hc0
      have hxl := HF.out.at_ HX.out
      by_cases hx : xs.length = xss.length
      · have hx2 : ((xs.length : Int) != xss.length) = false := by simp [hx]
        have HE := Lib.hid hx
        clear hx
        gi_wp2_with (gi_at_call 42; refine (nodes_in F (n - 1) HFn.out hro _ _ _ _).mono ?_; rintro e w' ⟨rfl, rfl⟩)
        go_roundw
        case rel => exact ⟨k + 1, by omega, by go_num, bG1.alloc _, bR1.alloc _, hB1.alloc hB1.size _, fun j ys hj hy => by
          by_cases e : j = k
          · subst e; rw [HX.out] at hy; cases hy; exact HE.out
          · exact HR.out j ys (by omega) hy⟩
        case measure => simp [intOf]; omega
      · have hx2 : ((xs.length : Int) != xss.length) = true := by simp; omega
        have fR' := fun o : Obj => (bR1.alloc o).frozen
        have cR'' := fun o : Obj => (bR1.alloc o).cell
        gi_wp2_with (gi_at_call 42; refine (nodes_in F (n - 1) HFn.out hro _ _ _ _).mono ?_; rintro e w' ⟨rfl, rfl⟩)
        have cR' := ((bR1.alloc (.cells #[.slice (some ⟨b, o, none⟩) xss.length c] 49)).set (.bool false)).cell
        refine ⟨.bool false, by simp [results, Try.f38, go_sem, cR'], ret_bool (gOk_row HX.out fun g => hx g.1).symm, ?_⟩
        exact (hB1.alloc hB1.size _).setCell (p := ⟨w.heap.size + 1, 0, none⟩) (Nat.le_succ _) _
    · obtain rfl : k = xss.length := by omega
      have hlen : ∀ (i : Nat) (xs : List Int), xss[i]? = some xs → xs.length = xss.length := fun i xs hi => HR.out i xs (List.getElem?_eq_some_iff.1 hi).1 hi
      have HL := Lib.hid hlen
      clear hlen HR
      gi_wp2_with (first | (gi_at_call 42; refine (nodes_in F (n - 1) HFn.out hro _ _ _ _).mono ?_; rintro e w' ⟨rfl, rfl⟩) | (gi_at_call 54; refine (pairs_in F (n - 1) HFn.out hro _ _).mono ?_; rintro e w' ⟨rfl, rfl⟩))
      have hwN : w.heap.size + 1 < wr.heap.size := bR1.lt
      have bP := Boxed.new (wr.alloc (.cells #[.slice a xss.length c] 49)) 3 (.int .i64 xss.length)
      have bG2 := (bG1.alloc (.cells #[.slice a xss.length c] 49)).alloc (.cells #[.int .i64 xss.length] 3)
      have bR2 := (bR1.alloc (.cells #[.slice a xss.length c] 49)).alloc (.cells #[.int .i64 xss.length] 3)
      have hB2 := (hB1.alloc hB1.size (.cells #[.slice a xss.length c] 49)).alloc (by simp; omega) (.cells #[.int .i64 xss.length] 3)
      rw [World.size_alloc] at bP
      clear bG1 bR1 hB1 cG cR fR
      refine wpIn_rangeFunc_ownG hro h1 (gf := 62) (lb := #[.pointer (some ⟨wr.heap.size + 1, 0, none⟩)]) rfl hf3 (enters_of Try.func62 (by kernel_rfl) rfl)
        (pairs_stops F (n - 1) HFn.out hro (by omega) (wr.heap.size + 1) xss.length hl (KBox (wr.heap.size + 1) 3 (.int .i64 xss.length)) (fun _ _ k b => k b) _ bP) (fun h k => KBox.t h k) (fun W l o o' _ h hc _ => KBox.b W l o o' h hc) (Below.refl _ _) (fun _ => rfl)
        (fun pre W => ((Boxed W w.heap.size 49 (.slice a xss.length c) ∧ Boxed W (w.heap.size + 1) 4 (.bool false)) ∧ Hid (∀ x ∈ pre, ent xss x.1.1 x.2.1 = 0 ∨ ent xss x.1.1 x.2.1 = 1)) ∧ Below w.heap.size w W)
        (fun c' pre W => ((c' = .ret ∧ Hid (¬ Good xss)) ∧ Boxed W (w.heap.size + 1) 4 (.bool false)) ∧ Below w.heap.size w W)
        (OwnFrom.and (OwnFrom.and (OwnFrom.and (Own.from (boxed_own _ _ _) _) (Own.from (boxed_own _ _ _) _)) (ownFrom_pure _ _)) (ownFrom_below (Nat.le_refl _) (by simp; omega)))
        (fun c' => OwnFrom.and (OwnFrom.and (ownFrom_pure _ _) (Own.from (boxed_own _ _ _) _)) (ownFrom_below (Nat.le_refl _) (by simp; omega)))
        ⟨⟨⟨bG2, bR2⟩, fun x hx => absurd hx (by simp)⟩, hB2⟩ ?a1 ?assign ?body ?done ?stop
      case assign =>
        intro l x W K hK
        gi_wp2
        exact hK
      case body =>
        rintro l pre ⟨⟨i, hi⟩, ⟨j, hj⟩⟩ W ⟨⟨⟨bG3, bR3⟩, HP⟩, hB3⟩ _
        obtain ⟨b, o, a', c', xs, rfl, hb, hc0, hI, HX⟩ := hM.at_ hi
        have hxl := HL.out _ _ HX.out
        obtain ⟨b', o', v, rfl, hb', hd0, HY⟩ := hI.at_ (k := j) (by rw [hxl]; exact hj)
        have HXL := Lib.hid hxl
        have hj2 : j < xs.length := by rw [hxl]; exact hj
        clear hxl
        have hc : W.cell? ⟨b, o + i, none⟩ = some (.slice (some ⟨b', o', none⟩) xs.length c') := (hB3.cell (p := ⟨b, o + i, none⟩) hb).trans hc0
        have hd : W.cell? ⟨b', o' + j, none⟩ = some (.int .i64 v) := (hB3.cell (p := ⟨b', o' + j, none⟩) hb').trans hd0
        clear hc0 hd0
        have cG := bG3.cell
        have cR := bR3.cell
        have fR := bR3.frozen
        have HV := Lib.hid (ent_eq HX.out HY.out)
        by_cases hv : v = 0 ∨ v = 1
        · have HP' : Hid (∀ x ∈ pre ++ [((⟨i, hi⟩ : Fin xss.length), (⟨j, hj⟩ : Fin xss.length))], ent xss x.1.1 x.2.1 = 0 ∨ ent xss x.1.1 x.2.1 = 1) := fun x hx => by
            rcases List.mem_append.1 hx with h | h
            · exact HP.out x h
            · simp only [List.mem_singleton] at h; subst h; rw [HV.out]; exact hv
          rcases hv with rfl | rfl
          all_goals
            gi_wp2
            exact ⟨KeepsFrom.refl _ _, fun b => b, ⟨⟨bG3, bR3⟩, HP'⟩, hB3⟩
        · have hv0 : (v != 0) = true := by simp; omega
          have hv1 : (v != 1) = true := by simp; omega
          have HNG : Hid (¬ Good xss) := fun g => hv (by
            have := (good_iff_ent hge hle HL.out).1 g (⟨i, hi⟩, ⟨j, hj⟩)
            rw [HV.out] at this; exact this)
          clear hv
          gi_wp2
          exact ⟨(KeepsOthers.setCell _ _ _).from _, ⟨⟨rfl, HNG⟩, bR3.set _⟩, hB3.setCell (p := ⟨w.heap.size + 1, 0, none⟩) (by simp) _⟩
      case done =>
        rintro D ys W hD rfl ⟨⟨⟨bG3, bR3⟩, HP⟩, hB3⟩ hK
        have cR := bR3.cell
        have fR := bR3.frozen
        gi_wp2
        have hK' := (KeepsOthers.setCell W ⟨w.heap.size + 1, 0, none⟩ (.bool true)).same D _ hK rfl
        refine ⟨by simp, .inl ⟨_, _, rfl, run_takeDeferred hK', ?_⟩⟩
        have hc5 := cell_kept (bR3.set (.bool true)).cell (grownBy_putObj' _ D (.deferred none)) (fun r e => by cases e; exact ⟨_, hK', rfl⟩)
        simp at hD
        refine ⟨.bool true, ?_, ret_bool (gOk_true ((good_iff_ent hge hle HL.out).2 fun x => HP.out x (PL_all x))).symm, (hB3.setCell (p := ⟨w.heap.size + 1, 0, none⟩) (by simp) _).trans (belowK_b (w := w) (Nat.le_refl _) _ D _ _ (by omega) hK' rfl rfl)⟩
        simp [results, Try.f38, go_sem, hc5]
      case stop =>
        rintro D c' pre W hD hpre ⟨⟨⟨rfl, HN⟩, bR3⟩, hB3⟩ hK
        gi_wp2
        refine ⟨by simp, .inl ⟨_, _, rfl, run_takeDeferred hK, ?_⟩⟩
        have hc5 := cell_kept bR3.cell (grownBy_putObj' _ D (.deferred none)) (fun r e => by cases e; exact ⟨_, hK, rfl⟩)
        simp at hD
        refine ⟨.bool false, ?_, ret_bool (gOk_false HN.out).symm, hB3.trans (belowK_b (w := w) (Nat.le_refl _) W D _ _ (by omega) hK rfl rfl)⟩
        simp [results, Try.f38, go_sem, hc5]

set_option maxHeartbeats 1000000 in
theorem implOk_in (F : Fence) (n : Nat) (hF : ∀ k, F.fn k) (hro : F.round = none) (hn : 7 ≤ n) (a : Option Addr) (c : Nat) (xss : List (List Int)) (w : World) (hM : Mat w.heap.size w a xss) (hf : Fit xss) :
    CallsIn F n Try.prog 12 #[.slice a xss.length c] w (Ans (.bool (gOk xss)) w) := by
  have hl := hf.1
  have HF := Lib.hid hf
  clear hf
  have h0 := hF 12
  have h1 := hF 38
  have hn1 : 1 ≤ n := by omega
  have HFn := Lib.hid hF
  clear hF
  refine callsIn_of_wp Try.func12 rfl h0 ?_ hro
  simp only [Try.ntmps12, List.size_toArray, List.length_cons, List.length_nil, Nat.reduceAdd, Nat.reduceSub, Array.replicate_succ, Array.replicate_zero, List.push_toArray, List.append_toArray, List.nil_append, List.cons_append]
  gi_wp2_with (gi_at_call 38; refine (ok_in F (n - 1) HFn.out hro (by omega) _ _ _ _ hM HF.out).mono ?_; rintro e w' ⟨rfl, hB⟩)
  go_ret
  exact ⟨rfl, hB⟩

theorem implOk (a : Option Addr) (c : Nat) (xss : List (List Int)) (w : World) (hM : Mat w.heap.size w a xss) (hf : Fit xss) :
    Calls Try.prog 12 #[.slice a xss.length c] w (Ans (.bool (gOk xss)) w) :=
  callsIn_wide.1 (implOk_in Fence.wide 20 (fun _ => trivial) rfl (by omega) a c xss w hM hf)

end Go.Proofs.Ytmohmecdhabapac
