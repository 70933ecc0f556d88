/-
  Several texts in one.
  impl.rowsBy for a method of a value (its receiver is bound): the walk of F2 once more.
  impl.graph.way: one of two arrows taken away, pair by pair.
  impl.graph.ways: the iterator over the graphs of all ways to keep one of two arrows.
  impl.WholeOf, ColoursOk, CountColours, fewestTold, FewestOf, BothWays, OneWay.
-/
import Derived.Test.YtdaoifpmmgfpbaaZF
import Derived.Deep.Cut
import Derived.Test.YtdaoifpmmgfpbaaWY
import Derived.Test.YtdaoifpmmgfpbaaZC
import Derived.Test.YtdaoifpmmgfpbaaZO
import Derived.Test.YtdaoifpmmgfpbaaZM
import Derived.Test.YtdaoifpmmgfpbaaWS
import Derived.Test.YtdaoifpmmgfpbaaWQ
import Derived.Test.YtdaoifpmmgfpbaaM7
namespace Go.Proofs.Ytdaoifpmmgfpbaa
open Go.RowKit Go.Shelf Go.Deep

attribute [local go_sem] Oper.semAt_some

set_option maxRecDepth 100000 in
set_option maxHeartbeats 4000000 in
theorem rowsByM_in (F : Fence) (hd : F.depth = none) (hF : ∀ k, F.fn k) (hro : F.round = none) (gf : Nat) (rv : Value) (p : Nat → Nat → Bool) (m : Nat) (hm : m ≤ 9) (w : World)
    (he : ∀ args w, (callFunc gf args).run Try.prog w = .ok (.enter gf args) w)
    (hcl : ∀ W' i j, Below w.heap.size w W' → i < m → j < m → CallsIn F 20 Try.prog gf #[rv, .int .i64 (i : Int), .int .i64 (j : Int)] W' (Ans (.bool (p i j)) W')) :
    CallsIn F 20 Try.prog 58 #[.int .i64 m, .func (.func gf) #[rv] #[]] w (MadeM w m p) := by
  have h1 := hF 58
  have h2 := hF 77
  have h3 := hF gf
  have hdd : ∀ k : Nat, (F.depth.isSome = true → 1 ≤ k) := fun k h => by rw [hd] at h; cases h
  have HFn := Lib.hid hF
  have HCL := Lib.hid hcl
  clear hF hcl
  have hmk := run_make_row' (P := Try.prog) 24 31 (.slice none 0 0) 24 Try.underlying24 infoInts rfl .i64 .i64 m (by omega) (by omega)
  refine callsIn_of_wp_marks Try.func58 rfl h1 ?_ hro
  simp only [Try.ntmps58, List.size_toArray, List.length_cons, List.length_nil, Nat.reduceAdd, Nat.reduceSub, Array.replicate_succ, Array.replicate_zero, List.push_toArray, List.append_toArray, List.nil_append, List.cons_append]
  gi_wp2
  clear hmk
  have HP0 := Lib.hid (RPart.start w (.func (.func gf) #[rv] #[]) m)
  gi_loopw [13] (fun i wr => ∃ k : Nat, k ≤ m ∧ i = .int .i64 k ∧ Hid (RPart w wr (.func (.func gf) #[rv] #[]) m k)) (fun i _ => m - (intOf i).toNat)
  case atStart => exact ⟨0, Nat.zero_le _, rfl, HP0⟩
  case round =>
    obtain ⟨k, hk, rfl, HP⟩ := hrel
    clear HP0
    have cV : wr.cell? ⟨w.heap.size + 1 + 1, 0, none⟩ = some (.slice (some ⟨w.heap.size + 1, 0, none⟩) m m) := HP.out.var.cell
    by_cases hlt : k < m
    · have hmk2 := run_make_row' (P := Try.prog) 31 3 (.int .i64 0) 8 Try.underlying31 infoInt rfl .i64 .i64 m (by omega) (by omega)
      have hst := RPart.step HP.out
      rw [← HP.out.size] at hst
      have HST := Lib.hid hst
      clear hst
      have hc1 : ∀ o : Obj, (wr.alloc o).cell? ⟨w.heap.size + 1, k, none⟩ = some (.slice none 0 0) := fun o => by have := (HP.out.top.alloc o).cell hlt; simpa using this
      have hf1 : ∀ o : Obj, (wr.alloc o).frozen? ⟨w.heap.size + 1, k, none⟩ = false := fun o => (HP.out.top.alloc o).frozen k
      have hcV : ∀ o : Obj, (wr.alloc o).cell? ⟨w.heap.size + 1 + 1, 0, none⟩ = some (.slice (some ⟨w.heap.size + 1, 0, none⟩) m m) := fun o => (HP.out.var.alloc o).cell
      gi_wp2
      gi_region
      all_goals
        gi_wp2
        go_roundw
        case rel => exact ⟨k + 1, by omega, by go_num, HST⟩
        case measure => simp [intOf]; omega
    · obtain rfl : k = m := by omega
      gi_wp2_with ((try refine ⟨hdd _, ?_⟩); gi_at_call 77; refine (pairs_in F _ HFn.out hro _ _).mono ?_; rintro e w' ⟨rfl, rfl⟩)
      have hws : wr.heap.size = w.heap.size + 3 + k := HP.out.size
      have HM0 : Hid (RMid w (wr.alloc (.cells #[.int .i64 k] 3)) (.func (.func gf) #[rv] #[]) k p []) :=
        ⟨HP.out.below.alloc (by omega) _, HP.out.fn.alloc _, HP.out.var.alloc _, (HP.out.top.alloc _).congr fun i hi => by rw [if_pos hi], fun i hi => ((HP.out.done i hi).alloc _).congr fun j _ => (cellP_start p i j).symm⟩
      have bP := Boxed.new wr 3 (.int .i64 k)
      have hsz : (wr.alloc (.cells #[.int .i64 k] 3)).heap.size = wr.heap.size + 1 := by simp
      obtain ⟨V, hV⟩ : ∃ V, wr.alloc (.cells #[.int .i64 k] 3) = V := ⟨_, rfl⟩
      rw [hV] at HM0 bP hsz ⊢
      have HW := Lib.hid hws
      have hsz2 : w.heap.size + 3 + k + 1 ≤ V.heap.size := by omega
      clear hV HP cV hsz
      refine range_law hd hro HFn.out (gf := 95) (lb := #[.pointer (some ⟨wr.heap.size, 0, none⟩)]) rfl (enters_of Try.func95 (by kernel_rfl) rfl)
        (pairs_X F HFn.out hro wr.heap.size k (by omega) (fun B => w.heap.size + 3 ≤ B ∧ B < w.heap.size + 3 + k) (V.heap.size + 2) (V.heap.size + 2) (fun s => by have := HW.out; omega) V bP) (fun h k => KeepC.trans h k) (fun W' o o' h hc => KeepC.putObj _ (by omega) W' o o' h hc) (Below.refl _ _) (fun _ => rfl)
        (fun pre W => RMid w W (.func (.func gf) #[rv] #[]) k p pre)
        (fun _ _ _ => False)
        (RMid.own (by omega))
        (fun _ _ _ _ _ hs _ _ => hs)
        HM0.out ?a1 ?assign ?body ?done ?stop
      case assign =>
        intro l2 x W' K hK
        gi_wp2
        exact hK
      case body =>
        rintro l2 pre ⟨⟨i, hi⟩, ⟨j, hj⟩⟩ W hM _
        have HM := Lib.hid hM
        have cF := hM.fn.cell
        clear hM
        by_cases hp : p i j = true
        · gi_wp2_with fail
          refine (CallsIn.inRound l2 (CallsIn_any hd (HCL.out W i j HM.out.below hi hj))).mono ?_
          rintro e w1 ⟨rfl, hB1⟩
          have HM1 := Lib.hid (HM.out.grown hB1)
          have HB1 := Lib.hid hB1
          clear hB1
          have cV1 : w1.cell? ⟨w.heap.size + 1 + 1, 0, none⟩ = some (.slice (some ⟨w.heap.size + 1, 0, none⟩) k k) := HM1.out.var.cell
          have cT1 := HM1.out.top.cell hi
          have cR1 := (HM1.out.rows i hi).cell hj
          have fR1 := (HM1.out.rows i hi).frozen j
          gi_wp2_with fail
          exact ⟨(keepsFrom_below HB1.out _).trans ((KeepsOthers.setCell _ _ _).from _), (KeepC.of_below HB1.out).trans (KeepC.setCell (S := fun B => w.heap.size + 3 ≤ B ∧ B < w.heap.size + 3 + k) _ w1 ⟨by omega, by omega⟩ j _), HM1.out.yes hi hj hp⟩
        · have hp' : p i j = false := by simpa using hp
          gi_wp2_with fail
          refine (CallsIn.inRound l2 (CallsIn_any hd (HCL.out W i j HM.out.below hi hj))).mono ?_
          rintro e w1 ⟨rfl, hB1⟩
          have HM1 := Lib.hid (HM.out.grown hB1)
          have HB1 := Lib.hid hB1
          clear hB1
          gi_wp2_with fail
          exact ⟨keepsFrom_below HB1.out _, KeepC.of_below HB1.out, HM1.out.no hi hj hp'⟩
      case done =>
        rintro D ys W hD rfl hM hK
        have cV : W.cell? ⟨w.heap.size + 1 + 1, 0, none⟩ = some (.slice (some ⟨w.heap.size + 1, 0, none⟩) k k) := hM.var.cell
        have HM := Lib.hid hM
        clear hM
        gi_wp2
        refine ⟨by simp, .inl ⟨_, _, rfl, run_takeDeferred hK, ?_⟩⟩
        have HM2 : RMid w (W.putObj D (.deferred none)) (.func (.func gf) #[rv] #[]) k p (PL k) := (RMid.own (p := p) (B := V.heap.size) (by omega)).putObj _ HM.out hD hK rfl
        exact ⟨_, results_tmp rfl _ _ _, rfl, HM2.below, HM2.own_m⟩
      case stop =>
        rintro D c' pre W' _ _ hx _
        exact hx.elim

end Go.Proofs.Ytdaoifpmmgfpbaa

namespace Go.Proofs.Ytdaoifpmmgfpbaa
open Go.RowKit Go.Shelf Go.Deep

attribute [local go_sem] Oper.semAt_some

/-- ROWS THAT LIE APART, their places held. -/
def OwnV (base : Nat) (W : World) (v : Value) (vs : List Value) (xss : List (List Int)) : Prop :=
  W.ownsRow base 31 1 v xss.length vs ∧ (∀ (i : Nat) (x : Value) (xs : List Int), vs[i]? = some x → xss[i]? = some xs → W.ownsRow base 3 1 x xs.length (xs.map (Value.int .i64))) ∧ Sep vs
theorem OwnV.sep {base : Nat} {W : World} {v : Value} {vs : List Value} {xss : List (List Int)} (h : OwnV base W v vs xss) : OwnSep base W v xss := ⟨vs, h⟩
theorem OwnV.kept {base : Nat} {W W' : World} {v : Value} {vs : List Value} {xss : List (List Int)} {row : Option Nat} (h : OwnV base W v vs xss) (hg : W.grownBy W' row) (hr : ∀ r, row = some r → r < base ∨ ∃ o : Obj, W.heap[r]? = some o ∧ o.isCells = false) : OwnV base W' v vs xss := by
  obtain ⟨h1, h2, h3⟩ := h
  have ne : ∀ (e : TypeId) (n : Nat) (u : Value) (zs : List Value), W.ownsRow base e 1 u n zs → u.ownBlock = none ∨ u.ownBlock ≠ row := fun e n u zs ho => by
    rcases ho.2 with ⟨rfl, _⟩ | ⟨g, cap, cur, rfl, hb, hgg, _⟩
    · exact .inl rfl
    · refine .inr fun e' => ?_
      rcases hr g (by rw [← e']; rfl) with hlt | ⟨o, ho', hc⟩
      · omega
      · rw [hgg] at ho'; cases ho'; cases hc
  exact ⟨h1.kept hg (ne _ _ _ _ h1), fun i x xs hx hxs => (h2 i x xs hx hxs).kept hg (ne _ _ _ _ (h2 i x xs hx hxs)), h3⟩
theorem OwnV.below {base : Nat} {W W' : World} {v : Value} {vs : List Value} {xss : List (List Int)} (h : OwnV base W v vs xss) (hb : Below W.heap.size W W') : OwnV base W' v vs xss := h.kept (grown_of_below hb) (fun r e => by cases e)
theorem OwnV.set {base : Nat} {W : World} {v : Value} {vs : List Value} {xss : List (List Int)} (h : OwnV base W v vs xss) {b : Nat} (hb : b < base) (j : Nat) (u : Value) : OwnV base (W.setCell ⟨b, j, none⟩ u) v vs xss :=
  h.kept (grownBy_setX W b j u) (fun r e => by cases e; exact .inl hb)
theorem ownV_own {β : Type} (base : Nat) (v : Value) (vs : List Value) (xss : β → List (List Int)) : Own (fun s W => OwnV base W v vs (xss s)) := fun _ _ _ _ h hg hr => h.kept hg fun r e => .inr (hr r e)
/-- One row: where it lies, and one entry set. -/
theorem OwnV.row {base g cap N : Nat} {W : World} {vs : List Value} {xss : List (List Int)} (h : OwnV base W (.slice (some ⟨g, 0, none⟩) N cap) vs xss) (hN : xss.length = N) {a : Nat} {xs : List Int} (ha : xss[a]? = some xs) (h1 : 1 ≤ xs.length) :
    ∃ r c, vs[a]? = some (.slice (some ⟨r, 0, none⟩) xs.length c) ∧ W.cell? ⟨g, a, none⟩ = some (.slice (some ⟨r, 0, none⟩) xs.length c) ∧ base ≤ r ∧ (∀ b, b < xs.length → ∃ y : Int, W.cell? ⟨r, b, none⟩ = some (.int .i64 y)) ∧ (∀ b, W.frozen? ⟨r, b, none⟩ = false) ∧
      ∀ (b : Nat) (x : Int), OwnV base (W.setCell ⟨r, b, none⟩ (.int .i64 x)) (.slice (some ⟨g, 0, none⟩) N cap) vs (xss.set a (xs.set b x)) := by
  subst hN
  obtain ⟨ho, hr, hs⟩ := h
  have hvl : vs.length = xss.length := by simpa using ho.1
  have hal : a < xss.length := (List.getElem?_eq_some_iff.1 ha).1
  obtain ⟨x, hx⟩ : ∃ x, vs[a]? = some x := ⟨_, List.getElem?_eq_getElem (by omega)⟩
  have hro := hr a x xs hx ha
  obtain ⟨r, c, rfl⟩ := Joins.ownsRow_form hro (by omega)
  have hrl := hro.lt r (by simp [Value.ownBlock])
  have hne := own_ne_own ho hro
  refine ⟨r, c, hx, ?_, hrl.1, fun b hb => ?_, fun b => hro.frozenAt b, fun b y => ?_⟩
  · have hc := ho.cellAt a (by omega)
    rw [hc]; exact hx
  · have hc := hro.cellAt b (by omega)
    rw [List.getElem?_map, List.getElem?_eq_getElem hb] at hc
    exact ⟨_, hc⟩
  · have hg := grownBy_setX W r b (.int .i64 y)
    refine ⟨by rw [List.length_set]; exact ho.kept hg (.inr (fun e => by
        rcases hne with h | h
        · simp [Value.ownBlock] at h
        · exact h e.symm)), fun i u us hu hus => ?_, hs⟩
    by_cases e : i = a
    · subst e
      rw [hx] at hu
      cases hu
      rw [List.getElem?_set_self hal] at hus
      have e2 : xs.set b y = us := by simpa using hus
      subst e2
      rw [List.length_set, List.map_set]
      exact (hro.stored b (.int .i64 y)).1
    · rw [List.getElem?_set_ne (fun e2 => e e2.symm)] at hus
      refine (hr i u us hu hus).kept hg ?_
      cases hub : u.ownBlock with
      | none => exact .inl rfl
      | some q =>
        refine .inr fun e2 => ?_
        cases e2
        exact hs i a u _ r e hu hx hub (by simp [Value.ownBlock])

set_option maxHeartbeats 1000000 in
theorem arrowM (n₀ : Nat) (a : Option Addr) (c : Nat) (G : List (List Int)) (W : World) (hM : Mat n₀ W a G) (hn : n₀ ≤ W.heap.size) (hG : Good G) (i j : Nat) (hi : i < G.length) (hj : j < G.length) :
    CallsIn Fence.wide 20 Try.prog 60 #[.agg #[.slice a G.length c], .int .i64 (i : Int), .int .i64 (j : Int)] W (Ans (.bool (arw G i j)) W) :=
  (arrow_in Fence.wide 20 (fun _ => trivial) rfl n₀ a c G W hM hn hG i j hi hj).mono fun e w' h => ⟨h.1, by rw [h.2]; exact (Below.refl _ _).alloc (Nat.le_refl _) _⟩

/-- The rows of a graph, as the program makes them. -/
theorem rowsM_in (a : Option Addr) (c : Nat) (G : List (List Int)) (n₀ : Nat) (W : World) (hM : Mat n₀ W a G) (hn : n₀ ≤ W.heap.size) (hG : Good G) :
    Calls Try.prog 58 #[.int .i64 G.length, .func (.func 60) #[.agg #[.slice a G.length c]] #[]] W fun e w' =>
      ∃ g, e = .returned (.slice (some ⟨g, 0, none⟩) G.length G.length) ∧ Below W.heap.size W w' ∧ ∃ vs, OwnV W.heap.size w' (.slice (some ⟨g, 0, none⟩) G.length G.length) vs (rowsP G.length (arw G)) := by
  refine (callsIn_wide.1 (rowsByM_in Fence.wide rfl (fun _ => trivial) rfl 60 (.agg #[.slice a G.length c]) (arw G) G.length hG.2.1 W (enters_of Try.func60 (by kernel_rfl) rfl)
    (fun W' i j hb hi hj => arrowM n₀ a c G W' (hM.below (hb.mono hn)) (Nat.le_trans hn hb.size) hG i j hi hj))).mono ?_
  rintro e w' ⟨rfl, hB, hO⟩
  have hl := rowsP_length G.length (arw G)
  have h2 : OwnR W.heap.size w' (some ⟨W.heap.size + 1, 0, none⟩) G.length (rowsP G.length (arw G)) := .inr ⟨W.heap.size + 1, fun i => W.heap.size + 3 + i, rfl, hl.symm, hO, by omega, fun i _ => by show W.heap.size ≤ W.heap.size + 3 + i; omega, fun i j h => by have h' : W.heap.size + 3 + i = W.heap.size + 3 + j := h; omega⟩
  have hF : Fit (rowsP G.length (arw G)) := (rowsP_good _ hG.1 hG.2.1).fit
  have h3 := h2.sep hF
  rw [hl] at h3
  obtain ⟨vs, h4⟩ := h3
  exact ⟨_, rfl, hB, vs, h4⟩

theorem OwnV.mono {base base' : Nat} {W : World} {v : Value} {vs : List Value} {xss : List (List Int)} (h : OwnV base W v vs xss) (hb : base' ≤ base) : OwnV base' W v vs xss :=
  ⟨Joins.ownsRow_le h.1 hb, fun i x xs hx hxs => Joins.ownsRow_le (h.2.1 i x xs hx hxs) hb, h.2.2⟩

/-- WHAT HOLDS BETWEEN TWO PAIRS: the number that is left, and the rows. -/
structure WayR (w X : World) (m : Nat) (b g n : Nat) (vs : List Value) (p : Nat → Nat → Bool) : Prop where
  below : Below w.heap.size w X
  num : Boxed X (w.heap.size + 1) 3 (.int .i64 m)
  rows : Boxed X b 24 (.slice (some ⟨g, 0, none⟩) n n)
  bb : w.heap.size + 2 ≤ b
  own : OwnV (w.heap.size + 2) X (.slice (some ⟨g, 0, none⟩) n n) vs (rowsP n p)
theorem WayR.first {w U1 U2 : World} {m g n : Nat} {vs : List Value} {p : Nat → Nat → Bool} (hB : Below w.heap.size w U1) (hz : w.heap.size + 2 ≤ U1.heap.size) (hN : Boxed U1 (w.heap.size + 1) 3 (.int .i64 m)) (hB2 : Below U1.heap.size U1 U2)
    (hO : OwnV U1.heap.size U2 (.slice (some ⟨g, 0, none⟩) n n) vs (rowsP n p)) : WayR w (U2.alloc (.cells #[.slice (some ⟨g, 0, none⟩) n n] 24)) m U2.heap.size g n vs p :=
  have hs := hB2.size
  have hN2 : Boxed U2 (w.heap.size + 1) 3 (.int .i64 m) := (hB2.block _ hN.lt).trans hN
  ⟨(hB.trans (hB2.mono hB.size)).alloc (by omega) _, hN2.alloc _, Boxed.new _ _ _, by omega, (hO.mono hz).below ((Below.refl _ _).alloc (Nat.le_refl _) _)⟩
theorem WayR.later {w U1 U2 : World} {m b g n : Nat} {vs : List Value} {p : Nat → Nat → Bool} (hB : Below w.heap.size w U1) (hN : Boxed U1 (w.heap.size + 1) 3 (.int .i64 m)) (hb : Boxed U1 b 24 (.slice none 0 0)) (hbb : w.heap.size + 2 ≤ b) (hB2 : Below U1.heap.size U1 U2)
    (hO : OwnV U1.heap.size U2 (.slice (some ⟨g, 0, none⟩) n n) vs (rowsP n p)) : WayR w (U2.setCell ⟨b, 0, none⟩ (.slice (some ⟨g, 0, none⟩) n n)) m b g n vs p :=
  have hlt := hb.lt
  have hs := hB2.size
  have hz : w.heap.size + 2 ≤ U1.heap.size := by omega
  have hb2 : Boxed U2 b 24 (.slice none 0 0) := (hB2.block _ hlt).trans hb
  ⟨(hB.trans (hB2.mono hB.size)).setCell (p := ⟨b, 0, none⟩) (by show w.heap.size ≤ b; omega) _,
    (Below.heap_setCell _ ⟨b, 0, none⟩ _ (w.heap.size + 1) (by show w.heap.size + 1 ≠ b; omega)).trans ((hB2.block _ hN.lt).trans hN),
    hb2.set _, hbb, (hO.set hlt 0 _).mono hz⟩
theorem WayR.grow {w : World} {β : Type} {m : β → Nat} {b g n : Nat} {vs : List Value} {p : β → Nat → Nat → Bool} {B : Nat} (hB : w.heap.size ≤ B) : OwnFrom B (fun s X => WayR w X (m s) b g n vs (p s)) := fun _ A C row h hg hr =>
  have hr2 : ∀ r, row = some r → ∃ o : Obj, A.heap[r]? = some o ∧ o.isCells = false := fun r e => (hr r e).2
  ⟨ownFrom_below (β := Unit) (Nat.le_refl _) hB () A C row h.below hg hr, boxed_own _ _ (fun (_ : Unit) => _) () A C row h.num hg hr2, boxed_own _ _ (fun (_ : Unit) => _) () A C row h.rows hg hr2, h.bb, h.own.kept hg fun r e => .inr (hr2 r e)⟩
/-- One entry taken away, and the number halved. -/
theorem WayR.cut {w X : World} {m b g n : Nat} {vs : List Value} {p : Nat → Nat → Bool} (h : WayR w X m b g n vs p) {x y : Nat} (hx : x < n) (hy : y < n) :
    ∃ r c, vs[x]? = some (.slice (some ⟨r, 0, none⟩) n c) ∧ X.cell? ⟨g, x, none⟩ = some (.slice (some ⟨r, 0, none⟩) n c) ∧ w.heap.size + 2 ≤ r ∧ (∃ u : Int, X.cell? ⟨r, y, none⟩ = some (.int .i64 u)) ∧ X.frozen? ⟨r, y, none⟩ = false ∧ r ≠ b ∧
      ∀ m' : Nat, WayR w ((X.setCell ⟨r, y, none⟩ (.int .i64 0)).setCell ⟨w.heap.size + 1, 0, none⟩ (.int .i64 m')) m' b g n vs (fun i j => p i j && !(x == i && y == j)) := by
  obtain ⟨r, c, h1, h2, h3, h4, h5, h6⟩ := h.own.row (rowsP_length _ _) (rowsP_get hx) (by simp; omega)
  simp only [List.length_map, List.length_range] at h1 h2 h4
  obtain ⟨u, hu⟩ := h4 y hy
  have hrb : r ≠ b := fun e => by
    subst e
    obtain ⟨u0, hu0⟩ := h4 0 (by omega)
    have := h.rows.cell
    rw [hu0] at this
    cases this
  refine ⟨r, c, h1, h2, h3, ⟨u, hu⟩, h5 y, hrb, fun m' => ?_⟩
  have hbb := h.bb
  have hn1 : Boxed (X.setCell ⟨r, y, none⟩ (.int .i64 0)) (w.heap.size + 1) 3 (.int .i64 m) := (Below.heap_setCell _ ⟨r, y, none⟩ _ (w.heap.size + 1) (by show w.heap.size + 1 ≠ r; omega)).trans h.num
  have hr1 : Boxed (X.setCell ⟨r, y, none⟩ (.int .i64 0)) b 24 (.slice (some ⟨g, 0, none⟩) n n) := (Below.heap_setCell _ ⟨r, y, none⟩ _ b (by show b ≠ r; omega)).trans h.rows
  have ho1 := h6 y 0
  rw [rowsP_clear hx hy] at ho1
  exact ⟨(h.below.setCell (p := ⟨r, y, none⟩) (by show w.heap.size ≤ r; omega) _).setCell (p := ⟨w.heap.size + 1, 0, none⟩) (by show w.heap.size ≤ w.heap.size + 1; omega) _, hn1.set _,
    (Below.heap_setCell _ ⟨w.heap.size + 1, 0, none⟩ _ b (by show b ≠ w.heap.size + 1; omega)).trans hr1, hbb, ho1.set (by omega) 0 _⟩

end Go.Proofs.Ytdaoifpmmgfpbaa

namespace Go.Proofs.Ytdaoifpmmgfpbaa
open Go.RowKit Go.Shelf Go.Deep

attribute [local go_sem] Oper.semAt_some

theorem matS_own {β : Type} (a : β → Option Addr) (xss : β → List (List Int)) : Own (fun s W => Mat W.heap.size W (a s) (xss s)) := fun s A C row h hg hr => (mat_own (β := Unit) A.heap.size (a s) (xss s) () A C row h hg hr).more hg.size

/-- A WAY: its number, and where it lies. -/
structure Way where
  num : Nat
  adr : Option Addr
  cap : Nat
def waysS (G : List (List Int)) (xs : List Way) : Prop := xs.map Way.num = List.range (2 ^ (TL G).length)
def waysP (G : List (List Int)) (xs : List Way) : Prop := xs.map Way.num <+: List.range (2 ^ (TL G).length)
def wayAt (G : List (List Int)) (x : Way) (W : World) : Prop := Mat W.heap.size W x.adr (rowsP G.length (owP G x.num))
theorem waysP_snoc {G : List (List Int)} {pre : List Way} {x : Way} (h : waysP G (pre ++ [x])) : x.num = pre.length ∧ pre.length < 2 ^ (TL G).length := by
  unfold waysP at h
  rw [List.map_append] at h
  have hl := h.length_le
  simp at hl
  have hlt : pre.length < 2 ^ (TL G).length := by omega
  obtain ⟨t, ht⟩ := h
  have := congrArg (fun l => l[pre.length]?) ht
  simp [hlt] at this
  exact ⟨this, hlt⟩
theorem waysP_next {G : List (List Int)} {pre : List Way} {x : Way} (h : pre.map Way.num = List.range pre.length) (hx : x.num = pre.length) (hlt : pre.length < 2 ^ (TL G).length) : waysP G (pre ++ [x]) ∧ (pre ++ [x]).map Way.num = List.range (pre ++ [x]).length := by
  have e : (pre ++ [x]).map Way.num = List.range (pre.length + 1) := by
    rw [List.map_append, h, List.range_succ]; simp [hx]
  refine ⟨?_, by rw [e]; simp⟩
  unfold waysP
  rw [e]
  refine ⟨(List.range (2 ^ (TL G).length)).drop (pre.length + 1), ?_⟩
  have : List.range (pre.length + 1) = (List.range (2 ^ (TL G).length)).take (pre.length + 1) := by rw [List.take_range]; congr 1; omega
  rw [this, List.take_append_drop]

theorem pow_six {k : Nat} (h : k ≤ 6) : 2 ^ k ≤ 64 := Nat.le_trans (Nat.pow_le_pow_right (by omega) h) (by decide)

end Go.Proofs.Ytdaoifpmmgfpbaa

namespace Go.Proofs.Ytdaoifpmmgfpbaa
open Go.RowKit Go.Shelf Go.Deep

attribute [local go_sem] Oper.semAt_some

theorem who_fit (z : Int) : Fit (whoI z) := by
  by_cases h : 1 ≤ z ∧ z ≤ 9
  · obtain ⟨n, rfl⟩ : ∃ n : Nat, z = (n : Int) := ⟨z.toNat, by omega⟩
    rw [whoI_yes (by omega) (by omega)]
    exact (who_good (by omega) (by omega)).fit
  · rw [whoI_no h]; exact fit_nilQ
theorem gOk_none : gOk ([] : List (List Int)) = false := by
  rw [Bool.eq_false_iff]; intro h
  have := (good_of h).1
  simp at this
theorem col_who (G : List (List Int)) (z : Int) (f : List Int) : mapOkI G (whoI z) f = colOkI G z f := by
  by_cases h : 1 ≤ z ∧ z ≤ 9
  · obtain ⟨n, rfl⟩ : ∃ n : Nat, z = (n : Int) := ⟨z.toNat, by omega⟩
    have hm : modK (n : Int) = true := by unfold modK; simp; omega
    unfold colOkI
    rw [whoI_yes (by omega) (by omega), hm, Int.toNat_natCast]; rfl
  · have hm : modK z = false := by rw [Bool.eq_false_iff]; intro e; unfold modK at e; simp at e; exact h e
    rw [whoI_no h, col_no hm, Bool.eq_false_iff]
    intro e
    have := (mapOk_iff.1 e).1.2
    rw [gOk_none] at this; cases this
theorem coc_who {G : List (List Int)} {z : Int} (h4 : z ≤ 4) (h5 : G.length ≤ 5) : countI G (whoI z) = cocI G z := by
  cases hk : cocK G z with
  | true =>
    obtain ⟨_, h1, _⟩ := cocK_iff.1 hk
    obtain ⟨n, rfl⟩ : ∃ n : Nat, z = (n : Int) := ⟨z.toNat, by omega⟩
    rw [coc_z hk, whoI_yes (by omega) (by omega), Int.toNat_natCast]
  | false =>
    rw [coc_no hk]
    refine countI_no ?_
    by_cases h1 : 1 ≤ z
    · refine few_no1 ?_
      rw [Bool.eq_false_iff]; intro e
      have := cocK_iff.2 ⟨g5_iff.2 ⟨e, h5⟩, h1, h4⟩
      rw [hk] at this; cases this
    · exact few_no2 (by rw [whoI_no (by omega)]; exact gOk_none)
theorem coc_big {G : List (List Int)} {z : Int} (h : ¬ (z ≤ 4 ∧ G.length ≤ 5)) : cocI G z = -1 := by
  refine coc_no ?_
  rw [Bool.eq_false_iff]; intro e
  obtain ⟨h5, _, h4⟩ := cocK_iff.1 e
  exact h ⟨h4, (g5_iff.1 h5).2⟩

theorem fw_atH {G : List (List Int)} {k : Nat} (h1 : 1 ≤ k) (h4 : k ≤ 4) (hp : 0 < cocI G ((k : Nat) : Int)) (hl : ∀ n, 1 ≤ n → n < k → cocI G ((n : Nat) : Int) ≤ 0) : fwO G = some k := by
  cases e : fwO G with
  | none => exact absurd hp (fw_none e h1 h4)
  | some m =>
    have h2 := fw_least e h1 hp
    obtain ⟨hb, hm⟩ := fw_some e
    by_cases hlt : m < k
    · have := hl m hb.1 hlt; omega
    · rw [show m = k by omega]
theorem fw_void {G : List (List Int)} (hl : ∀ n, 1 ≤ n → n < 5 → cocI G ((n : Nat) : Int) ≤ 0) : fwO G = none := by
  cases e : fwO G with
  | none => rfl
  | some m =>
    obtain ⟨hb, hm⟩ := fw_some e
    have := hl m hb.1 (by omega); omega

set_option maxHeartbeats 1000000 in
theorem bw1_in (n₀ B : Nat) (a : Option Addr) (c : Nat) (G : List (List Int)) (W : World) (hM : Mat n₀ W a G) (hn : n₀ ≤ W.heap.size) (hB : Boxed W B 54 (.slice a G.length c)) (hG : Good G) (i j : Nat) (hi : i < G.length) (hj : j < G.length) :
    CallsIn Fence.wide 20 Try.prog 71 #[.int .i64 i, .int .i64 j, .pointer (some ⟨B, 0, none⟩)] W (Ans (.bool (bwP G i j)) W) := by
  refine callsIn_wide.2 ?_
  have cB := hB.cell
  have cB2 : ∀ o : Obj, (W.alloc o).cell? ⟨B, 0, none⟩ = some (.slice a G.length c) := fun o => (hB.alloc o).cell
  have H1 := Lib.hid (callsIn_wide.1 (arrow_in Fence.wide 20 (fun _ => trivial) rfl n₀ a c G W hM hn hG i j hi hj))
  have hB1 := (Below.refl W.heap.size W).alloc (Nat.le_refl _) (.cells #[.slice a G.length c] 54)
  have hz1 := hB1.size
  have H2 := Lib.hid (callsIn_wide.1 (arrow_in Fence.wide 20 (fun _ => trivial) rfl n₀ a c G (W.alloc (.cells #[.slice a G.length c] 54)) (hM.below (hB1.mono hn)) (Nat.le_trans hn hz1) hG j i hj hi))
  obtain ⟨x, hx⟩ : ∃ x, arw G i j = x := ⟨_, rfl⟩
  obtain ⟨y, hy⟩ : ∃ y, arw G j i = y := ⟨_, rfl⟩
  have hxy : bwP G i j = (x || y) := by unfold bwP; rw [hx, hy]
  rw [hxy]
  rw [hx] at H1
  rw [hy] at H2
  clear hx hy hxy hM hB
  go_enter Try.func71, Try.ntmps71
  go_wp2_with fail
  refine H1.out.mono ?_
  rintro e w2 ⟨rfl, rfl⟩
  cases x with
  | true =>
    go_wp2_with fail
    go_ret
    exact ⟨rfl, hB1⟩
  | false =>
    go_wp2_with fail
    refine H2.out.mono ?_
    rintro e w3 ⟨rfl, rfl⟩
    go_wp2_with fail
    go_ret
    exact ⟨rfl, hB1.alloc hz1 _⟩

set_option maxRecDepth 100000 in
set_option maxHeartbeats 1000000 in
theorem implBw (a : Option Addr) (c : Nat) (G : List (List Int)) (w : World) (hM : Mat w.heap.size w a G) (hF : Fit G) :
    Calls Try.prog 35 #[.slice a G.length c] w (MadeS (bwL G) w) := by
  have HOk := Lib.hid (implOk a c G w hM hF)
  have es : ∀ (W : World) (o : Obj), (W.alloc o).heap.size = W.heap.size + 1 := fun W o => by simp
  cases hg : gOk G with
  | false =>
    rw [hg] at HOk
    rw [bw_no hg]
    clear hM hF hg
    go_enter Try.func35, Try.ntmps35
    go_wp2_with fail
    refine HOk.out.mono ?_
    rintro e w2 ⟨rfl, hB2⟩
    go_wp2_with fail
    go_ret
    exact ⟨none, 0, ⟨rfl, hB2⟩, OwnSep.nil _ _⟩
  | true =>
    rw [hg] at HOk
    have HG := Lib.hid (good_of hg)
    have hl9 := HG.out.2.1
    have HFB := Lib.hid (bw_good hg).fit
    rw [bw_yes hg] at HFB ⊢
    have HR : Hid (∀ (V : World) (B : Nat), Below w.heap.size w V → Boxed V B 54 (.slice a G.length c) → Calls Try.prog 58 #[.int .i64 G.length, .func (.func 71) #[] #[.pointer (some ⟨B, 0, none⟩)]] V (MadeM V G.length (bwP G))) := Lib.hid fun V B hB hb =>
      callsIn_wide.1 (rowsBy_in Fence.wide rfl (fun _ => trivial) rfl 71 #[.pointer (some ⟨B, 0, none⟩)] (bwP G) G.length hl9 V (enters_of Try.func71 (by kernel_rfl) rfl)
        (fun W' i j hb2 hi hj => bw1_in w.heap.size B a c G W' (hM.below (hB.trans (hb2.mono hB.size))) (Nat.le_trans hB.size hb2.size) ((hb2.block _ hb.lt).trans hb) HG.out i j hi hj))
    have HNd : Hid (∀ W : World, Calls Try.prog 61 #[.agg #[.slice a G.length c]] W fun e w' => e = .returned (.int .i64 G.length) ∧ w' = W.alloc (.cells #[.slice a G.length c] 54)) := Lib.hid fun W => callsIn_wide.1 (nodes_in Fence.wide 20 (fun _ => trivial) rfl a G.length c W)
    clear hM hF hg
    go_enter Try.func35, Try.ntmps35
    go_wp2_with fail
    refine HOk.out.mono ?_
    rintro e w1 ⟨rfl, hB1⟩
    have hz1 := hB1.size
    have bB := (Boxed.new w1 54 (.slice a G.length c)).alloc (.cells #[.slice a G.length c] 54)
    have hB2 := (hB1.alloc hz1 (.cells #[.slice a G.length c] 54)).alloc (by rw [es]; omega) (.cells #[.slice a G.length c] 54)
    go_wp2_with fail
    refine (HNd.out _).mono ?_
    rintro e w2 ⟨rfl, rfl⟩
    obtain ⟨V, hV⟩ : ∃ V, (w1.alloc (.cells #[.slice a G.length c] 54)).alloc (.cells #[.slice a G.length c] 54) = V := ⟨_, rfl⟩
    rw [hV] at hB2 bB ⊢
    have HRv := Lib.hid (HR.out _ _ hB2 bB)
    have hz2 := hB2.size
    have HB2 := Lib.hid hB2
    clear HR hB1 hB2 HNd HOk bB hV
    go_wp2_with fail
    refine HRv.out.mono ?_
    rintro e w3 ⟨rfl, hB3, hO⟩
    have HO := Lib.hid hO
    have HB := Lib.hid (HB2.out.trans (hB3.mono hz2))
    have hl := rowsP_length G.length (bwP G)
    clear hO hB3 HRv
    go_wp2_with fail
    go_ret
    exact ⟨_, G.length, ⟨by rw [hl]; rfl, HB.out⟩, OwnR.sep (.inr ⟨V.heap.size + 1, fun i => V.heap.size + 3 + i, rfl, hl.symm, HO.out, by omega, fun i _ => by show w.heap.size ≤ V.heap.size + 3 + i; omega, fun i j h => by have h' : V.heap.size + 3 + i = V.heap.size + 3 + j := h; omega⟩) HFB.out⟩

end Go.Proofs.Ytdaoifpmmgfpbaa
