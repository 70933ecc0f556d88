/-
  impl.MapsOf.
-/
import Derived.Test.YtiappomfohnhoaaZM
import Derived.Test.YtiappomfohnhoaaM6e
import Derived.Test.YtiappomfohnhoaaM7
import Derived.Test.YtiappomfohnhoaaM11a
import Derived.Stop.RegionWithIn
namespace Go.Proofs.Ytiappomfohnhoaa
open Go.RowKit Go.Shelf Go.Deep

attribute [local go_sem] Oper.semAt_some

/-- Rows of one's own, each apart from the others, no cell of which lies below. -/
def MadeS (xss : List (List Int)) (w : World) (e : Ending) (w' : World) : Prop := ∃ (a : Option Addr) (c : Nat), (e = .returned (.slice a xss.length c) ∧ Below w.heap.size w w') ∧ OwnSep w.heap.size w' (.slice a xss.length c) xss
theorem own_form {W : World} {base e n : Nat} {v : Value} {xs : List Value} (h : W.ownsRow base e 1 v n xs) : ∃ (a : Option Addr) (c : Nat), v = .slice a n c := by
  rcases h.2 with ⟨rfl, rfl⟩ | ⟨g, cap, cur, rfl, _⟩
  · exact ⟨none, 0, rfl⟩
  · exact ⟨_, cap, rfl⟩
theorem great_of {W : World} {base e n g cap : Nat} {xs : List Value} (h : W.ownsRow base e 1 (.slice (some ⟨g, 0, none⟩) n cap) n xs) (hn : 1 ≤ n) (hlt : n < cap) (he : e = 29) : base ≤ g ∧ ∃ o, W.heap[g]? = some o ∧ Great o := by
  rcases h.2 with ⟨e1, _⟩ | ⟨g', cap', cur, e1, hb, hg, _, _, hcs, _⟩
  · cases e1
  · cases e1
    subst he
    exact ⟨hb, _, hg, cur, (0, 0), rfl, by omega⟩

/-- append as the one step that may come up, in a region that draws. -/
theorem appendAny {P : Program} {fuel k : Nat} {ops : Array Oper} {Q : Exit → Act → World → Prop} {listed : Array Bool} {a : Act} {w w' : World} {o : Oper} {s x : Operand} {t : TypeId} {v v' u : Value}
    (hr : Region.ready .any ops listed = [k]) (hk : ops[k]? = some o) (hg : o.guard = none) (hop : o.op = Op.call { callee := Callee.builtin Builtin.append, args := #[s, x], argTypes := #[t, t] })
    (hs : a.eval s = v) (hx : a.eval x = u) (hrun : (Builtin.append_ #[t, t] o.type #[v, u]).run P w = .ok v' w') (h : wpAny P .any ops Q fuel (listed.setIfInBounds k true) (a.put o.dst v') w') :
    wpAny P .any ops Q (fuel + 1) listed a w := by
  refine ⟨fun e => (by rw [hr] at e; cases e), fun i hi => ?_⟩
  rw [hr] at hi
  obtain rfl := List.mem_singleton.1 hi
  have hw : Region.wanted o (yielded ops a.tmps) = true := by simp [Region.wanted, hg]
  unfold wpOp
  simp only [hk]
  rw [if_pos hw]
  refine .inl ?_
  unfold Oper.wp
  simp [execOp, hop, resolve, invoke, builtin, hs, hx, hrun, Result.andThen]
  exact h

set_option maxRecDepth 100000 in
set_option maxHeartbeats 4000000 in
theorem implMaps (a : Option Addr) (c : Nat) (a' : Option Addr) (c' : Nat) (G H : List (List Int)) (w : World) (hM : Mat w.heap.size w a G) (hM' : Mat w.heap.size w a' H) (hf : Fit G) (hf' : Fit H) :
    Calls Try.prog 57 #[.slice a G.length c, .slice a' H.length c'] w (MadeS (mapsL G H) w) := by
  have h1 : Fence.wide.fn 76 := trivial
  have h2 : Fence.wide.fn 71 := trivial
  have h3 : Fence.wide.fn 69 := trivial
  have hdd : ∀ k : Nat, (Fence.wide.depth.isSome = true → 1 ≤ k) := fun k h => by cases h
  have es : ∀ (W : World) (o : Obj), (W.alloc o).heap.size = W.heap.size + 1 := fun W o => by simp
  obtain ⟨i0, hi, hz0, hz1, hz2⟩ := info_parts infoInts
  have hFew := implFew a c a' c' G H w hM hM' hf hf'
  obtain ⟨zs, HZ⟩ : ∃ zs, Hid (mapsL G H = zs) := ⟨_, rfl⟩
  rw [HZ.out]
  refine (callsIn_wide (n := 20)).1 ?_
  by_cases hg : fewI G H = true
  · rw [hg] at hFew
    have HFew := Lib.hid hFew
    have HG := Lib.hid (good_of (fewI_iff.1 hg).1)
    have HH := Lib.hid (good_of (fewI_iff.1 hg).2.1)
    have HN := Lib.hid (few_maps hg)
    have HZ2 : Hid (zs = mapsFrom G H G.length []) := Lib.hid (by rw [← HZ.out, mapsL_yes hg])
    have hl9 := HG.out.2.1
    have hl1 := HG.out.1
    clear hFew hf hf' hg
    refine callsIn_of_wp_marks Try.func57 rfl trivial ?_ rfl
    simp only [Try.ntmps57, List.size_toArray, List.length_cons, List.length_nil, Nat.reduceAdd, Nat.reduceSub, Array.replicate_succ, Array.replicate_zero, List.push_toArray, List.append_toArray, List.nil_append, List.cons_append]
    gi_wp2_with (first | ((try refine ⟨hdd _, ?_⟩); gi_at_call 76; refine (callsIn_wide.2 HFew.out).mono ?_; rintro e w1 ⟨rfl, hB1⟩) | ((try refine ⟨hdd _, ?_⟩); gi_at_call 71; refine (mapsTo_in _ _ _ _ _ _ _ _).mono ?_; rintro e w' ⟨rfl, rfl⟩))
    have bC := ((Boxed.new w1 23 (.slice none 0 0)).alloc (.cells #[.slice a G.length c] 59)).alloc (.cells #[.slice a' H.length c'] 59)
    have bG := (Boxed.new (w1.alloc (.cells #[.slice none 0 0] 23)) 59 (.slice a G.length c)).alloc (.cells #[.slice a' H.length c'] 59)
    have bH := Boxed.new ((w1.alloc (.cells #[.slice none 0 0] 23)).alloc (.cells #[.slice a G.length c] 59)) 59 (.slice a' H.length c')
    rw [es] at bG
    rw [es, es] at bH
    have hB2 := ((hB1.alloc hB1.size (.cells #[.slice none 0 0] 23)).alloc (by simp; have := hB1.size; omega) (.cells #[.slice a G.length c] 59)).alloc (by simp; have := hB1.size; omega) (.cells #[.slice a' H.length c'] 59)
    have hws := hB1.size
    have hsz : (((w1.alloc (.cells #[.slice none 0 0] 23)).alloc (.cells #[.slice a G.length c] 59)).alloc (.cells #[.slice a' H.length c'] 59)).heap.size = w1.heap.size + 3 := by simp
    obtain ⟨V, hV⟩ : ∃ V, ((w1.alloc (.cells #[.slice none 0 0] 23)).alloc (.cells #[.slice a G.length c] 59)).alloc (.cells #[.slice a' H.length c'] 59) = V := ⟨_, rfl⟩
    rw [hV] at bC bG bH hB2 hsz ⊢
    have hMV := hM.below hB2
    have hMV' := hM'.below hB2
    have hsz1 : w1.heap.size + 3 ≤ V.heap.size := by omega
    have hsz2 : V.heap.size ≤ w1.heap.size + 3 := by omega
    clear hV hB1 hM hM' hsz
    have hseq := mapsTo_D w.heap.size (V.heap.size + 2) (w1.heap.size + 1) a a' c c' G H HG.out HH.out (fun B => B = w1.heap.size) V.heap.size (by omega) V bG bH hMV hMV' (fun B s => by omega) (by omega) (by omega)
    refine range_lawY rfl rfl (fun _ => trivial) (gf := 100) (lb := #[.pointer (some ⟨w1.heap.size + 1, 0, none⟩), .pointer (some ⟨w1.heap.size + 1 + 1, 0, none⟩)]) rfl (enters_of Try.func100 (by kernel_rfl) rfl)
      hseq (.inr (by omega)) (OwnFrom.and (ownFrom_pure _ _) (Own.from (hold_own _ _ _) _)) (fun h k => KeepD.trans h k) (fun W' o o' h hc => KeepD.putObj _ (by omega) W' o o' h hc) (Below.refl _ _) (fun _ => rfl)
      (fun pre W' => (∃ v, Boxed W' w1.heap.size 23 v ∧ OwnSep (V.heap.size + 4) W' v pre ∧ (pre.length = 0 → v = .slice none 0 0)) ∧ Below w.heap.size w W')
      (fun _ _ _ => False)
      ⟨fun s A C row ⟨⟨v, k1, k2, k4⟩, k3⟩ hgr hr => ⟨⟨v, k1.kept hgr (fun e => by have := (hr _ e.symm).1; omega), k2.kept hgr (fun r e => .inr (hr r e).2), k4⟩, k3.grown hgr k3.size (fun r e => by have := (hr r e).1; omega)⟩,
        fun s A C ⟨⟨v, k1, k2, k4⟩, k3⟩ hgr _ => ⟨⟨v, k1.kept hgr (fun e => by have e' := Option.some.inj e; omega), k2.kept hgr (fun r e => .inl (by cases e; omega)), k4⟩, k3.grown hgr k3.size (fun r e => by cases e; omega)⟩⟩
      (fun _ => ⟨fun _ _ _ _ hs _ _ => hs, fun _ _ _ hs _ _ => hs⟩)
      ⟨⟨.slice none 0 0, bC, OwnSep.nil _ _, fun _ => rfl⟩, hB2⟩ ?a1 ?assign ?body ?done ?stop
    case assign =>
      intro l2 x W' K hK
      gi_wp2
      exact hK
    case body =>
      rintro l2 pre x W' ⟨⟨v, bC', hO, hnil⟩, hB'⟩ hsp ⟨hxN, hHx⟩
      have cC := bC'.cell
      have fC := bC'.frozen
      have ltC : w1.heap.size < W'.heap.size := bC'.lt
      have hbx : V.heap.size + 2 + 1 < W'.heap.size := hHx.lt
      have hlen2 : pre.length ≤ 7000 := by
        have h := hsp.length_le
        have := HN.out
        rw [List.length_append, List.length_singleton] at h
        omega
      have hIx : Ints W'.heap.size W' (some ⟨V.heap.size + 2 + 1, 0, none⟩) x := hHx.ints
      have HCl := Lib.hid (cloneRow (V.heap.size + 2 + 1) G.length x W'.drew hIx (by omega) (by omega))
      rw [hxN] at HCl
      obtain ⟨vs, hO1, hO2, hO3⟩ := hO
      have hvl : vs.length = pre.length := by simpa using hO1.1
      have hown3 : ∀ w4 : World, Below W'.drew.heap.size W'.drew w4 → ∀ o, (w4.alloc o).ownsRow (V.heap.size + 4) 29 1 v pre.length vs := fun w4 hB4 o => (ownsRow_below (W := W'.drew) hO1 hB4).alloc o
      have hsx : ∀ w4 : World, Below W'.drew.heap.size W'.drew w4 → ∀ o, V.heap.size + 4 ≤ (w4.alloc o).heap.size := fun w4 hB4 o => by have h := hB4.size; have h' : W'.heap.size ≤ w4.heap.size := h; rw [es]; omega
      have hfin : ∀ (w4 w6 : World) (v6 : Value) (g cap : Nat), Below W'.drew.heap.size W'.drew w4 → w4.ownsRow W'.drew.heap.size 3 1 (.slice (some ⟨g, 0, none⟩) G.length cap) G.length (x.map (Value.int .i64)) →
          ((w4.alloc (.cells #[.slice (some ⟨g, 0, none⟩) G.length cap] 29)).grownBy w6 none ∨ ∃ g1 cap1, v = .slice (some ⟨g1, 0, none⟩) pre.length cap1 ∧ v6 = .slice (some ⟨g1, 0, none⟩) (pre.length + 1) cap1 ∧ pre.length < cap1 ∧ (w4.alloc (.cells #[.slice (some ⟨g, 0, none⟩) G.length cap] 29)).grownBy w6 (some g1)) →
          w6.ownsRow (V.heap.size + 4) 29 1 v6 (pre.length + 1) (vs ++ [.slice (some ⟨g, 0, none⟩) G.length cap]) →
          (w6.cell? ⟨w1.heap.size, 0, none⟩ = some v) ∧ w6.frozen? ⟨w1.heap.size, 0, none⟩ = false ∧ (KeepD (fun B => B = w1.heap.size) V.heap.size V.heap.size W' (w6.setCell ⟨w1.heap.size, 0, none⟩ v6) ∧ Boxed (w6.setCell ⟨w1.heap.size, 0, none⟩ v6) w1.heap.size 23 v6 ∧
            OwnSep (V.heap.size + 4) (w6.setCell ⟨w1.heap.size, 0, none⟩ v6) v6 (pre ++ [x]) ∧ Below w.heap.size w (w6.setCell ⟨w1.heap.size, 0, none⟩ v6)) := by
        intro w4 w6 v6 g cap hB4 hown4 hgr hown6
        have hB4' : Below W'.heap.size W' w4 := ⟨hB4.os, hB4.tape, hB4.output, hB4.size, hB4.block⟩
        have hs4 : W'.heap.size ≤ w4.heap.size := hB4.size
        have hB5 : Below W'.heap.size W' (w4.alloc (.cells #[.slice (some ⟨g, 0, none⟩) G.length cap] 29)) := hB4'.alloc hs4 _
        have hO1' := hown3 w4 hB4 (.cells #[.slice (some ⟨g, 0, none⟩) G.length cap] 29)
        -- what the append has turned: at most a great slice
        have hgB : ∃ row, (w4.alloc (.cells #[.slice (some ⟨g, 0, none⟩) G.length cap] 29)).grownBy w6 row ∧ ∀ r, row = some r → V.heap.size + 4 ≤ r ∧ (∃ o, W'.heap[r]? = some o ∧ Great o) ∧ v.ownBlock = some r := by
          rcases hgr with h | ⟨g1, cap1, e1, _, hlt, h⟩
          · exact ⟨none, h, fun r e => by cases e⟩
          · refine ⟨some g1, h, fun r e => ?_⟩
            cases e
            rw [e1] at hO1
            by_cases hp0 : 1 ≤ pre.length
            · obtain ⟨q1, q2⟩ := great_of hO1 hp0 hlt rfl
              exact ⟨q1, q2, by rw [e1]; rfl⟩
            · exact absurd (hnil (by omega)) (by rw [e1]; exact fun h => by cases h)
        obtain ⟨row, hg6, hrow⟩ := hgB
        have hne : ∀ (k : Nat) (o : Obj), W'.heap[k]? = some o → (k < V.heap.size ∨ ¬ Great o) → w6.heap[k]? = some o := fun k o hk hor => by
          have hkl := (Array.getElem?_eq_some_iff.1 hk).1
          refine (hg6.block k (Nat.lt_of_lt_of_le hkl hB5.size) (fun e => ?_)).trans ((hB5.block k hkl).trans hk)
          obtain ⟨q1, ⟨o', ho', hgr'⟩, _⟩ := hrow k e.symm
          rw [hk] at ho'; cases ho'
          rcases hor with h | h
          · omega
          · exact h hgr'
        have ngBox : ∀ u, ¬ Great (.cells #[u] 23) := fun u ⟨cs, fr, e, h2⟩ => by injection e with e1 e2; subst e1; simp at h2
        have bC6 : Boxed w6 w1.heap.size 23 v := hne _ _ bC' (.inr (ngBox v))
        have hB6 : Below w.heap.size w w6 := (hB'.trans (hB5.mono hB'.size)).grown hg6 (Nat.le_trans hB'.size hB5.size) (fun r e => by have := (hrow r e).1; omega)
        refine ⟨bC6.cell, bC6.frozen, ⟨?_, fun B o hS hB hc hgt => ?_⟩, ?_, ?_, ?_⟩
        · have := hg6.size; have := hB5.size; simp; omega
        · exact (Below.heap_setCell w6 ⟨w1.heap.size, 0, none⟩ v6 B (fun e => hS e)).trans (hne B o hB hgt)
        · exact bC6.set v6
        · refine OwnSep.set ⟨vs ++ [.slice (some ⟨g, 0, none⟩) G.length cap], by rw [List.length_append, List.length_singleton]; exact hown6, ?_, ?_⟩ (by omega) 0 v6
          · intro i u xs hu hxs
            by_cases hi : i < vs.length
            · rw [List.getElem?_append_left hi] at hu
              rw [List.getElem?_append_left (by omega)] at hxs
              have h2 := (ownsRow_below (W := W'.drew) (hO2 i u xs hu hxs) hB4).alloc (.cells #[.slice (some ⟨g, 0, none⟩) G.length cap] 29)
              refine h2.kept hg6 ?_
              cases hrr : row with
              | none => cases u.ownBlock <;> simp
              | some r =>
                obtain ⟨_, _, q3⟩ := hrow r hrr
                have := own_ne_own hO1' h2
                rw [q3] at this
                exact this
            · rw [List.getElem?_append_right (by omega)] at hu hxs
              have e1 : i - vs.length = 0 := by have := (List.getElem?_eq_some_iff.1 hu).1; simp at this; omega
              rw [e1] at hu; rw [show i - pre.length = 0 by omega] at hxs
              simp at hu hxs
              subst hu; subst hxs
              have h2 := hown4.alloc (.cells #[.slice (some ⟨g, 0, none⟩) G.length cap] 29)
              rw [hxN]
              have h3 : (w4.alloc (.cells #[.slice (some ⟨g, 0, none⟩) G.length cap] 29)).ownsRow (V.heap.size + 4) 3 1 (.slice (some ⟨g, 0, none⟩) G.length cap) G.length (x.map (Value.int .i64)) := Joins.ownsRow_le h2 (by show V.heap.size + 4 ≤ W'.heap.size; omega)
              refine h3.kept hg6 ?_
              cases hrr : row with
              | none => simp [Value.ownBlock]
              | some r =>
                obtain ⟨_, _, q3⟩ := hrow r hrr
                have := own_ne_own hO1' h3
                rw [q3] at this
                exact this
          · refine hO3.snoc fun y hy g' hg' e => ?_
            obtain ⟨i, hi, hiy⟩ := List.mem_iff_getElem.1 hy
            have hpi : i < pre.length := by omega
            have h1 := (hO2 i y (pre[i]'hpi) (by rw [List.getElem?_eq_getElem hi, hiy]) (List.getElem?_eq_getElem hpi)).lt g' hg'
            have h2 := hown4.lt g' e
            have h3 : W'.heap.size ≤ g' := h2.1
            omega
        · exact hB6.setCell (p := ⟨w1.heap.size, 0, none⟩) hws _
      clear hsp hseq hIx hHx hO1 hO2 hO3 bC' bC bG bH hMV hMV' hvl hnil
      gi_wp2
      refine wpIn_region_any (by kernel_rfl) (wpAnyIn_of (by kernel_rfl) (fun ⟨_, _, h⟩ => h) _ _ _ _ ?_)
      change wpAny _ _ _ _ _ _ _ (World.drew _)
      refine wpAny_take (i := 1) (v := ?_) rfl (by kernel_rfl) (by kernel_rfl) (by kernel_rfl) (fun _ _ _ h => h) (Or.inl ⟨by rfl, ?_⟩) ?_
      case refine_2 => intro w; go_simp; rfl
      refine wpAny_ready (rs := [0, 2]) (by kernel_rfl) (by simp) ?_
      refine AllReady.cons rfl (fun K hK => ?_) ?_
      · go_simp
        refine hK _ _ ?_
        clear hK K
        refine wpAny_ready (rs := [2]) (by kernel_rfl) (by simp) ?_
        refine AllReady.cons rfl (fun K hK => ?_) AllReady.nil
        go_simp
        refine HCl.out.mono ?_
        rintro e w4 ⟨g, cap, rfl, hB4, hown4⟩
        have hc4 : w4.cell? ⟨w1.heap.size, 0, none⟩ = some v := (hB4.cell (p := ⟨w1.heap.size, 0, none⟩) ltC).trans cC
        have hc5 : (w4.alloc (.cells #[.slice (some ⟨g, 0, none⟩) G.length cap] 29)).cell? ⟨w1.heap.size, 0, none⟩ = some v := (World.cell?_alloc_lt w4 _ ⟨w1.heap.size, 0, none⟩ (Nat.lt_of_lt_of_le ltC hB4.size)).trans hc4
        obtain ⟨v6, w6, hrun, hown6, hgr6⟩ := run_append_D (P := Try.prog) (w4.alloc (.cells #[.slice (some ⟨g, 0, none⟩) G.length cap] 29)) (V.heap.size + 4) 23 23 29 i0 (.slice none 0 0) 24 Try.underlying23 hi hz0 hz1 hz2 rfl v pre.length vs (hown3 w4 hB4 _) (hsx w4 hB4 _) ⟨w4.heap.size, 0, none⟩ (.slice (some ⟨g, 0, none⟩) G.length cap) (cell_one_new _ _ _) rfl (by unfold maxLen; omega) (by omega)
        obtain ⟨a6, c6, rfl⟩ := own_form hown6
        have hF6 := hfin w4 w6 _ g cap hB4 hown4 hgr6 hown6
        have hc6 := hF6.1
        have hf6 := hF6.2.1
        have HF6 := Lib.hid hF6.2.2
        clear hF6 hown6 hgr6 hown4 hB4
        refine hK _ _ ?_
        clear hK K
        refine wpAny_ready (rs := [3]) (by kernel_rfl) (by simp) ?_
        refine AllReady.cons rfl (fun K hK => ?_) AllReady.nil
        go_simp
        refine hK _ _ ?_
        clear hK K
        refine appendAny (k := 4) (by kernel_rfl) rfl rfl rfl rfl rfl hrun ?_
        refine wpAny_ready (rs := [5]) (by kernel_rfl) (by simp) ?_
        refine AllReady.cons rfl (fun K hK => ?_) AllReady.nil
        go_simp
        refine hK _ _ ?_
        clear hK K
        refine wpAny_done (by kernel_rfl) ?_ _
        gi_wp2
        have hK6 := HF6.out
        exact ⟨KeepD.from hK6.1 (fun B hB => by omega) (Nat.le_refl _), KeepD.more hK6.1 (by omega), ⟨_, hK6.2.1, hK6.2.2.1, fun h => by simp at h⟩, hK6.2.2.2⟩
      · refine AllReady.cons rfl (fun K hK => ?_) AllReady.nil
        go_simp
        refine HCl.out.mono ?_
        rintro e w4 ⟨g, cap, rfl, hB4, hown4⟩
        have hc4 : w4.cell? ⟨w1.heap.size, 0, none⟩ = some v := (hB4.cell (p := ⟨w1.heap.size, 0, none⟩) ltC).trans cC
        have hc5 : (w4.alloc (.cells #[.slice (some ⟨g, 0, none⟩) G.length cap] 29)).cell? ⟨w1.heap.size, 0, none⟩ = some v := (World.cell?_alloc_lt w4 _ ⟨w1.heap.size, 0, none⟩ (Nat.lt_of_lt_of_le ltC hB4.size)).trans hc4
        obtain ⟨v6, w6, hrun, hown6, hgr6⟩ := run_append_D (P := Try.prog) (w4.alloc (.cells #[.slice (some ⟨g, 0, none⟩) G.length cap] 29)) (V.heap.size + 4) 23 23 29 i0 (.slice none 0 0) 24 Try.underlying23 hi hz0 hz1 hz2 rfl v pre.length vs (hown3 w4 hB4 _) (hsx w4 hB4 _) ⟨w4.heap.size, 0, none⟩ (.slice (some ⟨g, 0, none⟩) G.length cap) (cell_one_new _ _ _) rfl (by unfold maxLen; omega) (by omega)
        obtain ⟨a6, c6, rfl⟩ := own_form hown6
        have hF6 := hfin w4 w6 _ g cap hB4 hown4 hgr6 hown6
        have hc6 := hF6.1
        have hf6 := hF6.2.1
        have HF6 := Lib.hid hF6.2.2
        clear hF6 hown6 hgr6 hown4 hB4
        refine hK _ _ ?_
        clear hK K
        refine wpAny_ready (rs := [0, 3]) (by kernel_rfl) (by simp) ?_
        refine AllReady.cons rfl (fun K hK => ?_) ?_
        · go_simp
          refine hK _ _ ?_
          clear hK K
          refine wpAny_ready (rs := [3]) (by kernel_rfl) (by simp) ?_
          refine AllReady.cons rfl (fun K hK => ?_) AllReady.nil
          go_simp
          refine hK _ _ ?_
          clear hK K
          refine appendAny (k := 4) (by kernel_rfl) rfl rfl rfl rfl rfl hrun ?_
          refine wpAny_ready (rs := [5]) (by kernel_rfl) (by simp) ?_
          refine AllReady.cons rfl (fun K hK => ?_) AllReady.nil
          go_simp
          refine hK _ _ ?_
          clear hK K
          refine wpAny_done (by kernel_rfl) ?_ _
          gi_wp2
          have hK6 := HF6.out
          exact ⟨KeepD.from hK6.1 (fun B hB => by omega) (Nat.le_refl _), KeepD.more hK6.1 (by omega), ⟨_, hK6.2.1, hK6.2.2.1, fun h => by simp at h⟩, hK6.2.2.2⟩
        · refine AllReady.cons rfl (fun K hK => ?_) AllReady.nil
          go_simp
          refine hK _ _ ?_
          clear hK K
          refine wpAny_ready (rs := [0]) (by kernel_rfl) (by simp) ?_
          refine AllReady.cons rfl (fun K hK => ?_) AllReady.nil
          go_simp
          refine hK _ _ ?_
          clear hK K
          refine appendAny (k := 4) (by kernel_rfl) rfl rfl rfl rfl rfl hrun ?_
          refine wpAny_ready (rs := [5]) (by kernel_rfl) (by simp) ?_
          refine AllReady.cons rfl (fun K hK => ?_) AllReady.nil
          go_simp
          refine hK _ _ ?_
          clear hK K
          refine wpAny_done (by kernel_rfl) ?_ _
          gi_wp2
          have hK6 := HF6.out
          exact ⟨KeepD.from hK6.1 (fun B hB => by omega) (Nat.le_refl _), KeepD.more hK6.1 (by omega), ⟨_, hK6.2.1, hK6.2.2.1, fun h => by simp at h⟩, hK6.2.2.2⟩
    case done =>
      rintro D ys W' hD rfl ⟨⟨v, bC', hO, _⟩, hB'⟩ hK
      have cC := bC'.cell
      clear hseq
      gi_wp2
      refine ⟨by simp, .inl ⟨_, _, rfl, run_takeDeferred hK, ?_⟩⟩
      obtain ⟨av, cv, rfl⟩ := (let ⟨_, ho, _⟩ := hO; own_form ho)
      refine ⟨_, results_tmp rfl _ _ _, av, cv, ⟨?_, hB'.trans (belowK_b (w := w) (Nat.le_refl _) W' D _ _ (by omega) hK rfl rfl)⟩, ?_⟩
      · rw [HZ2.out]; rfl
      · rw [HZ2.out]
        exact (hO.kept (grownBy_putObj' W' D _) (fun r e => .inr ⟨_, by cases e; exact hK, rfl⟩)).mono (by omega)
    case stop =>
      rintro D c' pre W' _ _ hx _
      exact hx.elim
  · have hg' : fewI G H = false := by simpa using hg
    rw [hg'] at hFew
    have HFew := Lib.hid hFew
    have HZ2 : Hid (zs = []) := Lib.hid (by rw [← HZ.out, mapsL_no hg'])
    clear hFew hg hM hM' hf hf' hg'
    refine callsIn_of_wp_marks Try.func57 rfl trivial ?_ rfl
    simp only [Try.ntmps57, List.size_toArray, List.length_cons, List.length_nil, Nat.reduceAdd, Nat.reduceSub, Array.replicate_succ, Array.replicate_zero, List.push_toArray, List.append_toArray, List.nil_append, List.cons_append]
    gi_wp2_with ((try refine ⟨hdd _, ?_⟩); gi_at_call 76; refine (callsIn_wide.2 HFew.out).mono ?_; rintro e w1 ⟨rfl, hB1⟩)
    refine ⟨_, results_tmp rfl _ _ _, ?_⟩
    rw [HZ2.out]
    exact ⟨none, 0, ⟨rfl, hB1⟩, OwnSep.nil _ _⟩

end Go.Proofs.Ytiappomfohnhoaa
