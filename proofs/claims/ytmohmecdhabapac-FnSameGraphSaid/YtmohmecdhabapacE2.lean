/-
  The iterator over all arrows of a graph (impl.graph.arrows): its contract.
-/
import Derived.Test.YtmohmecdhabapacE1
namespace Go.Proofs.Ytmohmecdhabapac
open Go.RowKit Go.Shelf

attribute [local go_sem] Oper.semAt_some

/-- WHAT A ROUND KEEPS: all cells but those of the caller's own blocks S, and all blocks from T on. -/
def KeepC (S : Nat → Prop) (T : Nat) (W W' : World) : Prop := W.heap.size ≤ W'.heap.size ∧ ∀ (B : Nat) (o : Obj), ¬ S B → W.heap[B]? = some o → (o.isCells = true ∨ T ≤ B) → W'.heap[B]? = some o
theorem KeepC.refl (S : Nat → Prop) (T : Nat) (W : World) : KeepC S T W W := ⟨Nat.le_refl _, fun _ _ _ h _ => h⟩
theorem KeepC.trans {S : Nat → Prop} {T : Nat} {X Y Z : World} (h : KeepC S T X Y) (k : KeepC S T Y Z) : KeepC S T X Z := ⟨Nat.le_trans h.1 k.1, fun B o hS hB hc => k.2 B o hS (h.2 B o hS hB hc) hc⟩
theorem KeepC.more {S : Nat → Prop} {T T' : Nat} {X Y : World} (h : KeepC S T X Y) (hT : T ≤ T') : KeepC S T' X Y := ⟨h.1, fun B o hS hB hc => h.2 B o hS hB (hc.elim .inl fun h' => .inr (Nat.le_trans hT h'))⟩
theorem KeepC.putObj (S : Nat → Prop) {T l : Nat} (hl : l < T) (W : World) (o o' : Obj) (h : W.heap[l]? = some o) (hc : o.isCells = false) : KeepC S T W (W.putObj l o') :=
  ⟨by simp, fun B o1 _ hB hc1 => by
    have hne : B ≠ l := fun e => by
      subst e; rw [h] at hB; cases hB
      rcases hc1 with h' | h'
      · rw [hc] at h'; cases h'
      · omega
    exact ((grownBy_putObj' W l o').block B (Array.getElem?_eq_some_iff.1 hB).1 (fun e => by cases e; exact hne rfl)).trans hB⟩
theorem KeepC.alloc (S : Nat → Prop) (T : Nat) (W : World) (o : Obj) : KeepC S T W (W.alloc o) := ⟨by simp, fun B o1 _ hB _ => (Below.heap_alloc W o B (Array.getElem?_eq_some_iff.1 hB).1).trans hB⟩
theorem KeepC.setCell {S : Nat → Prop} (T : Nat) (W : World) {b : Nat} (hb : S b) (j : Nat) (v : Value) : KeepC S T W (W.setCell ⟨b, j, none⟩ v) :=
  ⟨by simp, fun B o1 hS hB _ => (Below.heap_setCell W ⟨b, j, none⟩ v B (fun e => hS (by rw [show B = b from e]; exact hb))).trans hB⟩
theorem KeepC.drew (S : Nat → Prop) (T : Nat) (W : World) : KeepC S T W W.drew := ⟨Nat.le_refl _, fun _ _ _ h _ => h⟩
theorem KeepC.of_below {S : Nat → Prop} {T : Nat} {W W' : World} (h : Below W.heap.size W W') : KeepC S T W W' := ⟨h.size, fun B _ _ hB _ => (h.block B (Array.getElem?_eq_some_iff.1 hB).1).trans hB⟩
theorem KeepC.from {S : Nat → Prop} {T B0 : Nat} {W W' : World} (h : KeepC S T W W') (hS : ∀ B, S B → B < T) (hT : T ≤ B0) : KeepsFrom B0 W W' := ⟨h.1, fun k o hk ho _ => h.2 k o (fun s => by have := hS k s; omega) ho (.inr (by omega))⟩
theorem keepsFrom_below {W W' : World} (h : Below W.heap.size W W') (B : Nat) : KeepsFrom B W W' := ⟨h.size, fun k _ _ hk _ => (h.block k (Array.getElem?_eq_some_iff.1 hk).1).trans hk⟩
theorem KeepC.boxed {S : Nat → Prop} {T : Nat} {W W' : World} (h : KeepC S T W W') {B : Nat} {t : TypeId} {v : Value} (hS : ¬ S B) (b : Boxed W B t v) : Boxed W' B t v := h.2 B _ hS b (.inl rfl)
theorem KeepC.cell {S : Nat → Prop} {T : Nat} {W W' : World} (h : KeepC S T W W') {p : Addr} {v : Value} (hS : ¬ S p.block) (hc : W.cell? p = some v) : W'.cell? p = some v := by
  obtain ⟨o, ho, hk⟩ := cells_of_cell hc
  exact (World.cell?_of_block ((h.2 _ o hS ho (.inl hk)).trans ho.symm)).trans hc
theorem Mat.keepC {S : Nat → Prop} {T n₀ : Nat} {W W' : World} {a : Option Addr} {xss : List (List Int)} (h : Mat n₀ W a xss) (hk : KeepC S T W W') (hS : ∀ B, S B → n₀ ≤ B) : Mat n₀ W' a xss := fun hne => by
  obtain ⟨b, o, e, hb, hc⟩ := h hne
  refine ⟨b, o, e, hb, fun i hi => ?_⟩
  obtain ⟨a', c', h1, h2⟩ := hc i hi
  refine ⟨a', c', hk.cell (p := ⟨b, o + i, none⟩) (fun s => by have := hS _ s; simp at this; omega) h1, fun hne2 => ?_⟩
  obtain ⟨b', o', e', hb', hc'⟩ := h2 hne2
  exact ⟨b', o', e', hb', fun j hj => hk.cell (p := ⟨b', o' + j, none⟩) (fun s => by have := hS _ s; simp at this; omega) (hc' j hj)⟩
/-- 'The rows can be read' speaks of cells alone. -/
theorem mat_own {β : Type} (n₀ : Nat) (a : Option Addr) (xss : List (List Int)) : Own (fun (_ : β) W => Mat n₀ W a xss) := fun _ A B row h hg hr => fun hne => by
  obtain ⟨b, o, e, hb, hc⟩ := h hne
  refine ⟨b, o, e, hb, fun i hi => ?_⟩
  obtain ⟨a', c', h1, h2⟩ := hc i hi
  refine ⟨a', c', cell_kept h1 hg hr, fun hne2 => ?_⟩
  obtain ⟨b', o', e', hb', hc'⟩ := h2 hne2
  exact ⟨b', o', e', hb', fun j hj => cell_kept (hc' j hj) hg hr⟩
theorem OwnFrom.far {β : Type} {B B' : Nat} {I : β → World → Prop} (h : OwnFrom B I) (hB : B ≤ B') : OwnFrom B' I := fun s A C row hs hg hr => h s A C row hs hg (fun r e => ⟨Nat.le_trans hB (hr r e).1, (hr r e).2⟩)

theorem pairs_X (F : Fence) (hF : ∀ k, F.fn k) (hro : F.round = none) (B m : Nat) (hm : m ≤ 1048576) (S : Nat → Prop) (T T' : Nat) (hS : ¬ S B) (w : World) (hB : Boxed w B 3 (.int .i64 m)) :
    SeqX F Try.prog 62 #[.pointer (some ⟨B, 0, none⟩)] (encP (m := m)) (KeepC S T) (fun ys => ys = PL m) (fun pre => pre <+: PL m) (m * m) T' w :=
  seqX_of_K T' (pairs_stops F 1 hF hro (Nat.le_refl _) B m hm (KeepC S T) (fun _ _ k b => k.boxed hS b) w hB)

/-- IS THERE AN ARROW? -/
def arw (xss : List (List Int)) (i j : Nat) : Bool := ent xss i j == 1

set_option maxHeartbeats 1000000 in
theorem arrow_in (F : Fence) (n : Nat) (hF : ∀ k, F.fn k) (hro : F.round = none) (n₀ : Nat) (a : Option Addr) (c : Nat) (xss : List (List Int)) (w : World) (hM : Mat n₀ w a xss) (hn : n₀ ≤ w.heap.size) (hG : Good xss) (i j : Nat) (hi : i < xss.length) (hj : j < xss.length) :
    CallsIn F n Try.prog 35 #[.agg #[.slice a xss.length c], .int .i64 i, .int .i64 j] w fun e w' => e = .returned (.bool (arw xss i j)) ∧ w' = w.alloc (.cells #[.slice a xss.length c] 49) := by
  have h0 := hF 35
  clear hF
  obtain ⟨b, o, a', c', xs, rfl, hb, hc0, hI, HX⟩ := hM.at_ hi
  have hxl : xs.length = xss.length := (hG.2.2 xs (List.mem_of_getElem? HX.out)).1
  obtain ⟨b', o', v, rfl, hb', hd0, HY⟩ := hI.at_ (k := j) (by rw [hxl]; exact hj)
  have hc : ∀ u : Obj, (w.alloc u).cell? ⟨b, o + i, none⟩ = some (.slice (some ⟨b', o', none⟩) xs.length c') := fun u => (World.cell?_alloc_lt w u ⟨b, o + i, none⟩ (by show b < _; omega)).trans hc0
  have hd : ∀ u : Obj, (w.alloc u).cell? ⟨b', o' + j, none⟩ = some (.int .i64 v) := fun u => (World.cell?_alloc_lt w u ⟨b', o' + j, none⟩ (by show b' < _; omega)).trans hd0
  have HE := Lib.hid (ent_eq HX.out HY.out)
  have hj2 : j < xs.length := by rw [hxl]; exact hj
  have hl9 : xs.length ≤ 9 := by rw [hxl]; exact hG.2.1
  have hl9' := hG.2.1
  clear hc0 hd0 hxl hM hI
  refine callsIn_of_wp Try.func35 rfl h0 ?_ hro
  simp only [Try.ntmps35, List.size_toArray, List.length_cons, List.length_nil, Nat.reduceAdd, Nat.reduceSub, Array.replicate_succ, Array.replicate_zero, List.push_toArray, List.append_toArray, List.nil_append, List.cons_append]
  gi_wp2
  go_ret
  exact ⟨ret_bool (by unfold arw; rw [HE.out]), rfl⟩

set_option maxHeartbeats 1000000 in
theorem arrows_in (F : Fence) (n : Nat) (hF : ∀ k, F.fn k) (hro : F.round = none) (a : Option Addr) (m c : Nat) (w : World) :
    CallsIn F n Try.prog 39 #[.agg #[.slice a m c]] w fun e w' => e = .returned (.func (.func 55) #[] #[.pointer (some ⟨w.heap.size, 0, none⟩)]) ∧ w' = w.alloc (.cells #[.slice a m c] 49) := by
  have h0 := hF 39
  clear hF
  refine callsIn_of_wp Try.func39 rfl h0 ?_ hro
  simp only [Try.ntmps39, List.size_toArray, List.length_cons, List.length_nil, Nat.reduceAdd, Nat.reduceSub, Array.replicate_succ, Array.replicate_zero, List.push_toArray, List.append_toArray, List.nil_append, List.cons_append]
  gi_wp2
  go_ret
  exact ⟨rfl, rfl⟩

/-- ALL ARROWS, in the order of rows. -/
def AL (xss : List (List Int)) : List (Fin xss.length × Fin xss.length) := (PL xss.length).filter fun x => arw xss x.1.1 x.2.1

set_option maxRecDepth 100000 in
set_option maxHeartbeats 4000000 in
theorem arrows_X (F : Fence) (hd : F.depth = none) (hF : ∀ k, F.fn k) (hro : F.round = none) (Bg n₀ : Nat) (a : Option Addr) (c : Nat) (xss : List (List Int)) (hG : Good xss) (S : Nat → Prop) (T : Nat) (w : World)
    (hSg : ¬ S Bg) (hwT : w.heap.size ≤ T) (hSw : ∀ B, S B → B < w.heap.size) (hSn : ∀ B, S B → n₀ ≤ B) (hn₀ : n₀ ≤ w.heap.size) (bG0 : Boxed w Bg 49 (.slice a xss.length c)) (hM0 : Mat n₀ w a xss) :
    SeqX F Try.prog 55 #[.pointer (some ⟨Bg, 0, none⟩)] (encP (m := xss.length)) (KeepC S T) (fun ys => ys = AL xss) (fun pre => pre <+: AL xss) (xss.length * xss.length) T w := by
  intro l J Jx W hTW hW hJ hJx hY h0
  have bG : Boxed W Bg 49 (.slice a xss.length c) := (hW.block Bg bG0.lt).trans bG0
  have hM : Mat n₀ W a xss := hM0.below (hW.mono hn₀)
  have hl9 := hG.2.1
  have hWs := hW.size
  clear bG0 hM0 hW
  have h1 := hF 55
  have h2 := hF 42
  have h3 := hF 54
  have h4 := hF 35
  have hdd : ∀ k : Nat, (F.depth.isSome = true → 1 ≤ k) := fun k h => by rw [hd] at h; cases h
  have HFn := Lib.hid hF
  have HY := Lib.hid hY
  have HJ := Lib.hid hJ
  have HJx := Lib.hid hJx
  have HSw := Lib.hid hSw
  have HSn := Lib.hid hSn
  have HSg := Lib.hid hSg
  have HJ0 := Lib.hid h0
  clear hF hY hJ hJx hSw hSn hSg h0
  refine callsIn_of_wp_marks Try.func55 rfl h1 ?_ hro
  simp only [Try.ntmps55, List.size_toArray, List.length_cons, List.length_nil, Nat.reduceAdd, Nat.reduceSub, Array.replicate_succ, Array.replicate_zero, List.push_toArray, List.append_toArray, List.nil_append, List.cons_append]
  have cG := bG.cell
  have hBg := bG.lt
  gi_wp2_with (first | ((try refine ⟨hdd _, ?_⟩); gi_at_call 42; refine (nodes_in F _ HFn.out hro _ _ _ _).mono ?_; rintro e w' ⟨rfl, rfl⟩) | ((try refine ⟨hdd _, ?_⟩); gi_at_call 54; refine (pairs_in F _ HFn.out hro _ _).mono ?_; rintro e w' ⟨rfl, rfl⟩))
  have bY := ((Boxed.new W 51 (.func (.yield l) #[] #[])).alloc (.cells #[.slice a xss.length c] 49)).alloc (.cells #[.int .i64 xss.length] 3)
  have bP := Boxed.new ((W.alloc (.cells #[.func (.yield l) #[] #[]] 51)).alloc (.cells #[.slice a xss.length c] 49)) 3 (.int .i64 xss.length)
  have bG2 := ((bG.alloc (.cells #[.func (.yield l) #[] #[]] 51)).alloc (.cells #[.slice a xss.length c] 49)).alloc (.cells #[.int .i64 xss.length] 3)
  have hB3 := (((Below.refl W.heap.size W).alloc (Nat.le_refl _) (.cells #[.func (.yield l) #[] #[]] 51)).alloc (by simp) (.cells #[.slice a xss.length c] 49)).alloc (by simp; omega) (.cells #[.int .i64 xss.length] 3)
  have HJ3 := Lib.hid (OwnFrom.alloc HJ.out (.cells #[.int .i64 xss.length] 3) (OwnFrom.alloc HJ.out (.cells #[.slice a xss.length c] 49) (OwnFrom.alloc HJ.out (.cells #[.func (.yield l) #[] #[]] 51) HJ0.out)))
  have hM3 := hM.below (hB3.mono (Nat.le_trans hn₀ hWs))
  simp only [World.size_alloc] at bP
  have hsz : (((W.alloc (.cells #[.func (.yield l) #[] #[]] 51)).alloc (.cells #[.slice a xss.length c] 49)).alloc (.cells #[.int .i64 xss.length] 3)).heap.size = W.heap.size + 3 := by simp
  obtain ⟨V, hV⟩ : ∃ V, ((W.alloc (.cells #[.func (.yield l) #[] #[]] 51)).alloc (.cells #[.slice a xss.length c] 49)).alloc (.cells #[.int .i64 xss.length] 3) = V := ⟨_, rfl⟩
  rw [hV] at bY bP bG2 hB3 HJ3 hM3 hsz ⊢
  clear hV bG hM cG
  refine range_law hd hro HFn.out (gf := 62) (lb := #[.pointer (some ⟨W.heap.size + 1 + 1, 0, none⟩)]) rfl (enters_of Try.func62 (by kernel_rfl) rfl)
    (pairs_X F HFn.out hro (W.heap.size + 1 + 1) xss.length (by omega) S (V.heap.size + 2) (V.heap.size + 2) (fun s => by have := HSw.out _ s; omega) V bP) (fun h k => KeepC.trans h k) (fun W' o o' h hc => KeepC.putObj S (by omega) W' o o' h hc) (Below.refl _ _) (fun _ => rfl)
    (fun pre W' => ((Hid (J (pre.filter fun x => arw xss x.1.1 x.2.1) W') ∧ Boxed W' W.heap.size 51 (.func (.yield l) #[] #[])) ∧ Boxed W' Bg 49 (.slice a xss.length c)) ∧ Mat n₀ W' a xss)
    (fun c' pre W' => c' = .ret ∧ Hid (Jx (pre.filter fun x => arw xss x.1.1 x.2.1) W'))
    (OwnFrom.and (OwnFrom.and (OwnFrom.and (fun s A B row hs hg hr => (OwnFrom.far HJ.out (by omega)) _ A B row hs.out hg hr) (Own.from (boxed_own _ _ _) _)) (Own.from (boxed_own _ _ _) _)) (Own.from (mat_own _ _ _) _))
    (fun c' => OwnFrom.and (ownFrom_pure _ _) (fun s A B row hs hg hr => (OwnFrom.far HJx.out (by omega)) _ A B row hs.out hg hr))
    ⟨⟨⟨HJ3, bY⟩, bG2⟩, hM3⟩ ?a1 ?assign ?body ?done ?stop
  case assign =>
    intro l2 x W' K hK
    gi_wp2
    exact hK
  case body =>
    rintro l2 pre ⟨⟨i, hi⟩, ⟨j, hj⟩⟩ W' ⟨⟨⟨HJp, bY'⟩, bG'⟩, hM'⟩ hlen
    have cY := bY'.cell
    have cG' := bG'.cell
    have hlt1 := bY'.lt
    have HJa := Lib.hid (OwnFrom.alloc HJ.out (.cells #[.slice a xss.length c] 49) HJp.out)
    have hcY : ∀ o : Obj, (W'.alloc o).cell? ⟨W.heap.size, 0, none⟩ = some (.func (.yield l) #[] #[]) := fun o => (bY'.alloc o).cell
    by_cases hb : arw xss i j = true
    · have hpl : (pre.filter fun x => arw xss x.1.1 x.2.1).length < xss.length * xss.length := Nat.lt_of_le_of_lt (List.length_filter_le _ _) hlen
      obtain ⟨fn, tmps, assign, body, hy, hR⟩ := HY.out 0 _ (⟨i, hi⟩, ⟨j, hj⟩) _ HJa.out hpl
      dsimp only [encP] at hy
      have hR' := Lib.hid (RoundIn_round (l' := l2) hR)
      clear hR
      gi_wp2_with (first | ((try refine ⟨hdd _, ?_⟩); gi_at_call 35; refine (CallsIn.inRound l2 (arrow_in F _ HFn.out hro n₀ _ _ _ _ hM' (by omega) hG i j hi hj)).mono ?_; rintro e w' ⟨rfl, rfl⟩) | ((try refine ⟨hdd _, ?_⟩); refine hR'.out.mono ?_; clear hR'; rintro e W3 (⟨rfl, hJ3, hk3⟩ | ⟨rfl, hJx3, hkf3⟩)))
      · have hk4 := Lib.hid ((KeepC.alloc S T W' (.cells #[.slice a xss.length c] 49)).trans hk3)
        have bY3 := KeepC.boxed hk4.out (fun s => by have := HSw.out _ s; omega) bY'
        have bG3 := KeepC.boxed hk4.out HSg.out bG'
        have hM3' := Mat.keepC hM' hk4.out HSn.out
        have HJ4 : Hid (J ((pre ++ [((⟨i, hi⟩ : Fin xss.length), (⟨j, hj⟩ : Fin xss.length))]).filter fun x => arw xss x.1.1 x.2.1) W3) := by
          have e1 : (pre ++ [((⟨i, hi⟩ : Fin xss.length), (⟨j, hj⟩ : Fin xss.length))]).filter (fun x => arw xss x.1.1 x.2.1) = (pre.filter fun x => arw xss x.1.1 x.2.1) ++ [(⟨i, hi⟩, ⟨j, hj⟩)] := by
            rw [List.filter_append]; simp [hb]
          rw [e1]; exact hJ3
        clear hJ3 hk3
        gi_wp2
        exact ⟨KeepC.from hk4.out (fun B s => by have := HSw.out B s; omega) (by omega), KeepC.more hk4.out (by omega), ⟨⟨HJ4, bY3⟩, bG3⟩, hM3'⟩
      · have HX4 : Hid (Jx ((pre ++ [((⟨i, hi⟩ : Fin xss.length), (⟨j, hj⟩ : Fin xss.length))]).filter fun x => arw xss x.1.1 x.2.1) W3) := by
          have e1 : (pre ++ [((⟨i, hi⟩ : Fin xss.length), (⟨j, hj⟩ : Fin xss.length))]).filter (fun x => arw xss x.1.1 x.2.1) = (pre.filter fun x => arw xss x.1.1 x.2.1) ++ [(⟨i, hi⟩, ⟨j, hj⟩)] := by
            rw [List.filter_append]; simp [hb]
          rw [e1]; exact hJx3
        have HK3 := Lib.hid (((KeepsOthers.alloc W' (.cells #[.slice a xss.length c] 49)).from V.heap.size).trans ⟨hkf3.size, fun k o hk ho hc => hkf3.same k o (by omega) ho hc⟩)
        clear hJx3 hkf3
        gi_wp2
        exact ⟨HK3.out, rfl, HX4⟩
    · have hb' : arw xss i j = false := by simpa using hb
      gi_wp2_with ((try refine ⟨hdd _, ?_⟩); gi_at_call 35; refine (CallsIn.inRound l2 (arrow_in F _ HFn.out hro n₀ _ _ _ _ hM' (by omega) hG i j hi hj)).mono ?_; rintro e w' ⟨rfl, rfl⟩)
      refine ⟨fun _ h => (by cases h), ?_⟩
      have HJ4 : Hid (J ((pre ++ [((⟨i, hi⟩ : Fin xss.length), (⟨j, hj⟩ : Fin xss.length))]).filter fun x => arw xss x.1.1 x.2.1) (W'.alloc (.cells #[.slice a xss.length c] 49))) := by
        have e1 : (pre ++ [((⟨i, hi⟩ : Fin xss.length), (⟨j, hj⟩ : Fin xss.length))]).filter (fun x => arw xss x.1.1 x.2.1) = (pre.filter fun x => arw xss x.1.1 x.2.1) := by
          rw [List.filter_append]; simp [hb']
        rw [e1]; exact HJa.out
      gi_wp2
      exact ⟨(KeepsOthers.alloc _ _).from _, KeepC.alloc S _ _ _, ⟨⟨HJ4, bY'.alloc _⟩, bG'.alloc _⟩, hM'.keepC (KeepC.alloc S 0 _ _) HSn.out⟩
  case done =>
    rintro D ys W' hD rfl ⟨⟨⟨HJp, _⟩, _⟩, _⟩ hK
    gi_wp2
    refine ⟨by simp, .inl ⟨_, _, rfl, run_takeDeferred hK, ?_⟩⟩
    refine ⟨_, results_none rfl _ _ _, ⟨_, rfl⟩, .inl ⟨_, rfl, OwnFrom.putObj HJ.out _ HJp.out (by omega) hK rfl⟩⟩
  case stop =>
    rintro D c' pre W' hD hpre ⟨rfl, HX⟩ hK
    gi_wp2
    refine ⟨by simp, .inl ⟨_, _, rfl, run_takeDeferred hK, ?_⟩⟩
    refine ⟨_, results_none rfl _ _ _, ⟨_, rfl⟩, .inr ⟨_, hpre.filter _, OwnFrom.putObj HJx.out _ HX.out (by omega) hK rfl⟩⟩

end Go.Proofs.Ytmohmecdhabapac
