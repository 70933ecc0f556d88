/-
  impl.SameGraph: the search.
-/
import Derived.Test.YtmohmecdhabapacQ6
namespace Go.Proofs.Ytmohmecdhabapac
open Go.RowKit Go.Shelf Go.Deep

attribute [local go_sem] Oper.semAt_some

theorem find_at {α : Type} {p : α → Bool} {L pre : List α} {x : α} (hpre : pre ++ [x] <+: L) (hn : ∀ y ∈ pre, p y = false) (hx : p x = true) : L.find? p = some x := by
  obtain ⟨r, rfl⟩ := hpre
  have h0 : pre.find? p = none := List.find?_eq_none.2 fun y hy => by rw [hn y hy]; simp
  simp [List.find?_append, h0, hx]
theorem find_not {α : Type} {p : α → Bool} {L : List α} (hn : ∀ y ∈ L, p y = false) : L.find? p = none := List.find?_eq_none.2 fun y hy => by rw [hn y hy]; simp

theorem grownBy_setQ (W : World) (b j : Nat) (x : Value) : W.grownBy (W.setCell ⟨b, j, none⟩ x) (some b) :=
  ⟨rfl, rfl, rfl, by simp, fun k _ hk => Below.heap_setCell W ⟨b, j, none⟩ x k (fun e => hk (by rw [show k = b from e]))⟩

set_option maxRecDepth 100000 in
set_option maxHeartbeats 4000000 in
theorem implSameYes (a : Option Addr) (c : Nat) (a' : Option Addr) (c' : Nat) (G H : List (List Int)) (N : Nat) (w : World) (hM : Mat w.heap.size w a G) (hM' : Mat w.heap.size w a' H) (hg : gOk G = true) (hg' : gOk H = true) (hGN : G.length = N) (hHN : H.length = N) (h5 : N ≤ 5) :
    Calls Try.prog 15 #[.slice a N c, .slice a' N c'] w (SameOut ((olvl N N).find? (sameBy G H)) w) := by
  have hdd : ∀ k : Nat, (Fence.wide.depth.isSome = true → 1 ≤ k) := fun k h => by cases h
  have h1 : Fence.wide.fn 12 := trivial
  have h2 : Fence.wide.fn 42 := trivial
  have h3 : Fence.wide.fn 41 := trivial
  have h4 : Fence.wide.fn 43 := trivial
  have h6 : Fence.wide.fn 44 := trivial
  have HOG : Hid (∀ W, Below w.heap.size w W → Calls Try.prog 12 #[.slice a N c] W (Ans (.bool true) W)) := Lib.hid fun W hB => by
    have := implOk a c G W ((hM.below hB).more hB.size) (Good.fit (good_of hg))
    rw [hGN, hg] at this; exact this
  have HOH : Hid (∀ W, Below w.heap.size w W → Calls Try.prog 12 #[.slice a' N c'] W (Ans (.bool true) W)) := Lib.hid fun W hB => by
    have := implOk a' c' H W ((hM'.below hB).more hB.size) (Good.fit (good_of hg'))
    rw [hHN, hg'] at this; exact this
  have HMK : Hid (∀ (W : World) (x : List Int) (a'' : Option Addr) (c'' : Nat), x.length = N → Tells N N x → Ints W.heap.size W a'' x → Below w.heap.size w W → CallsIn Fence.wide 20 Try.prog 43 #[.agg #[.slice a N c], .agg #[.slice a' N c'], .slice a'' N c''] W (Ans (.bool (sameBy G H x)) W)) := Lib.hid fun W x a'' c'' hx hT hI hB => by
    have := makes_in W.heap.size a a' a'' c c' c'' G H x W ((hM.below hB).more hB.size) ((hM'.below hB).more hB.size) hI (Nat.le_refl _) (good_of hg) (good_of hg') (by rw [hGN, hHN]; exact hT)
    rw [hGN, hHN, hx] at this; exact this
  have hN1 : 1 ≤ N := by rw [← hGN]; exact (good_of hg).1
  obtain ⟨p, HPP⟩ : ∃ p, Hid (sameBy G H = p) := ⟨_, rfl⟩
  rw [HPP.out] at HMK ⊢
  clear hM hM' hg hg' hGN hHN HPP
  have es : ∀ (W : World) (o : Obj), (W.alloc o).heap.size = W.heap.size + 1 := fun W o => by simp
  have hB0 : Below w.heap.size w ((w.alloc (.cells #[.slice none 0 0] 24)).alloc (.cells #[.bool false] 4)) := ((Below.refl _ _).alloc (Nat.le_refl _) _).alloc (by simp) _
  have bL := (Boxed.new w 24 (.slice none 0 0)).alloc (.cells #[.bool false] 4)
  have bO := Boxed.new (w.alloc (.cells #[.slice none 0 0] 24)) 4 (.bool false)
  rw [es] at bO
  refine (callsIn_wide (n := 20)).1 ?_
  refine callsIn_of_wp_marks Try.func15 rfl trivial ?_ rfl
  simp only [Try.ntmps15, List.size_toArray, List.length_cons, List.length_nil, Nat.reduceAdd, Nat.reduceSub, Array.replicate_succ, Array.replicate_zero, List.push_toArray, List.append_toArray, List.nil_append, List.cons_append]
  gi_wp2_with fail
  (try refine ⟨hdd _, ?_⟩)
  gi_at_call 12
  refine (callsIn_wide.2 (HOG.out _ hB0)).mono ?_
  rintro e w1 ⟨rfl, hB1⟩
  have bL1 : Boxed w1 w.heap.size 24 (.slice none 0 0) := (hB1.block _ bL.lt).trans bL
  have bO1 : Boxed w1 (w.heap.size + 1) 4 (.bool false) := (hB1.block _ bO.lt).trans bO
  have hBw : Below w.heap.size w w1 := hB0.trans (hB1.mono hB0.size)
  clear hB1 bL bO hB0
  gi_wp2_with fail
  (try refine ⟨hdd _, ?_⟩)
  gi_at_call 12
  refine (callsIn_wide.2 (HOH.out _ hBw)).mono ?_
  rintro e w2 ⟨rfl, hB2⟩
  have bL2 : Boxed w2 w.heap.size 24 (.slice none 0 0) := (hB2.block _ bL1.lt).trans bL1
  have bO2 : Boxed w2 (w.heap.size + 1) 4 (.bool false) := (hB2.block _ bO1.lt).trans bO1
  have hBw2 : Below w.heap.size w w2 := hBw.trans (hB2.mono hBw.size)
  clear hB2 bL1 bO1 hBw
  gi_wp2_with (first | ((try refine ⟨hdd _, ?_⟩); gi_at_call 42; refine (nodes_in Fence.wide _ (fun _ => trivial) rfl _ _ _ _).mono ?_; rintro e w' ⟨rfl, rfl⟩) | ((try refine ⟨hdd _, ?_⟩); gi_at_call 41; refine (orders_in _ _ _).mono ?_; rintro e w' ⟨rfl, rfl⟩))
  have bG := (((Boxed.new w2 49 (.slice a N c)).alloc (.cells #[.slice a' N c'] 49)).alloc (.cells #[.slice a N c] 49)).alloc (.cells #[.int .i64 N] 3)
  have bH := ((Boxed.new (w2.alloc (.cells #[.slice a N c] 49)) 49 (.slice a' N c')).alloc (.cells #[.slice a N c] 49)).alloc (.cells #[.int .i64 N] 3)
  have bN := Boxed.new (((w2.alloc (.cells #[.slice a N c] 49)).alloc (.cells #[.slice a' N c'] 49)).alloc (.cells #[.slice a N c] 49)) 3 (.int .i64 N)
  rw [es] at bH
  rw [es, es, es] at bN
  have bL3 := (((bL2.alloc (.cells #[.slice a N c] 49)).alloc (.cells #[.slice a' N c'] 49)).alloc (.cells #[.slice a N c] 49)).alloc (.cells #[.int .i64 N] 3)
  have bO3 := (((bO2.alloc (.cells #[.slice a N c] 49)).alloc (.cells #[.slice a' N c'] 49)).alloc (.cells #[.slice a N c] 49)).alloc (.cells #[.int .i64 N] 3)
  have hB3 := ((((hBw2.alloc hBw2.size (.cells #[.slice a N c] 49)).alloc (by have := hBw2.size; simp; omega) (.cells #[.slice a' N c'] 49)).alloc (by have := hBw2.size; simp; omega) (.cells #[.slice a N c] 49)).alloc (by have := hBw2.size; simp; omega) (.cells #[.int .i64 N] 3))
  have hws := hBw2.size
  have hlO := bO2.lt
  have hsz : ((((w2.alloc (.cells #[.slice a N c] 49)).alloc (.cells #[.slice a' N c'] 49)).alloc (.cells #[.slice a N c] 49)).alloc (.cells #[.int .i64 N] 3)).heap.size = w2.heap.size + 4 := by simp
  obtain ⟨V, hV⟩ : ∃ V, ((((w2.alloc (.cells #[.slice a N c] 49)).alloc (.cells #[.slice a' N c'] 49)).alloc (.cells #[.slice a N c] 49)).alloc (.cells #[.int .i64 N] 3)) = V := ⟨_, rfl⟩
  rw [hV] at bG bH bN bL3 bO3 hB3 hsz ⊢
  have hsz1 : w2.heap.size + 4 ≤ V.heap.size := by omega
  have hsz2 : V.heap.size ≤ w2.heap.size + 4 := by omega
  clear hV hsz bL2 bO2 hBw2
  refine range_lawY rfl rfl (fun _ => trivial) (gf := 56) (lb := #[.pointer (some ⟨w2.heap.size + 1 + 1 + 1, 0, none⟩)]) rfl (enters_of Try.func56 (by kernel_rfl) rfl)
    (orders_Y (V.heap.size + 2) (w2.heap.size + 1 + 1 + 1) N (by omega) (fun _ => False) V bN (fun B s => s.elim) (by omega)) (.inr (Nat.le_refl _)) (OwnFrom.and (ownFrom_pure _ _) (Own.from (hold_own _ _ _) _)) (fun h k => KeepC.trans h k) (fun W' o o' h hc => KeepC.putObj _ (by omega) W' o o' h hc) (Below.refl _ _) (fun _ => rfl)
    (fun pre W' => ((((Boxed W' w2.heap.size 49 (.slice a N c) ∧ Boxed W' (w2.heap.size + 1) 49 (.slice a' N c')) ∧ Boxed W' w.heap.size 24 (.slice none 0 0)) ∧ Boxed W' (w.heap.size + 1) 4 (.bool false)) ∧ Hid (∀ x ∈ pre, p x = false)) ∧ Below w.heap.size w W')
    (fun c' pre W' => ∃ (x : List Int) (g cap : Nat), (((((c' = .ret ∧ Hid (x.length = N ∧ ∃ pre', pre = pre' ++ [x] ∧ (∀ y ∈ pre', p y = false) ∧ p x = true)) ∧ Boxed W' w.heap.size 24 (.slice (some ⟨g, 0, none⟩) N cap)) ∧ Boxed W' (w.heap.size + 1) 4 (.bool true)) ∧ V.heap.size + 3 ≤ g) ∧ W'.ownsRow w.heap.size 3 1 (.slice (some ⟨g, 0, none⟩) N cap) N (x.map (Value.int .i64))) ∧ Below w.heap.size w W')
    ?oI ?oX ⟨⟨⟨⟨⟨bG, bH⟩, bL3⟩, bO3⟩, fun x hx => absurd hx (by simp)⟩, hB3⟩ ?a1 ?assign ?body ?done ?stop
  case oI =>
    exact ⟨fun s A C row ⟨⟨⟨⟨⟨k1, k2⟩, k3⟩, k4⟩, k5⟩, k6⟩ hgr hr => ⟨⟨⟨⟨⟨k1.kept hgr (fun e => by have := (hr _ e.symm).1; omega), k2.kept hgr (fun e => by have := (hr _ e.symm).1; omega)⟩, k3.kept hgr (fun e => by have := (hr _ e.symm).1; omega)⟩, k4.kept hgr (fun e => by have := (hr _ e.symm).1; omega)⟩, k5⟩, k6.grown hgr k6.size (fun r e => by have := (hr r e).1; omega)⟩,
      fun s A C ⟨⟨⟨⟨⟨k1, k2⟩, k3⟩, k4⟩, k5⟩, k6⟩ hgr _ => ⟨⟨⟨⟨⟨k1.kept hgr (fun e => by have e' := Option.some.inj e; omega), k2.kept hgr (fun e => by have e' := Option.some.inj e; omega)⟩, k3.kept hgr (fun e => by have e' := Option.some.inj e; omega)⟩, k4.kept hgr (fun e => by have e' := Option.some.inj e; omega)⟩, k5⟩, k6.grown hgr k6.size (fun r e => by cases e; omega)⟩⟩
  case oX =>
    intro c'
    exact ⟨fun s A C row ⟨x, g, cap, ⟨⟨⟨⟨k1, k2⟩, k3⟩, k4⟩, k5⟩, k6⟩ hgr hr => ⟨x, g, cap, ⟨⟨⟨⟨k1, k2.kept hgr (fun e => by have := (hr _ e.symm).1; omega)⟩, k3.kept hgr (fun e => by have := (hr _ e.symm).1; omega)⟩, k4⟩, k5.kept hgr (.inr fun e => by
          obtain ⟨_, o, ho, hc⟩ := hr g e.symm
          rcases k5.2 with ⟨h0, _⟩ | ⟨g', cap', cur, e0, _, hgg, _⟩
          · cases h0
          · cases e0; rw [hgg] at ho; cases ho; cases hc)⟩, k6.grown hgr k6.size (fun r e => by have := (hr r e).1; omega)⟩,
      fun s A C ⟨x, g, cap, ⟨⟨⟨⟨k1, k2⟩, k3⟩, k4⟩, k5⟩, k6⟩ hgr _ => ⟨x, g, cap, ⟨⟨⟨⟨k1, k2.kept hgr (fun e => by have e' := Option.some.inj e; omega)⟩, k3.kept hgr (fun e => by have e' := Option.some.inj e; omega)⟩, k4⟩, k5.kept hgr (.inr fun e => by have e' : g = V.heap.size + 2 := Option.some.inj e; omega)⟩, k6.grown hgr k6.size (fun r e => by cases e; omega)⟩⟩
  case assign =>
    intro l2 x W' K hK
    gi_wp2
    exact hK
  case body =>
    rintro l2 pre x W' ⟨⟨⟨⟨⟨bG', bH'⟩, bL'⟩, bO'⟩, HP⟩, hB'⟩ hsp ⟨hxN, hHx⟩
    have hws' := hB'.size
    have cG := bG'.cell
    have cH := bH'.cell
    have hT : Tells N N x := by
      have hx : x ∈ olvl N N := by rw [← ord_olvl]; exact hsp.subset (by simp)
      exact nodes_tells hxN (olvl_nodes hx)
    have hlx := hHx.lt
    have hIx : Ints W'.heap.size W' (some ⟨V.heap.size + 2, 0, none⟩) x := hHx.ints
    have HMk := Lib.hid (HMK.out W' x _ N hxN hT hIx hB')
    have HMd := Lib.hid (HMK.out W'.drew x _ N hxN hT hIx hB'.drew)
    gi_wp2_with fail
    refine (CallsIn.inRound l2 (CallsIn_any rfl HMk.out)).mono ?_
    rintro e w4 ⟨rfl, hB4⟩
    have hz4 := hB4.size
    have bG4 : Boxed w4 w2.heap.size 49 (.slice a N c) := (hB4.block _ bG'.lt).trans bG'
    have bH4 : Boxed w4 (w2.heap.size + 1) 49 (.slice a' N c') := (hB4.block _ bH'.lt).trans bH'
    have bL4 : Boxed w4 w.heap.size 24 (.slice none 0 0) := (hB4.block _ bL'.lt).trans bL'
    have bO4 : Boxed w4 (w.heap.size + 1) 4 (.bool false) := (hB4.block _ bO'.lt).trans bO'
    have hB4w : Below w.heap.size w w4 := hB'.trans (hB4.mono hB'.size)
    by_cases hp : p x = true
    · rw [hp]
      have HX := Lib.hid hp
      have HCl := Lib.hid (cloneRowQ (V.heap.size + 2) N x w4 ((hIx.below hB4).more hz4) (by omega) (by omega))
      rw [hxN] at HCl
      clear hp cG cH hT hIx HMk HMd
      gi_wp2_with fail
      (try refine ⟨hdd _, ?_⟩)
      gi_at_call 44
      refine (CallsIn.inRound l2 (callsIn_wide.2 HCl.out)).mono ?_
      rintro e w5 ⟨g, cap, rfl, hB5, hown5⟩
      have hz5 := hB5.size
      have hg := (hown5.lt g rfl).1
      have bL5 : Boxed w5 w.heap.size 24 (.slice none 0 0) := (hB5.block _ bL4.lt).trans bL4
      have bO5 : Boxed w5 (w.heap.size + 1) 4 (.bool false) := (hB5.block _ bO4.lt).trans bO4
      have cL := bL5.cell
      have fL := bL5.frozen
      have cO := bO5.cell
      have fO := bO5.frozen
      gi_wp2_with fail
      have bO6 : Boxed (w5.setCell ⟨w.heap.size, 0, none⟩ (.slice (some ⟨g, 0, none⟩) N cap)) (w.heap.size + 1) 4 (.bool false) := (Below.heap_setCell w5 ⟨w.heap.size, 0, none⟩ _ (w.heap.size + 1) (by simp)).trans bO5
      have bL7 : Boxed ((w5.setCell ⟨w.heap.size, 0, none⟩ (.slice (some ⟨g, 0, none⟩) N cap)).setCell ⟨w.heap.size + 1, 0, none⟩ (.bool true)) w.heap.size 24 (.slice (some ⟨g, 0, none⟩) N cap) := (Below.heap_setCell _ ⟨w.heap.size + 1, 0, none⟩ (.bool true) w.heap.size (by simp)).trans (bL5.set _)
      have hown7 := ((Joins.ownsRow_le hown5 (show w.heap.size ≤ w4.heap.size by omega)).kept (grownBy_setQ w5 w.heap.size 0 (.slice (some ⟨g, 0, none⟩) N cap)) (.inr fun e => by have e' : g = w.heap.size := Option.some.inj e; omega)).kept (grownBy_setQ _ (w.heap.size + 1) 0 (.bool true)) (.inr fun e => by have e' : g = w.heap.size + 1 := Option.some.inj e; omega)
      have hB5w : Below w.heap.size w w5 := hB4w.trans (hB5.mono hB4w.size)
      exact ⟨(keepsFrom_below (hB4.trans (hB5.mono hz4)) _).trans (((KeepsOthers.setCell w5 ⟨w.heap.size, 0, none⟩ _).from _).trans ((KeepsOthers.setCell _ ⟨w.heap.size + 1, 0, none⟩ _).from _)), x, g, cap,
        ⟨⟨⟨⟨⟨rfl, hxN, pre, rfl, HP.out, HX.out⟩, bL7⟩, bO6.set (.bool true)⟩, by omega⟩, hown7⟩,
        (hB5w.setCell (p := ⟨w.heap.size, 0, none⟩) (Nat.le_refl _) _).setCell (p := ⟨w.heap.size + 1, 0, none⟩) (by simp) _⟩
    · have hpf : p x = false := by simpa using hp
      rw [hpf]
      have HP' : Hid (∀ y ∈ pre ++ [x], p y = false) := fun y hy => by
        rcases List.mem_append.1 hy with h | h
        · exact HP.out y h
        · rw [List.mem_singleton.1 h]; exact hpf
      clear hp hpf cG cH hT hIx HMk HMd
      gi_wp2_with fail
      exact ⟨keepsFrom_below hB4 _, KeepC.of_below hB4, ⟨⟨⟨⟨bG4, bH4⟩, bL4⟩, bO4⟩, HP'⟩, hB4w⟩
  case done =>
    rintro D ys W' hD rfl ⟨⟨⟨⟨⟨bG', bH'⟩, bL'⟩, bO'⟩, HP⟩, hB'⟩ hK
    have cL := bL'.cell
    have fL := bL'.frozen
    have cO := bO'.cell
    have fO := bO'.frozen
    gi_wp2_with fail
    have hK1 := (KeepsOthers.setCell W' ⟨w.heap.size, 0, none⟩ (.slice none 0 0)).same D _ hK rfl
    have hK2 := (KeepsOthers.setCell (W'.setCell ⟨w.heap.size, 0, none⟩ (.slice none 0 0)) ⟨w.heap.size + 1, 0, none⟩ (.bool false)).same D _ hK1 rfl
    have bO6 : Boxed (W'.setCell ⟨w.heap.size, 0, none⟩ (.slice none 0 0)) (w.heap.size + 1) 4 (.bool false) := (Below.heap_setCell W' ⟨w.heap.size, 0, none⟩ _ (w.heap.size + 1) (by simp)).trans bO'
    have bL7 : Boxed ((W'.setCell ⟨w.heap.size, 0, none⟩ (.slice none 0 0)).setCell ⟨w.heap.size + 1, 0, none⟩ (.bool false)) w.heap.size 24 (.slice none 0 0) := (Below.heap_setCell _ ⟨w.heap.size + 1, 0, none⟩ (.bool false) w.heap.size (by simp)).trans (bL'.set _)
    have hB7 := (hB'.setCell (p := ⟨w.heap.size, 0, none⟩) (Nat.le_refl _) (.slice none 0 0)).setCell (p := ⟨w.heap.size + 1, 0, none⟩) (by simp) (.bool false)
    refine ⟨by simp, .inl ⟨_, _, rfl, run_takeDeferred hK2, ?_⟩⟩
    have hc7 := cell_kept bL7.cell (grownBy_putObj' _ D (.deferred none)) (fun r e => by cases e; exact ⟨_, hK2, rfl⟩)
    have hc8 := cell_kept (bO6.set (.bool false)).cell (grownBy_putObj' _ D (.deferred none)) (fun r e => by cases e; exact ⟨_, hK2, rfl⟩)
    have hfn : (olvl N N).find? p = none := by rw [← ord_olvl]; exact find_not fun y hy => HP.out y hy
    rw [hfn]
    refine ⟨.tuple #[.slice none 0 0, .bool false], ?_, none, 0, ⟨rfl, hB7.trans (belowK_b (w := w) (Nat.le_refl _) _ D _ _ (by omega) hK2 rfl rfl)⟩, World.ownsRow_nil _ _ _ 1⟩
    simp [results, Try.f15, go_sem, hc7, hc8]
  case stop =>
    rintro D c' pre W' hD hpre ⟨x, g, cap, ⟨⟨⟨⟨⟨rfl, HX⟩, bL'⟩, bO'⟩, hg⟩, hown⟩, hB'⟩ hK
    gi_wp2
    obtain ⟨hxN, pre', rfl, hno, hyes⟩ := HX.out
    refine ⟨by simp, .inl ⟨_, _, rfl, run_takeDeferred hK, ?_⟩⟩
    have hc7 := cell_kept bL'.cell (grownBy_putObj' _ D (.deferred none)) (fun r e => by cases e; exact ⟨_, hK, rfl⟩)
    have hc8 := cell_kept bO'.cell (grownBy_putObj' _ D (.deferred none)) (fun r e => by cases e; exact ⟨_, hK, rfl⟩)
    have hfn : (olvl N N).find? p = some x := by rw [← ord_olvl]; exact find_at hpre hno hyes
    rw [hfn]
    have hown' := hown.kept (grownBy_putObj' W' D (.deferred none)) (.inr fun e => by
      rcases hown.2 with ⟨h0, _⟩ | ⟨g', cap', cur, e0, _, hgg, _⟩
      · cases h0
      · cases e0
        have e' : g = D := Option.some.inj e
        subst e'
        rw [hgg] at hK; cases hK)
    refine ⟨.tuple #[.slice (some ⟨g, 0, none⟩) N cap, .bool true], ?_, some ⟨g, 0, none⟩, cap, ⟨?_, hB'.trans (belowK_b (w := w) (Nat.le_refl _) _ D _ _ (by omega) hK rfl rfl)⟩, ?_⟩
    · simp [results, Try.f15, go_sem, hc7, hc8]
    · rw [← hxN]; rfl
    · rw [Option.getD_some, hxN]; exact hown'

end Go.Proofs.Ytmohmecdhabapac
