/-
  Several texts in one.
  impl.coredOk, impl.StaysOk, impl.ImageOf, impl.RigidOk.
  impl.fewestKept and its closure: the best so far.
  impl.CoreOk, impl.TurnsOf.
  impl.fewestThatStay, impl.StaysOf.
  impl.StaysOf, impl.CoreOf.
-/
import Derived.Test.YtpcmenhchabgiaaWR
import Derived.Test.YtpcmenhchabgiaaZV
import Derived.Test.YtpcmenhchabgiaaW0
import Derived.Test.YtpcmenhchabgiaaM7
import Derived.Test.YtpcmenhchabgiaaZQ
import Derived.Test.YtpcmenhchabgiaaZI
import Derived.Test.YtpcmenhchabgiaaZC
import Derived.Test.YtpcmenhchabgiaaZX
import Derived.WalkMore
import Derived.Test.YtpcmenhchabgiaaWY
namespace Go.Proofs.Ytpcmenhchabgiaa
open Go.RowKit Go.Shelf Go.Deep

set_option maxRecDepth 100000 in
set_option maxHeartbeats 1000000 in
theorem coredP (a : Option Addr) (c : Nat) (G : List (List Int)) (w : World) (hM : Mat w.heap.size w a G) (hF : Fit G) :
    Calls Try.prog 60 #[.slice a G.length c] w (Ans (.bool (g5 G)) w) := by
  have HOk := Lib.hid (implOk a c G w hM hF)
  have hl := hF.1
  obtain ⟨n, hn⟩ : ∃ n, G.length = n := ⟨_, rfl⟩
  have e : g5 G = (gOk G && decide (n ≤ 5)) := by unfold g5; rw [hn]
  rw [e]
  rw [hn] at HOk hl ⊢
  obtain ⟨y, hy⟩ : ∃ y, gOk G = y := ⟨_, rfl⟩
  rw [hy] at HOk ⊢
  clear hn hy hM hF e
  go_enter Try.func60, Try.ntmps60
  go_wp2_with fail
  refine HOk.out.mono ?_
  rintro e w1 ⟨rfl, hB1⟩
  cases y with
  | false =>
    go_wp2_with fail
    go_ret
    exact ⟨rfl, hB1⟩
  | true =>
    go_wp2_with fail
    go_ret
    exact ⟨ret_bool (by rw [Bool.eq_iff_iff]; simp; omega), hB1⟩

end Go.Proofs.Ytpcmenhchabgiaa

namespace Go.Proofs.Ytpcmenhchabgiaa
open Go.RowKit Go.Shelf Go.Deep

attribute [local go_sem] Oper.semAt_some

/-- Two boxes may turn, and nothing else that was there. -/
structure Kept2 (F B : Nat) (w w' : World) : Prop where
  os : w'.os = w.os
  tape : w'.tape = w.tape
  output : w'.output = w.output
  size : w.heap.size ≤ w'.heap.size
  block : ∀ k, k < w.heap.size → k ≠ F → k ≠ B → w'.heap[k]? = w.heap[k]?
theorem Kept2.of_below {F B : Nat} {w w' : World} (h : Below w.heap.size w w') : Kept2 F B w w' := ⟨h.os, h.tape, h.output, h.size, fun k hk _ _ => h.block k hk⟩
theorem Kept2.trans {F B : Nat} {x y z : World} (h : Kept2 F B x y) (k : Kept2 F B y z) : Kept2 F B x z :=
  ⟨k.os.trans h.os, k.tape.trans h.tape, k.output.trans h.output, Nat.le_trans h.size k.size, fun j hj h1 h2 => (k.block j (Nat.lt_of_lt_of_le hj h.size) h1 h2).trans (h.block j hj h1 h2)⟩
theorem Kept2.setF {F B : Nat} (w : World) (j : Nat) (v : Value) : Kept2 F B w (w.setCell ⟨F, j, none⟩ v) := ⟨rfl, rfl, rfl, by simp, fun k _ h1 _ => Below.heap_setCell w ⟨F, j, none⟩ v k h1⟩
theorem Kept2.setB {F B : Nat} (w : World) (j : Nat) (v : Value) : Kept2 F B w (w.setCell ⟨B, j, none⟩ v) := ⟨rfl, rfl, rfl, by simp, fun k _ _ h2 => Below.heap_setCell w ⟨B, j, none⟩ v k h2⟩
theorem Kept2.box {F B : Nat} {w w' : World} (h : Kept2 F B w w') {k : Nat} {t : TypeId} {v : Value} (b : Boxed w k t v) (h1 : k ≠ F) (h2 : k ≠ B) : Boxed w' k t v := (h.block k b.lt h1 h2).trans b
theorem Kept2.below {F B n : Nat} {w w' : World} (h : Kept2 F B w w') (h1 : n ≤ F) (h2 : n ≤ B) (hn : n ≤ w.heap.size) : Below n w w' := ⟨h.os, h.tape, h.output, h.size, fun k hk => h.block k (by omega) (by omega) (by omega)⟩

theorem grownBy_setQ6 (W : World) (b j : Nat) (x : Value) : W.grownBy (W.setCell ⟨b, j, none⟩ x) (some b) :=
  ⟨rfl, rfl, rfl, by simp, fun k _ hk => Below.heap_setCell W ⟨b, j, none⟩ x k (fun e => hk (by rw [show k = b from e]))⟩
/-- What the closure does with a row. -/
def KeepOut (F B N : Nat) (v : Value) (fw : Nat) (m : Nat) (x : List Int) (w : World) (e : Ending) (w' : World) : Prop :=
  ∃ v', e = .returned v' ∧ Kept2 F B w w' ∧ Boxed w' B 33 v' ∧ ((m < fw ∧ Boxed w' F 3 (.int .i64 m) ∧ w'.ownsRow w.heap.size 3 1 v' N (x.map (Value.int .i64))) ∨ (¬ m < fw ∧ Boxed w' F 3 (.int .i64 fw) ∧ v' = v))

set_option maxRecDepth 100000 in
set_option maxHeartbeats 2000000 in
theorem keepP (F B b N : Nat) (v : Value) (fw : Nat) (x : List Int) (w : World) (hFB : F ≠ B) (bF : Boxed w F 3 (.int .i64 fw)) (bB : Boxed w B 33 v) (hI : Ints w.heap.size w (some ⟨b, 0, none⟩) x) (hx : x.length = N) (h1 : 1 ≤ N) (h9 : N ≤ 9) (ht : ∀ y ∈ x, 0 ≤ y ∧ y < (N : Int)) :
    Calls Try.prog 118 #[.slice (some ⟨b, 0, none⟩) N N, .pointer (some ⟨F, 0, none⟩), .pointer (some ⟨B, 0, none⟩)] w (KeepOut F B N v fw (imgL N x).length x w) := by
  have hIm := imageP (some ⟨b, 0, none⟩) N N x w hI (by omega) (by omega) ht
  have hm9 : (imgL N x).length ≤ N := imgL_le x
  obtain ⟨z, hz⟩ : ∃ z, imgL N x = z := ⟨_, rfl⟩
  rw [hz] at hIm hm9 ⊢
  rw [hx] at hIm
  have HIm := Lib.hid hIm
  obtain ⟨m, hm⟩ : ∃ m, z.length = m := ⟨_, rfl⟩
  have HM := Lib.hid hm
  rw [hm] at hm9 ⊢
  have HX := Lib.hid hx
  have HCl : Hid (∀ w1 : World, Below w.heap.size w w1 → Calls Try.prog 100 #[.slice (some ⟨b, 0, none⟩) N N] w1 fun e w' => ∃ g cap, e = .returned (.slice (some ⟨g, 0, none⟩) N cap) ∧ Below w1.heap.size w1 w' ∧ w'.ownsRow w1.heap.size 3 1 (.slice (some ⟨g, 0, none⟩) N cap) N (x.map (Value.int .i64))) := Lib.hid fun w1 hB => by
    have := cloneRow b N x w1 ((hI.below hB).more hB.size) (by omega) (by omega)
    rw [HX.out] at this
    exact this
  clear hIm hz hm hI hx ht
  go_enter Try.func118, Try.ntmps118
  go_wp2_with fail
  refine HIm.out.mono ?_
  rintro e w1 ⟨a1, c1, ⟨he, hB1⟩, hO1⟩
  rw [HM.out] at he
  subst he
  clear hO1
  have hz1 := hB1.size
  have bF1 : Boxed w1 F 3 (.int .i64 fw) := (hB1.block _ bF.lt).trans bF
  have bB1 : Boxed w1 B 33 v := (hB1.block _ bB.lt).trans bB
  have cF := bF1.cell
  have cB := bB1.cell
  by_cases hlt : m < fw
  · go_wp2_with fail
    refine (HCl.out w1 hB1).mono ?_
    rintro e w2 ⟨g, cap, rfl, hB2, hown⟩
    have bF2 : Boxed w2 F 3 (.int .i64 fw) := (hB2.block _ bF1.lt).trans bF1
    have bB2 : Boxed w2 B 33 v := (hB2.block _ bB1.lt).trans bB1
    have bB3 := bB2.set (.slice (some ⟨g, 0, none⟩) N cap)
    have bF3 : Boxed (w2.setCell ⟨B, 0, none⟩ (.slice (some ⟨g, 0, none⟩) N cap)) F 3 (.int .i64 fw) := (Below.heap_setCell w2 ⟨B, 0, none⟩ _ F hFB).trans bF2
    have bF4 := bF3.set (.int .i64 m)
    have bB4 : Boxed ((w2.setCell ⟨B, 0, none⟩ (.slice (some ⟨g, 0, none⟩) N cap)).setCell ⟨F, 0, none⟩ (.int .i64 m)) B 33 (.slice (some ⟨g, 0, none⟩) N cap) := (Below.heap_setCell _ ⟨F, 0, none⟩ _ B hFB.symm).trans bB3
    have cB2 := bB2.cell
    have fB2 := bB2.frozen
    have cF3 := bF3.cell
    have fF3 := bF3.frozen
    have cB4 := bB4.cell
    have hK2 : Kept2 F B w ((w2.setCell ⟨B, 0, none⟩ (.slice (some ⟨g, 0, none⟩) N cap)).setCell ⟨F, 0, none⟩ (.int .i64 m)) :=
      (Kept2.of_below (hB1.trans (hB2.mono hz1))).trans ((Kept2.setB w2 0 _).trans (Kept2.setF _ 0 _))
    have hg := (hown.lt g rfl).1
    have hown4 := (((Joins.ownsRow_le hown hz1).kept (grownBy_setQ6 w2 B 0 (.slice (some ⟨g, 0, none⟩) N cap)) (.inr fun e => by have e' : g = B := Option.some.inj e; have := bB1.lt; omega)).kept (grownBy_setQ6 _ F 0 (.int .i64 m)) (.inr fun e => by have e' : g = F := Option.some.inj e; have := bF1.lt; omega))
    have HFin := Lib.hid (And.intro hK2 (And.intro bB4 (And.intro bF4 hown4)))
    clear hK2 bB4 bF4 hown4 hown bF3 bB3 bF2 bB2 bF1 bB1 bF bB
    go_wp2_with fail
    go_ret
    exact ⟨_, rfl, HFin.out.1, HFin.out.2.1, .inl ⟨hlt, HFin.out.2.2.1, HFin.out.2.2.2⟩⟩
  · go_wp2_with fail
    go_ret
    exact ⟨_, rfl, Kept2.of_below hB1, bB1, .inr ⟨hlt, bF1, rfl⟩⟩

end Go.Proofs.Ytpcmenhchabgiaa

namespace Go.Proofs.Ytpcmenhchabgiaa
open Go.RowKit Go.Shelf Go.Deep

attribute [local go_sem] Oper.semAt_some

theorem maps_tells {G : List (List Int)} (h5 : g5 G = true) {x : List Int} (hx : x ∈ mapsFrom G G G.length []) : Tells G.length G.length x := by
  obtain ⟨hg, h5'⟩ := g5_iff.1 h5
  have hf := few5 hg hg h5' h5'
  rw [← mapsL_yes hf] at hx
  exact ((mapsL_mem hf x).1 hx).1
theorem few_maps5 {G : List (List Int)} (h5 : g5 G = true) : (mapsFrom G G G.length []).length ≤ 7000 := by
  obtain ⟨hg, h5'⟩ := g5_iff.1 h5
  exact few_maps (few5 hg hg h5' h5')
theorem corOk_yes {G : List (List Int)} (h5 : g5 G = true) : corOkI G = (mapsFrom G G G.length []).all fun x => decide ((imgL G.length x).length = G.length) := by
  obtain ⟨hg, h5'⟩ := g5_iff.1 h5
  unfold corOkI
  rw [h5, mapsL_yes (few5 hg hg h5' h5'), Bool.true_and]
  refine List.all_congr rfl fun x => ?_
  rw [Bool.eq_iff_iff, decide_eq_true_eq, decide_eq_true_eq]
  have := imgL_le (m := G.length) x
  omega
theorem corOk_no {G : List (List Int)} (h5 : g5 G = false) : corOkI G = false := by unfold corOkI; rw [h5]; rfl

set_option maxRecDepth 100000 in
set_option maxHeartbeats 4000000 in
theorem implCoreOk (a : Option Addr) (c : Nat) (G : List (List Int)) (w : World) (hM : Mat w.heap.size w a G) (hF : Fit G) :
    Calls Try.prog 23 #[.slice a G.length c] w (Ans (.bool (corOkI G)) w) := by
  have h1 : Fence.wide.fn 60 := trivial
  have h2 : Fence.wide.fn 61 := trivial
  have h3 : Fence.wide.fn 62 := trivial
  have hdd : ∀ k : Nat, (Fence.wide.depth.isSome = true → 1 ≤ k) := fun k h => by cases h
  have es : ∀ (W : World) (o : Obj), (W.alloc o).heap.size = W.heap.size + 1 := fun W o => by simp
  have hB00 : Below w.heap.size w (w.alloc (.cells #[.bool false] 4)) := (Below.refl _ _).alloc (Nat.le_refl _) _
  have hFew := coredP a c G (w.alloc (.cells #[.bool false] 4)) ((hM.below hB00).more hB00.size) hF
  obtain ⟨z, HZ⟩ : ∃ z, Hid (corOkI G = z) := ⟨_, rfl⟩
  rw [HZ.out]
  refine (callsIn_wide (n := 20)).1 ?_
  by_cases hg : g5 G = true
  · rw [hg] at hFew
    have HFew := Lib.hid hFew
    have HG := Lib.hid (good_of (g5_iff.1 hg).1)
    have HN := Lib.hid (few_maps5 hg)
    have HT : Hid (∀ x ∈ mapsFrom G G G.length [], Tells G.length G.length x) := Lib.hid fun x hx => maps_tells hg hx
    have hN9 : G.length ≤ 9 := HG.out.2.1
    have hN1 : 1 ≤ G.length := HG.out.1
    obtain ⟨p, HPP⟩ : ∃ p : List Int → Bool, Hid ((fun x => decide ((imgL G.length x).length = G.length)) = p) := ⟨_, rfl⟩
    have HAp : Hid (∀ (W : World) (x : List Int) (b : Nat), x.length = G.length → Tells G.length G.length x → Ints W.heap.size W (some ⟨b, 0, none⟩) x → Calls Try.prog 62 #[.slice (some ⟨b, 0, none⟩) G.length G.length] W (Ans (.bool (p x)) W)) := Lib.hid fun W x b hx hT hI => by
      have := apartP (some ⟨b, 0, none⟩) G.length G.length x W hI (by omega) (by omega) (fun y hy => tells_mem hT hy) (by omega)
      rw [hx] at this
      rw [← HPP.out]
      exact this
    have HZ2 : Hid (z = (mapsFrom G G G.length []).all p) := Lib.hid (by rw [← HZ.out, corOk_yes hg, HPP.out])
    clear hFew hF hg HPP
    refine callsIn_of_wp_marks Try.func23 rfl trivial ?_ rfl
    simp only [Try.ntmps23, List.size_toArray, List.length_cons, List.length_nil, Nat.reduceAdd, Nat.reduceSub, Array.replicate_succ, Array.replicate_zero, List.push_toArray, List.append_toArray, List.nil_append, List.cons_append]
    have hFewR : Calls Try.prog 60 #[.slice a G.length c] (w.alloc (.cells #[.bool false] 4)) (Ans (.bool true) (w.alloc (.cells #[.bool false] 4))) := HFew.out
    have HFR := Lib.hid hFewR
    clear hFewR
    gi_wp2_with (first | ((try refine ⟨hdd _, ?_⟩); gi_at_call 60; refine (callsIn_wide.2 HFR.out).mono ?_; rintro e w1 ⟨rfl, hB1⟩) | ((try refine ⟨hdd _, ?_⟩); gi_at_call 61; refine (mapsTo_in _ _ _ _ _ _ _ _).mono ?_; rintro e w' ⟨rfl, rfl⟩))
    have bR0 : Boxed w1 w.heap.size 4 (.bool false) := (hB1.block _ (by simp)).trans (Boxed.new w 4 (.bool false))
    have hB0 : Below w.heap.size w w1 := ((Below.refl w.heap.size w).alloc (Nat.le_refl _) (.cells #[.bool false] 4)).trans (hB1.mono (by simp))
    have bC := (bR0.alloc (.cells #[.slice a G.length c] 58)).alloc (.cells #[.slice a G.length c] 58)
    have bG := (Boxed.new w1 58 (.slice a G.length c)).alloc (.cells #[.slice a G.length c] 58)
    have bH := Boxed.new (w1.alloc (.cells #[.slice a G.length c] 58)) 58 (.slice a G.length c)
    rw [es] at bH
    have hB2 := (hB0.alloc hB0.size (.cells #[.slice a G.length c] 58)).alloc (by simp; have := hB0.size; omega) (.cells #[.slice a G.length c] 58)
    have hws : w.heap.size < w1.heap.size := bR0.lt
    have hsz : ((w1.alloc (.cells #[.slice a G.length c] 58)).alloc (.cells #[.slice a G.length c] 58)).heap.size = w1.heap.size + 2 := by simp
    obtain ⟨V, hV⟩ : ∃ V, (w1.alloc (.cells #[.slice a G.length c] 58)).alloc (.cells #[.slice a G.length c] 58) = V := ⟨_, rfl⟩
    rw [hV] at bC bG bH hB2 hsz ⊢
    have hMV := hM.below hB2
    have hsz1 : w1.heap.size + 2 ≤ V.heap.size := by omega
    have hsz2 : V.heap.size ≤ w1.heap.size + 2 := by omega
    clear hV hB1 hM bR0 hB0 hsz
    have hseq := mapsTo_Y w.heap.size (V.heap.size + 2) w1.heap.size a a c c G G HG.out HG.out (fun B => B = w.heap.size) V bG bH hMV hMV (fun B s => by omega) (by omega) (by omega)
    refine range_lawY rfl rfl (fun _ => trivial) (gf := 88) (lb := #[.pointer (some ⟨w1.heap.size, 0, none⟩), .pointer (some ⟨w1.heap.size + 1, 0, none⟩)]) rfl (enters_of Try.func88 (by kernel_rfl) rfl)
      hseq (.inr (by omega)) (OwnFrom.and (ownFrom_pure _ _) (Own.from (hold_own _ _ _) _)) (fun h k => KeepC.trans h k) (fun W' o o' h hc => KeepC.putObj _ (by omega) W' o o' h hc) (Below.refl _ _) (fun _ => rfl)
      (fun pre W' => (Hid (∀ x ∈ pre, p x = true) ∧ Boxed W' w.heap.size 4 (.bool false)) ∧ Below w.heap.size w W')
      (fun c₁ pre W' => ((c₁ = .ret ∧ Hid (∃ x ∈ pre, p x = false)) ∧ Boxed W' w.heap.size 4 (.bool false)) ∧ Below w.heap.size w W')
      ⟨OwnFrom.and (OwnFrom.and (ownFrom_pure _ _) (Own.from (boxed_own _ _ _) _)) (ownFrom_below (Nat.le_refl _) (by omega)), fun s A C hs hgr _ => ⟨⟨hs.1.1, hs.1.2.kept hgr (fun e => by have e' := Option.some.inj e; omega)⟩, hs.2.grown hgr hs.2.size (fun r e => by cases e; omega)⟩⟩
      (fun _ => ⟨OwnFrom.and (OwnFrom.and (ownFrom_pure _ _) (Own.from (boxed_own _ _ _) _)) (ownFrom_below (Nat.le_refl _) (by omega)), fun s A C hs hgr _ => ⟨⟨hs.1.1, hs.1.2.kept hgr (fun e => by have e' := Option.some.inj e; omega)⟩, hs.2.grown hgr hs.2.size (fun r e => by cases e; omega)⟩⟩)
      ⟨⟨fun x hx => absurd hx (by simp), bC⟩, hB2⟩ ?a1 ?assign ?body ?done ?stop
    case assign =>
      intro l2 x W' K hK
      gi_wp2
      exact hK
    case body =>
      rintro l2 pre x W' ⟨⟨HP, bC'⟩, hB'⟩ hsp ⟨hxN, hHx⟩
      have HTx := Lib.hid (HT.out x (hsp.subset (by simp)))
      have hIx : Ints W'.heap.size W' (some ⟨V.heap.size + 2 + 1, 0, none⟩) x := hHx.ints
      have HA := Lib.hid (HAp.out W' x _ hxN HTx.out hIx)
      clear hseq hIx hsp
      gi_wp2_with fail
      (try refine ⟨hdd _, ?_⟩)
      gi_at_call 62
      refine (CallsIn.inRound l2 (callsIn_wide.2 HA.out)).mono ?_
      rintro e w4 ⟨rfl, hB4⟩
      have hz4 := hB4.size
      have bC4 : Boxed w4 w.heap.size 4 (.bool false) := (hB4.block _ bC'.lt).trans bC'
      have hB4w : Below w.heap.size w w4 := hB'.trans (hB4.mono hB'.size)
      have cC := bC4.cell
      have fC := bC4.frozen
      by_cases hp : p x = true
      · rw [hp]
        have HX := Lib.hid hp
        clear hp HA
        gi_wp2_with fail
        exact ⟨keepsFrom_below hB4 _, KeepC.of_below hB4, ⟨fun y hy => (List.mem_append.1 hy).elim (fun h => HP.out y h) (fun h => by rw [List.mem_singleton.1 h]; exact HX.out), bC4⟩, hB4w⟩
      · have hpf : p x = false := by simpa using hp
        rw [hpf]
        have HX := Lib.hid hpf
        clear hp hpf HA
        gi_wp2_with fail
        exact ⟨(keepsFrom_below hB4 _).trans ((KeepsOthers.setCell _ _ _).from _), ⟨⟨rfl, x, by simp, HX.out⟩, bC4.set _⟩, hB4w.setCell (p := ⟨w.heap.size, 0, none⟩) (Nat.le_refl _) _⟩
    case done =>
      rintro D ys W' hD rfl ⟨⟨HP, bC'⟩, hB'⟩ hK
      have cC := bC'.cell
      have fC := bC'.frozen
      have HA : Hid ((mapsFrom G G G.length []).all p = true) := Lib.hid (List.all_eq_true.2 HP.out)
      clear hseq
      gi_wp2
      have hK' := (KeepsOthers.setCell W' ⟨w.heap.size, 0, none⟩ (.bool true)).same D _ hK rfl
      refine ⟨by simp, .inl ⟨_, _, rfl, run_takeDeferred hK', ?_⟩⟩
      have hc5 := cell_kept (bC'.set (.bool true)).cell (grownBy_putObj' _ D (.deferred none)) (fun r e => by cases e; exact ⟨_, hK', rfl⟩)
      refine ⟨.bool true, ?_, ret_bool (by rw [HZ2.out, HA.out]), (hB'.setCell (p := ⟨w.heap.size, 0, none⟩) (Nat.le_refl _) _).trans (belowK_b (w := w) (Nat.le_refl _) _ D _ _ (by omega) hK' rfl rfl)⟩
      simp [results, Try.f23, go_sem, hc5]
    case stop =>
      rintro D c₁ pre W' hD hpre ⟨⟨⟨rfl, hne⟩, bC'⟩, hB'⟩ hK
      clear hseq
      gi_wp2
      refine ⟨by simp, .inl ⟨_, _, rfl, run_takeDeferred hK, ?_⟩⟩
      have hc5 := cell_kept bC'.cell (grownBy_putObj' _ D (.deferred none)) (fun r e => by cases e; exact ⟨_, hK, rfl⟩)
      have hall : (mapsFrom G G G.length []).all p = false := by
        obtain ⟨x, hx, hpx⟩ := hne.out
        refine List.all_eq_false.2 ⟨x, hpre.subset hx, by rw [hpx]; decide⟩
      refine ⟨.bool false, ?_, ret_bool (by rw [HZ2.out, hall]), hB'.trans (belowK_b (w := w) (Nat.le_refl _) W' D _ _ (by omega) hK rfl rfl)⟩
      simp [results, Try.f23, go_sem, hc5]
  · have hg' : g5 G = false := by simpa using hg
    rw [hg'] at hFew
    have HFew := Lib.hid hFew
    have HZ2 : Hid (z = false) := Lib.hid (by rw [← HZ.out, corOk_no hg'])
    clear hFew hg hM hF hg'
    refine callsIn_of_wp_marks Try.func23 rfl trivial ?_ rfl
    simp only [Try.ntmps23, List.size_toArray, List.length_cons, List.length_nil, Nat.reduceAdd, Nat.reduceSub, Array.replicate_succ, Array.replicate_zero, List.push_toArray, List.append_toArray, List.nil_append, List.cons_append]
    gi_wp2_with ((try refine ⟨hdd _, ?_⟩); gi_at_call 60; refine (callsIn_wide.2 HFew.out).mono ?_; rintro e w1 ⟨rfl, hB1⟩; have bR0 : Boxed w1 w.heap.size 4 (.bool false) := (hB1.block _ (by simp)).trans (Boxed.new w 4 (.bool false)); have cR := bR0.cell; have fR := bR0.frozen)
    have hB0 : Below w.heap.size w w1 := hB00.trans (hB1.mono (by simp))
    have hc5 := (bR0.set (.bool false)).cell
    refine ⟨.bool false, by simp [results, Try.f23, go_sem, hc5], ret_bool HZ2.out.symm, hB0.setCell (p := ⟨w.heap.size, 0, none⟩) (Nat.le_refl _) _⟩

theorem filter_snoc {α : Type} (p : α → Bool) (l : List α) (x : α) : ((l ++ [x]).filter p).length = (l.filter p).length + (if p x = true then 1 else 0) := by
  rw [List.filter_append, List.length_append]
  by_cases h : p x = true <;> simp [h]

end Go.Proofs.Ytpcmenhchabgiaa

namespace Go.Proofs.Ytpcmenhchabgiaa
open Go.RowKit Go.Shelf Go.Deep

attribute [local go_sem] Oper.semAt_some

theorem own_keptS {W W' : World} {base e n : Nat} {v : Value} {xs : List Value} {row : Option Nat} (h : W.ownsRow base e 1 v n xs) (hg : W.grownBy W' row) (hr : ∀ r, row = some r → r < base ∨ ∃ o : Obj, W.heap[r]? = some o ∧ o.isCells = false) : W'.ownsRow base e 1 v n xs := by
  refine h.kept hg ?_
  rcases h.2 with ⟨rfl, _⟩ | ⟨g, cap, cur, rfl, hb, hgg, _⟩
  · exact .inl rfl
  · refine .inr fun e' => ?_
    rcases hr g (by rw [← e']; rfl) with hlt | ⟨o, ho', hc⟩
    · omega
    · rw [hgg] at ho'; cases ho'; cases hc
/-- The least image so far: 10 where there is none. -/
def fewN (N : Nat) (st : List Int) : Nat := if st.length = 0 then 10 else (imgL N st).length
theorem fewN_le {N : Nat} (h9 : N ≤ 9) (st : List Int) : fewN N st ≤ 10 := by
  unfold fewN
  have := imgL_le (m := N) st
  split <;> omega
theorem betQ_yes {G : List (List Int)} {st x : List Int} (hs : stysI G x = true) (hlt : (imgL G.length x).length < fewN G.length st) : betF G st x = x := by
  unfold betF
  refine if_pos ⟨hs, ?_⟩
  unfold fewN at hlt
  by_cases h0 : st.length = 0
  · exact .inl h0
  · rw [if_neg h0] at hlt; exact .inr hlt
theorem betQ_no {G : List (List Int)} {st x : List Int} (h9 : G.length ≤ 9) (hlt : ¬ (imgL G.length x).length < fewN G.length st) : betF G st x = st := by
  unfold betF
  refine if_neg fun h => ?_
  unfold fewN at hlt
  have := imgL_le (m := G.length) x
  by_cases h0 : st.length = 0
  · rw [if_pos h0] at hlt; omega
  · rw [if_neg h0] at hlt
    rcases h.2 with h1 | h1
    · exact h0 h1
    · exact hlt h1
theorem betQ_not {G : List (List Int)} {st x : List Int} (hs : stysI G x = false) : betF G st x = st := if_neg fun h => by rw [hs] at h; cases h.1
theorem fewN_x {N : Nat} {x : List Int} (h : x.length = N) (h1 : 1 ≤ N) : fewN N x = (imgL N x).length := if_neg (by omega)

theorem store_fn5 {P : Program} (w : World) (a : Addr) (m : Mode) (fn : Fn) (first captured : Array Value) : (store a (.func fn first captured) m).run P w = stored P w a (.func fn first captured) m := run_store P w a _ m rfl
attribute [local go_sem] store_fn5

set_option maxHeartbeats 1000000 in
theorem fewestKept_in (n : Nat) (w : World) :
    CallsIn Fence.wide n Try.prog 110 #[] w fun e w' =>
      e = .returned (.func (.func 118) #[] #[.pointer (some ⟨w.heap.size + 1, 0, none⟩), .pointer (some ⟨w.heap.size, 0, none⟩)]) ∧
      w' = (w.alloc (.cells #[.slice none 0 0] 33)).alloc (.cells #[.int .i64 10] 3) := by
  refine callsIn_of_wp Try.func110 rfl trivial ?_ rfl
  simp only [Try.ntmps110, List.size_toArray, List.length_nil, Nat.reduceSub, Array.replicate_succ, Array.replicate_zero, List.push_toArray, List.append_toArray, List.nil_append, List.cons_append]
  gi_wp2
  go_ret
  exact ⟨rfl, rfl⟩

set_option maxRecDepth 100000 in
set_option maxHeartbeats 4000000 in
theorem fewestP (a : Option Addr) (c : Nat) (G : List (List Int)) (w : World) (hM : Mat w.heap.size w a G) (hg : g5 G = true) :
    Calls Try.prog 97 #[.agg #[.slice a G.length c]] w (MadeOwn (staL G) w) := by
  have h1 : Fence.wide.fn 110 := trivial
  have h2 : Fence.wide.fn 61 := trivial
  have h3 : Fence.wide.fn 118 := trivial
  have hdd : ∀ k : Nat, (Fence.wide.depth.isSome = true → 1 ≤ k) := fun k h => by cases h
  have es : ∀ (W : World) (o : Obj), (W.alloc o).heap.size = W.heap.size + 1 := fun W o => by simp
  have HG := Lib.hid (good_of (g5_iff.1 hg).1)
  have HT : Hid (∀ x ∈ mapsFrom G G G.length [], IsMap G G x) := Lib.hid fun x hx => by
    obtain ⟨hgk, h5'⟩ := g5_iff.1 hg
    have hf := few5 hgk hgk h5' h5'
    rw [← mapsL_yes hf] at hx
    exact (mapsL_mem hf x).1 hx
  have HST : Hid (∀ x, IsMap G G x → (stysI G x = true ↔ ∀ k, k < x.length → nd x (nd x k) = nd x k)) := Lib.hid fun x hx => by
    obtain ⟨hgk, h5'⟩ := g5_iff.1 hg
    rw [stys_iff]
    exact ⟨fun h => h.2, fun h => ⟨mapOk_iff.2 ⟨⟨hgk, hgk⟩, hx⟩, h⟩⟩
  have hN9 : G.length ≤ 9 := HG.out.2.1
  have hN1 : 1 ≤ G.length := HG.out.1
  obtain ⟨z, HZ⟩ : ∃ z, Hid (staL G = z) := ⟨_, rfl⟩
  have HZ2 : Hid (z = (mapsFrom G G G.length []).foldl (betF G) []) := Lib.hid (by
    obtain ⟨hgk, h5'⟩ := g5_iff.1 hg
    rw [← HZ.out, staL_yes hg, mapsL_yes (few5 hgk hgk h5' h5')])
  rw [HZ.out]
  clear hg HZ
  refine (callsIn_wide (n := 20)).1 ?_
  refine callsIn_of_wp_marks Try.func97 rfl trivial ?_ rfl
  simp only [Try.ntmps97, List.size_toArray, List.length_cons, List.length_nil, Nat.reduceAdd, Nat.reduceSub, Array.replicate_succ, Array.replicate_zero, List.push_toArray, List.append_toArray, List.nil_append, List.cons_append]
  gi_wp2_with fail
  refine wpIn_wide.2 ?_
  refine wp_scope_straight ?_
  refine (wpIn_wide (n := 20)).1 ?_
  gi_wp2_with ((try refine ⟨hdd _, ?_⟩); gi_at_call 110; refine (fewestKept_in _ _).mono ?_; rintro e w' ⟨rfl, rfl⟩)
  refine wpIn_label ?_
  gi_wp2_with ((try refine ⟨hdd _, ?_⟩); gi_at_call 61; refine (mapsTo_in _ _ _ _ _ _ _ _).mono ?_; rintro e w' ⟨rfl, rfl⟩)
  have bK := ((Boxed.new ((((w.alloc (.cells #[.slice a G.length c] 58)).alloc (.cells #[.slice none 0 0] 33)).alloc (.cells #[.slice none 0 0] 33)).alloc (.cells #[.int .i64 10] 3)) 47 (.func (.func 118) #[] #[.pointer (some ⟨w.heap.size + 1 + 1 + 1, 0, none⟩), .pointer (some ⟨w.heap.size + 1 + 1, 0, none⟩)])).alloc (.cells #[.slice a G.length c] 58)).alloc (.cells #[.slice a G.length c] 58)
  have bF := (((Boxed.new (((w.alloc (.cells #[.slice a G.length c] 58)).alloc (.cells #[.slice none 0 0] 33)).alloc (.cells #[.slice none 0 0] 33)) 3 (.int .i64 10)).alloc (.cells #[.func (.func 118) #[] #[.pointer (some ⟨w.heap.size + 1 + 1 + 1, 0, none⟩), .pointer (some ⟨w.heap.size + 1 + 1, 0, none⟩)]] 47)).alloc (.cells #[.slice a G.length c] 58)).alloc (.cells #[.slice a G.length c] 58)
  have bB := ((((Boxed.new ((w.alloc (.cells #[.slice a G.length c] 58)).alloc (.cells #[.slice none 0 0] 33)) 33 (.slice none 0 0)).alloc (.cells #[.int .i64 10] 3)).alloc (.cells #[.func (.func 118) #[] #[.pointer (some ⟨w.heap.size + 1 + 1 + 1, 0, none⟩), .pointer (some ⟨w.heap.size + 1 + 1, 0, none⟩)]] 47)).alloc (.cells #[.slice a G.length c] 58)).alloc (.cells #[.slice a G.length c] 58)
  have bT := (((((Boxed.new (w.alloc (.cells #[.slice a G.length c] 58)) 33 (.slice none 0 0)).alloc (.cells #[.slice none 0 0] 33)).alloc (.cells #[.int .i64 10] 3)).alloc (.cells #[.func (.func 118) #[] #[.pointer (some ⟨w.heap.size + 1 + 1 + 1, 0, none⟩), .pointer (some ⟨w.heap.size + 1 + 1, 0, none⟩)]] 47)).alloc (.cells #[.slice a G.length c] 58)).alloc (.cells #[.slice a G.length c] 58)
  have hB1 : Below w.heap.size w (((((w.alloc (.cells #[.slice a G.length c] 58)).alloc (.cells #[.slice none 0 0] 33)).alloc (.cells #[.slice none 0 0] 33)).alloc (.cells #[.int .i64 10] 3)).alloc (.cells #[.func (.func 118) #[] #[.pointer (some ⟨w.heap.size + 1 + 1 + 1, 0, none⟩), .pointer (some ⟨w.heap.size + 1 + 1, 0, none⟩)]] 47)) :=
    (((((Below.refl _ w).alloc (Nat.le_refl _) _).alloc (by simp) _).alloc (by simp; omega) _).alloc (by simp; omega) _).alloc (by simp; omega) _
  obtain ⟨w1, hw1⟩ : ∃ w1, ((((w.alloc (.cells #[.slice a G.length c] 58)).alloc (.cells #[.slice none 0 0] 33)).alloc (.cells #[.slice none 0 0] 33)).alloc (.cells #[.int .i64 10] 3)).alloc (.cells #[.func (.func 118) #[] #[.pointer (some ⟨w.heap.size + 1 + 1 + 1, 0, none⟩), .pointer (some ⟨w.heap.size + 1 + 1, 0, none⟩)]] 47) = w1 := ⟨_, rfl⟩
  have hz1 : w1.heap.size = w.heap.size + 5 := by rw [← hw1]; simp
  rw [hw1] at bK bF bB bT hB1 ⊢
  simp only [es] at bK bF bB bT
  have bG := (Boxed.new w1 58 (.slice a G.length c)).alloc (.cells #[.slice a G.length c] 58)
  have bH := Boxed.new (w1.alloc (.cells #[.slice a G.length c] 58)) 58 (.slice a G.length c)
  rw [es] at bH
  have hB2 := (hB1.alloc hB1.size (.cells #[.slice a G.length c] 58)).alloc (by simp; omega) (.cells #[.slice a G.length c] 58)
  have hsz : ((w1.alloc (.cells #[.slice a G.length c] 58)).alloc (.cells #[.slice a G.length c] 58)).heap.size = w1.heap.size + 2 := by simp
  obtain ⟨V, hV⟩ : ∃ V, (w1.alloc (.cells #[.slice a G.length c] 58)).alloc (.cells #[.slice a G.length c] 58) = V := ⟨_, rfl⟩
  rw [hV] at bK bF bB bT bG bH hB2 hsz ⊢
  have hz1' : w1.heap.size = w.heap.size + 1 + 1 + 1 + 1 + 1 := hz1
  rw [hz1'] at bG bH
  have hMV := hM.below hB2
  have hsz1 : w.heap.size + 7 ≤ V.heap.size := by omega
  have hsz2 : V.heap.size ≤ w.heap.size + 7 := by omega
  clear hV hw1 hB1 hM hsz hz1 hz1'
  have hseq := mapsTo_Y w.heap.size (V.heap.size + 2) (w.heap.size + 1 + 1 + 1 + 1 + 1) a a c c G G HG.out HG.out (fun B => B = w.heap.size + 1 ∨ B = w.heap.size + 1 + 1 ∨ B = w.heap.size + 1 + 1 + 1) V bG bH hMV hMV (fun B s => by rcases s with h | h | h <;> omega) (by omega) (by omega)
  refine range_lawY rfl rfl (fun _ => trivial) (gf := 88) (lb := #[.pointer (some ⟨w.heap.size + 1 + 1 + 1 + 1 + 1, 0, none⟩), .pointer (some ⟨w.heap.size + 1 + 1 + 1 + 1 + 1 + 1, 0, none⟩)]) rfl (enters_of Try.func88 (by kernel_rfl) rfl)
    hseq (.inr (by omega)) (OwnFrom.and (ownFrom_pure _ _) (Own.from (hold_own _ _ _) _)) (fun h k => KeepC.trans h k) (fun W' o o' h hc => KeepC.putObj _ (by omega) W' o o' h hc) (Below.refl _ _) (fun _ => rfl)
    (fun pre W' => (Boxed W' (w.heap.size + 1 + 1 + 1 + 1) 47 (.func (.func 118) #[] #[.pointer (some ⟨w.heap.size + 1 + 1 + 1, 0, none⟩), .pointer (some ⟨w.heap.size + 1 + 1, 0, none⟩)]) ∧ ∃ v, Boxed W' (w.heap.size + 1) 33 v ∧ Boxed W' (w.heap.size + 1 + 1) 33 v ∧ Boxed W' (w.heap.size + 1 + 1 + 1) 3 (.int .i64 (fewN G.length (pre.foldl (betF G) []) : Int)) ∧ W'.ownsRow (V.heap.size + 4) 3 1 v (pre.foldl (betF G) []).length ((pre.foldl (betF G) []).map (Value.int .i64))) ∧ Below w.heap.size w W')
    (fun _ _ _ => False)
    ?oI (fun _ => ⟨fun _ _ _ _ hs _ _ => hs, fun _ _ _ hs _ _ => hs⟩)
    ⟨⟨bK, .slice none 0 0, bT, bB, bF, World.ownsRow_nil _ _ _ 1⟩, hB2⟩ ?a1 ?assign ?body ?done ?stop
  case oI =>
    exact ⟨fun s A C row ⟨⟨k1, v, k2, k3, k4, k5⟩, k6⟩ hgr hr => ⟨⟨k1.kept hgr (fun e => by have := (hr _ e.symm).1; omega), v, k2.kept hgr (fun e => by have := (hr _ e.symm).1; omega), k3.kept hgr (fun e => by have := (hr _ e.symm).1; omega), k4.kept hgr (fun e => by have := (hr _ e.symm).1; omega), own_keptS k5 hgr (fun r e => .inr (hr r e).2)⟩, k6.grown hgr k6.size (fun r e => by have := (hr r e).1; omega)⟩,
      fun s A C ⟨⟨k1, v, k2, k3, k4, k5⟩, k6⟩ hgr _ => ⟨⟨k1.kept hgr (fun e => by have e' := Option.some.inj e; omega), v, k2.kept hgr (fun e => by have e' := Option.some.inj e; omega), k3.kept hgr (fun e => by have e' := Option.some.inj e; omega), k4.kept hgr (fun e => by have e' := Option.some.inj e; omega), own_keptS k5 hgr (fun r e => .inl (by cases e; omega))⟩, k6.grown hgr k6.size (fun r e => by cases e; omega)⟩⟩
  case assign =>
    intro l2 x W' K hK
    gi_wp2
    exact hK
  case body =>
    rintro l2 pre x W' ⟨⟨bK', v, bT', bB', bF', hO⟩, hB'⟩ hsp ⟨hxN, hHx⟩
    obtain ⟨st, hst⟩ : ∃ st, pre.foldl (betF G) [] = st := ⟨_, rfl⟩
    have HFo : Hid ((pre ++ [x]).foldl (betF G) [] = betF G st x) := Lib.hid (by rw [List.foldl_append, hst]; rfl)
    rw [hst] at bF' hO
    obtain ⟨av, cv, rfl⟩ := own_form hO
    have HMp := Lib.hid (HT.out x (hsp.subset (by simp)))
    have HTx := Lib.hid HMp.out.1
    have HSx := Lib.hid (HST.out x HMp.out)
    have hbx : V.heap.size + 2 + 1 < W'.heap.size := hHx.lt
    have hIx : Ints W'.heap.size W' (some ⟨V.heap.size + 2 + 1, 0, none⟩) x := hHx.ints
    have HC : Hid (∀ j y, x[j]? = some y → W'.cell? ⟨V.heap.size + 2 + 1, j, none⟩ = some (.int .i64 y)) := Lib.hid fun j y hj => by
      have hjl := (List.getElem?_eq_some_iff.1 hj).1
      obtain ⟨b, o, y', e, _, hc, hy⟩ := hIx.at_ hjl
      cases e
      have e2 := hy.out
      rw [hj] at e2
      cases e2
      rw [Nat.zero_add] at hc
      exact hc
    have hf10 := fewN_le hN9 st
    have HKp := Lib.hid (keepP (w.heap.size + 1 + 1 + 1) (w.heap.size + 1 + 1) (V.heap.size + 2 + 1) G.length (.slice av st.length cv) (fewN G.length st) x W' (by omega) bF' bB' hIx hxN hN1 hN9 (fun y hy => tells_mem HTx.out hy))
    have cK := bK'.cell
    have cT := bT'.cell
    have fT := bT'.frozen
    clear hseq hsp hst hIx
    gi_wp2
    gi_loop [15] (fun i => ∃ k : Nat, k ≤ G.length ∧ i = .int .i64 k ∧ Hid (∀ j, j < k → nd x (nd x j) = nd x j)) (fun i => G.length - (intOf i).toNat)
    case atStart => exact ⟨0, Nat.zero_le _, rfl, fun j hj => absurd hj (Nat.not_lt_zero _)⟩
    case round =>
      obtain ⟨k, hk, rfl, HR⟩ := hrel
      by_cases hlt : k < G.length
      · obtain ⟨p, hp, enp, hpN⟩ := tells_at HTx.out hlt
        obtain ⟨q, hq, enq, hqN⟩ := tells_at HTx.out hpN
        have c1 := HC.out k _ hp
        have c2 := HC.out p _ hq
        have HP := Lib.hid enp
        have HQ := Lib.hid enq
        clear hp hq enp enq
        by_cases hs : q = p
        · subst hs
          gi_wp2
          go_round
          case rel => exact ⟨k + 1, by omega, by go_num, fun j hj => by
            by_cases e : j = k
            · subst e
              rw [HP.out, HQ.out]
            · exact HR.out j (by omega)⟩
          case measure => simp [intOf]; omega
        · have hne : ((q : Int) != (p : Int)) = true := by simp; omega
          have HNo : Hid (stysI G x = false) := Lib.hid (by
            rw [Bool.eq_false_iff]
            intro h
            have h2 := HSx.out.1 h k (by rw [hxN]; exact hlt)
            rw [HP.out, HQ.out] at h2
            exact hs h2)
          gi_wp2
          refine ⟨keepsFrom_below (Below.refl _ _) _, KeepC.refl _ _ _, ⟨bK', .slice av st.length cv, bT', bB', ?_, ?_⟩, hB'⟩
          · rw [HFo.out, betQ_not HNo.out]; exact bF'
          · rw [HFo.out, betQ_not HNo.out]; exact hO
      · obtain rfl : k = G.length := by omega
        have HYes : Hid (stysI G x = true) := Lib.hid (HSx.out.2 fun j hj => HR.out j (by rw [hxN] at hj; exact hj))
        gi_wp2_with fail
        (try refine ⟨hdd _, ?_⟩)
        gi_at_call 118
        refine (CallsIn.inRound l2 (callsIn_wide.2 HKp.out)).mono ?_
        rintro e w4 ⟨v', rfl, hK2, bB4, hor⟩
        obtain ⟨a2, n2, c2, rfl⟩ : ∃ a2 n2 c2, v' = .slice a2 n2 c2 := by
          rcases hor with ⟨_, _, ho⟩ | ⟨_, _, ho⟩
          · obtain ⟨a2, c2, e⟩ := own_form ho
            exact ⟨a2, _, c2, e⟩
          · exact ⟨_, _, _, ho⟩
        have hz4 := hK2.size
        have bT4 := hK2.box bT' (by omega) (by omega)
        have bK4 := hK2.box bK' (by omega) (by omega)
        have cT4 := bT4.cell
        have fT4 := bT4.frozen
        have HOr := Lib.hid hor
        clear hor cT fT cK
        gi_wp2_with fail
        have hgr := grownBy_setQ6 w4 (w.heap.size + 1) 0 (.slice a2 n2 c2)
        have hKF : KeepsFrom V.heap.size W' (w4.setCell ⟨w.heap.size + 1, 0, none⟩ (.slice a2 n2 c2)) := ⟨by simp; omega, fun k o hk ho _ => (Below.heap_setCell w4 ⟨w.heap.size + 1, 0, none⟩ (.slice a2 n2 c2) k (by show k ≠ w.heap.size + 1; omega)).trans ((hK2.block k (Array.getElem?_eq_some_iff.1 ho).1 (by omega) (by omega)).trans ho)⟩
        have hKC : KeepC (fun B => B = w.heap.size + 1 ∨ B = w.heap.size + 1 + 1 ∨ B = w.heap.size + 1 + 1 + 1) (V.heap.size + 2) W' (w4.setCell ⟨w.heap.size + 1, 0, none⟩ (.slice a2 n2 c2)) := ⟨by simp; omega, fun B o hS hB _ => (Below.heap_setCell w4 ⟨w.heap.size + 1, 0, none⟩ (.slice a2 n2 c2) B (fun e => hS (.inl e))).trans ((hK2.block B (Array.getElem?_eq_some_iff.1 hB).1 (fun e => hS (.inr (.inr e))) (fun e => hS (.inr (.inl e)))).trans hB)⟩
        have hB5 : Below w.heap.size w (w4.setCell ⟨w.heap.size + 1, 0, none⟩ (.slice a2 n2 c2)) := (hB'.trans (hK2.below (by omega) (by omega) hB'.size)).setCell (p := ⟨w.heap.size + 1, 0, none⟩) (by show w.heap.size ≤ w.heap.size + 1; omega) _
        have bK5 := (Below.heap_setCell w4 ⟨w.heap.size + 1, 0, none⟩ (.slice a2 n2 c2) (w.heap.size + 1 + 1 + 1 + 1) (by show w.heap.size + 1 + 1 + 1 + 1 ≠ w.heap.size + 1; omega)).trans bK4
        have bB5 := (Below.heap_setCell w4 ⟨w.heap.size + 1, 0, none⟩ (.slice a2 n2 c2) (w.heap.size + 1 + 1) (by show w.heap.size + 1 + 1 ≠ w.heap.size + 1; omega)).trans bB4
        rcases HOr.out with ⟨hlt2, bF4, hown4⟩ | ⟨hnlt, bF4, e'⟩
        · refine ⟨hKF, hKC, ⟨bK5, .slice a2 n2 c2, bT4.set _, bB5, ?_, ?_⟩, hB5⟩
          · rw [HFo.out, betQ_yes HYes.out hlt2, fewN_x hxN hN1]
            exact (Below.heap_setCell w4 ⟨w.heap.size + 1, 0, none⟩ (.slice a2 n2 c2) (w.heap.size + 1 + 1 + 1) (by show w.heap.size + 1 + 1 + 1 ≠ w.heap.size + 1; omega)).trans bF4
          · rw [HFo.out, betQ_yes HYes.out hlt2, hxN]
            exact own_keptS (Joins.ownsRow_le hown4 (by omega)) hgr (fun r e => .inl (by cases e; omega))
        · cases e'
          refine ⟨hKF, hKC, ⟨bK5, _, bT4.set _, bB5, ?_, ?_⟩, hB5⟩
          · rw [HFo.out, betQ_no hN9 hnlt]
            exact (Below.heap_setCell w4 ⟨w.heap.size + 1, 0, none⟩ _ (w.heap.size + 1 + 1 + 1) (by show w.heap.size + 1 + 1 + 1 ≠ w.heap.size + 1; omega)).trans bF4
          · rw [HFo.out, betQ_no hN9 hnlt]
            exact own_keptS (own_blockQ hO fun g hg => by have h := hO.lt g hg; exact hK2.block g h.2 (by omega) (by omega)) hgr (fun r e => .inl (by cases e; omega))
  case done =>
    rintro D ys W' hD rfl ⟨⟨bK', v, bT', bB', bF', hO⟩, hB'⟩ hK
    have cT := bT'.cell
    clear hseq
    gi_wp2
    rw [Exit.noGoto_ret]
    refine ⟨by simp, .inl ⟨_, _, rfl, run_takeDeferred hK, ?_⟩⟩
    rw [← HZ2.out] at hO
    obtain ⟨av, cv, rfl⟩ := own_form hO
    refine ⟨_, results_tmp rfl _ _ _, av, cv, ⟨rfl, hB'.trans (belowK_b (w := w) (Nat.le_refl _) W' D _ _ (by omega) hK rfl rfl)⟩, ?_⟩
    exact Joins.ownsRow_le (own_keptS hO (grownBy_putObj' W' D _) (fun r e => .inr ⟨_, by cases e; exact hK, rfl⟩)) (by omega)
  case stop =>
    rintro D c' pre W' _ _ hx _
    exact hx.elim

end Go.Proofs.Ytpcmenhchabgiaa

namespace Go.Proofs.Ytpcmenhchabgiaa
open Go.RowKit Go.Shelf Go.Deep

theorem own_cap {W : World} {base e n c : Nat} {a : Option Addr} {xs : List Value} (h : W.ownsRow base e 1 (.slice a n c) n xs) : n ≤ c := by
  rcases h.2 with ⟨e0, h0⟩ | ⟨g, cap, cur, e0, _, _, hn, _⟩
  · omega
  · cases e0; exact hn

set_option maxRecDepth 100000 in
set_option maxHeartbeats 1000000 in
theorem implStaysOf (a : Option Addr) (c : Nat) (G : List (List Int)) (w : World) (hM : Mat w.heap.size w a G) (hF : Fit G) :
    Calls Try.prog 75 #[.slice a G.length c] w (MadeLB (staL G) (g5 G) w) := by
  have HOk := Lib.hid (coredP a c G w hM hF)
  obtain ⟨z, hz⟩ : ∃ z, staL G = z := ⟨_, rfl⟩
  rw [hz]
  by_cases hg : g5 G = true
  · rw [hg] at HOk ⊢
    have HFw : Hid (∀ w1 : World, Below w.heap.size w w1 → Calls Try.prog 97 #[.agg #[.slice a G.length c]] w1 (MadeOwn z w1)) := Lib.hid fun w1 hB1 => by
      have := fewestP a c G w1 ((hM.below hB1).more hB1.size) hg
      rw [hz] at this; exact this
    clear hz hg hM hF
    go_enter Try.func75, Try.ntmps75
    go_wp2_with fail
    refine HOk.out.mono ?_
    rintro e w1 ⟨rfl, hB1⟩
    have hz1 := hB1.size
    go_wp2_with fail
    refine (HFw.out w1 hB1).mono ?_
    rintro e w2 ⟨a2, c2, ⟨rfl, hB2⟩, hO2⟩
    have HO := Lib.hid (Joins.ownsRow_le hO2 hz1)
    clear hO2
    go_wp2_with fail
    go_ret2
    exact ⟨a2, c2, ⟨rfl, hB1.trans (hB2.mono hz1)⟩, HO.out⟩
  · have hn : g5 G = false := by simpa using hg
    rw [hn] at HOk ⊢
    have h0 : z = [] := by rw [← hz, staL_no hn]
    subst h0
    clear hz hg hn hM hF
    go_enter Try.func75, Try.ntmps75
    go_wp2_with fail
    refine HOk.out.mono ?_
    rintro e w1 ⟨rfl, hB1⟩
    go_wp2_with fail
    go_ret2
    exact ⟨none, 0, ⟨rfl, hB1⟩, World.ownsRow_nil _ _ _ 1⟩

set_option maxRecDepth 100000 in
set_option maxHeartbeats 1000000 in
theorem implCoreOf (a : Option Addr) (c : Nat) (G : List (List Int)) (w : World) (hM : Mat w.heap.size w a G) (hF : Fit G) :
    Calls Try.prog 36 #[.slice a G.length c] w (MadeB (corL G) (g5 G) w) := by
  have HSt := Lib.hid (implStaysOf a c G w hM hF)
  obtain ⟨zs, hzs⟩ : ∃ zs, corL G = zs := ⟨_, rfl⟩
  rw [hzs]
  by_cases hg : g5 G = true
  · have hT := (sta_map hg).1
    have hlz := hT.1
    have hN1 := (good_of (g5_iff.1 hg).1).1
    have hN9 := (good_of (g5_iff.1 hg).1).2.1
    have hil := imgL_le (m := G.length) (staL G)
    have HE : Hid (partL G (imgL G.length (staL G)) = zs) := Lib.hid (by rw [← corL_yes hg, hzs])
    rw [hg] at HSt ⊢
    have HTm := Lib.hid (fun y (hy : y ∈ staL G) => tells_mem hT hy)
    obtain ⟨z, hz⟩ : ∃ z, staL G = z := ⟨_, rfl⟩
    rw [hz] at HSt HE hlz hil HTm
    obtain ⟨q, hq⟩ : ∃ q, imgL G.length z = q := ⟨_, rfl⟩
    have HQ := Lib.hid hq
    rw [hq] at HE hil
    have HM := Lib.hid hM
    have HF := Lib.hid hF
    have HLZ := Lib.hid hlz
    clear hz hq hT hM hF hg hzs hlz
    go_enter Try.func36, Try.ntmps36
    go_wp2_with fail
    refine HSt.out.mono ?_
    rintro e w1 ⟨a1, c1, ⟨rfl, hB1⟩, hO1⟩
    have hz1 := hB1.size
    have hIm := imageP a1 c1 G.length z w1 (own_intsQ hO1) (by rw [HLZ.out]; exact hN1) (by rw [HLZ.out]; omega) HTm.out
    rw [HQ.out] at hIm
    have HIm := Lib.hid hIm
    clear hIm hO1
    go_wp2_with fail
    refine HIm.out.mono ?_
    rintro e w2 ⟨a2, c2, ⟨rfl, hB2⟩, hO2⟩
    have hz2 := hB2.size
    have hB2w := hB1.trans (hB2.mono hz1)
    have hPt := implPart a a2 c c2 G q w2 ((HM.out.below hB2w).more hB2w.size) (own_intsQ hO2) (own_cap hO2) (by omega) HF.out
    rw [HE.out] at hPt
    have HPt := Lib.hid hPt
    clear hPt hO2
    go_wp2_with fail
    refine HPt.out.mono ?_
    rintro e w3 ⟨a3, c3, ⟨rfl, hB3⟩, hR3⟩
    have HR := Lib.hid hR3
    clear hR3
    go_wp2_with fail
    go_ret2
    exact ⟨a3, c3, ⟨rfl, hB2w.trans (hB3.mono hB2w.size)⟩, ownR_mono6 HR.out hB2w.size⟩
  · have hn : g5 G = false := by simpa using hg
    rw [hn] at HSt ⊢
    have h0 : zs = [] := by rw [← hzs, corL_no hn]
    subst h0
    clear hzs hg hn hM hF
    go_enter Try.func36, Try.ntmps36
    go_wp2_with fail
    refine HSt.out.mono ?_
    rintro e w1 ⟨a1, c1, ⟨rfl, hB1⟩, _⟩
    go_wp2_with fail
    go_ret2
    exact ⟨none, 0, ⟨rfl, hB1⟩, (.inl ⟨rfl, rfl, rfl⟩)⟩

end Go.Proofs.Ytpcmenhchabgiaa
