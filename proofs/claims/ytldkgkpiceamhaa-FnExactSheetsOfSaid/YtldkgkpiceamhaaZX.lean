/-
  Several texts in one.
  Orders, and the graphs that they make: what holds of the lists alone.
  impl.SameGraph.
  impl.SameGraph: the search.
  The model's SameGraph: are two graphs of as many nodes the same (spec.l1Same)?
  The model's SameGraph.
  A list of one's own, built by append, is marked; SameGraph's two contracts.
  The same both ways: what holds of SameGraph's answer (P4), lists alone.
-/
import Derived.Test.YtldkgkpiceamhaaWV
import Derived.Test.YtldkgkpiceamhaaZY
import Derived.Stop.RegionWithIn
import Derived.ArgAppend
import Derived.OwnWalk
import Derived.Lib.SliceRun
import Derived.Test.YtldkgkpiceamhaaZE
import Derived.Test.YtldkgkpiceamhaaZB
import Derived.Test.YtldkgkpiceamhaaW0
namespace Go.Proofs.Ytldkgkpiceamhaa
open Go.RowKit Go.Shelf Go.Deep

theorem olvl_ord (n k : Nat) : ∀ m, (olvl n k).flatMap (ordL n m) = ordL n (k + m) [] := by
  induction k with
  | zero => intro m; simp [olvl]
  | succ k ih =>
    intro m
    rw [olvl, List.flatMap_assoc, show k + 1 + m = k + (m + 1) by omega, ← ih (m + 1)]
    rfl
theorem ord_olvl (n : Nat) : ordL n n [] = olvl n n := by
  have h := olvl_ord n n 0
  rw [Nat.add_zero] at h
  rw [← h]
  have e : ordL n 0 = fun p => [p] := rfl
  rw [e, List.flatMap_singleton']
theorem Nodes.more {m : Nat} {ys : List Int} {x : Nat} (h : Nodes m ys) (hx : x < m) (hc : ys.contains (x : Int) = false) : Nodes m (ys ++ [(x : Int)]) := by
  have key : ∀ k (t : Int), (ys ++ [(x : Int)])[k]? = some t → (k < ys.length ∧ ys[k]? = some t) ∨ (k = ys.length ∧ t = x) := fun k t ht => by
    by_cases hk : k < ys.length
    · exact .inl ⟨hk, by rwa [List.getElem?_append_left hk] at ht⟩
    · refine .inr ?_
      rw [List.getElem?_append_right (by omega)] at ht
      have h0 : k - ys.length = 0 := by have := (List.getElem?_eq_some_iff.1 ht).1; simp at this; omega
      rw [h0] at ht
      exact ⟨by omega, by simpa using ht.symm⟩
  refine ⟨fun j y hy => ?_, fun i j y hij hy e => ?_⟩
  · rcases key j y hy with ⟨_, h2⟩ | ⟨_, rfl⟩
    · exact h.1 j y h2
    · omega
  · rcases key i y hy with ⟨h1, h2⟩ | ⟨h1, rfl⟩ <;> rcases key j _ e with ⟨h3, h4⟩ | ⟨h3, h4⟩
    · exact h.2 i j y hij h2 h4
    · subst h4
      have := List.contains_iff_mem.2 (List.mem_of_getElem? h2)
      rw [hc] at this; cases this
    · omega
    · omega
theorem olvl_nodes {n : Nat} : ∀ {k : Nat} {p : List Int}, p ∈ olvl n k → Nodes n p
  | 0, p, h => by
    rw [olvl, List.mem_singleton] at h
    subst h
    exact ⟨fun j y hy => by simp at hy, fun i j y _ hy => by simp at hy⟩
  | k + 1, p, h => by
    rw [olvl, List.mem_flatMap] at h
    obtain ⟨q, hq, hp⟩ := h
    unfold oexts at hp
    obtain ⟨x, hx, rfl⟩ := List.mem_map.1 hp
    obtain ⟨hx1, hx2⟩ := List.mem_filter.1 hx
    exact (olvl_nodes hq).more (List.mem_range.1 hx1) (by simpa using hx2)
theorem nodes_tells {m n : Nat} {p : List Int} (hl : p.length = m) (h : Nodes n p) : Tells m n p := ⟨hl, h.1⟩
/-- The order makes the second graph of the first one: the part in that order is the second graph. -/
theorem same_part {G H : List (List Int)} {f : List Int} (hG : gOk G = true) (hH : gOk H = true) (hl : f.length = H.length) (hN : Nodes G.length f) : sameBy G H f = true ↔ partL G f = H := by
  have hg := good_of hH
  have hY := partL_yes hG (show 1 ≤ f.length by rw [hl]; exact hg.1) hN
  unfold sameBy
  rw [List.all_eq_true]
  constructor
  · intro h
    rw [hY, hl]
    conv => rhs; rw [good_rowsP hg]
    refine rowsP_congr fun i j hi hj => ?_
    have := h (⟨i, hi⟩, ⟨j, hj⟩) (PL_all _)
    simpa using this
  · intro h x _
    have e : arw (partL G f) x.1 x.2 = arw G (nd f x.1) (nd f x.2) := by rw [hY, hl]; exact arw_rowsP x.1.2 x.2.2
    rw [h] at e
    rw [e]
    simp
/-- The first order in which the nodes of a graph make another one. -/
def sameGI (G H : List (List Int)) : Option (List Int) := if gOk G && gOk H && G.length == H.length && decide (G.length ≤ 5) then (olvl G.length G.length).find? (sameBy G H) else none

end Go.Proofs.Ytldkgkpiceamhaa

namespace Go.Proofs.Ytldkgkpiceamhaa
open Go.RowKit Go.Shelf Go.Deep

attribute [local go_sem] Oper.semAt_some

set_option maxHeartbeats 1000000 in
/-- slices.Clone of a row that holds something. -/
theorem cloneRowQ (b N : Nat) (p : List Int) (w : World) (hI : Ints w.heap.size w (some ⟨b, 0, none⟩) p) (h1 : 1 ≤ p.length) (h9 : p.length ≤ 9) :
    Calls Try.prog 77 #[.slice (some ⟨b, 0, none⟩) p.length N] w fun e w' => ∃ g cap, e = .returned (.slice (some ⟨g, 0, none⟩) p.length cap) ∧ Below w.heap.size w w' ∧ w'.ownsRow w.heap.size 3 1 (.slice (some ⟨g, 0, none⟩) p.length cap) p.length (p.map (Value.int .i64)) := by
  obtain ⟨i1, hj, hy0, hy1, hy2⟩ := info_parts infoInt
  obtain ⟨q, hq⟩ : ∃ q, Hid (p.length = q + 1) := ⟨p.length - 1, Lib.hid (by omega)⟩
  have hown0 : (w.alloc (.cells #[] 3)).ownsRow w.heap.size 3 1 (.slice (some ⟨w.heap.size, 0, none⟩) 0 0) 0 [] := World.ownsRow_lit (size := 1) w #[] 0 (Nat.le_refl _) (Nat.zero_le _) rfl
  have hcells : ∀ j u, (p.map (Value.int .i64))[j]? = some u → (w.alloc (.cells #[] 3)).cell? ((⟨b, 0, none⟩ : Addr).add j) = some u := fun j u hu => by
    have hIa := hI.below ((Below.refl _ w).alloc (Nat.le_refl _) (.cells #[] 3))
    exact ints_news9 hIa j u hu
  have hone : ∀ u ∈ p.map (Value.int .i64), u.oneCell' = true := fun u hu => by obtain ⟨x, _, rfl⟩ := List.mem_map.1 hu; rfl
  have hnil : (binOp .eql 24 (.slice (some ⟨b, 0, none⟩) p.length N) (.slice none 0 0)).run Try.prog w = .ok (.bool false) w := Lib.run_eql_slice_nil (P := Try.prog) w 24 3 (some ⟨b, 0, none⟩) p.length N 0 0 Try.underlying24
  go_enter Try.func77, Try.ntmps77
  go_wp2_with (at_builtin; refine wpList_append_own _ rfl _ _ 24 rfl w.heap.size 3 i1 (.int .i64 0) 1 8 Try.underlying24 hj hy0 hy1 hy2 rfl (by decide) (.slice (some ⟨w.heap.size, 0, none⟩) 0 0) 0 [] rfl hown0 ⟨b, 0, none⟩ p.length N (p.map (Value.int .i64)) rfl (by simp) hcells hone (by unfold maxLen; omega) (by omega) (by simp) ?_; intro v4 w4 hown4 hgrow4 _; rw [Nat.zero_add, List.nil_append, hq.out] at hown4; obtain ⟨g, cap, rfl⟩ := ownsRow_succ hown4; have hB4 : Below w.heap.size w w4 := ((Below.refl _ w).alloc (Nat.le_refl _) _).grown hgrow4 (by simp) (fun r e => by have e' : some w.heap.size = some r := e; cases e'; exact Nat.le_refl _))
  go_ret
  exact ⟨g, cap, by rw [hq.out]; rfl, hB4, by rw [hq.out]; exact hown4⟩

/-- The list that is returned, in memory of its own, and whether there is one. -/
def SameOut (o : Option (List Int)) (w : World) (e : Ending) (w' : World) : Prop :=
  ∃ (a : Option Addr) (c : Nat), (e = .returned (.tuple #[.slice a (o.getD []).length c, .bool o.isSome]) ∧ Below w.heap.size w w') ∧ w'.ownsRow w.heap.size 3 1 (.slice a (o.getD []).length c) (o.getD []).length ((o.getD []).map (Value.int .i64))

set_option maxRecDepth 100000 in
set_option maxHeartbeats 4000000 in
theorem implSameNo1 (a : Option Addr) (c : Nat) (a' : Option Addr) (c' : Nat) (G H : List (List Int)) (w : World) (hM : Mat w.heap.size w a G) (hM' : Mat w.heap.size w a' H) (hf : Fit G) (hf' : Fit H) (hg : gOk G = false) :
    Calls Try.prog 42 #[.slice a G.length c, .slice a' H.length c'] w (SameOut none w) := by
  have hdd : ∀ k : Nat, (Fence.wide.depth.isSome = true → 1 ≤ k) := fun k h => by cases h
  have h1 : Fence.wide.fn 24 := trivial
  have HF := Lib.hid hf
  have HF' := Lib.hid hf'
  have hlG := hf.1
  have hlH := hf'.1
  clear hf hf'
  have es : ∀ (W : World) (o : Obj), (W.alloc o).heap.size = W.heap.size + 1 := fun W o => by simp
  have hB0 : Below w.heap.size w ((w.alloc (.cells #[.slice none 0 0] 24)).alloc (.cells #[.bool false] 4)) := ((Below.refl _ _).alloc (Nat.le_refl _) _).alloc (by simp) _
  have hM0 : Mat ((w.alloc (.cells #[.slice none 0 0] 24)).alloc (.cells #[.bool false] 4)).heap.size ((w.alloc (.cells #[.slice none 0 0] 24)).alloc (.cells #[.bool false] 4)) a G := (hM.below hB0).more hB0.size
  have bL := (Boxed.new w 24 (.slice none 0 0)).alloc (.cells #[.bool false] 4)
  have bO := Boxed.new (w.alloc (.cells #[.slice none 0 0] 24)) 4 (.bool false)
  rw [es] at bO
  refine (callsIn_wide (n := 20)).1 ?_
  refine callsIn_of_wp_marks Try.func42 rfl trivial ?_ rfl
  simp only [Try.ntmps42, List.size_toArray, List.length_cons, List.length_nil, Nat.reduceAdd, Nat.reduceSub, Array.replicate_succ, Array.replicate_zero, List.push_toArray, List.append_toArray, List.nil_append, List.cons_append]
  gi_wp2_with fail
  (try refine ⟨hdd _, ?_⟩)
  gi_at_call 24
  refine (callsIn_wide.2 (implOk a c G _ hM0 HF.out)).mono ?_
  rintro e w1 ⟨rfl, hB1⟩
  have bL1 : Boxed w1 w.heap.size 24 (.slice none 0 0) := (hB1.block _ bL.lt).trans bL
  have bO1 : Boxed w1 (w.heap.size + 1) 4 (.bool false) := (hB1.block _ bO.lt).trans bO
  have hBw : Below w.heap.size w w1 := hB0.trans (hB1.mono hB0.size)
  have hM1 : Mat w1.heap.size w1 a' H := (hM'.below hBw).more hBw.size
  clear hB1 hM0 bL bO hB0
  rw [hg]
  clear hM hM' hM1
  have bLs := bL1.set (.slice none 0 0)
  have cL := bL1.cell
  have fL := bL1.frozen
  have cO := bO1.cell
  have fO := bO1.frozen
  gi_wp2_with fail
  have hws := hBw.size
  have bO3 : Boxed (w1.setCell ⟨w.heap.size, 0, none⟩ (.slice none 0 0)) (w.heap.size + 1) 4 (.bool false) := (Below.heap_setCell w1 ⟨w.heap.size, 0, none⟩ (.slice none 0 0) (w.heap.size + 1) (by simp)).trans bO1
  have bL3 : Boxed ((w1.setCell ⟨w.heap.size, 0, none⟩ (.slice none 0 0)).setCell ⟨w.heap.size + 1, 0, none⟩ (.bool false)) w.heap.size 24 (.slice none 0 0) := (Below.heap_setCell _ ⟨w.heap.size + 1, 0, none⟩ (.bool false) w.heap.size (by simp)).trans bLs
  have cL3 := bL3.cell
  have cO3 := (bO3.set (.bool false)).cell
  refine ⟨.tuple #[.slice none 0 0, .bool false], ?_, none, 0, ⟨rfl, (hBw.setCell (p := ⟨w.heap.size, 0, none⟩) (Nat.le_refl _) _).setCell (p := ⟨w.heap.size + 1, 0, none⟩) (by simp) _⟩, World.ownsRow_nil _ _ _ 1⟩
  simp [results, Try.f42, go_sem, cL3, cO3]

set_option maxRecDepth 100000 in
set_option maxHeartbeats 4000000 in
theorem implSameNo2 (a : Option Addr) (c : Nat) (a' : Option Addr) (c' : Nat) (G H : List (List Int)) (w : World) (hM : Mat w.heap.size w a G) (hM' : Mat w.heap.size w a' H) (hf : Fit G) (hf' : Fit H) (hg : gOk G = true) (hg' : gOk H = false) :
    Calls Try.prog 42 #[.slice a G.length c, .slice a' H.length c'] w (SameOut none w) := by
  have hdd : ∀ k : Nat, (Fence.wide.depth.isSome = true → 1 ≤ k) := fun k h => by cases h
  have h1 : Fence.wide.fn 24 := trivial
  have HF := Lib.hid hf
  have HF' := Lib.hid hf'
  have hlG := hf.1
  have hlH := hf'.1
  clear hf hf'
  have es : ∀ (W : World) (o : Obj), (W.alloc o).heap.size = W.heap.size + 1 := fun W o => by simp
  have hB0 : Below w.heap.size w ((w.alloc (.cells #[.slice none 0 0] 24)).alloc (.cells #[.bool false] 4)) := ((Below.refl _ _).alloc (Nat.le_refl _) _).alloc (by simp) _
  have hM0 : Mat ((w.alloc (.cells #[.slice none 0 0] 24)).alloc (.cells #[.bool false] 4)).heap.size ((w.alloc (.cells #[.slice none 0 0] 24)).alloc (.cells #[.bool false] 4)) a G := (hM.below hB0).more hB0.size
  have bL := (Boxed.new w 24 (.slice none 0 0)).alloc (.cells #[.bool false] 4)
  have bO := Boxed.new (w.alloc (.cells #[.slice none 0 0] 24)) 4 (.bool false)
  rw [es] at bO
  refine (callsIn_wide (n := 20)).1 ?_
  refine callsIn_of_wp_marks Try.func42 rfl trivial ?_ rfl
  simp only [Try.ntmps42, List.size_toArray, List.length_cons, List.length_nil, Nat.reduceAdd, Nat.reduceSub, Array.replicate_succ, Array.replicate_zero, List.push_toArray, List.append_toArray, List.nil_append, List.cons_append]
  gi_wp2_with fail
  (try refine ⟨hdd _, ?_⟩)
  gi_at_call 24
  refine (callsIn_wide.2 (implOk a c G _ hM0 HF.out)).mono ?_
  rintro e w1 ⟨rfl, hB1⟩
  have bL1 : Boxed w1 w.heap.size 24 (.slice none 0 0) := (hB1.block _ bL.lt).trans bL
  have bO1 : Boxed w1 (w.heap.size + 1) 4 (.bool false) := (hB1.block _ bO.lt).trans bO
  have hBw : Below w.heap.size w w1 := hB0.trans (hB1.mono hB0.size)
  have hM1 : Mat w1.heap.size w1 a' H := (hM'.below hBw).more hBw.size
  clear hB1 hM0 bL bO hB0
  rw [hg]
  gi_wp2_with fail
  (try refine ⟨hdd _, ?_⟩)
  gi_at_call 24
  refine (callsIn_wide.2 (implOk a' c' H _ hM1 HF'.out)).mono ?_
  rintro e w2 ⟨rfl, hB2⟩
  have bL2 : Boxed w2 w.heap.size 24 (.slice none 0 0) := (hB2.block _ bL1.lt).trans bL1
  have bO2 : Boxed w2 (w.heap.size + 1) 4 (.bool false) := (hB2.block _ bO1.lt).trans bO1
  have hBw2 : Below w.heap.size w w2 := hBw.trans (hB2.mono hBw.size)
  clear hB2 hM1 bL1 bO1 hBw
  rw [hg']
  have bLs := bL2.set (.slice none 0 0)
  have cL := bL2.cell
  have fL := bL2.frozen
  have cO := bO2.cell
  have fO := bO2.frozen
  gi_wp2_with fail
  have hws := hBw2.size
  have bO3 : Boxed (w2.setCell ⟨w.heap.size, 0, none⟩ (.slice none 0 0)) (w.heap.size + 1) 4 (.bool false) := (Below.heap_setCell w2 ⟨w.heap.size, 0, none⟩ (.slice none 0 0) (w.heap.size + 1) (by simp)).trans bO2
  have bL3 : Boxed ((w2.setCell ⟨w.heap.size, 0, none⟩ (.slice none 0 0)).setCell ⟨w.heap.size + 1, 0, none⟩ (.bool false)) w.heap.size 24 (.slice none 0 0) := (Below.heap_setCell _ ⟨w.heap.size + 1, 0, none⟩ (.bool false) w.heap.size (by simp)).trans bLs
  have cL3 := bL3.cell
  have cO3 := (bO3.set (.bool false)).cell
  refine ⟨.tuple #[.slice none 0 0, .bool false], ?_, none, 0, ⟨rfl, (hBw2.setCell (p := ⟨w.heap.size, 0, none⟩) (Nat.le_refl _) _).setCell (p := ⟨w.heap.size + 1, 0, none⟩) (by simp) _⟩, World.ownsRow_nil _ _ _ 1⟩
  simp [results, Try.f42, go_sem, cL3, cO3]

set_option maxRecDepth 100000 in
set_option maxHeartbeats 4000000 in
theorem implSameNo3 (a : Option Addr) (c : Nat) (a' : Option Addr) (c' : Nat) (G H : List (List Int)) (w : World) (hM : Mat w.heap.size w a G) (hM' : Mat w.heap.size w a' H) (hf : Fit G) (hf' : Fit H) (hg : gOk G = true) (hg' : gOk H = true) (hn : G.length ≠ H.length) :
    Calls Try.prog 42 #[.slice a G.length c, .slice a' H.length c'] w (SameOut none w) := by
  have hdd : ∀ k : Nat, (Fence.wide.depth.isSome = true → 1 ≤ k) := fun k h => by cases h
  have h1 : Fence.wide.fn 24 := trivial
  have HF := Lib.hid hf
  have HF' := Lib.hid hf'
  have hlG := hf.1
  have hlH := hf'.1
  clear hf hf'
  have es : ∀ (W : World) (o : Obj), (W.alloc o).heap.size = W.heap.size + 1 := fun W o => by simp
  have hB0 : Below w.heap.size w ((w.alloc (.cells #[.slice none 0 0] 24)).alloc (.cells #[.bool false] 4)) := ((Below.refl _ _).alloc (Nat.le_refl _) _).alloc (by simp) _
  have hM0 : Mat ((w.alloc (.cells #[.slice none 0 0] 24)).alloc (.cells #[.bool false] 4)).heap.size ((w.alloc (.cells #[.slice none 0 0] 24)).alloc (.cells #[.bool false] 4)) a G := (hM.below hB0).more hB0.size
  have bL := (Boxed.new w 24 (.slice none 0 0)).alloc (.cells #[.bool false] 4)
  have bO := Boxed.new (w.alloc (.cells #[.slice none 0 0] 24)) 4 (.bool false)
  rw [es] at bO
  refine (callsIn_wide (n := 20)).1 ?_
  refine callsIn_of_wp_marks Try.func42 rfl trivial ?_ rfl
  simp only [Try.ntmps42, List.size_toArray, List.length_cons, List.length_nil, Nat.reduceAdd, Nat.reduceSub, Array.replicate_succ, Array.replicate_zero, List.push_toArray, List.append_toArray, List.nil_append, List.cons_append]
  gi_wp2_with fail
  (try refine ⟨hdd _, ?_⟩)
  gi_at_call 24
  refine (callsIn_wide.2 (implOk a c G _ hM0 HF.out)).mono ?_
  rintro e w1 ⟨rfl, hB1⟩
  have bL1 : Boxed w1 w.heap.size 24 (.slice none 0 0) := (hB1.block _ bL.lt).trans bL
  have bO1 : Boxed w1 (w.heap.size + 1) 4 (.bool false) := (hB1.block _ bO.lt).trans bO
  have hBw : Below w.heap.size w w1 := hB0.trans (hB1.mono hB0.size)
  have hM1 : Mat w1.heap.size w1 a' H := (hM'.below hBw).more hBw.size
  clear hB1 hM0 bL bO hB0
  rw [hg]
  gi_wp2_with fail
  (try refine ⟨hdd _, ?_⟩)
  gi_at_call 24
  refine (callsIn_wide.2 (implOk a' c' H _ hM1 HF'.out)).mono ?_
  rintro e w2 ⟨rfl, hB2⟩
  have bL2 : Boxed w2 w.heap.size 24 (.slice none 0 0) := (hB2.block _ bL1.lt).trans bL1
  have bO2 : Boxed w2 (w.heap.size + 1) 4 (.bool false) := (hB2.block _ bO1.lt).trans bO1
  have hBw2 : Below w.heap.size w w2 := hBw.trans (hB2.mono hBw.size)
  clear hB2 hM1 bL1 bO1 hBw
  rw [hg']
  have bLs := bL2.set (.slice none 0 0)
  have cL := bL2.cell
  have fL := bL2.frozen
  have cO := bO2.cell
  have fO := bO2.frozen
  gi_wp2_with fail
  have hws := hBw2.size
  have bO3 : Boxed (w2.setCell ⟨w.heap.size, 0, none⟩ (.slice none 0 0)) (w.heap.size + 1) 4 (.bool false) := (Below.heap_setCell w2 ⟨w.heap.size, 0, none⟩ (.slice none 0 0) (w.heap.size + 1) (by simp)).trans bO2
  have bL3 : Boxed ((w2.setCell ⟨w.heap.size, 0, none⟩ (.slice none 0 0)).setCell ⟨w.heap.size + 1, 0, none⟩ (.bool false)) w.heap.size 24 (.slice none 0 0) := (Below.heap_setCell _ ⟨w.heap.size + 1, 0, none⟩ (.bool false) w.heap.size (by simp)).trans bLs
  have cL3 := bL3.cell
  have cO3 := (bO3.set (.bool false)).cell
  refine ⟨.tuple #[.slice none 0 0, .bool false], ?_, none, 0, ⟨rfl, (hBw2.setCell (p := ⟨w.heap.size, 0, none⟩) (Nat.le_refl _) _).setCell (p := ⟨w.heap.size + 1, 0, none⟩) (by simp) _⟩, World.ownsRow_nil _ _ _ 1⟩
  simp [results, Try.f42, go_sem, cL3, cO3]

set_option maxRecDepth 100000 in
set_option maxHeartbeats 4000000 in
theorem implSameNo4 (a : Option Addr) (c : Nat) (a' : Option Addr) (c' : Nat) (G H : List (List Int)) (w : World) (hM : Mat w.heap.size w a G) (hM' : Mat w.heap.size w a' H) (hf : Fit G) (hf' : Fit H) (hg : gOk G = true) (hg' : gOk H = true) (hn : G.length = H.length) (h5 : 5 < G.length) :
    Calls Try.prog 42 #[.slice a G.length c, .slice a' H.length c'] w (SameOut none w) := by
  have HN := Lib.hid hn
  clear hn
  have hdd : ∀ k : Nat, (Fence.wide.depth.isSome = true → 1 ≤ k) := fun k h => by cases h
  have h1 : Fence.wide.fn 24 := trivial
  have HF := Lib.hid hf
  have HF' := Lib.hid hf'
  have hlG := hf.1
  have hlH := hf'.1
  clear hf hf'
  have es : ∀ (W : World) (o : Obj), (W.alloc o).heap.size = W.heap.size + 1 := fun W o => by simp
  have hB0 : Below w.heap.size w ((w.alloc (.cells #[.slice none 0 0] 24)).alloc (.cells #[.bool false] 4)) := ((Below.refl _ _).alloc (Nat.le_refl _) _).alloc (by simp) _
  have hM0 : Mat ((w.alloc (.cells #[.slice none 0 0] 24)).alloc (.cells #[.bool false] 4)).heap.size ((w.alloc (.cells #[.slice none 0 0] 24)).alloc (.cells #[.bool false] 4)) a G := (hM.below hB0).more hB0.size
  have bL := (Boxed.new w 24 (.slice none 0 0)).alloc (.cells #[.bool false] 4)
  have bO := Boxed.new (w.alloc (.cells #[.slice none 0 0] 24)) 4 (.bool false)
  rw [es] at bO
  refine (callsIn_wide (n := 20)).1 ?_
  refine callsIn_of_wp_marks Try.func42 rfl trivial ?_ rfl
  simp only [Try.ntmps42, List.size_toArray, List.length_cons, List.length_nil, Nat.reduceAdd, Nat.reduceSub, Array.replicate_succ, Array.replicate_zero, List.push_toArray, List.append_toArray, List.nil_append, List.cons_append]
  gi_wp2_with fail
  (try refine ⟨hdd _, ?_⟩)
  gi_at_call 24
  refine (callsIn_wide.2 (implOk a c G _ hM0 HF.out)).mono ?_
  rintro e w1 ⟨rfl, hB1⟩
  have bL1 : Boxed w1 w.heap.size 24 (.slice none 0 0) := (hB1.block _ bL.lt).trans bL
  have bO1 : Boxed w1 (w.heap.size + 1) 4 (.bool false) := (hB1.block _ bO.lt).trans bO
  have hBw : Below w.heap.size w w1 := hB0.trans (hB1.mono hB0.size)
  have hM1 : Mat w1.heap.size w1 a' H := (hM'.below hBw).more hBw.size
  clear hB1 hM0 bL bO hB0
  rw [hg]
  gi_wp2_with fail
  (try refine ⟨hdd _, ?_⟩)
  gi_at_call 24
  refine (callsIn_wide.2 (implOk a' c' H _ hM1 HF'.out)).mono ?_
  rintro e w2 ⟨rfl, hB2⟩
  have bL2 : Boxed w2 w.heap.size 24 (.slice none 0 0) := (hB2.block _ bL1.lt).trans bL1
  have bO2 : Boxed w2 (w.heap.size + 1) 4 (.bool false) := (hB2.block _ bO1.lt).trans bO1
  have hBw2 : Below w.heap.size w w2 := hBw.trans (hB2.mono hBw.size)
  clear hB2 hM1 bL1 bO1 hBw
  rw [hg']
  have hn := HN.out
  have bLs := bL2.set (.slice none 0 0)
  have cL := bL2.cell
  have fL := bL2.frozen
  have cO := bO2.cell
  have fO := bO2.frozen
  gi_wp2_with fail
  have hws := hBw2.size
  have bO3 : Boxed (w2.setCell ⟨w.heap.size, 0, none⟩ (.slice none 0 0)) (w.heap.size + 1) 4 (.bool false) := (Below.heap_setCell w2 ⟨w.heap.size, 0, none⟩ (.slice none 0 0) (w.heap.size + 1) (by simp)).trans bO2
  have bL3 : Boxed ((w2.setCell ⟨w.heap.size, 0, none⟩ (.slice none 0 0)).setCell ⟨w.heap.size + 1, 0, none⟩ (.bool false)) w.heap.size 24 (.slice none 0 0) := (Below.heap_setCell _ ⟨w.heap.size + 1, 0, none⟩ (.bool false) w.heap.size (by simp)).trans bLs
  have cL3 := bL3.cell
  have cO3 := (bO3.set (.bool false)).cell
  refine ⟨.tuple #[.slice none 0 0, .bool false], ?_, none, 0, ⟨rfl, (hBw2.setCell (p := ⟨w.heap.size, 0, none⟩) (Nat.le_refl _) _).setCell (p := ⟨w.heap.size + 1, 0, none⟩) (by simp) _⟩, World.ownsRow_nil _ _ _ 1⟩
  simp [results, Try.f42, go_sem, cL3, cO3]

end Go.Proofs.Ytldkgkpiceamhaa

namespace Go.Proofs.Ytldkgkpiceamhaa
open Go.RowKit Go.Shelf Go.Deep

attribute [local go_sem] Oper.semAt_some

theorem find_at {α : Type} {p : α → Bool} {L pre : List α} {x : α} (hpre : pre ++ [x] <+: L) (hn : ∀ y ∈ pre, p y = false) (hx : p x = true) : L.find? p = some x := by
  obtain ⟨r, rfl⟩ := hpre
  have h0 : pre.find? p = none := List.find?_eq_none.2 fun y hy => by rw [hn y hy]; simp
  simp [List.find?_append, h0, hx]
theorem find_not {α : Type} {p : α → Bool} {L : List α} (hn : ∀ y ∈ L, p y = false) : L.find? p = none := List.find?_eq_none.2 fun y hy => by rw [hn y hy]; simp

theorem grownBy_setQ (W : World) (b j : Nat) (x : Value) : W.grownBy (W.setCell ⟨b, j, none⟩ x) (some b) :=
  ⟨rfl, rfl, rfl, by simp, fun k _ hk => Below.heap_setCell W ⟨b, j, none⟩ x k (fun e => hk (by rw [show k = b from e]))⟩

set_option maxRecDepth 100000 in
set_option maxHeartbeats 4000000 in
theorem implSameYes (a : Option Addr) (c : Nat) (a' : Option Addr) (c' : Nat) (G H : List (List Int)) (N : Nat) (w : World) (hM : Mat w.heap.size w a G) (hM' : Mat w.heap.size w a' H) (hg : gOk G = true) (hg' : gOk H = true) (hGN : G.length = N) (hHN : H.length = N) (h5 : N ≤ 5) :
    Calls Try.prog 42 #[.slice a N c, .slice a' N c'] w (SameOut ((olvl N N).find? (sameBy G H)) w) := by
  have hdd : ∀ k : Nat, (Fence.wide.depth.isSome = true → 1 ≤ k) := fun k h => by cases h
  have h1 : Fence.wide.fn 24 := trivial
  have h2 : Fence.wide.fn 61 := trivial
  have h3 : Fence.wide.fn 85 := trivial
  have h4 : Fence.wide.fn 86 := trivial
  have h6 : Fence.wide.fn 77 := trivial
  have HOG : Hid (∀ W, Below w.heap.size w W → Calls Try.prog 24 #[.slice a N c] W (Ans (.bool true) W)) := Lib.hid fun W hB => by
    have := implOk a c G W ((hM.below hB).more hB.size) (Good.fit (good_of hg))
    rw [hGN, hg] at this; exact this
  have HOH : Hid (∀ W, Below w.heap.size w W → Calls Try.prog 24 #[.slice a' N c'] W (Ans (.bool true) W)) := Lib.hid fun W hB => by
    have := implOk a' c' H W ((hM'.below hB).more hB.size) (Good.fit (good_of hg'))
    rw [hHN, hg'] at this; exact this
  have HMK : Hid (∀ (W : World) (x : List Int) (a'' : Option Addr) (c'' : Nat), x.length = N → Tells N N x → Ints W.heap.size W a'' x → Below w.heap.size w W → CallsIn Fence.wide 20 Try.prog 86 #[.agg #[.slice a N c], .agg #[.slice a' N c'], .slice a'' N c''] W (Ans (.bool (sameBy G H x)) W)) := Lib.hid fun W x a'' c'' hx hT hI hB => by
    have := makes_in W.heap.size a a' a'' c c' c'' G H x W ((hM.below hB).more hB.size) ((hM'.below hB).more hB.size) hI (Nat.le_refl _) (good_of hg) (good_of hg') (by rw [hGN, hHN]; exact hT)
    rw [hGN, hHN, hx] at this; exact this
  have hN1 : 1 ≤ N := by rw [← hGN]; exact (good_of hg).1
  obtain ⟨p, HPP⟩ : ∃ p, Hid (sameBy G H = p) := ⟨_, rfl⟩
  rw [HPP.out] at HMK ⊢
  clear hM hM' hg hg' hGN hHN HPP
  have es : ∀ (W : World) (o : Obj), (W.alloc o).heap.size = W.heap.size + 1 := fun W o => by simp
  have hB0 : Below w.heap.size w ((w.alloc (.cells #[.slice none 0 0] 24)).alloc (.cells #[.bool false] 4)) := ((Below.refl _ _).alloc (Nat.le_refl _) _).alloc (by simp) _
  have bL := (Boxed.new w 24 (.slice none 0 0)).alloc (.cells #[.bool false] 4)
  have bO := Boxed.new (w.alloc (.cells #[.slice none 0 0] 24)) 4 (.bool false)
  rw [es] at bO
  refine (callsIn_wide (n := 20)).1 ?_
  refine callsIn_of_wp_marks Try.func42 rfl trivial ?_ rfl
  simp only [Try.ntmps42, List.size_toArray, List.length_cons, List.length_nil, Nat.reduceAdd, Nat.reduceSub, Array.replicate_succ, Array.replicate_zero, List.push_toArray, List.append_toArray, List.nil_append, List.cons_append]
  gi_wp2_with fail
  (try refine ⟨hdd _, ?_⟩)
  gi_at_call 24
  refine (callsIn_wide.2 (HOG.out _ hB0)).mono ?_
  rintro e w1 ⟨rfl, hB1⟩
  have bL1 : Boxed w1 w.heap.size 24 (.slice none 0 0) := (hB1.block _ bL.lt).trans bL
  have bO1 : Boxed w1 (w.heap.size + 1) 4 (.bool false) := (hB1.block _ bO.lt).trans bO
  have hBw : Below w.heap.size w w1 := hB0.trans (hB1.mono hB0.size)
  clear hB1 bL bO hB0
  gi_wp2_with fail
  (try refine ⟨hdd _, ?_⟩)
  gi_at_call 24
  refine (callsIn_wide.2 (HOH.out _ hBw)).mono ?_
  rintro e w2 ⟨rfl, hB2⟩
  have bL2 : Boxed w2 w.heap.size 24 (.slice none 0 0) := (hB2.block _ bL1.lt).trans bL1
  have bO2 : Boxed w2 (w.heap.size + 1) 4 (.bool false) := (hB2.block _ bO1.lt).trans bO1
  have hBw2 : Below w.heap.size w w2 := hBw.trans (hB2.mono hBw.size)
  clear hB2 bL1 bO1 hBw
  gi_wp2_with (first | ((try refine ⟨hdd _, ?_⟩); gi_at_call 61; refine (nodes_in Fence.wide _ (fun _ => trivial) rfl _ _ _ _).mono ?_; rintro e w' ⟨rfl, rfl⟩) | ((try refine ⟨hdd _, ?_⟩); gi_at_call 85; refine (orders_in _ _ _).mono ?_; rintro e w' ⟨rfl, rfl⟩))
  have bG := (((Boxed.new w2 61 (.slice a N c)).alloc (.cells #[.slice a' N c'] 61)).alloc (.cells #[.slice a N c] 61)).alloc (.cells #[.int .i64 N] 3)
  have bH := ((Boxed.new (w2.alloc (.cells #[.slice a N c] 61)) 61 (.slice a' N c')).alloc (.cells #[.slice a N c] 61)).alloc (.cells #[.int .i64 N] 3)
  have bN := Boxed.new (((w2.alloc (.cells #[.slice a N c] 61)).alloc (.cells #[.slice a' N c'] 61)).alloc (.cells #[.slice a N c] 61)) 3 (.int .i64 N)
  rw [es] at bH
  rw [es, es, es] at bN
  have bL3 := (((bL2.alloc (.cells #[.slice a N c] 61)).alloc (.cells #[.slice a' N c'] 61)).alloc (.cells #[.slice a N c] 61)).alloc (.cells #[.int .i64 N] 3)
  have bO3 := (((bO2.alloc (.cells #[.slice a N c] 61)).alloc (.cells #[.slice a' N c'] 61)).alloc (.cells #[.slice a N c] 61)).alloc (.cells #[.int .i64 N] 3)
  have hB3 := ((((hBw2.alloc hBw2.size (.cells #[.slice a N c] 61)).alloc (by have := hBw2.size; simp; omega) (.cells #[.slice a' N c'] 61)).alloc (by have := hBw2.size; simp; omega) (.cells #[.slice a N c] 61)).alloc (by have := hBw2.size; simp; omega) (.cells #[.int .i64 N] 3))
  have hws := hBw2.size
  have hlO := bO2.lt
  have hsz : ((((w2.alloc (.cells #[.slice a N c] 61)).alloc (.cells #[.slice a' N c'] 61)).alloc (.cells #[.slice a N c] 61)).alloc (.cells #[.int .i64 N] 3)).heap.size = w2.heap.size + 4 := by simp
  obtain ⟨V, hV⟩ : ∃ V, ((((w2.alloc (.cells #[.slice a N c] 61)).alloc (.cells #[.slice a' N c'] 61)).alloc (.cells #[.slice a N c] 61)).alloc (.cells #[.int .i64 N] 3)) = V := ⟨_, rfl⟩
  rw [hV] at bG bH bN bL3 bO3 hB3 hsz ⊢
  have hsz1 : w2.heap.size + 4 ≤ V.heap.size := by omega
  have hsz2 : V.heap.size ≤ w2.heap.size + 4 := by omega
  clear hV hsz bL2 bO2 hBw2
  refine range_lawY rfl rfl (fun _ => trivial) (gf := 106) (lb := #[.pointer (some ⟨w2.heap.size + 1 + 1 + 1, 0, none⟩)]) rfl (enters_of Try.func106 (by kernel_rfl) rfl)
    (orders_Y (V.heap.size + 2) (w2.heap.size + 1 + 1 + 1) N (by omega) (fun _ => False) V bN (fun B s => s.elim) (by omega)) (.inr (Nat.le_refl _)) (OwnFrom.and (ownFrom_pure _ _) (Own.from (hold_own _ _ _) _)) (fun h k => KeepC.trans h k) (fun W' o o' h hc => KeepC.putObj _ (by omega) W' o o' h hc) (Below.refl _ _) (fun _ => rfl)
    (fun pre W' => ((((Boxed W' w2.heap.size 61 (.slice a N c) ∧ Boxed W' (w2.heap.size + 1) 61 (.slice a' N c')) ∧ Boxed W' w.heap.size 24 (.slice none 0 0)) ∧ Boxed W' (w.heap.size + 1) 4 (.bool false)) ∧ Hid (∀ x ∈ pre, p x = false)) ∧ Below w.heap.size w W')
    (fun c' pre W' => ∃ (x : List Int) (g cap : Nat), (((((c' = .ret ∧ Hid (x.length = N ∧ ∃ pre', pre = pre' ++ [x] ∧ (∀ y ∈ pre', p y = false) ∧ p x = true)) ∧ Boxed W' w.heap.size 24 (.slice (some ⟨g, 0, none⟩) N cap)) ∧ Boxed W' (w.heap.size + 1) 4 (.bool true)) ∧ V.heap.size + 3 ≤ g) ∧ W'.ownsRow w.heap.size 3 1 (.slice (some ⟨g, 0, none⟩) N cap) N (x.map (Value.int .i64))) ∧ Below w.heap.size w W')
    ?oI ?oX ⟨⟨⟨⟨⟨bG, bH⟩, bL3⟩, bO3⟩, fun x hx => absurd hx (by simp)⟩, hB3⟩ ?a1 ?assign ?body ?done ?stop
  case oI =>
    exact ⟨fun s A C row ⟨⟨⟨⟨⟨k1, k2⟩, k3⟩, k4⟩, k5⟩, k6⟩ hgr hr => ⟨⟨⟨⟨⟨k1.kept hgr (fun e => by have := (hr _ e.symm).1; omega), k2.kept hgr (fun e => by have := (hr _ e.symm).1; omega)⟩, k3.kept hgr (fun e => by have := (hr _ e.symm).1; omega)⟩, k4.kept hgr (fun e => by have := (hr _ e.symm).1; omega)⟩, k5⟩, k6.grown hgr k6.size (fun r e => by have := (hr r e).1; omega)⟩,
      fun s A C ⟨⟨⟨⟨⟨k1, k2⟩, k3⟩, k4⟩, k5⟩, k6⟩ hgr _ => ⟨⟨⟨⟨⟨k1.kept hgr (fun e => by have e' := Option.some.inj e; omega), k2.kept hgr (fun e => by have e' := Option.some.inj e; omega)⟩, k3.kept hgr (fun e => by have e' := Option.some.inj e; omega)⟩, k4.kept hgr (fun e => by have e' := Option.some.inj e; omega)⟩, k5⟩, k6.grown hgr k6.size (fun r e => by cases e; omega)⟩⟩
  case oX =>
    intro c'
    exact ⟨fun s A C row ⟨x, g, cap, ⟨⟨⟨⟨k1, k2⟩, k3⟩, k4⟩, k5⟩, k6⟩ hgr hr => ⟨x, g, cap, ⟨⟨⟨⟨k1, k2.kept hgr (fun e => by have := (hr _ e.symm).1; omega)⟩, k3.kept hgr (fun e => by have := (hr _ e.symm).1; omega)⟩, k4⟩, k5.kept hgr (.inr fun e => by
          obtain ⟨_, o, ho, hc⟩ := hr g e.symm
          rcases k5.2 with ⟨h0, _⟩ | ⟨g', cap', cur, e0, _, hgg, _⟩
          · cases h0
          · cases e0; rw [hgg] at ho; cases ho; cases hc)⟩, k6.grown hgr k6.size (fun r e => by have := (hr r e).1; omega)⟩,
      fun s A C ⟨x, g, cap, ⟨⟨⟨⟨k1, k2⟩, k3⟩, k4⟩, k5⟩, k6⟩ hgr _ => ⟨x, g, cap, ⟨⟨⟨⟨k1, k2.kept hgr (fun e => by have e' := Option.some.inj e; omega)⟩, k3.kept hgr (fun e => by have e' := Option.some.inj e; omega)⟩, k4⟩, k5.kept hgr (.inr fun e => by have e' : g = V.heap.size + 2 := Option.some.inj e; omega)⟩, k6.grown hgr k6.size (fun r e => by cases e; omega)⟩⟩
  case assign =>
    intro l2 x W' K hK
    gi_wp2
    exact hK
  case body =>
    rintro l2 pre x W' ⟨⟨⟨⟨⟨bG', bH'⟩, bL'⟩, bO'⟩, HP⟩, hB'⟩ hsp ⟨hxN, hHx⟩
    have hws' := hB'.size
    have cG := bG'.cell
    have cH := bH'.cell
    have hT : Tells N N x := by
      have hx : x ∈ olvl N N := by rw [← ord_olvl]; exact hsp.subset (by simp)
      exact nodes_tells hxN (olvl_nodes hx)
    have hlx := hHx.lt
    have hIx : Ints W'.heap.size W' (some ⟨V.heap.size + 2, 0, none⟩) x := hHx.ints
    have HMk := Lib.hid (HMK.out W' x _ N hxN hT hIx hB')
    have HMd := Lib.hid (HMK.out W'.drew x _ N hxN hT hIx hB'.drew)
    gi_wp2_with fail
    refine (CallsIn.inRound l2 (CallsIn_any rfl HMk.out)).mono ?_
    rintro e w4 ⟨rfl, hB4⟩
    have hz4 := hB4.size
    have bG4 : Boxed w4 w2.heap.size 61 (.slice a N c) := (hB4.block _ bG'.lt).trans bG'
    have bH4 : Boxed w4 (w2.heap.size + 1) 61 (.slice a' N c') := (hB4.block _ bH'.lt).trans bH'
    have bL4 : Boxed w4 w.heap.size 24 (.slice none 0 0) := (hB4.block _ bL'.lt).trans bL'
    have bO4 : Boxed w4 (w.heap.size + 1) 4 (.bool false) := (hB4.block _ bO'.lt).trans bO'
    have hB4w : Below w.heap.size w w4 := hB'.trans (hB4.mono hB'.size)
    by_cases hp : p x = true
    · rw [hp]
      have HX := Lib.hid hp
      have HCl := Lib.hid (cloneRowQ (V.heap.size + 2) N x w4 ((hIx.below hB4).more hz4) (by omega) (by omega))
      rw [hxN] at HCl
      clear hp cG cH hT hIx HMk HMd
      gi_wp2_with fail
      (try refine ⟨hdd _, ?_⟩)
      gi_at_call 77
      refine (CallsIn.inRound l2 (callsIn_wide.2 HCl.out)).mono ?_
      rintro e w5 ⟨g, cap, rfl, hB5, hown5⟩
      have hz5 := hB5.size
      have hg := (hown5.lt g rfl).1
      have bL5 : Boxed w5 w.heap.size 24 (.slice none 0 0) := (hB5.block _ bL4.lt).trans bL4
      have bO5 : Boxed w5 (w.heap.size + 1) 4 (.bool false) := (hB5.block _ bO4.lt).trans bO4
      have cL := bL5.cell
      have fL := bL5.frozen
      have cO := bO5.cell
      have fO := bO5.frozen
      gi_wp2_with fail
      have bO6 : Boxed (w5.setCell ⟨w.heap.size, 0, none⟩ (.slice (some ⟨g, 0, none⟩) N cap)) (w.heap.size + 1) 4 (.bool false) := (Below.heap_setCell w5 ⟨w.heap.size, 0, none⟩ _ (w.heap.size + 1) (by simp)).trans bO5
      have bL7 : Boxed ((w5.setCell ⟨w.heap.size, 0, none⟩ (.slice (some ⟨g, 0, none⟩) N cap)).setCell ⟨w.heap.size + 1, 0, none⟩ (.bool true)) w.heap.size 24 (.slice (some ⟨g, 0, none⟩) N cap) := (Below.heap_setCell _ ⟨w.heap.size + 1, 0, none⟩ (.bool true) w.heap.size (by simp)).trans (bL5.set _)
      have hown7 := ((Joins.ownsRow_le hown5 (show w.heap.size ≤ w4.heap.size by omega)).kept (grownBy_setQ w5 w.heap.size 0 (.slice (some ⟨g, 0, none⟩) N cap)) (.inr fun e => by have e' : g = w.heap.size := Option.some.inj e; omega)).kept (grownBy_setQ _ (w.heap.size + 1) 0 (.bool true)) (.inr fun e => by have e' : g = w.heap.size + 1 := Option.some.inj e; omega)
      have hB5w : Below w.heap.size w w5 := hB4w.trans (hB5.mono hB4w.size)
      exact ⟨(keepsFrom_below (hB4.trans (hB5.mono hz4)) _).trans (((KeepsOthers.setCell w5 ⟨w.heap.size, 0, none⟩ _).from _).trans ((KeepsOthers.setCell _ ⟨w.heap.size + 1, 0, none⟩ _).from _)), x, g, cap,
        ⟨⟨⟨⟨⟨rfl, hxN, pre, rfl, HP.out, HX.out⟩, bL7⟩, bO6.set (.bool true)⟩, by omega⟩, hown7⟩,
        (hB5w.setCell (p := ⟨w.heap.size, 0, none⟩) (Nat.le_refl _) _).setCell (p := ⟨w.heap.size + 1, 0, none⟩) (by simp) _⟩
    · have hpf : p x = false := by simpa using hp
      rw [hpf]
      have HP' : Hid (∀ y ∈ pre ++ [x], p y = false) := fun y hy => by
        rcases List.mem_append.1 hy with h | h
        · exact HP.out y h
        · rw [List.mem_singleton.1 h]; exact hpf
      clear hp hpf cG cH hT hIx HMk HMd
      gi_wp2_with fail
      exact ⟨keepsFrom_below hB4 _, KeepC.of_below hB4, ⟨⟨⟨⟨bG4, bH4⟩, bL4⟩, bO4⟩, HP'⟩, hB4w⟩
  case done =>
    rintro D ys W' hD rfl ⟨⟨⟨⟨⟨bG', bH'⟩, bL'⟩, bO'⟩, HP⟩, hB'⟩ hK
    have cL := bL'.cell
    have fL := bL'.frozen
    have cO := bO'.cell
    have fO := bO'.frozen
    gi_wp2_with fail
    have hK1 := (KeepsOthers.setCell W' ⟨w.heap.size, 0, none⟩ (.slice none 0 0)).same D _ hK rfl
    have hK2 := (KeepsOthers.setCell (W'.setCell ⟨w.heap.size, 0, none⟩ (.slice none 0 0)) ⟨w.heap.size + 1, 0, none⟩ (.bool false)).same D _ hK1 rfl
    have bO6 : Boxed (W'.setCell ⟨w.heap.size, 0, none⟩ (.slice none 0 0)) (w.heap.size + 1) 4 (.bool false) := (Below.heap_setCell W' ⟨w.heap.size, 0, none⟩ _ (w.heap.size + 1) (by simp)).trans bO'
    have bL7 : Boxed ((W'.setCell ⟨w.heap.size, 0, none⟩ (.slice none 0 0)).setCell ⟨w.heap.size + 1, 0, none⟩ (.bool false)) w.heap.size 24 (.slice none 0 0) := (Below.heap_setCell _ ⟨w.heap.size + 1, 0, none⟩ (.bool false) w.heap.size (by simp)).trans (bL'.set _)
    have hB7 := (hB'.setCell (p := ⟨w.heap.size, 0, none⟩) (Nat.le_refl _) (.slice none 0 0)).setCell (p := ⟨w.heap.size + 1, 0, none⟩) (by simp) (.bool false)
    refine ⟨by simp, .inl ⟨_, _, rfl, run_takeDeferred hK2, ?_⟩⟩
    have hc7 := cell_kept bL7.cell (grownBy_putObj' _ D (.deferred none)) (fun r e => by cases e; exact ⟨_, hK2, rfl⟩)
    have hc8 := cell_kept (bO6.set (.bool false)).cell (grownBy_putObj' _ D (.deferred none)) (fun r e => by cases e; exact ⟨_, hK2, rfl⟩)
    have hfn : (olvl N N).find? p = none := by rw [← ord_olvl]; exact find_not fun y hy => HP.out y hy
    rw [hfn]
    refine ⟨.tuple #[.slice none 0 0, .bool false], ?_, none, 0, ⟨rfl, hB7.trans (belowK_b (w := w) (Nat.le_refl _) _ D _ _ (by omega) hK2 rfl rfl)⟩, World.ownsRow_nil _ _ _ 1⟩
    simp [results, Try.f42, go_sem, hc7, hc8]
  case stop =>
    rintro D c' pre W' hD hpre ⟨x, g, cap, ⟨⟨⟨⟨⟨rfl, HX⟩, bL'⟩, bO'⟩, hg⟩, hown⟩, hB'⟩ hK
    gi_wp2
    obtain ⟨hxN, pre', rfl, hno, hyes⟩ := HX.out
    refine ⟨by simp, .inl ⟨_, _, rfl, run_takeDeferred hK, ?_⟩⟩
    have hc7 := cell_kept bL'.cell (grownBy_putObj' _ D (.deferred none)) (fun r e => by cases e; exact ⟨_, hK, rfl⟩)
    have hc8 := cell_kept bO'.cell (grownBy_putObj' _ D (.deferred none)) (fun r e => by cases e; exact ⟨_, hK, rfl⟩)
    have hfn : (olvl N N).find? p = some x := by rw [← ord_olvl]; exact find_at hpre hno hyes
    rw [hfn]
    have hown' := hown.kept (grownBy_putObj' W' D (.deferred none)) (.inr fun e => by
      rcases hown.2 with ⟨h0, _⟩ | ⟨g', cap', cur, e0, _, hgg, _⟩
      · cases h0
      · cases e0
        have e' : g = D := Option.some.inj e
        subst e'
        rw [hgg] at hK; cases hK)
    refine ⟨.tuple #[.slice (some ⟨g, 0, none⟩) N cap, .bool true], ?_, some ⟨g, 0, none⟩, cap, ⟨?_, hB'.trans (belowK_b (w := w) (Nat.le_refl _) _ D _ _ (by omega) hK rfl rfl)⟩, ?_⟩
    · simp [results, Try.f42, go_sem, hc7, hc8]
    · rw [← hxN]; rfl
    · rw [Option.getD_some, hxN]; exact hown'

end Go.Proofs.Ytldkgkpiceamhaa

namespace Go.Proofs.Ytldkgkpiceamhaa
open Go.RowKit Go.Shelf Go.Deep

theorem drewN_twoQ (w : World) (n m : Nat) : (w.drewN n).drewN m = w.drewN (n + m) := by simp [World.drewN, Nat.add_assoc]
theorem ent_ext {xss yss : List (List Int)} (h : Good xss) (h' : Good yss) (hl : yss.length = xss.length) (he : ∀ i j, i < xss.length → j < xss.length → ent xss i j = ent yss i j) : xss = yss := by
  have e1 := good_rowsP h
  have e2 := good_rowsP h'
  rw [hl] at e2
  rw [e1, e2]
  refine rowsP_congr fun i j hi hj => ?_
  unfold arw
  rw [he i j hi hj]
def StillQ (v : Value) (w : World) (e : Ending) (w' : World) : Prop := e = .returned v ∧ ∃ n, w' = w.drewN n

end Go.Proofs.Ytldkgkpiceamhaa

namespace Go.Proofs.Ytldkgkpiceamhaa
open Go.RowKit Go.Shelf Go.Deep

/-- The list that is returned, to be read, and whether there is one. -/
def SpecOut (o : Option (List Int)) (w : World) (e : Ending) (w' : World) : Prop :=
  ∃ (a : Option Addr) (c : Nat), (e = .returned (.tuple #[.slice a (o.getD []).length c, .bool o.isSome]) ∧ Below w.heap.size w w') ∧ Ints w'.heap.size w' a (o.getD [])
theorem ints_none (n₀ : Nat) (W : World) (a : Option Addr) : Ints n₀ W a [] := fun h => by simp at h

theorem same_dec {G H : List (List Int)} {f : List Int} (hG : gOk G = true) (hH : gOk H = true) (hl : f.length = H.length) (hN : Nodes G.length f) : sameBy G H f = decide (partL G f = H) := by
  rw [Bool.eq_iff_iff, decide_eq_true_iff]
  exact same_part hG hH hl hN
theorem part_len {xss : List (List Int)} {ys : List Int} (h : gOk xss = true) (h1 : 1 ≤ ys.length) (hN : Nodes xss.length ys) : (partL xss ys).length = ys.length := by
  rw [partL_yes h h1 hN]; exact rowsP_length _ _

end Go.Proofs.Ytldkgkpiceamhaa

namespace Go.Proofs.Ytldkgkpiceamhaa
open Go.RowKit Go.Shelf Go.Deep

theorem sameGI_le (G H : List (List Int)) : ((sameGI G H).getD []).length ≤ 1048576 := by
  unfold sameGI
  split
  · rename_i h
    simp only [Bool.and_eq_true, decide_eq_true_eq] at h
    cases hf : (olvl G.length G.length).find? (sameBy G H) with
    | none => simp
    | some x => simp only [Option.getD_some]; rw [olvl_len (List.mem_of_find?_eq_some hf)]; omega
  · simp
theorem sameGI_yes {G H : List (List Int)} (h : gOk G = true ∧ gOk H = true ∧ G.length = H.length ∧ G.length ≤ 5) : sameGI G H = (olvl H.length H.length).find? (sameBy G H) := by
  obtain ⟨h1, h2, h3, h4⟩ := h
  unfold sameGI
  rw [if_pos (by simp [h1, h2, h3]; omega), h3]
theorem sameGI_no {G H : List (List Int)} (h : ¬ (gOk G = true ∧ gOk H = true ∧ G.length = H.length ∧ G.length ≤ 5)) : sameGI G H = none := by
  unfold sameGI
  refine if_neg fun e => h ?_
  simpa [and_assoc] using e
theorem implSame (a : Option Addr) (c : Nat) (a' : Option Addr) (c' : Nat) (G H : List (List Int)) (w : World) (hM : Mat w.heap.size w a G) (hM' : Mat w.heap.size w a' H) (hf : Fit G) (hf' : Fit H) :
    Calls Try.prog 42 #[.slice a G.length c, .slice a' H.length c'] w (SameOut (sameGI G H) w) := by
  by_cases h : gOk G = true ∧ gOk H = true ∧ G.length = H.length ∧ G.length ≤ 5
  · rw [sameGI_yes h]
    obtain ⟨h1, h2, h3, h4⟩ := h
    have := implSameYes a c a' c' G H H.length w hM hM' h1 h2 h3 rfl (by omega)
    rw [← h3] at this ⊢
    exact this
  · rw [sameGI_no h]
    by_cases hg : gOk G = true
    · by_cases hg' : gOk H = true
      · by_cases hl : G.length = H.length
        · exact implSameNo4 a c a' c' G H w hM hM' hf hf' hg hg' hl (by
            refine Nat.lt_of_not_le fun h5 => h ⟨hg, hg', hl, h5⟩)
        · exact implSameNo3 a c a' c' G H w hM hM' hf hf' hg hg' hl
      · exact implSameNo2 a c a' c' G H w hM hM' hf hf' hg (by simpa using hg')
    · exact implSameNo1 a c a' c' G H w hM hM' hf hf' (by simpa using hg)
end Go.Proofs.Ytldkgkpiceamhaa

namespace Go.Proofs.Ytldkgkpiceamhaa
open Go.RowKit Go.Shelf Go.Deep

theorem Nodes.less {m : Nat} {ys : List Int} {x : Int} (h : Nodes m (ys ++ [x])) : Nodes m ys ∧ (0 ≤ x ∧ x < m) ∧ ys.contains x = false := by
  have hx : (ys ++ [x])[ys.length]? = some x := by simp
  have low : ∀ (j : Nat) (y : Int), ys[j]? = some y → (ys ++ [x])[j]? = some y := fun j y hy => by
    rw [List.getElem?_append_left (List.getElem?_eq_some_iff.1 hy).1]; exact hy
  refine ⟨⟨fun j y hy => h.1 j y (low j y hy), fun i j y hij hy hy2 => h.2 i j y hij (low i y hy) (low j y hy2)⟩, h.1 _ _ hx, ?_⟩
  refine Bool.eq_false_iff.2 fun hc => ?_
  obtain ⟨i, hi, e⟩ := List.mem_iff_getElem.1 (List.contains_iff_mem.1 hc)
  exact h.2 i ys.length x hi (low i x (by rw [List.getElem?_eq_getElem hi, e])) hx
theorem nodes_olvl {n : Nat} : ∀ (k : Nat) (p : List Int), p.length = k → Nodes n p → p ∈ olvl n k
  | 0, p, hl, _ => by rw [List.length_eq_zero_iff.1 hl, olvl]; simp
  | k + 1, p, hl, h => by
    have hne : p ≠ [] := fun e => by rw [e] at hl; simp at hl
    have e := List.dropLast_concat_getLast hne
    rw [← e] at h
    obtain ⟨h1, ⟨h2, h3⟩, h4⟩ := h.less
    have hq := nodes_olvl k p.dropLast (by rw [List.length_dropLast]; omega) h1
    rw [olvl, List.mem_flatMap]
    refine ⟨p.dropLast, hq, ?_⟩
    unfold oexts
    have hx : ((p.getLast hne).toNat : Int) = p.getLast hne := Int.toNat_of_nonneg h2
    refine List.mem_map.2 ⟨(p.getLast hne).toNat, List.mem_filter.2 ⟨List.mem_range.2 (by omega), ?_⟩, ?_⟩
    · rw [hx, h4]; rfl
    · rw [hx]; exact e
theorem nodes_onto {n : Nat} {f : List Int} (hl : f.length = n) (h : Nodes n f) {j : Nat} (hj : j < n) : ∃ i, i < n ∧ nd f i = j := by
  by_cases hc : f.contains (j : Int) = true
  · obtain ⟨i, hi, e⟩ := List.mem_iff_getElem.1 (List.contains_iff_mem.1 hc)
    refine ⟨i, by omega, ?_⟩
    have := (nodes_nd h hi).1
    rw [List.getElem?_eq_getElem hi, e] at this
    have := Option.some.inj this
    omega
  · have := nodes_le (h.more hj (by simpa using hc))
    rw [List.length_append, List.length_singleton] at this
    omega
/-- The order that undoes one. -/
theorem nodes_undo {n : Nat} {f : List Int} (hl : f.length = n) (h : Nodes n f) : ∃ g : List Int, g.length = n ∧ Nodes n g ∧ ∀ i, i < n → nd f (nd g i) = i := by
  obtain ⟨F, hF⟩ : ∃ F : Nat → Nat, ∀ j, j < n → F j < n ∧ nd f (F j) = j := by
    refine ⟨fun j => if hj : j < n then Classical.choose (nodes_onto hl h hj) else 0, fun j hj => ?_⟩
    simp only [dif_pos hj]
    exact Classical.choose_spec (nodes_onto hl h hj)
  have get : ∀ j, j < n → ((List.range n).map fun j => ((F j : Nat) : Int))[j]? = some (F j : Int) := fun j hj => by simp [hj]
  have hlen : ((List.range n).map fun j => ((F j : Nat) : Int)).length = n := by simp
  have lt : ∀ (j : Nat) (y : Int), ((List.range n).map fun j => ((F j : Nat) : Int))[j]? = some y → j < n ∧ y = F j := fun j y hy => by
    have hj : j < n := by have := (List.getElem?_eq_some_iff.1 hy).1; rw [hlen] at this; exact this
    rw [get j hj] at hy
    exact ⟨hj, (Option.some.inj hy).symm⟩
  refine ⟨_, hlen, ⟨fun j y hy => ?_, fun i j y hij hy hy2 => ?_⟩, fun i hi => ?_⟩
  · obtain ⟨hj, rfl⟩ := lt j y hy
    have := (hF j hj).1
    omega
  · obtain ⟨hi, e1⟩ := lt i y hy
    obtain ⟨hj, e2⟩ := lt j y hy2
    have e : F i = F j := by omega
    have h1 := (hF i hi).2
    rw [e, (hF j hj).2] at h1
    omega
  · have e : nd ((List.range n).map fun j => ((F j : Nat) : Int)) i = F i := by unfold nd; rw [get i hi]; simp
    rw [e]; exact (hF i hi).2
theorem same_iff {G H : List (List Int)} {f : List Int} : sameBy G H f = true ↔ ∀ i j, i < H.length → j < H.length → arw G (nd f i) (nd f j) = arw H i j := by
  unfold sameBy
  rw [List.all_eq_true]
  exact ⟨fun h i j hi hj => by simpa using h (⟨i, hi⟩, ⟨j, hj⟩) (PL_all _), fun h x _ => by rw [h x.1 x.2 x.1.2 x.2.2]; simp⟩
theorem same_undo {G H : List (List Int)} {f g : List Int} {n : Nat} (hG : G.length = n) (hH : H.length = n) (hlg : g.length = n) (hg : Nodes n g) (h : ∀ i, i < n → nd f (nd g i) = i) (hs : sameBy G H f = true) : sameBy H G g = true := by
  rw [same_iff] at hs ⊢
  intro i j hi hj
  have := hs (nd g i) (nd g j) (by rw [hH]; exact (nodes_nd hg (by omega)).2) (by rw [hH]; exact (nodes_nd hg (by omega)).2)
  rw [h i (by omega), h j (by omega)] at this
  exact this.symm
theorem same_some {G H : List (List Int)} : (sameGI G H).isSome = true ↔ (gOk G = true ∧ gOk H = true ∧ G.length = H.length ∧ G.length ≤ 5) ∧ ∃ f, f.length = H.length ∧ Nodes H.length f ∧ sameBy G H f = true := by
  by_cases h : gOk G = true ∧ gOk H = true ∧ G.length = H.length ∧ G.length ≤ 5
  · rw [sameGI_yes h, List.find?_isSome]
    exact ⟨fun ⟨f, hf, hs⟩ => ⟨h, f, olvl_len hf, olvl_nodes hf, hs⟩, fun ⟨_, f, hl, hN, hs⟩ => ⟨f, nodes_olvl _ f hl hN, hs⟩⟩
  · rw [sameGI_no h]
    exact ⟨fun e => (by cases e), fun e => absurd e.1 h⟩
/-- It is told for both exchanged exactly if it is. -/
theorem same_back (G H : List (List Int)) : (sameGI H G).isSome = (sameGI G H).isSome := by
  have key : ∀ G H : List (List Int), (sameGI G H).isSome = true → (sameGI H G).isSome = true := fun G H h => by
    obtain ⟨⟨h1, h2, h3, h4⟩, f, hl, hN, hs⟩ := same_some.1 h
    obtain ⟨g, hg1, hg2, hg3⟩ := nodes_undo hl hN
    exact same_some.2 ⟨⟨h2, h1, h3.symm, by omega⟩, g, by omega, by rw [h3]; exact hg2, same_undo h3 rfl hg1 hg2 hg3 hs⟩
  exact Bool.eq_iff_iff.2 ⟨key H G, key G H⟩
theorem find_congr {α : Type} {p q : α → Bool} : ∀ {l : List α}, (∀ x ∈ l, p x = q x) → l.find? p = l.find? q
  | [], _ => rfl
  | a :: l, h => by
    rw [List.find?_cons, List.find?_cons, h a (by simp), find_congr fun x hx => h x (by simp [hx])]
theorem same_turned {G H : List (List Int)} {f : List Int} (hG : gOk G = true) (hH : gOk H = true) (hN : Nodes G.length f) (hl : f.length = H.length) : sameBy (turnedL G) (turnedL H) f = sameBy G H f := by
  have lH : (turnedL H).length = H.length := by rw [turnedL_yes hH]; exact rowsP_length _ _
  have eG : ∀ i j, i < H.length → j < H.length → arw (turnedL G) (nd f i) (nd f j) = arw G (nd f j) (nd f i) := fun i j hi hj => by
    rw [turnedL_yes hG]; exact arw_rowsP (nodes_nd hN (by omega)).2 (nodes_nd hN (by omega)).2
  have eH : ∀ i j, i < H.length → j < H.length → arw (turnedL H) i j = arw H j i := fun i j hi hj => by
    rw [turnedL_yes hH]; exact arw_rowsP hi hj
  rw [Bool.eq_iff_iff, same_iff, same_iff, lH]
  exact ⟨fun h i j hi hj => by have := h j i hj hi; rw [eG j i hj hi, eH j i hj hi] at this; exact this, fun h i j hi hj => by rw [eG i j hi hj, eH i j hi hj]; exact h j i hj hi⟩
/-- Of both turned round it is the same order. -/
theorem sameGI_turned {G H : List (List Int)} (h : (sameGI G H).isSome = true) : sameGI (turnedL G) (turnedL H) = sameGI G H := by
  obtain ⟨⟨h1, h2, h3, h4⟩, _⟩ := same_some.1 h
  have lG : (turnedL G).length = G.length := by rw [turnedL_yes h1]; exact rowsP_length _ _
  have lH : (turnedL H).length = H.length := by rw [turnedL_yes h2]; exact rowsP_length _ _
  have o1 : gOk (turnedL G) = true := by rw [turnedL_yes h1]; exact gOk_true (rowsP_good _ (good_of h1).1 (good_of h1).2.1)
  have o2 : gOk (turnedL H) = true := by rw [turnedL_yes h2]; exact gOk_true (rowsP_good _ (good_of h2).1 (good_of h2).2.1)
  rw [sameGI_yes ⟨h1, h2, h3, h4⟩, sameGI_yes ⟨o1, o2, by rw [lG, lH, h3], by rw [lG]; exact h4⟩, lH]
  exact find_congr fun f hf => same_turned h1 h2 (by rw [h3]; exact olvl_nodes hf) (olvl_len hf)
theorem sameGI_found {G H : List (List Int)} {f : List Int} (h : sameGI G H = some f) : partL G f = H := by
  obtain ⟨⟨h1, h2, h3, h4⟩, _⟩ := same_some.1 (by rw [h]; rfl)
  rw [sameGI_yes ⟨h1, h2, h3, h4⟩] at h
  have hf := List.mem_of_find?_eq_some h
  exact (same_part h1 h2 (olvl_len hf) (by rw [h3]; exact olvl_nodes hf)).1 (List.find?_some h)

end Go.Proofs.Ytldkgkpiceamhaa
