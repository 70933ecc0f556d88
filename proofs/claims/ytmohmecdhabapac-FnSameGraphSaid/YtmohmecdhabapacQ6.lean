/-
  impl.SameGraph.
-/
import Derived.Test.YtmohmecdhabapacQ5
import Derived.Stop.RegionWithIn
import Derived.ArgAppend
import Derived.OwnWalk
import Derived.Lib.SliceRun
namespace Go.Proofs.Ytmohmecdhabapac
open Go.RowKit Go.Shelf Go.Deep

attribute [local go_sem] Oper.semAt_some

set_option maxHeartbeats 1000000 in
/-- slices.Clone of a row that holds something. -/
theorem cloneRowQ (b N : Nat) (p : List Int) (w : World) (hI : Ints w.heap.size w (some ⟨b, 0, none⟩) p) (h1 : 1 ≤ p.length) (h9 : p.length ≤ 9) :
    Calls Try.prog 44 #[.slice (some ⟨b, 0, none⟩) p.length N] w fun e w' => ∃ g cap, e = .returned (.slice (some ⟨g, 0, none⟩) p.length cap) ∧ Below w.heap.size w w' ∧ w'.ownsRow w.heap.size 3 1 (.slice (some ⟨g, 0, none⟩) p.length cap) p.length (p.map (Value.int .i64)) := by
  obtain ⟨i1, hj, hy0, hy1, hy2⟩ := info_parts infoInt
  obtain ⟨q, hq⟩ : ∃ q, Hid (p.length = q + 1) := ⟨p.length - 1, Lib.hid (by omega)⟩
  have hown0 : (w.alloc (.cells #[] 3)).ownsRow w.heap.size 3 1 (.slice (some ⟨w.heap.size, 0, none⟩) 0 0) 0 [] := World.ownsRow_lit (size := 1) w #[] 0 (Nat.le_refl _) (Nat.zero_le _) rfl
  have hcells : ∀ j u, (p.map (Value.int .i64))[j]? = some u → (w.alloc (.cells #[] 3)).cell? ((⟨b, 0, none⟩ : Addr).add j) = some u := fun j u hu => by
    have hIa := hI.below ((Below.refl _ w).alloc (Nat.le_refl _) (.cells #[] 3))
    exact ints_news9 hIa j u hu
  have hone : ∀ u ∈ p.map (Value.int .i64), u.oneCell' = true := fun u hu => by obtain ⟨x, _, rfl⟩ := List.mem_map.1 hu; rfl
  have hnil : (binOp .eql 24 (.slice (some ⟨b, 0, none⟩) p.length N) (.slice none 0 0)).run Try.prog w = .ok (.bool false) w := Lib.run_eql_slice_nil (P := Try.prog) w 24 3 (some ⟨b, 0, none⟩) p.length N 0 0 Try.underlying24
  go_enter Try.func44, Try.ntmps44
  go_wp2_with (at_builtin; refine wpList_append_own _ rfl _ _ 24 rfl w.heap.size 3 i1 (.int .i64 0) 1 8 Try.underlying24 hj hy0 hy1 hy2 rfl (by decide) (.slice (some ⟨w.heap.size, 0, none⟩) 0 0) 0 [] rfl hown0 ⟨b, 0, none⟩ p.length N (p.map (Value.int .i64)) rfl (by simp) hcells hone (by unfold maxLen; omega) (by omega) (by simp) ?_; intro v4 w4 hown4 hgrow4 _; rw [Nat.zero_add, List.nil_append, hq.out] at hown4; obtain ⟨g, cap, rfl⟩ := ownsRow_succ hown4; have hB4 : Below w.heap.size w w4 := ((Below.refl _ w).alloc (Nat.le_refl _) _).grown hgrow4 (by simp) (fun r e => by have e' : some w.heap.size = some r := e; cases e'; exact Nat.le_refl _))
  go_ret
  exact ⟨g, cap, by rw [hq.out]; rfl, hB4, by rw [hq.out]; exact hown4⟩

/-- The list that is returned, in memory of its own, and whether there is one. -/
def SameOut (o : Option (List Int)) (w : World) (e : Ending) (w' : World) : Prop :=
  ∃ (a : Option Addr) (c : Nat), (e = .returned (.tuple #[.slice a (o.getD []).length c, .bool o.isSome]) ∧ Below w.heap.size w w') ∧ w'.ownsRow w.heap.size 3 1 (.slice a (o.getD []).length c) (o.getD []).length ((o.getD []).map (Value.int .i64))

set_option maxRecDepth 100000 in
set_option maxHeartbeats 4000000 in
theorem implSameNo1 (a : Option Addr) (c : Nat) (a' : Option Addr) (c' : Nat) (G H : List (List Int)) (w : World) (hM : Mat w.heap.size w a G) (hM' : Mat w.heap.size w a' H) (hf : Fit G) (hf' : Fit H) (hg : gOk G = false) :
    Calls Try.prog 15 #[.slice a G.length c, .slice a' H.length c'] w (SameOut none w) := by
  have hdd : ∀ k : Nat, (Fence.wide.depth.isSome = true → 1 ≤ k) := fun k h => by cases h
  have h1 : Fence.wide.fn 12 := trivial
  have HF := Lib.hid hf
  have HF' := Lib.hid hf'
  have hlG := hf.1
  have hlH := hf'.1
  clear hf hf'
  have es : ∀ (W : World) (o : Obj), (W.alloc o).heap.size = W.heap.size + 1 := fun W o => by simp
  have hB0 : Below w.heap.size w ((w.alloc (.cells #[.slice none 0 0] 24)).alloc (.cells #[.bool false] 4)) := ((Below.refl _ _).alloc (Nat.le_refl _) _).alloc (by simp) _
  have hM0 : Mat ((w.alloc (.cells #[.slice none 0 0] 24)).alloc (.cells #[.bool false] 4)).heap.size ((w.alloc (.cells #[.slice none 0 0] 24)).alloc (.cells #[.bool false] 4)) a G := (hM.below hB0).more hB0.size
  have bL := (Boxed.new w 24 (.slice none 0 0)).alloc (.cells #[.bool false] 4)
  have bO := Boxed.new (w.alloc (.cells #[.slice none 0 0] 24)) 4 (.bool false)
  rw [es] at bO
  refine (callsIn_wide (n := 20)).1 ?_
  refine callsIn_of_wp_marks Try.func15 rfl trivial ?_ rfl
  simp only [Try.ntmps15, List.size_toArray, List.length_cons, List.length_nil, Nat.reduceAdd, Nat.reduceSub, Array.replicate_succ, Array.replicate_zero, List.push_toArray, List.append_toArray, List.nil_append, List.cons_append]
  gi_wp2_with fail
  (try refine ⟨hdd _, ?_⟩)
  gi_at_call 12
  refine (callsIn_wide.2 (implOk a c G _ hM0 HF.out)).mono ?_
  rintro e w1 ⟨rfl, hB1⟩
  have bL1 : Boxed w1 w.heap.size 24 (.slice none 0 0) := (hB1.block _ bL.lt).trans bL
  have bO1 : Boxed w1 (w.heap.size + 1) 4 (.bool false) := (hB1.block _ bO.lt).trans bO
  have hBw : Below w.heap.size w w1 := hB0.trans (hB1.mono hB0.size)
  have hM1 : Mat w1.heap.size w1 a' H := (hM'.below hBw).more hBw.size
  clear hB1 hM0 bL bO hB0
  rw [hg]
  clear hM hM' hM1
  have bLs := bL1.set (.slice none 0 0)
  have cL := bL1.cell
  have fL := bL1.frozen
  have cO := bO1.cell
  have fO := bO1.frozen
  gi_wp2_with fail
  have hws := hBw.size
  have bO3 : Boxed (w1.setCell ⟨w.heap.size, 0, none⟩ (.slice none 0 0)) (w.heap.size + 1) 4 (.bool false) := (Below.heap_setCell w1 ⟨w.heap.size, 0, none⟩ (.slice none 0 0) (w.heap.size + 1) (by simp)).trans bO1
  have bL3 : Boxed ((w1.setCell ⟨w.heap.size, 0, none⟩ (.slice none 0 0)).setCell ⟨w.heap.size + 1, 0, none⟩ (.bool false)) w.heap.size 24 (.slice none 0 0) := (Below.heap_setCell _ ⟨w.heap.size + 1, 0, none⟩ (.bool false) w.heap.size (by simp)).trans bLs
  have cL3 := bL3.cell
  have cO3 := (bO3.set (.bool false)).cell
  refine ⟨.tuple #[.slice none 0 0, .bool false], ?_, none, 0, ⟨rfl, (hBw.setCell (p := ⟨w.heap.size, 0, none⟩) (Nat.le_refl _) _).setCell (p := ⟨w.heap.size + 1, 0, none⟩) (by simp) _⟩, World.ownsRow_nil _ _ _ 1⟩
  simp [results, Try.f15, go_sem, cL3, cO3]

set_option maxRecDepth 100000 in
set_option maxHeartbeats 4000000 in
theorem implSameNo2 (a : Option Addr) (c : Nat) (a' : Option Addr) (c' : Nat) (G H : List (List Int)) (w : World) (hM : Mat w.heap.size w a G) (hM' : Mat w.heap.size w a' H) (hf : Fit G) (hf' : Fit H) (hg : gOk G = true) (hg' : gOk H = false) :
    Calls Try.prog 15 #[.slice a G.length c, .slice a' H.length c'] w (SameOut none w) := by
  have hdd : ∀ k : Nat, (Fence.wide.depth.isSome = true → 1 ≤ k) := fun k h => by cases h
  have h1 : Fence.wide.fn 12 := trivial
  have HF := Lib.hid hf
  have HF' := Lib.hid hf'
  have hlG := hf.1
  have hlH := hf'.1
  clear hf hf'
  have es : ∀ (W : World) (o : Obj), (W.alloc o).heap.size = W.heap.size + 1 := fun W o => by simp
  have hB0 : Below w.heap.size w ((w.alloc (.cells #[.slice none 0 0] 24)).alloc (.cells #[.bool false] 4)) := ((Below.refl _ _).alloc (Nat.le_refl _) _).alloc (by simp) _
  have hM0 : Mat ((w.alloc (.cells #[.slice none 0 0] 24)).alloc (.cells #[.bool false] 4)).heap.size ((w.alloc (.cells #[.slice none 0 0] 24)).alloc (.cells #[.bool false] 4)) a G := (hM.below hB0).more hB0.size
  have bL := (Boxed.new w 24 (.slice none 0 0)).alloc (.cells #[.bool false] 4)
  have bO := Boxed.new (w.alloc (.cells #[.slice none 0 0] 24)) 4 (.bool false)
  rw [es] at bO
  refine (callsIn_wide (n := 20)).1 ?_
  refine callsIn_of_wp_marks Try.func15 rfl trivial ?_ rfl
  simp only [Try.ntmps15, List.size_toArray, List.length_cons, List.length_nil, Nat.reduceAdd, Nat.reduceSub, Array.replicate_succ, Array.replicate_zero, List.push_toArray, List.append_toArray, List.nil_append, List.cons_append]
  gi_wp2_with fail
  (try refine ⟨hdd _, ?_⟩)
  gi_at_call 12
  refine (callsIn_wide.2 (implOk a c G _ hM0 HF.out)).mono ?_
  rintro e w1 ⟨rfl, hB1⟩
  have bL1 : Boxed w1 w.heap.size 24 (.slice none 0 0) := (hB1.block _ bL.lt).trans bL
  have bO1 : Boxed w1 (w.heap.size + 1) 4 (.bool false) := (hB1.block _ bO.lt).trans bO
  have hBw : Below w.heap.size w w1 := hB0.trans (hB1.mono hB0.size)
  have hM1 : Mat w1.heap.size w1 a' H := (hM'.below hBw).more hBw.size
  clear hB1 hM0 bL bO hB0
  rw [hg]
  gi_wp2_with fail
  (try refine ⟨hdd _, ?_⟩)
  gi_at_call 12
  refine (callsIn_wide.2 (implOk a' c' H _ hM1 HF'.out)).mono ?_
  rintro e w2 ⟨rfl, hB2⟩
  have bL2 : Boxed w2 w.heap.size 24 (.slice none 0 0) := (hB2.block _ bL1.lt).trans bL1
  have bO2 : Boxed w2 (w.heap.size + 1) 4 (.bool false) := (hB2.block _ bO1.lt).trans bO1
  have hBw2 : Below w.heap.size w w2 := hBw.trans (hB2.mono hBw.size)
  clear hB2 hM1 bL1 bO1 hBw
  rw [hg']
  have bLs := bL2.set (.slice none 0 0)
  have cL := bL2.cell
  have fL := bL2.frozen
  have cO := bO2.cell
  have fO := bO2.frozen
  gi_wp2_with fail
  have hws := hBw2.size
  have bO3 : Boxed (w2.setCell ⟨w.heap.size, 0, none⟩ (.slice none 0 0)) (w.heap.size + 1) 4 (.bool false) := (Below.heap_setCell w2 ⟨w.heap.size, 0, none⟩ (.slice none 0 0) (w.heap.size + 1) (by simp)).trans bO2
  have bL3 : Boxed ((w2.setCell ⟨w.heap.size, 0, none⟩ (.slice none 0 0)).setCell ⟨w.heap.size + 1, 0, none⟩ (.bool false)) w.heap.size 24 (.slice none 0 0) := (Below.heap_setCell _ ⟨w.heap.size + 1, 0, none⟩ (.bool false) w.heap.size (by simp)).trans bLs
  have cL3 := bL3.cell
  have cO3 := (bO3.set (.bool false)).cell
  refine ⟨.tuple #[.slice none 0 0, .bool false], ?_, none, 0, ⟨rfl, (hBw2.setCell (p := ⟨w.heap.size, 0, none⟩) (Nat.le_refl _) _).setCell (p := ⟨w.heap.size + 1, 0, none⟩) (by simp) _⟩, World.ownsRow_nil _ _ _ 1⟩
  simp [results, Try.f15, go_sem, cL3, cO3]

set_option maxRecDepth 100000 in
set_option maxHeartbeats 4000000 in
theorem implSameNo3 (a : Option Addr) (c : Nat) (a' : Option Addr) (c' : Nat) (G H : List (List Int)) (w : World) (hM : Mat w.heap.size w a G) (hM' : Mat w.heap.size w a' H) (hf : Fit G) (hf' : Fit H) (hg : gOk G = true) (hg' : gOk H = true) (hn : G.length ≠ H.length) :
    Calls Try.prog 15 #[.slice a G.length c, .slice a' H.length c'] w (SameOut none w) := by
  have hdd : ∀ k : Nat, (Fence.wide.depth.isSome = true → 1 ≤ k) := fun k h => by cases h
  have h1 : Fence.wide.fn 12 := trivial
  have HF := Lib.hid hf
  have HF' := Lib.hid hf'
  have hlG := hf.1
  have hlH := hf'.1
  clear hf hf'
  have es : ∀ (W : World) (o : Obj), (W.alloc o).heap.size = W.heap.size + 1 := fun W o => by simp
  have hB0 : Below w.heap.size w ((w.alloc (.cells #[.slice none 0 0] 24)).alloc (.cells #[.bool false] 4)) := ((Below.refl _ _).alloc (Nat.le_refl _) _).alloc (by simp) _
  have hM0 : Mat ((w.alloc (.cells #[.slice none 0 0] 24)).alloc (.cells #[.bool false] 4)).heap.size ((w.alloc (.cells #[.slice none 0 0] 24)).alloc (.cells #[.bool false] 4)) a G := (hM.below hB0).more hB0.size
  have bL := (Boxed.new w 24 (.slice none 0 0)).alloc (.cells #[.bool false] 4)
  have bO := Boxed.new (w.alloc (.cells #[.slice none 0 0] 24)) 4 (.bool false)
  rw [es] at bO
  refine (callsIn_wide (n := 20)).1 ?_
  refine callsIn_of_wp_marks Try.func15 rfl trivial ?_ rfl
  simp only [Try.ntmps15, List.size_toArray, List.length_cons, List.length_nil, Nat.reduceAdd, Nat.reduceSub, Array.replicate_succ, Array.replicate_zero, List.push_toArray, List.append_toArray, List.nil_append, List.cons_append]
  gi_wp2_with fail
  (try refine ⟨hdd _, ?_⟩)
  gi_at_call 12
  refine (callsIn_wide.2 (implOk a c G _ hM0 HF.out)).mono ?_
  rintro e w1 ⟨rfl, hB1⟩
  have bL1 : Boxed w1 w.heap.size 24 (.slice none 0 0) := (hB1.block _ bL.lt).trans bL
  have bO1 : Boxed w1 (w.heap.size + 1) 4 (.bool false) := (hB1.block _ bO.lt).trans bO
  have hBw : Below w.heap.size w w1 := hB0.trans (hB1.mono hB0.size)
  have hM1 : Mat w1.heap.size w1 a' H := (hM'.below hBw).more hBw.size
  clear hB1 hM0 bL bO hB0
  rw [hg]
  gi_wp2_with fail
  (try refine ⟨hdd _, ?_⟩)
  gi_at_call 12
  refine (callsIn_wide.2 (implOk a' c' H _ hM1 HF'.out)).mono ?_
  rintro e w2 ⟨rfl, hB2⟩
  have bL2 : Boxed w2 w.heap.size 24 (.slice none 0 0) := (hB2.block _ bL1.lt).trans bL1
  have bO2 : Boxed w2 (w.heap.size + 1) 4 (.bool false) := (hB2.block _ bO1.lt).trans bO1
  have hBw2 : Below w.heap.size w w2 := hBw.trans (hB2.mono hBw.size)
  clear hB2 hM1 bL1 bO1 hBw
  rw [hg']
  have bLs := bL2.set (.slice none 0 0)
  have cL := bL2.cell
  have fL := bL2.frozen
  have cO := bO2.cell
  have fO := bO2.frozen
  gi_wp2_with fail
  have hws := hBw2.size
  have bO3 : Boxed (w2.setCell ⟨w.heap.size, 0, none⟩ (.slice none 0 0)) (w.heap.size + 1) 4 (.bool false) := (Below.heap_setCell w2 ⟨w.heap.size, 0, none⟩ (.slice none 0 0) (w.heap.size + 1) (by simp)).trans bO2
  have bL3 : Boxed ((w2.setCell ⟨w.heap.size, 0, none⟩ (.slice none 0 0)).setCell ⟨w.heap.size + 1, 0, none⟩ (.bool false)) w.heap.size 24 (.slice none 0 0) := (Below.heap_setCell _ ⟨w.heap.size + 1, 0, none⟩ (.bool false) w.heap.size (by simp)).trans bLs
  have cL3 := bL3.cell
  have cO3 := (bO3.set (.bool false)).cell
  refine ⟨.tuple #[.slice none 0 0, .bool false], ?_, none, 0, ⟨rfl, (hBw2.setCell (p := ⟨w.heap.size, 0, none⟩) (Nat.le_refl _) _).setCell (p := ⟨w.heap.size + 1, 0, none⟩) (by simp) _⟩, World.ownsRow_nil _ _ _ 1⟩
  simp [results, Try.f15, go_sem, cL3, cO3]

set_option maxRecDepth 100000 in
set_option maxHeartbeats 4000000 in
theorem implSameNo4 (a : Option Addr) (c : Nat) (a' : Option Addr) (c' : Nat) (G H : List (List Int)) (w : World) (hM : Mat w.heap.size w a G) (hM' : Mat w.heap.size w a' H) (hf : Fit G) (hf' : Fit H) (hg : gOk G = true) (hg' : gOk H = true) (hn : G.length = H.length) (h5 : 5 < G.length) :
    Calls Try.prog 15 #[.slice a G.length c, .slice a' H.length c'] w (SameOut none w) := by
  have HN := Lib.hid hn
  clear hn
  have hdd : ∀ k : Nat, (Fence.wide.depth.isSome = true → 1 ≤ k) := fun k h => by cases h
  have h1 : Fence.wide.fn 12 := trivial
  have HF := Lib.hid hf
  have HF' := Lib.hid hf'
  have hlG := hf.1
  have hlH := hf'.1
  clear hf hf'
  have es : ∀ (W : World) (o : Obj), (W.alloc o).heap.size = W.heap.size + 1 := fun W o => by simp
  have hB0 : Below w.heap.size w ((w.alloc (.cells #[.slice none 0 0] 24)).alloc (.cells #[.bool false] 4)) := ((Below.refl _ _).alloc (Nat.le_refl _) _).alloc (by simp) _
  have hM0 : Mat ((w.alloc (.cells #[.slice none 0 0] 24)).alloc (.cells #[.bool false] 4)).heap.size ((w.alloc (.cells #[.slice none 0 0] 24)).alloc (.cells #[.bool false] 4)) a G := (hM.below hB0).more hB0.size
  have bL := (Boxed.new w 24 (.slice none 0 0)).alloc (.cells #[.bool false] 4)
  have bO := Boxed.new (w.alloc (.cells #[.slice none 0 0] 24)) 4 (.bool false)
  rw [es] at bO
  refine (callsIn_wide (n := 20)).1 ?_
  refine callsIn_of_wp_marks Try.func15 rfl trivial ?_ rfl
  simp only [Try.ntmps15, List.size_toArray, List.length_cons, List.length_nil, Nat.reduceAdd, Nat.reduceSub, Array.replicate_succ, Array.replicate_zero, List.push_toArray, List.append_toArray, List.nil_append, List.cons_append]
  gi_wp2_with fail
  (try refine ⟨hdd _, ?_⟩)
  gi_at_call 12
  refine (callsIn_wide.2 (implOk a c G _ hM0 HF.out)).mono ?_
  rintro e w1 ⟨rfl, hB1⟩
  have bL1 : Boxed w1 w.heap.size 24 (.slice none 0 0) := (hB1.block _ bL.lt).trans bL
  have bO1 : Boxed w1 (w.heap.size + 1) 4 (.bool false) := (hB1.block _ bO.lt).trans bO
  have hBw : Below w.heap.size w w1 := hB0.trans (hB1.mono hB0.size)
  have hM1 : Mat w1.heap.size w1 a' H := (hM'.below hBw).more hBw.size
  clear hB1 hM0 bL bO hB0
  rw [hg]
  gi_wp2_with fail
  (try refine ⟨hdd _, ?_⟩)
  gi_at_call 12
  refine (callsIn_wide.2 (implOk a' c' H _ hM1 HF'.out)).mono ?_
  rintro e w2 ⟨rfl, hB2⟩
  have bL2 : Boxed w2 w.heap.size 24 (.slice none 0 0) := (hB2.block _ bL1.lt).trans bL1
  have bO2 : Boxed w2 (w.heap.size + 1) 4 (.bool false) := (hB2.block _ bO1.lt).trans bO1
  have hBw2 : Below w.heap.size w w2 := hBw.trans (hB2.mono hBw.size)
  clear hB2 hM1 bL1 bO1 hBw
  rw [hg']
  have hn := HN.out
  have bLs := bL2.set (.slice none 0 0)
  have cL := bL2.cell
  have fL := bL2.frozen
  have cO := bO2.cell
  have fO := bO2.frozen
  gi_wp2_with fail
  have hws := hBw2.size
  have bO3 : Boxed (w2.setCell ⟨w.heap.size, 0, none⟩ (.slice none 0 0)) (w.heap.size + 1) 4 (.bool false) := (Below.heap_setCell w2 ⟨w.heap.size, 0, none⟩ (.slice none 0 0) (w.heap.size + 1) (by simp)).trans bO2
  have bL3 : Boxed ((w2.setCell ⟨w.heap.size, 0, none⟩ (.slice none 0 0)).setCell ⟨w.heap.size + 1, 0, none⟩ (.bool false)) w.heap.size 24 (.slice none 0 0) := (Below.heap_setCell _ ⟨w.heap.size + 1, 0, none⟩ (.bool false) w.heap.size (by simp)).trans bLs
  have cL3 := bL3.cell
  have cO3 := (bO3.set (.bool false)).cell
  refine ⟨.tuple #[.slice none 0 0, .bool false], ?_, none, 0, ⟨rfl, (hBw2.setCell (p := ⟨w.heap.size, 0, none⟩) (Nat.le_refl _) _).setCell (p := ⟨w.heap.size + 1, 0, none⟩) (by simp) _⟩, World.ownsRow_nil _ _ _ 1⟩
  simp [results, Try.f15, go_sem, cL3, cO3]

end Go.Proofs.Ytmohmecdhabapac
