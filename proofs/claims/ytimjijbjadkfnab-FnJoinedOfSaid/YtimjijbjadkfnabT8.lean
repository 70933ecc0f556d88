/-
  slices.Grow of a nil slice, slices.Concat of two lists; impl.JoinedOf, walked.
-/
import Derived.Test.YtimjijbjadkfnabT7
import Derived.Test.YtimjijbjadkfnabW0
import Derived.Test.YtimjijbjadkfnabZJ
import Derived.Test.YtimjijbjadkfnabZN
namespace Go.Proofs.Ytimjijbjadkfnab
open Go.RowKit Go.Shelf Go.Deep

set_option maxRecDepth 100000 in
theorem run_append_zeros_nil {P : Program} (w : World) (t u ty e : TypeId) (i : TypeInfo) (bytes : Nat) (ht : P.underlying t = some (.slice e)) (hu : P.underlying u = some (.int .i64)) (hi : P.info? e = some i) (hz : i.zero = some (.int .i64 0))
    (hsize : i.size = 1) (hby : i.bytes = bytes) (m : Nat) (hm0 : 0 < m) (hm : m ≤ 1048576) (hb8 : bytes ≤ 8) :
    ∃ cap' w', (Builtin.append_ #[t, u] ty #[.slice none 0 0, .int .i64 m]).run P w = .ok (.slice (some ⟨w.heap.size, 0, none⟩) m cap') w' ∧
      w'.ownsRow w.heap.size e 1 (.slice (some ⟨w.heap.size, 0, none⟩) 0 cap') 0 [] ∧ w.grownBy w' none := by
  subst hby
  have hw1 : IntKind.i64.wrap (m : Int) = (m : Int) := by simp [IntKind.wrap, IntKind.bits, IntKind.signed]; omega
  have hw2 : ¬ ((m : Int) < 0) := by omega
  have hw3 : ¬ ((281474976710656 : Int) < (m : Int) * (i.bytes : Int)) := by
    have h : m * i.bytes ≤ 1048576 * 8 := Nat.mul_le_mul hm hb8
    have h' : ((m * i.bytes : Nat) : Int) = (m : Int) * (i.bytes : Int) := Int.natCast_mul m i.bytes
    rw [← h']
    omega
  have h0 : m ≠ 0 := by omega
  have hcm2 : grownCap w m 0 e ≤ maxLen := grownCap_le_maxLen w m 0 e (by unfold maxLen; omega)
  have h63' : ¬ (9223372036854775807 < (m : Int)) := by omega
  have hfit : Builtin.nextslicecap m 0 * i.bytes ≤ 281474976710656 := growslice_fits (by omega) (by
    have : m * i.bytes ≤ 1048576 * 8 := Nat.mul_le_mul (by omega) hb8
    omega)
  have h48' : ¬ (281474976710656 < Builtin.nextslicecap m 0 * i.bytes) := by omega
  have hfo : (Builtin.firstCells 1 0 (.slice none 0 0)).run P w.drew = .ok #[] w.drew := rfl
  have hrun : (Builtin.append_ #[t, u] ty #[.slice none 0 0, .int .i64 m]).run P w = .ok (.slice (some ⟨w.heap.size, 0, none⟩) m (grownCap w m 0 e))
      (w.drew.alloc (.cells ((List.replicate m (Value.int .i64 0)).toArray ++ Builtin.zeroCells (Value.int .i64 0).cells (grownCap w m 0 e - m)) e)) := by
    simp [Builtin.append_, run_underlying ht, run_underlying hu, sizeOf, typeInfo, zeroValue, hi, hz, hsize, asInt, asIntOf, hw1, hw2, hw3, h0, h63', h48', Question.forced, newRow, grownCap, zeroCells_int, hfo]
  refine ⟨_, _, hrun, ⟨rfl, .inr ⟨w.heap.size, _, _, rfl, Nat.le_refl _, heap_alloc_new w.drew _, Nat.zero_le _, hcm2, ?_, by simp⟩⟩, ⟨rfl, rfl, rfl, by simp, fun k hk _ => heap_alloc_old w.drew _ k hk⟩⟩
  have := grownCap_ge w m 0 e
  simp only [Array.size_append, List.size_toArray, size_zeroCells, List.length_replicate, Value.cells]
  simp
  omega

theorem wpList_append_zeros_nil {P : Program} (w : World) {ops : Array Oper} {rest : List Oper} {o : Oper} {a : Act} {Q : Exit → Act → World → Prop} (hgd : o.guard = none) (s x : Operand) (t u : TypeId)
    (hop : o.op = Op.call { callee := Callee.builtin Builtin.append, args := #[s, x], argTypes := #[t, u] })
    (e : TypeId) (i : TypeInfo) (bytes : Nat) (ht : P.underlying t = some (.slice e)) (hu : P.underlying u = some (.int .i64)) (hi : P.info? e = some i) (hz : i.zero = some (.int .i64 0))
    (hsize : i.size = 1) (hby : i.bytes = bytes) (hs : a.eval s = .slice none 0 0) (m : Nat) (hx : a.eval x = .int .i64 m) (hm0 : 0 < m) (hm : m ≤ 1048576) (hb8 : bytes ≤ 8)
    (hK : ∀ cap' w', w'.ownsRow w.heap.size e 1 (.slice (some ⟨w.heap.size, 0, none⟩) 0 cap') 0 [] → w.grownBy w' none → wpList P ops Q rest (a.put o.dst (.slice (some ⟨w.heap.size, 0, none⟩) m cap')) w') :
    wpList P ops Q (o :: rest) a w := by
  refine wpList_plain hgd fun K hK' => ?_
  obtain ⟨cap', w', hrun, r1, r2⟩ := run_append_zeros_nil (P := P) w t u o.type e i bytes ht hu hi hz hsize hby m hm0 hm hb8
  unfold Oper.wp
  simp [execOp, hop, resolve, invoke, builtin, hs, hx, hrun, Result.andThen]
  exact hK' _ _ (hK cap' w' r1 r2)

set_option maxRecDepth 100000 in
set_option maxHeartbeats 1000000 in
/-- slices.Grow of a nil slice. -/
theorem grow_nil (m : Nat) (h1 : 1 ≤ m) (h9 : m ≤ 100) (w : World) :
    Calls Try.prog 57 #[.slice none 0 0, .int .i64 m] w fun e w' => ∃ cap, e = .returned (.slice (some ⟨w.heap.size, 0, none⟩) 0 cap) ∧ Below w.heap.size w w' ∧ w'.ownsRow w.heap.size 3 1 (.slice (some ⟨w.heap.size, 0, none⟩) 0 cap) 0 [] := by
  obtain ⟨i1, hj, hy0, hy1, hy2⟩ := info_parts infoInt
  have m1 : (1 : Int) ≤ (m : Int) := by omega
  have m2 : (m : Int) ≤ 100 := by omega
  go_enter Try.func57, Try.ntmps57
  go_wp2_with (at_builtin; refine wpList_append_zeros_nil _ rfl _ _ 24 3 rfl 3 i1 8 Try.underlying24 Try.underlying3 hj hy0 hy1 hy2 rfl m rfl (by omega) (by omega) (by omega) ?_; intro cap w2 hown hg; have hB : Below w.heap.size w w2 := (Below.refl _ w).grown hg (Nat.le_refl _) (fun r e => by cases e); have HOW := Lib.hid hown; clear hown hg)
  go_ret
  exact ⟨cap, rfl, hB, HOW.out⟩

/-- The first k of two lists, one behind the other. -/
def both (f e : List Int) : Nat → List Int
  | 0 => []
  | 1 => f
  | _ => f ++ e

set_option maxRecDepth 100000 in
set_option maxHeartbeats 4000000 in
/-- slices.Concat of two lists that hold something. -/
theorem concat_two (n₀ p : Nat) (a a' : Option Addr) (c c' : Nat) (f e : List Int) (w : World) (hI : Ints n₀ w a f) (hI' : Ints n₀ w a' e) (hn : n₀ ≤ w.heap.size) (h0 : w.cell? ⟨p, 0, none⟩ = some (.slice a f.length c)) (h1 : w.cell? ⟨p, 1, none⟩ = some (.slice a' e.length c'))
    (hp : p < w.heap.size) (hf1 : 1 ≤ f.length) (he1 : 1 ≤ e.length) (h9 : f.length + e.length ≤ 9) :
    Calls Try.prog 35 #[.slice (some ⟨p, 0, none⟩) 2 2] w fun en w' => ∃ g cap, en = .returned (.slice (some ⟨g, 0, none⟩) (f.length + e.length) cap) ∧ Below w.heap.size w w' ∧ w'.ownsRow w.heap.size 3 1 (.slice (some ⟨g, 0, none⟩) (f.length + e.length) cap) (f.length + e.length) ((f ++ e).map (Value.int .i64)) := by
  obtain ⟨i1, hj, hy0, hy1, hy2⟩ := info_parts infoInt
  have hone : ∀ (zs : List Int), ∀ u ∈ zs.map (Value.int .i64), u.oneCell' = true := fun zs u hu => by obtain ⟨x, _, rfl⟩ := List.mem_map.1 hu; rfl
  have HONE := Lib.hid hone
  obtain ⟨b3, o3, _, rfl, hb3, -, -⟩ := hI.at_ (k := 0) (by omega)
  obtain ⟨b4, o4, _, rfl, hb4, -, -⟩ := hI'.at_ (k := 0) (by omega)
  have HI := Lib.hid hI
  have HI' := Lib.hid hI'
  have H0 := Lib.hid h0
  have H1 := Lib.hid h1
  clear hone hI hI'
  go_enter Try.func35, Try.ntmps35
  go_wp2_with fail
  go_loop [3, 11] (fun r i => ∃ k s : Nat, k ≤ 2 ∧ i = .int .i64 k ∧ r = .int .i64 s ∧ (k = 0 → s = 0) ∧ (k = 1 → s = f.length) ∧ (k = 2 → s = f.length + e.length)) (fun _ i => 2 - (intOf i).toNat)
  case atStart => exact ⟨0, 0, by omega, rfl, rfl, fun _ => rfl, fun h => by omega, fun h => by omega⟩
  case round =>
    obtain ⟨k, s, hk, rfl, rfl, s0, s1, s2⟩ := hrel
    rcases (by omega : k = 0 ∨ k = 1 ∨ k = 2) with rfl | rfl | rfl
    · obtain rfl : s = 0 := s0 rfl
      clear s0 s1 s2
      go_wp2_with fail
      go_round
      case rel => exact ⟨1, f.length, by omega, rfl, by simp, fun h => by omega, fun _ => rfl, fun h => by omega⟩
      case measure => simp [intOf]
    · obtain rfl : s = f.length := s1 rfl
      clear s0 s1 s2
      go_wp2_with fail
      go_round
      case rel => exact ⟨2, f.length + e.length, by omega, rfl, by simp, fun h => by omega, fun h => by omega, fun _ => rfl⟩
      case measure => simp [intOf]
    · obtain rfl : s = f.length + e.length := s2 rfl
      clear s0 s1 s2 h0 h1
      go_wp2_with fail
      refine (grow_nil _ (by omega) (by omega) _).mono ?_
      rintro ee w1 ⟨cap1, rfl, hB1, hown1⟩
      have HO1 := Lib.hid hown1
      clear hown1
      go_wp2_with fail
      go_loopw [6, 27] (fun v i wr => ∃ (k n g cap : Nat), k ≤ 2 ∧ i = .int .i64 k ∧ v = .slice (some ⟨g, 0, none⟩) n cap ∧ Hid (n = (both f e k).length ∧ wr.ownsRow w.heap.size 3 1 (.slice (some ⟨g, 0, none⟩) n cap) n ((both f e k).map (Value.int .i64))) ∧ Below w.heap.size w wr) (fun _ i _ => 2 - (intOf i).toNat)
      case atStart => exact ⟨0, 0, _, _, by omega, rfl, rfl, Lib.hid ⟨rfl, HO1.out⟩, hB1⟩
      case round =>
        obtain ⟨k, n, g, cap, hk, rfl, rfl, HR, hB⟩ := hrel
        have hc0 := (hB.cell (p := ⟨p, 0, none⟩) hp).trans H0.out
        have hc1 := (hB.cell (p := ⟨p, 1, none⟩) hp).trans H1.out
        have hlg := (HR.out.2.lt g rfl).1
        have hws := hB.size
        rcases (by omega : k = 0 ∨ k = 1 ∨ k = 2) with rfl | rfl | rfl
        · obtain rfl : n = 0 := HR.out.1
          have hown := HR.out.2
          have hIr := HI.out.below (hB.mono hn)
          go_wp2_with (at_builtin; go_must (refine wpList_append_own _ rfl _ _ 24 rfl w.heap.size 3 i1 (.int .i64 0) 1 8 Try.underlying24 hj hy0 hy1 hy2 rfl (by decide) (.slice (some ⟨g, 0, none⟩) 0 cap) 0 [] rfl hown ⟨b3, o3, none⟩ f.length c (f.map (Value.int .i64)) rfl (by simp) (ints_news hIr) (HONE.out f) (by unfold maxLen; omega) (by omega) (by omega) ?_); intro v4 w4 hown4 hgrow4 _; rw [Nat.zero_add, List.nil_append] at hown4; obtain ⟨g4, cap4, rfl⟩ := own_pos hown4 hf1; have hB4 : Below w.heap.size w w4 := hB.grown hgrow4 hws (fun r e => by have e' : some g = some r := e; cases e'; exact hlg); have HO4 := Lib.hid hown4; clear hgrow4 hown hown4)
          go_roundw
          case rel => exact ⟨1, f.length, g4, cap4, by omega, rfl, rfl, Lib.hid ⟨rfl, HO4.out⟩, hB4⟩
          case measure => simp [intOf]
        · obtain rfl : n = f.length := HR.out.1
          have hown : wr.ownsRow w.heap.size 3 1 (.slice (some ⟨g, 0, none⟩) f.length cap) f.length (f.map (Value.int .i64)) := HR.out.2
          have hIr := HI'.out.below (hB.mono hn)
          go_wp2_with (at_builtin; go_must (refine wpList_append_own _ rfl _ _ 24 rfl w.heap.size 3 i1 (.int .i64 0) 1 8 Try.underlying24 hj hy0 hy1 hy2 rfl (by decide) (.slice (some ⟨g, 0, none⟩) f.length cap) f.length (f.map (Value.int .i64)) rfl hown ⟨b4, o4, none⟩ e.length c' (e.map (Value.int .i64)) rfl (by simp) (ints_news hIr) (HONE.out e) (by unfold maxLen; omega) (by omega) (by omega) ?_); intro v4 w4 hown4 hgrow4 _; rw [← List.map_append] at hown4; obtain ⟨g4, cap4, rfl⟩ := own_pos hown4 (by omega); have hB4 : Below w.heap.size w w4 := hB.grown hgrow4 hws (fun r e => by have e' : some g = some r := e; cases e'; exact hlg); have HO4 := Lib.hid hown4; clear hgrow4 hown hown4)
          go_roundw
          case rel => exact ⟨2, f.length + e.length, g4, cap4, by omega, rfl, rfl, Lib.hid ⟨by simp [both], HO4.out⟩, hB4⟩
          case measure => simp [intOf]
        · obtain rfl : n = f.length + e.length := HR.out.1.trans (by simp [both])
          have HO2 := Lib.hid HR.out.2
          clear HR hc0 hc1
          go_wp2_with fail
          go_ret
          exact ⟨g, cap, rfl, hB, HO2.out⟩

theorem cells_two (w : World) (x y : Value) (t : TypeId) : (w.alloc (.cells #[x, y] t)).cell? ⟨w.heap.size, 0, none⟩ = some x ∧ (w.alloc (.cells #[x, y] t)).cell? ⟨w.heap.size, 1, none⟩ = some y := by constructor <;> simp

set_option maxRecDepth 100000 in
set_option maxHeartbeats 4000000 in
theorem implJoined (a a' a'' a3 a4 : Option Addr) (c c' c'' c3 c4 : Nat) (G H K : List (List Int)) (f e : List Int) (w : World) (hM : Mat w.heap.size w a G) (hM' : Mat w.heap.size w a' H) (hM'' : Mat w.heap.size w a'' K) (hI : Ints w.heap.size w a3 f) (hI' : Ints w.heap.size w a4 e)
    (hf : Fit G) (hf' : Fit H) (hf'' : Fit K) (hl : f.length ≤ 1048576) (hl' : e.length ≤ 1048576) :
    Calls Try.prog 10 #[.slice a G.length c, .slice a' H.length c', .slice a'' K.length c'', .slice a3 f.length c3, .slice a4 e.length c4] w (MadeOwn (joiI G H K f e) w) := by
  have hBes := implBeside a a' c c' G H w hM hM' hf hf'
  have HF := Lib.hid hf
  have HF' := Lib.hid hf'
  have HF'' := Lib.hid hf''
  obtain ⟨o, ho⟩ : ∃ o, besOk G H = o := ⟨_, rfl⟩
  obtain ⟨x, hx⟩ : ∃ x, mapOkI G K f = x := ⟨_, rfl⟩
  obtain ⟨y, hy⟩ : ∃ y, mapOkI H K e = y := ⟨_, rfl⟩
  have HO := Lib.hid ho
  have HX := Lib.hid hx
  have HY := Lib.hid hy
  obtain ⟨zs, HZ⟩ : ∃ zs, Hid (joiI G H K f e = zs) := ⟨_, rfl⟩
  rw [ho] at hBes
  rw [HZ.out]
  have HBes := Lib.hid hBes
  clear hx hy hBes ho hf hf' hf''
  go_enter Try.func10, Try.ntmps10
  go_wp2_with fail
  refine HBes.out.mono ?_
  rintro ee w1 ⟨b1, d1, ⟨rfl, hB1⟩, -⟩
  have hz1 := hB1.size
  have hM1 := (hM.below hB1).more hz1
  have hM1' := (hM'.below hB1).more hz1
  have hM1'' := (hM''.below hB1).more hz1
  have hI1 := (hI.below hB1).more hz1
  have hI1' := (hI'.below hB1).more hz1
  clear hM hM' hM'' hI hI'
  cases o with
  | false =>
    have h0 : zs = [] := HZ.out.symm.trans (joiI_no fun h => by have h1 := h.1; rw [HO.out] at h1; cases h1)
    subst h0
    go_wp2_with fail
    go_ret
    exact ⟨none, 0, ⟨rfl, hB1⟩, World.ownsRow_nil _ _ _ _⟩
  | true =>
    go_wp2_with fail
    refine (implMapOk _ _ _ _ _ _ _ _ _ _ hM1 hM1'' hI1 HF.out HF''.out hl).mono ?_
    rw [HX.out]
    rintro ee w2 ⟨rfl, hB2⟩
    have hB02 := hB1.trans (hB2.mono hz1)
    have hz12 := hB2.size
    have hM2' := (hM1'.below hB2).more hz12
    have hM2'' := (hM1''.below hB2).more hz12
    have hI2 := (hI1.below hB2).more hz12
    have hI2' := (hI1'.below hB2).more hz12
    have hz2 := hB02.size
    clear hM1 hM1' hM1'' hI1 hI1' hB2
    cases x with
    | false =>
      have h0 : zs = [] := HZ.out.symm.trans (joiI_no fun h => by have h1 := h.2.1; rw [HX.out] at h1; cases h1)
      subst h0
      go_wp2_with fail
      go_ret
      exact ⟨none, 0, ⟨rfl, hB02⟩, World.ownsRow_nil _ _ _ _⟩
    | true =>
      go_wp2_with fail
      refine (implMapOk _ _ _ _ _ _ _ _ _ _ hM2' hM2'' hI2' HF'.out HF''.out hl').mono ?_
      rw [HY.out]
      rintro ee w3 ⟨rfl, hB3⟩
      have hB03 := hB02.trans (hB3.mono hz2)
      have hz23 := hB3.size
      have hI3 := (hI2.below hB3).more hz23
      have hI3' := (hI2'.below hB3).more hz23
      have hz3 := hB03.size
      clear hM2' hM2'' hI2 hI2' hB3
      cases y with
      | false =>
        have h0 : zs = [] := HZ.out.symm.trans (joiI_no fun h => by have h1 := h.2.2; rw [HY.out] at h1; cases h1)
        subst h0
        go_wp2_with fail
        go_ret
        exact ⟨none, 0, ⟨rfl, hB03⟩, World.ownsRow_nil _ _ _ _⟩
      | true =>
        have hsm := joi_small ⟨HO.out, HX.out, HY.out⟩
        have hzs : zs = f ++ e := HZ.out.symm.trans (joiI_yes ⟨HO.out, HX.out, HY.out⟩)
        have HZS := Lib.hid hzs
        clear hzs
        obtain ⟨hf1, he1, h9⟩ := hsm
        obtain ⟨q, hq⟩ : ∃ q, q = Obj.cells #[.slice a3 f.length c3, .slice a4 e.length c4] 24 := ⟨_, rfl⟩
        have hBq : Below w3.heap.size w3 (w3.alloc q) := (Below.refl _ w3).alloc (Nat.le_refl _) q
        have hIa := hI3.below hBq
        have hIb := hI3'.below hBq
        obtain ⟨c0, c1⟩ := cells_two w3 (.slice a3 f.length c3) (.slice a4 e.length c4) 24
        rw [← hq] at c0 c1
        have hszq : w3.heap.size < (w3.alloc q).heap.size := by simp
        have hcat := concat_two w3.heap.size w3.heap.size a3 a4 c3 c4 f e (w3.alloc q) hIa hIb (Nat.le_of_lt hszq) c0 c1 hszq hf1 he1 h9
        subst hq
        have HC := Lib.hid hcat
        have HQ := Lib.hid hBq
        clear hcat hIa hIb c0 c1 hI3 hI3' hBq hszq
        go_wp2_with fail
        refine HC.out.mono ?_
        rintro ee w4 ⟨g, cap, rfl, hB4, hown⟩
        have hB34 := HQ.out.trans (hB4.mono (by simp))
        have HO4 : Hid (w4.ownsRow w.heap.size 3 1 (.slice (some ⟨g, 0, none⟩) (f.length + e.length) cap) (f.length + e.length) ((f ++ e).map (Value.int .i64))) := Lib.hid (Joins.ownsRow_le hown (by simp; omega))
        have HB4 := Lib.hid (hB03.trans (hB34.mono hz3))
        clear hB4 hB34 hown
        go_wp2_with fail
        go_ret
        refine ⟨some ⟨g, 0, none⟩, cap, ⟨by rw [HZS.out, List.length_append]; rfl, HB4.out⟩, ?_⟩
        rw [HZS.out, List.length_append]
        exact HO4.out

end Go.Proofs.Ytimjijbjadkfnab
