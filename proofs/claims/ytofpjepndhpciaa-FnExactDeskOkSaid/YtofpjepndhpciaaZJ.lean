/-
  Several texts in one.
  impl.BesideOf.
  impl.BesideOf, walked.
  append(x, make([]int, m)...): the row grows by zeros.
  The rows of two graphs side by side.
-/
import Derived.Test.YtofpjepndhpciaaZG
import Derived.Deep.RegionHeld3
namespace Go.Proofs.Ytofpjepndhpciaa
open Go.RowKit Go.Shelf Go.Deep

/-- Two graphs side by side. -/
def besP (xss yss : List (List Int)) (i j : Nat) : Bool := if i < xss.length ∧ j < xss.length then arw xss i j else decide (xss.length ≤ i ∧ xss.length ≤ j) && arw yss (i - xss.length) (j - xss.length)
def besOk (xss yss : List (List Int)) : Bool := gOk xss && gOk yss && decide (xss.length + yss.length ≤ 9)
def besL (xss yss : List (List Int)) : List (List Int) := if besOk xss yss = true then rowsP (xss.length + yss.length) (besP xss yss) else []
theorem besL_yes {xss yss : List (List Int)} (h : besOk xss yss = true) : besL xss yss = rowsP (xss.length + yss.length) (besP xss yss) := if_pos h
theorem besL_no {xss yss : List (List Int)} (h : besOk xss yss = false) : besL xss yss = [] := if_neg (by rw [h]; decide)

theorem arrowI (n₀ : Nat) (a : Option Addr) (c : Nat) (xss : List (List Int)) (w : World) (hM : Mat n₀ w a xss) (hn : n₀ ≤ w.heap.size) (hG : Good xss) (i j : Nat) (hi : i < xss.length) (hj : j < xss.length) (x y : Int) (hx : x = (i : Int)) (hy : y = (j : Int)) :
    Calls Try.prog 51 #[.agg #[.slice a xss.length c], .int .i64 x, .int .i64 y] w fun e w' => e = .returned (.bool (arw xss i j)) ∧ w' = w.alloc (.cells #[.slice a xss.length c] 51) := by
  subst hx hy
  exact arrowC n₀ a c xss w hM hn hG i j hi hj

end Go.Proofs.Ytofpjepndhpciaa

namespace Go.Proofs.Ytofpjepndhpciaa
open Go.RowKit Go.Shelf Go.Deep

theorem nodesC (a : Option Addr) (m c : Nat) (w : World) : Calls Try.prog 52 #[.agg #[.slice a m c]] w fun e w' => e = .returned (.int .i64 m) ∧ w' = w.alloc (.cells #[.slice a m c] 51) :=
  callsIn_wide.1 (nodes_in Fence.wide 0 (fun _ => trivial) rfl a m c w)

/-- NEW ROWS, beside a yes or no. -/
def MadeB (zss : List (List Int)) (yes : Bool) (w : World) (e : Ending) (w' : World) : Prop := ∃ (a : Option Addr) (c : Nat), (e = .returned (.tuple #[.slice a zss.length c, .bool yes]) ∧ Below w.heap.size w w') ∧ OwnR w.heap.size w' a c zss

/-- New rows, seen from an elder world. -/
def MadeV (V : World) (m : Nat) (p : Nat → Nat → Bool) (e : Ending) (w' : World) : Prop :=
  ∃ (b : Nat) (G : Nat → Nat), e = .returned (.slice (some ⟨b, 0, none⟩) m m) ∧ Below V.heap.size V w' ∧ OwnM w' b G (rowsP m p) ∧ V.heap.size ≤ b ∧ (∀ i, i < m → V.heap.size ≤ G i) ∧ ∀ i j, G i = G j → i = j
theorem MadeM.seen {V W w' : World} {m : Nat} {p : Nat → Nat → Bool} {e : Ending} (h : MadeM W m p e w') (hb : Below V.heap.size V W) : MadeV V m p e w' := by
  obtain ⟨he, hB, hO⟩ := h
  have hs := hb.size
  exact ⟨W.heap.size + 1, fun i => W.heap.size + 3 + i, he, hb.trans (hB.mono hs), hO, by omega, fun i _ => by show V.heap.size ≤ W.heap.size + 3 + i; omega, fun i j h => by have h' : W.heap.size + 3 + i = W.heap.size + 3 + j := h; omega⟩

end Go.Proofs.Ytofpjepndhpciaa

namespace Go.Proofs.Ytofpjepndhpciaa
open Go.RowKit Go.Shelf Go.Deep

theorem zeroCells_int (m : Nat) : Builtin.zeroCells (Value.int .i64 0).cells m = (List.replicate m (Value.int .i64 0)).toArray := by
  apply Array.ext
  · simp [Builtin.zeroCells, Value.cells]
  · intro k h1 h2
    simp [Builtin.zeroCells, Value.cells, Nat.mod_one]

set_option maxRecDepth 100000 in
theorem run_append_zeros {P : Program} (w : World) (base : Nat) (t u ty e : TypeId) (i : TypeInfo) (bytes : Nat) (ht : P.underlying t = some (.slice e)) (hu : P.underlying u = some (.int .i64)) (hi : P.info? e = some i) (hz : i.zero = some (.int .i64 0))
    (hsize : i.size = 1) (hby : i.bytes = bytes) (g n cap : Nat) (xs : List Value) (hown : w.ownsRow base e 1 (.slice (some ⟨g, 0, none⟩) n cap) n xs)
    (m : Nat) (hm0 : 0 < m) (hm : m ≤ 1048576) (hn : n ≤ 1048576) (hb8 : bytes ≤ 8) (hbase : base ≤ w.heap.size) :
    ∃ g' cap' w', (Builtin.append_ #[t, u] ty #[.slice (some ⟨g, 0, none⟩) n cap, .int .i64 m]).run P w = .ok (.slice (some ⟨g', 0, none⟩) (n + m) cap') w' ∧
      w'.ownsRow base e 1 (.slice (some ⟨g', 0, none⟩) (n + m) cap') (n + m) (xs ++ List.replicate m (.int .i64 0)) ∧ w.grownBy w' (some g) := by
  subst hby
  have hl0 : xs.length = n := by simpa using hown.1
  have hlen : (xs ++ List.replicate m (Value.int .i64 0)).length = (n + m) * 1 := by rw [List.length_append, hl0, List.length_replicate]; omega
  have hw1 : IntKind.i64.wrap (m : Int) = (m : Int) := by simp [IntKind.wrap, IntKind.bits, IntKind.signed]; omega
  have hw2 : ¬ ((m : Int) < 0) := by omega
  have hw3 : ¬ ((281474976710656 : Int) < (m : Int) * (i.bytes : Int)) := by
    have h : m * i.bytes ≤ 1048576 * 8 := Nat.mul_le_mul hm hb8
    have h' : ((m * i.bytes : Nat) : Int) = (m : Int) * (i.bytes : Int) := Int.natCast_mul m i.bytes
    rw [← h']
    omega
  rcases hown.2 with ⟨h0, _⟩ | ⟨g0, cap0, cur, e0, hbg, hg, hnc, hcm, hcs, htake⟩
  · cases h0
  · cases e0
    have hcs' : cur.size = cap := by rw [hcs, Nat.mul_one]
    by_cases hroom : n + m ≤ cap
    · have hst := run_storeCells_at P g n e (List.replicate m (Value.int .i64 0)) 0 cur w hg (by rw [List.length_replicate, hcs']; omega) (fun v hv => by rw [List.eq_of_mem_replicate hv]; rfl)
      simp only [Nat.add_zero, List.length_replicate] at hst
      have hrun : (Builtin.append_ #[t, u] ty #[.slice (some ⟨g, 0, none⟩) n cap, .int .i64 m]).run P w = .ok (.slice (some ⟨g, 0, none⟩) (n + m) cap) (w.setRow g (cur.toList.take n ++ List.replicate m (Value.int .i64 0) ++ cur.toList.drop (n + m)).toArray) := by
        have h0 : m ≠ 0 := by omega
        simp [Builtin.append_, run_underlying ht, run_underlying hu, sizeOf, typeInfo, hi, hz, hsize, zeroValue, asInt, asIntOf, hw1, hw2, hw3, hroom, h0, zeroCells_int, Addr.add_lit, hst]
      refine ⟨g, cap, _, hrun, ⟨hlen, .inr ⟨g, cap, _, rfl, hbg, setRow_heap w g cur _ e _ hg, hroom, hcm, ?_, ?_⟩⟩, ⟨rfl, rfl, rfl, by simp, fun k _ hk => setRow_other w g k _ (fun e => hk (by rw [e]))⟩⟩
      · simp only [List.size_toArray, List.length_append, List.length_take, List.length_drop, Array.length_toList, List.length_replicate]
        omega
      · rw [Nat.mul_one] at htake
        rw [htake, ← hlen]
        exact List.take_left
    · have holds : ∀ j u, xs[j]? = some u → w.cell? ((⟨g, 0, none⟩ : Addr).add j) = some u := hown.cells (g := g) rfl
      have hge := grownCap_ge w (n + m) cap e
      have hcm2 : grownCap w (n + m) cap e ≤ maxLen := grownCap_le_maxLen w (n + m) cap e (by unfold maxLen; omega)
      have hrun : (Builtin.append_ #[t, u] ty #[.slice (some ⟨g, 0, none⟩) n cap, .int .i64 m]).run P w = .ok (.slice (some ⟨w.heap.size, 0, none⟩) (n + m) (grownCap w (n + m) cap e))
          (w.drew.alloc (.cells (xs.toArray ++ (List.replicate m (Value.int .i64 0)).toArray ++ Builtin.zeroCells (Value.int .i64 0).cells (grownCap w (n + m) cap e - (n + m))) e)) := by
        have h0 : m ≠ 0 := by omega
        have h63' : ¬ (9223372036854775807 < ((n : Int) + (m : Int))) := by omega
        have hfit : Builtin.nextslicecap (n + m) cap * i.bytes ≤ 281474976710656 := growslice_fits (by omega) (by
          have : (n + m) * i.bytes ≤ 2097152 * 8 := Nat.mul_le_mul (by omega) hb8
          omega)
        have h48' : ¬ (281474976710656 < Builtin.nextslicecap (n + m) cap * i.bytes) := by omega
        have hfo := run_firstCells_some (P := P) w.drew 1 n ⟨g, 0, none⟩ n cap xs (by rw [hl0, Nat.mul_one]) (by simpa using holds)
        simp [Builtin.append_, run_underlying ht, run_underlying hu, sizeOf, typeInfo, zeroValue, hi, hz, hsize, asInt, asIntOf, hw1, hw2, hw3, hroom, h0, h63', h48', Question.forced, hfo, newRow, grownCap, zeroCells_int]
      refine ⟨w.heap.size, _, _, hrun, ⟨hlen, .inr ⟨w.heap.size, _, _, rfl, hbase, heap_alloc_new w.drew _, hge, hcm2, ?_, ?_⟩⟩, ⟨rfl, rfl, rfl, by simp, fun k hk _ => heap_alloc_old w.drew _ k hk⟩⟩
      · simp only [Array.size_append, List.size_toArray, size_zeroCells, hl0, List.length_replicate, Value.cells]
        simp
        omega
      · simp only [Array.toList_append, List.append_assoc]
        rw [← List.append_assoc, ← hlen]
        exact List.take_left

end Go.Proofs.Ytofpjepndhpciaa

namespace Go.Proofs.Ytofpjepndhpciaa
open Go.RowKit Go.Shelf Go.Deep

theorem wpList_append_zeros {P : Program} (w : World) {ops : Array Oper} {rest : List Oper} {o : Oper} {a : Act} {Q : Exit → Act → World → Prop} (hgd : o.guard = none) (s x : Operand) (t u : TypeId)
    (hop : o.op = Op.call { callee := Callee.builtin Builtin.append, args := #[s, x], argTypes := #[t, u] })
    (base : Nat) (e : TypeId) (i : TypeInfo) (bytes : Nat) (ht : P.underlying t = some (.slice e)) (hu : P.underlying u = some (.int .i64)) (hi : P.info? e = some i) (hz : i.zero = some (.int .i64 0))
    (hsize : i.size = 1) (hby : i.bytes = bytes) (g n cap : Nat) (xs : List Value) (hs : a.eval s = .slice (some ⟨g, 0, none⟩) n cap) (hown : w.ownsRow base e 1 (.slice (some ⟨g, 0, none⟩) n cap) n xs)
    (m : Nat) (hx : a.eval x = .int .i64 m) (hm0 : 0 < m) (hm : m ≤ 1048576) (hn : n ≤ 1048576) (hb8 : bytes ≤ 8) (hbase : base ≤ w.heap.size)
    (hK : ∀ g' cap' w', w'.ownsRow base e 1 (.slice (some ⟨g', 0, none⟩) (n + m) cap') (n + m) (xs ++ List.replicate m (.int .i64 0)) → w.grownBy w' (some g) → wpList P ops Q rest (a.put o.dst (.slice (some ⟨g', 0, none⟩) (n + m) cap')) w') :
    wpList P ops Q (o :: rest) a w := by
  refine wpList_plain hgd fun K hK' => ?_
  obtain ⟨g', cap', w', hrun, r1, r2⟩ := run_append_zeros (P := P) w base t u o.type e i bytes ht hu hi hz hsize hby g n cap xs hown m hm0 hm hn hb8 hbase
  unfold Oper.wp
  simp [execOp, hop, resolve, invoke, builtin, hs, hx, hrun, Result.andThen]
  exact hK' _ _ (hK g' cap' w' r1 r2)

/-- The rows of the first graph, and of the second one. -/
def bRow1 (xss yss : List (List Int)) (k : Nat) : List Int := (xss[k]?.getD []) ++ List.replicate yss.length 0
def bRow2 (xss yss : List (List Int)) (k : Nat) : List Int := List.replicate xss.length 0 ++ (yss[k]?.getD [])
def bRows1 (xss yss : List (List Int)) (k : Nat) : List (List Int) := (List.range k).map (bRow1 xss yss)
def bRows2 (xss yss : List (List Int)) (k : Nat) : List (List Int) := bRows1 xss yss xss.length ++ (List.range k).map (bRow2 xss yss)
theorem bRows1_succ (xss yss : List (List Int)) (k : Nat) : bRows1 xss yss (k + 1) = bRows1 xss yss k ++ [bRow1 xss yss k] := by simp [bRows1, List.range_succ]
theorem bRows2_succ (xss yss : List (List Int)) (k : Nat) : bRows2 xss yss (k + 1) = bRows2 xss yss k ++ [bRow2 xss yss k] := by simp [bRows2, List.range_succ]
theorem bRows1_length (xss yss : List (List Int)) (k : Nat) : (bRows1 xss yss k).length = k := by simp [bRows1]
theorem bRows2_length (xss yss : List (List Int)) (k : Nat) : (bRows2 xss yss k).length = xss.length + k := by simp [bRows2, bRows1]
theorem bRows2_zero (xss yss : List (List Int)) : bRows2 xss yss 0 = bRows1 xss yss xss.length := by simp [bRows2]

theorem good_ent {xss : List (List Int)} (hG : Good xss) {i j : Nat} (hi : i < xss.length) (hj : j < xss.length) : ent xss i j = if arw xss i j = true then 1 else 0 := by
  have h := (good_iff_ent hG.1 hG.2.1 (fun i xs h => hG.len h)).1 hG (⟨i, hi⟩, ⟨j, hj⟩)
  simp only at h
  unfold arw
  rcases h with e | e <;> simp [e]
theorem good_at {xss : List (List Int)} (hG : Good xss) {i j : Nat} {xs : List Int} (hx : xss[i]? = some xs) (hj : j < xss.length) : xs[j]? = some (if arw xss i j = true then 1 else 0) := by
  have hi : i < xss.length := (List.getElem?_eq_some_iff.1 hx).1
  have hjl : j < xs.length := by rw [hG.len hx]; exact hj
  rw [← good_ent hG hi hj, ent_eq hx (List.getElem?_eq_getElem hjl)]
  exact List.getElem?_eq_getElem hjl

theorem bRows_all {xss yss : List (List Int)} (hG : Good xss) (hG' : Good yss) : bRows2 xss yss yss.length = rowsP (xss.length + yss.length) (besP xss yss) := by
  apply List.ext_getElem?
  intro i
  by_cases hi : i < xss.length + yss.length
  · rw [rowsP_get hi]
    by_cases h1 : i < xss.length
    · have e : (bRows2 xss yss yss.length)[i]? = some (bRow1 xss yss i) := by
        rw [bRows2, List.getElem?_append_left (by rw [bRows1_length]; exact h1)]
        simp [bRows1, h1]
      rw [e]
      congr 1
      have hX := List.getElem?_eq_getElem h1
      have hl := hG.len hX
      apply List.ext_getElem?
      intro j
      rw [bRow1, hX, Option.getD_some]
      by_cases hj : j < xss.length
      · rw [List.getElem?_append_left (by rw [hl]; exact hj), good_at hG hX hj]
        simp [besP, h1, hj, show j < xss.length + yss.length by omega]
      · by_cases hj2 : j < xss.length + yss.length
        · rw [List.getElem?_append_right (by rw [hl]; omega), List.getElem?_replicate, if_pos (by rw [hl]; omega)]
          simp [besP, h1, hj, hj2]
          intro h; omega
        · rw [List.getElem?_eq_none (by rw [List.length_append, hl, List.length_replicate]; omega), List.getElem?_eq_none (by simp; omega)]
    · have e : (bRows2 xss yss yss.length)[i]? = some (bRow2 xss yss (i - xss.length)) := by
        rw [bRows2, List.getElem?_append_right (by rw [bRows1_length]; omega), bRows1_length]
        simp [show i - xss.length < yss.length by omega]
      rw [e]
      congr 1
      have hX := List.getElem?_eq_getElem (show i - xss.length < yss.length by omega)
      have hl := hG'.len hX
      apply List.ext_getElem?
      intro j
      rw [bRow2, hX, Option.getD_some]
      by_cases hj : j < xss.length
      · rw [List.getElem?_append_left (by rw [List.length_replicate]; exact hj), List.getElem?_replicate, if_pos hj]
        simp [besP, h1, show j < xss.length + yss.length by omega]
        intro _ h; omega
      · by_cases hj2 : j < xss.length + yss.length
        · rw [List.getElem?_append_right (by rw [List.length_replicate]; omega), List.length_replicate, good_at hG' hX (by omega)]
          simp [besP, h1, hj2, show xss.length ≤ i by omega, show xss.length ≤ j by omega]
        · rw [List.getElem?_eq_none (by rw [List.length_append, hl, List.length_replicate]; omega), List.getElem?_eq_none (by simp; omega)]
  · rw [List.getElem?_eq_none (by rw [bRows2_length]; omega), List.getElem?_eq_none (by rw [rowsP_length]; omega)]

end Go.Proofs.Ytofpjepndhpciaa
