/-
  The rows of two graphs side by side.
-/
import Derived.Test.YtmohmecdhabapabJ2
import Derived.Test.YtmohmecdhabapabJ3
namespace Go.Proofs.Ytmohmecdhabapab
open Go.RowKit Go.Shelf Go.Deep

theorem wpList_append_zeros {P : Program} (w : World) {ops : Array Oper} {rest : List Oper} {o : Oper} {a : Act} {Q : Exit → Act → World → Prop} (hgd : o.guard = none) (s x : Operand) (t u : TypeId)
    (hop : o.op = Op.call { callee := Callee.builtin Builtin.append, args := #[s, x], argTypes := #[t, u] })
    (base : Nat) (e : TypeId) (i : TypeInfo) (bytes : Nat) (ht : P.underlying t = some (.slice e)) (hu : P.underlying u = some (.int .i64)) (hi : P.info? e = some i) (hz : i.zero = some (.int .i64 0))
    (hsize : i.size = 1) (hby : i.bytes = bytes) (g n cap : Nat) (xs : List Value) (hs : a.eval s = .slice (some ⟨g, 0, none⟩) n cap) (hown : w.ownsRow base e 1 (.slice (some ⟨g, 0, none⟩) n cap) n xs)
    (m : Nat) (hx : a.eval x = .int .i64 m) (hm0 : 0 < m) (hm : m ≤ 1048576) (hn : n ≤ 1048576) (hb8 : bytes ≤ 8) (hbase : base ≤ w.heap.size)
    (hK : ∀ g' cap' w', w'.ownsRow base e 1 (.slice (some ⟨g', 0, none⟩) (n + m) cap') (n + m) (xs ++ List.replicate m (.int .i64 0)) → w.grownBy w' (some g) → wpList P ops Q rest (a.put o.dst (.slice (some ⟨g', 0, none⟩) (n + m) cap')) w') :
    wpList P ops Q (o :: rest) a w := by
  refine wpList_plain hgd fun K hK' => ?_
  obtain ⟨g', cap', w', hrun, r1, r2⟩ := run_append_zeros (P := P) w base t u o.type e i bytes ht hu hi hz hsize hby g n cap xs hown m hm0 hm hn hb8 hbase
  unfold Oper.wp
  simp [execOp, hop, resolve, invoke, builtin, hs, hx, hrun, Result.andThen]
  exact hK' _ _ (hK g' cap' w' r1 r2)

/-- The rows of the first graph, and of the second one. -/
def bRow1 (xss yss : List (List Int)) (k : Nat) : List Int := (xss[k]?.getD []) ++ List.replicate yss.length 0
def bRow2 (xss yss : List (List Int)) (k : Nat) : List Int := List.replicate xss.length 0 ++ (yss[k]?.getD [])
def bRows1 (xss yss : List (List Int)) (k : Nat) : List (List Int) := (List.range k).map (bRow1 xss yss)
def bRows2 (xss yss : List (List Int)) (k : Nat) : List (List Int) := bRows1 xss yss xss.length ++ (List.range k).map (bRow2 xss yss)
theorem bRows1_succ (xss yss : List (List Int)) (k : Nat) : bRows1 xss yss (k + 1) = bRows1 xss yss k ++ [bRow1 xss yss k] := by simp [bRows1, List.range_succ]
theorem bRows2_succ (xss yss : List (List Int)) (k : Nat) : bRows2 xss yss (k + 1) = bRows2 xss yss k ++ [bRow2 xss yss k] := by simp [bRows2, List.range_succ]
theorem bRows1_length (xss yss : List (List Int)) (k : Nat) : (bRows1 xss yss k).length = k := by simp [bRows1]
theorem bRows2_length (xss yss : List (List Int)) (k : Nat) : (bRows2 xss yss k).length = xss.length + k := by simp [bRows2, bRows1]
theorem bRows2_zero (xss yss : List (List Int)) : bRows2 xss yss 0 = bRows1 xss yss xss.length := by simp [bRows2]

theorem good_ent {xss : List (List Int)} (hG : Good xss) {i j : Nat} (hi : i < xss.length) (hj : j < xss.length) : ent xss i j = if arw xss i j = true then 1 else 0 := by
  have h := (good_iff_ent hG.1 hG.2.1 (fun i xs h => hG.len h)).1 hG (⟨i, hi⟩, ⟨j, hj⟩)
  simp only at h
  unfold arw
  rcases h with e | e <;> simp [e]
theorem good_at {xss : List (List Int)} (hG : Good xss) {i j : Nat} {xs : List Int} (hx : xss[i]? = some xs) (hj : j < xss.length) : xs[j]? = some (if arw xss i j = true then 1 else 0) := by
  have hi : i < xss.length := (List.getElem?_eq_some_iff.1 hx).1
  have hjl : j < xs.length := by rw [hG.len hx]; exact hj
  rw [← good_ent hG hi hj, ent_eq hx (List.getElem?_eq_getElem hjl)]
  exact List.getElem?_eq_getElem hjl

theorem bRows_all {xss yss : List (List Int)} (hG : Good xss) (hG' : Good yss) : bRows2 xss yss yss.length = rowsP (xss.length + yss.length) (besP xss yss) := by
  apply List.ext_getElem?
  intro i
  by_cases hi : i < xss.length + yss.length
  · rw [rowsP_get hi]
    by_cases h1 : i < xss.length
    · have e : (bRows2 xss yss yss.length)[i]? = some (bRow1 xss yss i) := by
        rw [bRows2, List.getElem?_append_left (by rw [bRows1_length]; exact h1)]
        simp [bRows1, h1]
      rw [e]
      congr 1
      have hX := List.getElem?_eq_getElem h1
      have hl := hG.len hX
      apply List.ext_getElem?
      intro j
      rw [bRow1, hX, Option.getD_some]
      by_cases hj : j < xss.length
      · rw [List.getElem?_append_left (by rw [hl]; exact hj), good_at hG hX hj]
        simp [besP, h1, hj, show j < xss.length + yss.length by omega]
      · by_cases hj2 : j < xss.length + yss.length
        · rw [List.getElem?_append_right (by rw [hl]; omega), List.getElem?_replicate, if_pos (by rw [hl]; omega)]
          simp [besP, h1, hj, hj2]
          intro h; omega
        · rw [List.getElem?_eq_none (by rw [List.length_append, hl, List.length_replicate]; omega), List.getElem?_eq_none (by simp; omega)]
    · have e : (bRows2 xss yss yss.length)[i]? = some (bRow2 xss yss (i - xss.length)) := by
        rw [bRows2, List.getElem?_append_right (by rw [bRows1_length]; omega), bRows1_length]
        simp [show i - xss.length < yss.length by omega]
      rw [e]
      congr 1
      have hX := List.getElem?_eq_getElem (show i - xss.length < yss.length by omega)
      have hl := hG'.len hX
      apply List.ext_getElem?
      intro j
      rw [bRow2, hX, Option.getD_some]
      by_cases hj : j < xss.length
      · rw [List.getElem?_append_left (by rw [List.length_replicate]; exact hj), List.getElem?_replicate, if_pos hj]
        simp [besP, h1, show j < xss.length + yss.length by omega]
        intro _ h; omega
      · by_cases hj2 : j < xss.length + yss.length
        · rw [List.getElem?_append_right (by rw [List.length_replicate]; omega), List.length_replicate, good_at hG' hX (by omega)]
          simp [besP, h1, hj2, show xss.length ≤ i by omega, show xss.length ≤ j by omega]
        · rw [List.getElem?_eq_none (by rw [List.length_append, hl, List.length_replicate]; omega), List.getElem?_eq_none (by simp; omega)]
  · rw [List.getElem?_eq_none (by rw [bRows2_length]; omega), List.getElem?_eq_none (by rw [rowsP_length]; omega)]

end Go.Proofs.Ytmohmecdhabapab
