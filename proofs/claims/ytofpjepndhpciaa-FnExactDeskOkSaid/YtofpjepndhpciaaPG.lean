/-
  Rows by append whose entries are set: each row in a block of its own, told exactly.
-/
import Derived.Test.YtofpjepndhpciaaZD
import Derived.Test.YtofpjepndhpciaaZF
namespace Go.Proofs.Ytofpjepndhpciaa
open Go.RowKit Go.Shelf Go.Deep

/-- BLOCK b: these integers. -/
def RowBlk (W : World) (b : Nat) (xs : List Int) : Prop := W.heap[b]? = some (.cells (xs.map (Value.int .i64)).toArray 3 (0, 0))
theorem RowBlk.lt {W : World} {b : Nat} {xs : List Int} (h : RowBlk W b xs) : b < W.heap.size := (Array.getElem?_eq_some_iff.1 h).1
theorem RowBlk.blk {W : World} {b : Nat} {xs : List Int} (h : RowBlk W b xs) : IntBlk W b xs.length := ⟨_, h, by simp, fun i hi => ⟨xs[i], by simp [hi]⟩⟩
theorem RowBlk.kept {W W' : World} {b : Nat} {xs : List Int} (h : RowBlk W b xs) {row : Option Nat} (hg : W.grownBy W' row) (hne : some b ≠ row) : RowBlk W' b xs := (hg.block b h.lt hne).trans h
theorem RowBlk.cell {W : World} {b i : Nat} {xs : List Int} {y : Int} (h : RowBlk W b xs) (hy : xs[i]? = some y) : W.cell? ⟨b, i, none⟩ = some (.int .i64 y) := by
  have h' : W.heap[b]? = _ := h
  simp [World.cell?, h', hy]
theorem RowBlk.store {W : World} {b : Nat} {xs : List Int} (h : RowBlk W b xs) (j : Nat) (x : Int) : RowBlk (W.setCell ⟨b, j, none⟩ (.int .i64 x)) b (xs.set j x) := by
  have h' : W.heap[b]? = _ := h
  show (W.heap.modify b _)[b]? = _
  simp [Array.getElem?_modify, h', List.map_set]
theorem RowBlk.made (W : World) (m : Nat) : RowBlk (W.alloc (.cells (madeCells #[.int .i64 0] m) 3)) W.heap.size (List.replicate m 0) := by
  have h := World.alloc_heap_new W (.cells (madeCells #[.int .i64 0] m) 3)
  refine h.trans ?_
  congr 2
  refine Array.ext_getElem? fun i => ?_
  by_cases hi : i < m
  · simp [madeCells, hi, Nat.mod_one]
  · rw [Array.getElem?_eq_none (by rw [size_madeCells]; first | omega | (simp; omega)), Array.getElem?_eq_none (by simp; omega)]

/-- k ROWS of m integers, each in a block of its own. -/
structure RowsD (base : Nat) (W : World) (v : Value) (k m : Nat) (xss : List (List Int)) (G : Nat → Nat) : Prop where
  own : W.ownsRow base 47 1 v k ((List.range k).map fun i => Value.slice (some ⟨G i, 0, none⟩) m m)
  len : xss.length = k
  row : ∀ i xs, xss[i]? = some xs → xs.length = m ∧ base ≤ G i ∧ RowBlk W (G i) xs
  inj : ∀ i j, i < k → j < k → G i = G j → i = j
theorem RowsD.start (W : World) {base : Nat} (hb : base ≤ W.heap.size) (m : Nat) : RowsD base (W.alloc (.cells #[] 47)) (.slice (some ⟨W.heap.size, 0, none⟩) 0 0) 0 m [] fun _ => 0 :=
  ⟨World.ownsRow_lit (size := 1) W #[] 0 hb (Nat.zero_le _) rfl, rfl, fun i xs h => by simp at h, fun i j h => absurd h (Nat.not_lt_zero _)⟩
theorem RowsD.appended {base k m R : Nat} {W w1 : World} {v v' : Value} {xss : List (List Int)} {xs : List Int} {G : Nat → Nat} {o : Obj} (h : RowsD base W v k m xss G) (hR : RowBlk W R xs) (hl : xs.length = m) (hb : base ≤ R) (hne : ∀ i, i < k → G i ≠ R)
    (hown : w1.ownsRow base 47 1 v' (k + 1) (((List.range k).map fun i => Value.slice (some ⟨G i, 0, none⟩) m m) ++ [.slice (some ⟨R, 0, none⟩) m m])) (hgrow : (W.alloc o).grownBy w1 v.ownBlock) :
    RowsD base w1 v' (k + 1) m (xss ++ [xs]) fun i => if i = k then R else G i := by
  have keep : ∀ {b : Nat} {ys : List Int}, RowBlk W b ys → RowBlk w1 b ys := fun {b ys} hB => (hB.kept (World.grownBy_alloc W o none) (by simp)).kept hgrow (fun e => own_ne_ints h.own hB.blk e.symm)
  refine ⟨?_, by rw [List.length_append, h.len]; rfl, fun i ys hy => ?_, fun i j hi hj e => ?_⟩
  · have e : ((List.range (k + 1)).map fun i => Value.slice (some ⟨if i = k then R else G i, 0, none⟩) m m) = ((List.range k).map fun i => Value.slice (some ⟨G i, 0, none⟩) m m) ++ [.slice (some ⟨R, 0, none⟩) m m] := by
      rw [List.range_succ, List.map_append]
      congr 1
      · refine List.map_congr_left fun i hi => ?_
        have := List.mem_range.1 hi
        rw [if_neg (by omega)]
      · simp
    rw [e]; exact hown
  · rcases Nat.lt_trichotomy i k with hi | hi | hi
    · rw [List.getElem?_append_left (by rw [h.len]; exact hi)] at hy
      obtain ⟨h1, h2, h3⟩ := h.row i ys hy
      rw [if_neg (by omega)]
      exact ⟨h1, h2, keep h3⟩
    · subst hi
      rw [List.getElem?_append_right (by rw [h.len]; exact Nat.le_refl _), h.len, Nat.sub_self] at hy
      have e : xs = ys := by simpa using hy
      subst e
      rw [if_pos rfl]
      exact ⟨hl, hb, keep hR⟩
    · rw [List.getElem?_eq_none (by rw [List.length_append, h.len]; simp; omega)] at hy; cases hy
  · by_cases ei : i = k
    · by_cases ej : j = k
      · omega
      · rw [if_pos ei, if_neg ej] at e
        exact absurd e.symm (hne j (by omega))
    · by_cases ej : j = k
      · rw [if_neg ei, if_pos ej] at e
        exact absurd e (hne i (by omega))
      · rw [if_neg ei, if_neg ej] at e
        exact h.inj i j (by omega) (by omega) e
theorem RowsD.store {base k m : Nat} {W : World} {v : Value} {xss : List (List Int)} {G : Nat → Nat} (h : RowsD base W v k m xss G) {a : Nat} {xs : List Int} (ha : xss[a]? = some xs) (b : Nat) (x : Int) :
    RowsD base (W.setCell ⟨G a, b, none⟩ (.int .i64 x)) v k m (xss.set a (xs.set b x)) G := by
  obtain ⟨h1, h2, h3⟩ := h.row a xs ha
  have hak : a < k := by rw [← h.len]; exact (List.getElem?_eq_some_iff.1 ha).1
  have hne := own_ne_ints h.own h3.blk
  have hg := grownBy_set W (G a) b (.int .i64 x)
  refine ⟨World.ownsRow.kept h.own hg (.inr hne), by rw [List.length_set, h.len], fun i ys hy => ?_, h.inj⟩
  by_cases e : i = a
  · subst e
    rw [List.getElem?_set_self (by rw [h.len]; exact hak)] at hy
    have e2 : xs.set b x = ys := by simpa using hy
    subst e2
    exact ⟨by rw [List.length_set]; exact h1, h2, h3.store b x⟩
  · rw [List.getElem?_set_ne (fun e2 => e e2.symm)] at hy
    have hik : i < k := by rw [← h.len]; exact (List.getElem?_eq_some_iff.1 hy).1
    obtain ⟨k1, k2, k3⟩ := h.row i ys hy
    exact ⟨k1, k2, k3.kept hg (fun e2 => e (h.inj i a hik hak (by simpa using e2)))⟩
theorem RowsD.kept {base k m : Nat} {W W' : World} {v : Value} {xss : List (List Int)} {G : Nat → Nat} (h : RowsD base W v k m xss G) (hg : W.grownBy W' none) : RowsD base W' v k m xss G := by
  refine ⟨World.ownsRow.kept h.own hg (by cases v.ownBlock <;> simp), h.len, fun i ys hy => ?_, h.inj⟩
  obtain ⟨k1, k2, k3⟩ := h.row i ys hy
  exact ⟨k1, k2, k3.kept hg (by simp)⟩
theorem RowsD.head {base k m g cap : Nat} {W : World} {xss : List (List Int)} {G : Nat → Nat} (h : RowsD base W (.slice (some ⟨g, 0, none⟩) k cap) k m xss G) {i : Nat} (hi : i < k) : W.cell? ⟨g, i, none⟩ = some (.slice (some ⟨G i, 0, none⟩) m m) := by
  rw [h.own.cellAt i (by omega)]
  simp [hi]
theorem RowBlk.own {W : World} {base b m : Nat} {xs : List Int} (h : RowBlk W b xs) (hb : base ≤ b) (hl : xs.length = m) (hm : m ≤ 1000) : W.ownsRow base 3 1 (.slice (some ⟨b, 0, none⟩) m m) m (xs.map (Value.int .i64)) :=
  ⟨by simp [hl], .inr ⟨b, m, _, rfl, hb, h, Nat.le_refl _, by unfold maxLen; omega, by simp [hl], by simp; exact List.take_of_length_le (by simp [hl])⟩⟩
theorem RowsD.ownMat {base k m : Nat} {W : World} {v : Value} {xss : List (List Int)} {G : Nat → Nat} (h : RowsD base W v k m xss G) (hm : m ≤ 1000) : OwnMat base W v xss := by
  refine ⟨_, by rw [h.len]; exact h.own, fun i x xs hx hxs => ?_⟩
  obtain ⟨h1, h2, h3⟩ := h.row i xs hxs
  have hik : i < k := by rw [← h.len]; exact (List.getElem?_eq_some_iff.1 hxs).1
  have e : x = Value.slice (some ⟨G i, 0, none⟩) m m := by
    rw [List.getElem?_map, List.getElem?_range hik] at hx; simpa using hx.symm
  subst e
  rw [h1]
  exact h3.own h2 h1 hm

end Go.Proofs.Ytofpjepndhpciaa
