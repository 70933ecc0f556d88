/-
  Rows of whatever integers that a call makes for itself: what the draws of graphs rest on.
-/
import Derived.Test.YtmohmecdhabapacA2
import Derived.Test.YtmohmecdhabapacD1
import Derived.Lib.SmallJoins
namespace Go.Proofs.Ytmohmecdhabapac
open Go.RowKit Go.Shelf

/-- BLOCK b: m integers, whatever they are. -/
def IntBlk (W : World) (b m : Nat) : Prop := ∃ cs : Array Value, W.heap[b]? = some (.cells cs 3 (0, 0)) ∧ cs.size = m ∧ ∀ i, i < m → ∃ y : Int, cs[i]? = some (.int .i64 y)
theorem IntBlk.lt {W : World} {b m : Nat} (h : IntBlk W b m) : b < W.heap.size := by
  obtain ⟨cs, h1, _⟩ := h
  exact (Array.getElem?_eq_some_iff.1 h1).1
theorem IntBlk.kept {W W' : World} {b m : Nat} (h : IntBlk W b m) {row : Option Nat} (hg : W.grownBy W' row) (hne : some b ≠ row) : IntBlk W' b m := by
  have hlt := h.lt
  obtain ⟨cs, h1, h2⟩ := h
  exact ⟨cs, (hg.block b hlt hne).trans h1, h2⟩
theorem IntBlk.cell {W : World} {b m i : Nat} (h : IntBlk W b m) (hi : i < m) : ∃ y : Int, W.cell? ⟨b, i, none⟩ = some (.int .i64 y) := by
  obtain ⟨cs, h1, _, h3⟩ := h
  obtain ⟨y, hy⟩ := h3 i hi
  exact ⟨y, by simp [World.cell?, h1, hy]⟩
theorem IntBlk.frozen {W : World} {b m : Nat} (h : IntBlk W b m) (i : Nat) : W.frozen? ⟨b, i, none⟩ = false := by
  obtain ⟨cs, h1, _⟩ := h
  simp [World.frozen?, h1]
/-- A store of an integer into whatever block of integers keeps each of them one. -/
theorem IntBlk.store {W : World} {b m : Nat} (h : IntBlk W b m) (b' j : Nat) (x : Int) : IntBlk (W.setCell ⟨b', j, none⟩ (.int .i64 x)) b m := by
  obtain ⟨cs, h1, h2, h3⟩ := h
  by_cases e : b = b'
  · subst e
    refine ⟨cs.setIfInBounds j (.int .i64 x), ?_, by simpa using h2, fun i hi => ?_⟩
    · show (W.heap.modify b _)[b]? = _
      simp [Array.getElem?_modify, h1]
    · rw [Array.getElem?_setIfInBounds]
      by_cases ej : j = i
      · subst ej; exact ⟨x, by simp [h2, hi]⟩
      · rw [if_neg ej]; exact h3 i hi
  · exact ⟨cs, (Below.heap_setCell W ⟨b', j, none⟩ _ b e).trans h1, h2, h3⟩
theorem IntBlk.made (W : World) (m : Nat) : IntBlk (W.alloc (.cells (madeCells #[.int .i64 0] m) 3)) W.heap.size m :=
  ⟨_, World.alloc_heap_new W _, size_madeCells _ _, fun i hi => ⟨0, by simp [madeCells, hi, Nat.mod_one]⟩⟩

/-- A row's head. -/
def RowAny (base : Nat) (W : World) (x : Value) (m : Nat) : Prop := ∃ b, x = .slice (some ⟨b, 0, none⟩) m m ∧ base ≤ b ∧ IntBlk W b m

theorem grow_B {w W W' : World} {B : Nat} {row : Option Nat} (h : w.grownBy W (some B)) (k : W.grownBy W' row) (hr : ∀ r, row = some r → w.heap.size ≤ r ∨ r = B) : w.grownBy W' (some B) :=
  ⟨k.os.trans h.os, k.tape.trans h.tape, k.output.trans h.output, Nat.le_trans h.size k.size, fun i hi hne =>
    (k.block i (Nat.lt_of_lt_of_le hi h.size) (fun e => by rcases hr i e.symm with h' | h'; (omega); (subst h'; exact hne rfl))).trans (h.block i hi hne)⟩

/-- k ROWS OF m INTEGERS ARE DRAWN; the reader stands at most at N. -/
structure GOut (n₀ B : Nat) (w W : World) (v : Value) (k m N : Nat) : Prop where
  rd : Rd n₀ B W N
  far : w.grownBy W (some B)
  lt : B < w.heap.size
  own : ∃ vs, W.ownsRow w.heap.size 24 1 v k vs ∧ ∀ x ∈ vs, RowAny w.heap.size W x m
/-- .. and one more, in block R, is being drawn. -/
structure GIn (n₀ B : Nat) (w W : World) (v : Value) (k m R N : Nat) : Prop where
  out : GOut n₀ B w W v k m N
  le : w.heap.size ≤ R
  cur : IntBlk W R m

theorem own_ne_ints {W : World} {base k b m : Nat} {v : Value} {vs : List Value} (h : W.ownsRow base 24 1 v k vs) (hb : IntBlk W b m) : v.ownBlock ≠ some b := by
  rcases h.2 with ⟨rfl, _⟩ | ⟨g, cap, cur, rfl, _, hg, _⟩
  · simp [Value.ownBlock]
  · intro e
    have : g = b := by simpa [Value.ownBlock] using e
    subst this
    obtain ⟨cs, h1, _⟩ := hb
    rw [hg] at h1
    injection h1 with h1
    injection h1 with _ h2
    exact absurd h2 (by decide)
theorem own_ne_rd {W : World} {base k n₀ B N : Nat} {v : Value} {vs : List Value} (h : W.ownsRow base 24 1 v k vs) (hr : Rd n₀ B W N) : v.ownBlock ≠ some B := by
  rcases h.2 with ⟨rfl, _⟩ | ⟨g, cap, cur, rfl, _, hg, _⟩
  · simp [Value.ownBlock]
  · intro e
    have : g = B := by simpa [Value.ownBlock] using e
    subst this
    obtain ⟨a, n, c, p, h1, _⟩ := hr
    rw [hg] at h1
    injection h1 with h1
    injection h1 with _ h2
    exact absurd h2 (by decide)

theorem GOut.start {n₀ B m N : Nat} {w W : World} (hr : Rd n₀ B W N) (hg : w.grownBy W (some B)) (hB : B < w.heap.size) : GOut n₀ B w (W.alloc (.cells #[] 24)) (.slice (some ⟨W.heap.size, 0, none⟩) 0 0) 0 m N :=
  ⟨hr.keep (World.grownBy_alloc W _ none) (fun r e => by cases e), grow_B hg (World.grownBy_alloc W _ none) (fun r e => by cases e), hB, [], World.ownsRow_lit (size := 1) W #[] 0 hg.size (Nat.zero_le _) rfl, fun x hx => absurd hx (by simp)⟩
theorem GOut.more {n₀ B k m N N' : Nat} {w W : World} {v : Value} (h : GOut n₀ B w W v k m N) (hN : N ≤ N') : GOut n₀ B w W v k m N' := ⟨h.rd.more hN, h.far, h.lt, h.own⟩
theorem GOut.pick {n₀ B k m N N' : Nat} {w W W' : World} {v : Value} (h : GOut n₀ B w W v k m N) (hr : Rd n₀ B W' N') (hg : W.grownBy W' (some B)) : GOut n₀ B w W' v k m N' := by
  obtain ⟨vs, ho, hv⟩ := h.own
  have hl := h.lt
  refine ⟨hr, grow_B h.far hg (fun r e => .inr (by cases e; rfl)), h.lt, vs, ho.kept hg (.inr (own_ne_rd ho h.rd)), fun x hx => ?_⟩
  obtain ⟨b, e, hb, hi⟩ := hv x hx
  exact ⟨b, e, hb, hi.kept hg (fun e => by cases e; omega)⟩
theorem GOut.alloc {n₀ B k m N : Nat} {w W : World} {v : Value} (h : GOut n₀ B w W v k m N) (o : Obj) : GOut n₀ B w (W.alloc o) v k m N := by
  obtain ⟨vs, ho, hv⟩ := h.own
  have hg := World.grownBy_alloc W o none
  refine ⟨h.rd.keep hg (fun r e => by cases e), grow_B h.far hg (fun r e => by cases e), h.lt, vs, ho.alloc o, fun x hx => ?_⟩
  obtain ⟨b, e, hb, hi⟩ := hv x hx
  exact ⟨b, e, hb, hi.kept hg (by simp)⟩
theorem grownBy_set (W : World) (b j : Nat) (x : Value) : W.grownBy (W.setCell ⟨b, j, none⟩ x) (some b) :=
  ⟨rfl, rfl, rfl, by simp, fun i hi hne => Below.heap_setCell W ⟨b, j, none⟩ _ i (fun e => hne (by rw [e]))⟩
theorem GOut.store {n₀ B k m N : Nat} {w W : World} {v : Value} (h : GOut n₀ B w W v k m N) {b : Nat} {q : Nat} (hb : w.heap.size ≤ b) (hi : IntBlk W b q) (j : Nat) (x : Int) : GOut n₀ B w (W.setCell ⟨b, j, none⟩ (.int .i64 x)) v k m N := by
  obtain ⟨vs, ho, hv⟩ := h.own
  have hg := grownBy_set W b j (.int .i64 x)
  have hl := h.lt
  refine ⟨h.rd.keep hg (fun r e => by cases e; omega), grow_B h.far hg (fun r e => by cases e; exact .inl hb), h.lt, vs, ho.kept hg (.inr (own_ne_ints ho hi)), fun y hy => ?_⟩
  obtain ⟨b', e, hb', hi'⟩ := hv y hy
  exact ⟨b', e, hb', hi'.store b j x⟩
theorem GOut.drew {n₀ B k m N : Nat} {w W : World} {v : Value} (h : GOut n₀ B w W v k m N) : GOut n₀ B w W.drew v k m N := ⟨h.rd, ⟨h.far.os, h.far.tape, h.far.output, h.far.size, h.far.block⟩, h.lt, h.own⟩
theorem GIn.make {n₀ B k m N : Nat} {w W : World} {v : Value} (h : GOut n₀ B w W v k m N) : GIn n₀ B w (W.alloc (.cells (madeCells #[.int .i64 0] m) 3)) v k m W.heap.size N := ⟨h.alloc _, h.far.size, IntBlk.made W m⟩
theorem GIn.pick {n₀ B k m R N N' : Nat} {w W W' : World} {v : Value} (h : GIn n₀ B w W v k m R N) (hr : Rd n₀ B W' N') (hg : W.grownBy W' (some B)) : GIn n₀ B w W' v k m R N' :=
  ⟨h.out.pick hr hg, h.le, h.cur.kept hg (fun e => by cases e; have := h.out.lt; have := h.le; omega)⟩
theorem GIn.store {n₀ B k m R N : Nat} {w W : World} {v : Value} (h : GIn n₀ B w W v k m R N) (j : Nat) (x : Int) : GIn n₀ B w (W.setCell ⟨R, j, none⟩ (.int .i64 x)) v k m R N :=
  ⟨h.out.store h.le h.cur j x, h.le, h.cur.store R j x⟩
theorem GIn.more {n₀ B k m R N N' : Nat} {w W : World} {v : Value} (h : GIn n₀ B w W v k m R N) (hN : N ≤ N') : GIn n₀ B w W v k m R N' := ⟨h.out.more hN, h.le, h.cur⟩
/-- The row is appended. -/
theorem GIn.appended {n₀ B k m R N : Nat} {w W w1 : World} {v v' : Value} (h : GIn n₀ B w W v k m R N) {o : Obj} {vs : List Value} (ho : W.ownsRow w.heap.size 24 1 v k vs) (hv : ∀ x ∈ vs, RowAny w.heap.size W x m)
    (hown : w1.ownsRow w.heap.size 24 1 v' (k + 1) (vs ++ [.slice (some ⟨R, 0, none⟩) m m])) (hgrow : (W.alloc o).grownBy w1 v.ownBlock) : GOut n₀ B w w1 v' (k + 1) m N := by
  have hA := h.out.alloc o
  have hne := own_ne_rd ho h.out.rd
  have hlt := ho.lt
  have hl := h.out.lt
  refine ⟨hA.rd.keep hgrow (fun r e => ?_), grow_B hA.far hgrow (fun r e => .inl (hlt r e).1), h.out.lt, _, hown, fun x hx => ?_⟩
  · have := (hlt r e).1; omega
  · rcases List.mem_append.1 hx with hx | hx
    · obtain ⟨b, e, hb, hi⟩ := hv x hx
      exact ⟨b, e, hb, (hi.kept (World.grownBy_alloc W o none) (by simp)).kept hgrow (fun e => own_ne_ints ho hi e.symm)⟩
    · simp only [List.mem_singleton] at hx; subst hx
      exact ⟨R, rfl, h.le, (h.cur.kept (World.grownBy_alloc W o none) (by simp)).kept hgrow (fun e => own_ne_ints ho h.cur e.symm)⟩

theorem GOut.row {n₀ B k m N g cap : Nat} {w W : World} (h : GOut n₀ B w W (.slice (some ⟨g, 0, none⟩) k cap) k m N) {i : Nat} (hi : i < k) :
    ∃ b, W.cell? ⟨g, i, none⟩ = some (.slice (some ⟨b, 0, none⟩) m m) ∧ w.heap.size ≤ b ∧ IntBlk W b m := by
  obtain ⟨vs, ho, hv⟩ := h.own
  have hl : vs.length = k := by simpa using ho.1
  obtain ⟨b, e, hb, hI⟩ := hv vs[i] (List.getElem_mem _)
  exact ⟨b, by rw [ho.cellAt i (by omega), List.getElem?_eq_getElem (by omega), e], hb, hI⟩

/-- A ROW THAT CAN BE READ: at most 10 integers. -/
def RowRead (W : World) (x : Value) : Prop := ∃ (b m c : Nat), x = .slice (some ⟨b, 0, none⟩) m c ∧ m ≤ 10 ∧ b < W.heap.size ∧ ∀ i, i < m → ∃ y : Int, W.cell? ⟨b, i, none⟩ = some (.int .i64 y)
theorem ints_of_cells {W : World} {b : Nat} : ∀ m, (∀ i, i < m → ∃ y : Int, W.cell? ⟨b, i, none⟩ = some (.int .i64 y)) → ∃ ys : List Int, ys.length = m ∧ ∀ i, i < m → W.cell? ⟨b, i, none⟩ = some (.int .i64 (ys[i]?.getD 0))
  | 0, _ => ⟨[], rfl, fun i h => absurd h (Nat.not_lt_zero _)⟩
  | m + 1, h => by
    obtain ⟨ys, hl, hy⟩ := ints_of_cells m (fun i hi => h i (by omega))
    obtain ⟨y, hm⟩ := h m (by omega)
    refine ⟨ys ++ [y], by simp [hl], fun i hi => ?_⟩
    by_cases e : i = m
    · subst e; rw [hm, List.getElem?_append_right (by omega)]; simp [hl]
    · rw [hy i (by omega), List.getElem?_append_left (by omega)]
theorem RowRead.ints {W : World} {x : Value} (h : RowRead W x) : ∃ (a : Option Addr) (c : Nat) (ys : List Int), x = .slice a ys.length c ∧ ys.length ≤ 10 ∧ Ints W.heap.size W a ys := by
  obtain ⟨b, m, c, rfl, hm, hb, hc⟩ := h
  obtain ⟨ys, hl, hy⟩ := ints_of_cells m hc
  subst hl
  exact ⟨_, c, ys, rfl, hm, fun _ => ⟨b, 0, rfl, hb, fun j hj => by rw [Nat.zero_add]; exact hy j hj⟩⟩
theorem rows_of_read {W : World} : ∀ vs : List Value, (∀ x ∈ vs, RowRead W x) → ∃ xss : List (List Int), xss.length = vs.length ∧ (∀ xs ∈ xss, xs.length ≤ 10) ∧
    ∀ i, i < vs.length → ∃ (a : Option Addr) (c : Nat), vs[i]? = some (.slice a (xss[i]?.getD []).length c) ∧ Ints W.heap.size W a (xss[i]?.getD [])
  | [], _ => ⟨[], rfl, by simp, fun i h => absurd h (by simp)⟩
  | v :: vs, h => by
    obtain ⟨xss, hl, hs, hx⟩ := rows_of_read vs (fun x hx => h x (List.mem_cons_of_mem _ hx))
    obtain ⟨a, c, ys, e, h10, hI⟩ := (h v (by simp)).ints
    refine ⟨ys :: xss, by simp [hl], fun xs hxs => ?_, fun i hi => ?_⟩
    · rcases List.mem_cons.1 hxs with e | e
      · subst e; exact h10
      · exact hs _ e
    · cases i with
      | zero => exact ⟨a, c, by simpa using e, by simpa using hI⟩
      | succ i => simpa using hx i (by simpa using hi)
/-- WHAT IS DRAWN CAN BE READ AS ROWS OF INTEGERS. -/
theorem mat_of_read {W : World} {base k : Nat} {a : Option Addr} {c : Nat} {vs : List Value} (ho : W.ownsRow base 24 1 (.slice a k c) k vs) (hv : ∀ x ∈ vs, RowRead W x) (hk : k ≤ 1000) :
    ∃ xss : List (List Int), xss.length = k ∧ Fit xss ∧ Mat W.heap.size W a xss := by
  obtain ⟨xss, hl, hs, hx⟩ := rows_of_read vs hv
  have hvl : vs.length = k := by simpa using ho.1
  refine ⟨xss, by omega, ⟨by omega, fun xs h => by have := hs xs h; omega⟩, fun hne => ?_⟩
  have hk0 : 0 < k := by
    rcases Nat.eq_zero_or_pos k with e | e
    · exact absurd (List.eq_nil_of_length_eq_zero (by omega)) hne
    · exact e
  obtain ⟨g, cap, hv'⟩ := Joins.ownsRow_form ho hk0
  simp only [Value.slice.injEq] at hv'
  obtain ⟨rfl, _, rfl⟩ := hv'
  have hg := ho.lt g (by simp [Value.ownBlock])
  refine ⟨g, 0, rfl, hg.2, fun i hi => ?_⟩
  obtain ⟨a', c', h1, h2⟩ := hx i (by omega)
  exact ⟨a', c', by rw [Nat.zero_add, ho.cellAt i (by omega), h1], h2⟩
theorem RowAny.read {base m : Nat} {W : World} {x : Value} (h : RowAny base W x m) (hm : m ≤ 10) : RowRead W x := by
  obtain ⟨b, rfl, _, hi⟩ := h
  exact ⟨b, m, m, rfl, hm, hi.lt, fun i h => hi.cell h⟩

theorem Ints.sub {n₀ : Nat} {A B : World} {a : Option Addr} {xs : List Int} (h : Ints n₀ A a xs) (hk : ∀ (p : Addr) v, A.cell? p = some v → B.cell? p = some v) : Ints n₀ B a xs := fun hne => by
  obtain ⟨b, o, e, hb, hc⟩ := h hne
  exact ⟨b, o, e, hb, fun j hj => hk _ _ (hc j hj)⟩
theorem Mat.sub {n₀ : Nat} {A B : World} {a : Option Addr} {xss : List (List Int)} (h : Mat n₀ A a xss) (hk : ∀ (p : Addr) v, A.cell? p = some v → B.cell? p = some v) : Mat n₀ B a xss := fun hne => by
  obtain ⟨b, o, e, hb, hc⟩ := h hne
  refine ⟨b, o, e, hb, fun i hi => ?_⟩
  obtain ⟨a', c', h1, h2⟩ := hc i hi
  exact ⟨a', c', hk _ _ h1, h2.sub hk⟩
/-- Block B emptied: what can be read then can be read whatever block B holds. -/
theorem erased_grown (W : World) (B : Nat) : W.grownBy (W.setRow B #[]) (some B) := ⟨rfl, rfl, rfl, by simp, fun k _ hk => setRow_other W B k _ (fun e => hk (by rw [e]))⟩
theorem erased_sub {W W' : World} {B : Nat} {cs : Array Value} {t : TypeId} {fr : Nat × Nat} (hb : W.heap[B]? = some (.cells cs t fr)) (hk : ∀ k, k < W.heap.size → k ≠ B → W'.heap[k]? = W.heap[k]?) (p : Addr) (v : Value) (h : (W.setRow B #[]).cell? p = some v) : W'.cell? p = some v := by
  by_cases e : p.block = B
  · exfalso
    have h2 := setRow_heap W B cs #[] t fr hb
    rw [← e] at h2
    unfold World.cell? at h
    rw [e] at h h2
    simp [h2] at h
  · have h1 : (W.setRow B #[]).heap[p.block]? = W.heap[p.block]? := setRow_other W B p.block _ e
    have hlt : p.block < W.heap.size := by
      rcases Nat.lt_or_ge p.block W.heap.size with hlt | hge
      · exact hlt
      · exfalso
        have h3 : (W.setRow B #[]).heap[p.block]? = none := h1.trans (Array.getElem?_eq_none hge)
        unfold World.cell? at h
        simp [h3] at h
    have e1 := World.cell?_of_block (a := p) ((hk p.block hlt e).trans h1.symm)
    exact e1.trans h
theorem RowRead.erased {W : World} {B : Nat} {x : Value} (h : RowRead W x) (hb : ∀ b m c, x = .slice (some ⟨b, 0, none⟩) m c → b ≠ B) : RowRead (W.setRow B #[]) x := by
  obtain ⟨b, m, c, rfl, h1, h2, h3⟩ := h
  have hne := hb b m c rfl
  refine ⟨b, m, c, rfl, h1, Nat.lt_of_lt_of_le h2 (erased_grown W B).size, fun i hi => ?_⟩
  obtain ⟨y, hy⟩ := h3 i hi
  exact ⟨y, (World.cell?_of_block (a := ⟨b, i, none⟩) (setRow_other W B b _ hne)).trans hy⟩

/-- A GRAPH OR WHAT IS NONE IS DRAWN; none of it lies in block B. -/
def DrawnG (n₀ B N : Nat) (w : World) (e : Ending) (w' : World) : Prop :=
  ∃ (a : Option Addr) (c : Nat) (xss : List (List Int)), e = .returned (.slice a xss.length c) ∧ Fit xss ∧ Mat w'.heap.size (w'.setRow B #[]) a xss ∧ Rd n₀ B w' N ∧ w.grownBy w' (some B)
/-- And it has at most K nodes. -/
def DrawnGK (n₀ B N K : Nat) (w : World) (e : Ending) (w' : World) : Prop :=
  ∃ (a : Option Addr) (c : Nat) (xss : List (List Int)), e = .returned (.slice a xss.length c) ∧ Fit xss ∧ Mat w'.heap.size (w'.setRow B #[]) a xss ∧ Rd n₀ B w' N ∧ w.grownBy w' (some B) ∧ xss.length ≤ K
theorem DrawnGK.drawn {n₀ B N K : Nat} {w w' : World} {e : Ending} (h : DrawnGK n₀ B N K w e w') : DrawnG n₀ B N w e w' := by
  obtain ⟨a, c, xss, h1, h2, h3, h4, h5, _⟩ := h
  exact ⟨a, c, xss, h1, h2, h3, h4, h5⟩
theorem GOut.drawn {n₀ B k m N N' K : Nat} {w W : World} {a : Option Addr} {c : Nat} (h : GOut n₀ B w W (.slice a k c) k m N) (hm : m ≤ 10) (hk : k ≤ 1000) (hN : N ≤ N') (hK : k ≤ K) : DrawnGK n₀ B N' K w (.returned (.slice a k c)) W := by
  obtain ⟨vs, ho, hv⟩ := h.own
  have hlt := h.lt
  obtain ⟨xss, hl, hF, hM⟩ := mat_of_read (ho.kept (erased_grown W B) (.inr (own_ne_rd ho h.rd))) (fun x hx => ((hv x hx).read hm).erased fun b m c e => by
    obtain ⟨b', e', hb', _⟩ := hv x hx
    rw [e'] at e
    cases e
    omega) hk
  subst hl
  rw [show (W.setRow B #[]).heap.size = W.heap.size by simp] at hM
  exact ⟨a, c, xss, rfl, hF, hM, h.rd.more hN, h.far, hK⟩

theorem GOut.drawn_none {n₀ B k m N N' K : Nat} {w W : World} {v : Value} (h : GOut n₀ B w W v k m N) (o : Obj) (hN : N ≤ N') (b c : Nat) : DrawnGK n₀ B N' K w (.returned (.slice (some ⟨b, 0, none⟩) 0 c)) (W.alloc o) := by
  have hA := h.alloc o
  exact ⟨_, c, [], rfl, ⟨by simp, fun xs h => absurd h (by simp)⟩, fun h => absurd rfl h, hA.rd.more hN, hA.far, Nat.zero_le _⟩
theorem IntBlk.values {W : World} {b m : Nat} (h : IntBlk W b m) : ∃ zs : List Value, zs.length = m ∧ (∀ j u, zs[j]? = some u → W.cell? ⟨b, j, none⟩ = some u) ∧ ∀ j, j < m → ∃ y : Int, zs[j]? = some (.int .i64 y) := by
  obtain ⟨cs, h1, h2, h3⟩ := h
  exact ⟨cs.toList, by simpa using h2, fun j u hj => by simpa [World.cell?, h1] using hj, fun j hj => by simpa using h3 j hj⟩
theorem GOut.widened {n₀ B k m N N' K g cap g' cap' : Nat} {w W w1 : World} (h : GOut n₀ B w W (.slice (some ⟨g, 0, none⟩) k cap) k m N) (o : Obj) {zs : List Value} (hz : zs.length = m) (hzi : ∀ j, j < m → ∃ y : Int, zs[j]? = some (.int .i64 y))
    (hown : w1.ownsRow (W.alloc o).heap.size 3 1 (.slice (some ⟨g', 0, none⟩) (m + 1) cap') (m + 1) (zs ++ [.int .i64 0])) (hg : (W.alloc o).grownBy w1 none) (hm : m ≤ 9) (hk : k ≤ 1000) (hN : N ≤ N') (hK : k ≤ K) :
    DrawnGK n₀ B N' K w (.returned (.slice (some ⟨g, 0, none⟩) k cap)) (w1.setCell ⟨g, 0, none⟩ (.slice (some ⟨g', 0, none⟩) (m + 1) cap')) := by
  obtain ⟨vs, ho, hv⟩ := h.own
  have hlg := ho.lt g (by simp [Value.ownBlock])
  have hl := h.lt
  have hlg' := hown.lt g' (by simp [Value.ownBlock])
  rw [World.size_alloc] at hlg'
  have ho1 := (ho.alloc o).kept hg (.inr (by simp [Value.ownBlock]))
  have ho2 := (ho1.stored 0 (.slice (some ⟨g', 0, none⟩) (m + 1) cap')).1
  have hs := grownBy_set w1 g 0 (.slice (some ⟨g', 0, none⟩) (m + 1) cap')
  have hread : ∀ x ∈ vs.set 0 (.slice (some ⟨g', 0, none⟩) (m + 1) cap'), RowRead (w1.setCell ⟨g, 0, none⟩ (.slice (some ⟨g', 0, none⟩) (m + 1) cap')) x := fun x hx => by
    rcases List.mem_or_eq_of_mem_set hx with hx | rfl
    · obtain ⟨b, rfl, hb, hi⟩ := hv x hx
      have hi1 := ((hi.kept (World.grownBy_alloc W o none) (by simp)).kept hg (by simp))
      exact RowAny.read ⟨b, rfl, hb, hi1.kept hs (fun e => own_ne_ints ho1 hi1 e.symm)⟩ (by omega)
    · refine ⟨g', m + 1, cap', rfl, by omega, by rw [show (w1.setCell ⟨g, 0, none⟩ (.slice (some ⟨g', 0, none⟩) (m + 1) cap')).heap.size = w1.heap.size from by simp]; exact hlg'.2, fun i hi => ?_⟩
      have hc := hown.cellAt i (by omega)
      have hne : (⟨g', i, none⟩ : Addr).block ≠ g := by show g' ≠ g; omega
      rw [World.cell?_setCell_other w1 ⟨g, 0, none⟩ ⟨g', i, none⟩ _ (fun e => hne (congrArg Addr.block e).symm), hc]
      by_cases e : i < m
      · obtain ⟨y, hy⟩ := hzi i e
        exact ⟨y, by rw [List.getElem?_append_left (by omega), hy]⟩
      · obtain rfl : i = m := by omega
        exact ⟨0, by rw [List.getElem?_append_right (by omega)]; simp [hz]⟩
  obtain ⟨xss, hxl, hF, hM⟩ := mat_of_read (ho2.kept (erased_grown _ B) (.inr (fun e => by have e' : some g = some B := e; cases e'; omega))) (fun x hx => (hread x hx).erased fun b m' c e => by
    rcases List.mem_or_eq_of_mem_set hx with hx | hx
    · obtain ⟨b', e', hb', _⟩ := hv x hx
      rw [e'] at e
      cases e
      omega
    · rw [hx] at e
      cases e
      omega) hk
  subst hxl
  rw [show ((w1.setCell ⟨g, 0, none⟩ (.slice (some ⟨g', 0, none⟩) (m + 1) cap')).setRow B #[]).heap.size = (w1.setCell ⟨g, 0, none⟩ (.slice (some ⟨g', 0, none⟩) (m + 1) cap')).heap.size by simp] at hM
  refine ⟨_, cap, xss, rfl, hF, hM, ?_, ?_, hK⟩
  · exact (((h.rd.keep (World.grownBy_alloc W o none) (fun r e => by cases e)).keep hg (fun r e => by cases e)).keep hs (fun r e => by cases e; omega)).more hN
  · exact grow_B (grow_B (grow_B h.far (World.grownBy_alloc W o none) (fun r e => by cases e)) hg (fun r e => by cases e)) hs (fun r e => by cases e; exact .inl hlg.1)

end Go.Proofs.Ytmohmecdhabapac
