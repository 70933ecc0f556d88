/-
  Several texts in one.
  The reader of a code (spec.l20Rd): one number is drawn. What the laws' own draws rest on.
  Rows of whatever integers that a call makes for itself: what the draws of graphs rest on.
-/
import Derived.Test.YtnehbpihljbjdabZA
import Derived.Deep.Draws
import Derived.Deep.AppendLies
import Derived.Maps.AppendAt
import Derived.Lib.SmallJoins
namespace Go.Proofs.Ytnehbpihljbjdab
open Go.RowKit Go.Shelf

theorem xor_i64_nat (a b : Nat) (ha : a < 4611686018427387904) (hb : b < 4611686018427387904) : bits .xor .i64 (a : Int) (b : Int) = ((a ^^^ b : Nat) : Int) := by
  show IntKind.i64.wrap ((BitVec.ofInt 64 (a : Int) ^^^ BitVec.ofInt 64 (b : Int)).toNat : Int) = _
  rw [BitVec.toNat_xor, ofInt_u64 a (by omega), ofInt_u64 b (by omega)]
  have h1 : a ^^^ b < 2 ^ 62 := Nat.xor_lt_two_pow (by omega) (by omega)
  simp [IntKind.wrap, IntKind.bits, IntKind.signed]
  omega

theorem xor_nn (X : Int) (h0 : 0 ≤ X) (h1 : X ≤ 4000000000000000000) : 0 ≤ bits .xor .i64 X (X / 64) := by
  obtain ⟨k, rfl⟩ := Int.eq_ofNat_of_zero_le h0
  have e : ((k : Int) / 64) = ((k / 64 : Nat) : Int) := by omega
  rw [e, xor_i64_nat k (k / 64) (by omega) (by omega)]
  omega

/-- THE BYTES that a code holds: n of them from a on, in a block below n₀. -/
def Bytes (n₀ : Nat) (W : World) (a : Option Addr) (n : Nat) : Prop :=
  0 < n → ∃ b o, a = some ⟨b, o, none⟩ ∧ b < n₀ ∧ ∀ j, j < n → ∃ v : Int, W.cell? ⟨b, o + j, none⟩ = some (.int .u8 v) ∧ 0 ≤ v ∧ v ≤ 255
theorem Bytes.keep {n₀ n : Nat} {A B : World} {a : Option Addr} (h : Bytes n₀ A a n) (hk : ∀ p : Addr, p.block < n₀ → B.cell? p = A.cell? p) : Bytes n₀ B a n := fun hn => by
  obtain ⟨b, o, e, hb, hc⟩ := h hn
  refine ⟨b, o, e, hb, fun j hj => ?_⟩
  obtain ⟨v, h1, h2⟩ := hc j hj
  exact ⟨v, (hk ⟨b, o + j, none⟩ hb).trans h1, h2⟩

end Go.Proofs.Ytnehbpihljbjdab

namespace Go.Proofs.Ytnehbpihljbjdab
open Go.RowKit Go.Shelf

/-- BLOCK b: m integers, whatever they are. -/
def IntBlk (W : World) (b m : Nat) : Prop := ∃ cs : Array Value, W.heap[b]? = some (.cells cs 3 (0, 0)) ∧ cs.size = m ∧ ∀ i, i < m → ∃ y : Int, cs[i]? = some (.int .i64 y)
theorem IntBlk.lt {W : World} {b m : Nat} (h : IntBlk W b m) : b < W.heap.size := by
  obtain ⟨cs, h1, _⟩ := h
  exact (Array.getElem?_eq_some_iff.1 h1).1
theorem IntBlk.kept {W W' : World} {b m : Nat} (h : IntBlk W b m) {row : Option Nat} (hg : W.grownBy W' row) (hne : some b ≠ row) : IntBlk W' b m := by
  have hlt := h.lt
  obtain ⟨cs, h1, h2⟩ := h
  exact ⟨cs, (hg.block b hlt hne).trans h1, h2⟩
theorem IntBlk.cell {W : World} {b m i : Nat} (h : IntBlk W b m) (hi : i < m) : ∃ y : Int, W.cell? ⟨b, i, none⟩ = some (.int .i64 y) := by
  obtain ⟨cs, h1, _, h3⟩ := h
  obtain ⟨y, hy⟩ := h3 i hi
  exact ⟨y, by simp [World.cell?, h1, hy]⟩
theorem IntBlk.frozen {W : World} {b m : Nat} (h : IntBlk W b m) (i : Nat) : W.frozen? ⟨b, i, none⟩ = false := by
  obtain ⟨cs, h1, _⟩ := h
  simp [World.frozen?, h1]
/-- A store of an integer into whatever block of integers keeps each of them one. -/
theorem IntBlk.store {W : World} {b m : Nat} (h : IntBlk W b m) (b' j : Nat) (x : Int) : IntBlk (W.setCell ⟨b', j, none⟩ (.int .i64 x)) b m := by
  obtain ⟨cs, h1, h2, h3⟩ := h
  by_cases e : b = b'
  · subst e
    refine ⟨cs.setIfInBounds j (.int .i64 x), ?_, by simpa using h2, fun i hi => ?_⟩
    · show (W.heap.modify b _)[b]? = _
      simp [Array.getElem?_modify, h1]
    · rw [Array.getElem?_setIfInBounds]
      by_cases ej : j = i
      · subst ej; exact ⟨x, by simp [h2, hi]⟩
      · rw [if_neg ej]; exact h3 i hi
  · exact ⟨cs, (Below.heap_setCell W ⟨b', j, none⟩ _ b e).trans h1, h2, h3⟩
theorem IntBlk.made (W : World) (m : Nat) : IntBlk (W.alloc (.cells (madeCells #[.int .i64 0] m) 3)) W.heap.size m :=
  ⟨_, World.alloc_heap_new W _, size_madeCells _ _, fun i hi => ⟨0, by simp [madeCells, hi, Nat.mod_one]⟩⟩

/-- A row's head. -/
def RowAny (base : Nat) (W : World) (x : Value) (m : Nat) : Prop := ∃ b, x = .slice (some ⟨b, 0, none⟩) m m ∧ base ≤ b ∧ IntBlk W b m

theorem grow_B {w W W' : World} {B : Nat} {row : Option Nat} (h : w.grownBy W (some B)) (k : W.grownBy W' row) (hr : ∀ r, row = some r → w.heap.size ≤ r ∨ r = B) : w.grownBy W' (some B) :=
  ⟨k.os.trans h.os, k.tape.trans h.tape, k.output.trans h.output, Nat.le_trans h.size k.size, fun i hi hne =>
    (k.block i (Nat.lt_of_lt_of_le hi h.size) (fun e => by rcases hr i e.symm with h' | h'; (omega); (subst h'; exact hne rfl))).trans (h.block i hi hne)⟩

theorem own_ne_ints {W : World} {base k b m : Nat} {v : Value} {vs : List Value} (h : W.ownsRow base 29 1 v k vs) (hb : IntBlk W b m) : v.ownBlock ≠ some b := by
  rcases h.2 with ⟨rfl, _⟩ | ⟨g, cap, cur, rfl, _, hg, _⟩
  · simp [Value.ownBlock]
  · intro e
    have : g = b := by simpa [Value.ownBlock] using e
    subst this
    obtain ⟨cs, h1, _⟩ := hb
    rw [hg] at h1
    injection h1 with h1
    injection h1 with _ h2
    exact absurd h2 (by decide)
theorem grownBy_set (W : World) (b j : Nat) (x : Value) : W.grownBy (W.setCell ⟨b, j, none⟩ x) (some b) :=
  ⟨rfl, rfl, rfl, by simp, fun i hi hne => Below.heap_setCell W ⟨b, j, none⟩ _ i (fun e => hne (by rw [e]))⟩
/-- A ROW THAT CAN BE READ: at most 10 integers. -/
def RowRead (W : World) (x : Value) : Prop := ∃ (b m c : Nat), x = .slice (some ⟨b, 0, none⟩) m c ∧ m ≤ 10 ∧ b < W.heap.size ∧ ∀ i, i < m → ∃ y : Int, W.cell? ⟨b, i, none⟩ = some (.int .i64 y)
theorem ints_of_cells {W : World} {b : Nat} : ∀ m, (∀ i, i < m → ∃ y : Int, W.cell? ⟨b, i, none⟩ = some (.int .i64 y)) → ∃ ys : List Int, ys.length = m ∧ ∀ i, i < m → W.cell? ⟨b, i, none⟩ = some (.int .i64 (ys[i]?.getD 0))
  | 0, _ => ⟨[], rfl, fun i h => absurd h (Nat.not_lt_zero _)⟩
  | m + 1, h => by
    obtain ⟨ys, hl, hy⟩ := ints_of_cells m (fun i hi => h i (by omega))
    obtain ⟨y, hm⟩ := h m (by omega)
    refine ⟨ys ++ [y], by simp [hl], fun i hi => ?_⟩
    by_cases e : i = m
    · subst e; rw [hm, List.getElem?_append_right (by omega)]; simp [hl]
    · rw [hy i (by omega), List.getElem?_append_left (by omega)]
theorem RowRead.ints {W : World} {x : Value} (h : RowRead W x) : ∃ (a : Option Addr) (c : Nat) (ys : List Int), x = .slice a ys.length c ∧ ys.length ≤ 10 ∧ Ints W.heap.size W a ys := by
  obtain ⟨b, m, c, rfl, hm, hb, hc⟩ := h
  obtain ⟨ys, hl, hy⟩ := ints_of_cells m hc
  subst hl
  exact ⟨_, c, ys, rfl, hm, fun _ => ⟨b, 0, rfl, hb, fun j hj => by rw [Nat.zero_add]; exact hy j hj⟩⟩
theorem rows_of_read {W : World} : ∀ vs : List Value, (∀ x ∈ vs, RowRead W x) → ∃ xss : List (List Int), xss.length = vs.length ∧ (∀ xs ∈ xss, xs.length ≤ 10) ∧
    ∀ i, i < vs.length → ∃ (a : Option Addr) (c : Nat), vs[i]? = some (.slice a (xss[i]?.getD []).length c) ∧ Ints W.heap.size W a (xss[i]?.getD [])
  | [], _ => ⟨[], rfl, by simp, fun i h => absurd h (by simp)⟩
  | v :: vs, h => by
    obtain ⟨xss, hl, hs, hx⟩ := rows_of_read vs (fun x hx => h x (List.mem_cons_of_mem _ hx))
    obtain ⟨a, c, ys, e, h10, hI⟩ := (h v (by simp)).ints
    refine ⟨ys :: xss, by simp [hl], fun xs hxs => ?_, fun i hi => ?_⟩
    · rcases List.mem_cons.1 hxs with e | e
      · subst e; exact h10
      · exact hs _ e
    · cases i with
      | zero => exact ⟨a, c, by simpa using e, by simpa using hI⟩
      | succ i => simpa using hx i (by simpa using hi)
/-- WHAT IS DRAWN CAN BE READ AS ROWS OF INTEGERS. -/
theorem mat_of_read {W : World} {base k : Nat} {a : Option Addr} {c : Nat} {vs : List Value} (ho : W.ownsRow base 29 1 (.slice a k c) k vs) (hv : ∀ x ∈ vs, RowRead W x) (hk : k ≤ 1000) :
    ∃ xss : List (List Int), xss.length = k ∧ Fit xss ∧ Mat W.heap.size W a xss := by
  obtain ⟨xss, hl, hs, hx⟩ := rows_of_read vs hv
  have hvl : vs.length = k := by simpa using ho.1
  refine ⟨xss, by omega, ⟨by omega, fun xs h => by have := hs xs h; omega⟩, fun hne => ?_⟩
  have hk0 : 0 < k := by
    rcases Nat.eq_zero_or_pos k with e | e
    · exact absurd (List.eq_nil_of_length_eq_zero (by omega)) hne
    · exact e
  obtain ⟨g, cap, hv'⟩ := Joins.ownsRow_form ho hk0
  simp only [Value.slice.injEq] at hv'
  obtain ⟨rfl, _, rfl⟩ := hv'
  have hg := ho.lt g (by simp [Value.ownBlock])
  refine ⟨g, 0, rfl, hg.2, fun i hi => ?_⟩
  obtain ⟨a', c', h1, h2⟩ := hx i (by omega)
  exact ⟨a', c', by rw [Nat.zero_add, ho.cellAt i (by omega), h1], h2⟩
theorem RowAny.read {base m : Nat} {W : World} {x : Value} (h : RowAny base W x m) (hm : m ≤ 10) : RowRead W x := by
  obtain ⟨b, rfl, _, hi⟩ := h
  exact ⟨b, m, m, rfl, hm, hi.lt, fun i h => hi.cell h⟩

theorem Ints.sub {n₀ : Nat} {A B : World} {a : Option Addr} {xs : List Int} (h : Ints n₀ A a xs) (hk : ∀ (p : Addr) v, A.cell? p = some v → B.cell? p = some v) : Ints n₀ B a xs := fun hne => by
  obtain ⟨b, o, e, hb, hc⟩ := h hne
  exact ⟨b, o, e, hb, fun j hj => hk _ _ (hc j hj)⟩
theorem Mat.sub {n₀ : Nat} {A B : World} {a : Option Addr} {xss : List (List Int)} (h : Mat n₀ A a xss) (hk : ∀ (p : Addr) v, A.cell? p = some v → B.cell? p = some v) : Mat n₀ B a xss := fun hne => by
  obtain ⟨b, o, e, hb, hc⟩ := h hne
  refine ⟨b, o, e, hb, fun i hi => ?_⟩
  obtain ⟨a', c', h1, h2⟩ := hc i hi
  exact ⟨a', c', hk _ _ h1, h2.sub hk⟩
/-- Block B emptied: what can be read then can be read whatever block B holds. -/
theorem erased_grown (W : World) (B : Nat) : W.grownBy (W.setRow B #[]) (some B) := ⟨rfl, rfl, rfl, by simp, fun k _ hk => setRow_other W B k _ (fun e => hk (by rw [e]))⟩
theorem erased_sub {W W' : World} {B : Nat} {cs : Array Value} {t : TypeId} {fr : Nat × Nat} (hb : W.heap[B]? = some (.cells cs t fr)) (hk : ∀ k, k < W.heap.size → k ≠ B → W'.heap[k]? = W.heap[k]?) (p : Addr) (v : Value) (h : (W.setRow B #[]).cell? p = some v) : W'.cell? p = some v := by
  by_cases e : p.block = B
  · exfalso
    have h2 := setRow_heap W B cs #[] t fr hb
    rw [← e] at h2
    unfold World.cell? at h
    rw [e] at h h2
    simp [h2] at h
  · have h1 : (W.setRow B #[]).heap[p.block]? = W.heap[p.block]? := setRow_other W B p.block _ e
    have hlt : p.block < W.heap.size := by
      rcases Nat.lt_or_ge p.block W.heap.size with hlt | hge
      · exact hlt
      · exfalso
        have h3 : (W.setRow B #[]).heap[p.block]? = none := h1.trans (Array.getElem?_eq_none hge)
        unfold World.cell? at h
        simp [h3] at h
    have e1 := World.cell?_of_block (a := p) ((hk p.block hlt e).trans h1.symm)
    exact e1.trans h
theorem RowRead.erased {W : World} {B : Nat} {x : Value} (h : RowRead W x) (hb : ∀ b m c, x = .slice (some ⟨b, 0, none⟩) m c → b ≠ B) : RowRead (W.setRow B #[]) x := by
  obtain ⟨b, m, c, rfl, h1, h2, h3⟩ := h
  have hne := hb b m c rfl
  refine ⟨b, m, c, rfl, h1, Nat.lt_of_lt_of_le h2 (erased_grown W B).size, fun i hi => ?_⟩
  obtain ⟨y, hy⟩ := h3 i hi
  exact ⟨y, (World.cell?_of_block (a := ⟨b, i, none⟩) (setRow_other W B b _ hne)).trans hy⟩

theorem IntBlk.values {W : World} {b m : Nat} (h : IntBlk W b m) : ∃ zs : List Value, zs.length = m ∧ (∀ j u, zs[j]? = some u → W.cell? ⟨b, j, none⟩ = some u) ∧ ∀ j, j < m → ∃ y : Int, zs[j]? = some (.int .i64 y) := by
  obtain ⟨cs, h1, h2, h3⟩ := h
  exact ⟨cs.toList, by simpa using h2, fun j u hj => by simpa [World.cell?, h1] using hj, fun j hj => by simpa using h3 j hj⟩
end Go.Proofs.Ytnehbpihljbjdab
