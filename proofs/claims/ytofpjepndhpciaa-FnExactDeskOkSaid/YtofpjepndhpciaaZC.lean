/-
  Several texts in one.
  A list of rows that grows by append while an iterator goes on: what an append turns; rows that lie apart.
  impl.MapsOf.
-/
import Derived.Test.YtofpjepndhpciaaM6d
import Derived.Test.YtofpjepndhpciaaM8
import Derived.ArgAppend
import Derived.OwnWalk
import Derived.Lib.SliceRun
import Derived.Test.YtofpjepndhpciaaZM
import Derived.Test.YtofpjepndhpciaaM7
import Derived.Stop.RegionWithIn
namespace Go.Proofs.Ytofpjepndhpciaa
open Go.RowKit Go.Shelf Go.Deep

/-- append of one element to a slice of one's own: either all is as it was, or there was room in the slice's own block. -/
theorem run_append_D {P : Program} (w : World) (base : Nat) (t ty e : TypeId) (i : TypeInfo) (z : Value) (bytes : Nat) (h1 : P.underlying t = some (.slice e)) (h2 : P.info? e = some i) (h3 : i.zero = some z) (h4 : i.size = 1) (h5 : i.bytes = bytes) (h6 : z.cells.size = 1)
    (v : Value) (k : Nat) (xs : List Value) (hown : w.ownsRow base e 1 v k xs) (hbase : base ≤ w.heap.size)
    (ad : Addr) (y : Value) (hc : ∀ j u, [y][j]? = some u → w.cell? (ad.add j) = some u) (h1c : y.oneCell' = true) (b1 : k + 1 ≤ maxLen) (b2 : (k + 1) * bytes ≤ 140737488355328) :
    ∃ v' w', (Builtin.append_ #[t, t] ty #[v, .slice (some ad) 1 1]).run P w = .ok v' w' ∧ w'.ownsRow base e 1 v' (k + 1) (xs ++ [y]) ∧
      (w.grownBy w' none ∨ ∃ g cap, v = .slice (some ⟨g, 0, none⟩) k cap ∧ v' = .slice (some ⟨g, 0, none⟩) (k + 1) cap ∧ k < cap ∧ w.grownBy w' (some g)) := by
  have hy : ∀ u ∈ [y], u.oneCell' = true := fun u hu => by rw [List.mem_singleton.1 hu]; exact h1c
  rcases hown.2 with ⟨rfl, rfl⟩ | ⟨g, cap, cur, rfl, hb, hgg, hkc, hcm, hcs, hct⟩
  · obtain ⟨v', w', hrun, r1, r2, _⟩ := run_append_own (P := P) w base t ty e i z 1 bytes h1 h2 h3 h4 h5 h6 (by decide) (.slice none 0 0) 0 xs hown ad 1 1 [y] rfl hc hy b1 b2 hbase
    exact ⟨v', w', hrun, r1, .inl r2⟩
  · by_cases hlt : k < cap
    · obtain ⟨w', hrun, r1, r2⟩ := run_append_fits (P := P) w base t ty e i 1 h1 h2 h4 g k cap xs hown ad 1 1 [y] rfl hc hy (by omega)
      exact ⟨_, w', hrun, r1, .inr ⟨g, cap, rfl, rfl, hlt, r2⟩⟩
    · obtain ⟨v', w', hrun, r1, r2⟩ := run_append_arg_grows (P := P) w t ty e i z 1 bytes h1 h2 h3 h4 h5 h6 (by decide) ⟨g, 0, none⟩ k cap xs hown.1 (fun j u hu => hown.cells rfl j u hu) ad 1 1 [y] rfl hc (by omega) b1 b2
      exact ⟨v', w', hrun, Joins.ownsRow_le r1 hbase, .inl r2⟩

/-- ROWS THAT LIE APART. -/
def Sep (vs : List Value) : Prop := ∀ (i j : Nat) (x y : Value) (g : Nat), i ≠ j → vs[i]? = some x → vs[j]? = some y → x.ownBlock = some g → y.ownBlock ≠ some g
theorem Sep.snoc {vs : List Value} {x : Value} (h : Sep vs) (hx : ∀ y ∈ vs, ∀ g, y.ownBlock = some g → x.ownBlock ≠ some g) : Sep (vs ++ [x]) := by
  intro i j u v g hij hu hv hg e
  have key : ∀ k t, (vs ++ [x])[k]? = some t → (k < vs.length ∧ vs[k]? = some t) ∨ (k = vs.length ∧ t = x) := fun k t ht => by
    by_cases hk : k < vs.length
    · exact .inl ⟨hk, by rwa [List.getElem?_append_left hk] at ht⟩
    · refine .inr ?_
      rw [List.getElem?_append_right (by omega)] at ht
      have h0 : k - vs.length = 0 := by have := (List.getElem?_eq_some_iff.1 ht).1; simp at this; omega
      rw [h0] at ht
      exact ⟨by omega, by simpa using ht.symm⟩
  rcases key i u hu with ⟨hi, hu'⟩ | ⟨hi, rfl⟩ <;> rcases key j v hv with ⟨hj, hv'⟩ | ⟨hj, rfl⟩
  · exact h i j u v g hij hu' hv' hg e
  · exact hx u (List.mem_of_getElem? hu') g hg e
  · exact hx v (List.mem_of_getElem? hv') g e hg
  · omega
/-- ROWS OF ONE's OWN, built by append, each apart from the others. -/
def OwnSep (base : Nat) (W : World) (v : Value) (xss : List (List Int)) : Prop :=
  ∃ vs, W.ownsRow base 47 1 v xss.length vs ∧ (∀ (i : Nat) (x : Value) (xs : List Int), vs[i]? = some x → xss[i]? = some xs → W.ownsRow base 3 1 x xs.length (xs.map (Value.int .i64))) ∧ Sep vs
theorem OwnSep.mat {base : Nat} {W : World} {v : Value} {xss : List (List Int)} (h : OwnSep base W v xss) : OwnMat base W v xss := by
  obtain ⟨vs, h1, h2, _⟩ := h
  exact ⟨vs, h1, h2⟩
theorem OwnSep.nil (base : Nat) (W : World) : OwnSep base W (.slice none 0 0) [] := ⟨[], World.ownsRow_nil W base _ 1, fun i x xs hx => by simp at hx, fun i j x y g _ hx => by simp at hx⟩
theorem OwnSep.mono {base base' : Nat} {W : World} {v : Value} {xss : List (List Int)} (h : OwnSep base W v xss) (hb : base' ≤ base) : OwnSep base' W v xss := by
  obtain ⟨vs, h1, h2, h3⟩ := h
  exact ⟨vs, Joins.ownsRow_le h1 hb, fun i x xs hx hxs => Joins.ownsRow_le (h2 i x xs hx hxs) hb, h3⟩
/-- Whatever no row, and not the slice itself, lies in may turn. -/
theorem OwnSep.kept {base : Nat} {W W' : World} {v : Value} {xss : List (List Int)} {row : Option Nat} (h : OwnSep base W v xss) (hg : W.grownBy W' row) (hr : ∀ r, row = some r → r < base ∨ ∃ o : Obj, W.heap[r]? = some o ∧ o.isCells = false) : OwnSep base W' v xss := by
  obtain ⟨vs, h1, h2, h3⟩ := h
  have ne : ∀ (e : TypeId) (n : Nat) (u : Value) (zs : List Value), W.ownsRow base e 1 u n zs → u.ownBlock = none ∨ u.ownBlock ≠ row := fun e n u zs ho => by
    rcases ho.2 with ⟨rfl, _⟩ | ⟨g, cap, cur, rfl, hb, hgg, _⟩
    · exact .inl rfl
    · refine .inr fun e' => ?_
      rcases hr g (by rw [← e']; rfl) with hlt | ⟨o, ho', hc⟩
      · omega
      · rw [hgg] at ho'; cases ho'; cases hc
  exact ⟨vs, h1.kept hg (ne _ _ _ _ h1), fun i x xs hx hxs => (h2 i x xs hx hxs).kept hg (ne _ _ _ _ (h2 i x xs hx hxs)), h3⟩
theorem OwnSep.below {base : Nat} {W W' : World} {v : Value} {xss : List (List Int)} (h : OwnSep base W v xss) (hb : Below W.heap.size W W') : OwnSep base W' v xss := h.kept (grown_of_below hb) (fun r e => by cases e)
theorem grownBy_setX (W : World) (b j : Nat) (x : Value) : W.grownBy (W.setCell ⟨b, j, none⟩ x) (some b) :=
  ⟨rfl, rfl, rfl, by simp, fun k _ hk => Below.heap_setCell W ⟨b, j, none⟩ x k (fun e => hk (by rw [show k = b from e]))⟩
/-- A box that lies below is written to. -/
theorem OwnSep.set {base : Nat} {W : World} {v : Value} {xss : List (List Int)} (h : OwnSep base W v xss) {b : Nat} (hb : b < base) (j : Nat) (u : Value) : OwnSep base (W.setCell ⟨b, j, none⟩ u) v xss :=
  h.kept (grownBy_setX W b j u) (fun r e => by cases e; exact .inl hb)

end Go.Proofs.Ytofpjepndhpciaa

namespace Go.Proofs.Ytofpjepndhpciaa
open Go.RowKit Go.Shelf Go.Deep

attribute [local go_sem] Oper.semAt_some

/-- Rows of one's own, each apart from the others, no cell of which lies below. -/
def MadeS (xss : List (List Int)) (w : World) (e : Ending) (w' : World) : Prop := ∃ (a : Option Addr) (c : Nat), (e = .returned (.slice a xss.length c) ∧ Below w.heap.size w w') ∧ OwnSep w.heap.size w' (.slice a xss.length c) xss
theorem own_form {W : World} {base e n : Nat} {v : Value} {xs : List Value} (h : W.ownsRow base e 1 v n xs) : ∃ (a : Option Addr) (c : Nat), v = .slice a n c := by
  rcases h.2 with ⟨rfl, rfl⟩ | ⟨g, cap, cur, rfl, _⟩
  · exact ⟨none, 0, rfl⟩
  · exact ⟨_, cap, rfl⟩
theorem great_of {W : World} {base e n g cap : Nat} {xs : List Value} (h : W.ownsRow base e 1 (.slice (some ⟨g, 0, none⟩) n cap) n xs) (hn : 1 ≤ n) (hlt : n < cap) (he : e = 47) : base ≤ g ∧ ∃ o, W.heap[g]? = some o ∧ Great o := by
  rcases h.2 with ⟨e1, _⟩ | ⟨g', cap', cur, e1, hb, hg, _, _, hcs, _⟩
  · cases e1
  · cases e1
    subst he
    exact ⟨hb, _, hg, cur, (0, 0), rfl, by omega⟩

/-- append as the one step that may come up, in a region that draws. -/
theorem appendAny {P : Program} {fuel k : Nat} {ops : Array Oper} {Q : Exit → Act → World → Prop} {listed : Array Bool} {a : Act} {w w' : World} {o : Oper} {s x : Operand} {t : TypeId} {v v' u : Value}
    (hr : Region.ready .any ops listed = [k]) (hk : ops[k]? = some o) (hg : o.guard = none) (hop : o.op = Op.call { callee := Callee.builtin Builtin.append, args := #[s, x], argTypes := #[t, t] })
    (hs : a.eval s = v) (hx : a.eval x = u) (hrun : (Builtin.append_ #[t, t] o.type #[v, u]).run P w = .ok v' w') (h : wpAny P .any ops Q fuel (listed.setIfInBounds k true) (a.put o.dst v') w') :
    wpAny P .any ops Q (fuel + 1) listed a w := by
  refine ⟨fun e => (by rw [hr] at e; cases e), fun i hi => ?_⟩
  rw [hr] at hi
  obtain rfl := List.mem_singleton.1 hi
  have hw : Region.wanted o (yielded ops a.tmps) = true := by simp [Region.wanted, hg]
  unfold wpOp
  simp only [hk]
  rw [if_pos hw]
  refine .inl ?_
  unfold Oper.wp
  simp [execOp, hop, resolve, invoke, builtin, hs, hx, hrun, Result.andThen]
  exact h

end Go.Proofs.Ytofpjepndhpciaa
