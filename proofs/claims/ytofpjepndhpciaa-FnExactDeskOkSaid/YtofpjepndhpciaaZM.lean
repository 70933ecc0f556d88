/-
  Several texts in one.
  A region that draws its order, only reads and ends in one chain, WITHIN A ROUND of a range over a function.
  A region that draws its order: a load and two moves, a call, a move, and then operations under a guard: 'f(x, i, j) && g(..)'.
  A range over a function that hands out the same memory in every round: the caller's invariant abides whatever the iterator writes into that row.
  impl.FewOk and its model.
-/
import Derived.Test.YtofpjepndhpciaaL1
import Derived.StillTailTactics
import Derived.Deep.RegionHeld3
namespace Go.Proofs.Ytofpjepndhpciaa
open Go.RowKit Go.Shelf

theorem wpIn_of_wp_op {P : Program} {l n : Nat} {o : Oper} {a : Act} {w : World} {K K' : Act → World → Prop} {Q : Exit → Act → World → Prop} (hd : ∀ c, o.op ≠ .defer c)
    (hK : ∀ a w, K a w → K' a w) (h : o.wp P a w K Q) : o.wpIn (Fence.wide.inRound l) n P a w K' Q := by
  refine ⟨fun _ _ => trivial, ?_⟩
  rw [Oper.semAt_eq _ _ _ hd]
  unfold Oper.wp at h
  generalize hg : (execOp a.eval o).run P w = r at *
  cases r with
  | ok x w' =>
    cases x with
    | value v => exact hK _ _ h
    | skip => exact hK _ _ h
    | defer d => exact hK _ _ h
    | enter f args =>
      refine ⟨fun h' => (by cases h'), CallsIn.inRound l ((callsIn_wide.2 h).mono ?_)⟩
      intro e w'' h'
      cases e with
      | returned v => exact hK _ _ h'
      | panicked ch => exact h'
      | outgrown => exact h'
    | row row args => exact ⟨fun h' => (by cases h'), fun c cs _ => let ⟨v, w'', r, s⟩ := h c cs; ⟨v, w'', hK _ _ r, stepsIn_wide.2 s⟩⟩
    | round => exact h.elim
    | _ => exact h.elim
  | halt x w' =>
    cases x with
    | panic v => exact h
    | _ => exact h.elim

/-- No operation is a defer statement. -/
def noDefer (ops : Array Oper) : Bool := ops.toList.all fun o => match o.op with | .defer _ => false | _ => true
theorem noDefer_at {ops : Array Oper} (h : noDefer ops = true) {i : Nat} {o : Oper} (ho : ops[i]? = some o) (c : Call) : o.op ≠ .defer c := fun e => by
  have h1 := List.all_eq_true.1 h o (by simpa using Array.mem_of_getElem? ho)
  rw [e] at h1
  cases h1
theorem wpOpIn_of {P : Program} {l n i : Nat} {ops : Array Oper} {Q : Exit → Act → World → Prop} (hd : noDefer ops = true) (hno : ¬ LetsOut Q) {K K' : Act → World → Prop} (hK : ∀ a w, K a w → K' a w) {a : Act} {w : World} (h : wpOp P ops Q i K a w) : wpOpIn (Fence.wide.inRound l) n P ops Q i K' a w := by
  unfold wpOp at h
  unfold wpOpIn
  cases ho : ops[i]? with
  | none => rw [ho] at h; exact hK _ _ h
  | some o =>
    rw [ho] at h
    dsimp only at h ⊢
    by_cases hw : Region.wanted o (yielded ops a.tmps) = true
    · rw [if_pos hw] at h ⊢
      rcases h with h | h
      · exact wpIn_of_wp_op (noDefer_at hd ho) hK h
      · exact absurd h.2 hno
    · rw [if_neg hw] at h ⊢
      exact ⟨fun _ _ => trivial, hK _ _ h⟩
theorem wpAnyIn_of {P : Program} {l n : Nat} {md : Region.Mode} {ops : Array Oper} {Q : Exit → Act → World → Prop} (hd : noDefer ops = true) (hno : ¬ LetsOut Q) : ∀ (fuel : Nat) (listed : Array Bool) (a : Act) (w : World),
    wpAny P md ops Q fuel listed a w → wpAnyIn (Fence.wide.inRound l) n P md ops Q fuel listed a w
  | 0, _, _, _, h => h
  | fuel + 1, _, _, _, h => ⟨h.1, fun i hi => wpOpIn_of hd hno (fun a w => wpAnyIn_of hd hno fuel _ a w) (h.2 i hi)⟩

theorem region_still_tail_in {P : Program} {id l₀ m : Nat} {Q : Exit → Act → World → Prop} {a : Act} {w : World} {l : List Oper} (n : Nat) (hm : P.follows .mixedOrders = true) (hB : Region.lexTailB .any l.toArray n = true) (hd : noDefer l.toArray = true) (hno : ¬ LetsOut Q)
    (h : wpStill P l.toArray { w with drawn := w.drawn + 1 } (fun a' => wpList P l.toArray Q (l.drop n) a' { w with drawn := w.drawn + 1 }) (l.take n) a) : (Code.region id l.toArray true).wpIn (Fence.wide.inRound l₀) m P Q a w := by
  simp only [Region.lexTailB, Bool.and_eq_true, decide_eq_true_eq] at hB
  obtain ⟨⟨⟨⟨hsel, hn⟩, hs⟩, hc⟩, hlex⟩ := hB
  have hn' : n < l.length := by simpa using hn
  have htl : (l.take n).length = n := by simp; omega
  have hdl : (l.drop n).length = l.toArray.size - n := by simp
  have inv0 : HeadInv .any l.toArray n (Array.replicate l.toArray.size false) :=
    ⟨by simp, fun j oj _ hl => (by rw [getD_replicate_false] at hl; cases hl), fun t _ ht => getD_in (by simpa using ht) (getD_replicate_false _ _)⟩
  have H := wpAnyL_lex (md := .any) (g := l.toArray.size - n) hsel hs hc hn (l.take n) 0 _ a (fun j hj => by
    have hj' : j < n := by rw [htl] at hj; exact hj
    simp [hj']) (by simpa using htl) inv0 (by rw [htl]; exact hlex) h
  refine wpIn_region_any hm ?_
  have := wpAny_of_head (Q' := Q) (g := l.toArray.size - n) (fun listed a' hL => by
    have := wpAny_of_seq (md := .any) (Q' := Q) (l.drop n) n listed a' { w with drawn := w.drawn + 1 } (fun j => by simp [List.getElem?_drop]) (by rw [hdl]; exact hL.1) hL.2
    rwa [hdl] at this) _ _ _ H
  rw [htl, show n + (l.toArray.size - n) = l.toArray.size by omega] at this
  exact wpAnyIn_of hd hno _ _ _ _ this

end Go.Proofs.Ytofpjepndhpciaa

namespace Go.Proofs.Ytofpjepndhpciaa
open Go.RowKit Go.Shelf

def lst1 (n : Nat) : Array Bool := (Array.replicate n false).setIfInBounds 1 true
def lst2 (n : Nat) : Array Bool := (lst1 n).setIfInBounds 2 true
def lst3 (n : Nat) : Array Bool := (lst2 n).setIfInBounds 0 true
def lst4 (n : Nat) : Array Bool := (lst3 n).setIfInBounds 3 true
def lst5 (n : Nat) : Array Bool := (lst4 n).setIfInBounds 4 true
/-- The shape of such a region. -/
def shapeB (ops : Array Oper) : Bool :=
  Region.noSelect ops && Region.free .any ops (Array.replicate ops.size false) 1 && (Region.ready .any ops (Array.replicate ops.size false)).contains 1 &&
  Region.free .any ops (lst1 ops.size) 2 && (Region.ready .any ops (lst1 ops.size)).contains 2 && decide (Region.ready .any ops (lst2 ops.size) = [0]) && decide (Region.ready .any ops (lst3 ops.size) = [3]) &&
  Region.free .any ops (lst4 ops.size) 4 && (Region.ready .any ops (lst4 ops.size)).contains 4

theorem region_guarded {P : Program} {id f : Nat} {Q : Exit → Act → World → Prop} {a : Act} {w : World} {l : List Oper} {o0 o1 o2 o3 o4 : Oper} {v0 v1 v2 : Value} (hm : P.follows .mixedOrders = true)
    (hB : shapeB l.toArray = true) (hf : l.length = f + 5) (h0 : l[0]? = some o0) (h1 : l[1]? = some o1) (h2 : l[2]? = some o2) (h3 : l[3]? = some o3) (h4 : l[4]? = some o4)
    (hQ : ∀ c a d v w, Q (.panic c) (a.put d v) w → Q (.panic c) a w)
    (y1 : Yields P l.toArray o1 v1 a) (y2 : Yields P l.toArray o2 v2 (a.put o1.dst v1))
    (y0 : Region.wanted o0 (yielded l.toArray ((a.put o1.dst v1).put o2.dst v2).tmps) = true ∧ (execOp ((a.put o1.dst v1).put o2.dst v2).eval o0).run P { w with drawn := w.drawn + 1 } = .ok (.value v0) { w with drawn := w.drawn + 1 })
    (hc : Region.wanted o3 (yielded l.toArray (((a.put o1.dst v1).put o2.dst v2).put o0.dst v0).tmps) = true ∧
      ∀ K : Act → World → Prop, (∀ a' w' v4, Yields P l.toArray o4 v4 a' → wpAny P .any l.toArray Q f (lst5 l.toArray.size) (a'.put o4.dst v4) w' → K a' w') → Oper.wp P o3 (((a.put o1.dst v1).put o2.dst v2).put o0.dst v0) { w with drawn := w.drawn + 1 } K Q) : (Code.region id l.toArray true).wp P Q a w := by
  simp only [shapeB, Bool.and_eq_true, decide_eq_true_eq] at hB
  obtain ⟨⟨⟨⟨⟨⟨⟨⟨hs, f1⟩, r1⟩, f2⟩, r2⟩, r0⟩, r3⟩, f4⟩, r4⟩ := hB
  refine wp_region_any hm ?_
  have es : l.toArray.size = f + 5 := by simpa using hf
  have g0 : l.toArray[0]? = some o0 := by simpa using h0
  have g1 : l.toArray[1]? = some o1 := by simpa using h1
  have g2 : l.toArray[2]? = some o2 := by simpa using h2
  have g3 : l.toArray[3]? = some o3 := by simpa using h3
  have g4 : l.toArray[4]? = some o4 := by simpa using h4
  rw [show wpAny P .any l.toArray Q l.toArray.size = wpAny P .any l.toArray Q (f + 4 + 1) by rw [es]]
  refine wpAny_take g1 hs f1 r1 (fun c a w => hQ c a _ _ w) y1 ?_
  refine wpAny_take (listed := lst1 l.toArray.size) g2 hs f2 r2 (fun c a w => hQ c a _ _ w) y2 ?_
  refine wpAny_all (listed := lst2 l.toArray.size) (rs := [0]) r0 (by simp) ?_
  intro i hi
  obtain rfl : i = 0 := by simpa using hi
  unfold wpOp
  simp only [g0]
  rw [if_pos y0.1]
  refine .inl ?_
  unfold Oper.wp
  rw [y0.2]
  refine wpAny_all (listed := lst3 l.toArray.size) (rs := [3]) r3 (by simp) ?_
  intro i hi
  obtain rfl : i = 3 := by simpa using hi
  unfold wpOp
  simp only [g3]
  rw [if_pos hc.1]
  refine .inl (hc.2 _ fun a' w' v4 hy hK => ?_)
  exact wpAny_take (listed := lst4 l.toArray.size) g4 hs f4 r4 (fun c a w => hQ c a _ _ w) hy hK

/-- Behind the guard nothing is carried out, or all that is only reads. -/
def restB (ops : Array Oper) (f : Nat) : Bool := Region.noSelect ops && Region.lexFrom .any ops f 5 (lst5 ops.size)
theorem guard_still {P : Program} {f : Nat} {Q : Exit → Act → World → Prop} {a : Act} {w : World} {l : List Oper} (hf : l.length = f + 5) (hB : restB l.toArray f = true)
    (h : wpStill P l.toArray w (fun a' => Q .normal a' w) (l.drop 5) a) : wpAny P .any l.toArray Q f (lst5 l.toArray.size) a w := by
  simp only [restB, Bool.and_eq_true] at hB
  have hl : (l.drop 5).length = f := by simp; omega
  refine wpAny_of_still (Q := fun a' => Q .normal a' w) (fun _ h => h) _ _ _ ?_
  have := wpAnyS_lex (md := .any) (P := P) (w := w) hB.1 (l.drop 5) 5 (lst5 l.toArray.size) a (fun j => by simp [List.getElem?_drop]) (by rw [hl]; exact hB.2) h
  rw [hl] at this
  exact this

/-- Behind the guard all reads till operation n, and from there on is one chain. -/
def closedB (ops : Array Oper) (listed : Array Bool) : Bool := (List.range ops.size).all fun j => match ops[j]? with
  | some oj => !listed.getD j false || oj.after.all fun e => !Region.binds .any e || listed.getD e.on false
  | none => true
def tailB (ops : Array Oper) (n : Nat) : Bool :=
  Region.noSelect ops && decide (5 ≤ n) && decide (n < ops.size) && Region.sinkB .any ops n && Region.chainB .any ops n && Region.lexHead .any ops (ops.size - n) (n - 5) 5 (lst5 ops.size) && closedB ops (lst5 ops.size) && ((List.range ops.size).all fun t => decide (t < n) || !(lst5 ops.size).getD t true)
theorem guard_tail {P : Program} {f n : Nat} {Q : Exit → Act → World → Prop} {a : Act} {w : World} {l : List Oper} (hf : l.length = f + 5) (hB : tailB l.toArray n = true)
    (h : wpStill P l.toArray w (fun a' => wpList P l.toArray Q (l.drop n) a' w) ((l.drop 5).take (n - 5)) a) : wpAny P .any l.toArray Q f (lst5 l.toArray.size) a w := by
  simp only [tailB, Bool.and_eq_true, decide_eq_true_eq] at hB
  obtain ⟨⟨⟨⟨⟨⟨⟨hsel, h5⟩, hn⟩, hs⟩, hc⟩, hlex⟩, hcl⟩, htl⟩ := hB
  have es : l.toArray.size = f + 5 := by simpa using hf
  have hn' : n < l.length := by simpa using hn
  have hl : ((l.drop 5).take (n - 5)).length = n - 5 := by simp; omega
  have hdl : (l.drop n).length = l.toArray.size - n := by simp
  have inv : HeadInv .any l.toArray n (lst5 l.toArray.size) := by
    refine ⟨by simp [lst5, lst4, lst3, lst2, lst1], fun j oj hj hlj e he hb => ?_, fun t ht ht' => ?_⟩
    · have h1 := List.all_eq_true.1 hcl j (List.mem_range.2 (Array.getElem?_eq_some_iff.1 hj).1)
      simp only [hj, hlj, Bool.not_true, Bool.false_or] at h1
      have h2 := Array.all_eq_true'.1 h1 e he
      simpa [hb] using h2
    · have h1 := List.all_eq_true.1 htl t (List.mem_range.2 ht')
      simp only [Bool.or_eq_true, decide_eq_true_eq] at h1
      rcases h1 with h1 | h1
      · omega
      · simpa using h1
  have H := wpAnyL_lex (md := .any) (P := P) (w := w) (g := l.toArray.size - n) hsel hs hc hn ((l.drop 5).take (n - 5)) 5 (lst5 l.toArray.size) a (fun j hj => by
    have hj' : j < n - 5 := by rw [hl] at hj; exact hj
    simp [hj', List.getElem?_drop]) (by rw [hl]; omega) inv (by rw [hl]; exact hlex) h
  have := wpAny_of_head (Q' := Q) (g := l.toArray.size - n) (fun listed a' hL => by
    have := wpAny_of_seq (md := .any) (Q' := Q) (l.drop n) n listed a' w (fun j => by simp [List.getElem?_drop]) (by rw [hdl]; exact hL.1) hL.2
    rwa [hdl] at this) _ _ _ H
  rw [hl, show n - 5 + (l.toArray.size - n) = f by omega] at this
  exact this

/-- THE WHOLE: the call, and then either way. -/
theorem region_two {P : Program} {id f n : Nat} {Q : Exit → Act → World → Prop} {a : Act} {w : World} {l : List Oper} {o0 o1 o2 o3 o4 : Oper} {v0 v1 v2 : Value} (hm : P.follows .mixedOrders = true)
    (hB : shapeB l.toArray = true) (hR : restB l.toArray f = true) (hT : tailB l.toArray n = true) (hf : l.length = f + 5) (h0 : l[0]? = some o0) (h1 : l[1]? = some o1) (h2 : l[2]? = some o2) (h3 : l[3]? = some o3) (h4 : l[4]? = some o4)
    (hQ : ∀ c a d v w, Q (.panic c) (a.put d v) w → Q (.panic c) a w)
    (y1 : Yields P l.toArray o1 v1 a) (y2 : Yields P l.toArray o2 v2 (a.put o1.dst v1))
    (y0 : Region.wanted o0 (yielded l.toArray ((a.put o1.dst v1).put o2.dst v2).tmps) = true ∧ (execOp ((a.put o1.dst v1).put o2.dst v2).eval o0).run P { w with drawn := w.drawn + 1 } = .ok (.value v0) { w with drawn := w.drawn + 1 })
    (hc : Region.wanted o3 (yielded l.toArray (((a.put o1.dst v1).put o2.dst v2).put o0.dst v0).tmps) = true ∧
      ∀ K : Act → World → Prop, ((∀ a' w' v4, Yields P l.toArray o4 v4 a' → wpStill P l.toArray w' (fun a'' => Q .normal a'' w') (l.drop 5) (a'.put o4.dst v4) → K a' w') ∧
          (∀ a' w' v4, Yields P l.toArray o4 v4 a' → wpStill P l.toArray w' (fun a'' => wpList P l.toArray Q (l.drop n) a'' w') ((l.drop 5).take (n - 5)) (a'.put o4.dst v4) → K a' w')) →
        Oper.wp P o3 (((a.put o1.dst v1).put o2.dst v2).put o0.dst v0) { w with drawn := w.drawn + 1 } K Q) : (Code.region id l.toArray true).wp P Q a w :=
  region_guarded hm hB hf h0 h1 h2 h3 h4 hQ y1 y2 y0 ⟨hc.1, fun K hK => hc.2 K ⟨fun a' w' v4 hy h => hK a' w' v4 hy (guard_still hf hR h), fun a' w' v4 hy h => hK a' w' v4 hy (guard_tail hf hT h)⟩⟩

/-- An operation behind a guard that is not met. -/
theorem wpStill_unwanted {P : Program} {ops : Array Oper} {w : World} {Q : Act → Prop} {a : Act} {o : Oper} {rest : List Oper} (h : Region.wanted o (yielded ops a.tmps) = false) (hK : wpStill P ops w Q rest (a.put o.dst undef)) : wpStill P ops w Q (o :: rest) a := by
  unfold wpStill
  rw [if_neg (by rw [h]; decide)]
  exact hK
/-- One that is carried out. -/
theorem wpStill_wanted {P : Program} {ops : Array Oper} {w : World} {Q : Act → Prop} {a : Act} {o : Oper} {rest : List Oper} (h : Region.wanted o (yielded ops a.tmps) = true) (hK : ∀ K : Act → Prop, (∀ a, wpStill P ops w Q rest a → K a) → o.still P a w K) : wpStill P ops w Q (o :: rest) a := by
  unfold wpStill
  rw [if_pos h]
  exact hK _ fun _ h => h

end Go.Proofs.Ytofpjepndhpciaa

namespace Go.Proofs.Ytofpjepndhpciaa
open Go.RowKit Go.Shelf

variable {F : Fence} {P : Program}

/-- What a caller's invariant abides: the turn of whatever is no cells and lies at or beyond B, and of the iterator's own row b, as long as that holds what the iterator began with. -/
def OwnH {β : Type} (B b : Nat) (Hold : World → Prop) (I : β → World → Prop) : Prop :=
  OwnFrom B I ∧ ∀ (s : β) (A C : World), I s A → A.grownBy C (some b) → Hold C → I s C

/-- AN ITERATOR's CONTRACT: what it hands out lies in memory as At says. -/
def SeqY {α : Type} (F : Fence) (P : Program) (g : Nat) (lb : Array Value) (encs : α → Array Value) (b : Nat) (Hold : World → Prop) (At : α → World → Prop) (Kp : World → World → Prop) (S Sp : List α → Prop) (T : Nat) (w : World) : Prop :=
  ∀ (l : Nat) (J Jx : List α → World → Prop) (W : World), W.heap.size = T → Below w.heap.size w W → OwnH W.heap.size b Hold J → OwnH W.heap.size b Hold Jx →
    (∀ m pre x W1, J pre W1 → Sp (pre ++ [x]) → At x W1 → YieldAt F m P l (encs x) W1 fun e W' =>
      (e = .returned (.bool true) ∧ J (pre ++ [x]) W' ∧ Kp W1 W') ∨ (e = .returned (.bool false) ∧ Jx (pre ++ [x]) W' ∧ KeepsFrom T W1 W')) →
    J [] W →
    CallsIn F 1 P g (#[.func (.yield l) #[] #[]] ++ lb) W fun e W' => (∃ v, e = .returned v) ∧ ((∃ xs, S xs ∧ J xs W') ∨ (∃ pre, Sp pre ∧ Jx pre W'))

/-- What is not the row is as it was. -/
theorem kept_row {A C : World} {b : Nat} (hg : A.grownBy C (some b)) {k : Nat} {o : Obj} (hk : k ≠ b) (h : A.heap[k]? = some o) : C.heap[k]? = some o :=
  (hg.block k (Array.getElem?_eq_some_iff.1 h).1 (fun e => hk (by cases e; rfl))).trans h

theorem range_lawY (hd : F.depth = none) (hro : F.round = none) (hF : ∀ k, F.fn k) {n : Nat} {α : Type} {g : Operand} {ps : Array Tmp} {assign body : Code} {Q : Exit → Act → World → Prop} {a : Act} {w : World}
    {gf : Nat} {lb : Array Value} (hg : a.eval g = .func (.func gf) #[] lb) (eg : ∀ args w, (callFunc gf args).run P w = .ok (.enter gf args) w)
    {encs : α → Array Value} {b : Nat} {Hold : World → Prop} {At : α → World → Prop} {Kp : World → World → Prop} {S Sp : List α → Prop} {w0 : World} (hseq : SeqY F P gf lb encs b Hold At Kp S Sp (w.heap.size + 2) w0) (hb : b < w.heap.size ∨ w.heap.size + 2 ≤ b) (hAt : OwnFrom w.heap.size At)
    (hKt : ∀ {A B C : World}, Kp A B → Kp B C → Kp A C) (hKb : ∀ (W : World) (o o' : Obj), W.heap[w.heap.size + 1]? = some o → o.isCells = false → Kp W (W.putObj (w.heap.size + 1) o')) (hb0 : Below w0.heap.size w0 w) (hps : ∀ x, (encs x).size = ps.size)
    (I : List α → World → Prop) (Ix : Code → List α → World → Prop) (hI : OwnH w.heap.size b Hold I) (hIx : ∀ c, OwnH w.heap.size b Hold (Ix c)) (h0 : I [] w) (a₁ : α → Act)
    (hassign : ∀ (l : Nat) (x : α) (W : World) (K : Act → World → Prop), K (a₁ x) W →
      assign.wpIn (F.inRound l) n P (Exit.then K (fun _ _ _ => False)) { tmps := (ps.zip (encs x)).foldl (fun t (p, v) => t.setIfInBounds p v) a.tmps, defers := [] } W)
    (hbody : ∀ (l : Nat) (pre : List α) (x : α) (W : World), I pre W → Sp (pre ++ [x]) → At x W → body.wpIn (F.inRound l) n P (ownPostG w.heap.size Kp I Ix (pre ++ [x]) W) (a₁ x) W)
    (hdone : ∀ (D : Nat) (xs : List α) (W : World), w.heap.size ≤ D → S xs → I xs W → W.heap[D]? = some (.deferred (some [])) → Q .normal { a with defers := { target := .collected D, args := #[] } :: a.defers } W)
    (hstop : ∀ (D : Nat) (c : Code) (pre : List α) (W : World), w.heap.size ≤ D → Sp pre → Ix c pre W → W.heap[D]? = some (.deferred (some [])) → c.wpIn F n P Q { a with defers := { target := .collected D, args := #[] } :: a.defers } W) :
    (Code.rangeFunc g ps assign body).wpIn F n P Q a w := by
  refine wpIn_rangeFunc fun fn hfn => ?_
  rw [hro]
  -- the two blocks of book-keeping: D, then the record behind it
  obtain ⟨D, hD⟩ : ∃ D, D = w.heap.size := ⟨_, rfl⟩
  obtain ⟨R, hR⟩ : ∃ R : LoopState → Option Code → Loop, R = fun s p => { state := s, pending := p, fn, tmps := a.tmps, params := ps, assign, body, defers := D } := ⟨_, rfl⟩
  obtain ⟨V, hV⟩ : ∃ V, V = (w.alloc (.deferred (some []))).alloc (.loop (R .ready none)) := ⟨_, rfl⟩
  have vs : V.heap.size = D + 2 := by rw [hV, hD]; simp
  have vb : Below w.heap.size w V := by rw [hV]; exact ((Below.refl _ w).alloc (Nat.le_refl _) _).alloc (by simp) _
  have vL : V.heap[D + 1]? = some (.loop (R .ready none)) := by
    have := World.alloc_heap_new (w.alloc (.deferred (some []))) (.loop (R .ready none))
    rw [World.size_alloc] at this; rw [hV, hD]; exact this
  have vD : V.heap[D]? = some (.deferred (some [])) := by rw [hV, hD]; exact (Below.heap_alloc _ _ _ (by simp)).trans (World.alloc_heap_new w _)
  have vI : I [] V := by rw [hV]; exact hI.1.alloc _ (hI.1.alloc _ h0)
  have enter := run_enterLoop_outer (P := P) (w := w) fn a.tmps ps assign body
  rw [← hD, show ((w.alloc (.deferred (some []))).alloc (.loop { state := .ready, pending := none, fn, tmps := a.tmps, params := ps, assign, body, defers := D })) = V by rw [hV, hR]] at enter
  refine ⟨D + 1, [{ target := .collected D, args := #[] }], V, { target := .fn (.func gf) lb, args := #[.func (.yield (D + 1)) #[] #[]] }, V, gf, #[.func (.yield (D + 1)) #[] #[]] ++ lb, V, enter, ?_, fun _ _ => hF _, ?_, fun e => by simp [hd] at e, ?_⟩
  · simp only [resolve, hg]; simp [go_sem]
  · simp [invoke, go_sem, eg]
  have hge : ∀ {A : World} {row : Option Nat}, (∀ r, row = some r → V.heap.size ≤ r ∧ ∃ o : Obj, A.heap[r]? = some o ∧ o.isCells = false) → (∀ r, row = some r → w.heap.size ≤ r ∧ ∃ o : Obj, A.heap[r]? = some o ∧ o.isCells = false) :=
    fun h r e => ⟨by have := (h r e).1; omega, (h r e).2⟩
  refine CallsIn_any hd ((hseq (D + 1)
    (fun pre W => I pre W ∧ W.heap[D + 1]? = some (.loop (R .ready none)) ∧ W.heap[D]? = some (.deferred (some [])))
    (fun pre W => ∃ c, Ix c pre W ∧ W.heap[D + 1]? = some (.loop (R .done (some c))) ∧ W.heap[D]? = some (.deferred (some [])))
    V (by omega) (hb0.trans (vb.mono hb0.size))
    ⟨fun s A B row hs hg' hr => ⟨hI.1 s A B row hs.1 hg' (hge hr), kept_low hg' (fun r e => (hr r e).1) (by omega) hs.2.1, kept_low hg' (fun r e => (hr r e).1) (by omega) hs.2.2⟩,
      fun s A C hs hg' hh => ⟨hI.2 s A C hs.1 hg' hh, kept_row hg' (by omega) hs.2.1, kept_row hg' (by omega) hs.2.2⟩⟩
    ⟨fun s A B row hs hg' hr => by
      obtain ⟨c, h1, h2, h3⟩ := hs
      exact ⟨c, (hIx c).1 s A B row h1 hg' (hge hr), kept_low hg' (fun r e => (hr r e).1) (by omega) h2, kept_low hg' (fun r e => (hr r e).1) (by omega) h3⟩,
      fun s A C hs hg' hh => by
        obtain ⟨c, h1, h2, h3⟩ := hs
        exact ⟨c, (hIx c).2 s A C h1 hg' hh, kept_row hg' (by omega) h2, kept_row hg' (by omega) h3⟩⟩
    ?_ ⟨vI, vL, vD⟩).mono ?_)
  · -- one round
    rintro m pre x W ⟨i1, l1, d1⟩ hlen hat
    have yl := run_yield (P := P) (args := encs x) l1 (by rw [hR]; exact hps x)
    rw [hR] at yl
    refine ⟨fn, _, assign, body, yl, RoundIn_any hd (n := n) (roundIn_of_wpIn hfn (hassign _ x W _ ⟨_, run_beginRound l1 (by rw [hR]), ?_⟩))⟩
    clear yl
    have hlt : D + 1 < W.heap.size := (Array.getElem?_eq_some_iff.1 l1).1
    obtain ⟨U, hU⟩ : ∃ U, U = W.putObj (D + 1) (.loop { R .ready none with state := .busy }) := ⟨_, rfl⟩
    rw [← hU]
    have l2 : U.heap[D + 1]? = some (.loop { R .ready none with state := .busy }) := by rw [hU]; exact World.putObj_heap_same hlt
    have d2 : U.heap[D]? = some (.deferred (some [])) := by rw [hU]; exact (World.putObj_heap_other (by omega)).trans d1
    have k2 : Kp W U := by rw [hU]; subst hD; exact hKb _ _ _ l1 rfl
    have i2 : I pre U := by rw [hU]; exact hI.1.putObj _ i1 (by omega) l1 rfl
    refine wpIn_mono (hbody _ pre x U i2 hlen (by rw [hU]; exact hAt.putObj _ hat (by omega) l1 rfl)) ?_
    have close : ∀ (j : Option Code) (T : World), KeepsFrom w.heap.size U T → T.heap[D + 1]? = some (.loop { R .ready none with state := .busy }) ∧
        (Instr.endRound (D + 1) j).run P T = .ok (.bool j.isNone) (T.putObj (D + 1) (.loop (R (if j.isNone then .ready else .done) j))) ∧
        (T.putObj (D + 1) (.loop (R (if j.isNone then .ready else .done) j))).heap[D + 1]? = some (.loop (R (if j.isNone then .ready else .done) j)) ∧
        (T.putObj (D + 1) (.loop (R (if j.isNone then .ready else .done) j))).heap[D]? = some (.deferred (some [])) := fun j T hT => by
      have l3 := hT.same _ _ (by omega) l2 rfl
      have er := run_endRound (P := P) j l3
      refine ⟨l3, ?_, World.putObj_heap_same (Array.getElem?_eq_some_iff.1 l3).1, (World.putObj_heap_other (by omega)).trans (hT.same _ _ (by omega) d2 rfl)⟩
      rw [er, hR]
    have out : ∀ (c : Code) (T : World), KeepsFrom w.heap.size U T → Ix c (pre ++ [x]) T → ∃ v T', (Instr.endRound (D + 1) (some c)).run P T = .ok v T' ∧
        ((Ending.returned v = .returned (.bool true) ∧ (I (pre ++ [x]) T' ∧ T'.heap[D + 1]? = some (.loop (R .ready none)) ∧ T'.heap[D]? = some (.deferred (some []))) ∧ Kp W T') ∨
         (Ending.returned v = .returned (.bool false) ∧ (∃ c, Ix c (pre ++ [x]) T' ∧ T'.heap[D + 1]? = some (.loop (R .done (some c))) ∧ T'.heap[D]? = some (.deferred (some []))) ∧ KeepsFrom (w.heap.size + 2) W T')) := fun c T hT hx => by
      obtain ⟨l3, er, l4, d4⟩ := close (some c) T hT
      exact ⟨_, _, er, .inr ⟨rfl, ⟨c, (hIx _).1.putObj _ hx (by omega) l3 rfl, l4, d4⟩, ((by rw [hU]; exact put_far W _ (by omega)) : KeepsFrom (w.heap.size + 2) W U).trans (KeepsFrom.trans ⟨hT.size, fun k o hk ho hc => hT.same k o (by omega) ho hc⟩ (put_far T _ (by omega)))⟩⟩
    intro e a3 T hp
    cases e with
    | normal =>
      obtain ⟨hT, k3, i3⟩ := hp
      obtain ⟨l3, er, l4, d4⟩ := close none T hT
      exact ⟨_, _, er, .inl ⟨rfl, ⟨hI.1.putObj _ i3 (by omega) l3 rfl, l4, d4⟩, hKt (hKt k2 k3) (by subst hD; exact hKb _ _ _ l3 rfl)⟩⟩
    | ret => exact out .ret T hp.1 hp.2
    | exit id => exact out (.exit id) T hp.1 hp.2
    | goto t => exact out (.goto t) T hp.1 hp.2
    | panic ch => exact hp.elim
    | outgrown => exact hp.elim
  · -- behind the iterator
    rintro e T ⟨⟨v, rfl⟩, hT⟩
    rcases hT with ⟨xs, hS, i3, l3, d3⟩ | ⟨pre, hSp, c, x3, l3, d3⟩
    · have el := run_endLoop (P := P) l3 (by rw [hR]; simp)
      refine ⟨none, T.putObj (D + 1) (.loop { R .ready none with state := .exhausted }), by rw [el, hR], hdone D xs _ (by omega) hS (hI.1.putObj _ i3 (by omega) l3 rfl) ((World.putObj_heap_other (by omega)).trans d3)⟩
    · have el := run_endLoop (P := P) l3 (by rw [hR]; simp)
      refine ⟨some c, T.putObj (D + 1) (.loop { R .done (some c) with state := .exhausted }), by rw [el, hR], hstop D c pre _ (by omega) hSp ((hIx c).1.putObj _ x3 (by omega) l3 rfl) ((World.putObj_heap_other (by omega)).trans d3)⟩

end Go.Proofs.Ytofpjepndhpciaa

namespace Go.Proofs.Ytofpjepndhpciaa
open Go.RowKit Go.Shelf

theorem pow_le9 {m k : Nat} (hm : m ≤ 9) (hk : k ≤ 9) : m ^ k ≤ 387420489 :=
  Nat.le_trans (Nat.pow_le_pow_left hm k) (Nat.le_trans (Nat.pow_le_pow_right (by decide) hk) (by decide))
theorem few_yes {G H : List (List Int)} (h : gOk G = true) (h' : gOk H = true) : fewI G H = decide (H.length ^ G.length ≤ 7000) := by unfold fewI; rw [h, h']; rfl
theorem few_at {G H : List (List Int)} {k p : Nat} (hH : 1 ≤ H.length) (hk : k ≤ G.length) (hp : p = H.length ^ k) (hx : k = G.length ∨ 7000 < p) : p ≤ 7000 ↔ H.length ^ G.length ≤ 7000 := by
  rcases hx with rfl | hx
  · rw [hp]
  · have := Nat.pow_le_pow_right hH hk
    rw [← hp] at this
    omega

theorem nodesQ (a : Option Addr) (m c : Nat) (w : World) :
    Calls Try.prog 52 #[.agg #[.slice a m c]] w fun e w' => e = .returned (.int .i64 m) ∧ w' = w.alloc (.cells #[.slice a m c] 51) :=
  callsIn_wide.1 (nodes_in Fence.wide 0 (fun _ => trivial) rfl a m c w)

set_option maxRecDepth 100000 in
set_option maxHeartbeats 1000000 in
theorem specFew (a : Option Addr) (c : Nat) (a' : Option Addr) (c' : Nat) (G H : List (List Int)) (n₀ : Nat) (w : World) (hM : Mat n₀ w a G) (hM' : Mat n₀ w a' H) (hf : Fit G) (hf' : Fit H) :
    Calls Try.prog 68 #[.slice a G.length c, .slice a' H.length c'] w fun e w' => e = .returned (.bool (fewI G H)) ∧ w = w' := by
  have HF := Lib.hid hf
  have HF' := Lib.hid hf'
  have hl := hf.1
  have hl' := hf'.1
  clear hf hf'
  obtain ⟨z, HZ⟩ : ∃ z, Hid (fewI G H = z) := ⟨_, rfl⟩
  rw [HZ.out]
  go_enter Try.func68, Try.ntmps68
  go_wp2_with fail
  go_loop [5, 6] (fun r i => ∃ k : Nat, k ≤ G.length ∧ i = .int .i64 k ∧ ∃ p : Nat, r = .int .i64 p ∧ p ≤ 7340032000 ∧ Hid (p = H.length ^ k)) (fun _ i => G.length - (intOf i).toNat)
  case atStart => exact ⟨0, Nat.zero_le _, rfl, 1, rfl, by omega, Lib.hid (by simp)⟩
  case round =>
    obtain ⟨k, hk, rfl, p, rfl, hp, HP⟩ := hrel
    have HX : Hid (1 ≤ H.length → (k = G.length ∨ 7000 < p) → (p ≤ 7000 ↔ H.length ^ G.length ≤ 7000)) := Lib.hid fun h1 h2 => few_at h1 hk HP.out h2
    by_cases hlt : k < G.length
    · by_cases hp7 : p ≤ 7000
      · have hpm : p * H.length ≤ 7000 * 1048576 := Nat.mul_le_mul hp7 hl'
        have hp0 : (0 : Int) ≤ (p : Int) * (H.length : Int) := by rw [← Int.natCast_mul]; omega
        have hp1 : (p : Int) * (H.length : Int) ≤ 7340032000 := by rw [← Int.natCast_mul]; omega
        go_wp2_with fail
        go_round
        case rel => exact ⟨k + 1, by omega, by go_num, p * H.length, by rw [Int.natCast_mul], by omega, Lib.hid (by rw [HP.out, Nat.pow_succ])⟩
        case measure => simp [intOf]; omega
      · go_wp2_with fail
        refine (specOk_any _ _ _ _ _ hM HF.out).mono ?_
        rintro e w' ⟨rfl, rfl⟩
        by_cases hg : gOk G = true
        · rw [hg]
          go_wp2_with fail
          refine (specOk_any _ _ _ _ _ hM' HF'.out).mono ?_
          rintro e w' ⟨rfl, rfl⟩
          by_cases hg' : gOk H = true
          · rw [hg']
            have HD : Hid (decide ((p : Int) ≤ 7000) = decide (H.length ^ G.length ≤ 7000)) := Lib.hid (decide_eq_decide.2 (Iff.trans (by omega) (HX.out (good_of hg').1 (.inr (by omega)))))
            go_wp2_with fail
            go_ret
            exact ⟨ret_bool (by rw [← HZ.out, few_yes hg hg']; simpa using HD.out), rfl⟩
          · have hn : gOk H = false := by simpa using hg'
            rw [hn]
            clear hg'
            go_wp2_with fail
            go_ret
            exact ⟨ret_bool (by rw [← HZ.out, few_no2 hn]), rfl⟩
        · have hn : gOk G = false := by simpa using hg
          rw [hn]
          clear hg
          go_wp2_with fail
          go_ret
          exact ⟨ret_bool (by rw [← HZ.out, few_no1 hn]), rfl⟩
    · have hke : k = G.length := by omega
      go_wp2_with fail
      refine (specOk_any _ _ _ _ _ hM HF.out).mono ?_
      rintro e w' ⟨rfl, rfl⟩
      by_cases hg : gOk G = true
      · rw [hg]
        go_wp2_with fail
        refine (specOk_any _ _ _ _ _ hM' HF'.out).mono ?_
        rintro e w' ⟨rfl, rfl⟩
        by_cases hg' : gOk H = true
        · rw [hg']
          have HD : Hid (decide ((p : Int) ≤ 7000) = decide (H.length ^ G.length ≤ 7000)) := Lib.hid (decide_eq_decide.2 (Iff.trans (by omega) (HX.out (good_of hg').1 (.inl hke))))
          go_wp2_with fail
          go_ret
          exact ⟨ret_bool (by rw [← HZ.out, few_yes hg hg']; simpa using HD.out), rfl⟩
        · have hn : gOk H = false := by simpa using hg'
          rw [hn]
          clear hg'
          go_wp2_with fail
          go_ret
          exact ⟨ret_bool (by rw [← HZ.out, few_no2 hn]), rfl⟩
      · have hn : gOk G = false := by simpa using hg
        rw [hn]
        clear hg
        go_wp2_with fail
        go_ret
        exact ⟨ret_bool (by rw [← HZ.out, few_no1 hn]), rfl⟩

end Go.Proofs.Ytofpjepndhpciaa
