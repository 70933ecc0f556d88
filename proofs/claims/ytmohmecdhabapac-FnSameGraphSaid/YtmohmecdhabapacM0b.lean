/-
  A region that draws its order: a load and two moves, a call, a move, and then operations under a guard: 'f(x, i, j) && g(..)'.
-/
import Derived.Test.YtmohmecdhabapacL1
import Derived.StillTailTactics
import Derived.Deep.RegionHeld3
namespace Go.Proofs.Ytmohmecdhabapac
open Go.RowKit Go.Shelf

def lst1 (n : Nat) : Array Bool := (Array.replicate n false).setIfInBounds 1 true
def lst2 (n : Nat) : Array Bool := (lst1 n).setIfInBounds 2 true
def lst3 (n : Nat) : Array Bool := (lst2 n).setIfInBounds 0 true
def lst4 (n : Nat) : Array Bool := (lst3 n).setIfInBounds 3 true
def lst5 (n : Nat) : Array Bool := (lst4 n).setIfInBounds 4 true
/-- The shape of such a region. -/
def shapeB (ops : Array Oper) : Bool :=
  Region.noSelect ops && Region.free .any ops (Array.replicate ops.size false) 1 && (Region.ready .any ops (Array.replicate ops.size false)).contains 1 &&
  Region.free .any ops (lst1 ops.size) 2 && (Region.ready .any ops (lst1 ops.size)).contains 2 && decide (Region.ready .any ops (lst2 ops.size) = [0]) && decide (Region.ready .any ops (lst3 ops.size) = [3]) &&
  Region.free .any ops (lst4 ops.size) 4 && (Region.ready .any ops (lst4 ops.size)).contains 4

theorem region_guarded {P : Program} {id f : Nat} {Q : Exit → Act → World → Prop} {a : Act} {w : World} {l : List Oper} {o0 o1 o2 o3 o4 : Oper} {v0 v1 v2 : Value} (hm : P.follows .mixedOrders = true)
    (hB : shapeB l.toArray = true) (hf : l.length = f + 5) (h0 : l[0]? = some o0) (h1 : l[1]? = some o1) (h2 : l[2]? = some o2) (h3 : l[3]? = some o3) (h4 : l[4]? = some o4)
    (hQ : ∀ c a d v w, Q (.panic c) (a.put d v) w → Q (.panic c) a w)
    (y1 : Yields P l.toArray o1 v1 a) (y2 : Yields P l.toArray o2 v2 (a.put o1.dst v1))
    (y0 : Region.wanted o0 (yielded l.toArray ((a.put o1.dst v1).put o2.dst v2).tmps) = true ∧ (execOp ((a.put o1.dst v1).put o2.dst v2).eval o0).run P { w with drawn := w.drawn + 1 } = .ok (.value v0) { w with drawn := w.drawn + 1 })
    (hc : Region.wanted o3 (yielded l.toArray (((a.put o1.dst v1).put o2.dst v2).put o0.dst v0).tmps) = true ∧
      ∀ K : Act → World → Prop, (∀ a' w' v4, Yields P l.toArray o4 v4 a' → wpAny P .any l.toArray Q f (lst5 l.toArray.size) (a'.put o4.dst v4) w' → K a' w') → Oper.wp P o3 (((a.put o1.dst v1).put o2.dst v2).put o0.dst v0) { w with drawn := w.drawn + 1 } K Q) : (Code.region id l.toArray true).wp P Q a w := by
  simp only [shapeB, Bool.and_eq_true, decide_eq_true_eq] at hB
  obtain ⟨⟨⟨⟨⟨⟨⟨⟨hs, f1⟩, r1⟩, f2⟩, r2⟩, r0⟩, r3⟩, f4⟩, r4⟩ := hB
  refine wp_region_any hm ?_
  have es : l.toArray.size = f + 5 := by simpa using hf
  have g0 : l.toArray[0]? = some o0 := by simpa using h0
  have g1 : l.toArray[1]? = some o1 := by simpa using h1
  have g2 : l.toArray[2]? = some o2 := by simpa using h2
  have g3 : l.toArray[3]? = some o3 := by simpa using h3
  have g4 : l.toArray[4]? = some o4 := by simpa using h4
  rw [show wpAny P .any l.toArray Q l.toArray.size = wpAny P .any l.toArray Q (f + 4 + 1) by rw [es]]
  refine wpAny_take g1 hs f1 r1 (fun c a w => hQ c a _ _ w) y1 ?_
  refine wpAny_take (listed := lst1 l.toArray.size) g2 hs f2 r2 (fun c a w => hQ c a _ _ w) y2 ?_
  refine wpAny_all (listed := lst2 l.toArray.size) (rs := [0]) r0 (by simp) ?_
  intro i hi
  obtain rfl : i = 0 := by simpa using hi
  unfold wpOp
  simp only [g0]
  rw [if_pos y0.1]
  refine .inl ?_
  unfold Oper.wp
  rw [y0.2]
  refine wpAny_all (listed := lst3 l.toArray.size) (rs := [3]) r3 (by simp) ?_
  intro i hi
  obtain rfl : i = 3 := by simpa using hi
  unfold wpOp
  simp only [g3]
  rw [if_pos hc.1]
  refine .inl (hc.2 _ fun a' w' v4 hy hK => ?_)
  exact wpAny_take (listed := lst4 l.toArray.size) g4 hs f4 r4 (fun c a w => hQ c a _ _ w) hy hK

/-- Behind the guard nothing is carried out, or all that is only reads. -/
def restB (ops : Array Oper) (f : Nat) : Bool := Region.noSelect ops && Region.lexFrom .any ops f 5 (lst5 ops.size)
theorem guard_still {P : Program} {f : Nat} {Q : Exit → Act → World → Prop} {a : Act} {w : World} {l : List Oper} (hf : l.length = f + 5) (hB : restB l.toArray f = true)
    (h : wpStill P l.toArray w (fun a' => Q .normal a' w) (l.drop 5) a) : wpAny P .any l.toArray Q f (lst5 l.toArray.size) a w := by
  simp only [restB, Bool.and_eq_true] at hB
  have hl : (l.drop 5).length = f := by simp; omega
  refine wpAny_of_still (Q := fun a' => Q .normal a' w) (fun _ h => h) _ _ _ ?_
  have := wpAnyS_lex (md := .any) (P := P) (w := w) hB.1 (l.drop 5) 5 (lst5 l.toArray.size) a (fun j => by simp [List.getElem?_drop]) (by rw [hl]; exact hB.2) h
  rw [hl] at this
  exact this

/-- Behind the guard all reads till operation n, and from there on is one chain. -/
def closedB (ops : Array Oper) (listed : Array Bool) : Bool := (List.range ops.size).all fun j => match ops[j]? with
  | some oj => !listed.getD j false || oj.after.all fun e => !Region.binds .any e || listed.getD e.on false
  | none => true
def tailB (ops : Array Oper) (n : Nat) : Bool :=
  Region.noSelect ops && decide (5 ≤ n) && decide (n < ops.size) && Region.sinkB .any ops n && Region.chainB .any ops n && Region.lexHead .any ops (ops.size - n) (n - 5) 5 (lst5 ops.size) && closedB ops (lst5 ops.size) && ((List.range ops.size).all fun t => decide (t < n) || !(lst5 ops.size).getD t true)
theorem guard_tail {P : Program} {f n : Nat} {Q : Exit → Act → World → Prop} {a : Act} {w : World} {l : List Oper} (hf : l.length = f + 5) (hB : tailB l.toArray n = true)
    (h : wpStill P l.toArray w (fun a' => wpList P l.toArray Q (l.drop n) a' w) ((l.drop 5).take (n - 5)) a) : wpAny P .any l.toArray Q f (lst5 l.toArray.size) a w := by
  simp only [tailB, Bool.and_eq_true, decide_eq_true_eq] at hB
  obtain ⟨⟨⟨⟨⟨⟨⟨hsel, h5⟩, hn⟩, hs⟩, hc⟩, hlex⟩, hcl⟩, htl⟩ := hB
  have es : l.toArray.size = f + 5 := by simpa using hf
  have hn' : n < l.length := by simpa using hn
  have hl : ((l.drop 5).take (n - 5)).length = n - 5 := by simp; omega
  have hdl : (l.drop n).length = l.toArray.size - n := by simp
  have inv : HeadInv .any l.toArray n (lst5 l.toArray.size) := by
    refine ⟨by simp [lst5, lst4, lst3, lst2, lst1], fun j oj hj hlj e he hb => ?_, fun t ht ht' => ?_⟩
    · have h1 := List.all_eq_true.1 hcl j (List.mem_range.2 (Array.getElem?_eq_some_iff.1 hj).1)
      simp only [hj, hlj, Bool.not_true, Bool.false_or] at h1
      have h2 := Array.all_eq_true'.1 h1 e he
      simpa [hb] using h2
    · have h1 := List.all_eq_true.1 htl t (List.mem_range.2 ht')
      simp only [Bool.or_eq_true, decide_eq_true_eq] at h1
      rcases h1 with h1 | h1
      · omega
      · simpa using h1
  have H := wpAnyL_lex (md := .any) (P := P) (w := w) (g := l.toArray.size - n) hsel hs hc hn ((l.drop 5).take (n - 5)) 5 (lst5 l.toArray.size) a (fun j hj => by
    have hj' : j < n - 5 := by rw [hl] at hj; exact hj
    simp [hj', List.getElem?_drop]) (by rw [hl]; omega) inv (by rw [hl]; exact hlex) h
  have := wpAny_of_head (Q' := Q) (g := l.toArray.size - n) (fun listed a' hL => by
    have := wpAny_of_seq (md := .any) (Q' := Q) (l.drop n) n listed a' w (fun j => by simp [List.getElem?_drop]) (by rw [hdl]; exact hL.1) hL.2
    rwa [hdl] at this) _ _ _ H
  rw [hl, show n - 5 + (l.toArray.size - n) = f by omega] at this
  exact this

/-- THE WHOLE: the call, and then either way. -/
theorem region_two {P : Program} {id f n : Nat} {Q : Exit → Act → World → Prop} {a : Act} {w : World} {l : List Oper} {o0 o1 o2 o3 o4 : Oper} {v0 v1 v2 : Value} (hm : P.follows .mixedOrders = true)
    (hB : shapeB l.toArray = true) (hR : restB l.toArray f = true) (hT : tailB l.toArray n = true) (hf : l.length = f + 5) (h0 : l[0]? = some o0) (h1 : l[1]? = some o1) (h2 : l[2]? = some o2) (h3 : l[3]? = some o3) (h4 : l[4]? = some o4)
    (hQ : ∀ c a d v w, Q (.panic c) (a.put d v) w → Q (.panic c) a w)
    (y1 : Yields P l.toArray o1 v1 a) (y2 : Yields P l.toArray o2 v2 (a.put o1.dst v1))
    (y0 : Region.wanted o0 (yielded l.toArray ((a.put o1.dst v1).put o2.dst v2).tmps) = true ∧ (execOp ((a.put o1.dst v1).put o2.dst v2).eval o0).run P { w with drawn := w.drawn + 1 } = .ok (.value v0) { w with drawn := w.drawn + 1 })
    (hc : Region.wanted o3 (yielded l.toArray (((a.put o1.dst v1).put o2.dst v2).put o0.dst v0).tmps) = true ∧
      ∀ K : Act → World → Prop, ((∀ a' w' v4, Yields P l.toArray o4 v4 a' → wpStill P l.toArray w' (fun a'' => Q .normal a'' w') (l.drop 5) (a'.put o4.dst v4) → K a' w') ∧
          (∀ a' w' v4, Yields P l.toArray o4 v4 a' → wpStill P l.toArray w' (fun a'' => wpList P l.toArray Q (l.drop n) a'' w') ((l.drop 5).take (n - 5)) (a'.put o4.dst v4) → K a' w')) →
        Oper.wp P o3 (((a.put o1.dst v1).put o2.dst v2).put o0.dst v0) { w with drawn := w.drawn + 1 } K Q) : (Code.region id l.toArray true).wp P Q a w :=
  region_guarded hm hB hf h0 h1 h2 h3 h4 hQ y1 y2 y0 ⟨hc.1, fun K hK => hc.2 K ⟨fun a' w' v4 hy h => hK a' w' v4 hy (guard_still hf hR h), fun a' w' v4 hy h => hK a' w' v4 hy (guard_tail hf hT h)⟩⟩

/-- An operation behind a guard that is not met. -/
theorem wpStill_unwanted {P : Program} {ops : Array Oper} {w : World} {Q : Act → Prop} {a : Act} {o : Oper} {rest : List Oper} (h : Region.wanted o (yielded ops a.tmps) = false) (hK : wpStill P ops w Q rest (a.put o.dst undef)) : wpStill P ops w Q (o :: rest) a := by
  unfold wpStill
  rw [if_neg (by rw [h]; decide)]
  exact hK
/-- One that is carried out. -/
theorem wpStill_wanted {P : Program} {ops : Array Oper} {w : World} {Q : Act → Prop} {a : Act} {o : Oper} {rest : List Oper} (h : Region.wanted o (yielded ops a.tmps) = true) (hK : ∀ K : Act → Prop, (∀ a, wpStill P ops w Q rest a → K a) → o.still P a w K) : wpStill P ops w Q (o :: rest) a := by
  unfold wpStill
  rw [if_pos h]
  exact hK _ fun _ h => h

end Go.Proofs.Ytmohmecdhabapac
