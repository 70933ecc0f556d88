/-
  A range over a function that hands out the same memory in every round: the caller's invariant abides whatever the iterator writes into that row.
-/
import Derived.Test.YtmohmecdhabapacL1
namespace Go.Proofs.Ytmohmecdhabapac
open Go.RowKit Go.Shelf

variable {F : Fence} {P : Program}

/-- What a caller's invariant abides: the turn of whatever is no cells and lies at or beyond B, and of the iterator's own row b, as long as that holds what the iterator began with. -/
def OwnH {β : Type} (B b : Nat) (Hold : World → Prop) (I : β → World → Prop) : Prop :=
  OwnFrom B I ∧ ∀ (s : β) (A C : World), I s A → A.grownBy C (some b) → Hold C → I s C

/-- AN ITERATOR's CONTRACT: what it hands out lies in memory as At says. -/
def SeqY {α : Type} (F : Fence) (P : Program) (g : Nat) (lb : Array Value) (encs : α → Array Value) (b : Nat) (Hold : World → Prop) (At : α → World → Prop) (Kp : World → World → Prop) (S Sp : List α → Prop) (T : Nat) (w : World) : Prop :=
  ∀ (l : Nat) (J Jx : List α → World → Prop) (W : World), W.heap.size = T → Below w.heap.size w W → OwnH W.heap.size b Hold J → OwnH W.heap.size b Hold Jx →
    (∀ m pre x W1, J pre W1 → Sp (pre ++ [x]) → At x W1 → YieldAt F m P l (encs x) W1 fun e W' =>
      (e = .returned (.bool true) ∧ J (pre ++ [x]) W' ∧ Kp W1 W') ∨ (e = .returned (.bool false) ∧ Jx (pre ++ [x]) W' ∧ KeepsFrom T W1 W')) →
    J [] W →
    CallsIn F 1 P g (#[.func (.yield l) #[] #[]] ++ lb) W fun e W' => (∃ v, e = .returned v) ∧ ((∃ xs, S xs ∧ J xs W') ∨ (∃ pre, Sp pre ∧ Jx pre W'))

/-- What is not the row is as it was. -/
theorem kept_row {A C : World} {b : Nat} (hg : A.grownBy C (some b)) {k : Nat} {o : Obj} (hk : k ≠ b) (h : A.heap[k]? = some o) : C.heap[k]? = some o :=
  (hg.block k (Array.getElem?_eq_some_iff.1 h).1 (fun e => hk (by cases e; rfl))).trans h

theorem range_lawY (hd : F.depth = none) (hro : F.round = none) (hF : ∀ k, F.fn k) {n : Nat} {α : Type} {g : Operand} {ps : Array Tmp} {assign body : Code} {Q : Exit → Act → World → Prop} {a : Act} {w : World}
    {gf : Nat} {lb : Array Value} (hg : a.eval g = .func (.func gf) #[] lb) (eg : ∀ args w, (callFunc gf args).run P w = .ok (.enter gf args) w)
    {encs : α → Array Value} {b : Nat} {Hold : World → Prop} {At : α → World → Prop} {Kp : World → World → Prop} {S Sp : List α → Prop} {w0 : World} (hseq : SeqY F P gf lb encs b Hold At Kp S Sp (w.heap.size + 2) w0) (hb : b < w.heap.size ∨ w.heap.size + 2 ≤ b) (hAt : OwnFrom w.heap.size At)
    (hKt : ∀ {A B C : World}, Kp A B → Kp B C → Kp A C) (hKb : ∀ (W : World) (o o' : Obj), W.heap[w.heap.size + 1]? = some o → o.isCells = false → Kp W (W.putObj (w.heap.size + 1) o')) (hb0 : Below w0.heap.size w0 w) (hps : ∀ x, (encs x).size = ps.size)
    (I : List α → World → Prop) (Ix : Code → List α → World → Prop) (hI : OwnH w.heap.size b Hold I) (hIx : ∀ c, OwnH w.heap.size b Hold (Ix c)) (h0 : I [] w) (a₁ : α → Act)
    (hassign : ∀ (l : Nat) (x : α) (W : World) (K : Act → World → Prop), K (a₁ x) W →
      assign.wpIn (F.inRound l) n P (Exit.then K (fun _ _ _ => False)) { tmps := (ps.zip (encs x)).foldl (fun t (p, v) => t.setIfInBounds p v) a.tmps, defers := [] } W)
    (hbody : ∀ (l : Nat) (pre : List α) (x : α) (W : World), I pre W → Sp (pre ++ [x]) → At x W → body.wpIn (F.inRound l) n P (ownPostG w.heap.size Kp I Ix (pre ++ [x]) W) (a₁ x) W)
    (hdone : ∀ (D : Nat) (xs : List α) (W : World), w.heap.size ≤ D → S xs → I xs W → W.heap[D]? = some (.deferred (some [])) → Q .normal { a with defers := { target := .collected D, args := #[] } :: a.defers } W)
    (hstop : ∀ (D : Nat) (c : Code) (pre : List α) (W : World), w.heap.size ≤ D → Sp pre → Ix c pre W → W.heap[D]? = some (.deferred (some [])) → c.wpIn F n P Q { a with defers := { target := .collected D, args := #[] } :: a.defers } W) :
    (Code.rangeFunc g ps assign body).wpIn F n P Q a w := by
  refine wpIn_rangeFunc fun fn hfn => ?_
  rw [hro]
  -- the two blocks of book-keeping: D, then the record behind it
  obtain ⟨D, hD⟩ : ∃ D, D = w.heap.size := ⟨_, rfl⟩
  obtain ⟨R, hR⟩ : ∃ R : LoopState → Option Code → Loop, R = fun s p => { state := s, pending := p, fn, tmps := a.tmps, params := ps, assign, body, defers := D } := ⟨_, rfl⟩
  obtain ⟨V, hV⟩ : ∃ V, V = (w.alloc (.deferred (some []))).alloc (.loop (R .ready none)) := ⟨_, rfl⟩
  have vs : V.heap.size = D + 2 := by rw [hV, hD]; simp
  have vb : Below w.heap.size w V := by rw [hV]; exact ((Below.refl _ w).alloc (Nat.le_refl _) _).alloc (by simp) _
  have vL : V.heap[D + 1]? = some (.loop (R .ready none)) := by
    have := World.alloc_heap_new (w.alloc (.deferred (some []))) (.loop (R .ready none))
    rw [World.size_alloc] at this; rw [hV, hD]; exact this
  have vD : V.heap[D]? = some (.deferred (some [])) := by rw [hV, hD]; exact (Below.heap_alloc _ _ _ (by simp)).trans (World.alloc_heap_new w _)
  have vI : I [] V := by rw [hV]; exact hI.1.alloc _ (hI.1.alloc _ h0)
  have enter := run_enterLoop_outer (P := P) (w := w) fn a.tmps ps assign body
  rw [← hD, show ((w.alloc (.deferred (some []))).alloc (.loop { state := .ready, pending := none, fn, tmps := a.tmps, params := ps, assign, body, defers := D })) = V by rw [hV, hR]] at enter
  refine ⟨D + 1, [{ target := .collected D, args := #[] }], V, { target := .fn (.func gf) lb, args := #[.func (.yield (D + 1)) #[] #[]] }, V, gf, #[.func (.yield (D + 1)) #[] #[]] ++ lb, V, enter, ?_, fun _ _ => hF _, ?_, fun e => by simp [hd] at e, ?_⟩
  · simp only [resolve, hg]; simp [go_sem]
  · simp [invoke, go_sem, eg]
  have hge : ∀ {A : World} {row : Option Nat}, (∀ r, row = some r → V.heap.size ≤ r ∧ ∃ o : Obj, A.heap[r]? = some o ∧ o.isCells = false) → (∀ r, row = some r → w.heap.size ≤ r ∧ ∃ o : Obj, A.heap[r]? = some o ∧ o.isCells = false) :=
    fun h r e => ⟨by have := (h r e).1; omega, (h r e).2⟩
  refine CallsIn_any hd ((hseq (D + 1)
    (fun pre W => I pre W ∧ W.heap[D + 1]? = some (.loop (R .ready none)) ∧ W.heap[D]? = some (.deferred (some [])))
    (fun pre W => ∃ c, Ix c pre W ∧ W.heap[D + 1]? = some (.loop (R .done (some c))) ∧ W.heap[D]? = some (.deferred (some [])))
    V (by omega) (hb0.trans (vb.mono hb0.size))
    ⟨fun s A B row hs hg' hr => ⟨hI.1 s A B row hs.1 hg' (hge hr), kept_low hg' (fun r e => (hr r e).1) (by omega) hs.2.1, kept_low hg' (fun r e => (hr r e).1) (by omega) hs.2.2⟩,
      fun s A C hs hg' hh => ⟨hI.2 s A C hs.1 hg' hh, kept_row hg' (by omega) hs.2.1, kept_row hg' (by omega) hs.2.2⟩⟩
    ⟨fun s A B row hs hg' hr => by
      obtain ⟨c, h1, h2, h3⟩ := hs
      exact ⟨c, (hIx c).1 s A B row h1 hg' (hge hr), kept_low hg' (fun r e => (hr r e).1) (by omega) h2, kept_low hg' (fun r e => (hr r e).1) (by omega) h3⟩,
      fun s A C hs hg' hh => by
        obtain ⟨c, h1, h2, h3⟩ := hs
        exact ⟨c, (hIx c).2 s A C h1 hg' hh, kept_row hg' (by omega) h2, kept_row hg' (by omega) h3⟩⟩
    ?_ ⟨vI, vL, vD⟩).mono ?_)
  · -- one round
    rintro m pre x W ⟨i1, l1, d1⟩ hlen hat
    have yl := run_yield (P := P) (args := encs x) l1 (by rw [hR]; exact hps x)
    rw [hR] at yl
    refine ⟨fn, _, assign, body, yl, RoundIn_any hd (n := n) (roundIn_of_wpIn hfn (hassign _ x W _ ⟨_, run_beginRound l1 (by rw [hR]), ?_⟩))⟩
    clear yl
    have hlt : D + 1 < W.heap.size := (Array.getElem?_eq_some_iff.1 l1).1
    obtain ⟨U, hU⟩ : ∃ U, U = W.putObj (D + 1) (.loop { R .ready none with state := .busy }) := ⟨_, rfl⟩
    rw [← hU]
    have l2 : U.heap[D + 1]? = some (.loop { R .ready none with state := .busy }) := by rw [hU]; exact World.putObj_heap_same hlt
    have d2 : U.heap[D]? = some (.deferred (some [])) := by rw [hU]; exact (World.putObj_heap_other (by omega)).trans d1
    have k2 : Kp W U := by rw [hU]; subst hD; exact hKb _ _ _ l1 rfl
    have i2 : I pre U := by rw [hU]; exact hI.1.putObj _ i1 (by omega) l1 rfl
    refine wpIn_mono (hbody _ pre x U i2 hlen (by rw [hU]; exact hAt.putObj _ hat (by omega) l1 rfl)) ?_
    have close : ∀ (j : Option Code) (T : World), KeepsFrom w.heap.size U T → T.heap[D + 1]? = some (.loop { R .ready none with state := .busy }) ∧
        (Instr.endRound (D + 1) j).run P T = .ok (.bool j.isNone) (T.putObj (D + 1) (.loop (R (if j.isNone then .ready else .done) j))) ∧
        (T.putObj (D + 1) (.loop (R (if j.isNone then .ready else .done) j))).heap[D + 1]? = some (.loop (R (if j.isNone then .ready else .done) j)) ∧
        (T.putObj (D + 1) (.loop (R (if j.isNone then .ready else .done) j))).heap[D]? = some (.deferred (some [])) := fun j T hT => by
      have l3 := hT.same _ _ (by omega) l2 rfl
      have er := run_endRound (P := P) j l3
      refine ⟨l3, ?_, World.putObj_heap_same (Array.getElem?_eq_some_iff.1 l3).1, (World.putObj_heap_other (by omega)).trans (hT.same _ _ (by omega) d2 rfl)⟩
      rw [er, hR]
    have out : ∀ (c : Code) (T : World), KeepsFrom w.heap.size U T → Ix c (pre ++ [x]) T → ∃ v T', (Instr.endRound (D + 1) (some c)).run P T = .ok v T' ∧
        ((Ending.returned v = .returned (.bool true) ∧ (I (pre ++ [x]) T' ∧ T'.heap[D + 1]? = some (.loop (R .ready none)) ∧ T'.heap[D]? = some (.deferred (some []))) ∧ Kp W T') ∨
         (Ending.returned v = .returned (.bool false) ∧ (∃ c, Ix c (pre ++ [x]) T' ∧ T'.heap[D + 1]? = some (.loop (R .done (some c))) ∧ T'.heap[D]? = some (.deferred (some []))) ∧ KeepsFrom (w.heap.size + 2) W T')) := fun c T hT hx => by
      obtain ⟨l3, er, l4, d4⟩ := close (some c) T hT
      exact ⟨_, _, er, .inr ⟨rfl, ⟨c, (hIx _).1.putObj _ hx (by omega) l3 rfl, l4, d4⟩, ((by rw [hU]; exact put_far W _ (by omega)) : KeepsFrom (w.heap.size + 2) W U).trans (KeepsFrom.trans ⟨hT.size, fun k o hk ho hc => hT.same k o (by omega) ho hc⟩ (put_far T _ (by omega)))⟩⟩
    intro e a3 T hp
    cases e with
    | normal =>
      obtain ⟨hT, k3, i3⟩ := hp
      obtain ⟨l3, er, l4, d4⟩ := close none T hT
      exact ⟨_, _, er, .inl ⟨rfl, ⟨hI.1.putObj _ i3 (by omega) l3 rfl, l4, d4⟩, hKt (hKt k2 k3) (by subst hD; exact hKb _ _ _ l3 rfl)⟩⟩
    | ret => exact out .ret T hp.1 hp.2
    | exit id => exact out (.exit id) T hp.1 hp.2
    | goto t => exact out (.goto t) T hp.1 hp.2
    | panic ch => exact hp.elim
    | outgrown => exact hp.elim
  · -- behind the iterator
    rintro e T ⟨⟨v, rfl⟩, hT⟩
    rcases hT with ⟨xs, hS, i3, l3, d3⟩ | ⟨pre, hSp, c, x3, l3, d3⟩
    · have el := run_endLoop (P := P) l3 (by rw [hR]; simp)
      refine ⟨none, T.putObj (D + 1) (.loop { R .ready none with state := .exhausted }), by rw [el, hR], hdone D xs _ (by omega) hS (hI.1.putObj _ i3 (by omega) l3 rfl) ((World.putObj_heap_other (by omega)).trans d3)⟩
    · have el := run_endLoop (P := P) l3 (by rw [hR]; simp)
      refine ⟨some c, T.putObj (D + 1) (.loop { R .done (some c) with state := .exhausted }), by rw [el, hR], hstop D c pre _ (by omega) hSp ((hIx c).1.putObj _ x3 (by omega) l3 rfl) ((World.putObj_heap_other (by omega)).trans d3)⟩

end Go.Proofs.Ytmohmecdhabapac
