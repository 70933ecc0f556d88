/-
  Several texts in one.
  A range over a function whose iterator itself ranges over a function: the caller's invariant abides the turn of whatever is no cells and lies at or beyond the loop's begin. At a fence without a depth.
  The iterator over all arrows of a graph (impl.graph.arrows): its contract.
  impl.ArrowsIn and its model: how many arrows a graph has.
-/
import Derived.Test.YtofpjepndhpciaaZA
namespace Go.Proofs.Ytofpjepndhpciaa
open Go.RowKit Go.Shelf

variable {F : Fence} {P : Program}

theorem RoundIn_any (hd : F.depth = none) {n m l : Nat} {f : FuncId} {tmps : Array Value} {assign body : Code} {w : World} {R : Ending → World → Prop} (h : RoundIn F n P l f tmps assign body w R) : RoundIn F m P l f tmps assign body w R :=
  ⟨h.1, fun c cs _ => h.2 c cs (fun d e => by rw [hd] at e; cases e)⟩
theorem RoundIn_round {n l l' : Nat} {f : FuncId} {tmps : Array Value} {assign body : Code} {w : World} {R : Ending → World → Prop} (h : RoundIn F n P l f tmps assign body w R) : RoundIn (F.inRound l') n P l f tmps assign body w R := h
theorem CallsIn_any (hd : F.depth = none) {n m : Nat} {f : FuncId} {args : Array Value} {w : World} {R : Ending → World → Prop} (h : CallsIn F n P f args w R) : CallsIn F m P f args w R :=
  ⟨h.1, fun cs _ => h.2 cs (fun d e => by rw [hd] at e; cases e)⟩

/-- AN ITERATOR's CONTRACT: for every caller's invariant that abides the turn of what is no cells and lies beyond; it is called where at least T blocks lie. -/
def SeqX {α : Type} (F : Fence) (P : Program) (g : Nat) (lb : Array Value) (encs : α → Array Value) (Kp : World → World → Prop) (S Sp : List α → Prop) (N T : Nat) (w : World) : Prop :=
  ∀ (l : Nat) (J Jx : List α → World → Prop) (W : World), T ≤ W.heap.size → Below w.heap.size w W → OwnFrom W.heap.size J → OwnFrom W.heap.size Jx →
    (∀ m pre x W1, J pre W1 → pre.length < N → YieldAt F m P l (encs x) W1 fun e W' =>
      (e = .returned (.bool true) ∧ J (pre ++ [x]) W' ∧ Kp W1 W') ∨ (e = .returned (.bool false) ∧ Jx (pre ++ [x]) W' ∧ KeepsFrom T W1 W')) →
    J [] W →
    CallsIn F 1 P g (#[.func (.yield l) #[] #[]] ++ lb) W fun e W' => (∃ v, e = .returned v) ∧ ((∃ xs, S xs ∧ J xs W') ∨ (∃ pre, Sp pre ∧ Jx pre W'))

theorem seqX_of_K {α : Type} {g : Nat} {lb : Array Value} {encs : α → Array Value} {Kp : World → World → Prop} {S Sp : List α → Prop} {N : Nat} {w : World} (T : Nat)
    (h : SeqStopsK F 1 P g lb encs Kp S Sp N w) : SeqX F P g lb encs Kp S Sp N T w := fun l J Jx W _ hW hJ hJx hY h0 =>
  h l J Jx W hW (fun s A B row hs hg hr => hJ s A B row hs hg (fun r e => ⟨(hr r e).1, (hr r e).2.choose, (hr r e).2.choose_spec.1, Obj.not_cells_of_walk (hr r e).2.choose_spec.2⟩))
    (fun s A B row hs hg hr => hJx s A B row hs hg (fun r e => ⟨(hr r e).1, (hr r e).2.choose, (hr r e).2.choose_spec.1, Obj.not_cells_of_walk (hr r e).2.choose_spec.2⟩)) (fun pre x W1 hj hl => by
      obtain ⟨fn, tmps, assign, body, hy, hR⟩ := hY 0 pre x W1 hj hl
      exact ⟨fn, tmps, assign, body, hy, hR.mono fun e W' h => h.imp id fun h => ⟨h.1, h.2.1⟩⟩) h0

/-- What lies below a block is not turned where only what lies at or beyond it is. -/
theorem kept_low {A B : World} {row : Option Nat} (hg : A.grownBy B row) {b k : Nat} {o : Obj} (hr : ∀ r, row = some r → b ≤ r) (hk : k < b) (h : A.heap[k]? = some o) : B.heap[k]? = some o :=
  (hg.block k (Array.getElem?_eq_some_iff.1 h).1 (fun e => by have := hr k e.symm; omega)).trans h

theorem put_far (W : World) {l B : Nat} (o : Obj) (h : l < B) : KeepsFrom B W (W.putObj l o) :=
  ⟨by simp, fun k o1 hk h1 _ => ((grownBy_putObj' W l o).block k (Array.getElem?_eq_some_iff.1 h1).1 (fun e => by cases e; omega)).trans h1⟩

theorem range_law (hd : F.depth = none) (hro : F.round = none) (hF : ∀ k, F.fn k) {n : Nat} {α : Type} {g : Operand} {ps : Array Tmp} {assign body : Code} {Q : Exit → Act → World → Prop} {a : Act} {w : World}
    {gf : Nat} {lb : Array Value} (hg : a.eval g = .func (.func gf) #[] lb) (eg : ∀ args w, (callFunc gf args).run P w = .ok (.enter gf args) w)
    {encs : α → Array Value} {Kp : World → World → Prop} {S Sp : List α → Prop} {N : Nat} {w0 : World} (hseq : SeqX F P gf lb encs Kp S Sp N (w.heap.size + 2) w0)
    (hKt : ∀ {A B C : World}, Kp A B → Kp B C → Kp A C) (hKb : ∀ (W : World) (o o' : Obj), W.heap[w.heap.size + 1]? = some o → o.isCells = false → Kp W (W.putObj (w.heap.size + 1) o')) (hb0 : Below w0.heap.size w0 w) (hps : ∀ x, (encs x).size = ps.size)
    (I : List α → World → Prop) (Ix : Code → List α → World → Prop) (hI : OwnFrom w.heap.size I) (hIx : ∀ c, OwnFrom w.heap.size (Ix c)) (h0 : I [] w) (a₁ : α → Act)
    (hassign : ∀ (l : Nat) (x : α) (W : World) (K : Act → World → Prop), K (a₁ x) W →
      assign.wpIn (F.inRound l) n P (Exit.then K (fun _ _ _ => False)) { tmps := (ps.zip (encs x)).foldl (fun t (p, v) => t.setIfInBounds p v) a.tmps, defers := [] } W)
    (hbody : ∀ (l : Nat) (pre : List α) (x : α) (W : World), I pre W → pre.length < N → body.wpIn (F.inRound l) n P (ownPostG w.heap.size Kp I Ix (pre ++ [x]) W) (a₁ x) W)
    (hdone : ∀ (D : Nat) (xs : List α) (W : World), w.heap.size ≤ D → S xs → I xs W → W.heap[D]? = some (.deferred (some [])) → Q .normal { a with defers := { target := .collected D, args := #[] } :: a.defers } W)
    (hstop : ∀ (D : Nat) (c : Code) (pre : List α) (W : World), w.heap.size ≤ D → Sp pre → Ix c pre W → W.heap[D]? = some (.deferred (some [])) → c.wpIn F n P Q { a with defers := { target := .collected D, args := #[] } :: a.defers } W) :
    (Code.rangeFunc g ps assign body).wpIn F n P Q a w := by
  refine wpIn_rangeFunc fun fn hfn => ?_
  rw [hro]
  -- the two blocks of book-keeping: D, then the record behind it
  obtain ⟨D, hD⟩ : ∃ D, D = w.heap.size := ⟨_, rfl⟩
  obtain ⟨R, hR⟩ : ∃ R : LoopState → Option Code → Loop, R = fun s p => { state := s, pending := p, fn, tmps := a.tmps, params := ps, assign, body, defers := D } := ⟨_, rfl⟩
  obtain ⟨V, hV⟩ : ∃ V, V = (w.alloc (.deferred (some []))).alloc (.loop (R .ready none)) := ⟨_, rfl⟩
  have vs : V.heap.size = D + 2 := by rw [hV, hD]; simp
  have vb : Below w.heap.size w V := by rw [hV]; exact ((Below.refl _ w).alloc (Nat.le_refl _) _).alloc (by simp) _
  have vL : V.heap[D + 1]? = some (.loop (R .ready none)) := by
    have := World.alloc_heap_new (w.alloc (.deferred (some []))) (.loop (R .ready none))
    rw [World.size_alloc] at this; rw [hV, hD]; exact this
  have vD : V.heap[D]? = some (.deferred (some [])) := by rw [hV, hD]; exact (Below.heap_alloc _ _ _ (by simp)).trans (World.alloc_heap_new w _)
  have vI : I [] V := by rw [hV]; exact hI.alloc _ (hI.alloc _ h0)
  have enter := run_enterLoop_outer (P := P) (w := w) fn a.tmps ps assign body
  rw [← hD, show ((w.alloc (.deferred (some []))).alloc (.loop { state := .ready, pending := none, fn, tmps := a.tmps, params := ps, assign, body, defers := D })) = V by rw [hV, hR]] at enter
  refine ⟨D + 1, [{ target := .collected D, args := #[] }], V, { target := .fn (.func gf) lb, args := #[.func (.yield (D + 1)) #[] #[]] }, V, gf, #[.func (.yield (D + 1)) #[] #[]] ++ lb, V, enter, ?_, fun _ _ => hF _, ?_, fun e => by simp [hd] at e, ?_⟩
  · simp only [resolve, hg]; simp [go_sem]
  · simp [invoke, go_sem, eg]
  have hge : ∀ {A : World} {row : Option Nat}, (∀ r, row = some r → V.heap.size ≤ r ∧ ∃ o : Obj, A.heap[r]? = some o ∧ o.isCells = false) → (∀ r, row = some r → w.heap.size ≤ r ∧ ∃ o : Obj, A.heap[r]? = some o ∧ o.isCells = false) :=
    fun h r e => ⟨by have := (h r e).1; omega, (h r e).2⟩
  refine CallsIn_any hd ((hseq (D + 1)
    (fun pre W => I pre W ∧ W.heap[D + 1]? = some (.loop (R .ready none)) ∧ W.heap[D]? = some (.deferred (some [])))
    (fun pre W => ∃ c, Ix c pre W ∧ W.heap[D + 1]? = some (.loop (R .done (some c))) ∧ W.heap[D]? = some (.deferred (some [])))
    V (by omega) (hb0.trans (vb.mono hb0.size))
    (fun s A B row hs hg' hr => ⟨hI s A B row hs.1 hg' (hge hr), kept_low hg' (fun r e => (hr r e).1) (by omega) hs.2.1, kept_low hg' (fun r e => (hr r e).1) (by omega) hs.2.2⟩)
    (fun s A B row hs hg' hr => by
      obtain ⟨c, h1, h2, h3⟩ := hs
      exact ⟨c, hIx c s A B row h1 hg' (hge hr), kept_low hg' (fun r e => (hr r e).1) (by omega) h2, kept_low hg' (fun r e => (hr r e).1) (by omega) h3⟩)
    ?_ ⟨vI, vL, vD⟩).mono ?_)
  · -- one round
    rintro m pre x W ⟨i1, l1, d1⟩ hlen
    have yl := run_yield (P := P) (args := encs x) l1 (by rw [hR]; exact hps x)
    rw [hR] at yl
    refine ⟨fn, _, assign, body, yl, RoundIn_any hd (n := n) (roundIn_of_wpIn hfn (hassign _ x W _ ⟨_, run_beginRound l1 (by rw [hR]), ?_⟩))⟩
    clear yl
    have hlt : D + 1 < W.heap.size := (Array.getElem?_eq_some_iff.1 l1).1
    obtain ⟨U, hU⟩ : ∃ U, U = W.putObj (D + 1) (.loop { R .ready none with state := .busy }) := ⟨_, rfl⟩
    rw [← hU]
    have l2 : U.heap[D + 1]? = some (.loop { R .ready none with state := .busy }) := by rw [hU]; exact World.putObj_heap_same hlt
    have d2 : U.heap[D]? = some (.deferred (some [])) := by rw [hU]; exact (World.putObj_heap_other (by omega)).trans d1
    have k2 : Kp W U := by rw [hU]; subst hD; exact hKb _ _ _ l1 rfl
    have i2 : I pre U := by rw [hU]; exact hI.putObj _ i1 (by omega) l1 rfl
    refine wpIn_mono (hbody _ pre x U i2 hlen) ?_
    have close : ∀ (j : Option Code) (T : World), KeepsFrom w.heap.size U T → T.heap[D + 1]? = some (.loop { R .ready none with state := .busy }) ∧
        (Instr.endRound (D + 1) j).run P T = .ok (.bool j.isNone) (T.putObj (D + 1) (.loop (R (if j.isNone then .ready else .done) j))) ∧
        (T.putObj (D + 1) (.loop (R (if j.isNone then .ready else .done) j))).heap[D + 1]? = some (.loop (R (if j.isNone then .ready else .done) j)) ∧
        (T.putObj (D + 1) (.loop (R (if j.isNone then .ready else .done) j))).heap[D]? = some (.deferred (some [])) := fun j T hT => by
      have l3 := hT.same _ _ (by omega) l2 rfl
      have er := run_endRound (P := P) j l3
      refine ⟨l3, ?_, World.putObj_heap_same (Array.getElem?_eq_some_iff.1 l3).1, (World.putObj_heap_other (by omega)).trans (hT.same _ _ (by omega) d2 rfl)⟩
      rw [er, hR]
    have out : ∀ (c : Code) (T : World), KeepsFrom w.heap.size U T → Ix c (pre ++ [x]) T → ∃ v T', (Instr.endRound (D + 1) (some c)).run P T = .ok v T' ∧
        ((Ending.returned v = .returned (.bool true) ∧ (I (pre ++ [x]) T' ∧ T'.heap[D + 1]? = some (.loop (R .ready none)) ∧ T'.heap[D]? = some (.deferred (some []))) ∧ Kp W T') ∨
         (Ending.returned v = .returned (.bool false) ∧ (∃ c, Ix c (pre ++ [x]) T' ∧ T'.heap[D + 1]? = some (.loop (R .done (some c))) ∧ T'.heap[D]? = some (.deferred (some []))) ∧ KeepsFrom (w.heap.size + 2) W T')) := fun c T hT hx => by
      obtain ⟨l3, er, l4, d4⟩ := close (some c) T hT
      exact ⟨_, _, er, .inr ⟨rfl, ⟨c, (hIx _).putObj _ hx (by omega) l3 rfl, l4, d4⟩, ((by rw [hU]; exact put_far W _ (by omega)) : KeepsFrom (w.heap.size + 2) W U).trans (KeepsFrom.trans ⟨hT.size, fun k o hk ho hc => hT.same k o (by omega) ho hc⟩ (put_far T _ (by omega)))⟩⟩
    intro e a3 T hp
    cases e with
    | normal =>
      obtain ⟨hT, k3, i3⟩ := hp
      obtain ⟨l3, er, l4, d4⟩ := close none T hT
      exact ⟨_, _, er, .inl ⟨rfl, ⟨hI.putObj _ i3 (by omega) l3 rfl, l4, d4⟩, hKt (hKt k2 k3) (by subst hD; exact hKb _ _ _ l3 rfl)⟩⟩
    | ret => exact out .ret T hp.1 hp.2
    | exit id => exact out (.exit id) T hp.1 hp.2
    | goto t => exact out (.goto t) T hp.1 hp.2
    | panic ch => exact hp.elim
    | outgrown => exact hp.elim
  · -- behind the iterator
    rintro e T ⟨⟨v, rfl⟩, hT⟩
    rcases hT with ⟨xs, hS, i3, l3, d3⟩ | ⟨pre, hSp, c, x3, l3, d3⟩
    · have el := run_endLoop (P := P) l3 (by rw [hR]; simp)
      refine ⟨none, T.putObj (D + 1) (.loop { R .ready none with state := .exhausted }), by rw [el, hR], hdone D xs _ (by omega) hS (hI.putObj _ i3 (by omega) l3 rfl) ((World.putObj_heap_other (by omega)).trans d3)⟩
    · have el := run_endLoop (P := P) l3 (by rw [hR]; simp)
      refine ⟨some c, T.putObj (D + 1) (.loop { R .done (some c) with state := .exhausted }), by rw [el, hR], hstop D c pre _ (by omega) hSp ((hIx c).putObj _ x3 (by omega) l3 rfl) ((World.putObj_heap_other (by omega)).trans d3)⟩

end Go.Proofs.Ytofpjepndhpciaa

namespace Go.Proofs.Ytofpjepndhpciaa
open Go.RowKit Go.Shelf

attribute [local go_sem] Oper.semAt_some

/-- WHAT A ROUND KEEPS: all cells but those of the caller's own blocks S, and all blocks from T on. -/
def KeepC (S : Nat → Prop) (T : Nat) (W W' : World) : Prop := W.heap.size ≤ W'.heap.size ∧ ∀ (B : Nat) (o : Obj), ¬ S B → W.heap[B]? = some o → (o.isCells = true ∨ T ≤ B) → W'.heap[B]? = some o
theorem KeepC.refl (S : Nat → Prop) (T : Nat) (W : World) : KeepC S T W W := ⟨Nat.le_refl _, fun _ _ _ h _ => h⟩
theorem KeepC.trans {S : Nat → Prop} {T : Nat} {X Y Z : World} (h : KeepC S T X Y) (k : KeepC S T Y Z) : KeepC S T X Z := ⟨Nat.le_trans h.1 k.1, fun B o hS hB hc => k.2 B o hS (h.2 B o hS hB hc) hc⟩
theorem KeepC.more {S : Nat → Prop} {T T' : Nat} {X Y : World} (h : KeepC S T X Y) (hT : T ≤ T') : KeepC S T' X Y := ⟨h.1, fun B o hS hB hc => h.2 B o hS hB (hc.elim .inl fun h' => .inr (Nat.le_trans hT h'))⟩
theorem KeepC.putObj (S : Nat → Prop) {T l : Nat} (hl : l < T) (W : World) (o o' : Obj) (h : W.heap[l]? = some o) (hc : o.isCells = false) : KeepC S T W (W.putObj l o') :=
  ⟨by simp, fun B o1 _ hB hc1 => by
    have hne : B ≠ l := fun e => by
      subst e; rw [h] at hB; cases hB
      rcases hc1 with h' | h'
      · rw [hc] at h'; cases h'
      · omega
    exact ((grownBy_putObj' W l o').block B (Array.getElem?_eq_some_iff.1 hB).1 (fun e => by cases e; exact hne rfl)).trans hB⟩
theorem KeepC.alloc (S : Nat → Prop) (T : Nat) (W : World) (o : Obj) : KeepC S T W (W.alloc o) := ⟨by simp, fun B o1 _ hB _ => (Below.heap_alloc W o B (Array.getElem?_eq_some_iff.1 hB).1).trans hB⟩
theorem KeepC.setCell {S : Nat → Prop} (T : Nat) (W : World) {b : Nat} (hb : S b) (j : Nat) (v : Value) : KeepC S T W (W.setCell ⟨b, j, none⟩ v) :=
  ⟨by simp, fun B o1 hS hB _ => (Below.heap_setCell W ⟨b, j, none⟩ v B (fun e => hS (by rw [show B = b from e]; exact hb))).trans hB⟩
theorem KeepC.drew (S : Nat → Prop) (T : Nat) (W : World) : KeepC S T W W.drew := ⟨Nat.le_refl _, fun _ _ _ h _ => h⟩
theorem KeepC.of_below {S : Nat → Prop} {T : Nat} {W W' : World} (h : Below W.heap.size W W') : KeepC S T W W' := ⟨h.size, fun B _ _ hB _ => (h.block B (Array.getElem?_eq_some_iff.1 hB).1).trans hB⟩
theorem KeepC.from {S : Nat → Prop} {T B0 : Nat} {W W' : World} (h : KeepC S T W W') (hS : ∀ B, S B → B < T) (hT : T ≤ B0) : KeepsFrom B0 W W' := ⟨h.1, fun k o hk ho _ => h.2 k o (fun s => by have := hS k s; omega) ho (.inr (by omega))⟩
theorem keepsFrom_below {W W' : World} (h : Below W.heap.size W W') (B : Nat) : KeepsFrom B W W' := ⟨h.size, fun k _ _ hk _ => (h.block k (Array.getElem?_eq_some_iff.1 hk).1).trans hk⟩
theorem KeepC.boxed {S : Nat → Prop} {T : Nat} {W W' : World} (h : KeepC S T W W') {B : Nat} {t : TypeId} {v : Value} (hS : ¬ S B) (b : Boxed W B t v) : Boxed W' B t v := h.2 B _ hS b (.inl rfl)
theorem KeepC.cell {S : Nat → Prop} {T : Nat} {W W' : World} (h : KeepC S T W W') {p : Addr} {v : Value} (hS : ¬ S p.block) (hc : W.cell? p = some v) : W'.cell? p = some v := by
  obtain ⟨o, ho, hk⟩ := cells_of_cell hc
  exact (World.cell?_of_block ((h.2 _ o hS ho (.inl hk)).trans ho.symm)).trans hc
theorem Mat.keepC {S : Nat → Prop} {T n₀ : Nat} {W W' : World} {a : Option Addr} {xss : List (List Int)} (h : Mat n₀ W a xss) (hk : KeepC S T W W') (hS : ∀ B, S B → n₀ ≤ B) : Mat n₀ W' a xss := fun hne => by
  obtain ⟨b, o, e, hb, hc⟩ := h hne
  refine ⟨b, o, e, hb, fun i hi => ?_⟩
  obtain ⟨a', c', h1, h2⟩ := hc i hi
  refine ⟨a', c', hk.cell (p := ⟨b, o + i, none⟩) (fun s => by have := hS _ s; simp at this; omega) h1, fun hne2 => ?_⟩
  obtain ⟨b', o', e', hb', hc'⟩ := h2 hne2
  exact ⟨b', o', e', hb', fun j hj => hk.cell (p := ⟨b', o' + j, none⟩) (fun s => by have := hS _ s; simp at this; omega) (hc' j hj)⟩
/-- 'The rows can be read' speaks of cells alone. -/
theorem mat_own {β : Type} (n₀ : Nat) (a : Option Addr) (xss : List (List Int)) : Own (fun (_ : β) W => Mat n₀ W a xss) := fun _ A B row h hg hr => fun hne => by
  obtain ⟨b, o, e, hb, hc⟩ := h hne
  refine ⟨b, o, e, hb, fun i hi => ?_⟩
  obtain ⟨a', c', h1, h2⟩ := hc i hi
  refine ⟨a', c', cell_kept h1 hg hr, fun hne2 => ?_⟩
  obtain ⟨b', o', e', hb', hc'⟩ := h2 hne2
  exact ⟨b', o', e', hb', fun j hj => cell_kept (hc' j hj) hg hr⟩
theorem OwnFrom.far {β : Type} {B B' : Nat} {I : β → World → Prop} (h : OwnFrom B I) (hB : B ≤ B') : OwnFrom B' I := fun s A C row hs hg hr => h s A C row hs hg (fun r e => ⟨Nat.le_trans hB (hr r e).1, (hr r e).2⟩)

theorem pairs_X (F : Fence) (hF : ∀ k, F.fn k) (hro : F.round = none) (B m : Nat) (hm : m ≤ 1048576) (S : Nat → Prop) (T T' : Nat) (hS : ¬ S B) (w : World) (hB : Boxed w B 3 (.int .i64 m)) :
    SeqX F Try.prog 58 #[.pointer (some ⟨B, 0, none⟩)] (encP (m := m)) (KeepC S T) (fun ys => ys = PL m) (fun pre => pre <+: PL m) (m * m) T' w :=
  seqX_of_K T' (pairs_stops F 1 hF hro (Nat.le_refl _) B m hm (KeepC S T) (fun _ _ k b => k.boxed hS b) w hB)

/-- IS THERE AN ARROW? -/
def arw (xss : List (List Int)) (i j : Nat) : Bool := ent xss i j == 1

set_option maxHeartbeats 1000000 in
theorem arrow_in (F : Fence) (n : Nat) (hF : ∀ k, F.fn k) (hro : F.round = none) (n₀ : Nat) (a : Option Addr) (c : Nat) (xss : List (List Int)) (w : World) (hM : Mat n₀ w a xss) (hn : n₀ ≤ w.heap.size) (hG : Good xss) (i j : Nat) (hi : i < xss.length) (hj : j < xss.length) :
    CallsIn F n Try.prog 51 #[.agg #[.slice a xss.length c], .int .i64 i, .int .i64 j] w fun e w' => e = .returned (.bool (arw xss i j)) ∧ w' = w.alloc (.cells #[.slice a xss.length c] 51) := by
  have h0 := hF 51
  clear hF
  obtain ⟨b, o, a', c', xs, rfl, hb, hc0, hI, HX⟩ := hM.at_ hi
  have hxl : xs.length = xss.length := (hG.2.2 xs (List.mem_of_getElem? HX.out)).1
  obtain ⟨b', o', v, rfl, hb', hd0, HY⟩ := hI.at_ (k := j) (by rw [hxl]; exact hj)
  have hc : ∀ u : Obj, (w.alloc u).cell? ⟨b, o + i, none⟩ = some (.slice (some ⟨b', o', none⟩) xs.length c') := fun u => (World.cell?_alloc_lt w u ⟨b, o + i, none⟩ (by show b < _; omega)).trans hc0
  have hd : ∀ u : Obj, (w.alloc u).cell? ⟨b', o' + j, none⟩ = some (.int .i64 v) := fun u => (World.cell?_alloc_lt w u ⟨b', o' + j, none⟩ (by show b' < _; omega)).trans hd0
  have HE := Lib.hid (ent_eq HX.out HY.out)
  have hj2 : j < xs.length := by rw [hxl]; exact hj
  have hl9 : xs.length ≤ 9 := by rw [hxl]; exact hG.2.1
  have hl9' := hG.2.1
  clear hc0 hd0 hxl hM hI
  refine callsIn_of_wp Try.func51 rfl h0 ?_ hro
  simp only [Try.ntmps51, List.size_toArray, List.length_cons, List.length_nil, Nat.reduceAdd, Nat.reduceSub, Array.replicate_succ, Array.replicate_zero, List.push_toArray, List.append_toArray, List.nil_append, List.cons_append]
  gi_wp2
  go_ret
  exact ⟨ret_bool (by unfold arw; rw [HE.out]), rfl⟩

/-- ALL ARROWS, in the order of rows. -/
def AL (xss : List (List Int)) : List (Fin xss.length × Fin xss.length) := (PL xss.length).filter fun x => arw xss x.1.1 x.2.1

end Go.Proofs.Ytofpjepndhpciaa

namespace Go.Proofs.Ytofpjepndhpciaa
open Go.RowKit Go.Shelf

attribute [local go_sem] Oper.semAt_some

/-- HOW MANY ARROWS; -1 for what is no graph. -/
def arrowsI (xss : List (List Int)) : Int := if gOk xss = true then ((AL xss).length : Int) else -1
theorem arrowsI_no {xss : List (List Int)} (h : gOk xss = false) : arrowsI xss = -1 := by unfold arrowsI; rw [if_neg (by rw [h]; decide)]
theorem arrowsI_yes {xss : List (List Int)} (h : gOk xss = true) : arrowsI xss = ((AL xss).length : Int) := by unfold arrowsI; rw [if_pos h]
theorem Good.len {xss : List (List Int)} (h : Good xss) {i : Nat} {xs : List Int} (hx : xss[i]? = some xs) : xs.length = xss.length := (h.2.2 xs (List.mem_of_getElem? hx)).1
theorem AL_le (xss : List (List Int)) : (AL xss).length ≤ xss.length * xss.length := by unfold AL; exact Nat.le_trans (List.length_filter_le _ _) (by rw [PL_length]; exact Nat.le_refl _)
theorem sq_le {m : Nat} (h : m ≤ 9) : m * m ≤ 81 := Nat.mul_le_mul h h

/-- HOW MANY of the first k pairs are arrows. -/
def cntA (xss : List (List Int)) (k : Nat) : Int := (((PL xss.length).take k).filter fun x => arw xss x.1.1 x.2.1).length
theorem cntA_step {xss : List (List Int)} (hG : Good xss) {i j : Nat} (hi : i < xss.length) (hj : j < xss.length) : cntA xss (i * xss.length + (j + 1)) = cntA xss (i * xss.length + j) + ent xss i j := by
  unfold cntA
  rw [← PL_take hi hj, List.filter_append, List.length_append]
  rcases (good_iff_ent hG.1 hG.2.1 (fun i xs h => hG.len h)).1 hG (⟨i, hi⟩, ⟨j, hj⟩) with h | h
  · simp only at h; simp [arw, h]
  · simp only at h; simp [arw, h]
theorem cntA_all (xss : List (List Int)) : cntA xss (xss.length * xss.length) = ((AL xss).length : Int) := by
  unfold cntA AL; rw [List.take_of_length_le (by rw [PL_length]; exact Nat.le_refl _)]
theorem cntA_nn (xss : List (List Int)) (k : Nat) : 0 ≤ cntA xss k := by unfold cntA; omega
theorem cntA_le (xss : List (List Int)) (k : Nat) : cntA xss k ≤ xss.length * xss.length := by
  unfold cntA
  have h1 := List.length_filter_le (fun x : Fin xss.length × Fin xss.length => arw xss x.1.1 x.2.1) ((PL xss.length).take k)
  have h2 : ((PL xss.length).take k).length ≤ xss.length * xss.length := by rw [List.length_take, PL_length]; omega
  have : ((((PL xss.length).take k).filter fun x => arw xss x.1.1 x.2.1).length : Int) ≤ ((xss.length * xss.length : Nat) : Int) := by omega
  rw [Int.natCast_mul] at this; exact this

end Go.Proofs.Ytofpjepndhpciaa
