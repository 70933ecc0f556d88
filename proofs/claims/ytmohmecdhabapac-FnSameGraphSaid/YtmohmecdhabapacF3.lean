/-
  Rows that a call builds by append; TurnedOf and its model.
-/
import Derived.Test.YtmohmecdhabapacD2
import Derived.Test.YtmohmecdhabapacF2
namespace Go.Proofs.Ytmohmecdhabapac
open Go.RowKit Go.Shelf Go.Deep

/-- THE CALL's OWN ROWS, built by append. -/
def OwnMat (base : Nat) (W : World) (v : Value) (xss : List (List Int)) : Prop :=
  ∃ vs, W.ownsRow base 24 1 v xss.length vs ∧ ∀ (i : Nat) (x : Value) (xs : List Int), vs[i]? = some x → xss[i]? = some xs → W.ownsRow base 3 1 x xs.length (xs.map (Value.int .i64))
theorem grown_of_below {W W' : World} (h : Below W.heap.size W W') : W.grownBy W' none := ⟨h.os, h.tape, h.output, h.size, fun k hk _ => h.block k hk⟩
theorem ownsRow_below {W W' : World} {base e size n : Nat} {v : Value} {xs : List Value} (h : W.ownsRow base e size v n xs) (hb : Below W.heap.size W W') : W'.ownsRow base e size v n xs :=
  h.kept (grown_of_below hb) (by cases v.ownBlock <;> simp)
theorem OwnMat.below {base : Nat} {W W' : World} {v : Value} {xss : List (List Int)} (h : OwnMat base W v xss) (hb : Below W.heap.size W W') : OwnMat base W' v xss := by
  obtain ⟨vs, ho, hv⟩ := h
  exact ⟨vs, ownsRow_below ho hb, fun i x xs hx hxs => ownsRow_below (hv i x xs hx hxs) hb⟩
theorem OwnMat.start (W : World) {base : Nat} (hb : base ≤ W.heap.size) : OwnMat base (W.alloc (.cells #[] 24)) (.slice (some ⟨W.heap.size, 0, none⟩) 0 0) [] :=
  ⟨[], World.ownsRow_lit (size := 1) W #[] 0 hb (Nat.zero_le _) rfl, fun i x xs hx => by simp at hx⟩
theorem own_ne_own {W : World} {base base' n m : Nat} {v x : Value} {vs xs : List Value} (h : W.ownsRow base 24 1 v n vs) (k : W.ownsRow base' 3 1 x m xs) : x.ownBlock = none ∨ x.ownBlock ≠ v.ownBlock := by
  rcases k.2 with ⟨rfl, _⟩ | ⟨g, cap, cur, rfl, _, hg, _⟩
  · exact .inl (by simp [Value.ownBlock])
  · refine .inr fun e => ?_
    rcases h.2 with ⟨rfl, _⟩ | ⟨g', cap', cur', rfl, _, hg', _⟩
    · simp [Value.ownBlock] at e
    · have : g = g' := by simpa [Value.ownBlock] using e
      subst this
      rw [hg] at hg'
      injection hg' with hg'
      injection hg' with _ h2
      exact absurd h2 (by decide)
theorem OwnMat.appended {base : Nat} {W w1 : World} {v v' x : Value} {xss : List (List Int)} {xs : List Int} {vs : List Value} {o : Obj} (ho : W.ownsRow base 24 1 v xss.length vs)
    (hv : ∀ (i : Nat) (x : Value) (xs : List Int), vs[i]? = some x → xss[i]? = some xs → W.ownsRow base 3 1 x xs.length (xs.map (Value.int .i64))) (hx : W.ownsRow base 3 1 x xs.length (xs.map (Value.int .i64)))
    (hown : w1.ownsRow base 24 1 v' (xss.length + 1) (vs ++ [x])) (hgrow : (W.alloc o).grownBy w1 v.ownBlock) : OwnMat base w1 v' (xss ++ [xs]) := by
  have hvl : vs.length = xss.length := by simpa using ho.1
  refine ⟨vs ++ [x], by rw [List.length_append, List.length_singleton]; exact hown, fun i y ys hy hys => ?_⟩
  by_cases hi : i < vs.length
  · rw [List.getElem?_append_left hi] at hy
    rw [List.getElem?_append_left (by omega)] at hys
    have h1 := hv i y ys hy hys
    exact (h1.alloc o).kept hgrow (own_ne_own (ho.alloc o) (h1.alloc o))
  · rw [List.getElem?_append_right (by omega)] at hy hys
    have e1 : i - vs.length = 0 := by have := (List.getElem?_eq_some_iff.1 hy).1; simp at this; omega
    rw [e1] at hy; rw [show i - xss.length = 0 by omega] at hys
    simp at hy hys
    subst hy; subst hys
    exact (hx.alloc o).kept hgrow (own_ne_own (ho.alloc o) (hx.alloc o))
theorem own_ints {W : World} {base : Nat} {x : Value} {xs : List Int} (h : W.ownsRow base 3 1 x xs.length (xs.map (Value.int .i64))) : ∃ (a : Option Addr) (c : Nat), x = .slice a xs.length c ∧ Ints W.heap.size W a xs := by
  rcases h.2 with ⟨rfl, h0⟩ | ⟨g, cap, cur, rfl, _, hg, _⟩
  · have e : xs = [] := List.eq_nil_of_length_eq_zero (by omega)
    subst e
    exact ⟨none, 0, rfl, fun hne => absurd rfl hne⟩
  · refine ⟨_, cap, rfl, fun _ => ⟨g, 0, rfl, (h.lt g (by simp [Value.ownBlock])).2, fun j hj => ?_⟩⟩
    rw [Nat.zero_add, h.cellAt j (by omega), List.getElem?_map, List.getElem?_eq_getElem hj]; rfl
theorem OwnMat.mat {base : Nat} {W : World} {a : Option Addr} {c : Nat} {xss : List (List Int)} (h : OwnMat base W (.slice a xss.length c) xss) : Mat W.heap.size W a xss := fun hne => by
  obtain ⟨vs, ho, hv⟩ := h
  have hl : vs.length = xss.length := by simpa using ho.1
  have h0 : 0 < xss.length := by cases xss with | nil => exact absurd rfl hne | cons _ _ => simp
  obtain ⟨g, cap, e⟩ := Joins.ownsRow_form ho h0
  simp only [Value.slice.injEq] at e
  obtain ⟨rfl, _, rfl⟩ := e
  refine ⟨g, 0, rfl, (ho.lt g (by simp [Value.ownBlock])).2, fun i hi => ?_⟩
  have hi' : i < vs.length := by omega
  obtain ⟨a', c', e, hI⟩ := own_ints (hv i vs[i] xss[i] (List.getElem?_eq_getElem hi') (List.getElem?_eq_getElem hi))
  rw [List.getElem?_eq_getElem hi]
  exact ⟨a', c', by rw [Nat.zero_add, ho.cellAt i (by omega), List.getElem?_eq_getElem hi', e]; rfl, hI⟩

/-- NEW ROWS THAT CAN BE READ. -/
def ReadM (xss : List (List Int)) (w : World) (e : Ending) (w' : World) : Prop := ∃ (a : Option Addr) (c : Nat), (e = .returned (.slice a xss.length c) ∧ Below w.heap.size w w') ∧ Mat w'.heap.size w' a xss
/-- NEW ROWS IN BLOCKS OF THEIR OWN (nil where there is none). -/
def OwnR (base : Nat) (W : World) (a : Option Addr) (c : Nat) (xss : List (List Int)) : Prop :=
  (xss = [] ∧ a = none ∧ c = 0) ∨ ∃ (b : Nat) (G : Nat → Nat), a = some ⟨b, 0, none⟩ ∧ c = xss.length ∧ OwnM W b G xss ∧ base ≤ b ∧ (∀ i, i < xss.length → base ≤ G i) ∧ ∀ i j, G i = G j → i = j
def MadeR (xss : List (List Int)) (w : World) (e : Ending) (w' : World) : Prop := ∃ (a : Option Addr) (c : Nat), (e = .returned (.slice a xss.length c) ∧ Below w.heap.size w w') ∧ OwnR w.heap.size w' a c xss
theorem OwnR.mat {base : Nat} {W : World} {a : Option Addr} {c : Nat} {xss : List (List Int)} (h : OwnR base W a c xss) : Mat W.heap.size W a xss := by
  rcases h with ⟨rfl, _⟩ | ⟨b, G, rfl, _, ho, _⟩
  · exact fun hne => absurd rfl hne
  · exact ho.size
theorem MadeR.read {xss : List (List Int)} {w w' : World} {e : Ending} (h : MadeR xss w e w') : ReadM xss w e w' := by
  obtain ⟨a, c, h1, h2⟩ := h
  exact ⟨a, c, h1, h2.mat⟩

/-- THE GRAPH TURNED ROUND; nothing for what is no graph. -/
def turnedL (xss : List (List Int)) : List (List Int) := if gOk xss = true then rowsP xss.length (fun i j => arw xss j i) else []
theorem turnedL_yes {xss : List (List Int)} (h : gOk xss = true) : turnedL xss = rowsP xss.length (fun i j => arw xss j i) := if_pos h
theorem turnedL_no {xss : List (List Int)} (h : gOk xss = false) : turnedL xss = [] := if_neg (by rw [h]; decide)

attribute [local go_sem] Oper.semAt_some

set_option maxHeartbeats 1000000 in
theorem turned1_in (F : Fence) (hd : F.depth = none) (n : Nat) (hF : ∀ k, F.fn k) (hro : F.round = none) (n₀ B : Nat) (a : Option Addr) (c : Nat) (xss : List (List Int)) (w : World) (hM : Mat n₀ w a xss) (hn : n₀ ≤ w.heap.size) (hB : Boxed w B 49 (.slice a xss.length c)) (hG : Good xss) (i j : Nat) (hi : i < xss.length) (hj : j < xss.length) :
    CallsIn F n Try.prog 47 #[.int .i64 i, .int .i64 j, .pointer (some ⟨B, 0, none⟩)] w (Ans (.bool (arw xss j i)) w) := by
  have h0 := hF 47
  have h1 := hF 35
  have hdd : ∀ k : Nat, (F.depth.isSome = true → 1 ≤ k) := fun k h => by rw [hd] at h; cases h
  have HFn := Lib.hid hF
  have cB := hB.cell
  clear hF
  refine callsIn_of_wp Try.func47 rfl h0 ?_ hro
  simp only [Try.ntmps47, List.size_toArray, List.length_cons, List.length_nil, Nat.reduceAdd, Nat.reduceSub, Array.replicate_succ, Array.replicate_zero, List.push_toArray, List.append_toArray, List.nil_append, List.cons_append]
  gi_wp2_with ((try refine ⟨hdd _, ?_⟩); gi_at_call 35; refine (arrow_in F _ HFn.out hro n₀ _ _ _ _ hM hn hG j i hj hi).mono ?_; rintro e w' ⟨rfl, rfl⟩)
  go_ret
  exact ⟨rfl, (Below.refl _ _).alloc (Nat.le_refl _) _⟩

set_option maxRecDepth 100000 in
set_option maxHeartbeats 2000000 in
theorem implTurned_in (F : Fence) (hd : F.depth = none) (hF : ∀ k, F.fn k) (hro : F.round = none) (a : Option Addr) (c : Nat) (xss : List (List Int)) (w : World) (hM : Mat w.heap.size w a xss) (hf : Fit xss) :
    CallsIn F 30 Try.prog 18 #[.slice a xss.length c] w (MadeR (turnedL xss) w) := by
  have h1 := hF 18
  have h2 := hF 12
  have h3 := hF 42
  have h4 := hF 33
  have hdd : ∀ k : Nat, (F.depth.isSome = true → 1 ≤ k) := fun k h => by rw [hd] at h; cases h
  have HFn := Lib.hid hF
  have HF := Lib.hid hf
  clear hF hf
  by_cases hg : gOk xss = true
  · rw [turnedL_yes hg]
    have HG := Lib.hid (good_of hg)
    have hl9 := HG.out.2.1
    refine callsIn_of_wp Try.func18 rfl h1 ?_ hro
    simp only [Try.ntmps18, List.size_toArray, List.length_cons, List.length_nil, Nat.reduceAdd, Nat.reduceSub, Array.replicate_succ, Array.replicate_zero, List.push_toArray, List.append_toArray, List.nil_append, List.cons_append]
    gi_wp2_with (first | ((try refine ⟨hdd _, ?_⟩); gi_at_call 12; refine (implOk_in F _ HFn.out hro (by omega) _ _ _ _ hM HF.out).mono ?_; rintro e w1 ⟨rfl, hB1⟩) | ((try refine ⟨hdd _, ?_⟩); gi_at_call 42; refine (nodes_in F _ HFn.out hro _ _ _ _).mono ?_; rintro e w' ⟨rfl, rfl⟩))
    have hB2 := (hB1.alloc hB1.size (.cells #[.slice a xss.length c] 49)).alloc (by simp; have := hB1.size; omega) (.cells #[.slice a xss.length c] 49)
    have bB := (Boxed.new w1 49 (.slice a xss.length c)).alloc (.cells #[.slice a xss.length c] 49)
    have hM2 : Mat w.heap.size ((w1.alloc (.cells #[.slice a xss.length c] 49)).alloc (.cells #[.slice a xss.length c] 49)) a xss := hM.below hB2
    have hws := hB2.size
    obtain ⟨V, hV⟩ : ∃ V, (w1.alloc (.cells #[.slice a xss.length c] 49)).alloc (.cells #[.slice a xss.length c] 49) = V := ⟨_, rfl⟩
    rw [hV] at hB2 bB hM2 hws ⊢
    clear hV hB1 hM
    refine (CallsIn_any hd (rowsBy_in F hd HFn.out hro 47 #[.pointer (some ⟨w1.heap.size, 0, none⟩)] (fun i j => arw xss j i) xss.length hl9 V (enters_of Try.func47 (by kernel_rfl) rfl)
      (fun W' i j hb hi hj => turned1_in F hd 20 HFn.out hro w.heap.size w1.heap.size a c xss W' (hM2.below (hb.mono hws)) (Nat.le_trans hws hb.size) ((hb.block _ bB.lt).trans bB) HG.out i j hi hj))).mono ?_
    rintro e w2 ⟨rfl, hB3, hO⟩
    have HB := Lib.hid (hB2.trans (hB3.mono hws))
    have HO := Lib.hid hO
    clear hB3 hO hB2
    gi_wp2
    go_ret
    refine ⟨_, _, ⟨?_, HB.out⟩, .inr ⟨V.heap.size + 1, fun i => V.heap.size + 3 + i, rfl, rfl, HO.out, by omega, fun i _ => by show w.heap.size ≤ V.heap.size + 3 + i; omega, fun i j h => by have h' : V.heap.size + 3 + i = V.heap.size + 3 + j := h; omega⟩⟩
    rw [rowsP_length]
    rfl
  · have hg' : gOk xss = false := by simpa using hg
    rw [turnedL_no hg']
    clear hg
    refine callsIn_of_wp Try.func18 rfl h1 ?_ hro
    simp only [Try.ntmps18, List.size_toArray, List.length_cons, List.length_nil, Nat.reduceAdd, Nat.reduceSub, Array.replicate_succ, Array.replicate_zero, List.push_toArray, List.append_toArray, List.nil_append, List.cons_append]
    gi_wp2_with ((try refine ⟨hdd _, ?_⟩); gi_at_call 12; refine (implOk_in F _ HFn.out hro (by omega) _ _ _ _ hM HF.out).mono ?_; rintro e w1 ⟨rfl, hB1⟩)
    go_ret
    exact ⟨none, 0, ⟨rfl, hB1⟩, .inl ⟨rfl, rfl, rfl⟩⟩

/-- Row k of the graph turned round, as far as j. -/
def tRow (xss : List (List Int)) (k j : Nat) : List Int := (List.range j).map fun i => ent xss i k
theorem tRow_succ (xss : List (List Int)) (k j : Nat) : tRow xss k (j + 1) = tRow xss k j ++ [ent xss j k] := by simp [tRow, List.range_succ]
theorem tRow_length (xss : List (List Int)) (k j : Nat) : (tRow xss k j).length = j := by simp [tRow]
def tRows (xss : List (List Int)) (k : Nat) : List (List Int) := (List.range k).map fun i => tRow xss i xss.length
theorem tRows_succ (xss : List (List Int)) (k : Nat) : tRows xss (k + 1) = tRows xss k ++ [tRow xss k xss.length] := by simp [tRows, List.range_succ]
theorem tRows_length (xss : List (List Int)) (k : Nat) : (tRows xss k).length = k := by simp [tRows]
theorem tRows_all {xss : List (List Int)} (hG : Good xss) : tRows xss xss.length = rowsP xss.length (fun i j => arw xss j i) := by
  unfold tRows rowsP tRow
  refine List.map_congr_left fun i hi => List.map_congr_left fun j hj => ?_
  have h := (good_iff_ent hG.1 hG.2.1 (fun i xs h => hG.len h)).1 hG (⟨j, List.mem_range.1 hj⟩, ⟨i, List.mem_range.1 hi⟩)
  simp only at h
  unfold arw
  rcases h with e | e <;> simp [e]

end Go.Proofs.Ytmohmecdhabapac
