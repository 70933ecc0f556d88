/-
  Several texts in one.
  The most arrows along which one comes to a node, round by round (impl's longestSteps): pure facts.
  impl.PathOf, impl.LineOf, impl.RingOf.
  impl.longestSteps, impl.HeightsOf, impl.LongestIn.
  The program's chapter 7, but for its goroutines.
-/
import Derived.Lib.Slices
import Derived.Test.YtpcmenhchabgiaaWA
import Derived.Test.YtpcmenhchabgiaaZN
import Derived.Test.YtpcmenhchabgiaaWB
import Derived.Test.YtpcmenhchabgiaaW0
import Derived.Test.YtpcmenhchabgiaaZC
import Derived.Test.YtpcmenhchabgiaaWY
import Derived.Test.YtpcmenhchabgiaaZM
import Derived.Test.YtpcmenhchabgiaaZO
import Derived.Test.YtpcmenhchabgiaaWR
namespace Go.Proofs.Ytpcmenhchabgiaa
open Go.RowKit Go.Shelf Go.Deep

/-- BEHIND k ROUNDS. -/
def mxL (G : List (List Int)) (k : Nat) : List Int := (List.range G.length).map fun i => ((mxE G k i : Nat) : Int)
theorem mxL_length (G : List (List Int)) (k : Nat) : (mxL G k).length = G.length := by simp [mxL]
theorem mxL_get {G : List (List Int)} {k i : Nat} (hi : i < G.length) : (mxL G k)[i]? = some ((mxE G k i : Nat) : Int) := by simp [mxL, hi]
/-- WITHIN A ROUND, behind some arrows. -/
def stpA {m : Nat} (f : Nat → Nat) (pre : List (Fin m × Fin m)) (j : Nat) : Nat := pre.foldl (fun s x => if x.2.1 = j then max s (f x.1.1 + 1) else s) (f j)
theorem stpA_nil {m : Nat} (f : Nat → Nat) (j : Nat) : stpA f ([] : List (Fin m × Fin m)) j = f j := rfl
theorem stpA_snoc {m : Nat} (f : Nat → Nat) (pre : List (Fin m × Fin m)) (x : Fin m × Fin m) (j : Nat) : stpA f (pre ++ [x]) j = if x.2.1 = j then max (stpA f pre j) (f x.1.1 + 1) else stpA f pre j := by
  unfold stpA; rw [List.foldl_append]; rfl
theorem foldl_max {α : Type} (p : α → Prop) [DecidablePred p] (f : α → Nat) (q : Nat) : ∀ (l : List α) (s : Nat), l.foldl (fun s x => if p x then max s (f x) else s) s ≤ q ↔ s ≤ q ∧ ∀ x ∈ l, p x → f x ≤ q
  | [], s => by simp
  | x :: l, s => by
    rw [List.foldl_cons, foldl_max p f q l]
    by_cases h : p x
    · simp only [h, if_true, List.mem_cons, forall_eq_or_imp, forall_const]
      constructor
      · rintro ⟨h1, h2⟩; exact ⟨by omega, by omega, h2⟩
      · rintro ⟨h1, h2, h3⟩; exact ⟨by omega, h3⟩
    · simp [h]
theorem stpA_le {m : Nat} (f : Nat → Nat) (pre : List (Fin m × Fin m)) (j q : Nat) : stpA f pre j ≤ q ↔ f j ≤ q ∧ ∀ x ∈ pre, x.2.1 = j → f x.1.1 + 1 ≤ q := by
  unfold stpA
  exact foldl_max (fun x : Fin m × Fin m => x.2.1 = j) (fun x => f x.1.1 + 1) q pre (f j)
theorem mxE_iff {G : List (List Int)} {k i q : Nat} : mxE G k i ≤ q ↔ ∀ m, m ≤ k → wkE G m i = true → m ≤ q := by
  constructor
  · intro h m hm hw
    exact Nat.le_trans (mxE_most hm hw) h
  · intro h
    exact h _ (mxE_le G i k) (mxE_walk G i k)
theorem stpA_all {G : List (List Int)} (k j : Nat) (hj : j < G.length) : stpA (mxE G k) (AL G) j = mxE G (k + 1) j := by
  have key : ∀ q, stpA (mxE G k) (AL G) j ≤ q ↔ mxE G (k + 1) j ≤ q := fun q => by
    refine (stpA_le _ _ _ _).trans (Iff.trans ?_ mxE_iff.symm)
    constructor
    · rintro ⟨h1, h2⟩ m hm hw
      cases m with
      | zero => exact Nat.zero_le _
      | succ m =>
        obtain ⟨a, ha, har, hwa⟩ := wkE_iff.1 hw
        have h3 := h2 (⟨a, ha⟩, ⟨j, hj⟩) ((AL_mem _).2 har) rfl
        have h4 : m ≤ mxE G k a := mxE_most (by omega) hwa
        have h3' : mxE G k a + 1 ≤ q := h3
        omega
    · intro h
      refine ⟨h _ (Nat.le_trans (mxE_le G j k) (Nat.le_succ _)) (mxE_walk G j k), fun x hx e => ?_⟩
      have hxa := (AL_mem x).1 hx
      rw [e] at hxa
      exact h _ (Nat.succ_le_succ (mxE_le G x.1.1 k)) (wkE_iff.2 ⟨x.1.1, x.1.2, hxa, mxE_walk G x.1.1 k⟩)
  exact Nat.le_antisymm ((key _).2 (Nat.le_refl _)) ((key _).1 (Nat.le_refl _))
/-- The row within a round. -/
def stpL (G : List (List Int)) (k : Nat) (pre : List (Fin G.length × Fin G.length)) : List Int := (List.range G.length).map fun i => ((stpA (mxE G k) pre i : Nat) : Int)
theorem stpL_nil (G : List (List Int)) (k : Nat) : stpL G k [] = mxL G k := rfl
theorem stpL_all (G : List (List Int)) (k : Nat) : stpL G k (AL G) = mxL G (k + 1) := by
  unfold stpL mxL
  refine List.map_congr_left fun i hi => ?_
  rw [stpA_all k i (List.mem_range.1 hi)]
theorem stpA_bound {m : Nat} {f : Nat → Nat} {k : Nat} (hf : ∀ i, f i ≤ k) (pre : List (Fin m × Fin m)) (j : Nat) : stpA f pre j ≤ k + 1 := (stpA_le f pre j (k + 1)).2 ⟨Nat.le_trans (hf j) (Nat.le_succ _), fun _ _ _ => Nat.succ_le_succ (hf _)⟩

/-- WHAT THE GREATEST TELLS. -/
theorem mx_nine {G : List (List Int)} (hg : gOk G = true) : lngK G = false ↔ ∃ i, i < G.length ∧ mxE G 9 i = 9 := by
  unfold lngK
  rw [hg, Bool.true_and]
  constructor
  · intro h
    have hn : lngO G = none := by cases h2 : lngO G with | none => rfl | some n => rw [h2] at h; cases h
    obtain ⟨i, hi, hw⟩ := wkS_end.1 (lng_none hn (k := 9) (by omega) (by omega))
    exact ⟨i, hi, Nat.le_antisymm (mxE_le G i 9) (mxE_most (Nat.le_refl _) hw)⟩
  · rintro ⟨i, hi, he⟩
    have hw := mxE_walk G i 9
    rw [he] at hw
    cases h2 : lngO G with
    | none => rfl
    | some n =>
      have h1 := lng_some h2
      have : wkS G (n + (9 - n)) = true := by rw [show n + (9 - n) = 9 by omega]; exact wkS_end.2 ⟨i, hi, hw⟩
      have := wkS_mono this
      rw [h1.2] at this; cases this
theorem mxL_hgt {G : List (List Int)} (hk : lngK G = true) : mxL G 9 = hgtL G := by
  obtain ⟨hg, n, hn⟩ := lngK_some hk
  rw [hgt_yes hk]
  unfold mxL
  refine List.map_congr_left fun i hi => ?_
  have hlt := hgt_lt hn (List.mem_range.1 hi)
  have e : mxE G 9 i = mxE G 8 i := by
    show (if wkE G 9 i = true then 9 else mxE G 8 i) = mxE G 8 i
    rw [if_neg]
    intro hw
    have h1 := lng_some hn
    have : wkS G (n + (9 - n)) = true := by rw [show n + (9 - n) = 9 by omega]; exact wkS_end.2 ⟨i, List.mem_range.1 hi, hw⟩
    have := wkS_mono this
    rw [h1.2] at this; cases this
  rw [e]

theorem foldl_maxI (q : Int) : ∀ (l : List Int) (s : Int), l.foldl max s ≤ q ↔ s ≤ q ∧ ∀ z ∈ l, z ≤ q
  | [], s => by simp
  | x :: l, s => by
    rw [List.foldl_cons, foldl_maxI q l]
    simp only [List.mem_cons, forall_eq_or_imp]
    constructor
    · rintro ⟨h1, h2⟩; exact ⟨by omega, by omega, h2⟩
    · rintro ⟨h1, h2, h3⟩; exact ⟨by omega, h3⟩
theorem maxOf_iff {zs : List Int} (h : zs ≠ []) (q : Int) : Lib.maxOf zs ≤ q ↔ ∀ z ∈ zs, z ≤ q := by
  unfold Lib.maxOf
  rw [foldl_maxI]
  constructor
  · exact fun h => h.2
  · intro hz
    cases zs with
    | nil => exact absurd rfl h
    | cons x l => exact ⟨hz x (List.mem_cons_self ..), hz⟩
theorem mxL_ne {G : List (List Int)} (hg : gOk G = true) (k : Nat) : mxL G k ≠ [] := fun h => by
  have h1 := (good_of hg).1
  have := mxL_length G k
  rw [h] at this
  simp at this
  omega
theorem mxL_mem {G : List (List Int)} {k : Nat} {z : Int} : z ∈ mxL G k ↔ ∃ i, i < G.length ∧ ((mxE G k i : Nat) : Int) = z := by
  simp [mxL]
theorem max_nine {G : List (List Int)} (hg : gOk G = true) : (Lib.maxOf (mxL G 9) == 9) = !lngK G := by
  have h9 : Lib.maxOf (mxL G 9) ≤ 9 := (maxOf_iff (mxL_ne hg 9) 9).2 fun z hz => by
    obtain ⟨i, _, rfl⟩ := mxL_mem.1 hz
    have := mxE_le G i 9
    omega
  have h8 : Lib.maxOf (mxL G 9) ≤ 8 ↔ lngK G = true := by
    rw [maxOf_iff (mxL_ne hg 9)]
    constructor
    · intro h
      cases hk : lngK G with
      | true => rfl
      | false =>
        obtain ⟨i, hi, he⟩ := (mx_nine hg).1 hk
        have := h _ (mxL_mem.2 ⟨i, hi, rfl⟩)
        omega
    · intro hk z hz
      obtain ⟨i, hi, rfl⟩ := mxL_mem.1 hz
      have := mxE_le G i 9
      have hn : mxE G 9 i ≠ 9 := fun e => by
        have := (mx_nine hg).2 ⟨i, hi, e⟩
        rw [hk] at this; cases this
      omega
  cases hk : lngK G with
  | true =>
    have := h8.2 hk
    simp; omega
  | false =>
    have : ¬ Lib.maxOf (mxL G 9) ≤ 8 := fun h => by have := h8.1 h; rw [hk] at this; cases this
    simp; omega
theorem max_hgt {G : List (List Int)} (hk : lngK G = true) : Lib.maxOf (hgtL G) + 1 = lngI G := by
  obtain ⟨hg, n, hn⟩ := lngK_some hk
  have e : lngI G = (n : Int) := by unfold lngI; rw [if_pos hg, hn]
  rw [e, ← mxL_hgt hk]
  obtain ⟨_, i, hi, he⟩ := hgt_map hg hn
  have h1 := (lng_some hn).1
  have hne := mxL_ne hg 9
  have hle : ∀ q : Int, Lib.maxOf (mxL G 9) ≤ q ↔ (n : Int) - 1 ≤ q := fun q => by
    rw [maxOf_iff hne, mxL_hgt hk]
    constructor
    · intro h
      have := h ((mxE G 8 i : Nat) : Int) (by rw [hgt_yes hk]; exact List.mem_map.2 ⟨i, List.mem_range.2 hi, rfl⟩)
      rw [he] at this
      omega
    · intro h z hz
      rw [hgt_yes hk] at hz
      obtain ⟨j, hj, rfl⟩ := List.mem_map.1 hz
      have := hgt_lt hn (List.mem_range.1 hj)
      omega
  have a1 := (hle _).1 (Int.le_refl _)
  have a2 := (hle _).2 (Int.le_refl _)
  omega
end Go.Proofs.Ytpcmenhchabgiaa

namespace Go.Proofs.Ytpcmenhchabgiaa
open Go.RowKit Go.Shelf Go.Deep

attribute [local go_sem] Oper.semAt_some

theorem fit_nilQ : Fit ([] : List (List Int)) := ⟨Nat.zero_le _, fun _ h => by cases h⟩

set_option maxRecDepth 100000 in
set_option maxHeartbeats 1000000 in
theorem graphBy_yes (gf : Nat) (lb : Array Value) (p : Nat → Nat → Bool) (m : Nat) (h1 : 1 ≤ m) (h9 : m ≤ 9) (w : World)
    (he : ∀ args w, (callFunc gf args).run Try.prog w = .ok (.enter gf args) w)
    (hcl : ∀ W' i j, Below w.heap.size w W' → i < m → j < m → CallsIn Fence.wide 20 Try.prog gf (#[.int .i64 (i : Int), .int .i64 (j : Int)] ++ lb) W' (Ans (.bool (p i j)) W')) :
    Calls Try.prog 56 #[.int .i64 m, .func (.func gf) #[] lb] w (MadeR (rowsP m p) w) := by
  have HR := Lib.hid (callsIn_wide.1 (rowsBy_in Fence.wide rfl (fun _ => trivial) rfl gf lb p m h9 w he hcl))
  have d1 : decide ((m : Int) < 1) = false := decide_eq_false (by omega)
  have d2 : decide ((9 : Int) < (m : Int)) = false := decide_eq_false (by omega)
  have hl := rowsP_length m p
  clear hcl he
  go_enter Try.func56, Try.ntmps56
  go_wp2_with fail
  refine HR.out.mono ?_
  rintro e w2 ⟨rfl, hB3, hO⟩
  have HB := Lib.hid hB3
  have HO := Lib.hid hO
  clear hB3 hO HR
  go_wp2_with fail
  go_ret
  exact ⟨_, m, ⟨by rw [hl]; rfl, HB.out⟩, .inr ⟨w.heap.size + 1, fun i => w.heap.size + 3 + i, rfl, hl.symm, HO.out, by omega, fun i _ => by show w.heap.size ≤ w.heap.size + 3 + i; omega, fun i j h => by have h' : w.heap.size + 3 + i = w.heap.size + 3 + j := h; omega⟩⟩

set_option maxRecDepth 100000 in
set_option maxHeartbeats 1000000 in
theorem graphBy_no (z : Int) (hz : ¬ (1 ≤ z ∧ z ≤ 9)) (f : Value) (w : World) :
    Calls Try.prog 56 #[.int .i64 z, f] w (MadeR [] w) := by
  by_cases h1 : z < 1
  · have d1 : decide (z < 1) = true := decide_eq_true h1
    clear hz
    go_enter Try.func56, Try.ntmps56
    go_wp2
    go_ret
    exact ⟨none, 0, ⟨rfl, Below.refl _ _⟩, .inl ⟨rfl, rfl, rfl⟩⟩
  · have d1 : decide (z < 1) = false := decide_eq_false h1
    have d2 : decide (9 < z) = true := decide_eq_true (by omega)
    clear hz
    go_enter Try.func56, Try.ntmps56
    go_wp2
    go_ret
    exact ⟨none, 0, ⟨rfl, Below.refl _ _⟩, .inl ⟨rfl, rfl, rfl⟩⟩


end Go.Proofs.Ytpcmenhchabgiaa

namespace Go.Proofs.Ytpcmenhchabgiaa
open Go.RowKit Go.Shelf Go.Deep

attribute [local go_sem] Oper.semAt_some

/-- WHAT HOLDS BETWEEN TWO ROUNDS. -/
structure LSt (w W : World) (a : Option Addr) (c : Nat) (G : List (List Int)) (f : Nat → Nat) : Prop where
  below : Below w.heap.size w W
  g : Boxed W w.heap.size 58 (.slice a G.length c)
  v : Boxed W (w.heap.size + 1 + 1 + 1) 33 (.slice (some ⟨w.heap.size + 1 + 1, 0, none⟩) G.length G.length)
  row : W.rowIs (w.heap.size + 1 + 1) 3 G.length (fun j => .int .i64 ((f j : Nat) : Int))
theorem LSt.grown {w W W' : World} {a : Option Addr} {c : Nat} {G : List (List Int)} {f : Nat → Nat} (h : LSt w W a c G f) (hb : Below W.heap.size W W') : LSt w W' a c G f :=
  ⟨h.below.trans (hb.mono h.below.size), (hb.block _ h.g.lt).trans h.g, (hb.block _ h.v.lt).trans h.v, World.rowIs.of_block h.row (hb.block _ (World.rowIs.lt h.row))⟩
theorem LSt.own {w : World} {a : Option Addr} {c : Nat} {G : List (List Int)} {β : Type} {f : β → Nat → Nat} {B : Nat} (hB : w.heap.size ≤ B) : OwnFrom B (fun x W => LSt w W a c G (f x)) := fun s A C row h hg hr => by
  have hr2 : ∀ r, row = some r → ∃ o : Obj, A.heap[r]? = some o ∧ o.isCells = false := fun r e => (hr r e).2
  exact ⟨ownFrom_below (β := Unit) (Nat.le_refl _) hB () A C row h.below hg hr,
    boxed_own _ _ (fun (_ : Unit) => _) () A C row h.g hg hr2, boxed_own _ _ (fun (_ : Unit) => _) () A C row h.v hg hr2, rowIs_own _ _ _ (fun (_ : Unit) => _) () A C row h.row hg hr2⟩
theorem LSt.put {w W : World} {a : Option Addr} {c : Nat} {G : List (List Int)} {f : Nat → Nat} (h : LSt w W a c G f) (j q : Nat) : LSt w (W.setCell ⟨w.heap.size + 1 + 1, j, none⟩ (.int .i64 ((q : Nat) : Int))) a c G (fun i => if i = j then q else f i) := by
  refine ⟨h.below.setCell (p := ⟨w.heap.size + 1 + 1, j, none⟩) (by show w.heap.size ≤ w.heap.size + 1 + 1; omega) _,
    (Below.heap_setCell _ ⟨w.heap.size + 1 + 1, j, none⟩ _ w.heap.size (by show w.heap.size ≠ w.heap.size + 1 + 1; omega)).trans h.g,
    (Below.heap_setCell _ ⟨w.heap.size + 1 + 1, j, none⟩ _ (w.heap.size + 1 + 1 + 1) (by show w.heap.size + 1 + 1 + 1 ≠ w.heap.size + 1 + 1; omega)).trans h.v, ?_⟩
  refine (h.row.set j _).congr fun l _ => ?_
  by_cases e : l = j
  · subst e; simp
  · simp [e]
theorem LSt.congr {w W : World} {a : Option Addr} {c : Nat} {G : List (List Int)} {f f' : Nat → Nat} (h : LSt w W a c G f) (e : ∀ i, i < G.length → f i = f' i) : LSt w W a c G f' :=
  ⟨h.below, h.g, h.v, h.row.congr fun i hi => by rw [e i hi]⟩
/-- THE ROW OF BEFORE. -/
def BCells (b m : Nat) (f : Nat → Nat) (W : World) : Prop := ∀ j, j < m → W.cell? ⟨b, j, none⟩ = some (.int .i64 ((f j : Nat) : Int))
theorem bcells_own {β : Type} (b m : Nat) (f : Nat → Nat) : Own (fun (_ : β) W => BCells b m f W) := fun _ _ _ _ h hg hr j hj => cell_kept (h j hj) hg hr

set_option maxRecDepth 100000 in
set_option maxHeartbeats 4000000 in
theorem longest_in (a : Option Addr) (c : Nat) (G : List (List Int)) (w : World) (hM : Mat w.heap.size w a G) (hG : Good G) :
    Calls Try.prog 131 #[.agg #[.slice a G.length c]] w (MadeI (mxL G 9) w) := by
  have h1 : Fence.wide.fn 70 := trivial
  have h2 : Fence.wide.fn 100 := trivial
  have h3 : Fence.wide.fn 64 := trivial
  have hdd : ∀ k : Nat, (Fence.wide.depth.isSome = true → 1 ≤ k) := fun k h => by cases h
  have hl9 := hG.2.1
  have HG := Lib.hid hG
  have es : ∀ (W : World) (o : Obj), (W.alloc o).heap.size = W.heap.size + 1 := fun W o => by simp
  have hmk := run_make_row' (P := Try.prog) 33 3 (.int .i64 0) 8 Try.underlying33 infoInt rfl .i64 .i64 G.length (by omega) (by omega)
  clear hG
  refine callsIn_wide.1 (callsIn_of_wp_marks (n := 20) Try.func131 rfl trivial ?_ rfl)
  simp only [Try.ntmps131, List.size_toArray, List.length_cons, List.length_nil, Nat.reduceAdd, Nat.reduceSub, Array.replicate_succ, Array.replicate_zero, List.push_toArray, List.append_toArray, List.nil_append, List.cons_append]
  gi_wp2_with ((try refine ⟨hdd _, ?_⟩); gi_at_call 70; refine (nodes_in Fence.wide _ (fun _ => trivial) rfl _ _ _ _).mono ?_; rintro e w' ⟨rfl, rfl⟩)
  clear hmk
  have HL0 : Hid (LSt w ((((w.alloc (.cells #[.slice a G.length c] 58)).alloc (.cells #[.slice a G.length c] 58)).alloc (.cells (madeCells #[.int .i64 0] G.length) 3)).alloc (.cells #[.slice (some ⟨w.heap.size + 1 + 1, 0, none⟩) G.length G.length] 33)) a c G (mxE G 0)) := by
    refine ⟨((((Below.refl _ _).alloc (Nat.le_refl _) _).alloc (by simp) _).alloc (by simp; omega) _).alloc (by simp; omega) _, (((Boxed.new w _ _).alloc _).alloc _).alloc _, ?_, ?_⟩
    · have := Boxed.new (((w.alloc (.cells #[.slice a G.length c] 58)).alloc (.cells #[.slice a G.length c] 58)).alloc (.cells (madeCells #[.int .i64 0] G.length) 3)) 33 (.slice (some ⟨w.heap.size + 1 + 1, 0, none⟩) G.length G.length)
      rw [es, es, es] at this; exact this
    · have := (World.rowIs_made ((w.alloc (.cells #[.slice a G.length c] 58)).alloc (.cells #[.slice a G.length c] 58)) (.int .i64 0) G.length 3).alloc (.cells #[.slice (some ⟨w.heap.size + 1 + 1, 0, none⟩) G.length G.length] 33)
      rw [es, es] at this
      exact this.congr fun i _ => rfl
  have hs0 : ((((w.alloc (.cells #[.slice a G.length c] 58)).alloc (.cells #[.slice a G.length c] 58)).alloc (.cells (madeCells #[.int .i64 0] G.length) 3)).alloc (.cells #[.slice (some ⟨w.heap.size + 1 + 1, 0, none⟩) G.length G.length] 33)).heap.size = w.heap.size + 4 := by rw [es, es, es, es]
  obtain ⟨V0, hV0⟩ : ∃ V0, ((((w.alloc (.cells #[.slice a G.length c] 58)).alloc (.cells #[.slice a G.length c] 58)).alloc (.cells (madeCells #[.int .i64 0] G.length) 3)).alloc (.cells #[.slice (some ⟨w.heap.size + 1 + 1, 0, none⟩) G.length G.length] 33)) = V0 := ⟨_, rfl⟩
  rw [hV0] at HL0 hs0 ⊢
  have hsz0 : w.heap.size + 4 ≤ V0.heap.size := by omega
  clear hV0 hs0
  refine wpIn_loop (fun a₁ W' => ∃ (k : Nat) (Ds : List Nat) (i u4 u5 u6 u7 u8 u9 u11 u12 u13 u14 u15 u16 u17 u18 u19 u20 u21 u22 u23 u24 u25 u26 u27 u28 u29 u30 u31 u32 : Value), k ≤ 9 ∧ i = .int .i64 k ∧ a₁ = { tmps := #[.agg #[.slice a G.length c], .pointer (some ⟨w.heap.size, 0, none⟩), .slice none 0 0, .pointer (some ⟨w.heap.size + 1 + 1 + 1, 0, none⟩), u4, u5, u6, u7, u8, u9, i, u11, u12, u13, u14, u15, u16, u17, u18, u19, u20, u21, u22, u23, u24, u25, u26, u27, u28, u29, u30, u31, u32], defers := marks Ds } ∧
      Hid (LSt w W' a c G (mxE G k)) ∧ Hid (Marked (w.heap.size + 4) Ds W') ∧ w.heap.size + 4 ≤ W'.heap.size)
    (fun a₁ _ => 9 - (intOf (a₁.tmps.getD 10 undef)).toNat) ⟨0, [], _, _, _, _, _, _, _, _, _, _, _, _, _, _, _, _, _, _, _, _, _, _, _, _, _, _, _, _, _, Nat.zero_le _, rfl, rfl, HL0, Marked.nil _ _, hsz0⟩ ?_
  clear HL0 hsz0
  rintro _ wr ⟨k, Ds, _, u4, u5, u6, u7, u8, u9, u11, u12, u13, u14, u15, u16, u17, u18, u19, u20, u21, u22, u23, u24, u25, u26, u27, u28, u29, u30, u31, u32, hk, rfl, rfl, HL, HMk, hsr⟩
  by_cases hlt : k < 9
  · have cV := HL.out.v.cell
    have cG := HL.out.g.cell
    have hCl := slices_Clone_int (w.heap.size + 1 + 1) 0 G.length G.length (mxL G k) wr (by rw [mxL_length]; exact Nat.le_refl _) (by omega) (fun j hj => by
      rw [mxL_length] at hj
      have := HL.out.row.cell hj
      rw [Nat.zero_add, this, List.getD_eq_getElem?_getD, mxL_get hj]; rfl)
    have HCl := Lib.hid hCl
    clear hCl
    gi_wp2_with fail
    refine (callsIn_wide.2 HCl.out).mono ?_
    rintro e w1 ⟨v1, rfl, hown, hnn, hbel⟩
    obtain ⟨gb, cap, rfl, hbg, hgl, hncap, hcm, _, _⟩ := Lib.holds_of_ownsRow hown hnn
    have hz1 := hbel.size
    have HB1 : Hid (BCells gb G.length (mxE G k) w1) := Lib.hid (fun j hj => by
      have := hown.cellAt j (by omega)
      rw [List.take_of_length_le (by rw [mxL_length]; exact Nat.le_refl _), List.getElem?_map, mxL_get hj] at this
      exact this)
    have HL1 := Lib.hid (HL.out.grown hbel)
    have HMk1 := Lib.hid (HMk.out.below hbel (Nat.le_refl _))
    have hs1 : w.heap.size + 4 ≤ w1.heap.size := by omega
    have hgb4 : w.heap.size + 4 ≤ gb := by omega
    have cG1 : ∀ o : Obj, (w1.alloc o).cell? ⟨w.heap.size, 0, none⟩ = some (.slice a G.length c) := fun o => (HL1.out.g.alloc o).cell
    clear hown hnn hbel HL HMk cV cG HCl hncap hcm hbg
    gi_wp2_with ((try refine ⟨hdd _, ?_⟩); gi_at_call 64; refine (arrows_in Fence.wide _ (fun _ => trivial) rfl _ _ _ _).mono ?_; rintro e w' ⟨rfl, rfl⟩)
    have hBd : Below w1.heap.size w1 ((w1.alloc (.cells #[.slice (some ⟨gb, 0, none⟩) G.length cap] 33)).alloc (.cells #[.slice a G.length c] 58)) := ((Below.refl _ w1).alloc (Nat.le_refl _) _).alloc (by simp) _
    have bB := (Boxed.new w1 33 (.slice (some ⟨gb, 0, none⟩) G.length cap)).alloc (.cells #[.slice a G.length c] 58)
    have bG := Boxed.new (w1.alloc (.cells #[.slice (some ⟨gb, 0, none⟩) G.length cap] 33)) 58 (.slice a G.length c)
    rw [es] at bG
    have hsV : ((w1.alloc (.cells #[.slice (some ⟨gb, 0, none⟩) G.length cap] 33)).alloc (.cells #[.slice a G.length c] 58)).heap.size = w1.heap.size + 2 := by rw [es, es]
    have HB2 : Hid (BCells gb G.length (mxE G k) ((w1.alloc (.cells #[.slice (some ⟨gb, 0, none⟩) G.length cap] 33)).alloc (.cells #[.slice a G.length c] 58))) := Lib.hid (fun j hj => (hBd.cell (p := ⟨gb, j, none⟩) hgl).trans (HB1.out j hj))
    obtain ⟨V, hV⟩ : ∃ V, (w1.alloc (.cells #[.slice (some ⟨gb, 0, none⟩) G.length cap] 33)).alloc (.cells #[.slice a G.length c] 58) = V := ⟨_, rfl⟩
    rw [hV] at hBd bB bG hsV HB2 ⊢
    have HL2 := Lib.hid (HL1.out.grown hBd)
    have HMk2 := Lib.hid (HMk1.out.below hBd (Nat.le_refl _))
    have hMV := hM.below HL2.out.below
    have hsV2 : w1.heap.size + 2 ≤ V.heap.size := by omega
    have hDs : ∀ D ∈ Ds, D < w1.heap.size := fun D hD => (HMk1.out.2 D hD).2.1
    clear hV HL1 HMk1 HB1 cG1 hsV hBd
    refine range_law rfl rfl (fun _ => trivial) (gf := 91) (lb := #[.pointer (some ⟨w1.heap.size + 1, 0, none⟩)]) rfl (enters_of Try.func91 (by kernel_rfl) rfl)
      (arrows_X Fence.wide rfl (fun _ => trivial) rfl (w1.heap.size + 1) w.heap.size a c G HG.out (fun B => B = w.heap.size + 1 + 1) (V.heap.size + 2) V (by omega) (by omega) (fun B s => by omega) (fun B s => by omega) (by omega) bG hMV) (fun h k => KeepC.trans h k) (fun W' o o' h hc => KeepC.putObj _ (by omega) W' o o' h hc) (Below.refl _ _) (fun _ => rfl)
      (fun pre W' => ((LSt w W' a c G (stpA (mxE G k) pre) ∧ Boxed W' w1.heap.size 33 (.slice (some ⟨gb, 0, none⟩) G.length cap)) ∧ BCells gb G.length (mxE G k) W') ∧ Hid (Marked (w.heap.size + 4) Ds W'))
      (fun _ _ _ => False)
      (OwnFrom.and (OwnFrom.and (OwnFrom.and (LSt.own (by omega)) (Own.from (boxed_own _ _ _) _)) (Own.from (bcells_own _ _ _) _)) (fun _ A C row h hg hr => Lib.hid (h.out.from (fun D hD => by have := hDs D hD; omega) hg (fun r e => (hr r e).1))))
      (fun _ _ _ _ _ hs _ _ => hs)
      ⟨⟨⟨HL2.out, bB⟩, HB2.out⟩, HMk2⟩ ?a1 ?assign ?body ?done ?stop
    case assign =>
      intro l2 x W' K hK
      gi_wp2
      exact hK
    case body =>
      rintro l2 pre ⟨⟨i, hi⟩, ⟨j, hj⟩⟩ W' ⟨⟨⟨hL, hbB⟩, hBC⟩, HM⟩ _
      have HL := Lib.hid hL
      have cV := hL.v.cell
      have cB := hbB.cell
      have ci := hBC i hi
      have cj := hL.row.cell hj
      have fj := hL.row.frozen j
      have hpi : mxE G k i ≤ 8 := Nat.le_trans (mxE_le G i k) (by omega)
      have HBC := Lib.hid hBC
      have HbB := Lib.hid hbB
      have HS := Lib.hid (stpA_snoc (mxE G k) pre ((⟨i, hi⟩ : Fin G.length), (⟨j, hj⟩ : Fin G.length)))
      obtain ⟨p, hp⟩ : ∃ p, mxE G k i = p := ⟨_, rfl⟩
      obtain ⟨q, hq⟩ : ∃ q, stpA (mxE G k) pre j = q := ⟨_, rfl⟩
      rw [hp] at ci hpi
      rw [hq] at cj
      have HP := Lib.hid hp
      have HQ := Lib.hid hq
      have e1 : IntKind.i64.wrap ((p : Int) + 1) = (p : Int) + 1 := by rw [IntKind.wrap_i64]; omega
      clear hp hq hL hbB hBC HL2 HMk2 HB2 bB bG
      have HL3 : Hid (LSt w (W'.setCell ⟨w.heap.size + 1 + 1, j, none⟩ (.int .i64 ((max q (p + 1) : Nat) : Int))).drew a c G (stpA (mxE G k) (pre ++ [((⟨i, hi⟩ : Fin G.length), (⟨j, hj⟩ : Fin G.length))]))) := Lib.hid (by
        have h3 := (HL.out.put j (max q (p + 1))).congr (f' := stpA (mxE G k) (pre ++ [((⟨i, hi⟩ : Fin G.length), (⟨j, hj⟩ : Fin G.length))])) (fun t _ => by
          rw [stpA_snoc]
          by_cases e : t = j
          · subst e; rw [if_pos rfl, if_pos rfl, HQ.out, HP.out]
          · rw [if_neg e, if_neg (fun e' => e e'.symm)])
        exact ⟨h3.below.drew, h3.g, h3.v, h3.row⟩)
      have HbB3 : Hid (Boxed (W'.setCell ⟨w.heap.size + 1 + 1, j, none⟩ (.int .i64 ((max q (p + 1) : Nat) : Int))).drew w1.heap.size 33 (.slice (some ⟨gb, 0, none⟩) G.length cap)) := Lib.hid ((Below.heap_setCell _ ⟨w.heap.size + 1 + 1, j, none⟩ _ w1.heap.size (by show w1.heap.size ≠ w.heap.size + 1 + 1; omega)).trans HbB.out)
      have HBC3 : Hid (BCells gb G.length (mxE G k) (W'.setCell ⟨w.heap.size + 1 + 1, j, none⟩ (.int .i64 ((max q (p + 1) : Nat) : Int))).drew) := Lib.hid (fun t ht => (World.cell?_of_block (Below.heap_setCell W' ⟨w.heap.size + 1 + 1, j, none⟩ _ gb (by show gb ≠ w.heap.size + 1 + 1; omega))).trans (HBC.out t ht))
      have HM3 : Hid (Marked (w.heap.size + 4) Ds (W'.setCell ⟨w.heap.size + 1 + 1, j, none⟩ (.int .i64 ((max q (p + 1) : Nat) : Int))).drew) := Lib.hid (HM.out.keep (by simp) (fun D o hD ho _ => (Below.heap_setCell W' ⟨w.heap.size + 1 + 1, j, none⟩ _ D (by show D ≠ w.heap.size + 1 + 1; omega)).trans ho))
      have HKF : Hid (KeepsFrom V.heap.size W' (W'.setCell ⟨w.heap.size + 1 + 1, j, none⟩ (.int .i64 ((max q (p + 1) : Nat) : Int))).drew) := Lib.hid (by
        have hkf : KeepsFrom V.heap.size W' (W'.setCell ⟨w.heap.size + 1 + 1, j, none⟩ (.int .i64 ((max q (p + 1) : Nat) : Int))) := (KeepsOthers.setCell _ _ _).from _
        exact ⟨hkf.size, hkf.same⟩)
      have HKC : Hid (KeepC (fun B => B = w.heap.size + 1 + 1) (V.heap.size + 2) W' (W'.setCell ⟨w.heap.size + 1 + 1, j, none⟩ (.int .i64 ((max q (p + 1) : Nat) : Int))).drew) := Lib.hid (KeepC.setCell (S := fun B => B = w.heap.size + 1 + 1) _ W' rfl j _)
      clear HL HbB HBC HM
      gi_wp2_with fail
      refine region_still_tail_in 13 (by kernel_rfl) (by kernel_rfl) (by kernel_rfl) (fun ⟨_, _, h⟩ => h) ?_
      simp only [List.take_succ_cons, List.take_zero, List.drop_succ_cons, List.drop_zero]
      repeat still_step
      try refine wpStill_nil ?_
      change wpList _ _ _ _ _ W'.drew
      go_wp2_with fail
      gi_wp2
      rw [show max (q : Int) ((p : Int) + 1) = ((max q (p + 1) : Nat) : Int) by omega]
      exact ⟨HKF.out, HKC.out, ⟨⟨HL3.out, HbB3.out⟩, HBC3.out⟩, HM3⟩
    case done =>
      rintro D ys W' hD rfl ⟨⟨⟨hL, _⟩, _⟩, HM⟩ hK
      clear HL2 HMk2 HB2 bB bG
      have HL9 : Hid (LSt w W' a c G (mxE G (k + 1))) := Lib.hid (hL.congr fun i hi => stpA_all k i hi)
      have HM9 : Hid (Marked (w.heap.size + 4) (D :: Ds) W') := Lib.hid (HM.out.cons (by omega) hK (fun x hx => by have := hDs x hx; omega))
      have hs9 : w.heap.size + 4 ≤ W'.heap.size := by have := hL.v.lt; have := (Array.getElem?_eq_some_iff.1 hK).1; omega
      clear hL HM hK
      gi_wp2
      refine ⟨⟨k + 1, D :: Ds, _, _, _, _, _, _, _, _, _, _, _, _, _, _, _, _, _, _, _, _, _, _, _, _, _, _, _, _, _, by omega, by go_num, rfl, HL9, HM9, hs9⟩, ?_⟩
      simp [intOf]; omega
    case stop =>
      rintro D c' pre W' _ _ hx _
      exact hx.elim
  · obtain rfl : k = 9 := by omega
    have cV := HL.out.v.cell
    gi_wp2
    refine leaves_marks (T := w.heap.size + 4) (fun W' => LSt w W' a c G (mxE G 9)) (fun W' D hD hk hz => (LSt.own (β := Unit) (f := fun _ => mxE G 9) (B := w.heap.size) (Nat.le_refl _)).putObj (s := ()) _ hz (by omega) hk rfl) (fun W' hz => ⟨_, results_tmp rfl _ _ _, ?_⟩) Ds wr HMk.out HL.out
    refine ⟨_, G.length, ⟨by rw [mxL_length]; rfl, hz.below⟩, .inr ⟨w.heap.size + 1 + 1, rfl, (mxL_length G 9).symm, ?_, by omega⟩⟩
    unfold RowI
    rw [mxL_length]
    exact hz.row.congr fun j hj => by rw [mxL_get hj]; rfl

theorem mxL_fit {G : List (List Int)} (hG : Good G) (k : Nat) : (mxL G k).length ≤ 1048576 := by rw [mxL_length]; have := hG.2.1; omega
theorem max_cells {W : World} {base : Nat} {xs : List Int} {a : Option Addr} {c : Nat} (h : W.ownsRow base 3 1 (.slice a xs.length c) xs.length (xs.map (Value.int .i64))) (h1 : 0 < xs.length) (hl : xs.length ≤ 1048576) :
    Calls Try.prog 117 #[.slice a xs.length c] W fun e w' => e = .returned (.int .i64 (Lib.maxOf xs)) ∧ w' = W := by
  obtain ⟨b, o, rfl, _, hc⟩ := (own_intsQ h) (fun e => by simp [e] at h1)
  have := slices_Max_int b o xs.length c xs W h1 (Nat.le_refl _) (by omega) (fun j hj => by rw [hc j hj]; simp [List.getD])
  rwa [List.take_length] at this

set_option maxRecDepth 100000 in
set_option maxHeartbeats 1000000 in
theorem implHgt (a : Option Addr) (c : Nat) (G : List (List Int)) (w : World) (hM : Mat w.heap.size w a G) (hF : Fit G) :
    Calls Try.prog 116 #[.slice a G.length c] w (MadeLB (hgtL G) (lngK G) w) := by
  have HOk := Lib.hid (implOk a c G w hM hF)
  by_cases hg : gOk G = true
  · have hG := good_of hg
    have h19 : 0 < (mxL G 9).length := by rw [mxL_length]; exact hG.1
    have hfit := mxL_fit hG 9
    have HML : Hid ((mxL G 9).length = G.length) := Lib.hid (mxL_length G 9)
    have HN := Lib.hid (max_nine hg)
    have HH : Hid (lngK G = true → mxL G 9 = hgtL G) := Lib.hid mxL_hgt
    have HNo : Hid (lngK G = false → hgtL G = []) := Lib.hid hgt_no
    obtain ⟨zs, hzs⟩ : ∃ zs, mxL G 9 = zs := ⟨_, rfl⟩
    obtain ⟨yes, hy⟩ : ∃ yes, lngK G = yes := ⟨_, rfl⟩
    obtain ⟨ys, hys⟩ : ∃ ys, hgtL G = ys := ⟨_, rfl⟩
    have HLo : Hid (∀ w1, Below w.heap.size w w1 → Calls Try.prog 131 #[.agg #[.slice a G.length c]] w1 (MadeOwn zs w1)) := Lib.hid (fun w1 hB => by
      have := (longest_in a c G w1 ((hM.below hB).more hB.size) hG).mono fun e w' h => madeI_own hfit h
      rwa [hzs] at this)
    rw [hzs] at h19 hfit HML HN HH
    rw [hy] at HN HH HNo ⊢
    rw [hys] at HH HNo ⊢
    rw [hg] at HOk
    clear hzs hy hys hG hg hM hF
    go_enter Try.func116, Try.ntmps116
    go_wp2_with fail
    refine HOk.out.mono ?_
    rintro e w1 ⟨rfl, hB1⟩
    have hz1 := hB1.size
    go_wp2_with fail
    refine (HLo.out w1 hB1).mono ?_
    rintro e w2 ⟨a2, c2, ⟨rfl, hB2⟩, hO2⟩
    have HB2 := Lib.hid (hB1.trans (hB2.mono hz1))
    have HMx := Lib.hid (max_cells hO2 h19 hfit)
    have HO := Lib.hid (Joins.ownsRow_le hO2 hz1)
    clear hO2 HLo hB1 hB2 hz1
    go_wp2_with fail
    refine HMx.out.mono ?_
    rintro e w3 ⟨rfl, rfl⟩
    cases yes with
    | true =>
      have hn : (Lib.maxOf zs == 9) = false := HN.out
      have he := HH.out rfl
      subst he
      go_wp2_with fail
      go_ret2
      exact ⟨a2, c2, ⟨rfl, HB2.out⟩, HO.out⟩
    | false =>
      have hn : (Lib.maxOf zs == 9) = true := HN.out
      have he := HNo.out rfl
      subst he
      go_wp2_with fail
      go_ret2
      exact ⟨none, 0, ⟨rfl, HB2.out⟩, World.ownsRow_nil _ _ _ 1⟩
  · have hn : gOk G = false := by simpa using hg
    have hk : lngK G = false := by unfold lngK; rw [hn]; rfl
    rw [hn] at HOk
    rw [hk, hgt_no hk]
    clear hg hn hk hM hF
    go_enter Try.func116, Try.ntmps116
    go_wp2_with fail
    refine HOk.out.mono ?_
    rintro e w1 ⟨rfl, hB1⟩
    go_wp2_with fail
    go_ret2
    exact ⟨none, 0, ⟨rfl, hB1⟩, World.ownsRow_nil _ _ _ 1⟩

theorem lngI_no {G : List (List Int)} (h : lngK G = false) : lngI G = -1 := by
  unfold lngK at h
  unfold lngI
  cases hg : gOk G with
  | false => simp
  | true =>
    rw [hg] at h
    cases h2 : lngO G with
    | none => simp
    | some n => rw [h2] at h; cases h
set_option maxRecDepth 100000 in
set_option maxHeartbeats 1000000 in
theorem implLng (a : Option Addr) (c : Nat) (G : List (List Int)) (w : World) (hM : Mat w.heap.size w a G) (hF : Fit G) :
    Calls Try.prog 105 #[.slice a G.length c] w (Ans (.tuple #[.int .i64 (lngI G), .bool (lngK G)]) w) := by
  have HHg := Lib.hid (implHgt a c G w hM hF)
  cases hk : lngK G with
  | true =>
    have hg := (lngK_some hk).1
    have h19 : 0 < (hgtL G).length := by rw [hgt_yes hk]; simp; exact (good_of hg).1
    have hfit : (hgtL G).length ≤ 1048576 := by rw [hgt_yes hk]; simp; have := (good_of hg).2.1; omega
    have hmx := max_hgt hk
    have hI9 : lngI G ≤ 9 ∧ 1 ≤ lngI G := by
      obtain ⟨_, n, hn⟩ := lngK_some hk
      have := (lng_some hn).1
      have e : lngI G = (n : Int) := by unfold lngI; rw [if_pos hg, hn]
      omega
    rw [hk] at HHg
    obtain ⟨zs, hzs⟩ : ∃ zs, hgtL G = zs := ⟨_, rfl⟩
    obtain ⟨z, hz⟩ : ∃ z, lngI G = z := ⟨_, rfl⟩
    rw [hzs] at HHg h19 hfit hmx
    rw [hz] at hmx hI9 ⊢
    have e1 : wrap64 (Lib.maxOf zs + 1) = z := by unfold wrap64; omega
    have HW := Lib.hid e1
    clear hz hzs hk hg hM hF hmx e1
    go_enter Try.func105, Try.ntmps105
    go_wp2_with fail
    refine HHg.out.mono ?_
    rintro e w2 ⟨a2, c2, ⟨rfl, hB2⟩, hO2⟩
    have HMx := Lib.hid (max_cells hO2 h19 hfit)
    clear hO2
    go_wp2_with fail
    refine HMx.out.mono ?_
    rintro e w3 ⟨rfl, rfl⟩
    go_wp2_with fail
    go_ret2
    exact ⟨congrArg (fun t => Ending.returned (.tuple #[.int .i64 t, .bool true])) HW.out, hB2⟩
  | false =>
    rw [lngI_no hk]
    rw [hk] at HHg
    clear hk hM hF
    go_enter Try.func105, Try.ntmps105
    go_wp2_with fail
    refine HHg.out.mono ?_
    rintro e w2 ⟨a2, c2, ⟨rfl, hB2⟩, _⟩
    go_wp2_with fail
    go_ret2
    exact ⟨rfl, hB2⟩

end Go.Proofs.Ytpcmenhchabgiaa

namespace Go.Proofs.Ytpcmenhchabgiaa
open Go.RowKit Go.Shelf Go.Deep

theorem p11_here : True := trivial

end Go.Proofs.Ytpcmenhchabgiaa
