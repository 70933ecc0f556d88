/-
  Several texts in one.
  The most arrows along which one comes to a node, round by round (impl's longestSteps): pure facts.
  impl.PathOf, impl.LineOf, impl.RingOf.
  impl.longestSteps, impl.HeightsOf, impl.LongestIn.
  The program's chapter 7, but for its goroutines.
-/
import Derived.Lib.Slices
import Derived.Test.YtldkgkpiceamhaaWA
import Derived.Test.YtldkgkpiceamhaaZN
import Derived.Test.YtldkgkpiceamhaaWB
import Derived.Test.YtldkgkpiceamhaaW0
import Derived.Test.YtldkgkpiceamhaaZC
import Derived.Test.YtldkgkpiceamhaaWY
import Derived.Test.YtldkgkpiceamhaaZM
import Derived.Test.YtldkgkpiceamhaaZO
import Derived.Test.YtldkgkpiceamhaaWR
namespace Go.Proofs.Ytldkgkpiceamhaa
open Go.RowKit Go.Shelf Go.Deep

/-- BEHIND k ROUNDS. -/
def mxL (G : List (List Int)) (k : Nat) : List Int := (List.range G.length).map fun i => ((mxE G k i : Nat) : Int)
theorem mxL_length (G : List (List Int)) (k : Nat) : (mxL G k).length = G.length := by simp [mxL]
theorem mxL_get {G : List (List Int)} {k i : Nat} (hi : i < G.length) : (mxL G k)[i]? = some ((mxE G k i : Nat) : Int) := by simp [mxL, hi]
/-- WITHIN A ROUND, behind some arrows. -/
def stpA {m : Nat} (f : Nat → Nat) (pre : List (Fin m × Fin m)) (j : Nat) : Nat := pre.foldl (fun s x => if x.2.1 = j then max s (f x.1.1 + 1) else s) (f j)
theorem stpA_nil {m : Nat} (f : Nat → Nat) (j : Nat) : stpA f ([] : List (Fin m × Fin m)) j = f j := rfl
theorem stpA_snoc {m : Nat} (f : Nat → Nat) (pre : List (Fin m × Fin m)) (x : Fin m × Fin m) (j : Nat) : stpA f (pre ++ [x]) j = if x.2.1 = j then max (stpA f pre j) (f x.1.1 + 1) else stpA f pre j := by
  unfold stpA; rw [List.foldl_append]; rfl
theorem foldl_max {α : Type} (p : α → Prop) [DecidablePred p] (f : α → Nat) (q : Nat) : ∀ (l : List α) (s : Nat), l.foldl (fun s x => if p x then max s (f x) else s) s ≤ q ↔ s ≤ q ∧ ∀ x ∈ l, p x → f x ≤ q
  | [], s => by simp
  | x :: l, s => by
    rw [List.foldl_cons, foldl_max p f q l]
    by_cases h : p x
    · simp only [h, if_true, List.mem_cons, forall_eq_or_imp, forall_const]
      constructor
      · rintro ⟨h1, h2⟩; exact ⟨by omega, by omega, h2⟩
      · rintro ⟨h1, h2, h3⟩; exact ⟨by omega, h3⟩
    · simp [h]
theorem stpA_le {m : Nat} (f : Nat → Nat) (pre : List (Fin m × Fin m)) (j q : Nat) : stpA f pre j ≤ q ↔ f j ≤ q ∧ ∀ x ∈ pre, x.2.1 = j → f x.1.1 + 1 ≤ q := by
  unfold stpA
  exact foldl_max (fun x : Fin m × Fin m => x.2.1 = j) (fun x => f x.1.1 + 1) q pre (f j)
theorem mxE_iff {G : List (List Int)} {k i q : Nat} : mxE G k i ≤ q ↔ ∀ m, m ≤ k → wkE G m i = true → m ≤ q := by
  constructor
  · intro h m hm hw
    exact Nat.le_trans (mxE_most hm hw) h
  · intro h
    exact h _ (mxE_le G i k) (mxE_walk G i k)
theorem stpA_all {G : List (List Int)} (k j : Nat) (hj : j < G.length) : stpA (mxE G k) (AL G) j = mxE G (k + 1) j := by
  have key : ∀ q, stpA (mxE G k) (AL G) j ≤ q ↔ mxE G (k + 1) j ≤ q := fun q => by
    refine (stpA_le _ _ _ _).trans (Iff.trans ?_ mxE_iff.symm)
    constructor
    · rintro ⟨h1, h2⟩ m hm hw
      cases m with
      | zero => exact Nat.zero_le _
      | succ m =>
        obtain ⟨a, ha, har, hwa⟩ := wkE_iff.1 hw
        have h3 := h2 (⟨a, ha⟩, ⟨j, hj⟩) ((AL_mem _).2 har) rfl
        have h4 : m ≤ mxE G k a := mxE_most (by omega) hwa
        have h3' : mxE G k a + 1 ≤ q := h3
        omega
    · intro h
      refine ⟨h _ (Nat.le_trans (mxE_le G j k) (Nat.le_succ _)) (mxE_walk G j k), fun x hx e => ?_⟩
      have hxa := (AL_mem x).1 hx
      rw [e] at hxa
      exact h _ (Nat.succ_le_succ (mxE_le G x.1.1 k)) (wkE_iff.2 ⟨x.1.1, x.1.2, hxa, mxE_walk G x.1.1 k⟩)
  exact Nat.le_antisymm ((key _).2 (Nat.le_refl _)) ((key _).1 (Nat.le_refl _))
/-- The row within a round. -/
def stpL (G : List (List Int)) (k : Nat) (pre : List (Fin G.length × Fin G.length)) : List Int := (List.range G.length).map fun i => ((stpA (mxE G k) pre i : Nat) : Int)
theorem stpL_nil (G : List (List Int)) (k : Nat) : stpL G k [] = mxL G k := rfl
theorem stpL_all (G : List (List Int)) (k : Nat) : stpL G k (AL G) = mxL G (k + 1) := by
  unfold stpL mxL
  refine List.map_congr_left fun i hi => ?_
  rw [stpA_all k i (List.mem_range.1 hi)]
theorem stpA_bound {m : Nat} {f : Nat → Nat} {k : Nat} (hf : ∀ i, f i ≤ k) (pre : List (Fin m × Fin m)) (j : Nat) : stpA f pre j ≤ k + 1 := (stpA_le f pre j (k + 1)).2 ⟨Nat.le_trans (hf j) (Nat.le_succ _), fun _ _ _ => Nat.succ_le_succ (hf _)⟩

/-- WHAT THE GREATEST TELLS. -/
theorem mx_nine {G : List (List Int)} (hg : gOk G = true) : lngK G = false ↔ ∃ i, i < G.length ∧ mxE G 9 i = 9 := by
  unfold lngK
  rw [hg, Bool.true_and]
  constructor
  · intro h
    have hn : lngO G = none := by cases h2 : lngO G with | none => rfl | some n => rw [h2] at h; cases h
    obtain ⟨i, hi, hw⟩ := wkS_end.1 (lng_none hn (k := 9) (by omega) (by omega))
    exact ⟨i, hi, Nat.le_antisymm (mxE_le G i 9) (mxE_most (Nat.le_refl _) hw)⟩
  · rintro ⟨i, hi, he⟩
    have hw := mxE_walk G i 9
    rw [he] at hw
    cases h2 : lngO G with
    | none => rfl
    | some n =>
      have h1 := lng_some h2
      have : wkS G (n + (9 - n)) = true := by rw [show n + (9 - n) = 9 by omega]; exact wkS_end.2 ⟨i, hi, hw⟩
      have := wkS_mono this
      rw [h1.2] at this; cases this
theorem mxL_hgt {G : List (List Int)} (hk : lngK G = true) : mxL G 9 = hgtL G := by
  obtain ⟨hg, n, hn⟩ := lngK_some hk
  rw [hgt_yes hk]
  unfold mxL
  refine List.map_congr_left fun i hi => ?_
  have hlt := hgt_lt hn (List.mem_range.1 hi)
  have e : mxE G 9 i = mxE G 8 i := by
    show (if wkE G 9 i = true then 9 else mxE G 8 i) = mxE G 8 i
    rw [if_neg]
    intro hw
    have h1 := lng_some hn
    have : wkS G (n + (9 - n)) = true := by rw [show n + (9 - n) = 9 by omega]; exact wkS_end.2 ⟨i, List.mem_range.1 hi, hw⟩
    have := wkS_mono this
    rw [h1.2] at this; cases this
  rw [e]

theorem foldl_maxI (q : Int) : ∀ (l : List Int) (s : Int), l.foldl max s ≤ q ↔ s ≤ q ∧ ∀ z ∈ l, z ≤ q
  | [], s => by simp
  | x :: l, s => by
    rw [List.foldl_cons, foldl_maxI q l]
    simp only [List.mem_cons, forall_eq_or_imp]
    constructor
    · rintro ⟨h1, h2⟩; exact ⟨by omega, by omega, h2⟩
    · rintro ⟨h1, h2, h3⟩; exact ⟨by omega, h3⟩
theorem maxOf_iff {zs : List Int} (h : zs ≠ []) (q : Int) : Lib.maxOf zs ≤ q ↔ ∀ z ∈ zs, z ≤ q := by
  unfold Lib.maxOf
  rw [foldl_maxI]
  constructor
  · exact fun h => h.2
  · intro hz
    cases zs with
    | nil => exact absurd rfl h
    | cons x l => exact ⟨hz x (List.mem_cons_self ..), hz⟩
theorem mxL_ne {G : List (List Int)} (hg : gOk G = true) (k : Nat) : mxL G k ≠ [] := fun h => by
  have h1 := (good_of hg).1
  have := mxL_length G k
  rw [h] at this
  simp at this
  omega
theorem mxL_mem {G : List (List Int)} {k : Nat} {z : Int} : z ∈ mxL G k ↔ ∃ i, i < G.length ∧ ((mxE G k i : Nat) : Int) = z := by
  simp [mxL]
theorem max_nine {G : List (List Int)} (hg : gOk G = true) : (Lib.maxOf (mxL G 9) == 9) = !lngK G := by
  have h9 : Lib.maxOf (mxL G 9) ≤ 9 := (maxOf_iff (mxL_ne hg 9) 9).2 fun z hz => by
    obtain ⟨i, _, rfl⟩ := mxL_mem.1 hz
    have := mxE_le G i 9
    omega
  have h8 : Lib.maxOf (mxL G 9) ≤ 8 ↔ lngK G = true := by
    rw [maxOf_iff (mxL_ne hg 9)]
    constructor
    · intro h
      cases hk : lngK G with
      | true => rfl
      | false =>
        obtain ⟨i, hi, he⟩ := (mx_nine hg).1 hk
        have := h _ (mxL_mem.2 ⟨i, hi, rfl⟩)
        omega
    · intro hk z hz
      obtain ⟨i, hi, rfl⟩ := mxL_mem.1 hz
      have := mxE_le G i 9
      have hn : mxE G 9 i ≠ 9 := fun e => by
        have := (mx_nine hg).2 ⟨i, hi, e⟩
        rw [hk] at this; cases this
      omega
  cases hk : lngK G with
  | true =>
    have := h8.2 hk
    simp; omega
  | false =>
    have : ¬ Lib.maxOf (mxL G 9) ≤ 8 := fun h => by have := h8.1 h; rw [hk] at this; cases this
    simp; omega
theorem max_hgt {G : List (List Int)} (hk : lngK G = true) : Lib.maxOf (hgtL G) + 1 = lngI G := by
  obtain ⟨hg, n, hn⟩ := lngK_some hk
  have e : lngI G = (n : Int) := by unfold lngI; rw [if_pos hg, hn]
  rw [e, ← mxL_hgt hk]
  obtain ⟨_, i, hi, he⟩ := hgt_map hg hn
  have h1 := (lng_some hn).1
  have hne := mxL_ne hg 9
  have hle : ∀ q : Int, Lib.maxOf (mxL G 9) ≤ q ↔ (n : Int) - 1 ≤ q := fun q => by
    rw [maxOf_iff hne, mxL_hgt hk]
    constructor
    · intro h
      have := h ((mxE G 8 i : Nat) : Int) (by rw [hgt_yes hk]; exact List.mem_map.2 ⟨i, List.mem_range.2 hi, rfl⟩)
      rw [he] at this
      omega
    · intro h z hz
      rw [hgt_yes hk] at hz
      obtain ⟨j, hj, rfl⟩ := List.mem_map.1 hz
      have := hgt_lt hn (List.mem_range.1 hj)
      omega
  have a1 := (hle _).1 (Int.le_refl _)
  have a2 := (hle _).2 (Int.le_refl _)
  omega
end Go.Proofs.Ytldkgkpiceamhaa

namespace Go.Proofs.Ytldkgkpiceamhaa
open Go.RowKit Go.Shelf Go.Deep

attribute [local go_sem] Oper.semAt_some

theorem fit_nilQ : Fit ([] : List (List Int)) := ⟨Nat.zero_le _, fun _ h => by cases h⟩

set_option maxRecDepth 100000 in
set_option maxHeartbeats 1000000 in
theorem graphBy_yes (gf : Nat) (lb : Array Value) (p : Nat → Nat → Bool) (m : Nat) (h1 : 1 ≤ m) (h9 : m ≤ 9) (w : World)
    (he : ∀ args w, (callFunc gf args).run Try.prog w = .ok (.enter gf args) w)
    (hcl : ∀ W' i j, Below w.heap.size w W' → i < m → j < m → CallsIn Fence.wide 20 Try.prog gf (#[.int .i64 (i : Int), .int .i64 (j : Int)] ++ lb) W' (Ans (.bool (p i j)) W')) :
    Calls Try.prog 79 #[.int .i64 m, .func (.func gf) #[] lb] w (MadeR (rowsP m p) w) := by
  have HR := Lib.hid (callsIn_wide.1 (rowsBy_in Fence.wide rfl (fun _ => trivial) rfl gf lb p m h9 w he hcl))
  have d1 : decide ((m : Int) < 1) = false := decide_eq_false (by omega)
  have d2 : decide ((9 : Int) < (m : Int)) = false := decide_eq_false (by omega)
  have hl := rowsP_length m p
  clear hcl he
  go_enter Try.func79, Try.ntmps79
  go_wp2_with fail
  refine HR.out.mono ?_
  rintro e w2 ⟨rfl, hB3, hO⟩
  have HB := Lib.hid hB3
  have HO := Lib.hid hO
  clear hB3 hO HR
  go_wp2_with fail
  go_ret
  exact ⟨_, m, ⟨by rw [hl]; rfl, HB.out⟩, .inr ⟨w.heap.size + 1, fun i => w.heap.size + 3 + i, rfl, hl.symm, HO.out, by omega, fun i _ => by show w.heap.size ≤ w.heap.size + 3 + i; omega, fun i j h => by have h' : w.heap.size + 3 + i = w.heap.size + 3 + j := h; omega⟩⟩

set_option maxRecDepth 100000 in
set_option maxHeartbeats 1000000 in
theorem graphBy_no (z : Int) (hz : ¬ (1 ≤ z ∧ z ≤ 9)) (f : Value) (w : World) :
    Calls Try.prog 79 #[.int .i64 z, f] w (MadeR [] w) := by
  by_cases h1 : z < 1
  · have d1 : decide (z < 1) = true := decide_eq_true h1
    clear hz
    go_enter Try.func79, Try.ntmps79
    go_wp2
    go_ret
    exact ⟨none, 0, ⟨rfl, Below.refl _ _⟩, .inl ⟨rfl, rfl, rfl⟩⟩
  · have d1 : decide (z < 1) = false := decide_eq_false h1
    have d2 : decide (9 < z) = true := decide_eq_true (by omega)
    clear hz
    go_enter Try.func79, Try.ntmps79
    go_wp2
    go_ret
    exact ⟨none, 0, ⟨rfl, Below.refl _ _⟩, .inl ⟨rfl, rfl, rfl⟩⟩


set_option maxHeartbeats 1000000 in
theorem rin1_in (n B : Nat) (h1 : 1 ≤ n) (i j : Nat) (hi : i < 9) (W : World) (hB : Boxed W B 3 (.int .i64 n)) :
    CallsIn Fence.wide 20 Try.prog 80 (#[.int .i64 (i : Int), .int .i64 (j : Int)] ++ #[.pointer (some ⟨B, 0, none⟩)]) W (Ans (.bool ((fun i j => j == (i + 1) % n) i j)) W) := by
  refine callsIn_wide.2 (?_ : Calls Try.prog 80 #[.int .i64 (i : Int), .int .i64 (j : Int), .pointer (some ⟨B, 0, none⟩)] W (Ans (.bool ((fun i j => j == (i + 1) % n) i j)) W))
  have cB := hB.cell
  have hn0 : n ≠ 0 := by omega
  have e1 : IntKind.i64.wrap ((i : Int) + 1) = (i : Int) + 1 := by rw [IntKind.wrap_i64]; omega
  have e2 : (((i + 1) % n : Nat) : Int) = ((i : Int) + 1) % n := by simp [Int.natCast_emod]
  clear hB
  go_enter Try.func80, Try.ntmps80
  go_wp2
  go_ret
  exact ⟨ret_bool (by rw [← e2, Bool.eq_iff_iff]; simp; omega), Below.refl _ _⟩

set_option maxRecDepth 100000 in
set_option maxHeartbeats 1000000 in
theorem implRin (z : Int) (w : World) :
    Calls Try.prog 37 #[.int .i64 z] w (MadeS (rinI z) w) := by
  have hB0 := (Below.refl w.heap.size w).alloc (Nat.le_refl _) (.cells #[.int .i64 z] 3)
  have bZ := Boxed.new w 3 (.int .i64 z)
  obtain ⟨V, hV⟩ : ∃ V, w.alloc (.cells #[.int .i64 z] 3) = V := ⟨_, rfl⟩
  have hs : V.heap.size = w.heap.size + 1 := by rw [← hV]; simp
  have hsz : w.heap.size ≤ V.heap.size := by omega
  rw [hV] at hB0 bZ
  have cZ := bZ.cell
  by_cases h : 1 ≤ z ∧ z ≤ 9
  · obtain ⟨n, rfl⟩ : ∃ n : Nat, z = (n : Int) := ⟨z.toNat, by omega⟩
    replace h : 1 ≤ n ∧ n ≤ 9 := by omega
    rw [rinI_yes h.1 h.2]
    have HF := Lib.hid (rin_good h.1 h.2).fit
    have HC := Lib.hid (graphBy_yes 80 #[.pointer (some ⟨w.heap.size, 0, none⟩)] (fun i j => j == (i + 1) % n) n h.1 h.2 V (enters_of Try.func80 (by kernel_rfl) rfl) (fun W' i j hb hi _ => rin1_in n w.heap.size h.1 i j (by omega) W' ((hb.block _ bZ.lt).trans bZ)))
    clear h bZ hs
    go_enter Try.func37, Try.ntmps37
    go_wp2_with fail
    refine HC.out.mono ?_
    rintro e w2 ⟨a2, c2, ⟨rfl, hB2⟩, hO2⟩
    have HO := Lib.hid hO2
    clear hO2 HC
    go_wp2_with fail
    go_ret
    exact ⟨a2, c2, ⟨rfl, hB0.trans (hB2.mono hsz)⟩, (ownR_mono6 HO.out hsz).sep HF.out⟩
  · rw [rinI_no h]
    have HC := Lib.hid (graphBy_no z h (.func (.func 80) #[] #[.pointer (some ⟨w.heap.size, 0, none⟩)]) V)
    clear h bZ hs
    go_enter Try.func37, Try.ntmps37
    go_wp2_with fail
    refine HC.out.mono ?_
    rintro e w2 ⟨a2, c2, ⟨rfl, hB2⟩, hO2⟩
    have HO := Lib.hid hO2
    clear hO2 HC
    go_wp2_with fail
    go_ret
    exact ⟨a2, c2, ⟨rfl, hB0.trans (hB2.mono hsz)⟩, (ownR_mono6 HO.out hsz).sep fit_nilQ⟩

end Go.Proofs.Ytldkgkpiceamhaa

namespace Go.Proofs.Ytldkgkpiceamhaa
open Go.RowKit Go.Shelf Go.Deep

attribute [local go_sem] Oper.semAt_some

/-- WHAT HOLDS BETWEEN TWO ROUNDS. -/
structure LSt (w W : World) (a : Option Addr) (c : Nat) (G : List (List Int)) (f : Nat → Nat) : Prop where
  below : Below w.heap.size w W
  g : Boxed W w.heap.size 61 (.slice a G.length c)
  v : Boxed W (w.heap.size + 1 + 1 + 1) 24 (.slice (some ⟨w.heap.size + 1 + 1, 0, none⟩) G.length G.length)
  row : W.rowIs (w.heap.size + 1 + 1) 3 G.length (fun j => .int .i64 ((f j : Nat) : Int))
theorem LSt.grown {w W W' : World} {a : Option Addr} {c : Nat} {G : List (List Int)} {f : Nat → Nat} (h : LSt w W a c G f) (hb : Below W.heap.size W W') : LSt w W' a c G f :=
  ⟨h.below.trans (hb.mono h.below.size), (hb.block _ h.g.lt).trans h.g, (hb.block _ h.v.lt).trans h.v, World.rowIs.of_block h.row (hb.block _ (World.rowIs.lt h.row))⟩
theorem LSt.own {w : World} {a : Option Addr} {c : Nat} {G : List (List Int)} {β : Type} {f : β → Nat → Nat} {B : Nat} (hB : w.heap.size ≤ B) : OwnFrom B (fun x W => LSt w W a c G (f x)) := fun s A C row h hg hr => by
  have hr2 : ∀ r, row = some r → ∃ o : Obj, A.heap[r]? = some o ∧ o.isCells = false := fun r e => (hr r e).2
  exact ⟨ownFrom_below (β := Unit) (Nat.le_refl _) hB () A C row h.below hg hr,
    boxed_own _ _ (fun (_ : Unit) => _) () A C row h.g hg hr2, boxed_own _ _ (fun (_ : Unit) => _) () A C row h.v hg hr2, rowIs_own _ _ _ (fun (_ : Unit) => _) () A C row h.row hg hr2⟩
theorem LSt.put {w W : World} {a : Option Addr} {c : Nat} {G : List (List Int)} {f : Nat → Nat} (h : LSt w W a c G f) (j q : Nat) : LSt w (W.setCell ⟨w.heap.size + 1 + 1, j, none⟩ (.int .i64 ((q : Nat) : Int))) a c G (fun i => if i = j then q else f i) := by
  refine ⟨h.below.setCell (p := ⟨w.heap.size + 1 + 1, j, none⟩) (by show w.heap.size ≤ w.heap.size + 1 + 1; omega) _,
    (Below.heap_setCell _ ⟨w.heap.size + 1 + 1, j, none⟩ _ w.heap.size (by show w.heap.size ≠ w.heap.size + 1 + 1; omega)).trans h.g,
    (Below.heap_setCell _ ⟨w.heap.size + 1 + 1, j, none⟩ _ (w.heap.size + 1 + 1 + 1) (by show w.heap.size + 1 + 1 + 1 ≠ w.heap.size + 1 + 1; omega)).trans h.v, ?_⟩
  refine (h.row.set j _).congr fun l _ => ?_
  by_cases e : l = j
  · subst e; simp
  · simp [e]
theorem LSt.congr {w W : World} {a : Option Addr} {c : Nat} {G : List (List Int)} {f f' : Nat → Nat} (h : LSt w W a c G f) (e : ∀ i, i < G.length → f i = f' i) : LSt w W a c G f' :=
  ⟨h.below, h.g, h.v, h.row.congr fun i hi => by rw [e i hi]⟩
/-- THE ROW OF BEFORE. -/
def BCells (b m : Nat) (f : Nat → Nat) (W : World) : Prop := ∀ j, j < m → W.cell? ⟨b, j, none⟩ = some (.int .i64 ((f j : Nat) : Int))
theorem bcells_own {β : Type} (b m : Nat) (f : Nat → Nat) : Own (fun (_ : β) W => BCells b m f W) := fun _ _ _ _ h hg hr j hj => cell_kept (h j hj) hg hr

theorem mxL_fit {G : List (List Int)} (hG : Good G) (k : Nat) : (mxL G k).length ≤ 1048576 := by rw [mxL_length]; have := hG.2.1; omega
theorem max_cells {W : World} {base : Nat} {xs : List Int} {a : Option Addr} {c : Nat} (h : W.ownsRow base 3 1 (.slice a xs.length c) xs.length (xs.map (Value.int .i64))) (h1 : 0 < xs.length) (hl : xs.length ≤ 1048576) :
    Calls Try.prog 97 #[.slice a xs.length c] W fun e w' => e = .returned (.int .i64 (Lib.maxOf xs)) ∧ w' = W := by
  obtain ⟨b, o, rfl, _, hc⟩ := (own_intsQ h) (fun e => by simp [e] at h1)
  have := slices_Max_int b o xs.length c xs W h1 (Nat.le_refl _) (by omega) (fun j hj => by rw [hc j hj]; simp [List.getD])
  rwa [List.take_length] at this

theorem lngI_no {G : List (List Int)} (h : lngK G = false) : lngI G = -1 := by
  unfold lngK at h
  unfold lngI
  cases hg : gOk G with
  | false => simp
  | true =>
    rw [hg] at h
    cases h2 : lngO G with
    | none => simp
    | some n => rw [h2] at h; cases h
end Go.Proofs.Ytldkgkpiceamhaa

namespace Go.Proofs.Ytldkgkpiceamhaa
open Go.RowKit Go.Shelf Go.Deep

theorem p11_here : True := trivial

end Go.Proofs.Ytldkgkpiceamhaa
