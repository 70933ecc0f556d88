/-
  Several texts in one.
  The least node of each part, spread along arrows and against them, round by round (impl's leastJoined): pure facts.
  The program's rowLed.
  impl.leastJoined, impl.OnePartOk.
  impl.TestAt.
  The program's chapter 9 without counts: its two contracts together.
-/
import Derived.Test.YtldkgkpiceamhaaXA
import Derived.Test.YtldkgkpiceamhaaWQ
import Derived.Test.YtldkgkpiceamhaaZA
import Derived.Test.YtldkgkpiceamhaaZQ
import Derived.Test.YtldkgkpiceamhaaWY
import Derived.Test.YtldkgkpiceamhaaZM
import Derived.Test.YtldkgkpiceamhaaZO
import Derived.Test.YtldkgkpiceamhaaZN
import Derived.Test.YtldkgkpiceamhaaWR
import Derived.Test.YtldkgkpiceamhaaZC
import Derived.Test.YtldkgkpiceamhaaZF
import Derived.Test.YtldkgkpiceamhaaWS
namespace Go.Proofs.Ytldkgkpiceamhaa
open Go.RowKit Go.Shelf Go.Deep

/-- BEHIND ONE ARROW. -/
def lbS {m : Nat} (g : Nat → Nat) (x : Fin m × Fin m) (t : Nat) : Nat := if t = x.1.1 ∨ t = x.2.1 then min (g x.1.1) (g x.2.1) else g t
/-- WITHIN A ROUND, behind some arrows. -/
def lbA {m : Nat} (f : Nat → Nat) (pre : List (Fin m × Fin m)) : Nat → Nat := pre.foldl lbS f
/-- BEHIND k ROUNDS. -/
def lbE (G : List (List Int)) : Nat → Nat → Nat
  | 0 => fun i => i
  | k + 1 => lbA (lbE G k) (AL G)
def lbL (G : List (List Int)) (k : Nat) : List Int := (List.range G.length).map fun i => ((lbE G k i : Nat) : Int)
theorem lbL_length (G : List (List Int)) (k : Nat) : (lbL G k).length = G.length := by simp [lbL]
theorem lbL_get {G : List (List Int)} {k i : Nat} (hi : i < G.length) : (lbL G k)[i]? = some ((lbE G k i : Nat) : Int) := by simp [lbL, hi]
theorem lbA_nil {m : Nat} (f : Nat → Nat) : lbA f ([] : List (Fin m × Fin m)) = f := rfl
theorem lbA_cons {m : Nat} (f : Nat → Nat) (x : Fin m × Fin m) (pre : List (Fin m × Fin m)) : lbA f (x :: pre) = lbA (lbS f x) pre := rfl
theorem lbA_snoc {m : Nat} (f : Nat → Nat) (pre : List (Fin m × Fin m)) (x : Fin m × Fin m) (t : Nat) : lbA f (pre ++ [x]) t = if t = x.1.1 ∨ t = x.2.1 then min (lbA f pre x.1.1) (lbA f pre x.2.1) else lbA f pre t := by
  unfold lbA; rw [List.foldl_append]; rfl
theorem lbS_le {m : Nat} (g : Nat → Nat) (x : Fin m × Fin m) (t : Nat) : lbS g x t ≤ g t := by
  unfold lbS
  split
  · rename_i h
    rcases h with h | h
    · rw [h]; exact Nat.min_le_left _ _
    · rw [h]; exact Nat.min_le_right _ _
  · exact Nat.le_refl _
theorem lbA_le {m : Nat} : ∀ (pre : List (Fin m × Fin m)) (f : Nat → Nat) (t : Nat), lbA f pre t ≤ f t
  | [], _, _ => Nat.le_refl _
  | x :: pre, f, t => Nat.le_trans (lbA_le pre (lbS f x) t) (lbS_le f x t)
theorem lbA_mem {m : Nat} : ∀ (pre : List (Fin m × Fin m)) (f : Nat → Nat) (x : Fin m × Fin m), x ∈ pre → lbA f pre x.1.1 ≤ f x.2.1 ∧ lbA f pre x.2.1 ≤ f x.1.1
  | [], _, _, h => by cases h
  | y :: pre, f, x, h => by
    rw [lbA_cons]
    rcases List.mem_cons.1 h with rfl | h
    · have h1 := lbA_le pre (lbS f x) x.1.1
      have h2 := lbA_le pre (lbS f x) x.2.1
      have e1 : lbS f x x.1.1 = min (f x.1.1) (f x.2.1) := by unfold lbS; rw [if_pos (.inl rfl)]
      have e2 : lbS f x x.2.1 = min (f x.1.1) (f x.2.1) := by unfold lbS; rw [if_pos (.inr rfl)]
      omega
    · have h1 := lbA_mem pre (lbS f y) x h
      have h2 := lbS_le f y x.1.1
      have h3 := lbS_le f y x.2.1
      omega
theorem lbA_sound {m : Nat} {S : Nat → Bool} : ∀ (pre : List (Fin m × Fin m)) (f : Nat → Nat), (∀ x ∈ pre, S x.1.1 = S x.2.1) → (∀ t, t < m → f t = 0 → S t = true) → ∀ t, t < m → lbA f pre t = 0 → S t = true
  | [], _, _, h => h
  | x :: pre, f, hS, h => by
    refine lbA_sound pre (lbS f x) (fun y hy => hS y (List.mem_cons_of_mem _ hy)) fun t ht h0 => ?_
    unfold lbS at h0
    have hx := hS x (List.mem_cons_self ..)
    split at h0
    · rename_i e
      have hor : f x.1.1 = 0 ∨ f x.2.1 = 0 := by omega
      have hs : S x.1.1 = true := by
        rcases hor with h1 | h1
        · exact h _ x.1.2 h1
        · rw [hx]; exact h _ x.2.2 h1
      rcases e with e | e
      · rw [e]; exact hs
      · rw [e, ← hx]; exact hs
    · exact h t ht h0
theorem lbE_le {G : List (List Int)} (t : Nat) : ∀ k, lbE G k t ≤ t
  | 0 => Nat.le_refl _
  | k + 1 => Nat.le_trans (lbA_le (AL G) (lbE G k) t) (lbE_le t k)
theorem bwP_arw {G : List (List Int)} {i j : Nat} : bwP G i j = (arw G i j || arw G j i) := rfl
theorem lbE_sound {G : List (List Int)} {S : Nat → Bool} (h0 : S 0 = true) (hc : ∀ i j, i < G.length → j < G.length → bwP G i j = true → S i = true → S j = true) : ∀ k t, t < G.length → lbE G k t = 0 → S t = true
  | 0, t, _, h => by
    have h' : t = 0 := h
    rw [h']; exact h0
  | k + 1, t, ht, h => by
    refine lbA_sound (AL G) (lbE G k) (fun x hx => ?_) (lbE_sound h0 hc k) t ht h
    have ha := (AL_mem x).1 hx
    have e1 := hc x.1.1 x.2.1 x.1.2 x.2.2 (by rw [bwP_arw, ha]; rfl)
    have e2 := hc x.2.1 x.1.1 x.2.2 x.1.2 (by rw [bwP_arw, ha, Bool.or_true])
    rw [Bool.eq_iff_iff]
    exact ⟨e1, e2⟩
theorem lbE_seen {G : List (List Int)} : ∀ k t, t < G.length → seenN G.length (bwP G) k t = true → lbE G k t = 0
  | 0, t, _, h => by
    simp only [seenN, beq_iff_eq] at h
    exact h
  | k + 1, t, ht, h => by
    simp only [seenN, Bool.or_eq_true, List.any_eq_true, Bool.and_eq_true] at h
    have hle : lbE G (k + 1) t ≤ lbE G k t := lbA_le (AL G) (lbE G k) t
    rcases h with h | ⟨j, hj, hs, ha⟩
    · have := lbE_seen k t ht h
      omega
    · have hjn : j < G.length := by simpa using hj
      have h0 := lbE_seen k j hjn hs
      rw [bwP_arw, Bool.or_eq_true] at ha
      rcases ha with ha | ha
      · have h1 := (lbA_mem (AL G) (lbE G k) (⟨j, hjn⟩, ⟨t, ht⟩) ((AL_mem _).2 ha)).2
        have h1' : lbE G (k + 1) t ≤ lbE G k j := h1
        omega
      · have h1 := (lbA_mem (AL G) (lbE G k) (⟨t, ht⟩, ⟨j, hjn⟩) ((AL_mem _).2 ha)).1
        have h1' : lbE G (k + 1) t ≤ lbE G k j := h1
        omega
theorem lb_one {G : List (List Int)} (hg : gOk G = true) : oneI G = true ↔ ∀ t, t < G.length → lbE G G.length t = 0 := by
  rw [one_iff]
  have h1 := (good_of hg).1
  constructor
  · rintro ⟨_, h⟩ t ht
    exact lbE_seen _ t ht ((oneP_iff h1).1 h t ht)
  · intro h
    exact ⟨hg, fun S h0 hc i hi => lbE_sound h0 hc G.length i hi (h i hi)⟩
theorem lbL_max {G : List (List Int)} (hg : gOk G = true) : (Lib.maxOf (lbL G G.length) == 0) = oneI G := by
  have h1 := (good_of hg).1
  have hne : lbL G G.length ≠ [] := fun h => by
    have := lbL_length G G.length
    rw [h] at this
    simp at this
    omega
  have hmem : ∀ z, z ∈ lbL G G.length ↔ ∃ i, i < G.length ∧ ((lbE G G.length i : Nat) : Int) = z := fun z => by simp [lbL]
  have h0 : Lib.maxOf (lbL G G.length) ≤ 0 ↔ oneI G = true := by
    rw [maxOf_iff hne, lb_one hg]
    constructor
    · intro h t ht
      have := h _ ((hmem _).2 ⟨t, ht, rfl⟩)
      omega
    · intro h z hz
      obtain ⟨i, hi, rfl⟩ := (hmem z).1 hz
      have := h i hi
      omega
  have hn : 0 ≤ Lib.maxOf (lbL G G.length) := by
    refine Int.not_lt.1 fun hlt => ?_
    have := (maxOf_iff hne (-1)).1 (by omega) _ ((hmem _).2 ⟨0, h1, rfl⟩)
    omega
  rw [Bool.eq_iff_iff, ← h0]
  simp only [beq_iff_eq]
  omega
/-- AT THE BEGINNING: each node itself. -/
theorem lbL_zero {G : List (List Int)} {i : Nat} (hi : i < G.length) : (lbL G 0)[i]? = some (i : Int) := lbL_get hi

end Go.Proofs.Ytldkgkpiceamhaa

namespace Go.Proofs.Ytldkgkpiceamhaa
open Go.RowKit Go.Shelf Go.Deep

/-- A ROW LIES IN A NEW BLOCK, the first new one. -/
def LedS (zs : List Int) (m : Nat) (w : World) (e : Ending) (w' : World) : Prop := e = .returned (.slice (some ⟨w.heap.size, 0, none⟩) m m) ∧ Below w.heap.size w w' ∧ RowI w' w.heap.size zs

set_option maxRecDepth 100000 in
set_option maxHeartbeats 1000000 in
theorem rowLed_any (gf : Nat) (lb : Array Value) (zs : List Int) (m : Nat) (w : World) (hl : zs.length = m) (hm : m ≤ 9) (he : ∀ args w, (callFunc gf args).run Try.prog w = .ok (.enter gf args) w)
    (hcl : ∀ (W' : World) (i : Nat) (z : Int), Below w.heap.size w W' → zs[i]? = some z → Calls Try.prog gf (#[.int .i64 (i : Int)] ++ lb) W' (Ans (.int .i64 z) W')) :
    Calls Try.prog 111 #[.int .i64 m, .func (.func gf) #[] lb] w (LedS zs m w) := by
  have HL := Lib.hid hl
  have HCL := Lib.hid hcl
  clear hcl hl
  have hmk := run_make_row' (P := Try.prog) 24 3 (.int .i64 0) 8 Try.underlying24 infoInt rfl .i64 .i64 m (by omega) (by omega)
  go_enter Try.func111, Try.ntmps111
  go_wp2_with fail
  clear hmk
  go_loopw [11] (fun i wr => ∃ k : Nat, k ≤ m ∧ i = .int .i64 k ∧ Below w.heap.size w wr ∧ Hid (wr.rowIs w.heap.size 3 zs.length (fun j => .int .i64 (if j < k then zs[j]?.getD 0 else 0))))
    (fun i _ => m - (intOf i).toNat)
  case atStart =>
    refine ⟨0, Nat.zero_le _, rfl, (Below.refl _ _).alloc (Nat.le_refl _) _, ?_⟩
    have h := copyS_start w zs
    rw [HL.out] at h ⊢
    exact h
  case round =>
    obtain ⟨k, hk, rfl, hB, HR⟩ := hrel
    have hws := hB.size
    by_cases hlt : k < m
    · obtain ⟨z, hz⟩ : ∃ z, zs[k]? = some z := ⟨_, List.getElem?_eq_getElem (by rw [HL.out]; exact hlt)⟩
      have HC := Lib.hid (HCL.out wr k z hB hz)
      have HZ := Lib.hid hz
      clear hz
      go_wp2_with fail
      refine HC.out.mono ?_
      rintro e w1 ⟨rfl, hB1⟩
      have hBX := hB.trans (hB1.mono hws)
      have hlw : w.heap.size < wr.heap.size := World.rowIs.lt HR.out
      have HR1 := World.rowIs.of_block HR.out (hB1.block w.heap.size hlw)
      have hc3 := HR1.cell (show k < zs.length by rw [HL.out]; exact hlt)
      have hf3 := HR1.frozen k
      have HR2 := Lib.hid (copyS_step HR1 HZ.out)
      clear hB1 HR1
      go_wp2_with fail
      go_roundw
      case rel => exact ⟨k + 1, by omega, by go_num, hBX.setCell (p := ⟨w.heap.size, k, none⟩) (Nat.le_refl _) _, HR2⟩
      case measure => simp [intOf]; omega
    · obtain rfl : k = m := by omega
      have HR2 : Hid (RowI wr w.heap.size zs) := Lib.hid (copyS_done (by have h := HR.out; rw [← HL.out] at h; exact h))
      go_wp2_with fail
      go_ret
      exact ⟨rfl, hB, HR2.out⟩

end Go.Proofs.Ytldkgkpiceamhaa

namespace Go.Proofs.Ytldkgkpiceamhaa
open Go.RowKit Go.Shelf Go.Deep

attribute [local go_sem] Oper.semAt_some

/-- WHAT HOLDS BETWEEN TWO ROUNDS. -/
structure LbSt (w W : World) (r Bv : Nat) (a : Option Addr) (c : Nat) (G : List (List Int)) (f : Nat → Nat) : Prop where
  below : Below w.heap.size w W
  g : Boxed W w.heap.size 61 (.slice a G.length c)
  v : Boxed W Bv 24 (.slice (some ⟨r, 0, none⟩) G.length G.length)
  row : W.rowIs r 3 G.length (fun j => .int .i64 ((f j : Nat) : Int))
theorem LbSt.grown {w W W' : World} {r Bv : Nat} {a : Option Addr} {c : Nat} {G : List (List Int)} {f : Nat → Nat} (h : LbSt w W r Bv a c G f) (hb : Below W.heap.size W W') : LbSt w W' r Bv a c G f :=
  ⟨h.below.trans (hb.mono h.below.size), (hb.block _ h.g.lt).trans h.g, (hb.block _ h.v.lt).trans h.v, World.rowIs.of_block h.row (hb.block _ (World.rowIs.lt h.row))⟩
theorem LbSt.drew {w W : World} {r Bv : Nat} {a : Option Addr} {c : Nat} {G : List (List Int)} {f : Nat → Nat} (h : LbSt w W r Bv a c G f) : LbSt w W.drew r Bv a c G f := ⟨h.below.drew, h.g, h.v, h.row⟩
theorem LbSt.own {w : World} {r Bv : Nat} {a : Option Addr} {c : Nat} {G : List (List Int)} {β : Type} {f : β → Nat → Nat} {B : Nat} (hB : w.heap.size ≤ B) : OwnFrom B (fun x W => LbSt w W r Bv a c G (f x)) := fun s A C row h hg hr => by
  have hr2 : ∀ r, row = some r → ∃ o : Obj, A.heap[r]? = some o ∧ o.isCells = false := fun r e => (hr r e).2
  exact ⟨ownFrom_below (β := Unit) (Nat.le_refl _) hB () A C row h.below hg hr,
    boxed_own _ _ (fun (_ : Unit) => _) () A C row h.g hg hr2, boxed_own _ _ (fun (_ : Unit) => _) () A C row h.v hg hr2, rowIs_own _ _ _ (fun (_ : Unit) => _) () A C row h.row hg hr2⟩
theorem LbSt.put {w W : World} {r Bv : Nat} {a : Option Addr} {c : Nat} {G : List (List Int)} {f : Nat → Nat} (h : LbSt w W r Bv a c G f) (hr : w.heap.size < r) (hv : r < Bv) (j q : Nat) : LbSt w (W.setCell ⟨r, j, none⟩ (.int .i64 ((q : Nat) : Int))) r Bv a c G (fun i => if i = j then q else f i) := by
  refine ⟨h.below.setCell (p := ⟨r, j, none⟩) (by show w.heap.size ≤ r; omega) _,
    (Below.heap_setCell _ ⟨r, j, none⟩ _ w.heap.size (by show w.heap.size ≠ r; omega)).trans h.g,
    (Below.heap_setCell _ ⟨r, j, none⟩ _ Bv (by show Bv ≠ r; omega)).trans h.v, ?_⟩
  refine (h.row.set j _).congr fun l _ => ?_
  by_cases e : l = j
  · subst e; simp
  · simp [e]
theorem LbSt.congr {w W : World} {r Bv : Nat} {a : Option Addr} {c : Nat} {G : List (List Int)} {f f' : Nat → Nat} (h : LbSt w W r Bv a c G f) (e : ∀ i, i < G.length → f i = f' i) : LbSt w W r Bv a c G f' :=
  ⟨h.below, h.g, h.v, h.row.congr fun i hi => by rw [e i hi]⟩

set_option maxHeartbeats 1000000 in
theorem lbSelf (W : World) (i : Nat) : Calls Try.prog 112 (#[.int .i64 (i : Int)] ++ #[]) W (Ans (.int .i64 (i : Int)) W) := by
  show Calls Try.prog 112 #[.int .i64 (i : Int)] W (Ans (.int .i64 (i : Int)) W)
  have hB := Below.refl W.heap.size W
  go_enter Try.func112, Try.ntmps112
  go_wp2
  go_ret
  exact ⟨rfl, hB⟩
theorem lbRow (m : Nat) (hm : m ≤ 9) (W : World) : Calls Try.prog 111 #[.int .i64 m, .func (.func 112) #[] #[]] W (LedS ((List.range m).map fun i => ((i : Nat) : Int)) m W) :=
  rowLed_any 112 #[] _ m W (by simp) hm (enters_of Try.func112 (by kernel_rfl) rfl) fun W' i z _ hz => by
    obtain ⟨hi, e⟩ := List.getElem?_eq_some_iff.1 hz
    have e2 : z = (i : Int) := by rw [← e]; simp
    rw [e2]
    exact lbSelf W' i

set_option maxRecDepth 100000 in
set_option maxHeartbeats 4000000 in
theorem least_in (a : Option Addr) (c : Nat) (G : List (List Int)) (w : World) (hM : Mat w.heap.size w a G) (hG : Good G) :
    Calls Try.prog 98 #[.agg #[.slice a G.length c]] w (MadeI (lbL G G.length) w) := by
  have h1 : Fence.wide.fn 61 := trivial
  have h2 : Fence.wide.fn 111 := trivial
  have h3 : Fence.wide.fn 72 := trivial
  have hdd : ∀ k : Nat, (Fence.wide.depth.isSome = true → 1 ≤ k) := fun k h => by cases h
  have hl9 := hG.2.1
  have HG := Lib.hid hG
  have es : ∀ (W : World) (o : Obj), (W.alloc o).heap.size = W.heap.size + 1 := fun W o => by simp
  clear hG
  refine callsIn_wide.1 (callsIn_of_wp_marks (n := 20) Try.func98 rfl trivial ?_ rfl)
  simp only [Try.ntmps98, List.size_toArray, List.length_cons, List.length_nil, Nat.reduceAdd, Nat.reduceSub, Array.replicate_succ, Array.replicate_zero, List.push_toArray, List.append_toArray, List.nil_append, List.cons_append]
  gi_wp2_with ((try refine ⟨hdd _, ?_⟩); gi_at_call 61; refine (nodes_in Fence.wide _ (fun _ => trivial) rfl _ _ _ _).mono ?_; rintro e w' ⟨rfl, rfl⟩)
  try gi_wp2_with fail
  have bG1 := (Boxed.new w 61 (.slice a G.length c)).alloc (.cells #[.slice a G.length c] 61)
  have hB1 := ((Below.refl w.heap.size w).alloc (Nat.le_refl _) (.cells #[.slice a G.length c] 61)).alloc (by simp) (.cells #[.slice a G.length c] 61)
  have hs1 : ((w.alloc (.cells #[.slice a G.length c] 61)).alloc (.cells #[.slice a G.length c] 61)).heap.size = w.heap.size + 2 := by rw [es, es]
  obtain ⟨V1, hV1⟩ : ∃ V, ((w.alloc (.cells #[.slice a G.length c] 61)).alloc (.cells #[.slice a G.length c] 61)) = V := ⟨_, rfl⟩
  rw [hV1] at bG1 hB1 hs1 ⊢
  clear hV1
  refine (callsIn_wide.2 (lbRow G.length hl9 V1)).mono ?_
  rintro e w2 ⟨rfl, hB2, hR2⟩
  have hz2 := hB2.size
  have hrl := World.rowIs.lt hR2
  have bG2 : Boxed w2 _ _ _ := (hB2.block _ bG1.lt).trans bG1
  have hB3 := hB1.trans (hB2.mono (by omega))
  obtain ⟨r, hr⟩ : ∃ r, V1.heap.size = r := ⟨_, rfl⟩
  rw [hr] at hR2 hrl hs1 hz2 ⊢
  have hrr : w.heap.size < r := by omega
  clear hB1 bG1 hB2 hr hs1
  have HR2 := Lib.hid hR2
  have HB3 := Lib.hid hB3
  have cG2 : ∀ o : Obj, (w2.alloc o).cell? ⟨w.heap.size, 0, none⟩ = some (.slice a G.length c) := fun o => (bG2.alloc o).cell
  clear hR2 hB3
  gi_wp2_with ((try refine ⟨hdd _, ?_⟩); gi_at_call 61; refine (nodes_in Fence.wide _ (fun _ => trivial) rfl _ _ _ _).mono ?_; rintro e w' ⟨rfl, rfl⟩)
  have HL0 : Hid (LbSt w ((w2.alloc (.cells #[(.slice (some ⟨r, 0, none⟩) G.length G.length)] 24)).alloc (.cells #[.slice a G.length c] 61)) r w2.heap.size a c G (lbE G 0)) := by
    refine ⟨(HB3.out.alloc (by omega) _).alloc (by rw [es]; omega) _, (bG2.alloc _).alloc _, (Boxed.new w2 _ _).alloc _, ?_⟩
    have h := World.rowIs.of_block HR2.out (((Below.refl w2.heap.size w2).alloc (Nat.le_refl _) (.cells #[(.slice (some ⟨r, 0, none⟩) G.length G.length)] 24)).block r hrl)
    have h2 := World.rowIs.of_block h ((((Below.refl (w2.alloc (.cells #[(.slice (some ⟨r, 0, none⟩) G.length G.length)] 24)).heap.size _)).alloc (Nat.le_refl _) (.cells #[.slice a G.length c] 61)).block r (by rw [es]; omega))
    have h3 := h2
    rw [show ((List.range G.length).map fun i => ((i : Nat) : Int)).length = G.length by simp] at h3
    exact h3.congr fun i hi => by simp [hi, lbE]
  have hs0 : ((w2.alloc (.cells #[(.slice (some ⟨r, 0, none⟩) G.length G.length)] 24)).alloc (.cells #[.slice a G.length c] 61)).heap.size = w2.heap.size + 2 := by rw [es, es]
  obtain ⟨V0, hV0⟩ : ∃ V0, ((w2.alloc (.cells #[(.slice (some ⟨r, 0, none⟩) G.length G.length)] 24)).alloc (.cells #[.slice a G.length c] 61)) = V0 := ⟨_, rfl⟩
  obtain ⟨Bv, hBv⟩ : ∃ B, w2.heap.size = B := ⟨_, rfl⟩
  rw [hV0] at HL0 hs0 ⊢
  rw [hBv] at HL0 hs0 hrl ⊢
  have hsz0 : Bv + 1 ≤ V0.heap.size := by omega
  clear hV0 hs0 HR2 HB3 cG2 bG2 hBv hz2
  refine wpIn_loop (fun a₁ W' => ∃ (k : Nat) (Ds : List Nat) (i u4 u5 u6 u7 u8 u9 u10 u13 u14 u15 u16 u17 u18 u19 u20 u21 u22 u23 u24 u25 u26 u27 u28 u29 u30 u31 u32 u33 u34 u35 u36 : Value), k ≤ G.length ∧ i = .int .i64 k ∧ a₁ = { tmps := #[.agg #[.slice a G.length c], .pointer (some ⟨w.heap.size, 0, none⟩), .slice none 0 0, .pointer (some ⟨Bv, 0, none⟩), u4, u5, u6, u7, u8, u9, u10, .int .i64 G.length, i, u13, u14, u15, u16, u17, u18, u19, u20, u21, u22, u23, u24, u25, u26, u27, u28, u29, u30, u31, u32, u33, u34, u35, u36], defers := marks Ds } ∧
      Hid (LbSt w W' r Bv a c G (lbE G k)) ∧ Hid (Marked (Bv + 1) Ds W') ∧ Bv + 1 ≤ W'.heap.size)
    (fun a₁ _ => G.length - (intOf (a₁.tmps.getD 12 undef)).toNat) ⟨0, [], _, _, _, _, _, _, _, _, _, _, _, _, _, _, _, _, _, _, _, _, _, _, _, _, _, _, _, _, _, _, _, _, Nat.zero_le _, rfl, rfl, HL0, Marked.nil _ _, hsz0⟩ ?_
  clear HL0 hsz0
  rintro _ wr ⟨k, Ds, _, u4, u5, u6, u7, u8, u9, u10, u13, u14, u15, u16, u17, u18, u19, u20, u21, u22, u23, u24, u25, u26, u27, u28, u29, u30, u31, u32, u33, u34, u35, u36, hk, rfl, rfl, HL, HMk, hsr⟩
  by_cases hlt : k < G.length
  · have cV := HL.out.v.cell
    have cG := HL.out.g.cell
    gi_wp2_with ((try refine ⟨hdd _, ?_⟩); gi_at_call 72; refine (arrows_in Fence.wide _ (fun _ => trivial) rfl _ _ _ _).mono ?_; rintro e w' ⟨rfl, rfl⟩)
    have hBd : Below wr.heap.size wr (wr.alloc (.cells #[.slice a G.length c] 61)) := (Below.refl _ wr).alloc (Nat.le_refl _) _
    have bG := Boxed.new wr 61 (.slice a G.length c)
    have hsV : (wr.alloc (.cells #[.slice a G.length c] 61)).heap.size = wr.heap.size + 1 := by rw [es]
    obtain ⟨V, hV⟩ : ∃ V, wr.alloc (.cells #[.slice a G.length c] 61) = V := ⟨_, rfl⟩
    rw [hV] at hBd bG hsV ⊢
    have HL2 := Lib.hid (HL.out.grown hBd)
    have HMk2 := Lib.hid (HMk.out.below hBd (Nat.le_refl _))
    have hMV := hM.below HL2.out.below
    have hsV2 : wr.heap.size + 1 ≤ V.heap.size := by omega
    have hDs : ∀ D ∈ Ds, D < wr.heap.size := fun D hD => (HMk.out.2 D hD).2.1
    clear hV HL HMk cV cG hsV hBd
    refine range_law rfl rfl (fun _ => trivial) (gf := 99) (lb := #[.pointer (some ⟨wr.heap.size, 0, none⟩)]) rfl (enters_of Try.func99 (by kernel_rfl) rfl)
      (arrows_X Fence.wide rfl (fun _ => trivial) rfl wr.heap.size w.heap.size a c G HG.out (fun B => B = r) (V.heap.size + 2) V (by omega) (by omega) (fun B s => by omega) (fun B s => by omega) (by omega) bG hMV) (fun h k => KeepC.trans h k) (fun W' o o' h hc => KeepC.putObj _ (by omega) W' o o' h hc) (Below.refl _ _) (fun _ => rfl)
      (fun pre W' => LbSt w W' r Bv a c G (lbA (lbE G k) pre) ∧ Hid (Marked (Bv + 1) Ds W'))
      (fun _ _ _ => False)
      (OwnFrom.and (LbSt.own (by omega)) (fun _ A C row h hg hr => Lib.hid (h.out.from (fun D hD => by have := hDs D hD; omega) hg (fun r e => (hr r e).1))))
      (fun _ _ _ _ _ hs _ _ => hs)
      ⟨HL2.out, HMk2⟩ ?a1 ?assign ?body ?done ?stop
    case assign =>
      intro l2 x W' K hK
      gi_wp2
      exact hK
    case body =>
      rintro l2 pre ⟨⟨i, hi⟩, ⟨j, hj⟩⟩ W' ⟨hL, HM⟩ _
      have HL := Lib.hid hL
      have cV := hL.v.cell
      have ci := hL.row.cell hi
      have cj := hL.row.cell hj
      have HS := Lib.hid (lbA_snoc (lbE G k) pre ((⟨i, hi⟩ : Fin G.length), (⟨j, hj⟩ : Fin G.length)))
      obtain ⟨p, hp⟩ : ∃ p, lbA (lbE G k) pre i = p := ⟨_, rfl⟩
      obtain ⟨q, hq⟩ : ∃ q, lbA (lbE G k) pre j = q := ⟨_, rfl⟩
      rw [hp] at ci
      rw [hq] at cj
      have HP := Lib.hid hp
      have HQ := Lib.hid hq
      clear hp hq hL HL2 HMk2 bG
      gi_wp2_with fail
      refine region_still_tail_in 9 (by kernel_rfl) (by kernel_rfl) (by kernel_rfl) (fun ⟨_, _, h⟩ => h) ?_
      simp only [List.take_succ_cons, List.take_zero, List.drop_succ_cons, List.drop_zero]
      repeat still_step
      try refine wpStill_nil ?_
      change wpList _ _ _ _ _ W'.drew
      go_wp2_with fail
      gi_wp2_with fail
      refine wpIn_region_any (by kernel_rfl) (wpAnyIn_of (by kernel_rfl) (fun ⟨_, _, h⟩ => h) _ _ _ _ (wpAny_of_held (S := fun X => X.cell? ⟨Bv, 0, none⟩ = some (.slice (some ⟨r, 0, none⟩) G.length G.length)) _ _ _ _ ?_))
      change wpAnyH _ _ _ _ _ _ _ _ (World.drew _)
      have hS0 : W'.drew.drew.cell? ⟨Bv, 0, none⟩ = some (.slice (some ⟨r, 0, none⟩) G.length G.length) := cV
      have HLd : Hid (LbSt w W'.drew.drew r Bv a c G (lbA (lbE G k) pre)) := HL.out.drew.drew
      have cI : W'.drew.drew.cell? ⟨r, i, none⟩ = some (.int .i64 (p : Int)) := ci
      have fI := HLd.out.row.frozen i
      have HM2 : Hid (Marked (Bv + 1) Ds W'.drew.drew) := HM
      have HK0 : Hid (KeepsFrom V.heap.size W' W'.drew.drew) := ⟨Nat.le_refl _, fun _ _ _ h _ => h⟩
      have HC0 : Hid (KeepC (fun B => B = r) (V.heap.size + 2) W' W'.drew.drew) := (KeepC.drew _ _ _).trans (KeepC.drew _ _ _)
      obtain ⟨Y, hY⟩ : ∃ Y, W'.drew.drew = Y := ⟨_, rfl⟩
      rw [hY] at hS0 HLd cI fI HM2 HK0 HC0 ⊢
      clear hY cV ci cj HL HM
      simp only [show min (p : Int) (q : Int) = ((min p q : Nat) : Int) by omega]
      refine wpAnyH_take (i := 0) (v := ?_) rfl (by kernel_rfl) (by kernel_rfl) (by kernel_rfl) (fun _ _ _ h => h) (Or.inl ⟨by rfl, ?_⟩) hS0 ?_
      case refine_2 => rintro w s1; first | (go_simp; rfl) | go_simp
      simp only [Act.put, List.getElem_toArray, List.getElem_cons_zero, List.setIfInBounds_toArray, List.set_cons_zero, List.set_cons_succ]
      refine wpAnyH_take (i := 1) (v := ?_) rfl (by kernel_rfl) (by kernel_rfl) (by kernel_rfl) (fun _ _ _ h => h) (Or.inl ⟨by rfl, ?_⟩) hS0 ?_
      case refine_2 => rintro w s1; first | (go_simp; rfl) | go_simp
      simp only [Act.put, List.getElem_toArray, List.getElem_cons_succ, List.getElem_cons_zero, List.setIfInBounds_toArray, List.set_cons_zero, List.set_cons_succ]
      refine wpAnyH_take (i := 2) (v := ?_) rfl (by kernel_rfl) (by kernel_rfl) (by kernel_rfl) (fun _ _ _ h => h) (Or.inl ⟨by rfl, ?_⟩) hS0 ?_
      case refine_2 => rintro w s1; first | (go_simp; rfl) | go_simp
      simp only [Act.put, List.getElem_toArray, List.getElem_cons_succ, List.getElem_cons_zero, List.setIfInBounds_toArray, List.set_cons_zero, List.set_cons_succ]
      refine wpAnyH_take (i := 3) (v := ?_) rfl (by kernel_rfl) (by kernel_rfl) (by kernel_rfl) (fun _ _ _ h => h) (Or.inl ⟨by rfl, ?_⟩) hS0 ?_
      case refine_2 => rintro w s1; first | (go_simp; rfl) | go_simp
      simp only [Act.put, List.getElem_toArray, List.getElem_cons_succ, List.getElem_cons_zero, List.setIfInBounds_toArray, List.set_cons_zero, List.set_cons_succ]
      refine wpAnyH_take (i := 4) (v := ?_) rfl (by kernel_rfl) (by kernel_rfl) (by kernel_rfl) (fun _ _ _ h => h) (Or.inl ⟨by rfl, ?_⟩) hS0 ?_
      case refine_2 => rintro w s1; first | (go_simp; rfl) | go_simp
      simp only [Act.put, List.getElem_toArray, List.getElem_cons_succ, List.getElem_cons_zero, List.setIfInBounds_toArray, List.set_cons_zero, List.set_cons_succ]
      refine wpAnyH_take (i := 5) (v := ?_) rfl (by kernel_rfl) (by kernel_rfl) (by kernel_rfl) (fun _ _ _ h => h) (Or.inl ⟨by rfl, ?_⟩) hS0 ?_
      case refine_2 => rintro w s1; first | (go_simp; rfl) | go_simp
      simp only [Act.put, List.getElem_toArray, List.getElem_cons_succ, List.getElem_cons_zero, List.setIfInBounds_toArray, List.set_cons_zero, List.set_cons_succ]
      refine wpAnyH_take (i := 6) (v := ?_) rfl (by kernel_rfl) (by kernel_rfl) (by kernel_rfl) (fun _ _ _ h => h) (Or.inl ⟨by rfl, ?_⟩) hS0 ?_
      case refine_2 => rintro w s1; first | (go_simp; rfl) | go_simp
      simp only [Act.put, List.getElem_toArray, List.getElem_cons_succ, List.getElem_cons_zero, List.setIfInBounds_toArray, List.set_cons_zero, List.set_cons_succ]
      refine wpAnyH_ready (rs := [7]) (by kernel_rfl) (by simp) ?_
      refine AllReadyH.cons rfl (fun K hK => ?_) AllReadyH.nil
      go_simp
      have HL1 : Hid (LbSt w (Y.setCell ⟨r, i, none⟩ (.int .i64 ((min p q : Nat) : Int))) r Bv a c G (fun t => if t = i then min p q else lbA (lbE G k) pre t)) := HLd.out.put (by omega) (by omega) i (min p q)
      have hS1 : (Y.setCell ⟨r, i, none⟩ (.int .i64 ((min p q : Nat) : Int))).cell? ⟨Bv, 0, none⟩ = some (.slice (some ⟨r, 0, none⟩) G.length G.length) := HL1.out.v.cell
      have cJ := HL1.out.row.cell hj
      have fJ := HL1.out.row.frozen j
      have HM3 : Hid (Marked (Bv + 1) Ds (Y.setCell ⟨r, i, none⟩ (.int .i64 ((min p q : Nat) : Int)))) := Lib.hid (HM2.out.keep (by simp) (fun D o hD ho _ => (Below.heap_setCell Y ⟨r, i, none⟩ _ D (by show D ≠ r; omega)).trans ho))
      have HK1 : Hid (KeepsFrom V.heap.size W' (Y.setCell ⟨r, i, none⟩ (.int .i64 ((min p q : Nat) : Int)))) := HK0.out.trans ((KeepsOthers.setCell _ _ _).from _)
      have HC1 : Hid (KeepC (fun B => B = r) (V.heap.size + 2) W' (Y.setCell ⟨r, i, none⟩ (.int .i64 ((min p q : Nat) : Int)))) := HC0.out.trans (KeepC.setCell (S := fun B => B = r) _ Y rfl i _)
      refine hK.out _ _ hS1 (fun hSx => ?_)
      obtain ⟨Z, hZ⟩ : ∃ Z, Y.setCell ⟨r, i, none⟩ (.int .i64 ((min p q : Nat) : Int)) = Z := ⟨_, rfl⟩
      rw [hZ] at HL1 hS1 cJ fJ HM3 HK1 HC1 ⊢
      clear hZ hSx hK K HLd cI fI HM2 HK0 HC0
      refine wpAnyH_take (i := 8) (v := ?_) rfl (by kernel_rfl) (by kernel_rfl) (by kernel_rfl) (fun _ _ _ h => h) (Or.inl ⟨by rfl, ?_⟩) hS1 ?_
      case refine_2 => rintro w s1; first | (go_simp; rfl) | go_simp
      simp only [Act.put, List.getElem_toArray, List.getElem_cons_succ, List.getElem_cons_zero, List.setIfInBounds_toArray, List.set_cons_zero, List.set_cons_succ]
      refine wpAnyH_ready (rs := [9]) (by kernel_rfl) (by simp) ?_
      refine AllReadyH.cons rfl (fun K hK => ?_) AllReadyH.nil
      go_simp
      have HL4 : Hid (LbSt w (Z.setCell ⟨r, j, none⟩ (.int .i64 ((min p q : Nat) : Int))) r Bv a c G (lbA (lbE G k) (pre ++ [((⟨i, hi⟩ : Fin G.length), (⟨j, hj⟩ : Fin G.length))]))) := Lib.hid ((HL1.out.put (by omega) (by omega) j (min p q)).congr fun t _ => by
        rw [HS.out]
        show (if t = j then _ else if t = i then _ else _) = if t = i ∨ t = j then min (lbA (lbE G k) pre i) (lbA (lbE G k) pre j) else _
        rw [HP.out, HQ.out]
        by_cases e1 : t = j <;> by_cases e2 : t = i <;> simp [e1, e2])
      have HM4 : Hid (Marked (Bv + 1) Ds (Z.setCell ⟨r, j, none⟩ (.int .i64 ((min p q : Nat) : Int)))) := Lib.hid (HM3.out.keep (by simp) (fun D o hD ho _ => (Below.heap_setCell Z ⟨r, j, none⟩ _ D (by show D ≠ r; omega)).trans ho))
      have HK2 : Hid (KeepsFrom V.heap.size W' (Z.setCell ⟨r, j, none⟩ (.int .i64 ((min p q : Nat) : Int)))) := HK1.out.trans ((KeepsOthers.setCell _ _ _).from _)
      have HC2 : Hid (KeepC (fun B => B = r) (V.heap.size + 2) W' (Z.setCell ⟨r, j, none⟩ (.int .i64 ((min p q : Nat) : Int)))) := HC1.out.trans (KeepC.setCell (S := fun B => B = r) _ Z rfl j _)
      refine hK.out _ _ HL4.out.v.cell (fun hSx => ?_)
      clear hK K hSx
      refine wpAnyH_done (by kernel_rfl) ?_ _
      gi_wp2
      exact ⟨HK2.out, HC2.out, HL4.out, HM4⟩
    case done =>
      rintro D ys W' hD rfl ⟨hL, HM⟩ hK
      clear HL2 HMk2 bG
      have HL9 : Hid (LbSt w W' r Bv a c G (lbE G (k + 1))) := Lib.hid hL
      have HM9 : Hid (Marked (Bv + 1) (D :: Ds) W') := Lib.hid (HM.out.cons (by omega) hK (fun x hx => by have := hDs x hx; omega))
      have hs9 : Bv + 1 ≤ W'.heap.size := by have := hL.v.lt; omega
      clear hL HM hK
      gi_wp2
      refine ⟨⟨k + 1, D :: Ds, _, _, _, _, _, _, _, _, _, _, _, _, _, _, _, _, _, _, _, _, _, _, _, _, _, _, _, _, _, _, _, _, by omega, by go_num, rfl, HL9, HM9, hs9⟩, ?_⟩
      simp [intOf]; omega
    case stop =>
      rintro D c' pre W' _ _ hx _
      exact hx.elim
  · obtain rfl : k = G.length := by omega
    have cV := HL.out.v.cell
    gi_wp2
    refine leaves_marks (T := Bv + 1) (fun W' => LbSt w W' r Bv a c G (lbE G G.length)) (fun W' D hD hk hz => (LbSt.own (β := Unit) (f := fun _ => lbE G G.length) (B := w.heap.size) (Nat.le_refl _)).putObj (s := ()) _ hz (by omega) hk rfl) (fun W' hz => ⟨_, results_tmp rfl _ _ _, ?_⟩) Ds wr HMk.out HL.out
    refine ⟨_, G.length, ⟨by rw [lbL_length]; rfl, hz.below⟩, .inr ⟨r, rfl, (lbL_length G G.length).symm, ?_, by omega⟩⟩
    unfold RowI
    rw [lbL_length]
    exact hz.row.congr fun j hj => by rw [lbL_get hj]; rfl

theorem lb_max {W : World} {base : Nat} {xs : List Int} {a : Option Addr} {c : Nat} (h : W.ownsRow base 3 1 (.slice a xs.length c) xs.length (xs.map (Value.int .i64))) (h1 : 0 < xs.length) (hl : xs.length ≤ 1048576) :
    Calls Try.prog 97 #[.slice a xs.length c] W fun e w' => e = .returned (.int .i64 (Lib.maxOf xs)) ∧ w' = W := by
  obtain ⟨b, o, rfl, _, hc⟩ := (own_intsQ h) (fun e => by simp [e] at h1)
  have := slices_Max_int b o xs.length c xs W h1 (Nat.le_refl _) (by omega) (fun j hj => by rw [hc j hj]; simp [List.getD])
  rwa [List.take_length] at this

set_option maxRecDepth 100000 in
set_option maxHeartbeats 1000000 in
theorem implOnp (a : Option Addr) (c : Nat) (G : List (List Int)) (w : World) (hM : Mat w.heap.size w a G) (hF : Fit G) :
    Calls Try.prog 70 #[.slice a G.length c] w (Ans (.bool (oneI G)) w) := by
  have HOk := Lib.hid (implOk a c G w hM hF)
  by_cases hg : gOk G = true
  · have hG := good_of hg
    have h19 : 0 < (lbL G G.length).length := by rw [lbL_length]; exact hG.1
    have hfit : (lbL G G.length).length ≤ 1048576 := by rw [lbL_length]; have := hG.2.1; omega
    have HN := Lib.hid (lbL_max hg)
    obtain ⟨zs, hzs⟩ : ∃ zs, lbL G G.length = zs := ⟨_, rfl⟩
    obtain ⟨yes, hy⟩ : ∃ yes, oneI G = yes := ⟨_, rfl⟩
    have HLo : Hid (∀ w1, Below w.heap.size w w1 → Calls Try.prog 98 #[.agg #[.slice a G.length c]] w1 (MadeOwn zs w1)) := Lib.hid (fun w1 hB => by
      have := (least_in a c G w1 ((hM.below hB).more hB.size) hG).mono fun e w' h => madeI_own (by rw [lbL_length]; have := hG.2.1; omega) h
      rwa [hzs] at this)
    rw [hzs] at h19 hfit HN
    rw [hy] at HN ⊢
    rw [hg] at HOk
    clear hzs hy hG hg hM hF
    go_enter Try.func70, Try.ntmps70
    go_wp2_with fail
    refine HOk.out.mono ?_
    rintro e w1 ⟨rfl, hB1⟩
    have hz1 := hB1.size
    go_wp2_with fail
    refine (HLo.out w1 hB1).mono ?_
    rintro e w2 ⟨a2, c2, ⟨rfl, hB2⟩, hO2⟩
    have HB2 := Lib.hid (hB1.trans (hB2.mono hz1))
    have HMx := Lib.hid (lb_max hO2 h19 hfit)
    clear hO2 HLo hB1 hB2 hz1
    go_wp2_with fail
    refine HMx.out.mono ?_
    rintro e w3 ⟨rfl, rfl⟩
    cases yes with
    | true =>
      have hn : (Lib.maxOf zs == 0) = true := HN.out
      go_wp2_with fail
      go_ret
      exact ⟨rfl, HB2.out⟩
    | false =>
      have hn : (Lib.maxOf zs == 0) = false := HN.out
      go_wp2_with fail
      go_ret
      exact ⟨rfl, HB2.out⟩
  · have hn : gOk G = false := by simpa using hg
    rw [hn] at HOk
    rw [one_no hn]
    clear hg hn hM hF
    go_enter Try.func70, Try.ntmps70
    go_wp2_with fail
    refine HOk.out.mono ?_
    rintro e w1 ⟨rfl, hB1⟩
    go_wp2_with fail
    go_ret
    exact ⟨rfl, hB1⟩

end Go.Proofs.Ytldkgkpiceamhaa

namespace Go.Proofs.Ytldkgkpiceamhaa
open Go.RowKit Go.Shelf Go.Deep

attribute [local go_sem] Oper.semAt_some

/-- AN ARROW, by the digits of a number. -/
def digP (m d i j : Nat) : Bool := d / 2 ^ (i * m + j) % 2 == 1
theorem tst_dig : ∀ n, n < 18 → tstL n = (if n < 2 then rowsP 1 (digP 1 n) else rowsP 2 (digP 2 (n - 2))) := by decide +kernel
theorem and_one : ∀ k : Nat, k < 4 → ∀ d : Nat, d < 16 → bits .and .i64 ((d : Int) / (2 : Int) ^ k) 1 = ((d / 2 ^ k % 2 : Nat) : Int) := by decide +kernel

theorem rowsBy_R (gf : Nat) (lb : Array Value) (p : Nat → Nat → Bool) (m : Nat) (h9 : m ≤ 9) (w : World)
    (he : ∀ args w, (callFunc gf args).run Try.prog w = .ok (.enter gf args) w)
    (hcl : ∀ W' i j, Below w.heap.size w W' → i < m → j < m → CallsIn Fence.wide 20 Try.prog gf (#[.int .i64 (i : Int), .int .i64 (j : Int)] ++ lb) W' (Ans (.bool (p i j)) W')) :
    Calls Try.prog 60 #[.int .i64 m, .func (.func gf) #[] lb] w (MadeR (rowsP m p) w) := by
  refine (callsIn_wide.1 (rowsBy_in Fence.wide rfl (fun _ => trivial) rfl gf lb p m h9 w he hcl)).mono ?_
  rintro e w2 ⟨rfl, hB3, hO⟩
  have hl := rowsP_length m p
  exact ⟨_, m, ⟨by rw [hl], hB3⟩, .inr ⟨w.heap.size + 1, fun i => w.heap.size + 3 + i, rfl, hl.symm, hO, by omega, fun i _ => by show w.heap.size ≤ w.heap.size + 3 + i; omega, fun i j h => by have h' : w.heap.size + 3 + i = w.heap.size + 3 + j := h; omega⟩⟩

theorem fit_nilT : Fit ([] : List (List Int)) := ⟨Nat.zero_le _, fun _ h => by cases h⟩
theorem dig_fit {m d : Nat} (hm : m = 1 ∨ m = 2) : Fit (rowsP m (digP m d)) := (rowsP_good _ (by omega) (by omega)).fit

end Go.Proofs.Ytldkgkpiceamhaa

namespace Go.Proofs.Ytldkgkpiceamhaa
/-- A test's graph has at most two nodes. -/
theorem tst_two {n : Nat} (h : n < 18) : (tstI n).length ≤ 2 := by rw [tst_yes h]; exact (tst_ok n h).2

end Go.Proofs.Ytldkgkpiceamhaa
