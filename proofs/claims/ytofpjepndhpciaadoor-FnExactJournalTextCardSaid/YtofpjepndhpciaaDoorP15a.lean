/-
  impl's Deed.named, Deed.namesNoMore, digitIn.
-/
import Derived.Test.YtofpjepndhpciaaDoorLD0
import Derived.Test.YtofpjepndhpciaaDoorZA
import Derived.Test.YtofpjepndhpciaaDoorS1
import Derived.BigQuiet
namespace Go.Proofs.YtofpjepndhpciaaDoor
open Go.RowKit Go.Shelf Go.Deep

/-- Two numbers in a block of their own, nothing turned below. -/
structure TwoB (a b : Int) (w W : World) : Prop where
  ca : W.cell? ⟨w.heap.size + 1, 0, none⟩ = some (.int .i64 a)
  cb : W.cell? ⟨w.heap.size + 1, 1, none⟩ = some (.int .i64 b)
  lt : w.heap.size + 1 < W.heap.size
  low : Below w.heap.size w W
theorem TwoB.new (k a b : Int) (w : World) : TwoB a b w ((w.alloc (.cells #[.int .i64 k, .int .i64 a, .int .i64 b] 24)).alloc (.cells #[.int .i64 a, .int .i64 b] 3)) := by
  have hs : (w.alloc (.cells #[.int .i64 k, .int .i64 a, .int .i64 b] 24)).heap.size = w.heap.size + 1 := by simp
  refine ⟨?_, ?_, by simp, ((Below.refl _ _).alloc (Nat.le_refl _) _).alloc (by simp) _⟩
  · rw [← hs]; unfold World.cell?; rw [heap_alloc_new]; rfl
  · rw [← hs]; unfold World.cell?; rw [heap_alloc_new]; rfl
theorem TwoB.below {a b : Int} {w W W' : World} (h : TwoB a b w W) (hb : Below W.heap.size W W') : TwoB a b w W' :=
  ⟨(hb.cell (p := ⟨w.heap.size + 1, 0, none⟩) h.lt).trans h.ca, (hb.cell (p := ⟨w.heap.size + 1, 1, none⟩) h.lt).trans h.cb, Nat.lt_of_lt_of_le h.lt hb.size, h.low.trans (hb.mono h.low.size)⟩

set_option maxRecDepth 100000 in
set_option maxHeartbeats 1000000 in
theorem named_arrow (a b : Int) (w : World) : Calls Tryd.prog 34 #[.agg #[.int .i64 0, .int .i64 a, .int .i64 b]] w fun e w' => e = .returned (.tuple #[.slice (some ⟨w.heap.size + 1, 0, none⟩) 2 2, .slice none 0 0]) ∧ TwoB a b w w' := by
  have HT := Lib.hid (TwoB.new 0 a b w)
  go_enter Tryd.func34, Tryd.ntmps34
  go_wp2_with fail
  go_ret2
  exact ⟨rfl, HT.out⟩

set_option maxRecDepth 100000 in
set_option maxHeartbeats 1000000 in
theorem named_none (k a b : Int) (h0 : k ≠ 0) (h2 : k ≠ 2) (w : World) : Calls Tryd.prog 34 #[.agg #[.int .i64 k, .int .i64 a, .int .i64 b]] w fun e w' => e = .returned (.tuple #[.slice none 0 0, .slice (some ⟨w.heap.size + 1, 0, none⟩) 2 2]) ∧ TwoB a b w w' := by
  have HT := Lib.hid (TwoB.new k a b w)
  go_enter Tryd.func34, Tryd.ntmps34
  go_wp2_with fail
  go_ret2
  exact ⟨rfl, HT.out⟩

set_option maxRecDepth 100000 in
set_option maxHeartbeats 1000000 in
theorem named_drop (a b : Int) (w : World) : Calls Tryd.prog 34 #[.agg #[.int .i64 2, .int .i64 a, .int .i64 b]] w fun e w' => e = .returned (.tuple #[.slice (some ⟨w.heap.size + 1, 0, none⟩) 1 2, .slice (some ⟨w.heap.size + 1, 1, none⟩) 1 1]) ∧ TwoB a b w w' := by
  have HT := Lib.hid (TwoB.new 2 a b w)
  go_enter Tryd.func34, Tryd.ntmps34
  go_wp2_with fail
  go_quiet (fail)
  go_wp2_with fail
  go_ret2
  exact ⟨rfl, HT.out.below (below_drewN (Below.refl _ _) _)⟩

/-- The numbers of nodes that a kind names, and the others. -/
def nodL (d : Dd) : List Int := if d.k = 0 then [d.a, d.b] else if d.k = 2 then [d.a] else []
def othL (d : Dd) : List Int := if d.k = 0 then [] else if d.k = 2 then [d.b] else [d.a, d.b]
theorem nodL_len (d : Dd) : (nodL d).length ≤ 2 := by
  unfold nodL
  by_cases h : d.k = 0
  · rw [if_pos h]; simp
  · rw [if_neg h]; split <;> simp
theorem othL_len (d : Dd) : (othL d).length ≤ 2 := by
  unfold othL
  by_cases h : d.k = 0
  · rw [if_pos h]; simp
  · rw [if_neg h]; split <;> simp
def NamedP (d : Dd) (w : World) (e : Ending) (w' : World) : Prop := ∃ (an ao : Option Addr) (cn co : Nat), (e = .returned (.tuple #[.slice an (nodL d).length cn, .slice ao (othL d).length co]) ∧ Below w.heap.size w w') ∧ Ints w'.heap.size w' an (nodL d) ∧ Ints w'.heap.size w' ao (othL d)
theorem TwoB.both {a b : Int} {w W : World} (h : TwoB a b w W) : Ints W.heap.size W (some ⟨w.heap.size + 1, 0, none⟩) [a, b] := fun _ => ⟨_, 0, rfl, h.lt, fun i hi => by
  match i, hi with
  | 0, _ => exact h.ca
  | 1, _ => exact h.cb⟩
theorem TwoB.fst {a b : Int} {w W : World} (h : TwoB a b w W) : Ints W.heap.size W (some ⟨w.heap.size + 1, 0, none⟩) [a] := fun _ => ⟨_, 0, rfl, h.lt, fun i hi => by
  match i, hi with
  | 0, _ => exact h.ca⟩
theorem TwoB.snd {a b : Int} {w W : World} (h : TwoB a b w W) : Ints W.heap.size W (some ⟨w.heap.size + 1, 1, none⟩) [b] := fun _ => ⟨_, 1, rfl, h.lt, fun i hi => by
  match i, hi with
  | 0, _ => exact h.cb⟩
theorem ints_nil {n : Nat} {W : World} {a : Option Addr} : Ints n W a [] := fun h => absurd rfl h
theorem named_any (k a b : Int) (w : World) : Calls Tryd.prog 34 #[.agg #[.int .i64 k, .int .i64 a, .int .i64 b]] w (NamedP ⟨k, a, b⟩ w) := by
  by_cases h0 : k = 0
  · subst h0
    refine (named_arrow a b w).mono fun e w' ⟨he, h⟩ => ⟨_, _, _, _, ⟨he, h.low⟩, h.both, ints_nil⟩
  · by_cases h2 : k = 2
    · subst h2
      refine (named_drop a b w).mono fun e w' ⟨he, h⟩ => ⟨_, _, _, _, ⟨he, h.low⟩, h.fst, h.snd⟩
    · have e1 : nodL ⟨k, a, b⟩ = [] := by unfold nodL; rw [if_neg h0, if_neg h2]
      have e2 : othL ⟨k, a, b⟩ = [a, b] := by unfold othL; rw [if_neg h0, if_neg h2]
      unfold NamedP
      rw [e1, e2]
      refine (named_none k a b h0 h2 w).mono fun e w' ⟨he, h⟩ => ⟨_, _, _, _, ⟨he, h.low⟩, ints_nil, h.both⟩

/-- No numbers but those that a kind names. -/
def nnmI (d : Dd) : Bool := (othL d).all fun x => decide (x = 0)
theorem nnm_no {d : Dd} {k : Nat} {x : Int} (h : (othL d)[k]? = some x) (hx : x ≠ 0) : nnmI d = false := by
  cases hd : nnmI d with
  | false => rfl
  | true =>
    have := List.all_eq_true.1 hd x (List.mem_of_getElem? h)
    rw [decide_eq_true_eq] at this
    exact absurd this hx
theorem nnm_yes {d : Dd} (h : ∀ (j : Nat) (x : Int), j < (othL d).length → (othL d)[j]? = some x → x = 0) : nnmI d = true := by
  refine List.all_eq_true.2 fun x hx => ?_
  obtain ⟨j, hj⟩ := List.getElem?_of_mem hx
  rw [decide_eq_true_eq]
  exact h j x (List.getElem?_eq_some_iff.1 hj).1 hj

set_option maxRecDepth 100000 in
set_option maxHeartbeats 2000000 in
theorem nnm_any (k a b : Int) (w : World) : Calls Tryd.prog 33 #[.agg #[.int .i64 k, .int .i64 a, .int .i64 b]] w (Ans (.bool (nnmI ⟨k, a, b⟩)) w) := by
  obtain ⟨z, HZ⟩ : ∃ z, Hid (nnmI ⟨k, a, b⟩ = z) := ⟨_, rfl⟩
  rw [HZ.out]
  have hB0 : Below w.heap.size w (w.alloc (.cells #[.int .i64 k, .int .i64 a, .int .i64 b] 24)) := (Below.refl _ _).alloc (Nat.le_refl _) _
  have HB0 := Lib.hid hB0
  have hz0 := hB0.size
  clear hB0
  go_enter Tryd.func33, Tryd.ntmps33
  go_wp2_with fail
  refine (named_any k a b _).mono ?_
  rintro e V ⟨an, ao, cn, co, ⟨rfl, hB1⟩, hN, hO⟩
  obtain ⟨N, HN⟩ : ∃ N, Hid (nodL ⟨k, a, b⟩ = N) := ⟨_, rfl⟩
  obtain ⟨O, HO⟩ : ∃ O, Hid (othL ⟨k, a, b⟩ = O) := ⟨_, rfl⟩
  rw [HN.out] at hN ⊢
  have hO2 := othL_len ⟨k, a, b⟩
  rw [HO.out] at hO hO2 ⊢
  have HB := Lib.hid (HB0.out.trans (hB1.mono hz0))
  clear hB1 hN HB0 hz0
  go_wp2_with fail
  go_loopw [14] (fun i wr => ∃ j : Nat, j ≤ O.length ∧ i = .int .i64 j ∧ wr = V ∧ Hid (∀ (m : Nat) (x : Int), m < j → O[m]? = some x → x = 0)) (fun i _ => O.length - (intOf i).toNat)
  case atStart => exact ⟨0, Nat.zero_le _, rfl, rfl, Lib.hid fun m x h => absurd h (Nat.not_lt_zero _)⟩
  case round =>
    obtain ⟨j, hj, rfl, rfl, HA⟩ := hrel
    by_cases hlt : j < O.length
    · obtain ⟨b1, o1, x, rfl, hb1, hc1, HX⟩ := hO.at_ hlt
      have hji : (j : Int) < (O.length : Int) := by omega
      by_cases hx : x = 0
      · subst hx
        have HA2 : Hid (∀ (m : Nat) (x : Int), m < j + 1 → O[m]? = some x → x = 0) := Lib.hid fun m x hm hx => by
          by_cases e : m = j
          · subst e; rw [HX.out] at hx; cases hx; rfl
          · exact HA.out m x (by omega) hx
        go_wp2_with fail
        go_roundw
        case rel => exact ⟨j + 1, by omega, by go_num, trivial, HA2⟩
        case measure => simp [intOf]; omega
      · have HZ2 : Hid (z = false) := Lib.hid (HZ.out.symm.trans (nnm_no (k := j) (x := x) (by rw [HO.out]; exact HX.out) hx))
        go_wp2_with fail
        go_ret
        exact ⟨by rw [HZ2.out]; rfl, HB.out⟩
    · obtain rfl : j = O.length := by omega
      have HZ2 : Hid (z = true) := Lib.hid (HZ.out.symm.trans (nnm_yes fun m x hm hx => by rw [HO.out] at hm hx; exact HA.out m x hm hx))
      go_wp2_with fail
      go_ret
      exact ⟨by rw [HZ2.out]; rfl, HB.out⟩

end Go.Proofs.YtofpjepndhpciaaDoor
