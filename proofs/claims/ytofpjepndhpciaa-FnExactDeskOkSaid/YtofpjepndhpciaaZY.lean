/-
  Several texts in one.
  The model's orders: spec.l1Orders.
  The recursive iterator over orders: impl.ordersFrom.
  The iterator over all orders: impl.orders.
  impl.graph.makes: an order makes the one graph of the other.
-/
import Derived.Test.YtofpjepndhpciaaZB
import Derived.Test.YtofpjepndhpciaaZG
import Derived.Test.YtofpjepndhpciaaZO
import Derived.Test.YtofpjepndhpciaaZM
import Derived.Test.YtofpjepndhpciaaZN
import Derived.Deep.RegionHeld3
namespace Go.Proofs.Ytofpjepndhpciaa
open Go.RowKit Go.Shelf Go.Deep

/-- The begun order p made longer by a node below k that it does not hold. -/
def oexts (_n : Nat) (p : List Int) (k : Nat) : List (List Int) := ((List.range k).filter fun x : Nat => !p.contains (x : Int)).map fun x : Nat => p ++ [(x : Int)]
theorem oexts_zero (n : Nat) (p : List Int) : oexts n p 0 = [] := rfl
theorem oexts_yes {n : Nat} {p : List Int} {k : Nat} (h : p.contains (k : Int) = false) : oexts n p (k + 1) = oexts n p k ++ [p ++ [(k : Int)]] := by
  unfold oexts; rw [List.range_succ, List.filter_append, List.map_append, show [k].filter (fun x : Nat => !p.contains (x : Int)) = [k] from by simp only [List.filter_cons, h]; rfl]; rfl
theorem oexts_no {n : Nat} {p : List Int} {k : Nat} (h : p.contains (k : Int) = true) : oexts n p (k + 1) = oexts n p k := by
  unfold oexts; rw [List.range_succ, List.filter_append, List.map_append, show [k].filter (fun x : Nat => !p.contains (x : Int)) = [] from by simp only [List.filter_cons, h]; rfl]; simp
/-- The orders begun with k of n nodes. -/
def olvl (n : Nat) : Nat → List (List Int)
  | 0 => [[]]
  | k + 1 => (olvl n k).flatMap fun p => oexts n p n
theorem oexts_length (n : Nat) (p : List Int) (k : Nat) : (oexts n p k).length ≤ k := by
  unfold oexts
  rw [List.length_map]
  exact Nat.le_trans (List.length_filter_le _ _) (by simp)
theorem oflat_le {f : List Int → List (List Int)} {m : Nat} : ∀ (l : List (List Int)), (∀ x ∈ l, (f x).length ≤ m) → (l.flatMap f).length ≤ l.length * m
  | [], _ => by simp
  | a :: l, h => by
    rw [List.flatMap_cons, List.length_append, List.length_cons, Nat.succ_mul]
    have h1 := h a (by simp)
    have h2 := oflat_le l fun b hb => h b (by simp [hb])
    omega
theorem olvl_le (n : Nat) : ∀ k, (olvl n k).length ≤ n ^ k
  | 0 => by simp [olvl]
  | k + 1 => by
    rw [olvl, Nat.pow_succ]
    exact Nat.le_trans (oflat_le _ fun p _ => oexts_length n p n) (Nat.mul_le_mul (olvl_le n k) (Nat.le_refl _))
theorem olvl_small {n k : Nat} (h : n ≤ 5) (hk : k ≤ n) : (olvl n k).length ≤ 7000 :=
  Nat.le_trans (olvl_le n k) (Nat.le_trans (Nat.pow_le_pow_left h k) (Nat.le_trans (Nat.pow_le_pow_right (by decide) (show k ≤ 5 by omega)) (by decide)))
theorem olvl_len {n : Nat} : ∀ {k : Nat} {p : List Int}, p ∈ olvl n k → p.length = k
  | 0, p, h => by rw [olvl, List.mem_singleton] at h; rw [h]; rfl
  | k + 1, p, h => by
    rw [olvl, List.mem_flatMap] at h
    obtain ⟨q, hq, hp⟩ := h
    unfold oexts at hp
    obtain ⟨x, _, rfl⟩ := List.mem_map.1 hp
    rw [List.length_append, List.length_singleton, olvl_len hq]
/-- The next ones, as far as row i. -/
def onxt (n : Nat) (L : List (List Int)) (i : Nat) : List (List Int) := (L.take i).flatMap fun p => oexts n p n
theorem onxt_succ {n : Nat} {L : List (List Int)} {i : Nat} {p : List Int} (h : L[i]? = some p) : onxt n L (i + 1) = onxt n L i ++ oexts n p n := by
  unfold onxt
  rw [List.take_add_one, List.flatMap_append, h]; simp
theorem onxt_all (n : Nat) (L : List (List Int)) : onxt n L L.length = L.flatMap fun p => oexts n p n := by unfold onxt; rw [List.take_of_length_le (Nat.le_refl _)]
theorem oexts_mono (n : Nat) (p : List Int) {x m : Nat} (h : x ≤ m) : (oexts n p x).length ≤ (oexts n p m).length := by
  induction h with
  | refl => exact Nat.le_refl _
  | step _ ih => exact Nat.le_trans ih (by
      unfold oexts
      rw [List.range_succ, List.filter_append, List.map_append, List.length_append]
      omega)
theorem onxt_prefix {n : Nat} {L : List (List Int)} {i : Nat} {p : List Int} (h : L[i]? = some p) {x : Nat} (hx : x ≤ n) : (onxt n L i ++ oexts n p x).length ≤ (L.flatMap fun p => oexts n p n).length := by
  have h1 : onxt n L (i + 1) <+: onxt n L L.length := by
    unfold onxt
    have hi := (List.getElem?_eq_some_iff.1 h).1
    have : L.take (i + 1) <+: L.take L.length := List.take_prefix_take_left (by omega)
    obtain ⟨t, ht⟩ := this
    rw [← ht, List.flatMap_append]
    exact List.prefix_append _ _
  have h2 := h1.length_le
  rw [onxt_succ h, onxt_all] at h2
  have h3 := oexts_mono n p hx
  rw [List.length_append] at h2 ⊢
  omega
theorem ints_news9 {n₀ : Nat} {W : World} {b o : Nat} {xs : List Int} (h : Ints n₀ W (some ⟨b, o, none⟩) xs) : ∀ j u, (xs.map (Value.int .i64))[j]? = some u → W.cell? ((⟨b, o, none⟩ : Addr).add j) = some u := fun j u hu => by
  rw [List.getElem?_map] at hu
  have hj : j < xs.length := by
    rcases Nat.lt_or_ge j xs.length with h | h
    · exact h
    · rw [List.getElem?_eq_none h] at hu; cases hu
  obtain ⟨b', o', x, e, hb, hc, HX⟩ := h.at_ hj
  cases e
  rw [HX.out] at hu
  cases hu
  rw [Addr.add_lit]
  exact hc
theorem contains_succ {q : List Int} {j : Nat} {y x : Int} (h : q[j]? = some y) : (q.take (j + 1)).contains x = ((q.take j).contains x || y == x) := by
  rw [List.take_add_one, h, Option.toList_some, List.contains_eq_mem, List.contains_eq_mem]
  by_cases e : y = x
  · subst e; simp
  · have e2 : (y == x) = false := by simpa using e
    have e3 : x ≠ y := fun h => e h.symm
    rw [e2, Bool.or_false]
    simp [e3]
/-- Rows of one's own, no cell of which lies below. -/
def MadeQ (xss : List (List Int)) (w : World) (e : Ending) (w' : World) : Prop := ∃ (a : Option Addr) (c : Nat), (e = .returned (.slice a xss.length c) ∧ Below w.heap.size w w') ∧ OwnMat w.heap.size w' (.slice a xss.length c) xss

end Go.Proofs.Ytofpjepndhpciaa

namespace Go.Proofs.Ytofpjepndhpciaa
open Go.RowKit Go.Shelf Go.Deep

attribute [local go_sem] Oper.semAt_some

/-- ALL ORDERS THAT BEGIN WITH p and have k nodes more. -/
def ordL (n : Nat) : Nat → List Int → List (List Int)
  | 0, p => [p]
  | k + 1, p => (oexts n p n).flatMap (ordL n k)
/-- Those of them whose next node is below m. -/
def ordTill (n k : Nat) (p : List Int) (m : Nat) : List (List Int) := (oexts n p m).flatMap (ordL n k)
theorem ordTill_yes {n k : Nat} {p : List Int} {m : Nat} (h : p.contains (m : Int) = false) : ordTill n k p (m + 1) = ordTill n k p m ++ ordL n k (p ++ [(m : Int)]) := by
  unfold ordTill; rw [oexts_yes h, List.flatMap_append]; simp
theorem ordTill_no {n k : Nat} {p : List Int} {m : Nat} (h : p.contains (m : Int) = true) : ordTill n k p (m + 1) = ordTill n k p m := by
  unfold ordTill; rw [oexts_no h]
theorem ordTill_mono (n k : Nat) (p : List Int) {m m' : Nat} (h : m ≤ m') : ordTill n k p m <+: ordTill n k p m' := by
  induction h with
  | refl => exact List.prefix_refl _
  | @step m' h ih =>
    refine ih.trans ?_
    cases hc : p.contains (m' : Int) with
    | true => rw [ordTill_no hc]; exact List.prefix_refl _
    | false => rw [ordTill_yes hc]; exact List.prefix_append _ _

end Go.Proofs.Ytofpjepndhpciaa

namespace Go.Proofs.Ytofpjepndhpciaa
open Go.RowKit Go.Shelf Go.Deep

attribute [local go_sem] Oper.semAt_some

theorem make_capQ (N : Nat) (hN : N ≤ 9) (w : World) : (Instr.makeSlice 47 (.int .i64 0) (.int .i64 (N : Int))).run Try.prog w = .ok (.slice (some ⟨w.heap.size, 0, none⟩) 0 N) (w.alloc (.cells (madeCells #[.int .i64 0] N) 3)) := by
  obtain ⟨i, hi, hz0, hz1, hz2⟩ := info_parts infoInt
  have hr := run_make (P := Try.prog) w 47 3 i (.int .i64 0) Try.underlying47 hi hz0 .i64 .i64 0 (N : Int) (Int.le_refl _) (by omega) (by rw [hz2]; omega) (by omega)
  simp only [Int.toNat_zero, Int.toNat_natCast, hz1, Nat.mul_one] at hr
  exact hr

end Go.Proofs.Ytofpjepndhpciaa

namespace Go.Proofs.Ytofpjepndhpciaa
open Go.RowKit Go.Shelf Go.Deep

attribute [local go_sem] Oper.semAt_some

/-- Does the order make the second graph of the first one? -/
def sameBy (G H : List (List Int)) (f : List Int) : Bool := (PL H.length).all fun x => arw G (nd f x.1.1) (nd f x.2.1) == arw H x.1.1 x.2.1
end Go.Proofs.Ytofpjepndhpciaa
