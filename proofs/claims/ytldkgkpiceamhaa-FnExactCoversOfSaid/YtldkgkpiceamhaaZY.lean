/-
  Several texts in one.
  The model's orders: spec.l1Orders.
  The recursive iterator over orders: impl.ordersFrom.
  The iterator over all orders: impl.orders.
  impl.graph.makes: an order makes the one graph of the other.
-/
import Derived.Test.YtldkgkpiceamhaaZB
import Derived.Test.YtldkgkpiceamhaaZG
import Derived.Test.YtldkgkpiceamhaaZO
import Derived.Test.YtldkgkpiceamhaaZM
import Derived.Test.YtldkgkpiceamhaaZN
import Derived.Deep.RegionHeld3
namespace Go.Proofs.Ytldkgkpiceamhaa
open Go.RowKit Go.Shelf Go.Deep

/-- The begun order p made longer by a node below k that it does not hold. -/
def oexts (_n : Nat) (p : List Int) (k : Nat) : List (List Int) := ((List.range k).filter fun x : Nat => !p.contains (x : Int)).map fun x : Nat => p ++ [(x : Int)]
theorem oexts_zero (n : Nat) (p : List Int) : oexts n p 0 = [] := rfl
theorem oexts_yes {n : Nat} {p : List Int} {k : Nat} (h : p.contains (k : Int) = false) : oexts n p (k + 1) = oexts n p k ++ [p ++ [(k : Int)]] := by
  unfold oexts; rw [List.range_succ, List.filter_append, List.map_append, show [k].filter (fun x : Nat => !p.contains (x : Int)) = [k] from by simp only [List.filter_cons, h]; rfl]; rfl
theorem oexts_no {n : Nat} {p : List Int} {k : Nat} (h : p.contains (k : Int) = true) : oexts n p (k + 1) = oexts n p k := by
  unfold oexts; rw [List.range_succ, List.filter_append, List.map_append, show [k].filter (fun x : Nat => !p.contains (x : Int)) = [] from by simp only [List.filter_cons, h]; rfl]; simp
/-- The orders begun with k of n nodes. -/
def olvl (n : Nat) : Nat → List (List Int)
  | 0 => [[]]
  | k + 1 => (olvl n k).flatMap fun p => oexts n p n
theorem oexts_length (n : Nat) (p : List Int) (k : Nat) : (oexts n p k).length ≤ k := by
  unfold oexts
  rw [List.length_map]
  exact Nat.le_trans (List.length_filter_le _ _) (by simp)
theorem oflat_le {f : List Int → List (List Int)} {m : Nat} : ∀ (l : List (List Int)), (∀ x ∈ l, (f x).length ≤ m) → (l.flatMap f).length ≤ l.length * m
  | [], _ => by simp
  | a :: l, h => by
    rw [List.flatMap_cons, List.length_append, List.length_cons, Nat.succ_mul]
    have h1 := h a (by simp)
    have h2 := oflat_le l fun b hb => h b (by simp [hb])
    omega
theorem olvl_le (n : Nat) : ∀ k, (olvl n k).length ≤ n ^ k
  | 0 => by simp [olvl]
  | k + 1 => by
    rw [olvl, Nat.pow_succ]
    exact Nat.le_trans (oflat_le _ fun p _ => oexts_length n p n) (Nat.mul_le_mul (olvl_le n k) (Nat.le_refl _))
theorem olvl_small {n k : Nat} (h : n ≤ 5) (hk : k ≤ n) : (olvl n k).length ≤ 7000 :=
  Nat.le_trans (olvl_le n k) (Nat.le_trans (Nat.pow_le_pow_left h k) (Nat.le_trans (Nat.pow_le_pow_right (by decide) (show k ≤ 5 by omega)) (by decide)))
theorem olvl_len {n : Nat} : ∀ {k : Nat} {p : List Int}, p ∈ olvl n k → p.length = k
  | 0, p, h => by rw [olvl, List.mem_singleton] at h; rw [h]; rfl
  | k + 1, p, h => by
    rw [olvl, List.mem_flatMap] at h
    obtain ⟨q, hq, hp⟩ := h
    unfold oexts at hp
    obtain ⟨x, _, rfl⟩ := List.mem_map.1 hp
    rw [List.length_append, List.length_singleton, olvl_len hq]
/-- The next ones, as far as row i. -/
def onxt (n : Nat) (L : List (List Int)) (i : Nat) : List (List Int) := (L.take i).flatMap fun p => oexts n p n
theorem onxt_succ {n : Nat} {L : List (List Int)} {i : Nat} {p : List Int} (h : L[i]? = some p) : onxt n L (i + 1) = onxt n L i ++ oexts n p n := by
  unfold onxt
  rw [List.take_add_one, List.flatMap_append, h]; simp
theorem onxt_all (n : Nat) (L : List (List Int)) : onxt n L L.length = L.flatMap fun p => oexts n p n := by unfold onxt; rw [List.take_of_length_le (Nat.le_refl _)]
theorem oexts_mono (n : Nat) (p : List Int) {x m : Nat} (h : x ≤ m) : (oexts n p x).length ≤ (oexts n p m).length := by
  induction h with
  | refl => exact Nat.le_refl _
  | step _ ih => exact Nat.le_trans ih (by
      unfold oexts
      rw [List.range_succ, List.filter_append, List.map_append, List.length_append]
      omega)
theorem onxt_prefix {n : Nat} {L : List (List Int)} {i : Nat} {p : List Int} (h : L[i]? = some p) {x : Nat} (hx : x ≤ n) : (onxt n L i ++ oexts n p x).length ≤ (L.flatMap fun p => oexts n p n).length := by
  have h1 : onxt n L (i + 1) <+: onxt n L L.length := by
    unfold onxt
    have hi := (List.getElem?_eq_some_iff.1 h).1
    have : L.take (i + 1) <+: L.take L.length := List.take_prefix_take_left (by omega)
    obtain ⟨t, ht⟩ := this
    rw [← ht, List.flatMap_append]
    exact List.prefix_append _ _
  have h2 := h1.length_le
  rw [onxt_succ h, onxt_all] at h2
  have h3 := oexts_mono n p hx
  rw [List.length_append] at h2 ⊢
  omega
theorem ints_news9 {n₀ : Nat} {W : World} {b o : Nat} {xs : List Int} (h : Ints n₀ W (some ⟨b, o, none⟩) xs) : ∀ j u, (xs.map (Value.int .i64))[j]? = some u → W.cell? ((⟨b, o, none⟩ : Addr).add j) = some u := fun j u hu => by
  rw [List.getElem?_map] at hu
  have hj : j < xs.length := by
    rcases Nat.lt_or_ge j xs.length with h | h
    · exact h
    · rw [List.getElem?_eq_none h] at hu; cases hu
  obtain ⟨b', o', x, e, hb, hc, HX⟩ := h.at_ hj
  cases e
  rw [HX.out] at hu
  cases hu
  rw [Addr.add_lit]
  exact hc
theorem contains_succ {q : List Int} {j : Nat} {y x : Int} (h : q[j]? = some y) : (q.take (j + 1)).contains x = ((q.take j).contains x || y == x) := by
  rw [List.take_add_one, h, Option.toList_some, List.contains_eq_mem, List.contains_eq_mem]
  by_cases e : y = x
  · subst e; simp
  · have e2 : (y == x) = false := by simpa using e
    have e3 : x ≠ y := fun h => e h.symm
    rw [e2, Bool.or_false]
    simp [e3]
/-- Rows of one's own, no cell of which lies below. -/
def MadeQ (xss : List (List Int)) (w : World) (e : Ending) (w' : World) : Prop := ∃ (a : Option Addr) (c : Nat), (e = .returned (.slice a xss.length c) ∧ Below w.heap.size w w') ∧ OwnMat w.heap.size w' (.slice a xss.length c) xss

end Go.Proofs.Ytldkgkpiceamhaa

namespace Go.Proofs.Ytldkgkpiceamhaa
open Go.RowKit Go.Shelf Go.Deep

attribute [local go_sem] Oper.semAt_some

/-- ALL ORDERS THAT BEGIN WITH p and have k nodes more. -/
def ordL (n : Nat) : Nat → List Int → List (List Int)
  | 0, p => [p]
  | k + 1, p => (oexts n p n).flatMap (ordL n k)
/-- Those of them whose next node is below m. -/
def ordTill (n k : Nat) (p : List Int) (m : Nat) : List (List Int) := (oexts n p m).flatMap (ordL n k)
theorem ordTill_yes {n k : Nat} {p : List Int} {m : Nat} (h : p.contains (m : Int) = false) : ordTill n k p (m + 1) = ordTill n k p m ++ ordL n k (p ++ [(m : Int)]) := by
  unfold ordTill; rw [oexts_yes h, List.flatMap_append]; simp
theorem ordTill_no {n k : Nat} {p : List Int} {m : Nat} (h : p.contains (m : Int) = true) : ordTill n k p (m + 1) = ordTill n k p m := by
  unfold ordTill; rw [oexts_no h]
theorem ordTill_mono (n k : Nat) (p : List Int) {m m' : Nat} (h : m ≤ m') : ordTill n k p m <+: ordTill n k p m' := by
  induction h with
  | refl => exact List.prefix_refl _
  | @step m' h ih =>
    refine ih.trans ?_
    cases hc : p.contains (m' : Int) with
    | true => rw [ordTill_no hc]; exact List.prefix_refl _
    | false => rw [ordTill_yes hc]; exact List.prefix_append _ _

set_option maxRecDepth 100000 in
set_option maxHeartbeats 4000000 in
theorem from_Y (b N T : Nat) (S : Nat → Prop) (hSb : ¬ S b) (hN9 : N ≤ 9) (l : Nat) (J Jx : List (List Int) → World → Prop) (all : List (List Int)) (hJ : OwnH T b (fun _ => True) J)
    (hY : ∀ m pre x W1, J pre W1 → pre ++ [x] <+: all → (x.length = N ∧ Hold b N x W1) → YieldAt Fence.wide m Try.prog l #[.slice (some ⟨b, 0, none⟩) N N] W1 fun e W' =>
      (e = .returned (.bool true) ∧ J (pre ++ [x]) W' ∧ KeepC S T W1 W') ∨ (e = .returned (.bool false) ∧ Jx (pre ++ [x]) W' ∧ KeepsFrom T W1 W')) :
    ∀ (k : Nat) (p : List Int) (pre : List (List Int)) (W : World), p.length + k = N → T ≤ W.heap.size → b < T → Hold b N p W → J pre W → pre ++ ordL N k p <+: all →
      CallsIn Fence.wide 20 Try.prog 107 #[.slice (some ⟨b, 0, none⟩) p.length N, .int .i64 N, .func (.yield l) #[] #[]] W fun e W' =>
        (e = .returned (.bool true) ∧ J (pre ++ ordL N k p) W' ∧ Hold b N p W' ∧ T ≤ W'.heap.size) ∨ (e = .returned (.bool false) ∧ ∃ pre', pre' <+: all ∧ Jx pre' W') := by
  have hdd : ∀ k : Nat, (Fence.wide.depth.isSome = true → 1 ≤ k) := fun k h => by cases h
  have hf1 : Fence.wide.fn 115 := trivial
  have hf2 : Fence.wide.fn 107 := trivial
  obtain ⟨i1, hj, hy0, hy1, hy2⟩ := info_parts infoInt
  have es : ∀ (W : World) (o : Obj), (W.alloc o).heap.size = W.heap.size + 1 := fun W o => by simp
  have HJ := Lib.hid hJ
  have HY := Lib.hid hY
  have HSb := Lib.hid hSb
  clear hJ hY hSb
  intro k
  induction k with
  | zero =>
    intro p pre W hpn hTW hbT hH hJ0 hall
    have hpN : p.length = N := by omega
    subst hpN
    have hall' : pre ++ [p] <+: all := hall
    obtain ⟨fn, tmps, assign, body, hy, hR⟩ := HY.out 0 pre p W hJ0 hall' ⟨rfl, hH⟩
    refine callsIn_of_wp Try.func107 rfl trivial ?_ rfl
    simp only [Try.ntmps107, List.size_toArray, List.length_cons, List.length_nil, Nat.reduceAdd, Nat.reduceSub, Array.replicate_succ, Array.replicate_zero, List.push_toArray, List.append_toArray, List.nil_append, List.cons_append]
    gi_wp2
    refine (RoundIn_any rfl hR).mono ?_
    rintro e W3 (⟨rfl, h1, h2⟩ | ⟨rfl, h1, h2⟩)
    · have hs := h2.1
      have hH3 := hH.keepC h2 HSb.out
      clear hR
      gi_wp2
      go_ret
      exact .inl ⟨rfl, h1, hH3, by omega⟩
    · clear hR
      gi_wp2
      go_ret
      exact .inr ⟨rfl, _, hall', h1⟩
  | succ k ih =>
    intro p pre W hpn hTW hbT hH hJ0 hall
    have HIH := Lib.hid ih
    have HALL := Lib.hid hall
    have HJ0 : Hid (J (pre ++ ordTill N k p 0) W) := Lib.hid (by rw [show ordTill N k p 0 = [] from rfl, List.append_nil]; exact hJ0)
    have hne : ((p.length : Int) == (N : Int)) = false := by simp; omega
    have HPRE : Hid (∀ m, m < N → p.contains (m : Int) = false → (pre ++ ordTill N k p m) ++ ordL N k (p ++ [(m : Int)]) <+: all) := Lib.hid fun m hm hc => by
      rw [List.append_assoc, ← ordTill_yes hc]
      exact List.IsPrefix.trans ((List.prefix_append_right_inj _).2 (ordTill_mono N k p (show m + 1 ≤ N by omega))) hall
    clear ih hall hJ0 HALL
    refine callsIn_of_wp Try.func107 rfl trivial ?_ rfl
    simp only [Try.ntmps107, List.size_toArray, List.length_cons, List.length_nil, Nat.reduceAdd, Nat.reduceSub, Array.replicate_succ, Array.replicate_zero, List.push_toArray, List.append_toArray, List.nil_append, List.cons_append]
    gi_wp2
    refine wpIn_loop (fun a₁ W' => ∃ (m : Nat) (i u7 u17 u18 u19 u20 u21 u22 u23 u24 u25 u26 u27 u28 u29 u30 : Value), m ≤ N ∧ i = .int .i64 m ∧ a₁ = { tmps := #[.slice (some ⟨b, 0, none⟩) p.length N, .int .i64 N, .func (.yield l) #[] #[], undef, undef, undef, .bool false, u7, .slice (some ⟨b, 0, none⟩) p.length N, .int .i64 p.length, .int .i64 N, .bool false, undef, undef, undef, .int .i64 N, i, u17, u18, u19, u20, u21, u22, u23, u24, u25, u26, u27, u28, u29, u30], defers := [] } ∧ Hid (J (pre ++ ordTill N k p m) W') ∧ Hold b N p W' ∧ T ≤ W'.heap.size)
      (fun a₁ _ => N - (intOf (a₁.tmps.getD 16 undef)).toNat) ⟨0, _, _, _, _, _, _, _, _, _, _, _, _, _, _, _, _, Nat.zero_le _, rfl, rfl, HJ0, hH, hTW⟩ ?_
    clear hH HJ0 hTW
    rintro _ V ⟨m, _, u7, u17, u18, u19, u20, u21, u22, u23, u24, u25, u26, u27, u28, u29, u30, hm, rfl, rfl, HJV, hHV, hTV⟩
    by_cases hlt : m < N
    · have HC := Lib.hid (contains_any (some ⟨b, 0, none⟩) N V.heap.size p (m : Int) V hHV.ints (by omega))
      have hdc : decide ((m : Int) ∈ p) = p.contains (m : Int) := by rw [List.contains_eq_mem]
      rw [hdc] at HC
      clear hdc
      cases hc : p.contains (m : Int) with
      | true =>
        rw [hc] at HC
        have HCC := Lib.hid hc
        clear hc
        gi_wp2_with ((try refine ⟨hdd _, ?_⟩); gi_at_call 115; refine (callsIn_wide.2 HC.out).mono ?_; rintro e w6 ⟨rfl, rfl⟩)
        refine ⟨⟨m + 1, _, _, _, _, _, _, _, _, _, _, _, _, _, _, _, _, by omega, by go_num, rfl, by rw [ordTill_no HCC.out]; exact HJV, hHV, hTV⟩, ?_⟩
        simp [intOf]; omega
      | false =>
        rw [hc] at HC
        have HCC := Lib.hid hc
        clear hc
        have hpN2 : p.length + 1 ≤ N := by omega
        gi_wp2_with (first
          | ((try refine ⟨hdd _, ?_⟩); gi_at_call 115; refine (callsIn_wide.2 HC.out).mono ?_; rintro e w6 ⟨rfl, rfl⟩)
          | (gi_at_builtin; refine wpListIn_append_fits _ rfl _ _ 24 rfl b 3 i1 1 Try.underlying24 hj hy1 b p.length N (p.map (Value.int .i64)) rfl (hHV.alloc _) ⟨V.heap.size, 0, none⟩ 1 1 [.int .i64 (m : Int)] rfl rfl (cell_one_new _ _ _) (by simp [Value.oneCell']) (by omega) ?_; intro w5 hown5 hgrow5; (have hH5 : Hold b N (p ++ [(m : Int)]) w5 := by unfold Hold; rw [List.length_append, List.length_singleton, List.map_append]; exact hown5); have hga := World.grownBy_alloc V (.cells #[.int .i64 (m : Int)] 3) none; have HJ5 := Lib.hid (HJ.out.2 _ _ _ (OwnFrom.alloc HJ.out.1 (.cells #[.int .i64 (m : Int)] 3) HJV.out) hgrow5 trivial); have hT5 : T ≤ w5.heap.size := Nat.le_trans hTV (Nat.le_trans hga.size hgrow5.size); have hih := Lib.hid (HIH.out (p ++ [(m : Int)]) (pre ++ ordTill N k p m) w5 (by rw [List.length_append, List.length_singleton]; omega) hT5 hbT hH5 HJ5.out (HPRE.out m hlt HCC.out)); rw [List.length_append, List.length_singleton] at hih; clear hown5 hgrow5 hga HJV hHV hTV HC)
          | ((try refine ⟨hdd _, ?_⟩); gi_at_call 107; refine (CallsIn_any rfl hih.out).mono ?_; rintro e w7 (⟨rfl, k1, k2, k3⟩ | ⟨rfl, k1⟩)))
        · refine ⟨⟨m + 1, _, _, _, _, _, _, _, _, _, _, _, _, _, _, _, _, by omega, by go_num, rfl, by rw [ordTill_yes HCC.out, ← List.append_assoc]; exact Lib.hid k1, k2.trunc, k3⟩, ?_⟩
          simp [intOf]; omega
        · go_ret
          exact .inr ⟨rfl, k1⟩
    · obtain rfl : m = N := by omega
      gi_wp2
      go_ret
      exact .inl ⟨rfl, HJV.out, hHV, hTV⟩

end Go.Proofs.Ytldkgkpiceamhaa

namespace Go.Proofs.Ytldkgkpiceamhaa
open Go.RowKit Go.Shelf Go.Deep

attribute [local go_sem] Oper.semAt_some

theorem make_capQ (N : Nat) (hN : N ≤ 9) (w : World) : (Instr.makeSlice 24 (.int .i64 0) (.int .i64 (N : Int))).run Try.prog w = .ok (.slice (some ⟨w.heap.size, 0, none⟩) 0 N) (w.alloc (.cells (madeCells #[.int .i64 0] N) 3)) := by
  obtain ⟨i, hi, hz0, hz1, hz2⟩ := info_parts infoInt
  have hr := run_make (P := Try.prog) w 24 3 i (.int .i64 0) Try.underlying24 hi hz0 .i64 .i64 0 (N : Int) (Int.le_refl _) (by omega) (by rw [hz2]; omega) (by omega)
  simp only [Int.toNat_zero, Int.toNat_natCast, hz1, Nat.mul_one] at hr
  exact hr

set_option maxRecDepth 100000 in
set_option maxHeartbeats 4000000 in
theorem orders_Y (T s N : Nat) (hN9 : N ≤ 9) (S : Nat → Prop) (w : World) (bN : Boxed w s 3 (.int .i64 N)) (hS : ∀ B, S B → B < w.heap.size) (hwT : w.heap.size ≤ T) :
    SeqY Fence.wide Try.prog 106 #[.pointer (some ⟨s, 0, none⟩)] (fun _ : List Int => #[.slice (some ⟨T, 0, none⟩) N N]) T (fun _ => True) (fun x W => x.length = N ∧ Hold T N x W) (KeepC S T)
      (fun xs => xs = ordL N N []) (fun pre => pre <+: ordL N N []) T w := by
  intro l J Jx W hT hW hJ hJx hY h0
  have bN0 : Boxed W s 3 (.int .i64 N) := (hW.block _ bN.lt).trans bN
  have hmk := make_capQ N hN9
  have HJ := Lib.hid hJ
  have HY := Lib.hid hY
  subst hT
  obtain ⟨E, hE⟩ : ∃ E, W.alloc (.cells (madeCells #[.int .i64 0] N) 3) = E := ⟨_, rfl⟩
  have hBE : Below W.heap.size W E := by rw [← hE]; exact (Below.refl _ W).alloc (Nat.le_refl _) _
  have HC : Hid (∀ W', W'.heap = E.heap → W'.os = W.os → W'.tape = W.tape → W'.output = W.output → Calls Try.prog 107 #[.slice (some ⟨W.heap.size, 0, none⟩) 0 N, .int .i64 N, .func (.yield l) #[] #[]] W' fun e W' => (∃ v, e = .returned v) ∧ ((∃ xs, xs = ordL N N [] ∧ J xs W') ∨ (∃ pre, pre <+: ordL N N [] ∧ Jx pre W'))) := by
    refine Lib.hid fun W' h1 h2 h3 h4 => ?_
    have hEs : E.heap.size = W.heap.size + 1 := by rw [← hE]; simp
    have hWs' : W'.heap.size = W.heap.size + 1 := by rw [h1, hEs]
    have hg : W.grownBy W' none := ⟨h2, h3, h4, by omega, fun k hk _ => by rw [h1]; exact hBE.block k hk⟩
    have hown : E.ownsRow W.heap.size 3 1 (.slice (some ⟨W.heap.size, 0, none⟩) 0 N) 0 [] := by
      have h := World.ownsRow_made (size := 1) W (base := W.heap.size) (e := 3) (madeCells #[.int .i64 0] N) N (Nat.le_refl _) (by unfold maxLen; omega) (by rw [size_madeCells]; omega)
      rw [hE] at h
      exact h
    have hHW : Hold W.heap.size N [] W' := by
      obtain ⟨x1, x2⟩ := hown
      refine ⟨x1, ?_⟩
      rw [h1]; exact x2
    have hF := from_Y W.heap.size N (W.heap.size + 1) S (fun s => by have := hS _ s; omega) hN9 l J Jx (ordL N N []) ⟨OwnFrom.far HJ.out.1 (by omega), fun s A C hs hgr _ => HJ.out.2 s A C hs hgr trivial⟩
      (fun m pre x W1 hj hsp hat => by
        obtain ⟨fn, tmps, assign, body, hy, hR⟩ := HY.out m pre x W1 hj hsp hat
        refine ⟨fn, tmps, assign, body, hy, hR.mono ?_⟩
        rintro e W2 (⟨k1, k2, k3⟩ | ⟨k1, k2, k3⟩)
        · exact .inl ⟨k1, k2, KeepC.more k3 (by omega)⟩
        · exact .inr ⟨k1, k2, k3.size, fun k o hk ho hc => k3.same k o (by omega) ho hc⟩)
      N [] [] W' (by simp) (by omega) (by omega) hHW (HJ.out.1 _ _ _ none h0 hg (fun r e => by cases e)) (List.prefix_refl _)
    refine callsIn_wide.1 (hF.mono ?_)
    rintro e W2 (⟨rfl, k1, _, _⟩ | ⟨rfl, k1⟩)
    · exact ⟨⟨_, rfl⟩, .inl ⟨_, rfl, k1⟩⟩
    · exact ⟨⟨_, rfl⟩, .inr k1⟩
  have cN := bN0.cell
  have ltN := bN0.lt
  have cN1 : ∀ o, (W.alloc o).cell? ⟨s, 0, none⟩ = some (.int .i64 N) := fun o => (bN0.alloc o).cell
  have cE : E.cell? ⟨s, 0, none⟩ = some (.int .i64 N) := (hBE.cell (p := ⟨s, 0, none⟩) ltN).trans cN
  have eo : E.os = W.os := hBE.os
  have et : E.tape = W.tape := hBE.tape
  have eu : E.output = W.output := hBE.output
  have cN2 : ∀ o, (W.drew.alloc o).cell? ⟨s, 0, none⟩ = some (.int .i64 N) := fun o => (World.cell?_alloc_lt W.drew o ⟨s, 0, none⟩ ltN).trans cN
  have cN3 : W.drew.cell? ⟨s, 0, none⟩ = some (.int .i64 N) := cN
  clear hJ hJx hY h0 hW bN bN0 hBE HJ HY hS hwT
  refine callsIn_of_wp Try.func106 rfl trivial ?_ rfl
  simp only [Try.ntmps106, List.size_toArray, List.length_cons, List.length_nil, Nat.reduceAdd, Nat.reduceSub, Array.replicate_succ, Array.replicate_zero, List.push_toArray, List.append_toArray, List.nil_append, List.cons_append]
  gi_wp2
  refine wpIn_wide.2 ?_
  go_region_with (go_at_call 107; refine (HC.out E.drew rfl eo et eu).mono ?_; rintro e w' ⟨⟨v, rfl⟩, hP⟩)
  all_goals
    have HP := Lib.hid hP
    clear hP
    gi_wp2
    go_end0
    exact ⟨⟨_, rfl⟩, HP.out⟩

theorem orders_in (n : Nat) (N : Nat) (w : World) :
    CallsIn Fence.wide n Try.prog 85 #[.int .i64 N] w fun e w' =>
      e = .returned (.func (.func 106) #[] #[.pointer (some ⟨w.heap.size, 0, none⟩)]) ∧ w' = w.alloc (.cells #[.int .i64 N] 3) := by
  refine callsIn_of_wp Try.func85 rfl trivial ?_ rfl
  simp only [Try.ntmps85, List.size_toArray, List.length_cons, List.length_nil, Nat.reduceAdd, Nat.reduceSub, Array.replicate_succ, Array.replicate_zero, List.push_toArray, List.append_toArray, List.nil_append, List.cons_append]
  gi_wp2
  go_ret
  exact ⟨rfl, rfl⟩

end Go.Proofs.Ytldkgkpiceamhaa

namespace Go.Proofs.Ytldkgkpiceamhaa
open Go.RowKit Go.Shelf Go.Deep

attribute [local go_sem] Oper.semAt_some

/-- Does the order make the second graph of the first one? -/
def sameBy (G H : List (List Int)) (f : List Int) : Bool := (PL H.length).all fun x => arw G (nd f x.1.1) (nd f x.2.1) == arw H x.1.1 x.2.1
set_option maxRecDepth 100000 in
set_option maxHeartbeats 4000000 in
theorem makes_in (n₀ : Nat) (a a' a'' : Option Addr) (c c' c'' : Nat) (G H : List (List Int)) (f : List Int) (w : World) (hM : Mat n₀ w a G) (hM' : Mat n₀ w a' H) (hI : Ints n₀ w a'' f) (hn : n₀ ≤ w.heap.size) (hG : Good G) (hG' : Good H) (hT : Tells H.length G.length f) :
    CallsIn Fence.wide 20 Try.prog 86 #[.agg #[.slice a G.length c], .agg #[.slice a' H.length c'], .slice a'' f.length c''] w (Ans (.bool (sameBy G H f)) w) := by
  have hdd : ∀ k : Nat, (Fence.wide.depth.isSome = true → 1 ≤ k) := fun k h => by cases h
  have hl9 := hG.2.1
  have hl9' := hG'.2.1
  have hfl : f.length ≤ 9 := by rw [hT.1]; exact hl9'
  have HFL := Lib.hid hT.1
  have h3 : Fence.wide.fn 61 := trivial
  have h5 : Fence.wide.fn 94 := trivial
  have h4 : Fence.wide.fn 63 := trivial
  have HT := Lib.hid hT
  have HG := Lib.hid hG
  have HG' := Lib.hid hG'
  obtain ⟨z, HZ⟩ : ∃ z, Hid (sameBy G H f = z) := ⟨_, rfl⟩
  rw [HZ.out]
  clear hT hG hG'
  have es : ∀ (W : World) (o : Obj), (W.alloc o).heap.size = W.heap.size + 1 := fun W o => by simp
  refine callsIn_of_wp_marks Try.func86 rfl trivial ?_ rfl
  simp only [Try.ntmps86, List.size_toArray, List.length_cons, List.length_nil, Nat.reduceAdd, Nat.reduceSub, Array.replicate_succ, Array.replicate_zero, List.push_toArray, List.append_toArray, List.nil_append, List.cons_append]
  gi_wp2_with (first | ((try refine ⟨hdd _, ?_⟩); gi_at_call 61; refine (nodes_in Fence.wide _ (fun _ => trivial) rfl _ _ _ _).mono ?_; rintro e w' ⟨rfl, rfl⟩) | ((try refine ⟨hdd _, ?_⟩); gi_at_call 94; refine (pairs_in Fence.wide _ (fun _ => trivial) rfl _ _).mono ?_; rintro e w' ⟨rfl, rfl⟩))
  have bG := (((((Boxed.new w 61 (.slice a G.length c)).alloc (.cells #[.slice a' H.length c'] 61)).alloc (.cells #[.slice a'' f.length c''] 24)).alloc (.cells #[.bool false] 4)).alloc (.cells #[.slice a' H.length c'] 61)).alloc (.cells #[.int .i64 H.length] 3)
  have bH := ((((Boxed.new (w.alloc (.cells #[.slice a G.length c] 61)) 61 (.slice a' H.length c')).alloc (.cells #[.slice a'' f.length c''] 24)).alloc (.cells #[.bool false] 4)).alloc (.cells #[.slice a' H.length c'] 61)).alloc (.cells #[.int .i64 H.length] 3)
  have bF := (((Boxed.new ((w.alloc (.cells #[.slice a G.length c] 61)).alloc (.cells #[.slice a' H.length c'] 61)) 24 (.slice a'' f.length c'')).alloc (.cells #[.bool false] 4)).alloc (.cells #[.slice a' H.length c'] 61)).alloc (.cells #[.int .i64 H.length] 3)
  have bR := ((Boxed.new (((w.alloc (.cells #[.slice a G.length c] 61)).alloc (.cells #[.slice a' H.length c'] 61)).alloc (.cells #[.slice a'' f.length c''] 24)) 4 (.bool false)).alloc (.cells #[.slice a' H.length c'] 61)).alloc (.cells #[.int .i64 H.length] 3)
  have bP := Boxed.new (((((w.alloc (.cells #[.slice a G.length c] 61)).alloc (.cells #[.slice a' H.length c'] 61)).alloc (.cells #[.slice a'' f.length c''] 24)).alloc (.cells #[.bool false] 4)).alloc (.cells #[.slice a' H.length c'] 61)) 3 (.int .i64 H.length)
  have hB := (((((((Below.refl w.heap.size w).alloc (Nat.le_refl _) (.cells #[.slice a G.length c] 61)).alloc (by simp) (.cells #[.slice a' H.length c'] 61)).alloc (by simp; omega) (.cells #[.slice a'' f.length c''] 24)).alloc (by simp; omega) (.cells #[.bool false] 4)).alloc (by simp; omega) (.cells #[.slice a' H.length c'] 61)).alloc (by simp; omega) (.cells #[.int .i64 H.length] 3))
  rw [es] at bH
  rw [es, es] at bF
  rw [es, es, es] at bR
  rw [es, es, es, es, es] at bP
  have hsz : ((((((w.alloc (.cells #[.slice a G.length c] 61)).alloc (.cells #[.slice a' H.length c'] 61)).alloc (.cells #[.slice a'' f.length c''] 24)).alloc (.cells #[.bool false] 4)).alloc (.cells #[.slice a' H.length c'] 61)).alloc (.cells #[.int .i64 H.length] 3)).heap.size = w.heap.size + 6 := by simp
  obtain ⟨V, hV⟩ : ∃ V, ((((((w.alloc (.cells #[.slice a G.length c] 61)).alloc (.cells #[.slice a' H.length c'] 61)).alloc (.cells #[.slice a'' f.length c''] 24)).alloc (.cells #[.bool false] 4)).alloc (.cells #[.slice a' H.length c'] 61)).alloc (.cells #[.int .i64 H.length] 3)) = V := ⟨_, rfl⟩
  rw [hV] at bG bH bF bR bP hB hsz ⊢
  clear hV
  have hsz1 : w.heap.size + 6 ≤ V.heap.size := by omega
  have hsz2 : V.heap.size ≤ w.heap.size + 6 := by omega
  clear hsz
  refine range_law rfl rfl (fun _ => trivial) (gf := 109) (lb := #[.pointer (some ⟨w.heap.size + 1 + 1 + 1 + 1 + 1, 0, none⟩)]) rfl (enters_of Try.func109 (by kernel_rfl) rfl)
    (pairs_X Fence.wide (fun _ => trivial) rfl (w.heap.size + 1 + 1 + 1 + 1 + 1) H.length (by omega) (fun B => B = w.heap.size + 1 + 1 + 1) (V.heap.size + 2) (V.heap.size + 2) (by omega) V bP) (fun h k => KeepC.trans h k) (fun W' o o' h hc => KeepC.putObj _ (by omega) W' o o' h hc) (Below.refl _ _) (fun _ => rfl)
    (fun pre W' => ((((Boxed W' w.heap.size 61 (.slice a G.length c) ∧ Boxed W' (w.heap.size + 1) 61 (.slice a' H.length c')) ∧ Boxed W' (w.heap.size + 1 + 1) 24 (.slice a'' f.length c'')) ∧ Boxed W' (w.heap.size + 1 + 1 + 1) 4 (.bool false)) ∧ Hid (∀ x ∈ pre, (arw G (nd f x.1.1) (nd f x.2.1) == arw H x.1.1 x.2.1) = true)) ∧ Below w.heap.size w W')
    (fun c' pre W' => ((c' = .ret ∧ Hid (∃ x ∈ pre, (arw G (nd f x.1.1) (nd f x.2.1) == arw H x.1.1 x.2.1) = false)) ∧ Boxed W' (w.heap.size + 1 + 1 + 1) 4 (.bool false)) ∧ Below w.heap.size w W')
    (OwnFrom.and (OwnFrom.and (OwnFrom.and (OwnFrom.and (OwnFrom.and (Own.from (boxed_own _ _ _) _) (Own.from (boxed_own _ _ _) _)) (Own.from (boxed_own _ _ _) _)) (Own.from (boxed_own _ _ _) _)) (ownFrom_pure _ _)) (ownFrom_below (Nat.le_refl _) (by omega)))
    (fun c' => OwnFrom.and (OwnFrom.and (ownFrom_pure _ _) (Own.from (boxed_own _ _ _) _)) (ownFrom_below (Nat.le_refl _) (by omega)))
    ⟨⟨⟨⟨⟨bG, bH⟩, bF⟩, bR⟩, fun x hx => absurd hx (by simp)⟩, hB⟩ ?a1 ?assign ?body ?done ?stop
  case assign =>
    intro l2 x W' K hK
    gi_wp2
    exact hK
  case body =>
    rintro l2 pre ⟨⟨i, hi⟩, ⟨j, hj⟩⟩ W' ⟨⟨⟨⟨⟨bG', bH'⟩, bF'⟩, bR'⟩, HP⟩, hB'⟩ _
    clear bG bH bF bR bP hB
    have hws := hB'.size
    have cG := bG'.cell
    have cH := bH'.cell
    have cF := bF'.cell
    have cR := bR'.cell
    have fR := bR'.frozen
    obtain ⟨p, hp, enp, hpH⟩ := tells_at HT.out hi
    obtain ⟨q, hq, enq, hqH⟩ := tells_at HT.out hj
    have hI' := hI.below (hB'.mono hn)
    have hMG : Mat n₀ W'.drew a G := hM.below (hB'.drew.mono hn)
    have hMH : Mat n₀ W'.drew a' H := hM'.below (hB'.drew.mono hn)
    obtain ⟨b, o, y, rfl, hb, hc0, HY⟩ := hI'.at_ (k := i) (by have := HFL.out; omega)
    obtain ⟨b2, o2, y2, e2, hb2, hc2, HY2⟩ := hI'.at_ (k := j) (by have := HFL.out; omega)
    cases e2
    have ey : y = (p : Int) := by have := HY.out; rw [hp] at this; cases this; rfl
    have ey2 : y2 = (q : Int) := by have := HY2.out; rw [hq] at this; cases this; rfl
    subst ey ey2
    have hif : i < f.length := by have := HFL.out; omega
    have hjf : j < f.length := by have := HFL.out; omega
    have HA := Lib.hid (enp)
    have HA2 := Lib.hid (enq)
    clear hp hq enp enq HY HY2 hI'
    gi_wp2_with fail
    refine wpIn_region_any (by kernel_rfl) (wpAnyIn_of (by kernel_rfl) (fun ⟨_, _, h⟩ => h) _ _ _ _ (wpAny_of_held (S := fun X => X.cell? ⟨w.heap.size, 0, none⟩ = some (.slice a G.length c) ∧ X.cell? ⟨w.heap.size + 1, 0, none⟩ = some (.slice a' H.length c') ∧ X.cell? ⟨w.heap.size + 1 + 1, 0, none⟩ = some (.slice (some ⟨b, o, none⟩) f.length c'') ∧ X.cell? ⟨b, o + i, none⟩ = some (.int .i64 p) ∧ X.cell? ⟨b, o + j, none⟩ = some (.int .i64 q) ∧ W'.heap.size ≤ X.heap.size ∧ True) _ _ _ _ ?_))
    change wpAnyH _ _ _ _ _ _ _ _ (World.drew _)
    have ltG := bG'.lt
    have ltH := bH'.lt
    have ltF := bF'.lt
    have hbw : b < W'.heap.size := Nat.lt_of_lt_of_le hb (Nat.le_trans hn hws)
    have hstep : ∀ (X : World) (ob : Obj), (X.cell? ⟨w.heap.size, 0, none⟩ = some (.slice a G.length c) ∧ X.cell? ⟨w.heap.size + 1, 0, none⟩ = some (.slice a' H.length c') ∧ X.cell? ⟨w.heap.size + 1 + 1, 0, none⟩ = some (.slice (some ⟨b, o, none⟩) f.length c'') ∧ X.cell? ⟨b, o + i, none⟩ = some (.int .i64 p) ∧ X.cell? ⟨b, o + j, none⟩ = some (.int .i64 q) ∧ W'.heap.size ≤ X.heap.size ∧ True) → ((X.alloc ob).cell? ⟨w.heap.size, 0, none⟩ = some (.slice a G.length c) ∧ (X.alloc ob).cell? ⟨w.heap.size + 1, 0, none⟩ = some (.slice a' H.length c') ∧ (X.alloc ob).cell? ⟨w.heap.size + 1 + 1, 0, none⟩ = some (.slice (some ⟨b, o, none⟩) f.length c'') ∧ (X.alloc ob).cell? ⟨b, o + i, none⟩ = some (.int .i64 p) ∧ (X.alloc ob).cell? ⟨b, o + j, none⟩ = some (.int .i64 q) ∧ W'.heap.size ≤ (X.alloc ob).heap.size ∧ True) := fun X ob ⟨s1, s2, s3, s4, s5, s6, s7⟩ =>
      ⟨(World.cell?_alloc_lt X ob ⟨w.heap.size, 0, none⟩ (Nat.lt_of_lt_of_le ltG s6)).trans s1, (World.cell?_alloc_lt X ob ⟨w.heap.size + 1, 0, none⟩ (Nat.lt_of_lt_of_le ltH s6)).trans s2, (World.cell?_alloc_lt X ob ⟨w.heap.size + 1 + 1, 0, none⟩ (Nat.lt_of_lt_of_le ltF s6)).trans s3, (World.cell?_alloc_lt X ob ⟨b, o + i, none⟩ (Nat.lt_of_lt_of_le hbw s6)).trans s4, (World.cell?_alloc_lt X ob ⟨b, o + j, none⟩ (Nat.lt_of_lt_of_le hbw s6)).trans s5, by rw [es]; omega, s7⟩
    have hS0 : W'.drew.cell? ⟨w.heap.size, 0, none⟩ = some (.slice a G.length c) ∧ W'.drew.cell? ⟨w.heap.size + 1, 0, none⟩ = some (.slice a' H.length c') ∧ W'.drew.cell? ⟨w.heap.size + 1 + 1, 0, none⟩ = some (.slice (some ⟨b, o, none⟩) f.length c'') ∧ W'.drew.cell? ⟨b, o + i, none⟩ = some (.int .i64 p) ∧ W'.drew.cell? ⟨b, o + j, none⟩ = some (.int .i64 q) ∧ W'.heap.size ≤ W'.drew.heap.size ∧ True := ⟨cG, cH, cF, hc0, hc2, Nat.le_refl _, trivial⟩
    have HST := Lib.hid hstep
    have HS0 := Lib.hid hS0
    have hnd : n₀ ≤ W'.drew.heap.size := Nat.le_trans hn hws
    have hMH1 : Mat n₀ (W'.drew.alloc (.cells #[.slice a G.length c] 61)) a' H := hMH.below ((Below.refl n₀ _).alloc hnd _)
    have hnd1 : n₀ ≤ (W'.drew.alloc (.cells #[.slice a G.length c] 61)).heap.size := by rw [es]; omega
    have bR2 := (show Boxed W'.drew (w.heap.size + 1 + 1 + 1) 4 (.bool false) from bR').alloc (.cells #[.slice a G.length c] 61) |>.alloc (.cells #[.slice a' H.length c'] 61)
    have cR2 := bR2.cell
    have fR2 := bR2.frozen
    clear hstep cG cH cF hc0 hc2
    refine wpAnyH_take (i := 0) (v := ?_) rfl (by kernel_rfl) (by kernel_rfl) (by kernel_rfl) (fun _ _ _ h => h) (Or.inl ⟨by rfl, ?_⟩) hS0 ?_
    case refine_2 => rintro w ⟨s1, s2, s3, s4, s5, s6, s7⟩; first | (go_simp; rfl) | go_simp
    simp only [Act.put, List.getElem_toArray, List.getElem_cons_zero, List.setIfInBounds_toArray, List.set_cons_zero, List.set_cons_succ]
    refine wpAnyH_take (i := 1) (v := ?_) rfl (by kernel_rfl) (by kernel_rfl) (by kernel_rfl) (fun _ _ _ h => h) (Or.inl ⟨by rfl, ?_⟩) hS0 ?_
    case refine_2 => rintro w ⟨s1, s2, s3, s4, s5, s6, s7⟩; first | (go_simp; rfl) | go_simp
    simp only [Act.put, List.getElem_toArray, List.getElem_cons_succ, List.getElem_cons_zero, List.setIfInBounds_toArray, List.set_cons_zero, List.set_cons_succ]
    refine wpAnyH_take (i := 2) (v := ?_) rfl (by kernel_rfl) (by kernel_rfl) (by kernel_rfl) (fun _ _ _ h => h) (Or.inl ⟨by rfl, ?_⟩) hS0 ?_
    case refine_2 => rintro w ⟨s1, s2, s3, s4, s5, s6, s7⟩; first | (go_simp; rfl) | go_simp
    simp only [Act.put, List.getElem_toArray, List.getElem_cons_succ, List.getElem_cons_zero, List.setIfInBounds_toArray, List.set_cons_zero, List.set_cons_succ]
    refine wpAnyH_take (i := 3) (v := ?_) rfl (by kernel_rfl) (by kernel_rfl) (by kernel_rfl) (fun _ _ _ h => h) (Or.inl ⟨by rfl, ?_⟩) hS0 ?_
    case refine_2 => rintro w ⟨s1, s2, s3, s4, s5, s6, s7⟩; first | (go_simp; rfl) | go_simp
    simp only [Act.put, List.getElem_toArray, List.getElem_cons_succ, List.getElem_cons_zero, List.setIfInBounds_toArray, List.set_cons_zero, List.set_cons_succ]
    refine wpAnyH_take (i := 4) (v := ?_) rfl (by kernel_rfl) (by kernel_rfl) (by kernel_rfl) (fun _ _ _ h => h) (Or.inl ⟨by rfl, ?_⟩) hS0 ?_
    case refine_2 => rintro w ⟨s1, s2, s3, s4, s5, s6, s7⟩; first | (go_simp; rfl) | go_simp
    simp only [Act.put, List.getElem_toArray, List.getElem_cons_succ, List.getElem_cons_zero, List.setIfInBounds_toArray, List.set_cons_zero, List.set_cons_succ]
    refine wpAnyH_take (i := 5) (v := ?_) rfl (by kernel_rfl) (by kernel_rfl) (by kernel_rfl) (fun _ _ _ h => h) (Or.inl ⟨by rfl, ?_⟩) hS0 ?_
    case refine_2 => rintro w ⟨s1, s2, s3, s4, s5, s6, s7⟩; first | (go_simp; rfl) | go_simp
    simp only [Act.put, List.getElem_toArray, List.getElem_cons_succ, List.getElem_cons_zero, List.setIfInBounds_toArray, List.set_cons_zero, List.set_cons_succ]
    refine wpAnyH_take (i := 6) (v := ?_) rfl (by kernel_rfl) (by kernel_rfl) (by kernel_rfl) (fun _ _ _ h => h) (Or.inl ⟨by rfl, ?_⟩) hS0 ?_
    case refine_2 => rintro w ⟨s1, s2, s3, s4, s5, s6, s7⟩; first | (go_simp; rfl) | go_simp
    simp only [Act.put, List.getElem_toArray, List.getElem_cons_succ, List.getElem_cons_zero, List.setIfInBounds_toArray, List.set_cons_zero, List.set_cons_succ]
    refine wpAnyH_take (i := 7) (v := ?_) rfl (by kernel_rfl) (by kernel_rfl) (by kernel_rfl) (fun _ _ _ h => h) (Or.inl ⟨by rfl, ?_⟩) hS0 ?_
    case refine_2 => rintro w ⟨s1, s2, s3, s4, s5, s6, s7⟩; first | (go_simp; rfl) | go_simp
    simp only [Act.put, List.getElem_toArray, List.getElem_cons_succ, List.getElem_cons_zero, List.setIfInBounds_toArray, List.set_cons_zero, List.set_cons_succ]
    refine wpAnyH_take (i := 8) (v := ?_) rfl (by kernel_rfl) (by kernel_rfl) (by kernel_rfl) (fun _ _ _ h => h) (Or.inl ⟨by rfl, ?_⟩) hS0 ?_
    case refine_2 => rintro w ⟨s1, s2, s3, s4, s5, s6, s7⟩; first | (go_simp; rfl) | go_simp
    simp only [Act.put, List.getElem_toArray, List.getElem_cons_succ, List.getElem_cons_zero, List.setIfInBounds_toArray, List.set_cons_zero, List.set_cons_succ]
    refine wpAnyH_take (i := 10) (v := ?_) rfl (by kernel_rfl) (by kernel_rfl) (by kernel_rfl) (fun _ _ _ h => h) (Or.inl ⟨by rfl, ?_⟩) hS0 ?_
    case refine_2 => rintro w ⟨s1, s2, s3, s4, s5, s6, s7⟩; first | (go_simp; rfl) | go_simp
    simp only [Act.put, List.getElem_toArray, List.getElem_cons_succ, List.getElem_cons_zero, List.setIfInBounds_toArray, List.set_cons_zero, List.set_cons_succ]
    refine wpAnyH_take (i := 11) (v := ?_) rfl (by kernel_rfl) (by kernel_rfl) (by kernel_rfl) (fun _ _ _ h => h) (Or.inl ⟨by rfl, ?_⟩) hS0 ?_
    case refine_2 => rintro w ⟨s1, s2, s3, s4, s5, s6, s7⟩; first | (go_simp; rfl) | go_simp
    simp only [Act.put, List.getElem_toArray, List.getElem_cons_succ, List.getElem_cons_zero, List.setIfInBounds_toArray, List.set_cons_zero, List.set_cons_succ]
    refine wpAnyH_take (i := 12) (v := ?_) rfl (by kernel_rfl) (by kernel_rfl) (by kernel_rfl) (fun _ _ _ h => h) (Or.inl ⟨by rfl, ?_⟩) hS0 ?_
    case refine_2 => rintro w ⟨s1, s2, s3, s4, s5, s6, s7⟩; first | (go_simp; rfl) | go_simp
    simp only [Act.put, List.getElem_toArray, List.getElem_cons_succ, List.getElem_cons_zero, List.setIfInBounds_toArray, List.set_cons_zero, List.set_cons_succ]
    refine wpAnyH_ready (rs := [9]) (by kernel_rfl) (by simp) ?_
    refine AllReadyH.cons rfl (fun K hK => ?_) AllReadyH.nil
    go_simp
    refine (arrowC n₀ a c G _ hMG hnd HG.out p q hpH hqH).mono ?_
    rintro e w' ⟨rfl, rfl⟩
    refine hK.out _ _ (HST.out _ _ HS0.out) (fun hS1 => ?_)
    clear hK K
    refine wpAnyH_ready (rs := [13]) (by kernel_rfl) (by simp) ?_
    refine AllReadyH.cons rfl (fun K hK => ?_) AllReadyH.nil
    go_simp
    refine (arrowC n₀ a' c' H _ hMH1 hnd1 HG'.out i j hi hj).mono ?_
    rintro e w' ⟨rfl, rfl⟩
    refine hK.out _ _ (HST.out _ _ hS1) (fun hS2 => ?_)
    clear hK K
    refine wpAnyH_take (i := 14) (v := ?_) rfl (by kernel_rfl) (by kernel_rfl) (by kernel_rfl) (fun _ _ _ h => h) (Or.inl ⟨by rfl, ?_⟩) hS2 ?_
    case refine_2 => rintro w ⟨s1, s2, s3, s4, s5, s6, s7⟩; first | (go_simp; rfl) | go_simp
    simp only [Act.put, List.getElem_toArray, List.getElem_cons_succ, List.getElem_cons_zero, List.setIfInBounds_toArray, List.set_cons_zero, List.set_cons_succ]
    refine wpAnyH_done (by kernel_rfl) ?_ _
    have hkf : KeepsFrom V.heap.size W' ((W'.drew.alloc (.cells #[.slice a G.length c] 61)).alloc (.cells #[.slice a' H.length c'] 61)) := ((show KeepsFrom V.heap.size W' W'.drew from ⟨Nat.le_refl _, fun _ _ _ h _ => h⟩).trans (((KeepsOthers.alloc W'.drew _).trans (KeepsOthers.alloc _ _)).from _))
    have hkc : KeepC (fun B => B = w.heap.size + 1 + 1 + 1) (V.heap.size + 2) W' ((W'.drew.alloc (.cells #[.slice a G.length c] 61)).alloc (.cells #[.slice a' H.length c'] 61)) := (KeepC.drew _ _ _).trans ((KeepC.alloc _ _ _ _).trans (KeepC.alloc _ _ _ _))
    have hBX : Below w.heap.size w ((W'.drew.alloc (.cells #[.slice a G.length c] 61)).alloc (.cells #[.slice a' H.length c'] 61)) := (hB'.drew.alloc hws _).alloc (by rw [es]; have : w.heap.size ≤ W'.drew.heap.size := hws; omega) _
    by_cases ha : (arw G p q == arw H i j) = true
    · have hn2 : (!(arw G p q == arw H i j)) = false := by simp [ha]
      have HP' : Hid (∀ x ∈ pre ++ [((⟨i, hi⟩ : Fin H.length), (⟨j, hj⟩ : Fin H.length))], (arw G (nd f x.1.1) (nd f x.2.1) == arw H x.1.1 x.2.1) = true) := fun x hx => by
        rcases List.mem_append.1 hx with h | h
        · exact HP.out x h
        · simp only [List.mem_singleton] at h; subst h; rw [HA.out, HA2.out]; exact ha
      clear ha
      rw [hn2]
      gi_wp2
      exact ⟨hkf, hkc, ⟨⟨⟨⟨((show Boxed W'.drew _ _ _ from bG').alloc _).alloc _, ((show Boxed W'.drew _ _ _ from bH').alloc _).alloc _⟩, ((show Boxed W'.drew _ _ _ from bF').alloc _).alloc _⟩, bR2⟩, HP'⟩, hBX⟩
    · have han : (arw G p q == arw H i j) = false := by simpa using ha
      have hn2 : (!(arw G p q == arw H i j)) = true := by simp [han]
      have HN : Hid (∃ x ∈ pre ++ [((⟨i, hi⟩ : Fin H.length), (⟨j, hj⟩ : Fin H.length))], (arw G (nd f x.1.1) (nd f x.2.1) == arw H x.1.1 x.2.1) = false) := ⟨(⟨i, hi⟩, ⟨j, hj⟩), by simp, by rw [HA.out, HA2.out]; exact han⟩
      clear ha han
      rw [hn2]
      obtain ⟨U, hU⟩ : ∃ U, ((W'.drew.alloc (.cells #[.slice a G.length c] 61)).alloc (.cells #[.slice a' H.length c'] 61)) = U := ⟨_, rfl⟩
      rw [hU] at hkf hkc hBX bR2 cR2 fR2 ⊢
      clear hU
      gi_wp2
      exact ⟨hkf.trans ((KeepsOthers.setCell _ _ _).from _), ⟨⟨rfl, HN⟩, bR2.set _⟩, hBX.setCell (p := ⟨w.heap.size + 1 + 1 + 1, 0, none⟩) (by simp; omega) _⟩
  case done =>
    rintro D ys W' hD rfl ⟨⟨⟨⟨⟨bG', bH'⟩, bF'⟩, bR'⟩, HP⟩, hB'⟩ hK
    have cR := bR'.cell
    have fR := bR'.frozen
    gi_wp2
    have hK' := (KeepsOthers.setCell W' ⟨w.heap.size + 1 + 1 + 1, 0, none⟩ (.bool true)).same D _ hK rfl
    refine ⟨by simp, .inl ⟨_, _, rfl, run_takeDeferred hK', ?_⟩⟩
    have hc5 := cell_kept (bR'.set (.bool true)).cell (grownBy_putObj' _ D (.deferred none)) (fun r e => by cases e; exact ⟨_, hK', rfl⟩)
    refine ⟨.bool true, ?_, ret_bool (HZ.out.symm.trans (List.all_eq_true.2 fun x hx => HP.out x hx)).symm, (hB'.setCell (p := ⟨w.heap.size + 1 + 1 + 1, 0, none⟩) (by simp; omega) _).trans (belowK_b (w := w) (Nat.le_refl _) _ D _ _ (by omega) hK' rfl rfl)⟩
    simp [results, Try.f86, go_sem, hc5]
  case stop =>
    rintro D c' pre W' hD hpre ⟨⟨⟨rfl, HN⟩, bR'⟩, hB'⟩ hK
    gi_wp2
    refine ⟨by simp, .inl ⟨_, _, rfl, run_takeDeferred hK, ?_⟩⟩
    have hc5 := cell_kept bR'.cell (grownBy_putObj' _ D (.deferred none)) (fun r e => by cases e; exact ⟨_, hK, rfl⟩)
    have hf : sameBy G H f = false := by
      obtain ⟨x, hx, hx2⟩ := HN.out
      refine Bool.eq_false_iff.2 fun h => ?_
      have := List.all_eq_true.1 h x (hpre.subset hx)
      rw [hx2] at this
      cases this
    refine ⟨.bool false, ?_, ret_bool (HZ.out.symm.trans hf).symm, hB'.trans (belowK_b (w := w) (Nat.le_refl _) W' D _ _ (by omega) hK rfl rfl)⟩
    simp [results, Try.f86, go_sem, hc5]

end Go.Proofs.Ytldkgkpiceamhaa
