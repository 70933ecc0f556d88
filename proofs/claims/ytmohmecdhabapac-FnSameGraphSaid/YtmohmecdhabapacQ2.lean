/-
  The recursive iterator over orders: impl.ordersFrom.
-/
import Derived.Test.YtmohmecdhabapacM6a
import Derived.Test.YtmohmecdhabapacQ1
namespace Go.Proofs.Ytmohmecdhabapac
open Go.RowKit Go.Shelf Go.Deep

attribute [local go_sem] Oper.semAt_some

/-- ALL ORDERS THAT BEGIN WITH p and have k nodes more. -/
def ordL (n : Nat) : Nat → List Int → List (List Int)
  | 0, p => [p]
  | k + 1, p => (oexts n p n).flatMap (ordL n k)
/-- Those of them whose next node is below m. -/
def ordTill (n k : Nat) (p : List Int) (m : Nat) : List (List Int) := (oexts n p m).flatMap (ordL n k)
theorem ordTill_yes {n k : Nat} {p : List Int} {m : Nat} (h : p.contains (m : Int) = false) : ordTill n k p (m + 1) = ordTill n k p m ++ ordL n k (p ++ [(m : Int)]) := by
  unfold ordTill; rw [oexts_yes h, List.flatMap_append]; simp
theorem ordTill_no {n k : Nat} {p : List Int} {m : Nat} (h : p.contains (m : Int) = true) : ordTill n k p (m + 1) = ordTill n k p m := by
  unfold ordTill; rw [oexts_no h]
theorem ordTill_mono (n k : Nat) (p : List Int) {m m' : Nat} (h : m ≤ m') : ordTill n k p m <+: ordTill n k p m' := by
  induction h with
  | refl => exact List.prefix_refl _
  | @step m' h ih =>
    refine ih.trans ?_
    cases hc : p.contains (m' : Int) with
    | true => rw [ordTill_no hc]; exact List.prefix_refl _
    | false => rw [ordTill_yes hc]; exact List.prefix_append _ _

set_option maxRecDepth 100000 in
set_option maxHeartbeats 4000000 in
theorem from_Y (b N T : Nat) (S : Nat → Prop) (hSb : ¬ S b) (hN9 : N ≤ 9) (l : Nat) (J Jx : List (List Int) → World → Prop) (all : List (List Int)) (hJ : OwnH T b (fun _ => True) J)
    (hY : ∀ m pre x W1, J pre W1 → pre ++ [x] <+: all → (x.length = N ∧ Hold b N x W1) → YieldAt Fence.wide m Try.prog l #[.slice (some ⟨b, 0, none⟩) N N] W1 fun e W' =>
      (e = .returned (.bool true) ∧ J (pre ++ [x]) W' ∧ KeepC S T W1 W') ∨ (e = .returned (.bool false) ∧ Jx (pre ++ [x]) W' ∧ KeepsFrom T W1 W')) :
    ∀ (k : Nat) (p : List Int) (pre : List (List Int)) (W : World), p.length + k = N → T ≤ W.heap.size → b < T → Hold b N p W → J pre W → pre ++ ordL N k p <+: all →
      CallsIn Fence.wide 20 Try.prog 57 #[.slice (some ⟨b, 0, none⟩) p.length N, .int .i64 N, .func (.yield l) #[] #[]] W fun e W' =>
        (e = .returned (.bool true) ∧ J (pre ++ ordL N k p) W' ∧ Hold b N p W' ∧ T ≤ W'.heap.size) ∨ (e = .returned (.bool false) ∧ ∃ pre', pre' <+: all ∧ Jx pre' W') := by
  have hdd : ∀ k : Nat, (Fence.wide.depth.isSome = true → 1 ≤ k) := fun k h => by cases h
  have hf1 : Fence.wide.fn 53 := trivial
  have hf2 : Fence.wide.fn 57 := trivial
  obtain ⟨i1, hj, hy0, hy1, hy2⟩ := info_parts infoInt
  have es : ∀ (W : World) (o : Obj), (W.alloc o).heap.size = W.heap.size + 1 := fun W o => by simp
  have HJ := Lib.hid hJ
  have HY := Lib.hid hY
  have HSb := Lib.hid hSb
  clear hJ hY hSb
  intro k
  induction k with
  | zero =>
    intro p pre W hpn hTW hbT hH hJ0 hall
    have hpN : p.length = N := by omega
    subst hpN
    have hall' : pre ++ [p] <+: all := hall
    obtain ⟨fn, tmps, assign, body, hy, hR⟩ := HY.out 0 pre p W hJ0 hall' ⟨rfl, hH⟩
    refine callsIn_of_wp Try.func57 rfl trivial ?_ rfl
    simp only [Try.ntmps57, List.size_toArray, List.length_cons, List.length_nil, Nat.reduceAdd, Nat.reduceSub, Array.replicate_succ, Array.replicate_zero, List.push_toArray, List.append_toArray, List.nil_append, List.cons_append]
    gi_wp2
    refine (RoundIn_any rfl hR).mono ?_
    rintro e W3 (⟨rfl, h1, h2⟩ | ⟨rfl, h1, h2⟩)
    · have hs := h2.1
      have hH3 := hH.keepC h2 HSb.out
      clear hR
      gi_wp2
      go_ret
      exact .inl ⟨rfl, h1, hH3, by omega⟩
    · clear hR
      gi_wp2
      go_ret
      exact .inr ⟨rfl, _, hall', h1⟩
  | succ k ih =>
    intro p pre W hpn hTW hbT hH hJ0 hall
    have HIH := Lib.hid ih
    have HALL := Lib.hid hall
    have HJ0 : Hid (J (pre ++ ordTill N k p 0) W) := Lib.hid (by rw [show ordTill N k p 0 = [] from rfl, List.append_nil]; exact hJ0)
    have hne : ((p.length : Int) == (N : Int)) = false := by simp; omega
    have HPRE : Hid (∀ m, m < N → p.contains (m : Int) = false → (pre ++ ordTill N k p m) ++ ordL N k (p ++ [(m : Int)]) <+: all) := Lib.hid fun m hm hc => by
      rw [List.append_assoc, ← ordTill_yes hc]
      exact List.IsPrefix.trans ((List.prefix_append_right_inj _).2 (ordTill_mono N k p (show m + 1 ≤ N by omega))) hall
    clear ih hall hJ0 HALL
    refine callsIn_of_wp Try.func57 rfl trivial ?_ rfl
    simp only [Try.ntmps57, List.size_toArray, List.length_cons, List.length_nil, Nat.reduceAdd, Nat.reduceSub, Array.replicate_succ, Array.replicate_zero, List.push_toArray, List.append_toArray, List.nil_append, List.cons_append]
    gi_wp2
    refine wpIn_loop (fun a₁ W' => ∃ (m : Nat) (i u7 u17 u18 u19 u20 u21 u22 u23 u24 u25 u26 u27 u28 u29 u30 : Value), m ≤ N ∧ i = .int .i64 m ∧ a₁ = { tmps := #[.slice (some ⟨b, 0, none⟩) p.length N, .int .i64 N, .func (.yield l) #[] #[], undef, undef, undef, .bool false, u7, .slice (some ⟨b, 0, none⟩) p.length N, .int .i64 p.length, .int .i64 N, .bool false, undef, undef, undef, .int .i64 N, i, u17, u18, u19, u20, u21, u22, u23, u24, u25, u26, u27, u28, u29, u30], defers := [] } ∧ Hid (J (pre ++ ordTill N k p m) W') ∧ Hold b N p W' ∧ T ≤ W'.heap.size)
      (fun a₁ _ => N - (intOf (a₁.tmps.getD 16 undef)).toNat) ⟨0, _, _, _, _, _, _, _, _, _, _, _, _, _, _, _, _, Nat.zero_le _, rfl, rfl, HJ0, hH, hTW⟩ ?_
    clear hH HJ0 hTW
    rintro _ V ⟨m, _, u7, u17, u18, u19, u20, u21, u22, u23, u24, u25, u26, u27, u28, u29, u30, hm, rfl, rfl, HJV, hHV, hTV⟩
    by_cases hlt : m < N
    · have HC := Lib.hid (contains_any (some ⟨b, 0, none⟩) N V.heap.size p (m : Int) V hHV.ints (by omega))
      have hdc : decide ((m : Int) ∈ p) = p.contains (m : Int) := by rw [List.contains_eq_mem]
      rw [hdc] at HC
      clear hdc
      cases hc : p.contains (m : Int) with
      | true =>
        rw [hc] at HC
        have HCC := Lib.hid hc
        clear hc
        gi_wp2_with ((try refine ⟨hdd _, ?_⟩); gi_at_call 53; refine (callsIn_wide.2 HC.out).mono ?_; rintro e w6 ⟨rfl, rfl⟩)
        refine ⟨⟨m + 1, _, _, _, _, _, _, _, _, _, _, _, _, _, _, _, _, by omega, by go_num, rfl, by rw [ordTill_no HCC.out]; exact HJV, hHV, hTV⟩, ?_⟩
        simp [intOf]; omega
      | false =>
        rw [hc] at HC
        have HCC := Lib.hid hc
        clear hc
        have hpN2 : p.length + 1 ≤ N := by omega
        gi_wp2_with (first
          | ((try refine ⟨hdd _, ?_⟩); gi_at_call 53; refine (callsIn_wide.2 HC.out).mono ?_; rintro e w6 ⟨rfl, rfl⟩)
          | (gi_at_builtin; refine wpListIn_append_fits _ rfl _ _ 24 rfl b 3 i1 1 Try.underlying24 hj hy1 b p.length N (p.map (Value.int .i64)) rfl (hHV.alloc _) ⟨V.heap.size, 0, none⟩ 1 1 [.int .i64 (m : Int)] rfl rfl (cell_one_new _ _ _) (by simp [Value.oneCell']) (by omega) ?_; intro w5 hown5 hgrow5; (have hH5 : Hold b N (p ++ [(m : Int)]) w5 := by unfold Hold; rw [List.length_append, List.length_singleton, List.map_append]; exact hown5); have hga := World.grownBy_alloc V (.cells #[.int .i64 (m : Int)] 3) none; have HJ5 := Lib.hid (HJ.out.2 _ _ _ (OwnFrom.alloc HJ.out.1 (.cells #[.int .i64 (m : Int)] 3) HJV.out) hgrow5 trivial); have hT5 : T ≤ w5.heap.size := Nat.le_trans hTV (Nat.le_trans hga.size hgrow5.size); have hih := Lib.hid (HIH.out (p ++ [(m : Int)]) (pre ++ ordTill N k p m) w5 (by rw [List.length_append, List.length_singleton]; omega) hT5 hbT hH5 HJ5.out (HPRE.out m hlt HCC.out)); rw [List.length_append, List.length_singleton] at hih; clear hown5 hgrow5 hga HJV hHV hTV HC)
          | ((try refine ⟨hdd _, ?_⟩); gi_at_call 57; refine (CallsIn_any rfl hih.out).mono ?_; rintro e w7 (⟨rfl, k1, k2, k3⟩ | ⟨rfl, k1⟩)))
        · refine ⟨⟨m + 1, _, _, _, _, _, _, _, _, _, _, _, _, _, _, _, _, by omega, by go_num, rfl, by rw [ordTill_yes HCC.out, ← List.append_assoc]; exact Lib.hid k1, k2.trunc, k3⟩, ?_⟩
          simp [intOf]; omega
        · go_ret
          exact .inr ⟨rfl, k1⟩
    · obtain rfl : m = N := by omega
      gi_wp2
      go_ret
      exact .inl ⟨rfl, HJV.out, hHV, hTV⟩

end Go.Proofs.Ytmohmecdhabapac
