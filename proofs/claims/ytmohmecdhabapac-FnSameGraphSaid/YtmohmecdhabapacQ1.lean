/-
  The model's orders: spec.l1Orders.
-/
import Derived.Test.YtmohmecdhabapacG1
import Derived.Test.YtmohmecdhabapacH1
namespace Go.Proofs.Ytmohmecdhabapac
open Go.RowKit Go.Shelf Go.Deep

/-- The begun order p made longer by a node below k that it does not hold. -/
def oexts (_n : Nat) (p : List Int) (k : Nat) : List (List Int) := ((List.range k).filter fun x : Nat => !p.contains (x : Int)).map fun x : Nat => p ++ [(x : Int)]
theorem oexts_zero (n : Nat) (p : List Int) : oexts n p 0 = [] := rfl
theorem oexts_yes {n : Nat} {p : List Int} {k : Nat} (h : p.contains (k : Int) = false) : oexts n p (k + 1) = oexts n p k ++ [p ++ [(k : Int)]] := by
  unfold oexts; rw [List.range_succ, List.filter_append, List.map_append, show [k].filter (fun x : Nat => !p.contains (x : Int)) = [k] from by simp only [List.filter_cons, h]; rfl]; rfl
theorem oexts_no {n : Nat} {p : List Int} {k : Nat} (h : p.contains (k : Int) = true) : oexts n p (k + 1) = oexts n p k := by
  unfold oexts; rw [List.range_succ, List.filter_append, List.map_append, show [k].filter (fun x : Nat => !p.contains (x : Int)) = [] from by simp only [List.filter_cons, h]; rfl]; simp
/-- The orders begun with k of n nodes. -/
def olvl (n : Nat) : Nat → List (List Int)
  | 0 => [[]]
  | k + 1 => (olvl n k).flatMap fun p => oexts n p n
theorem oexts_length (n : Nat) (p : List Int) (k : Nat) : (oexts n p k).length ≤ k := by
  unfold oexts
  rw [List.length_map]
  exact Nat.le_trans (List.length_filter_le _ _) (by simp)
theorem oflat_le {f : List Int → List (List Int)} {m : Nat} : ∀ (l : List (List Int)), (∀ x ∈ l, (f x).length ≤ m) → (l.flatMap f).length ≤ l.length * m
  | [], _ => by simp
  | a :: l, h => by
    rw [List.flatMap_cons, List.length_append, List.length_cons, Nat.succ_mul]
    have h1 := h a (by simp)
    have h2 := oflat_le l fun b hb => h b (by simp [hb])
    omega
theorem olvl_le (n : Nat) : ∀ k, (olvl n k).length ≤ n ^ k
  | 0 => by simp [olvl]
  | k + 1 => by
    rw [olvl, Nat.pow_succ]
    exact Nat.le_trans (oflat_le _ fun p _ => oexts_length n p n) (Nat.mul_le_mul (olvl_le n k) (Nat.le_refl _))
theorem olvl_small {n k : Nat} (h : n ≤ 5) (hk : k ≤ n) : (olvl n k).length ≤ 7000 :=
  Nat.le_trans (olvl_le n k) (Nat.le_trans (Nat.pow_le_pow_left h k) (Nat.le_trans (Nat.pow_le_pow_right (by decide) (show k ≤ 5 by omega)) (by decide)))
theorem olvl_len {n : Nat} : ∀ {k : Nat} {p : List Int}, p ∈ olvl n k → p.length = k
  | 0, p, h => by rw [olvl, List.mem_singleton] at h; rw [h]; rfl
  | k + 1, p, h => by
    rw [olvl, List.mem_flatMap] at h
    obtain ⟨q, hq, hp⟩ := h
    unfold oexts at hp
    obtain ⟨x, _, rfl⟩ := List.mem_map.1 hp
    rw [List.length_append, List.length_singleton, olvl_len hq]
/-- The next ones, as far as row i. -/
def onxt (n : Nat) (L : List (List Int)) (i : Nat) : List (List Int) := (L.take i).flatMap fun p => oexts n p n
theorem onxt_succ {n : Nat} {L : List (List Int)} {i : Nat} {p : List Int} (h : L[i]? = some p) : onxt n L (i + 1) = onxt n L i ++ oexts n p n := by
  unfold onxt
  rw [List.take_add_one, List.flatMap_append, h]; simp
theorem onxt_all (n : Nat) (L : List (List Int)) : onxt n L L.length = L.flatMap fun p => oexts n p n := by unfold onxt; rw [List.take_of_length_le (Nat.le_refl _)]
theorem oexts_mono (n : Nat) (p : List Int) {x m : Nat} (h : x ≤ m) : (oexts n p x).length ≤ (oexts n p m).length := by
  induction h with
  | refl => exact Nat.le_refl _
  | step _ ih => exact Nat.le_trans ih (by
      unfold oexts
      rw [List.range_succ, List.filter_append, List.map_append, List.length_append]
      omega)
theorem onxt_prefix {n : Nat} {L : List (List Int)} {i : Nat} {p : List Int} (h : L[i]? = some p) {x : Nat} (hx : x ≤ n) : (onxt n L i ++ oexts n p x).length ≤ (L.flatMap fun p => oexts n p n).length := by
  have h1 : onxt n L (i + 1) <+: onxt n L L.length := by
    unfold onxt
    have hi := (List.getElem?_eq_some_iff.1 h).1
    have : L.take (i + 1) <+: L.take L.length := List.take_prefix_take_left (by omega)
    obtain ⟨t, ht⟩ := this
    rw [← ht, List.flatMap_append]
    exact List.prefix_append _ _
  have h2 := h1.length_le
  rw [onxt_succ h, onxt_all] at h2
  have h3 := oexts_mono n p hx
  rw [List.length_append] at h2 ⊢
  omega
theorem ints_news9 {n₀ : Nat} {W : World} {b o : Nat} {xs : List Int} (h : Ints n₀ W (some ⟨b, o, none⟩) xs) : ∀ j u, (xs.map (Value.int .i64))[j]? = some u → W.cell? ((⟨b, o, none⟩ : Addr).add j) = some u := fun j u hu => by
  rw [List.getElem?_map] at hu
  have hj : j < xs.length := by
    rcases Nat.lt_or_ge j xs.length with h | h
    · exact h
    · rw [List.getElem?_eq_none h] at hu; cases hu
  obtain ⟨b', o', x, e, hb, hc, HX⟩ := h.at_ hj
  cases e
  rw [HX.out] at hu
  cases hu
  rw [Addr.add_lit]
  exact hc
theorem contains_succ {q : List Int} {j : Nat} {y x : Int} (h : q[j]? = some y) : (q.take (j + 1)).contains x = ((q.take j).contains x || y == x) := by
  rw [List.take_add_one, h, Option.toList_some, List.contains_eq_mem, List.contains_eq_mem]
  by_cases e : y = x
  · subst e; simp
  · have e2 : (y == x) = false := by simpa using e
    have e3 : x ≠ y := fun h => e h.symm
    rw [e2, Bool.or_false]
    simp [e3]
/-- Rows of one's own, no cell of which lies below. -/
def MadeQ (xss : List (List Int)) (w : World) (e : Ending) (w' : World) : Prop := ∃ (a : Option Addr) (c : Nat), (e = .returned (.slice a xss.length c) ∧ Below w.heap.size w w') ∧ OwnMat w.heap.size w' (.slice a xss.length c) xss

set_option maxRecDepth 100000 in
set_option maxHeartbeats 8000000 in
theorem specOrders (n : Nat) (hn1 : 1 ≤ n) (hn5 : n ≤ 5) (w : World) :
    Calls Try.prog 45 #[.int .i64 n] w (MadeQ (olvl n n) w) := by
  obtain ⟨i0, hi, hz0, hz1, hz2⟩ := info_parts infoInts
  obtain ⟨i1, hj, hy0, hy1, hy2⟩ := info_parts infoInt
  have es : ∀ (W : World) (o : Obj), (W.alloc o).heap.size = W.heap.size + 1 := fun W o => by simp
  go_enter Try.func45, Try.ntmps45
  go_wp2_with fail
  go_loopw [3, 4] (fun v i wr => ∃ (k g cap : Nat), k ≤ n ∧ i = .int .i64 k ∧ v = .slice (some ⟨g, 0, none⟩) (olvl n k).length cap ∧ Hid (OwnMat w.heap.size wr (.slice (some ⟨g, 0, none⟩) (olvl n k).length cap) (olvl n k)) ∧ Below w.heap.size w wr ∧ Hid (k = 0 → wr.cell? ⟨g, 0, none⟩ = some (.slice (some ⟨w.heap.size, 0, none⟩) 0 0)))
    (fun _ i _ => n - (intOf i).toNat)
  case atStart =>
    refine ⟨0, w.heap.size + 1, 1, Nat.zero_le _, rfl, rfl, ?_, ((Below.refl _ w).alloc (Nat.le_refl _) _).alloc (by simp) _, Lib.hid fun _ => by have h := cell_one_new (w.alloc (.cells #[] 3)) (.slice (some ⟨w.heap.size, 0, none⟩) 0 0) 24 0 _ rfl; rw [es] at h; exact h⟩
    have h1 : (w.alloc (.cells #[] 3)).ownsRow w.heap.size 3 1 (.slice (some ⟨w.heap.size, 0, none⟩) 0 0) 0 [] := World.ownsRow_lit (size := 1) w #[] 0 (Nat.le_refl _) (Nat.zero_le _) rfl
    have h2 := World.ownsRow_lit (size := 1) (base := w.heap.size) (e := 24) (w.alloc (.cells #[] 3)) #[.slice (some ⟨w.heap.size, 0, none⟩) 0 0] 1 (by simp) (by unfold maxLen; omega) rfl
    rw [es] at h2
    refine Lib.hid ⟨[.slice (some ⟨w.heap.size, 0, none⟩) 0 0], h2, fun i x xs hx hxs => ?_⟩
    have e : i = 0 := by have := (List.getElem?_eq_some_iff.1 hx).1; simp at this; omega
    subst e
    simp [olvl] at hx hxs
    subst hx; subst hxs
    exact h1.alloc _
  case round =>
    obtain ⟨k, g, cap, hk, rfl, rfl, HO, hB, HK0⟩ := hrel
    by_cases hlt : k < n
    · have hws := hB.size
      have HLk := Lib.hid (olvl_small hn5 hk)
      have HLk1 : Hid ((olvl n (k + 1)).length ≤ 7000) := Lib.hid (olvl_small hn5 (by omega))
      obtain ⟨L, HL⟩ : ∃ L, Hid (olvl n k = L) := ⟨_, rfl⟩
      have HLn : Hid (olvl n (k + 1) = L.flatMap fun p => oexts n p n) := Lib.hid (by rw [← HL.out]; rfl)
      have HLl : Hid (∀ (i : Nat) (p : List Int), L[i]? = some p → p.length = k) := Lib.hid fun i p hp => by rw [← HL.out] at hp; exact olvl_len (List.mem_of_getElem? hp)
      rw [HL.out] at HO HLk
      rw [HLn.out] at HLk1
      simp only [HL.out]
      have hL7 := HLk.out
      clear HLk
      obtain ⟨wo, rfl⟩ : ∃ wo : World, wo = wr := ⟨_, rfl⟩
      go_wp2_with fail
      have hsz1 : wo.heap.size ≤ (wo.alloc (.cells #[] 24)).heap.size := by simp
      go_loopw [5, 6] (fun v i wr => ∃ (m g' cap' : Nat), m ≤ L.length ∧ i = .int .i64 m ∧ v = .slice (some ⟨g', 0, none⟩) (onxt n L m).length cap' ∧ Hid (OwnMat wo.heap.size wr (.slice (some ⟨g', 0, none⟩) (onxt n L m).length cap') (onxt n L m)) ∧ Below wo.heap.size wo wr)
        (fun _ i _ => L.length - (intOf i).toNat)
      case atStart => exact ⟨0, _, _, Nat.zero_le _, rfl, rfl, OwnMat.start wo (Nat.le_refl _), (Below.refl _ _).alloc (Nat.le_refl _) _⟩
      case round =>
        obtain ⟨m, g', cap', hm, rfl, rfl, HN, hBi⟩ := hrel
        by_cases hlm : m < L.length
        · obtain ⟨q, HQ⟩ : ∃ q, Hid (L[m]? = some q) := ⟨_, List.getElem?_eq_getElem hlm⟩
          have HQL := Lib.hid (HLl.out m q HQ.out)
          have hsi := hBi.size
          go_wp2_with fail
          go_loopw [5, 7] (fun v i wr => ∃ (x g' cap' : Nat), x ≤ n ∧ i = .int .i64 x ∧ v = .slice (some ⟨g', 0, none⟩) (onxt n L m ++ oexts n q x).length cap' ∧ Hid (OwnMat wo.heap.size wr (.slice (some ⟨g', 0, none⟩) (onxt n L m ++ oexts n q x).length cap') (onxt n L m ++ oexts n q x)) ∧ Below wo.heap.size wo wr)
            (fun _ i _ => n - (intOf i).toNat)
          case atStart => exact ⟨0, g', cap', Nat.zero_le _, rfl, by rw [oexts_zero, List.append_nil], by rw [oexts_zero, List.append_nil]; exact HN, hBi⟩
          case round =>
            clear HN hBi hsi
            obtain ⟨x, g1, cap1, hx, rfl, rfl, HNx, hBx⟩ := hrel
            by_cases hlx : x < n
            · have hsx := hBx.size
              have hOut := (HO.out.mat).below hBx
              obtain ⟨b5, o5, a5, c5, q', e5, hb5, hc5, hQ5, HQ5⟩ := hOut.at_ hlm
              obtain rfl : q = q' := Option.some.inj (HQ.out.symm.trans HQ5.out)
              cases e5
              have hc5' := hc5
              rw [Nat.zero_add] at hc5'
              have hm0 : (0 : Int) ≤ (m : Int) := Int.natCast_nonneg _
              have hm1 : (m : Int) < (L.length : Int) := by omega
              have hqk : q.length = k := HQL.out
              have HQK := Lib.hid hqk
              have hq5 : q.length ≤ 5 := by omega
              clear hqk
              go_wp2_with fail
              go_loopw [8, 9] (fun v i wt => ∃ (j : Nat) (b : Bool), j ≤ q.length ∧ i = .int .i64 j ∧ v = .bool b ∧ wt = wr ∧ Hid (b = (q.take j).contains (x : Int))) (fun _ i _ => q.length - (intOf i).toNat)
              case atStart => exact ⟨0, false, Nat.zero_le _, rfl, rfl, rfl, Lib.hid (by simp)⟩
              case round =>
                obtain ⟨j, b, hjq, rfl, rfl, rfl, HBj⟩ := hrel
                by_cases hlj : j < q.length
                · obtain ⟨b6, o6, y6, e6, hb6, hc6, HY6⟩ := hQ5.at_ hlj
                  cases e6
                  have HC6 := Lib.hid (contains_succ (x := (x : Int)) HY6.out)
                  cases b with
                  | true =>
                    go_wp2_with fail
                    go_roundw
                    case rel => exact ⟨j + 1, true, by omega, by go_num, rfl, trivial, Lib.hid (by rw [HC6.out, ← HBj.out]; rfl)⟩
                    case measure => simp [intOf]; omega
                  | false =>
                    go_wp2_with fail
                    go_roundw
                    case rel => exact ⟨j + 1, (y6 == (x : Int)), by omega, by go_num, rfl, trivial, Lib.hid (by rw [HC6.out, ← HBj.out]; simp)⟩
                    case measure => simp [intOf]; omega
                · obtain rfl : j = q.length := by omega
                  have HTN' : Hid (q.contains (x : Int) = b) := Lib.hid (by rw [HBj.out, List.take_of_length_le (Nat.le_refl _)])
                  cases b with
                  | true =>
                    go_wp2_with fail
                    go_roundw
                    case rel => exact ⟨x + 1, g1, cap1, by omega, by go_num, by rw [oexts_no HTN'.out], by rw [oexts_no HTN'.out]; exact HNx, hBx⟩
                    case measure => simp [intOf]; omega
                  | false =>
                    have HTN := HTN'
                    have ha5 : ∃ b6 o6, a5 = some ⟨b6, o6, none⟩ := by
                      by_cases hj0 : k = 0
                      · have h1 := HK0.out hj0
                        subst hj0
                        have hL0 : L.length = 1 := by rw [← HL.out]; rfl
                        have hm0 : m = 0 := by omega
                        subst hm0
                        have h2 := (hBx.cell (p := ⟨g, 0, none⟩) hb5).trans h1
                        rw [hc5] at h2
                        simp only [Option.some.injEq, Value.slice.injEq] at h2
                        exact ⟨_, _, h2.1⟩
                      · obtain ⟨b6, o6, _, e6, _⟩ := hQ5.at_ (k := 0) (by rw [HQK.out]; omega)
                        exact ⟨b6, o6, e6⟩
                    obtain ⟨b6, o6, rfl⟩ := ha5
                    have HQ6 : Hid (Ints wo.heap.size wr (some ⟨b6, o6, none⟩) q) := hQ5
                    have HNU : Hid (OwnMat wo.heap.size wr (.slice (some ⟨g1, 0, none⟩) (onxt n L m ++ oexts n q x).length cap1) (onxt n L m ++ oexts n q x)) := HNx
                    have hBU := hBx
                    have hcU : wr.cell? ⟨g, 0 + m, none⟩ = some (.slice (some ⟨b6, o6, none⟩) q.length c5) := hc5
                    clear HNx hBx hQ5 hc5 hc5' hOut hsx
                    obtain ⟨U, hU⟩ : ∃ U, wr = U := ⟨_, rfl⟩
                    rw [hU] at HQ6 HNU hBU hcU ⊢
                    clear hU
                    have hsU := hBU.size
                    have hlg1 : wo.heap.size ≤ g1 ∧ g1 < U.heap.size := by
                      obtain ⟨vs, ho, _⟩ := HNU.out
                      exact ho.lt g1 rfl
                    have hq9 : q.length ≤ 9 := by omega
                    have hca : (U.alloc (.cells #[] 3)).cell? ⟨g, 0 + m, none⟩ = some (.slice (some ⟨b6, o6, none⟩) q.length c5) := (World.cell?_alloc_lt U _ ⟨g, 0 + m, none⟩ (by show g < _; omega)).trans hcU
                    have hown0 : (U.alloc (.cells #[] 3)).ownsRow U.heap.size 3 1 (.slice (some ⟨U.heap.size, 0, none⟩) 0 0) 0 [] := World.ownsRow_lit (size := 1) U #[] 0 (Nat.le_refl _) (Nat.zero_le _) rfl
                    have hQa := HQ6.out.below ((Below.refl wo.heap.size U).alloc hsU (.cells #[] 3))
                    have hone : ∀ u ∈ q.map (Value.int .i64), u.oneCell' = true := fun u hu => by obtain ⟨x, _, rfl⟩ := List.mem_map.1 hu; rfl
                    have HP7 : Hid ((onxt n L m ++ oexts n q x).length ≤ 7000) := Lib.hid (Nat.le_trans (onxt_prefix HQ.out hx) HLk1.out)
                    obtain ⟨nl, HNL⟩ : ∃ nl, Hid ((onxt n L m ++ oexts n q x).length = nl) := ⟨_, rfl⟩
                    have hnl := HP7.out
                    rw [HNL.out] at hnl HNU ⊢
                    rw [Nat.zero_add] at hca hcU
                    clear HK0
                    go_wp2_with (first
                      | (at_builtin; refine wpList_append_own _ rfl _ _ 24 rfl U.heap.size 3 i1 (.int .i64 0) 1 8 Try.underlying24 hj hy0 hy1 hy2 rfl (by decide) (.slice (some ⟨U.heap.size, 0, none⟩) 0 0) 0 [] rfl hown0 ⟨b6, o6, none⟩ q.length c5 (q.map (Value.int .i64)) rfl (by simp) (ints_news9 hQa) hone (by unfold maxLen; omega) (by omega) (by simp) ?_; intro v4 w4 hown4 hgrow4 _; rw [Nat.zero_add, List.nil_append] at hown4; have hB4 : Below U.heap.size U w4 := ((Below.refl _ U).alloc (Nat.le_refl _) _).grown hgrow4 (by simp) (fun r e => by have e' : some U.heap.size = some r := e; cases e'; exact Nat.le_refl _); have hs4 := hB4.size; clear hgrow4 hown0 hca hQa)
                      | (at_builtin; refine wpList_append_lies _ rfl _ _ 24 rfl U.heap.size 3 i1 (.int .i64 0) 1 8 Try.underlying24 hj hy0 hy1 hy2 rfl (by decide) v4 q.length (q.map (Value.int .i64)) rfl (hown4.alloc _) ⟨w4.heap.size, 0, none⟩ 1 1 [.int .i64 (x : Int)] rfl rfl (cell_one_new _ _ _) (by simp [Value.oneCell']) (by omega) (by unfold maxLen; omega) (by omega) (by simp; omega) (w4.heap.size + 1) (by simp) ?_; intro g5 cap5 w5 hown5 hgrow5 _ _; have hB5 : Below U.heap.size U w5 := (hB4.alloc hs4 _).grown hgrow5 (by simp; omega) (fun r e => (hown4.lt r e).1); have hs5 := hB5.size; have HRow : Hid (w5.ownsRow wo.heap.size 3 1 (.slice (some ⟨g5, 0, none⟩) (q.length + 1) cap5) (q ++ [(x : Int)]).length ((q ++ [(x : Int)]).map (Value.int .i64))) := Lib.hid (by rw [List.length_append, List.length_singleton, List.map_append]; exact Joins.ownsRow_le hown5 hsU); obtain ⟨vs, hown, hrows⟩ := HNU.out.below hB5; rw [HNL.out] at hown; have HW := Lib.hid hrows; have hBr : Below wo.heap.size wo w5 := hBU.trans (hB5.mono hsU); clear hrows hgrow5 hown5 hown4 hB4)
                      | (at_builtin; refine wpList_append_own _ rfl _ _ 23 rfl wo.heap.size 24 i0 (.slice none 0 0) 1 24 Try.underlying23 hi hz0 hz1 hz2 rfl (by decide) _ _ _ rfl (hown.alloc _) ⟨w5.heap.size, 0, none⟩ 1 1 [.slice (some ⟨g5, 0, none⟩) (q.length + 1) cap5] rfl rfl (cell_one_new _ _ _) (by simp [Value.oneCell']) (by unfold maxLen; omega) (by omega) (by simp; omega) ?_; intro v' w6 hown' hgrow _; obtain ⟨g6, cap6, rfl⟩ := ownsRow_succ hown'; have HO6 := Lib.hid (OwnMat.appended (by rw [HNL.out]; exact hown) HW.out HRow.out (by rw [HNL.out]; exact hown') hgrow); have hB6 : Below wo.heap.size wo w6 := (hBr.alloc (by omega) _).grown hgrow (by simp; omega) (fun r e => by have e' : some g1 = some r := e; cases e'; exact hlg1.1); clear hown' hgrow hown))
                    go_roundw
                    case rel => exact ⟨x + 1, g6, cap6, by omega, by go_num, by rw [oexts_yes HTN.out, ← List.append_assoc, List.length_append, HNL.out]; rfl, Lib.hid (by rw [oexts_yes HTN.out, ← List.append_assoc, List.length_append, HNL.out]; exact HO6.out), hB6⟩
                    case measure => simp [intOf]; omega
            · obtain rfl : x = n := by omega
              go_wp2_with fail
              go_roundw
              case rel => exact ⟨m + 1, g1, cap1, by omega, by go_num, by rw [onxt_succ HQ.out], by rw [onxt_succ HQ.out]; exact HNx, hBx⟩
              case measure => simp [intOf]; omega
        · obtain rfl : m = L.length := by omega
          have HN2 : Hid (OwnMat w.heap.size wr (.slice (some ⟨g', 0, none⟩) (olvl n (k + 1)).length cap') (olvl n (k + 1))) := Lib.hid (by
            rw [HLn.out, ← onxt_all]
            obtain ⟨vs, h1, h2⟩ := HN.out
            exact ⟨vs, Joins.ownsRow_le h1 hws, fun i x xs hx hxs => Joins.ownsRow_le (h2 i x xs hx hxs) hws⟩)
          have hBn := hB.trans (hBi.mono hws)
          have HNe : Hid ((onxt n L L.length).length = (olvl n (k + 1)).length) := Lib.hid (by rw [HLn.out, onxt_all])
          rw [HNe.out]
          clear HN hBi
          go_wp2_with fail
          go_roundw
          case rel => exact ⟨k + 1, g', cap', by omega, by go_num, rfl, HN2, hBn, Lib.hid fun h => absurd h (by omega)⟩
          case measure => simp [intOf]; omega
    · obtain rfl : k = n := by omega
      go_wp2_with fail
      go_ret
      exact ⟨some ⟨g, 0, none⟩, cap, ⟨rfl, hB⟩, HO.out⟩

end Go.Proofs.Ytmohmecdhabapac
