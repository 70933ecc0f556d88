/-
  spec.AllKinds, walked.
-/
import Derived.Test.YtdolpkjighbohaaWH
import Derived.Test.YtdolpkjighbohaaM8a
import Derived.Test.YtdolpkjighbohaaM9
import Derived.Laws.Small
namespace Go.Proofs.Ytdolpkjighbohaa
open Go.RowKit Go.Shelf Go.Deep

def kext (p : List Int) (x : Nat) : List (List Int) := (List.range x).map fun y : Nat => p ++ [(y : Int)]
theorem kext_zero (p : List Int) : kext p 0 = [] := rfl
theorem kext_next (p : List Int) (x : Nat) : kext p (x + 1) = kext p x ++ [p ++ [(x : Int)]] := by simp [kext, List.range_succ]
def knxt (L : List (List Int)) (i : Nat) : List (List Int) := (L.take i).flatMap fun p => kext p (topK p + 1)
theorem knxt_succ {L : List (List Int)} {i : Nat} {p : List Int} (h : L[i]? = some p) : knxt L (i + 1) = knxt L i ++ kext p (topK p + 1) := by
  unfold knxt; rw [take_next h, List.flatMap_append]; simp
theorem knxt_all (L : List (List Int)) : knxt L L.length = L.flatMap fun p => kext p (topK p + 1) := by unfold knxt; rw [List.take_length]
theorem kLvl_next (k : Nat) : kLvl (k + 1) = (kLvl k).flatMap fun p => kext p (topK p + 1) := rfl
theorem kLvl_le {k : Nat} (h : k ≤ 5) : (kLvl k).length ≤ 52 := by
  obtain ⟨h1, h2, h3, h4, h5⟩ := bell
  have : k = 0 ∨ k = 1 ∨ k = 2 ∨ k = 3 ∨ k = 4 ∨ k = 5 := by omega
  rcases this with rfl | rfl | rfl | rfl | rfl | rfl
  · decide
  all_goals omega
theorem knxt_le {L : List (List Int)} {i : Nat} {p : List Int} (h : L[i]? = some p) {x : Nat} (hx : x ≤ topK p + 1) : (knxt L i ++ kext p x).length ≤ (L.flatMap fun p => kext p (topK p + 1)).length := by
  have e : L = L.take (i + 1) ++ L.drop (i + 1) := (List.take_append_drop _ _).symm
  have h2 : (knxt L (i + 1)).length ≤ (L.flatMap fun p => kext p (topK p + 1)).length := by
    conv => rhs; rw [e, List.flatMap_append]
    rw [List.length_append]; exact Nat.le_add_right _ _
  rw [knxt_succ h] at h2
  rw [List.length_append] at h2 ⊢
  have : (kext p x).length = x := by simp [kext]
  have : (kext p (topK p + 1)).length = topK p + 1 := by simp [kext]
  omega

set_option maxRecDepth 100000 in
set_option maxHeartbeats 8000000 in
theorem specAllKO (a : Option Addr) (c : Nat) (G : List (List Int)) (n₀ : Nat) (w : World) (hM : Mat n₀ w a G) (hF : Fit G) :
    Calls Try.prog 25 #[.slice a G.length c] w (MadeO (allKL G) w) := by
  obtain ⟨i0, hi, hz0, hz1, hz2⟩ := info_parts infoInts
  obtain ⟨i1, hj, hy0, hy1, hy2⟩ := info_parts infoInt
  have HF := Lib.hid hF
  have hlG := hF.1
  clear hF
  by_cases hg : gOk G = true
  · by_cases h5 : G.length ≤ 5
    · have HZ : Hid (allKL G = kLvl G.length) := Lib.hid (allK_yes (g5_iff.2 ⟨hg, h5⟩))
      rw [HZ.out]
      have es : ∀ (W : World) (o : Obj), (W.alloc o).heap.size = W.heap.size + 1 := fun W o => by simp
      go_enter Try.func25, Try.ntmps25
      go_wp2_with fail
      refine (specOk_any _ _ _ n₀ _ hM HF.out).mono ?_
      rintro e w' ⟨rfl, rfl⟩
      rw [hg]
      clear hg
      go_wp2_with fail
      go_loopw [3, 4] (fun v i wr => ∃ (k g cap : Nat), k ≤ G.length ∧ i = .int .i64 k ∧ v = .slice (some ⟨g, 0, none⟩) (kLvl k).length cap ∧ Hid (OwnMat w.heap.size wr (.slice (some ⟨g, 0, none⟩) (kLvl k).length cap) (kLvl k)) ∧ Below w.heap.size w wr ∧ Hid (k = 0 → wr.cell? ⟨g, 0, none⟩ = some (.slice (some ⟨w.heap.size, 0, none⟩) 0 0)))
        (fun _ i _ => G.length - (intOf i).toNat)
      case atStart =>
        refine ⟨0, w.heap.size + 1, 1, Nat.zero_le _, rfl, rfl, ?_, ((Below.refl _ w).alloc (Nat.le_refl _) _).alloc (by simp) _, Lib.hid fun _ => by have h := cell_one_new (w.alloc (.cells #[] 3)) (.slice (some ⟨w.heap.size, 0, none⟩) 0 0) 24 0 _ rfl; rw [es] at h; exact h⟩
        have h1 : (w.alloc (.cells #[] 3)).ownsRow w.heap.size 3 1 (.slice (some ⟨w.heap.size, 0, none⟩) 0 0) 0 [] := World.ownsRow_lit (size := 1) w #[] 0 (Nat.le_refl _) (Nat.zero_le _) rfl
        have h2 := World.ownsRow_lit (size := 1) (base := w.heap.size) (e := 24) (w.alloc (.cells #[] 3)) #[.slice (some ⟨w.heap.size, 0, none⟩) 0 0] 1 (by simp) (by unfold maxLen; omega) rfl
        rw [es] at h2
        refine Lib.hid ⟨[.slice (some ⟨w.heap.size, 0, none⟩) 0 0], h2, fun i x xs hx hxs => ?_⟩
        have e : i = 0 := by have := (List.getElem?_eq_some_iff.1 hx).1; simp at this; omega
        subst e
        simp [kLvl] at hx hxs
        subst hx; subst hxs
        exact h1.alloc _
      case round =>
        obtain ⟨k, g, cap, hk, rfl, rfl, HO, hB, HK0⟩ := hrel
        by_cases hlt : k < G.length
        · have hws := hB.size
          have hL7 : (kLvl k).length ≤ 52 := kLvl_le (by omega)
          have HLk1 : Hid ((kLvl (k + 1)).length ≤ 52) := Lib.hid (kLvl_le (by omega))
          obtain ⟨L, HL⟩ : ∃ L, Hid (kLvl k = L) := ⟨_, rfl⟩
          have HLn : Hid (kLvl (k + 1) = L.flatMap fun p => kext p (topK p + 1)) := Lib.hid (by rw [kLvl_next, HL.out])
          have HLl : Hid (∀ (i : Nat) (p : List Int), L[i]? = some p → p.length = k ∧ kindOk p = true) := Lib.hid fun i p hp => by rw [← HL.out] at hp; exact kLvl_mem.1 (List.mem_of_getElem? hp)
          rw [HL.out] at HO hL7
          rw [HLn.out] at HLk1
          simp only [HL.out]
          obtain ⟨wo, rfl⟩ : ∃ wo : World, wo = wr := ⟨_, rfl⟩
          go_wp2_with fail
          have hsz1 : wo.heap.size ≤ (wo.alloc (.cells #[] 24)).heap.size := by simp
          go_loopw [5, 6] (fun v i wr => ∃ (m g' cap' : Nat), m ≤ L.length ∧ i = .int .i64 m ∧ v = .slice (some ⟨g', 0, none⟩) (knxt L m).length cap' ∧ Hid (OwnMat wo.heap.size wr (.slice (some ⟨g', 0, none⟩) (knxt L m).length cap') (knxt L m)) ∧ Below wo.heap.size wo wr)
            (fun _ i _ => L.length - (intOf i).toNat)
          case atStart => exact ⟨0, _, _, Nat.zero_le _, rfl, rfl, OwnMat.start wo (Nat.le_refl _), (Below.refl _ _).alloc (Nat.le_refl _) _⟩
          case round =>
            obtain ⟨m, g', cap', hm, rfl, rfl, HN, hBi⟩ := hrel
            by_cases hlm : m < L.length
            · obtain ⟨q, HQ⟩ : ∃ q, Hid (L[m]? = some q) := ⟨_, List.getElem?_eq_getElem hlm⟩
              obtain ⟨hql, hqt⟩ := HLl.out m q HQ.out
              have HQT := Lib.hid (kind_tells hqt)
              have HTOP := Lib.hid (kind_top hqt)
              have HQK := Lib.hid hql
              have hsi := hBi.size
              have hq5 : q.length ≤ 5 := by rw [hql]; omega
              clear hqt hql
              have hOut := (HO.out.mat).below hBi
              obtain ⟨b5, o5, a5, c5, q', e5, hb5, hc5, hQ5, HQ5⟩ := hOut.at_ hlm
              obtain rfl : q = q' := Option.some.inj (HQ.out.symm.trans HQ5.out)
              cases e5
              have hcz : wr.cell? ⟨g, m, none⟩ = some (.slice a5 q.length c5) := by rw [Nat.zero_add] at hc5; exact hc5
              go_wp2_with fail
              go_loopw [7, 8] (fun v i wt => ∃ (j t : Nat), j ≤ q.length ∧ t ≤ 6 ∧ i = .int .i64 j ∧ v = .int .i64 t ∧ wt = wr ∧ Hid (topK (q.take j) = t)) (fun _ i _ => q.length - (intOf i).toNat)
              case atStart => exact ⟨0, 0, Nat.zero_le _, Nat.zero_le _, rfl, rfl, rfl, Lib.hid rfl⟩
              case round =>
                obtain ⟨j, t, hj2, ht, rfl, rfl, rfl, HT⟩ := hrel
                by_cases hlj : j < q.length
                · obtain ⟨b6, o6, y6, e6, hb6, hc6, HY6⟩ := hQ5.at_ hlj
                  cases e6
                  obtain ⟨p, hp, _, hpt⟩ := tells_at HQT.out hlj
                  have ey : y6 = (p : Int) := by have := HY6.out; rw [hp] at this; cases this; rfl
                  subst ey
                  have HT2 := Lib.hid (topK_next HY6.out (Int.natCast_nonneg p))
                  rw [HT.out] at HT2
                  have hp5 : p ≤ 5 := by have := HTOP.out; omega
                  clear hp hpt
                  go_wp2_with fail
                  go_roundw
                  case rel =>
                    have hT2 := HT2.out
                    by_cases hgt : (p : Int) + 1 > (t : Int)
                    · exact ⟨j + 1, p + 1, by omega, by omega, by go_num, by rw [if_pos hgt]; congr 1, by first | trivial | rfl, Lib.hid (by omega)⟩
                    · exact ⟨j + 1, t, by omega, ht, by go_num, by rw [if_neg hgt], by first | trivial | rfl, Lib.hid (by omega)⟩
                  case measure => simp [intOf]; omega
                · obtain rfl : j = q.length := by omega
                  have HT3 : Hid (topK q = t) := Lib.hid (by have := HT.out; rwa [List.take_length] at this)
                  have HNs := HN
                  go_wp2_with fail
                  clear hOut hQ5 hc5 hcz hb5 HN hsi
                  go_loopw [5, 9] (fun v i wr => ∃ (x g1 cap1 : Nat), x ≤ t + 1 ∧ i = .int .i64 x ∧ v = .slice (some ⟨g1, 0, none⟩) (knxt L m ++ kext q x).length cap1 ∧ Hid (OwnMat wo.heap.size wr (.slice (some ⟨g1, 0, none⟩) (knxt L m ++ kext q x).length cap1) (knxt L m ++ kext q x)) ∧ Below wo.heap.size wo wr)
                    (fun _ i _ => t + 1 - (intOf i).toNat)
                  case atStart => exact ⟨0, g', cap', Nat.zero_le _, rfl, by rw [kext_zero, List.append_nil], by rw [kext_zero, List.append_nil]; exact HNs, hBi⟩
                  case round =>
                    clear HNs hBi
                    obtain ⟨x, g1, cap1, hx, rfl, rfl, HNx, hBx⟩ := hrel
                    by_cases hlx : x ≤ t
                    · have hsx := hBx.size
                      have hOut := (HO.out.mat).below hBx
                      obtain ⟨b5, o5, a5, c5, q', e5, hb5, hc5, hQ5, HQ6'⟩ := hOut.at_ hlm
                      obtain rfl : q = q' := Option.some.inj (HQ.out.symm.trans HQ6'.out)
                      cases e5
                      have ha5 : ∃ b6 o6, a5 = some ⟨b6, o6, none⟩ := by
                        by_cases hj0 : k = 0
                        · have h1 := HK0.out hj0
                          subst hj0
                          have hL0 : L.length = 1 := by rw [← HL.out]; rfl
                          have hm0 : m = 0 := by omega
                          subst hm0
                          have h2 := (hBx.cell (p := ⟨g, 0, none⟩) hb5).trans h1
                          rw [hc5] at h2
                          simp only [Option.some.injEq, Value.slice.injEq] at h2
                          exact ⟨_, _, h2.1⟩
                        · obtain ⟨b6, o6, _, e6, _⟩ := hQ5.at_ (k := 0) (by rw [HQK.out]; omega)
                          exact ⟨b6, o6, e6⟩
                      obtain ⟨b6, o6, rfl⟩ := ha5
                      have HQ6 : Hid (Ints wo.heap.size wr (some ⟨b6, o6, none⟩) q) := hQ5
                      have HNU : Hid (OwnMat wo.heap.size wr (.slice (some ⟨g1, 0, none⟩) (knxt L m ++ kext q x).length cap1) (knxt L m ++ kext q x)) := HNx
                      have hBU := hBx
                      have hcU : wr.cell? ⟨g, 0 + m, none⟩ = some (.slice (some ⟨b6, o6, none⟩) q.length c5) := hc5
                      clear HNx hBx hQ5 hc5 hOut hsx
                      have hsU := hBU.size
                      have hlg1 : wo.heap.size ≤ g1 ∧ g1 < wr.heap.size := by
                        obtain ⟨vs, ho, _⟩ := HNU.out
                        exact ho.lt g1 rfl
                      have hq9 : q.length ≤ 9 := by rw [HQK.out]; omega
                      have hca : (wr.alloc (.cells #[] 3)).cell? ⟨g, 0 + m, none⟩ = some (.slice (some ⟨b6, o6, none⟩) q.length c5) := (World.cell?_alloc_lt wr _ ⟨g, 0 + m, none⟩ (by show g < _; omega)).trans hcU
                      have hown0 : (wr.alloc (.cells #[] 3)).ownsRow wr.heap.size 3 1 (.slice (some ⟨wr.heap.size, 0, none⟩) 0 0) 0 [] := World.ownsRow_lit (size := 1) wr #[] 0 (Nat.le_refl _) (Nat.zero_le _) rfl
                      have hQa := HQ6.out.below ((Below.refl wo.heap.size wr).alloc hsU (.cells #[] 3))
                      have hone : ∀ u ∈ q.map (Value.int .i64), u.oneCell' = true := fun u hu => by obtain ⟨x, _, rfl⟩ := List.mem_map.1 hu; rfl
                      have HP7 : Hid ((knxt L m ++ kext q x).length ≤ 52) := Lib.hid (Nat.le_trans (knxt_le HQ.out (show x ≤ topK q + 1 by rw [HT3.out]; exact hx)) HLk1.out)
                      obtain ⟨nl, HNL⟩ : ∃ nl, Hid ((knxt L m ++ kext q x).length = nl) := ⟨_, rfl⟩
                      have hnl := HP7.out
                      rw [HNL.out] at hnl HNU ⊢
                      rw [Nat.zero_add] at hca hcU
                      clear HK0
                      go_wp2_with (first
                        | (at_builtin; refine wpList_append_own _ rfl _ _ 24 rfl wr.heap.size 3 i1 (.int .i64 0) 1 8 Try.underlying24 hj hy0 hy1 hy2 rfl (by decide) (.slice (some ⟨wr.heap.size, 0, none⟩) 0 0) 0 [] rfl hown0 ⟨b6, o6, none⟩ q.length c5 (q.map (Value.int .i64)) rfl (by simp) (ints_news8 hQa) hone (by unfold maxLen; omega) (by omega) (by simp) ?_; intro v4 w4 hown4 hgrow4 _; rw [Nat.zero_add, List.nil_append] at hown4; have hB4 : Below wr.heap.size wr w4 := ((Below.refl _ wr).alloc (Nat.le_refl _) _).grown hgrow4 (by simp) (fun r e => by have e' : some wr.heap.size = some r := e; cases e'; exact Nat.le_refl _); have hs4 := hB4.size; clear hgrow4 hown0 hca hQa)
                        | (at_builtin; refine wpList_append_lies _ rfl _ _ 24 rfl wr.heap.size 3 i1 (.int .i64 0) 1 8 Try.underlying24 hj hy0 hy1 hy2 rfl (by decide) v4 q.length (q.map (Value.int .i64)) rfl (hown4.alloc _) ⟨w4.heap.size, 0, none⟩ 1 1 [.int .i64 (x : Int)] rfl rfl (cell_one_new _ _ _) (by simp [Value.oneCell']) (by omega) (by unfold maxLen; omega) (by omega) (by simp; omega) (w4.heap.size + 1) (by simp) ?_; intro g5 cap5 w5 hown5 hgrow5 _ _; have hB5 : Below wr.heap.size wr w5 := (hB4.alloc hs4 _).grown hgrow5 (by simp; omega) (fun r e => (hown4.lt r e).1); have hs5 := hB5.size; have HRow : Hid (w5.ownsRow wo.heap.size 3 1 (.slice (some ⟨g5, 0, none⟩) (q.length + 1) cap5) (q ++ [(x : Int)]).length ((q ++ [(x : Int)]).map (Value.int .i64))) := Lib.hid (by rw [List.length_append, List.length_singleton, List.map_append]; exact Joins.ownsRow_le hown5 hsU); obtain ⟨vs, hown, hrows⟩ := HNU.out.below hB5; rw [HNL.out] at hown; have HW := Lib.hid hrows; have hBr : Below wo.heap.size wo w5 := hBU.trans (hB5.mono hsU); clear hrows hgrow5 hown5 hown4 hB4)
                        | (at_builtin; refine wpList_append_own _ rfl _ _ 23 rfl wo.heap.size 24 i0 (.slice none 0 0) 1 24 Try.underlying23 hi hz0 hz1 hz2 rfl (by decide) _ _ _ rfl (hown.alloc _) ⟨w5.heap.size, 0, none⟩ 1 1 [.slice (some ⟨g5, 0, none⟩) (q.length + 1) cap5] rfl rfl (cell_one_new _ _ _) (by simp [Value.oneCell']) (by unfold maxLen; omega) (by omega) (by simp; omega) ?_; intro v' w6 hown' hgrow _; obtain ⟨g6, cap6, rfl⟩ := ownsRow_succ hown'; have HO6 := Lib.hid (OwnMat.appended (by rw [HNL.out]; exact hown) HW.out HRow.out (by rw [HNL.out]; exact hown') hgrow); have hB6 : Below wo.heap.size wo w6 := (hBr.alloc (by omega) _).grown hgrow (by simp; omega) (fun r e => by have e' : some g1 = some r := e; cases e'; exact hlg1.1); clear hown' hgrow hown))
                      go_roundw
                      case rel => exact ⟨x + 1, g6, cap6, by omega, by go_num, by rw [kext_next, ← List.append_assoc, List.length_append, HNL.out]; rfl, Lib.hid (by rw [kext_next, ← List.append_assoc, List.length_append, HNL.out]; exact HO6.out), hB6⟩
                      case measure => simp [intOf]; omega
                    · obtain rfl : x = t + 1 := by omega
                      have HKE : Hid (knxt L m ++ kext q (t + 1) = knxt L (m + 1)) := Lib.hid (by rw [knxt_succ HQ.out, HT3.out])
                      rw [HKE.out] at HNx
                      rw [HKE.out]
                      go_wp2_with fail
                      go_roundw
                      case rel => exact ⟨m + 1, g1, cap1, by omega, by go_num, rfl, HNx, hBx⟩
                      case measure => simp [intOf]; omega
            · obtain rfl : m = L.length := by omega
              have HN2 : Hid (OwnMat w.heap.size wr (.slice (some ⟨g', 0, none⟩) (kLvl (k + 1)).length cap') (kLvl (k + 1))) := Lib.hid (by
                rw [HLn.out, ← knxt_all]
                obtain ⟨vs, h1, h2⟩ := HN.out
                exact ⟨vs, Joins.ownsRow_le h1 hws, fun i x xs hx hxs => Joins.ownsRow_le (h2 i x xs hx hxs) hws⟩)
              have hBn := hB.trans (hBi.mono hws)
              have HNe : Hid ((knxt L L.length).length = (kLvl (k + 1)).length) := Lib.hid (by rw [HLn.out, knxt_all])
              rw [HNe.out]
              clear HN hBi
              go_wp2_with fail
              go_roundw
              case rel => exact ⟨k + 1, g', cap', by omega, by go_num, rfl, HN2, hBn, Lib.hid fun h => absurd h (by omega)⟩
              case measure => simp [intOf]; omega
        · obtain rfl : k = G.length := by omega
          go_wp2_with fail
          go_ret
          exact ⟨some ⟨g, 0, none⟩, cap, ⟨rfl, hB⟩, HO.out⟩
    · have HZ : Hid (allKL G = []) := Lib.hid (allK_no (by unfold g5; rw [decide_eq_false h5]; simp))
      rw [HZ.out]
      have h6 : (G.length : Int) > 5 := by omega
      go_enter Try.func25, Try.ntmps25
      go_wp2_with fail
      refine (specOk_any _ _ _ n₀ _ hM HF.out).mono ?_
      rintro e w' ⟨rfl, rfl⟩
      rw [hg]
      go_wp2_with fail
      go_ret
      exact ⟨_, _, ⟨rfl, (Below.refl _ w).alloc (Nat.le_refl _) _⟩, OwnMat.start w (Nat.le_refl _)⟩
  · have hg' : gOk G = false := by simpa using hg
    have HZ : Hid (allKL G = []) := Lib.hid (allK_no (by unfold g5; rw [hg']; rfl))
    rw [HZ.out]
    clear hg
    go_enter Try.func25, Try.ntmps25
    go_wp2_with fail
    refine (specOk_any _ _ _ n₀ _ hM HF.out).mono ?_
    rintro e w' ⟨rfl, rfl⟩
    rw [hg']
    go_wp2_with fail
    go_ret
    exact ⟨_, _, ⟨rfl, (Below.refl _ w).alloc (Nat.le_refl _) _⟩, OwnMat.start w (Nat.le_refl _)⟩

theorem specAllK (a : Option Addr) (c : Nat) (G : List (List Int)) (n₀ : Nat) (w : World) (hM : Mat n₀ w a G) (hF : Fit G) :
    Calls Try.prog 25 #[.slice a G.length c] w (ReadM (allKL G) w) :=
  (specAllKO a c G n₀ w hM hF).mono fun _ _ ⟨a, c, h1, h2⟩ => ⟨a, c, h1, h2.mat⟩

end Go.Proofs.Ytdolpkjighbohaa
