/-
  Several texts in one.
  spec.BesideOf, walked.
  Two graphs side by side: their parts, and how many arrows.
  A part has no more arrows; of all nodes, in their order, it is the graph.
-/
import Derived.Test.YtofpjepndhpciaaZJ
import Derived.Deep.AppendLies
import Derived.Deep.RegionHeld3
import Derived.Test.YtofpjepndhpciaaZB
namespace Go.Proofs.Ytofpjepndhpciaa
open Go.RowKit Go.Shelf Go.Deep

/-- Rows, beside a yes or no. -/
def ReadB (zss : List (List Int)) (yes : Bool) (w : World) (e : Ending) (w' : World) : Prop := ∃ (a : Option Addr) (c : Nat), (e = .returned (.tuple #[.slice a zss.length c, .bool yes]) ∧ Below w.heap.size w w') ∧ Mat w'.heap.size w' a zss

/-- As ReadB; its rows are its own. -/
def ReadBO (zss : List (List Int)) (yes : Bool) (w : World) (e : Ending) (w' : World) : Prop := ∃ (a : Option Addr) (c : Nat), (e = .returned (.tuple #[.slice a zss.length c, .bool yes]) ∧ Below w.heap.size w w') ∧ OwnMat w.heap.size w' (.slice a zss.length c) zss
theorem ReadBO.read {zss : List (List Int)} {yes : Bool} {w w' : World} {e : Ending} (h : ReadBO zss yes w e w') : ReadB zss yes w e w' := by
  obtain ⟨a, c, h1, h2⟩ := h
  exact ⟨a, c, h1, h2.mat⟩

theorem ints_news {n₀ : Nat} {W : World} {b o : Nat} {xs : List Int} (h : Ints n₀ W (some ⟨b, o, none⟩) xs) : ∀ j u, (xs.map (Value.int .i64))[j]? = some u → W.cell? ((⟨b, o, none⟩ : Addr).add j) = some u := fun j u hu => by
  rw [List.getElem?_map] at hu
  have hj : j < xs.length := by
    rcases Nat.lt_or_ge j xs.length with h | h
    · exact h
    · rw [List.getElem?_eq_none h] at hu; cases hu
  obtain ⟨b', o', x, e, _, hc, HX⟩ := h.at_ hj
  cases e
  rw [HX.out] at hu
  cases hu
  rw [Addr.add_lit]
  exact hc

theorem made_list (m : Nat) : (madeCells #[Value.int .i64 0] m).toList = List.replicate m (Value.int .i64 0) := by
  apply List.ext_getElem
  · simp [madeCells]
  · intro k h1 h2
    simp [madeCells, Nat.mod_one]

set_option maxRecDepth 100000 in
set_option maxHeartbeats 4000000 in
theorem specBesideO (a a' : Option Addr) (c c' : Nat) (xss yss : List (List Int)) (n₀ : Nat) (w : World) (hM : Mat n₀ w a xss) (hM' : Mat n₀ w a' yss) (hn₀ : n₀ ≤ w.heap.size) (hF : Fit xss) (hF' : Fit yss) :
    Calls Try.prog 59 #[.slice a xss.length c, .slice a' yss.length c'] w (ReadBO (besL xss yss) (besOk xss yss) w) := by
  have HF := Lib.hid hF
  have HF' := Lib.hid hF'
  have hlf := hF.1
  have hlf' := hF'.1
  clear hF hF'
  obtain ⟨i0, hi, hz0, hz1, hz2⟩ := info_parts infoInts
  obtain ⟨i1, hj, hy0, hy1, hy2⟩ := info_parts infoInt
  by_cases hg : gOk xss = true
  · by_cases hg' : gOk yss = true
    · by_cases h9 : xss.length + yss.length ≤ 9
      · have HG := Lib.hid (good_of hg)
        have HG' := Lib.hid (good_of hg')
        have hx1 := HG.out.1
        have hx1' := HG'.out.1
        have hok : besOk xss yss = true := by unfold besOk; rw [hg, hg', decide_eq_true h9]; rfl
        rw [besL_yes hok, hok]
        clear hok
        go_enter Try.func59, Try.ntmps59
        go_wp2_with fail
        refine (specOk_any _ _ _ _ _ hM HF.out).mono ?_
        rintro e w' ⟨rfl, rfl⟩
        go_wp2_with fail
        refine (specOk_any _ _ _ _ _ hM' HF'.out).mono ?_
        rintro e w' ⟨rfl, rfl⟩
        go_wp2_with fail
        go_loopw [6, 7] (fun v i wr => ∃ (k g cap : Nat), k ≤ xss.length ∧ i = .int .i64 k ∧ v = .slice (some ⟨g, 0, none⟩) k cap ∧ Hid (OwnMat w.heap.size wr (.slice (some ⟨g, 0, none⟩) k cap) (bRows1 xss yss k)) ∧ Below w.heap.size w wr)
          (fun _ i _ => xss.length - (intOf i).toNat)
        case atStart => exact ⟨0, _, _, Nat.zero_le _, rfl, rfl, OwnMat.start w (Nat.le_refl _), (Below.refl _ _).alloc (Nat.le_refl _) _⟩
        case round =>
          obtain ⟨k, g, cap, hk, rfl, rfl, HO, hB⟩ := hrel
          have hMr : Mat n₀ wr a xss := hM.below (hB.mono hn₀)
          have hws := hB.size
          by_cases hlt : k < xss.length
          · obtain ⟨wo, rfl⟩ : ∃ wo : World, wo = wr := ⟨_, rfl⟩
            obtain ⟨b, o, a1, c1, xs, rfl, hb, hc, hI, HX⟩ := hMr.at_ hlt
            have HE := Lib.hid (HG.out.len HX.out)
            have hl1 : 1 ≤ xs.length := by rw [HE.out]; exact hx1
            have hl9 : xs.length ≤ 9 := by rw [HE.out]; omega
            obtain ⟨b2, o2, _, rfl, hb2, -, -⟩ := hI.at_ (k := 0) (by omega)
            have hIa := hI.below ((Below.refl n₀ wo).alloc (by omega) (.cells #[] 3))
            have hown0 : (wo.alloc (.cells #[] 3)).ownsRow wo.heap.size 3 1 (.slice (some ⟨wo.heap.size, 0, none⟩) 0 0) 0 [] := World.ownsRow_lit (size := 1) wo #[] 0 (Nat.le_refl _) (Nat.zero_le _) rfl
            have hca : (wo.alloc (.cells #[] 3)).cell? ⟨b, o + k, none⟩ = some (.slice (some ⟨b2, o2, none⟩) xs.length c1) := (World.cell?_alloc_lt wo _ ⟨b, o + k, none⟩ (by show b < _; omega)).trans hc
            have hone : ∀ u ∈ xs.map (Value.int .i64), u.oneCell' = true := fun u hu => by obtain ⟨x, _, rfl⟩ := List.mem_map.1 hu; rfl
            have HER : Hid ((bRow1 xss yss k).map (Value.int .i64) = xs.map (Value.int .i64) ++ List.replicate yss.length (Value.int .i64 0)) := Lib.hid (by rw [bRow1, HX.out, Option.getD_some, List.map_append, List.map_replicate])
            have HEL : Hid ((bRow1 xss yss k).length = xs.length + yss.length) := Lib.hid (by rw [bRow1, HX.out, Option.getD_some, List.length_append, List.length_replicate])
            go_wp2_with (first
              | (at_builtin; refine wpList_append_lies _ rfl _ _ 47 rfl wo.heap.size 3 i1 (.int .i64 0) 1 8 Try.underlying47 hj hy0 hy1 hy2 rfl (by decide) (.slice (some ⟨wo.heap.size, 0, none⟩) 0 0) 0 [] rfl hown0 ⟨b2, o2, none⟩ xs.length c1 (xs.map (Value.int .i64)) rfl (by simp) (ints_news hIa) hone (by omega) (by unfold maxLen; omega) (by omega) (by simp) (wo.heap.size + 1) (by simp) ?_; intro g2 cap2 w4 hown4 hgrow4 _ _; rw [Nat.zero_add] at hown4 ⊢; have hB4 : Below wo.heap.size wo w4 := ((Below.refl _ wo).alloc (Nat.le_refl _) _).grown hgrow4 (by simp) (fun r e => by have e' : some wo.heap.size = some r := e; cases e'; exact Nat.le_refl _); have hlg4 := (hown4.lt g2 rfl).1; have hs4 := hB4.size; clear hgrow4 hown0)
              | (at_builtin; refine wpList_append_zeros _ rfl _ _ 47 3 rfl wo.heap.size 3 i1 8 Try.underlying47 Try.underlying3 hj hy0 hy1 hy2 g2 xs.length cap2 (xs.map (Value.int .i64)) rfl hown4 yss.length rfl (by omega) (by omega) (by omega) (by omega) hs4 ?_; intro g3 cap3 w5 hown5 hgrow5; have hB5 : Below wo.heap.size wo w5 := hB4.grown hgrow5 hs4 (fun r e => by have e' : some g2 = some r := e; cases e'; exact hlg4); have hs5 := hB5.size; have HRow : Hid (w5.ownsRow w.heap.size 3 1 (.slice (some ⟨g3, 0, none⟩) (xs.length + yss.length) cap3) (bRow1 xss yss k).length ((bRow1 xss yss k).map (Value.int .i64))) := Lib.hid (by rw [HER.out, HEL.out]; exact Joins.ownsRow_le hown5 hws); obtain ⟨vs, hown, hrows⟩ := HO.out.below hB5; rw [bRows1_length] at hown; have HW := Lib.hid hrows; have hlg := hown.lt g rfl; have hBr : Below w.heap.size w w5 := hB.trans (hB5.mono hws); clear hrows hgrow5 hown5 hown4)
              | (at_builtin; refine wpList_append_own _ rfl _ _ 23 rfl w.heap.size 47 i0 (.slice none 0 0) 1 24 Try.underlying23 hi hz0 hz1 hz2 rfl (by decide) _ _ _ rfl (hown.alloc _) ⟨w5.heap.size, 0, none⟩ 1 1 [.slice (some ⟨g3, 0, none⟩) (xs.length + yss.length) cap3] rfl rfl (cell_one_new _ _ _) (by simp [Value.oneCell']) (by unfold maxLen; omega) (by omega) (by simp; omega) ?_; intro v' w6 hown' hgrow _; obtain ⟨g6, cap6, rfl⟩ := ownsRow_succ hown'; have HO6 := Lib.hid (OwnMat.appended (by rw [bRows1_length]; exact hown) HW.out HRow.out (by rw [bRows1_length]; exact hown') hgrow); have hB6 : Below w.heap.size w w6 := (hBr.alloc (by omega) _).grown hgrow (by simp; omega) (fun r e => by have e' : some g = some r := e; cases e'; exact hlg.1); clear hown' hgrow hown))
            go_roundw
            case rel => exact ⟨k + 1, g6, cap6, by omega, by go_num, rfl, Lib.hid (by rw [bRows1_succ]; exact HO6.out), hB6⟩
            case measure => simp [intOf]; omega
          · obtain rfl : k = xss.length := by omega
            have HO2 : Hid (OwnMat w.heap.size wr (.slice (some ⟨g, 0, none⟩) (xss.length + 0) cap) (bRows2 xss yss 0)) := by rw [bRows2_zero]; exact HO
            have hB0 := hB
            clear HO hB
            go_wp2_with fail
            go_loopw [6, 8] (fun v i wt => ∃ (k g cap : Nat), k ≤ yss.length ∧ i = .int .i64 k ∧ v = .slice (some ⟨g, 0, none⟩) (xss.length + k) cap ∧ Hid (OwnMat w.heap.size wt (.slice (some ⟨g, 0, none⟩) (xss.length + k) cap) (bRows2 xss yss k)) ∧ Below w.heap.size w wt)
              (fun _ i _ => yss.length - (intOf i).toNat)
            case atStart => exact ⟨0, g, cap, Nat.zero_le _, rfl, rfl, HO2, hB0⟩
            case round =>
              clear HO2 hB0 hMr hws hk
              obtain ⟨k, g, cap, hk, rfl, rfl, HO, hB⟩ := hrel
              have hMr : Mat n₀ wr a' yss := hM'.below (hB.mono hn₀)
              have hws := hB.size
              by_cases hlt : k < yss.length
              · obtain ⟨wo, rfl⟩ : ∃ wo : World, wo = wr := ⟨_, rfl⟩
                obtain ⟨b, o, a1, c1, xs, rfl, hb, hc, hI, HX⟩ := hMr.at_ hlt
                have HE := Lib.hid (HG'.out.len HX.out)
                have hl1 : 1 ≤ xs.length := by rw [HE.out]; exact hx1'
                have hl9 : xs.length ≤ 9 := by rw [HE.out]; omega
                obtain ⟨b2, o2, _, rfl, hb2, -, -⟩ := hI.at_ (k := 0) (by omega)
                have hmk := run_make_row' (P := Try.prog) 47 3 (.int .i64 0) 8 Try.underlying47 infoInt rfl .i64 .i64 xss.length (by omega) (by omega)
                have ik0 : (0 : Int) ≤ (k : Int) := Int.natCast_nonneg _
                have ik1 : (k : Int) < (yss.length : Int) := by omega
                have hmade : (wo.alloc (.cells (madeCells #[.int .i64 0] xss.length) 3)).ownsRow wo.heap.size 3 1 (.slice (some ⟨wo.heap.size, 0, none⟩) xss.length xss.length) xss.length (List.replicate xss.length (.int .i64 0)) := by
                  have h := World.ownsRow_lit (base := wo.heap.size) (e := 3) (size := 1) wo (madeCells #[.int .i64 0] xss.length) xss.length (Nat.le_refl _) (by unfold maxLen; omega) (by rw [size_madeCells]; omega)
                  rw [made_list] at h
                  exact h
                have hIa := hI.below ((Below.refl n₀ wo).alloc (by omega) (.cells (madeCells #[.int .i64 0] xss.length) 3))
                have hone : ∀ u ∈ xs.map (Value.int .i64), u.oneCell' = true := fun u hu => by obtain ⟨x, _, rfl⟩ := List.mem_map.1 hu; rfl
                have HER : Hid ((bRow2 xss yss k).map (Value.int .i64) = List.replicate xss.length (Value.int .i64 0) ++ xs.map (Value.int .i64)) := Lib.hid (by rw [bRow2, HX.out, Option.getD_some, List.map_append, List.map_replicate])
                have HEL : Hid ((bRow2 xss yss k).length = xss.length + xs.length) := Lib.hid (by rw [bRow2, HX.out, Option.getD_some, List.length_append, List.length_replicate])
                have hlg : w.heap.size ≤ g := by obtain ⟨vs, hown, _⟩ := HO.out; exact (hown.lt g rfl).1
                have hag1 : some b ≠ (Value.slice (some ⟨wo.heap.size, 0, none⟩) xss.length xss.length).ownBlock := fun e => by have e' : some b = some wo.heap.size := e; cases e'; omega
                have hag2 : some b ≠ (Value.slice (some ⟨g, 0, none⟩) (xss.length + k) cap).ownBlock := fun e => by have e' : some b = some g := e; cases e'; omega
                go_wp2_with fail
                go_region_held3 (fun w' => w'.cell? ⟨b, o + k, none⟩ = some (.slice (some ⟨b2, o2, none⟩) xs.length c1))
                  (first | go_keep | (rw [hgrow4.cell_far _ (by simp; omega) hag1]; assumption) | (rw [hgrow6.cell_far _ (by simp; omega) hag2]; assumption))
                  (first
                    | ((refine step_append_lies _ (by rfl) _ _ _ (by rfl) wo.heap.size 3 i1 _ 1 8 Try.underlying47 hj hy0 hy1 hy2 rfl (by omega) (.slice (some ⟨wo.heap.size, 0, none⟩) xss.length xss.length) xss.length (List.replicate xss.length (.int .i64 0)) (by rfl) (hmade.drew) ⟨b2, o2, none⟩ xs.length c1 (xs.map (Value.int .i64)) (by rfl) (by simp) (ints_news hIa) hone (by omega) (by unfold maxLen; omega) (by omega) (by simp) (wo.heap.size + 1) (by simp) ?_
                        intro g2 cap2 w4 hown4 hgrow4 _ _
                        have hB4 : Below wo.heap.size wo w4 := (((Below.refl _ wo).alloc (Nat.le_refl _) _).drew).grown hgrow4 (by simp) (fun r e => by have e' : some wo.heap.size = some r := e; cases e'; exact Nat.le_refl _)
                        have hs4 := hB4.size
                        have HRow : Hid (w4.ownsRow w.heap.size 3 1 (.slice (some ⟨g2, 0, none⟩) (xss.length + xs.length) cap2) (bRow2 xss yss k).length ((bRow2 xss yss k).map (Value.int .i64))) := Lib.hid (by rw [HER.out, HEL.out]; exact Joins.ownsRow_le hown4 hws)
                        obtain ⟨vs, hown, hrows⟩ := HO.out.below hB4
                        rw [bRows2_length] at hown
                        have HW := Lib.hid hrows
                        have hBr : Below w.heap.size w w4 := hB.trans (hB4.mono hws)
                        clear hrows hown4))
                    | ((refine step_append_lies _ (by rfl) _ _ _ (by rfl) w.heap.size 47 i0 _ 1 24 Try.underlying23 hi hz0 hz1 hz2 rfl (by omega) (.slice (some ⟨g, 0, none⟩) (xss.length + k) cap) (xss.length + k) vs (by rfl) (hown.alloc _) ⟨w4.heap.size, 0, none⟩ 1 1 [.slice (some ⟨g2, 0, none⟩) (xss.length + xs.length) cap2] (by rfl) (by rfl) (World.news_of_block (cs := #[.slice (some ⟨g2, 0, none⟩) (xss.length + xs.length) cap2]) (t := 47) (fr := (0, 0)) (heap_alloc_new w4 _)) (by simp [Value.oneCell']) (by omega) (by unfold maxLen; omega) (by omega) (by simp; omega) (w4.heap.size + 1) (by simp) ?_
                        intro g6 cap6 w6 hown6 hgrow6 _ _
                        have HO6 := Lib.hid (OwnMat.appended (by rw [bRows2_length]; exact hown) HW.out HRow.out (by rw [bRows2_length]; exact hown6) hgrow6)
                        have hB6 : Below w.heap.size w w6 := (hBr.alloc (by omega) _).grown hgrow6 (by simp; omega) (fun r e => by have e' : some g = some r := e; cases e'; exact hlg))))
                clear hmk
                go_wp2
                go_roundw
                case rel => exact ⟨k + 1, g6, cap6, by omega, by go_num, by rw [Nat.add_assoc], Lib.hid (by rw [bRows2_succ, ← Nat.add_assoc]; exact HO6.out), hB6⟩
                case measure => simp [intOf]; omega
              · obtain rfl : k = yss.length := by omega
                go_wp2_with fail
                go_ret2
                have hm := HO.out
                rw [bRows_all HG.out HG'.out] at hm
                refine ⟨some ⟨g, 0, none⟩, cap, ⟨?_, hB⟩, by rw [rowsP_length]; exact hm⟩
                rw [rowsP_length]
                rfl
      · have hok : besOk xss yss = false := by unfold besOk; rw [hg, hg', decide_eq_false h9]; rfl
        rw [besL_no hok, hok]
        clear hok
        go_enter Try.func59, Try.ntmps59
        go_wp2_with fail
        refine (specOk_any _ _ _ _ _ hM HF.out).mono ?_
        rintro e w' ⟨rfl, rfl⟩
        go_wp2_with fail
        refine (specOk_any _ _ _ _ _ hM' HF'.out).mono ?_
        rintro e w' ⟨rfl, rfl⟩
        go_wp2_with fail
        go_ret2
        exact ⟨_, _, ⟨rfl, (Below.refl _ w).alloc (Nat.le_refl _) _⟩, OwnMat.start w (Nat.le_refl _)⟩
    · have hgn : gOk yss = false := by simpa using hg'
      have hok : besOk xss yss = false := by unfold besOk; rw [hg, hgn]; rfl
      rw [besL_no hok, hok]
      clear hok hg'
      go_enter Try.func59, Try.ntmps59
      go_wp2_with fail
      refine (specOk_any _ _ _ _ _ hM HF.out).mono ?_
      rintro e w' ⟨rfl, rfl⟩
      go_wp2_with fail
      refine (specOk_any _ _ _ _ _ hM' HF'.out).mono ?_
      rintro e w' ⟨rfl, rfl⟩
      go_wp2_with fail
      go_ret2
      exact ⟨_, _, ⟨rfl, (Below.refl _ w).alloc (Nat.le_refl _) _⟩, OwnMat.start w (Nat.le_refl _)⟩
  · have hgn : gOk xss = false := by simpa using hg
    have hok : besOk xss yss = false := by unfold besOk; rw [hgn]; rfl
    rw [besL_no hok, hok]
    clear hok hg
    go_enter Try.func59, Try.ntmps59
    go_wp2_with fail
    refine (specOk_any _ _ _ _ _ hM HF.out).mono ?_
    rintro e w' ⟨rfl, rfl⟩
    go_wp2_with fail
    go_ret2
    exact ⟨_, _, ⟨rfl, (Below.refl _ w).alloc (Nat.le_refl _) _⟩, OwnMat.start w (Nat.le_refl _)⟩

theorem specBeside (a a' : Option Addr) (c c' : Nat) (xss yss : List (List Int)) (n₀ : Nat) (w : World) (hM : Mat n₀ w a xss) (hM' : Mat n₀ w a' yss) (hn₀ : n₀ ≤ w.heap.size) (hF : Fit xss) (hF' : Fit yss) :
    Calls Try.prog 59 #[.slice a xss.length c, .slice a' yss.length c'] w (ReadB (besL xss yss) (besOk xss yss) w) := (specBesideO a a' c c' xss yss n₀ w hM hM' hn₀ hF hF').mono fun _ _ h => h.read

end Go.Proofs.Ytofpjepndhpciaa

namespace Go.Proofs.Ytofpjepndhpciaa
open Go.RowKit Go.Shelf

theorem sumN_split (m : Nat) (f : Nat → Nat) : ∀ n, sumN (m + n) f = sumN m f + sumN n (fun k => f (m + k))
  | 0 => by simp [sumN]
  | n + 1 => by
    have h := sumN_split m f n
    rw [← Nat.add_assoc]
    simp only [sumN]
    omega
theorem sumN_none {f : Nat → Nat} : ∀ {m : Nat}, (∀ i, i < m → f i = 0) → sumN m f = 0
  | 0, _ => rfl
  | m + 1, h => by
    simp only [sumN]
    rw [sumN_none fun i hi => h i (by omega), h m (by omega)]
theorem sumN_same {f g : Nat → Nat} : ∀ {m : Nat}, (∀ i, i < m → f i = g i) → sumN m f = sumN m g
  | 0, _ => rfl
  | m + 1, h => by
    simp only [sumN]
    rw [sumN_same fun i hi => h i (by omega), h m (by omega)]

theorem besOk_of {xss yss : List (List Int)} (h : besOk xss yss = true) : Good xss ∧ Good yss ∧ xss.length + yss.length ≤ 9 := by
  unfold besOk at h
  simp only [Bool.and_eq_true, decide_eq_true_eq] at h
  exact ⟨good_of h.1.1, good_of h.1.2, h.2⟩
theorem bes_good {xss yss : List (List Int)} (h : besOk xss yss = true) : Good (besL xss yss) := by
  obtain ⟨h1, h2, h3⟩ := besOk_of h
  rw [besL_yes h]
  exact rowsP_good _ (by have := h1.1; omega) h3
theorem bes_length {xss yss : List (List Int)} (h : besOk xss yss = true) : (besL xss yss).length = xss.length + yss.length := by rw [besL_yes h, rowsP_length]
theorem besP_first {xss yss : List (List Int)} {i j : Nat} (hi : i < xss.length) (hj : j < xss.length) : besP xss yss i j = arw xss i j := if_pos ⟨hi, hj⟩
theorem besP_last (xss yss : List (List Int)) (i j : Nat) : besP xss yss (xss.length + i) (xss.length + j) = arw yss i j := by
  unfold besP
  rw [if_neg (by omega), decide_eq_true (by omega), Nat.add_sub_cancel_left, Nat.add_sub_cancel_left]
  rfl
theorem besP_no1 {xss yss : List (List Int)} {i : Nat} (j : Nat) (hi : i < xss.length) : besP xss yss i (xss.length + j) = false := by
  unfold besP
  rw [if_neg (by omega), decide_eq_false (by omega)]
  rfl
theorem besP_no2 {xss yss : List (List Int)} (i : Nat) {j : Nat} (hj : j < xss.length) : besP xss yss (xss.length + i) j = false := by
  unfold besP
  rw [if_neg (by omega), decide_eq_false (by omega)]
  rfl

theorem arrows_bes {xss yss : List (List Int)} (h : besOk xss yss = true) : arrowsI (besL xss yss) = arrowsI xss + arrowsI yss := by
  obtain ⟨h1, h2, h3⟩ := besOk_of h
  rw [arrowsI_yes (gOk_true (bes_good h)), arrowsI_yes (gOk_true h1), arrowsI_yes (gOk_true h2), besL_yes h, AL_rowsP, AL_cnt, AL_cnt, cnt_sum, cnt_sum, cnt_sum, sumN_split]
  have e1 : sumN xss.length (fun k => sumN (xss.length + yss.length) (fun l => bN (besP xss yss k l))) = sumN xss.length (fun k => sumN xss.length (fun l => bN (arw xss k l))) := sumN_same fun i hi => by
    rw [sumN_split, sumN_same (g := fun l => bN (arw xss i l)) fun j hj => by rw [besP_first hi hj], sumN_none (m := yss.length) fun j _ => by rw [besP_no1 j hi]; rfl]
    rfl
  have e2 : sumN yss.length (fun k => sumN (xss.length + yss.length) (fun l => bN (besP xss yss (xss.length + k) l))) = sumN yss.length (fun k => sumN yss.length (fun l => bN (arw yss k l))) := sumN_same fun i _ => by
    rw [sumN_split, sumN_none (m := xss.length) fun j hj => by rw [besP_no2 i hj]; rfl, sumN_same (g := fun l => bN (arw yss i l)) fun j _ => by rw [besP_last], Nat.zero_add]
  rw [e1, e2]
  omega

theorem nodes_seq {N s m : Nat} (h : s + m ≤ N) : Nodes N (seqL s m) := by
  have key : ∀ (j : Nat) (y : Int), (seqL s m)[j]? = some y → j < m ∧ y = ((s + j : Nat) : Int) := fun j y hy => by
    have hj : j < m := by have := (List.getElem?_eq_some_iff.1 hy).1; rwa [seqL_length] at this
    rw [seqL_get hj] at hy
    exact ⟨hj, (Option.some.inj hy).symm⟩
  refine ⟨fun j y hy => ?_, fun i j y hij hi hj => ?_⟩
  · obtain ⟨h1, rfl⟩ := key j y hy; omega
  · obtain ⟨_, e1⟩ := key i y hi
    obtain ⟨_, e2⟩ := key j y hj
    omega
theorem nd_seq {s m i : Nat} (hi : i < m) : nd (seqL s m) i = s + i := by rw [nd_eq (seqL_get hi)]; omega
theorem part_first {xss yss : List (List Int)} (h : besOk xss yss = true) : partL (besL xss yss) (seqL 0 xss.length) = xss := by
  obtain ⟨h1, h2, h3⟩ := besOk_of h
  rw [partL_yes (gOk_true (bes_good h)) (by rw [seqL_length]; exact h1.1) (nodes_seq (by rw [bes_length h]; omega)), seqL_length]
  conv => rhs; rw [good_rowsP h1]
  refine rowsP_congr fun i j hi hj => ?_
  rw [nd_seq hi, nd_seq hj, Nat.zero_add, Nat.zero_add, besL_yes h, arw_rowsP (by omega) (by omega), besP_first hi hj]
theorem part_last {xss yss : List (List Int)} (h : besOk xss yss = true) : partL (besL xss yss) (seqL xss.length yss.length) = yss := by
  obtain ⟨h1, h2, h3⟩ := besOk_of h
  rw [partL_yes (gOk_true (bes_good h)) (by rw [seqL_length]; exact h2.1) (nodes_seq (by rw [bes_length h]; omega)), seqL_length]
  conv => rhs; rw [good_rowsP h2]
  refine rowsP_congr fun i j hi hj => ?_
  rw [nd_seq hi, nd_seq hj, besL_yes h, arw_rowsP (by omega) (by omega), besP_last]

end Go.Proofs.Ytofpjepndhpciaa

namespace Go.Proofs.Ytofpjepndhpciaa
open Go.RowKit Go.Shelf

theorem sumN_le {n : Nat} {f g : Nat → Nat} (h : ∀ i, i < n → f i ≤ g i) : sumN n f ≤ sumN n g := by
  induction n with
  | zero => exact Nat.le_refl _
  | succ n ih =>
    have h1 := ih fun i hi => h i (by omega)
    have h2 := h n (by omega)
    simp only [sumN]; omega
theorem sumN_single {m b : Nat} (f : Nat → Nat) (hb : b < m) : sumN m (fun a => if b = a then f a else 0) = f b := by
  induction m with
  | zero => omega
  | succ m ih =>
    simp only [sumN]
    by_cases e : b = m
    · subst e
      rw [sumN_none fun i hi => if_neg (by omega), if_pos rfl]; omega
    · rw [ih (by omega), if_neg e]; omega
theorem sumN_once {n a : Nat} {y : Nat → Nat} (c : Nat) (h : ∀ i j, i < j → j < n → y i ≠ y j) : sumN n (fun i => if y i = a then c else 0) ≤ c := by
  induction n with
  | zero => exact Nat.zero_le _
  | succ n ih =>
    simp only [sumN]
    by_cases e : y n = a
    · rw [if_pos e, sumN_none fun i hi => if_neg fun e2 => h i n hi (by omega) (e2.trans e.symm)]; omega
    · rw [if_neg e]; have := ih fun i j hij hj => h i j hij (by omega); omega
theorem sumN_inj {n m : Nat} {y : Nat → Nat} (f : Nat → Nat) (hy : ∀ i, i < n → y i < m) (h : ∀ i j, i < j → j < n → y i ≠ y j) : sumN n (fun i => f (y i)) ≤ sumN m f := by
  have e1 : sumN n (fun i => f (y i)) = sumN n (fun i => sumN m (fun a => if y i = a then f a else 0)) := sumN_congr fun i hi => (sumN_single f (hy i hi)).symm
  rw [e1, sumN_swap]
  exact sumN_le fun a _ => sumN_once (f a) h
theorem nodes_nd {m : Nat} {ys : List Int} (h : Nodes m ys) {i : Nat} (hi : i < ys.length) : ys[i]? = some (nd ys i : Int) ∧ nd ys i < m := by
  have e := List.getElem?_eq_getElem hi
  have h1 := h.1 i _ e
  rw [nd_eq e]
  exact ⟨by rw [e]; congr 1; omega, by omega⟩
theorem nodes_inj {m : Nat} {ys : List Int} (h : Nodes m ys) (i j : Nat) (hij : i < j) (hj : j < ys.length) : nd ys i ≠ nd ys j := fun e => by
  obtain ⟨h1, _⟩ := nodes_nd h (show i < ys.length by omega)
  obtain ⟨h2, _⟩ := nodes_nd h hj
  rw [← e] at h2
  exact h.2 i j _ hij h1 h2
theorem part_good {xss : List (List Int)} {ys : List Int} (h : gOk xss = true) (h1 : 1 ≤ ys.length) (hN : Nodes xss.length ys) : Good (partL xss ys) := by
  rw [partL_yes h h1 hN]; exact rowsP_good _ h1 (Nat.le_trans (nodes_le hN) (good_of h).2.1)
theorem part_arrows {xss : List (List Int)} {ys : List Int} (h : gOk xss = true) (h1 : 1 ≤ ys.length) (hN : Nodes xss.length ys) : arrowsI (partL xss ys) ≤ arrowsI xss := by
  rw [arrowsI_yes (gOk_true (part_good h h1 hN)), arrowsI_yes h, partL_yes h h1 hN, AL_rowsP, AL_cnt, cnt_sum, cnt_sum]
  have e2 : sumN ys.length (fun k => sumN ys.length (fun l => bN (arw xss (nd ys k) (nd ys l)))) ≤ sumN xss.length (fun k => sumN xss.length (fun l => bN (arw xss k l))) := by
    refine Nat.le_trans (sumN_le (g := fun k => sumN xss.length (fun l => bN (arw xss (nd ys k) l))) fun i _ => sumN_inj (fun l => bN (arw xss (nd ys i) l)) (fun j hj => (nodes_nd hN hj).2) (nodes_inj hN)) ?_
    exact sumN_inj (fun k => sumN xss.length (fun l => bN (arw xss k l))) (fun j hj => (nodes_nd hN hj).2) (nodes_inj hN)
  omega
theorem part_own {xss : List (List Int)} (h : gOk xss = true) : partL xss (seqL 0 xss.length) = xss := by
  have hg := good_of h
  rw [partL_yes h (by rw [seqL_length]; exact hg.1) (nodes_seq (by omega)), seqL_length]
  conv => rhs; rw [good_rowsP hg]
  exact rowsP_congr fun i j hi hj => by rw [nd_seq hi, nd_seq hj, Nat.zero_add, Nat.zero_add]
theorem part_some {xss : List (List Int)} {ys : List Int} (h : (partL xss ys).length ≠ 0) : gOk xss = true ∧ 1 ≤ ys.length ∧ Nodes xss.length ys := by
  by_cases hh : gOk xss = true ∧ 1 ≤ ys.length ∧ Nodes xss.length ys
  · exact hh
  · exact absurd (by rw [partL_no hh]; rfl) h
theorem seqL_snoc (k m : Nat) : seqL k (m + 1) = seqL k m ++ [((k + m : Nat) : Int)] := by simp [seqL, List.range_succ]

end Go.Proofs.Ytofpjepndhpciaa
