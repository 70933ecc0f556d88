/-
  spec.BesideOf, walked.
-/
import Derived.Test.YtkkifphpogfjfaaZJ
import Derived.Deep.AppendLies
import Derived.Deep.RegionHeld3
namespace Go.Proofs.Ytkkifphpogfjfaa
open Go.RowKit Go.Shelf Go.Deep

/-- Rows, beside a yes or no. -/
def ReadB (zss : List (List Int)) (yes : Bool) (w : World) (e : Ending) (w' : World) : Prop := ∃ (a : Option Addr) (c : Nat), (e = .returned (.tuple #[.slice a zss.length c, .bool yes]) ∧ Below w.heap.size w w') ∧ Mat w'.heap.size w' a zss

/-- As ReadB; its rows are its own. -/
def ReadBO (zss : List (List Int)) (yes : Bool) (w : World) (e : Ending) (w' : World) : Prop := ∃ (a : Option Addr) (c : Nat), (e = .returned (.tuple #[.slice a zss.length c, .bool yes]) ∧ Below w.heap.size w w') ∧ OwnMat w.heap.size w' (.slice a zss.length c) zss
theorem ReadBO.read {zss : List (List Int)} {yes : Bool} {w w' : World} {e : Ending} (h : ReadBO zss yes w e w') : ReadB zss yes w e w' := by
  obtain ⟨a, c, h1, h2⟩ := h
  exact ⟨a, c, h1, h2.mat⟩

theorem ints_news {n₀ : Nat} {W : World} {b o : Nat} {xs : List Int} (h : Ints n₀ W (some ⟨b, o, none⟩) xs) : ∀ j u, (xs.map (Value.int .i64))[j]? = some u → W.cell? ((⟨b, o, none⟩ : Addr).add j) = some u := fun j u hu => by
  rw [List.getElem?_map] at hu
  have hj : j < xs.length := by
    rcases Nat.lt_or_ge j xs.length with h | h
    · exact h
    · rw [List.getElem?_eq_none h] at hu; cases hu
  obtain ⟨b', o', x, e, _, hc, HX⟩ := h.at_ hj
  cases e
  rw [HX.out] at hu
  cases hu
  rw [Addr.add_lit]
  exact hc

theorem made_list (m : Nat) : (madeCells #[Value.int .i64 0] m).toList = List.replicate m (Value.int .i64 0) := by
  apply List.ext_getElem
  · simp [madeCells]
  · intro k h1 h2
    simp [madeCells, Nat.mod_one]

set_option maxRecDepth 100000 in
set_option maxHeartbeats 4000000 in
theorem specBesideO (a a' : Option Addr) (c c' : Nat) (xss yss : List (List Int)) (n₀ : Nat) (w : World) (hM : Mat n₀ w a xss) (hM' : Mat n₀ w a' yss) (hn₀ : n₀ ≤ w.heap.size) (hF : Fit xss) (hF' : Fit yss) :
    Calls Try.prog 91 #[.slice a xss.length c, .slice a' yss.length c'] w (ReadBO (besL xss yss) (besOk xss yss) w) := by
  have HF := Lib.hid hF
  have HF' := Lib.hid hF'
  have hlf := hF.1
  have hlf' := hF'.1
  clear hF hF'
  obtain ⟨i0, hi, hz0, hz1, hz2⟩ := info_parts infoInts
  obtain ⟨i1, hj, hy0, hy1, hy2⟩ := info_parts infoInt
  by_cases hg : gOk xss = true
  · by_cases hg' : gOk yss = true
    · by_cases h9 : xss.length + yss.length ≤ 9
      · have HG := Lib.hid (good_of hg)
        have HG' := Lib.hid (good_of hg')
        have hx1 := HG.out.1
        have hx1' := HG'.out.1
        have hok : besOk xss yss = true := by unfold besOk; rw [hg, hg', decide_eq_true h9]; rfl
        rw [besL_yes hok, hok]
        clear hok
        go_enter Try.func91, Try.ntmps91
        go_wp2_with fail
        refine (specOk_any _ _ _ _ _ hM HF.out).mono ?_
        rintro e w' ⟨rfl, rfl⟩
        go_wp2_with fail
        refine (specOk_any _ _ _ _ _ hM' HF'.out).mono ?_
        rintro e w' ⟨rfl, rfl⟩
        go_wp2_with fail
        go_loopw [6, 7] (fun v i wr => ∃ (k g cap : Nat), k ≤ xss.length ∧ i = .int .i64 k ∧ v = .slice (some ⟨g, 0, none⟩) k cap ∧ Hid (OwnMat w.heap.size wr (.slice (some ⟨g, 0, none⟩) k cap) (bRows1 xss yss k)) ∧ Below w.heap.size w wr)
          (fun _ i _ => xss.length - (intOf i).toNat)
        case atStart => exact ⟨0, _, _, Nat.zero_le _, rfl, rfl, OwnMat.start w (Nat.le_refl _), (Below.refl _ _).alloc (Nat.le_refl _) _⟩
        case round =>
          obtain ⟨k, g, cap, hk, rfl, rfl, HO, hB⟩ := hrel
          have hMr : Mat n₀ wr a xss := hM.below (hB.mono hn₀)
          have hws := hB.size
          by_cases hlt : k < xss.length
          · obtain ⟨wo, rfl⟩ : ∃ wo : World, wo = wr := ⟨_, rfl⟩
            obtain ⟨b, o, a1, c1, xs, rfl, hb, hc, hI, HX⟩ := hMr.at_ hlt
            have HE := Lib.hid (HG.out.len HX.out)
            have hl1 : 1 ≤ xs.length := by rw [HE.out]; exact hx1
            have hl9 : xs.length ≤ 9 := by rw [HE.out]; omega
            obtain ⟨b2, o2, _, rfl, hb2, -, -⟩ := hI.at_ (k := 0) (by omega)
            have hIa := hI.below ((Below.refl n₀ wo).alloc (by omega) (.cells #[] 3))
            have hown0 : (wo.alloc (.cells #[] 3)).ownsRow wo.heap.size 3 1 (.slice (some ⟨wo.heap.size, 0, none⟩) 0 0) 0 [] := World.ownsRow_lit (size := 1) wo #[] 0 (Nat.le_refl _) (Nat.zero_le _) rfl
            have hca : (wo.alloc (.cells #[] 3)).cell? ⟨b, o + k, none⟩ = some (.slice (some ⟨b2, o2, none⟩) xs.length c1) := (World.cell?_alloc_lt wo _ ⟨b, o + k, none⟩ (by show b < _; omega)).trans hc
            have hone : ∀ u ∈ xs.map (Value.int .i64), u.oneCell' = true := fun u hu => by obtain ⟨x, _, rfl⟩ := List.mem_map.1 hu; rfl
            have HER : Hid ((bRow1 xss yss k).map (Value.int .i64) = xs.map (Value.int .i64) ++ List.replicate yss.length (Value.int .i64 0)) := Lib.hid (by rw [bRow1, HX.out, Option.getD_some, List.map_append, List.map_replicate])
            have HEL : Hid ((bRow1 xss yss k).length = xs.length + yss.length) := Lib.hid (by rw [bRow1, HX.out, Option.getD_some, List.length_append, List.length_replicate])
            go_wp2_with (first
              | (at_builtin; refine wpList_append_lies _ rfl _ _ 36 rfl wo.heap.size 3 i1 (.int .i64 0) 1 8 Try.underlying36 hj hy0 hy1 hy2 rfl (by decide) (.slice (some ⟨wo.heap.size, 0, none⟩) 0 0) 0 [] rfl hown0 ⟨b2, o2, none⟩ xs.length c1 (xs.map (Value.int .i64)) rfl (by simp) (ints_news hIa) hone (by omega) (by unfold maxLen; omega) (by omega) (by simp) (wo.heap.size + 1) (by simp) ?_; intro g2 cap2 w4 hown4 hgrow4 _ _; rw [Nat.zero_add] at hown4 ⊢; have hB4 : Below wo.heap.size wo w4 := ((Below.refl _ wo).alloc (Nat.le_refl _) _).grown hgrow4 (by simp) (fun r e => by have e' : some wo.heap.size = some r := e; cases e'; exact Nat.le_refl _); have hlg4 := (hown4.lt g2 rfl).1; have hs4 := hB4.size; clear hgrow4 hown0)
              | (at_builtin; refine wpList_append_zeros _ rfl _ _ 36 3 rfl wo.heap.size 3 i1 8 Try.underlying36 Try.underlying3 hj hy0 hy1 hy2 g2 xs.length cap2 (xs.map (Value.int .i64)) rfl hown4 yss.length rfl (by omega) (by omega) (by omega) (by omega) hs4 ?_; intro g3 cap3 w5 hown5 hgrow5; have hB5 : Below wo.heap.size wo w5 := hB4.grown hgrow5 hs4 (fun r e => by have e' : some g2 = some r := e; cases e'; exact hlg4); have hs5 := hB5.size; have HRow : Hid (w5.ownsRow w.heap.size 3 1 (.slice (some ⟨g3, 0, none⟩) (xs.length + yss.length) cap3) (bRow1 xss yss k).length ((bRow1 xss yss k).map (Value.int .i64))) := Lib.hid (by rw [HER.out, HEL.out]; exact Joins.ownsRow_le hown5 hws); obtain ⟨vs, hown, hrows⟩ := HO.out.below hB5; rw [bRows1_length] at hown; have HW := Lib.hid hrows; have hlg := hown.lt g rfl; have hBr : Below w.heap.size w w5 := hB.trans (hB5.mono hws); clear hrows hgrow5 hown5 hown4)
              | (at_builtin; refine wpList_append_own _ rfl _ _ 24 rfl w.heap.size 36 i0 (.slice none 0 0) 1 24 Try.underlying24 hi hz0 hz1 hz2 rfl (by decide) _ _ _ rfl (hown.alloc _) ⟨w5.heap.size, 0, none⟩ 1 1 [.slice (some ⟨g3, 0, none⟩) (xs.length + yss.length) cap3] rfl rfl (cell_one_new _ _ _) (by simp [Value.oneCell']) (by unfold maxLen; omega) (by omega) (by simp; omega) ?_; intro v' w6 hown' hgrow _; obtain ⟨g6, cap6, rfl⟩ := ownsRow_succ hown'; have HO6 := Lib.hid (OwnMat.appended (by rw [bRows1_length]; exact hown) HW.out HRow.out (by rw [bRows1_length]; exact hown') hgrow); have hB6 : Below w.heap.size w w6 := (hBr.alloc (by omega) _).grown hgrow (by simp; omega) (fun r e => by have e' : some g = some r := e; cases e'; exact hlg.1); clear hown' hgrow hown))
            go_roundw
            case rel => exact ⟨k + 1, g6, cap6, by omega, by go_num, rfl, Lib.hid (by rw [bRows1_succ]; exact HO6.out), hB6⟩
            case measure => simp [intOf]; omega
          · obtain rfl : k = xss.length := by omega
            have HO2 : Hid (OwnMat w.heap.size wr (.slice (some ⟨g, 0, none⟩) (xss.length + 0) cap) (bRows2 xss yss 0)) := by rw [bRows2_zero]; exact HO
            have hB0 := hB
            clear HO hB
            go_wp2_with fail
            go_loopw [6, 8] (fun v i wt => ∃ (k g cap : Nat), k ≤ yss.length ∧ i = .int .i64 k ∧ v = .slice (some ⟨g, 0, none⟩) (xss.length + k) cap ∧ Hid (OwnMat w.heap.size wt (.slice (some ⟨g, 0, none⟩) (xss.length + k) cap) (bRows2 xss yss k)) ∧ Below w.heap.size w wt)
              (fun _ i _ => yss.length - (intOf i).toNat)
            case atStart => exact ⟨0, g, cap, Nat.zero_le _, rfl, rfl, HO2, hB0⟩
            case round =>
              clear HO2 hB0 hMr hws hk
              obtain ⟨k, g, cap, hk, rfl, rfl, HO, hB⟩ := hrel
              have hMr : Mat n₀ wr a' yss := hM'.below (hB.mono hn₀)
              have hws := hB.size
              by_cases hlt : k < yss.length
              · obtain ⟨wo, rfl⟩ : ∃ wo : World, wo = wr := ⟨_, rfl⟩
                obtain ⟨b, o, a1, c1, xs, rfl, hb, hc, hI, HX⟩ := hMr.at_ hlt
                have HE := Lib.hid (HG'.out.len HX.out)
                have hl1 : 1 ≤ xs.length := by rw [HE.out]; exact hx1'
                have hl9 : xs.length ≤ 9 := by rw [HE.out]; omega
                obtain ⟨b2, o2, _, rfl, hb2, -, -⟩ := hI.at_ (k := 0) (by omega)
                have hmk := run_make_row' (P := Try.prog) 36 3 (.int .i64 0) 8 Try.underlying36 infoInt rfl .i64 .i64 xss.length (by omega) (by omega)
                have ik0 : (0 : Int) ≤ (k : Int) := Int.natCast_nonneg _
                have ik1 : (k : Int) < (yss.length : Int) := by omega
                have hmade : (wo.alloc (.cells (madeCells #[.int .i64 0] xss.length) 3)).ownsRow wo.heap.size 3 1 (.slice (some ⟨wo.heap.size, 0, none⟩) xss.length xss.length) xss.length (List.replicate xss.length (.int .i64 0)) := by
                  have h := World.ownsRow_lit (base := wo.heap.size) (e := 3) (size := 1) wo (madeCells #[.int .i64 0] xss.length) xss.length (Nat.le_refl _) (by unfold maxLen; omega) (by rw [size_madeCells]; omega)
                  rw [made_list] at h
                  exact h
                have hIa := hI.below ((Below.refl n₀ wo).alloc (by omega) (.cells (madeCells #[.int .i64 0] xss.length) 3))
                have hone : ∀ u ∈ xs.map (Value.int .i64), u.oneCell' = true := fun u hu => by obtain ⟨x, _, rfl⟩ := List.mem_map.1 hu; rfl
                have HER : Hid ((bRow2 xss yss k).map (Value.int .i64) = List.replicate xss.length (Value.int .i64 0) ++ xs.map (Value.int .i64)) := Lib.hid (by rw [bRow2, HX.out, Option.getD_some, List.map_append, List.map_replicate])
                have HEL : Hid ((bRow2 xss yss k).length = xss.length + xs.length) := Lib.hid (by rw [bRow2, HX.out, Option.getD_some, List.length_append, List.length_replicate])
                have hlg : w.heap.size ≤ g := by obtain ⟨vs, hown, _⟩ := HO.out; exact (hown.lt g rfl).1
                have hag1 : some b ≠ (Value.slice (some ⟨wo.heap.size, 0, none⟩) xss.length xss.length).ownBlock := fun e => by have e' : some b = some wo.heap.size := e; cases e'; omega
                have hag2 : some b ≠ (Value.slice (some ⟨g, 0, none⟩) (xss.length + k) cap).ownBlock := fun e => by have e' : some b = some g := e; cases e'; omega
                go_wp2_with fail
                go_region_held3 (fun w' => w'.cell? ⟨b, o + k, none⟩ = some (.slice (some ⟨b2, o2, none⟩) xs.length c1))
                  (first | go_keep | (rw [hgrow4.cell_far _ (by simp; omega) hag1]; assumption) | (rw [hgrow6.cell_far _ (by simp; omega) hag2]; assumption))
                  (first
                    | ((refine step_append_lies _ (by rfl) _ _ _ (by rfl) wo.heap.size 3 i1 _ 1 8 Try.underlying36 hj hy0 hy1 hy2 rfl (by omega) (.slice (some ⟨wo.heap.size, 0, none⟩) xss.length xss.length) xss.length (List.replicate xss.length (.int .i64 0)) (by rfl) (hmade.drew) ⟨b2, o2, none⟩ xs.length c1 (xs.map (Value.int .i64)) (by rfl) (by simp) (ints_news hIa) hone (by omega) (by unfold maxLen; omega) (by omega) (by simp) (wo.heap.size + 1) (by simp) ?_
                        intro g2 cap2 w4 hown4 hgrow4 _ _
                        have hB4 : Below wo.heap.size wo w4 := (((Below.refl _ wo).alloc (Nat.le_refl _) _).drew).grown hgrow4 (by simp) (fun r e => by have e' : some wo.heap.size = some r := e; cases e'; exact Nat.le_refl _)
                        have hs4 := hB4.size
                        have HRow : Hid (w4.ownsRow w.heap.size 3 1 (.slice (some ⟨g2, 0, none⟩) (xss.length + xs.length) cap2) (bRow2 xss yss k).length ((bRow2 xss yss k).map (Value.int .i64))) := Lib.hid (by rw [HER.out, HEL.out]; exact Joins.ownsRow_le hown4 hws)
                        obtain ⟨vs, hown, hrows⟩ := HO.out.below hB4
                        rw [bRows2_length] at hown
                        have HW := Lib.hid hrows
                        have hBr : Below w.heap.size w w4 := hB.trans (hB4.mono hws)
                        clear hrows hown4))
                    | ((refine step_append_lies _ (by rfl) _ _ _ (by rfl) w.heap.size 36 i0 _ 1 24 Try.underlying24 hi hz0 hz1 hz2 rfl (by omega) (.slice (some ⟨g, 0, none⟩) (xss.length + k) cap) (xss.length + k) vs (by rfl) (hown.alloc _) ⟨w4.heap.size, 0, none⟩ 1 1 [.slice (some ⟨g2, 0, none⟩) (xss.length + xs.length) cap2] (by rfl) (by rfl) (World.news_of_block (cs := #[.slice (some ⟨g2, 0, none⟩) (xss.length + xs.length) cap2]) (t := 36) (fr := (0, 0)) (heap_alloc_new w4 _)) (by simp [Value.oneCell']) (by omega) (by unfold maxLen; omega) (by omega) (by simp; omega) (w4.heap.size + 1) (by simp) ?_
                        intro g6 cap6 w6 hown6 hgrow6 _ _
                        have HO6 := Lib.hid (OwnMat.appended (by rw [bRows2_length]; exact hown) HW.out HRow.out (by rw [bRows2_length]; exact hown6) hgrow6)
                        have hB6 : Below w.heap.size w w6 := (hBr.alloc (by omega) _).grown hgrow6 (by simp; omega) (fun r e => by have e' : some g = some r := e; cases e'; exact hlg))))
                clear hmk
                go_wp2
                go_roundw
                case rel => exact ⟨k + 1, g6, cap6, by omega, by go_num, by rw [Nat.add_assoc], Lib.hid (by rw [bRows2_succ, ← Nat.add_assoc]; exact HO6.out), hB6⟩
                case measure => simp [intOf]; omega
              · obtain rfl : k = yss.length := by omega
                go_wp2_with fail
                go_ret2
                have hm := HO.out
                rw [bRows_all HG.out HG'.out] at hm
                refine ⟨some ⟨g, 0, none⟩, cap, ⟨?_, hB⟩, by rw [rowsP_length]; exact hm⟩
                rw [rowsP_length]
                rfl
      · have hok : besOk xss yss = false := by unfold besOk; rw [hg, hg', decide_eq_false h9]; rfl
        rw [besL_no hok, hok]
        clear hok
        go_enter Try.func91, Try.ntmps91
        go_wp2_with fail
        refine (specOk_any _ _ _ _ _ hM HF.out).mono ?_
        rintro e w' ⟨rfl, rfl⟩
        go_wp2_with fail
        refine (specOk_any _ _ _ _ _ hM' HF'.out).mono ?_
        rintro e w' ⟨rfl, rfl⟩
        go_wp2_with fail
        go_ret2
        exact ⟨_, _, ⟨rfl, (Below.refl _ w).alloc (Nat.le_refl _) _⟩, OwnMat.start w (Nat.le_refl _)⟩
    · have hgn : gOk yss = false := by simpa using hg'
      have hok : besOk xss yss = false := by unfold besOk; rw [hg, hgn]; rfl
      rw [besL_no hok, hok]
      clear hok hg'
      go_enter Try.func91, Try.ntmps91
      go_wp2_with fail
      refine (specOk_any _ _ _ _ _ hM HF.out).mono ?_
      rintro e w' ⟨rfl, rfl⟩
      go_wp2_with fail
      refine (specOk_any _ _ _ _ _ hM' HF'.out).mono ?_
      rintro e w' ⟨rfl, rfl⟩
      go_wp2_with fail
      go_ret2
      exact ⟨_, _, ⟨rfl, (Below.refl _ w).alloc (Nat.le_refl _) _⟩, OwnMat.start w (Nat.le_refl _)⟩
  · have hgn : gOk xss = false := by simpa using hg
    have hok : besOk xss yss = false := by unfold besOk; rw [hgn]; rfl
    rw [besL_no hok, hok]
    clear hok hg
    go_enter Try.func91, Try.ntmps91
    go_wp2_with fail
    refine (specOk_any _ _ _ _ _ hM HF.out).mono ?_
    rintro e w' ⟨rfl, rfl⟩
    go_wp2_with fail
    go_ret2
    exact ⟨_, _, ⟨rfl, (Below.refl _ w).alloc (Nat.le_refl _) _⟩, OwnMat.start w (Nat.le_refl _)⟩

theorem specBeside (a a' : Option Addr) (c c' : Nat) (xss yss : List (List Int)) (n₀ : Nat) (w : World) (hM : Mat n₀ w a xss) (hM' : Mat n₀ w a' yss) (hn₀ : n₀ ≤ w.heap.size) (hF : Fit xss) (hF' : Fit yss) :
    Calls Try.prog 91 #[.slice a xss.length c, .slice a' yss.length c'] w (ReadB (besL xss yss) (besOk xss yss) w) := (specBesideO a a' c c' xss yss n₀ w hM hM' hn₀ hF hF').mono fun _ _ h => h.read

end Go.Proofs.Ytkkifphpogfjfaa
