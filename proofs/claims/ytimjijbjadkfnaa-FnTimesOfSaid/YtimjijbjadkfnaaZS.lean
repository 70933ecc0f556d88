/-
  Several texts in one.
  The nodes of a product: impl.pairsWith; impl.timesOk.
  impl.TimesOf, impl.SquareOf, walked.
-/
import Derived.Test.YtimjijbjadkfnaaZT
import Derived.Test.YtimjijbjadkfnaaZJ
import Derived.Deep.AppendLies
namespace Go.Proofs.Ytimjijbjadkfnaa
open Go.RowKit Go.Shelf Go.Deep

theorem infoPair : (Try.prog.info? 64).map (fun i => (i.zero, i.size, i.bytes)) = some (some (.agg #[.int .i64 0, .int .i64 0]), 2, 16) := by kernel_rfl
theorem make_pairs (N : Nat) (hN : N ≤ 9) (w : World) : (Instr.makeSlice 61 (.int .i64 0) (.int .i64 (N : Int))).run Try.prog w = .ok (.slice (some ⟨w.heap.size, 0, none⟩) 0 N) (w.alloc (.cells (madeCells (Value.agg #[.int .i64 0, .int .i64 0]).cells (N * 2)) 64)) := by
  obtain ⟨i, hi, hz0, hz1, hz2⟩ := info_parts infoPair
  have hr := run_make (P := Try.prog) w 61 64 i (.agg #[.int .i64 0, .int .i64 0]) Try.underlying61 hi hz0 .i64 .i64 0 (N : Int) (Int.le_refl _) (by omega) (by rw [hz2]; omega) (by omega)
  simp only [Int.toNat_zero, Int.toNat_natCast, hz1] at hr
  exact hr

/-- THE PAIRS, cell by cell, as far as the t-th one. -/
def pfl (m t : Nat) : List Value := (List.range t).flatMap fun z => [.int .i64 ((z / m : Nat) : Int), .int .i64 ((z % m : Nat) : Int)]
theorem pfl_succ (m t : Nat) : pfl m (t + 1) = pfl m t ++ [.int .i64 ((t / m : Nat) : Int), .int .i64 ((t % m : Nat) : Int)] := by simp [pfl, List.range_succ]
theorem pfl_length (m : Nat) : ∀ t, (pfl m t).length = t * 2
  | 0 => rfl
  | t + 1 => by rw [pfl_succ, List.length_append, pfl_length m t]; simp; omega
theorem pfl_get (m : Nat) : ∀ (t z : Nat), z < t → (pfl m t)[2 * z]? = some (.int .i64 ((z / m : Nat) : Int)) ∧ (pfl m t)[2 * z + 1]? = some (.int .i64 ((z % m : Nat) : Int))
  | 0, z, h => absurd h (Nat.not_lt_zero _)
  | t + 1, z, h => by
    rw [pfl_succ]
    have hl := pfl_length m t
    by_cases hz : z < t
    · obtain ⟨h1, h2⟩ := pfl_get m t z hz
      exact ⟨by rw [List.getElem?_append_left (by omega)]; exact h1, by rw [List.getElem?_append_left (by omega)]; exact h2⟩
    · obtain rfl : z = t := by omega
      refine ⟨?_, ?_⟩
      · rw [List.getElem?_append_right (by omega), hl, show 2 * z - z * 2 = 0 by omega]; rfl
      · rw [List.getElem?_append_right (by omega), hl, show 2 * z + 1 - z * 2 = 1 by omega]; rfl

theorem pfl_next {m i j : Nat} (hj : j < m) : pfl m (i * m + j + 1) = pfl m (i * m + j) ++ [.int .i64 (i : Int), .int .i64 (j : Int)] := by rw [pfl_succ, pair_div hj, pair_mod hj]

/-- THE LIST OF ALL PAIRS, in memory of its own. -/
def Pairs (base n m : Nat) (W : World) (g cap : Nat) : Prop := W.ownsRow base 64 2 (.slice (some ⟨g, 0, none⟩) (n * m) cap) (n * m) (pfl m (n * m))

theorem below1 (V : World) (o : Obj) : Below V.heap.size V (V.alloc o).drew := ((Below.refl _ V).alloc (Nat.le_refl _) o).drew
theorem below2 (V : World) (o o' : Obj) : Below V.heap.size V ((V.alloc o).alloc o').drew := (((Below.refl _ V).alloc (Nat.le_refl _) o).alloc (by simp) o').drew
theorem below3 (V : World) (o o' o'' : Obj) : Below V.heap.size V (((V.alloc o).alloc o').alloc o'').drew := ((((Below.refl _ V).alloc (Nat.le_refl _) o).alloc (by simp) o').alloc (by simp; omega) o'').drew
theorem below3' (V : World) (o o' o'' : Obj) : Below V.heap.size V (((V.alloc o).alloc o').drew.alloc o'') := ((((Below.refl _ V).alloc (Nat.le_refl _) o).alloc (by simp) o').drew.alloc (by show V.heap.size ≤ ((V.alloc o).alloc o').heap.size; simp; omega) o'')

set_option maxRecDepth 100000 in
set_option maxHeartbeats 4000000 in
theorem pairsWith_any (a a' : Option Addr) (n m c c' : Nat) (w : World) (hn : 1 ≤ n) (hm : 1 ≤ m) (h9 : n * m ≤ 9) :
    Calls Try.prog 56 #[.agg #[.slice a n c], .agg #[.slice a' m c']] w fun e w' => ∃ g cap, e = .returned (.slice (some ⟨g, 0, none⟩) (n * m) cap) ∧ Below w.heap.size w w' ∧ Pairs w.heap.size n m w' g cap := by
  have hp0 : (0 : Int) ≤ (n : Int) * (m : Int) := by rw [← Int.natCast_mul]; omega
  have hp1 : (n : Int) * (m : Int) ≤ 9 := by rw [← Int.natCast_mul]; omega
  have hn9 : n ≤ 9 := Nat.le_trans (Nat.le_mul_of_pos_right n hm) h9
  have hm9 : m ≤ 9 := Nat.le_trans (Nat.le_mul_of_pos_left m hn) h9
  obtain ⟨i1, hj, hy0, hy1, hy2⟩ := info_parts infoPair
  have hmk := make_pairs (n * m) h9
  rw [Int.natCast_mul] at hmk
  have ew : IntKind.i64.wrap ((n : Int) * (m : Int)) = (n : Int) * (m : Int) := by simp [IntKind.wrap, IntKind.bits, IntKind.signed]; omega
  have es : ∀ (W : World) (o : Obj), (W.alloc o).heap.size = W.heap.size + 1 := fun W o => by simp
  go_enter Try.func56, Try.ntmps56
  go_wp2_with fail
  have bG := (Boxed.new w 45 (.slice a n c)).alloc (.cells #[.slice a' m c'] 45)
  have bH := Boxed.new (w.alloc (.cells #[.slice a n c] 45)) 45 (.slice a' m c')
  rw [es] at bH
  have hBV := ((Below.refl w.heap.size w).alloc (Nat.le_refl _) (.cells #[.slice a n c] 45)).alloc (by rw [es]; omega) (.cells #[.slice a' m c'] 45)
  obtain ⟨V, hV⟩ : ∃ V, (w.alloc (.cells #[.slice a n c] 45)).alloc (.cells #[.slice a' m c'] 45) = V := ⟨_, rfl⟩
  rw [hV] at bG bH hBV ⊢
  have hsV : V.heap.size = w.heap.size + 2 := by rw [← hV, es, es]
  obtain ⟨p, hp⟩ : ∃ p, p = w.heap.size := ⟨_, rfl⟩
  clear hV es
  have cG := bG.cell
  have cH := bH.cell
  rw [← hp] at cG cH ⊢
  have ltG : p < V.heap.size := by omega
  have ltH : p + 1 < V.heap.size := by omega
  have HP := Lib.hid hp
  have HSV := Lib.hid hsV
  have HBV := Lib.hid hBV
  have HK : Hid (∀ W', Below V.heap.size V W' → W'.cell? ⟨p, 0, none⟩ = some (.slice a n c) ∧ W'.cell? ⟨p + 1, 0, none⟩ = some (.slice a' m c')) := Lib.hid fun W' hb => ⟨(hb.cell (p := ⟨p, 0, none⟩) ltG).trans cG, (hb.cell (p := ⟨p + 1, 0, none⟩) ltH).trans cH⟩
  clear hp hsV bG bH hBV
  go_region_held3 (fun w' => w'.cell? ⟨p, 0, none⟩ = some (.slice a n c) ∧ w'.cell? ⟨p + 1, 0, none⟩ = some (.slice a' m c'))
    (first | (go_keep; done) | (exact HK.out _ (below3 _ _ _ _)) | (exact HK.out _ (below3' _ _ _ _)) | (exact HK.out _ (below2 _ _ _)) | (exact HK.out _ (below1 _ _)))
    (first | (go_at_call 47; refine (nodesC _ _ _ _).mono ?_; rintro e w' ⟨rfl, rfl⟩))
  rename_i hHeld
  clear hHeld
  have hown0 : Hid ((((V.alloc (.cells #[.slice a n c] 45)).alloc (.cells #[.slice a' m c'] 45)).alloc (.cells (madeCells #[Value.int .i64 0, Value.int .i64 0] (n * m * 2)) 64)).drew.ownsRow V.heap.size 64 2 (.slice (some ⟨V.heap.size + 1 + 1, 0, none⟩) 0 (n * m)) 0 []) := by
    have h := World.ownsRow_made (size := 2) (base := V.heap.size) (e := 64) ((V.alloc (.cells #[.slice a n c] 45)).alloc (.cells #[.slice a' m c'] 45)) (madeCells #[Value.int .i64 0, Value.int .i64 0] (n * m * 2)) (n * m) (by simp; omega) (by unfold maxLen; omega) (by rw [size_madeCells])
    have e2 : ((V.alloc (.cells #[.slice a n c] 45)).alloc (.cells #[.slice a' m c'] 45)).heap.size = V.heap.size + 1 + 1 := by simp
    rw [e2] at h
    exact Lib.hid h
  have hbel := Lib.hid (below3 V (.cells #[.slice a n c] 45) (.cells #[.slice a' m c'] 45) (.cells (madeCells #[Value.int .i64 0, Value.int .i64 0] (n * m * 2)) 64))
  obtain ⟨X, hX⟩ : ∃ X, (((V.alloc (.cells #[.slice a n c] 45)).alloc (.cells #[.slice a' m c'] 45)).alloc (.cells (madeCells #[Value.int .i64 0, Value.int .i64 0] (n * m * 2)) 64)).drew = X := ⟨_, rfl⟩
  rw [hX] at hown0 hbel ⊢
  clear hX hmk ew hp0 hp1
  have hcX := HK.out X hbel.out
  have cGX := hcX.1
  clear hcX cG cH
  have hszX := hbel.out.size
  go_wp2_with fail
  refine (nodesC _ _ _ _).mono ?_
  rintro e w' ⟨rfl, rfl⟩
  go_wp2_with fail
  go_loopw [5, 16] (fun v i wr => ∃ (k g cap : Nat), k ≤ n ∧ i = .int .i64 k ∧ v = .slice (some ⟨g, 0, none⟩) (k * m) cap ∧ Hid (wr.ownsRow V.heap.size 64 2 (.slice (some ⟨g, 0, none⟩) (k * m) cap) (k * m) (pfl m (k * m))) ∧ Below V.heap.size V wr)
    (fun _ i _ => n - (intOf i).toNat)
  case atStart => exact ⟨0, _, _, Nat.zero_le _, rfl, by rw [Nat.zero_mul], Lib.hid (by rw [Nat.zero_mul]; exact hown0.out.alloc _), hbel.out.alloc hszX _⟩
  case round =>
    obtain ⟨k, g, cap, hk, rfl, rfl, HO, hB⟩ := hrel
    have hws := hB.size
    by_cases hlt : k < n
    · have hcr := HK.out wr hB
      have cHr := hcr.2
      clear hcr cGX
      go_wp2_with fail
      refine (nodesC _ _ _ _).mono ?_
      rintro e w' ⟨rfl, rfl⟩
      go_wp2_with fail
      go_loopw [5, 21] (fun v i wi => ∃ (j g' cap' : Nat), j ≤ m ∧ i = .int .i64 j ∧ v = .slice (some ⟨g', 0, none⟩) (k * m + j) cap' ∧ Hid (wi.ownsRow V.heap.size 64 2 (.slice (some ⟨g', 0, none⟩) (k * m + j) cap') (k * m + j) (pfl m (k * m + j))) ∧ Below V.heap.size V wi)
        (fun _ i _ => m - (intOf i).toNat)
      case atStart => exact ⟨0, _, _, Nat.zero_le _, rfl, rfl, Lib.hid (HO.out.alloc _), hB.alloc hws _⟩
      case round =>
        obtain ⟨j, g', cap', hj', rfl, rfl, HR, hB2⟩ := hrel
        have hBs := hB2.size
        by_cases hltj : j < m
        · have hown := HR.out
          have hlg := hown.lt g' (by simp [Value.ownBlock])
          have hkm : k * m + j < n * m := pair_lt hlt hltj
          have HN := Lib.hid (pfl_next (i := k) hltj)
          go_wp2_with (at_builtin; go_must (refine wpList_append_own _ rfl _ _ 61 rfl V.heap.size 64 i1 (.agg #[.int .i64 0, .int .i64 0]) 2 16 Try.underlying61 hj hy0 hy1 hy2 rfl (by decide) _ _ _ rfl (hown.alloc _) ⟨wr.heap.size, 0, none⟩ 1 1 [.int .i64 k, .int .i64 j] rfl rfl (World.news_of_block (cs := #[.int .i64 k, .int .i64 j]) (t := 64) (fr := (0, 0)) (heap_alloc_new wr _)) (by simp [Value.oneCell']) (by unfold maxLen; omega) (by omega) (by simp; omega) ?_); go_must (intro v' w4 hown' hgrow _; obtain ⟨g2, cap2, rfl⟩ := ownsRow_succ hown'); go_must (have HO4 := Lib.hid hown'); go_must (have hB4 : Below V.heap.size V w4 := (hB2.alloc hBs _).grown hgrow (by simp; omega) (fun r e => by have e' : some g' = some r := e; cases e'; exact hlg.1)); clear hown' hgrow)
          go_roundw
          case rel => exact ⟨j + 1, g2, cap2, by omega, by go_num, rfl, Lib.hid (by rw [← Nat.add_assoc, HN.out]; exact HO4.out), hB4⟩
          case measure => simp [intOf]; omega
        · obtain rfl : j = m := by omega
          go_wp2_with fail
          go_roundw
          case rel => exact ⟨k + 1, g', cap', by omega, by go_num, by rw [Nat.succ_mul], Lib.hid (by rw [Nat.succ_mul]; exact HR.out), hB2⟩
          case measure => simp [intOf]; omega
    · obtain rfl : k = n := by omega
      go_wp2_with fail
      go_ret
      have hsz := HSV.out
      exact ⟨g, cap, rfl, HBV.out.trans (hB.mono (by omega)), Joins.ownsRow_le HO.out (by omega)⟩

end Go.Proofs.Ytimjijbjadkfnaa

namespace Go.Proofs.Ytimjijbjadkfnaa
open Go.RowKit Go.Shelf Go.Deep

set_option maxRecDepth 100000 in
set_option maxHeartbeats 1000000 in
theorem timesOk_any (a a' : Option Addr) (c c' : Nat) (G H : List (List Int)) (w : World) (hM : Mat w.heap.size w a G) (hM' : Mat w.heap.size w a' H) (hf : Fit G) (hf' : Fit H) :
    Calls Try.prog 55 #[.slice a G.length c, .slice a' H.length c'] w (Ans (.bool (timOk G H)) w) := by
  have HF := Lib.hid hf
  have HF' := Lib.hid hf'
  have hl := hf.1
  have hl' := hf'.1
  clear hf hf'
  by_cases hg : gOk G = true
  · by_cases hg' : gOk H = true
    · have h9 := (good_of hg).2.1
      have h9' := (good_of hg').2.1
      have hpm : G.length * H.length ≤ 9 * 9 := Nat.mul_le_mul h9 h9'
      have hp0 : (0 : Int) ≤ (G.length : Int) * (H.length : Int) := by rw [← Int.natCast_mul]; omega
      have hp2 : (G.length : Int) * (H.length : Int) ≤ 81 := by rw [← Int.natCast_mul]; omega
      have hz : timOk G H = decide ((G.length : Int) * (H.length : Int) ≤ 9) := by
        rw [← Int.natCast_mul]
        by_cases h : G.length * H.length ≤ 9
        · rw [timOk_yes hg hg' h, decide_eq_true (by omega)]
        · rw [timOk_no3 h, decide_eq_false (by omega)]
      rw [hz]
      clear hz hpm
      go_enter Try.func55, Try.ntmps55
      go_wp2_with fail
      refine (implOk _ _ _ _ hM HF.out).mono ?_
      rw [hg]
      rintro e w1 ⟨rfl, hB1⟩
      have hz1 := hB1.size
      have hM1' := (hM'.below hB1).more hz1
      clear hM hM'
      go_wp2_with fail
      refine (implOk _ _ _ _ hM1' HF'.out).mono ?_
      rw [hg']
      rintro e w2 ⟨rfl, hB2⟩
      have HB := Lib.hid (hB1.trans (hB2.mono hz1))
      clear hM1' hB1 hB2 hz1
      go_wp2_with fail
      go_ret
      exact ⟨rfl, HB.out⟩
    · have hn : gOk H = false := by simpa using hg'
      rw [timOk_no2 hn]
      clear hg'
      go_enter Try.func55, Try.ntmps55
      go_wp2_with fail
      refine (implOk _ _ _ _ hM HF.out).mono ?_
      rw [hg]
      rintro e w1 ⟨rfl, hB1⟩
      have hz1 := hB1.size
      have hM1' := (hM'.below hB1).more hz1
      clear hM hM'
      go_wp2_with fail
      refine (implOk _ _ _ _ hM1' HF'.out).mono ?_
      rw [hn]
      rintro e w2 ⟨rfl, hB2⟩
      have HB := Lib.hid (hB1.trans (hB2.mono hz1))
      clear hM1' hB1 hB2 hz1
      go_wp2_with fail
      go_ret
      exact ⟨rfl, HB.out⟩
  · have hn : gOk G = false := by simpa using hg
    rw [timOk_no1 hn]
    clear hg
    go_enter Try.func55, Try.ntmps55
    go_wp2_with fail
    refine (implOk _ _ _ _ hM HF.out).mono ?_
    rw [hn]
    rintro e w1 ⟨rfl, hB1⟩
    clear hM hM'
    go_wp2_with fail
    go_ret
    exact ⟨rfl, hB1⟩

theorem pairs_cells {base n m g cap : Nat} {W : World} (h : Pairs base n m W g cap) {z : Nat} (hz : z < n * m) : W.cell? ⟨g, z * 2, none⟩ = some (.int .i64 ((z / m : Nat) : Int)) ∧ W.cell? ⟨g, z * 2 + 1, none⟩ = some (.int .i64 ((z % m : Nat) : Int)) := by
  obtain ⟨h1, h2⟩ := pfl_get m (n * m) z hz
  have hc := World.ownsRow.cells h (g := g) rfl
  have e1 := hc _ _ h1
  have e2 := hc _ _ h2
  rw [Addr.add_lit] at e1 e2
  rw [Nat.zero_add, Nat.mul_comm] at e1
  rw [Nat.zero_add, Nat.mul_comm] at e2
  exact ⟨e1, e2⟩

set_option maxRecDepth 100000 in
set_option maxHeartbeats 4000000 in
theorem times1 (n₀ g cap L B B' : Nat) (a a' : Option Addr) (c c' : Nat) (G H : List (List Int)) (w : World) (hM : Mat n₀ w a G) (hM' : Mat n₀ w a' H) (hn : n₀ ≤ w.heap.size)
    (hP : ∀ z, z < G.length * H.length → w.cell? ⟨g, z * 2, none⟩ = some (.int .i64 ((z / H.length : Nat) : Int)) ∧ w.cell? ⟨g, z * 2 + 1, none⟩ = some (.int .i64 ((z % H.length : Nat) : Int))) (hg : g < w.heap.size)
    (hL : Boxed w L 61 (.slice (some ⟨g, 0, none⟩) (G.length * H.length) cap)) (hB : Boxed w B 45 (.slice a G.length c)) (hB' : Boxed w B' 45 (.slice a' H.length c')) (hOk : timOk G H = true) (i j : Nat) (hi : i < G.length * H.length) (hj : j < G.length * H.length) :
    Calls Try.prog 57 #[.int .i64 i, .int .i64 j, .pointer (some ⟨L, 0, none⟩), .pointer (some ⟨B, 0, none⟩), .pointer (some ⟨B', 0, none⟩)] w (Ans (.bool (timP G H i j)) w) := by
  obtain ⟨hG, hH, h9⟩ := timOk_of hOk
  obtain ⟨c1, c2⟩ := hP i hi
  obtain ⟨c3, c4⟩ := hP j hj
  have q1 := div_lt hi
  have q2 := div_lt hj
  have r1 := Nat.mod_lt i hH.1
  have r2 := Nat.mod_lt j hH.1
  have hz : timP G H i j = (arw G (i / H.length) (j / H.length) && arw H (i % H.length) (j % H.length)) := rfl
  rw [hz]
  clear hz
  generalize i / H.length = qi at c1 q1 ⊢
  generalize j / H.length = qj at c3 q2 ⊢
  generalize i % H.length = ri at c2 r1 ⊢
  generalize j % H.length = rj at c4 r2 ⊢
  have cL := hL.cell
  have cB := hB.cell
  have cB' := hB'.cell
  have hi0 : (0 : Int) ≤ (i : Int) := Int.natCast_nonneg _
  have hj0 : (0 : Int) ≤ (j : Int) := Int.natCast_nonneg _
  obtain ⟨N, hN⟩ : ∃ N, N = G.length * H.length := ⟨_, rfl⟩
  rw [← hN] at cL hi hj h9
  have hi1 : (i : Int) < (N : Int) := by omega
  have hj1 : (j : Int) < (N : Int) := by omega
  have HG := Lib.hid hG
  have HH := Lib.hid hH
  have HM := Lib.hid hM
  have HM' := Lib.hid hM'
  have ltL := hL.lt
  have ltB := hB.lt
  have ltB' := hB'.lt
  clear hN hP hOk hL hB hB' hG hH hM hM'
  go_enter Try.func57, Try.ntmps57
  go_wp2_with fail
  go_region
  all_goals
    have hBX := below2 w (.cells #[.int .i64 qi, .int .i64 ri] 64) (.cells #[.int .i64 qj, .int .i64 rj] 64)
    have hBY := below2 w (.cells #[.int .i64 qj, .int .i64 rj] 64) (.cells #[.int .i64 qi, .int .i64 ri] 64)
    have HX := Lib.hid hBX
    have HY := Lib.hid hBY
    clear hBX hBY
    cases hb : arw G qi qj with
    | false =>
      have HB := Lib.hid hb
      clear hb
      go_wp2_with fail
      refine (arrowC n₀ a c G _ ?_ ?_ HG.out qi qj q1 q2).mono ?_
      · exact HM.out.below (Below.mono (by first | exact HX.out | exact HY.out) hn)
      · first | exact Nat.le_trans hn HX.out.size | exact Nat.le_trans hn HY.out.size
      rintro e w' ⟨rfl, rfl⟩
      rw [HB.out]
      go_wp2_with fail
      go_ret
      exact ⟨by rw [HB.out]; rfl, by first | exact HX.out.alloc HX.out.size _ | exact HY.out.alloc HY.out.size _⟩
    | true =>
      have HB := Lib.hid hb
      clear hb
      go_wp2_with fail
      refine (arrowC n₀ a c G _ ?_ ?_ HG.out qi qj q1 q2).mono ?_
      · exact HM.out.below (Below.mono (by first | exact HX.out | exact HY.out) hn)
      · first | exact Nat.le_trans hn HX.out.size | exact Nat.le_trans hn HY.out.size
      rintro e w' ⟨rfl, rfl⟩
      rw [HB.out]
      have cX : ((((w.alloc (.cells #[.int .i64 qi, .int .i64 ri] 64)).alloc (.cells #[.int .i64 qj, .int .i64 rj] 64)).alloc (.cells #[.slice a G.length c] 45)).drew).cell? ⟨B', 0, none⟩ = some (.slice a' H.length c') := ((HX.out.alloc HX.out.size (.cells #[.slice a G.length c] 45)).cell (p := ⟨B', 0, none⟩) ltB').trans cB'
      have cY : ((((w.alloc (.cells #[.int .i64 qj, .int .i64 rj] 64)).alloc (.cells #[.int .i64 qi, .int .i64 ri] 64)).alloc (.cells #[.slice a G.length c] 45)).drew).cell? ⟨B', 0, none⟩ = some (.slice a' H.length c') := ((HY.out.alloc HY.out.size (.cells #[.slice a G.length c] 45)).cell (p := ⟨B', 0, none⟩) ltB').trans cB'
      go_wp2_with fail
      refine (arrowC n₀ a' c' H _ ?_ ?_ HH.out ri rj r1 r2).mono ?_
      · exact HM'.out.below (Below.mono (by first | exact HX.out.alloc HX.out.size _ | exact HY.out.alloc HY.out.size _) hn)
      · first | exact Nat.le_trans hn (HX.out.alloc HX.out.size _).size | exact Nat.le_trans hn (HY.out.alloc HY.out.size _).size
      rintro e w' ⟨rfl, rfl⟩
      go_wp2_with fail
      go_ret
      exact ⟨by rw [HB.out]; rfl, by first | exact (HX.out.alloc HX.out.size _).alloc (HX.out.alloc HX.out.size _).size _ | exact (HY.out.alloc HY.out.size _).alloc (HY.out.alloc HY.out.size _).size _⟩

set_option maxRecDepth 100000 in
set_option maxHeartbeats 4000000 in
theorem implTimes (a a' : Option Addr) (c c' : Nat) (G H : List (List Int)) (w : World) (hM : Mat w.heap.size w a G) (hM' : Mat w.heap.size w a' H) (hf : Fit G) (hf' : Fit H) :
    Calls Try.prog 33 #[.slice a G.length c, .slice a' H.length c'] w (MadeB (timL G H) (timOk G H) w) := by
  have hTO := timesOk_any a a' c c' G H w hM hM' hf hf'
  by_cases hok : timOk G H = true
  · rw [hok] at hTO
    rw [timL_yes hok, hok]
    obtain ⟨hG, hH, h9⟩ := timOk_of hok
    have HTO := Lib.hid hTO
    have HOK := Lib.hid hok
    have HG := Lib.hid hG
    have HH := Lib.hid hH
    have HM := Lib.hid hM
    have HM' := Lib.hid hM'
    clear hTO hok hf hf' hM hM'
    have es : ∀ (W : World) (o : Obj), (W.alloc o).heap.size = W.heap.size + 1 := fun W o => by simp
    go_enter Try.func33, Try.ntmps33
    go_wp2_with fail
    refine HTO.out.mono ?_
    rintro e w1 ⟨rfl, hB1⟩
    have hz1 := hB1.size
    go_wp2_with fail
    have bG := (Boxed.new w1 45 (.slice a G.length c)).alloc (.cells #[.slice a' H.length c'] 45)
    have bH := Boxed.new (w1.alloc (.cells #[.slice a G.length c] 45)) 45 (.slice a' H.length c')
    rw [es] at bH
    have hBV := (hB1.alloc hz1 (.cells #[.slice a G.length c] 45)).alloc (by rw [es]; omega) (.cells #[.slice a' H.length c'] 45)
    obtain ⟨V, hV⟩ : ∃ V, (w1.alloc (.cells #[.slice a G.length c] 45)).alloc (.cells #[.slice a' H.length c'] 45) = V := ⟨_, rfl⟩
    rw [hV] at bG bH hBV ⊢
    clear hV hB1 es
    have hzV := hBV.size
    obtain ⟨p, hp⟩ : ∃ p, w1.heap.size = p := ⟨_, rfl⟩
    rw [hp] at bG bH ⊢
    clear hp hz1
    refine (pairsWith_any a a' G.length H.length c c' V HG.out.1 HH.out.1 h9).mono ?_
    rintro e w2 ⟨g, cap, rfl, hB2, hP⟩
    have bG2 : Boxed w2 p _ _ := (hB2.block _ bG.lt).trans bG
    have bH2 : Boxed w2 (p + 1) _ _ := (hB2.block _ bH.lt).trans bH
    have hB02 := hBV.trans (hB2.mono hzV)
    have hz2 := hB02.size
    have hlg := (hP.lt g rfl)
    clear hB2 bG bH hBV
    go_wp2_with fail
    have bL := Boxed.new w2 61 (.slice (some ⟨g, 0, none⟩) (G.length * H.length) cap)
    have bG3 := bG2.alloc (.cells #[.slice (some ⟨g, 0, none⟩) (G.length * H.length) cap] 61)
    have bH3 := bH2.alloc (.cells #[.slice (some ⟨g, 0, none⟩) (G.length * H.length) cap] 61)
    have hP3 : Pairs V.heap.size G.length H.length _ g cap := hP.alloc (.cells #[.slice (some ⟨g, 0, none⟩) (G.length * H.length) cap] 61)
    have hB03 := hB02.alloc hz2 (.cells #[.slice (some ⟨g, 0, none⟩) (G.length * H.length) cap] 61)
    have hz3 := hB03.size
    have hg3 := World.ownsRow.lt hP3 g rfl
    clear bG2 bH2 hP hB02 hz2 hlg
    obtain ⟨X, hX⟩ : ∃ X, w2.alloc (.cells #[.slice (some ⟨g, 0, none⟩) (G.length * H.length) cap] 61) = X := ⟨_, rfl⟩
    rw [hX] at bL bG3 bH3 hP3 hB03 hz3 hg3 ⊢
    clear hX
    obtain ⟨L, hL⟩ : ∃ L, w2.heap.size = L := ⟨_, rfl⟩
    rw [hL] at bL ⊢
    clear hL
    have hMX := HM.out.below hB03
    have hMX' := HM'.out.below hB03
    have HR := Lib.hid (callsIn_wide.1 (rowsBy_in Fence.wide rfl (fun _ => trivial) rfl 57 #[.pointer (some ⟨L, 0, none⟩), .pointer (some ⟨p, 0, none⟩), .pointer (some ⟨p + 1, 0, none⟩)] (timP G H) (G.length * H.length) h9 X (enters_of Try.func57 (by kernel_rfl) rfl)
      (fun W' i j hb hi hj => by
        have hP' : Pairs V.heap.size G.length H.length W' g cap := ownsRow_below hP3 hb
        exact callsIn_wide.2 (times1 w.heap.size g cap L p (p + 1) a a' c c' G H W' (hMX.below (hb.mono hz3)) (hMX'.below (hb.mono hz3)) (Nat.le_trans hz3 hb.size) (fun z hz => pairs_cells hP' hz) (Nat.lt_of_lt_of_le hg3.2 hb.size) ((hb.block _ bL.lt).trans bL) ((hb.block _ bG3.lt).trans bG3) ((hb.block _ bH3.lt).trans bH3) HOK.out i j hi hj))))
    have cL := bL.cell
    have HB := Lib.hid hB03
    clear bL bG3 bH3 hP3 hB03 hg3 hMX hMX'
    go_wp2_with fail
    refine HR.out.mono ?_
    rintro e w3 ⟨rfl, hB4, hO⟩
    have hBZ := HB.out.trans (hB4.mono hz3)
    have HO := Lib.hid hO
    clear hB4 hO
    go_wp2
    go_ret2
    exact ⟨_, _, ⟨by rw [rowsP_length]; rfl, hBZ⟩, .inr ⟨X.heap.size + 1, fun i => X.heap.size + 3 + i, rfl, (rowsP_length _ _).symm, HO.out, by omega, fun i hi => by show w.heap.size ≤ X.heap.size + 3 + i; omega, fun i j h => by have h' : X.heap.size + 3 + i = X.heap.size + 3 + j := h; omega⟩⟩
  · have hn : timOk G H = false := by simpa using hok
    rw [hn] at hTO
    rw [timL_no hn, hn]
    have HTO := Lib.hid hTO
    clear hTO hok hn hM hM' hf hf'
    go_enter Try.func33, Try.ntmps33
    go_wp2_with fail
    refine HTO.out.mono ?_
    rintro e w1 ⟨rfl, hB1⟩
    go_wp2_with fail
    go_ret2
    exact ⟨none, 0, ⟨rfl, hB1⟩, .inl ⟨rfl, rfl, rfl⟩⟩

end Go.Proofs.Ytimjijbjadkfnaa
