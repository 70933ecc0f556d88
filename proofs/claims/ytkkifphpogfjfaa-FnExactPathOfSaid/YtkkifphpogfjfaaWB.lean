/-
  Several texts in one.
  spec.PathOf, spec.RingOf, walked.
  spec.RingOf, spec.LineOf, walked.
  spec.LongestIn, walked.
  spec.HeightsOf, walked.
  spec.LevelsOf, walked.
  spec.RingsFor, walked.
  Small facts for the laws of chapter 7.
-/
import Derived.Test.YtkkifphpogfjfaaWA
import Derived.Test.YtkkifphpogfjfaaPG
import Derived.Test.YtkkifphpogfjfaaM8
import Derived.Laws.Small
import Derived.Test.YtkkifphpogfjfaaW0
import Derived.Test.YtkkifphpogfjfaaZN
import Derived.Test.YtkkifphpogfjfaaZV
import Derived.StillTailTactics
namespace Go.Proofs.Ytkkifphpogfjfaa
open Go.RowKit Go.Shelf Go.Deep

theorem rowsP_at {n k : Nat} (p : Nat → Nat → Bool) (hk : k < n) : (rowsP n p)[k]? = some ((List.range n).map fun j => if p k j = true then 1 else 0) := by
  unfold rowsP
  rw [List.getElem?_map, List.getElem?_range hk]; rfl
theorem pat_row {n k : Nat} (hk : k < n) : (patL n)[k]? = some (if k + 1 < n then (List.replicate n (0 : Int)).set (k + 1) 1 else List.replicate n 0) := by
  unfold patL
  rw [rowsP_at _ hk]
  congr 1
  refine List.ext_getElem (by split <;> simp) fun j h1 h2 => ?_
  have hj : j < n := by simpa using h1
  by_cases hlt : k + 1 < n
  · simp only [if_pos hlt]
    rw [List.getElem_set]
    by_cases e : k + 1 = j
    · subst e; simp
    · have e' : ¬ j = k + 1 := fun h => e h.symm
      simp [e, e']
  · simp only [if_neg hlt]
    have e : ¬ j = k + 1 := by omega
    simp [e]
theorem take_at {α : Type} {l : List α} {k : Nat} {x : α} (h : l[k]? = some x) : l.take (k + 1) = l.take k ++ [x] := by rw [List.take_add_one, h]; rfl
def patI (z : Int) : List (List Int) := if 1 ≤ z ∧ z ≤ 9 then patL z.toNat else []
theorem patI_yes {n : Nat} (h1 : 1 ≤ n) (h9 : n ≤ 9) : patI n = patL n := by unfold patI; rw [if_pos (by omega), Int.toNat_natCast]
theorem patI_no {z : Int} (h : ¬ (1 ≤ z ∧ z ≤ 9)) : patI z = [] := if_neg h
/-- Rows that can be set still. -/
def MadeD (xss : List (List Int)) (w : World) (e : Ending) (w' : World) : Prop := ∃ (g cap : Nat) (GG : Nat → Nat), (e = .returned (.slice (some ⟨g, 0, none⟩) xss.length cap) ∧ Below w.heap.size w w') ∧ RowsD w.heap.size w' (.slice (some ⟨g, 0, none⟩) xss.length cap) xss.length xss.length xss GG
theorem MadeD.made {xss : List (List Int)} {w w' : World} {e : Ending} (hl : xss.length ≤ 1000) (h : MadeD xss w e w') : MadeO xss w e w' := by
  obtain ⟨g, cap, GG, h1, h2⟩ := h
  exact ⟨_, cap, h1, h2.ownMat hl⟩
theorem RowsD.grown {base k m R : Nat} {W : World} {v : Value} {xss : List (List Int)} {G : Nat → Nat} (h : RowsD base W v k m xss G) (o : Obj) (hR : R = W.heap.size) (j : Nat) (x : Value) : RowsD base ((W.alloc o).setCell ⟨R, j, none⟩ x) v k m xss G := by
  refine h.kept ⟨rfl, rfl, rfl, by simp, fun b hb _ => ?_⟩
  subst hR
  exact (Below.heap_setCell (W.alloc o) ⟨W.heap.size, j, none⟩ x b (by show b ≠ W.heap.size; omega)).trans (Below.heap_alloc W o b hb)

set_option maxRecDepth 100000 in
set_option maxHeartbeats 8000000 in
theorem specPatD (z : Int) (w : World) :
    Calls Try.prog 20 #[.int .i64 z] w (MadeD (patI z) w) := by
  obtain ⟨i0, hi, hz0, hz1, hz2⟩ := info_parts infoInts
  by_cases hz : 1 ≤ z ∧ z ≤ 9
  · obtain ⟨n, rfl⟩ : ∃ n : Nat, z = (n : Int) := ⟨z.toNat, by omega⟩
    have hn1 : 1 ≤ n := by omega
    have hn9 : n ≤ 9 := by omega
    have hni : (n : Int) ≤ 9 := by omega
    rw [patI_yes hn1 hn9]
    have HPL := Lib.hid (pat_len n)
    clear hz
    go_enter Try.func20, Try.ntmps20
    go_wp2_with fail
    go_loopw [3, 4] (fun v i wr => ∃ (k g cap : Nat) (GG : Nat → Nat), k ≤ n ∧ i = .int .i64 k ∧ v = .slice (some ⟨g, 0, none⟩) k cap ∧ Hid (RowsD w.heap.size wr (.slice (some ⟨g, 0, none⟩) k cap) k n ((patL n).take k) GG) ∧ Below w.heap.size w wr) (fun _ i _ => n - (intOf i).toNat)
    case atStart => exact ⟨0, _, _, _, Nat.zero_le _, rfl, rfl, Lib.hid (RowsD.start w (Nat.le_refl _) n), (Below.refl _ _).alloc (Nat.le_refl _) _⟩
    case round =>
      obtain ⟨k, g, cap, GG, hk, rfl, rfl, HR, hB⟩ := hrel
      have hws := hB.size
      by_cases hlt : k < n
      · have hmk := run_make_row' (P := Try.prog) 36 3 (.int .i64 0) 8 Try.underlying36 infoInt rfl .i64 .i64 n (by omega) (by omega)
        have hki : (k : Int) < (n : Int) := by omega
        have HNE : Hid (∀ i, i < k → GG i ≠ wr.heap.size) := Lib.hid fun i hik e => by
          have hrow : ∃ xs, ((patL n).take k)[i]? = some xs := ⟨_, List.getElem?_eq_getElem (by rw [List.length_take, HPL.out]; omega)⟩
          obtain ⟨xs, hxs⟩ := hrow
          obtain ⟨_, _, h3⟩ := HR.out.row i xs hxs
          have := h3.lt; omega
        by_cases hlast : k + 1 < n
        · have hkl : (k : Int) + 1 < (n : Int) := by omega
          have HROW : Hid ((patL n).take (k + 1) = (patL n).take k ++ [(List.replicate n (0 : Int)).set (k + 1) 1]) := Lib.hid (take_at (by rw [pat_row hlt, if_pos hlast]))
          have HB0 := RowBlk.made wr n
          have hX : (wr.alloc (.cells (madeCells #[.int .i64 0] n) 3)).setCell ⟨wr.heap.size, k + 1, none⟩ (.int .i64 1) = wr.alloc (.cells ((madeCells #[.int .i64 0] n).setIfInBounds (k + 1) (.int .i64 1)) 3) := World.setCell_alloc_new _ _ _ _
          have HBL := Lib.hid (HB0.store (k + 1) 1)
          have hcz : (wr.alloc (.cells (madeCells #[.int .i64 0] n) 3)).cell? ⟨wr.heap.size, k + 1, none⟩ = some (.int .i64 0) := HB0.cell (by simp [hlast])
          have hfz := HB0.blk.frozen (k + 1)
          have HR1 := Lib.hid (HR.out.grown (.cells (madeCells #[.int .i64 0] n) 3) rfl (k + 1) (.int .i64 1))
          have hB1 : Below w.heap.size w ((wr.alloc (.cells (madeCells #[.int .i64 0] n) 3)).setCell ⟨wr.heap.size, k + 1, none⟩ (.int .i64 1)) := (hB.alloc hws _).setCell (p := ⟨wr.heap.size, k + 1, none⟩) hws _
          rw [hX] at HBL HR1 hB1
          have HCN : Hid (∀ j u, [Value.slice (some ⟨wr.heap.size, 0, none⟩) n n][j]? = some u → ((wr.alloc (.cells ((madeCells #[.int .i64 0] n).setIfInBounds (k + 1) (.int .i64 1)) 3)).alloc (.cells #[.slice (some ⟨wr.heap.size, 0, none⟩) n n] 36)).cell? ((⟨wr.heap.size + 1, 0, none⟩ : Addr).add j) = some u) := Lib.hid (by
            have h := cell_one_new (wr.alloc (.cells ((madeCells #[.int .i64 0] n).setIfInBounds (k + 1) (.int .i64 1)) 3)) (.slice (some ⟨wr.heap.size, 0, none⟩) n n) 36
            rw [World.size_alloc] at h
            exact h)
          clear hX
          have hws1 := hB1.size
          have hown := HR1.out.own
          have hlg := hown.lt g (by simp [Value.ownBlock])
          have hrb := hws
          clear HB0
          go_wp2_with (at_builtin; go_must (refine wpList_append_own _ rfl _ _ 24 rfl w.heap.size 36 i0 (.slice none 0 0) 1 24 Try.underlying24 hi hz0 hz1 hz2 rfl (by decide) _ _ _ rfl (hown.alloc _) ⟨wr.heap.size + 1, 0, none⟩ 1 1 [.slice (some ⟨wr.heap.size, 0, none⟩) n n] rfl rfl HCN.out (by simp [Value.oneCell']) (by unfold maxLen; omega) (by omega) (by simp; omega) ?_); go_must (intro v' w4 hown' hgrow _; obtain ⟨g', cap', rfl⟩ := ownsRow_succ hown'); go_must (have HO4 := Lib.hid (HR1.out.appended HBL.out (by simp) hrb HNE.out hown' hgrow)); go_must (have hB4 : Below w.heap.size w w4 := (hB1.alloc hws1 _).grown hgrow (by simp; omega) (fun r e => by have e' : some g = some r := e; cases e'; exact hlg.1)); clear hown' hgrow)
          go_roundw
          case rel => exact ⟨k + 1, g', cap', _, by omega, by go_num, rfl, Lib.hid (by rw [HROW.out]; exact HO4.out), hB4⟩
          case measure => simp [intOf]; omega
        · have hkl : ¬ (k : Int) + 1 < (n : Int) := by omega
          have HROW : Hid ((patL n).take (k + 1) = (patL n).take k ++ [List.replicate n (0 : Int)]) := Lib.hid (take_at (by rw [pat_row hlt, if_neg hlast]))
          have HBL := Lib.hid (RowBlk.made wr n)
          have HR1 : Hid (RowsD w.heap.size (wr.alloc (.cells (madeCells #[.int .i64 0] n) 3)) (.slice (some ⟨g, 0, none⟩) k cap) k n ((patL n).take k) GG) := Lib.hid (HR.out.kept (World.grownBy_alloc _ _ _))
          have hB1 : Below w.heap.size w (wr.alloc (.cells (madeCells #[.int .i64 0] n) 3)) := hB.alloc hws _
          have HCN : Hid (∀ j u, [Value.slice (some ⟨wr.heap.size, 0, none⟩) n n][j]? = some u → ((wr.alloc (.cells (madeCells #[.int .i64 0] n) 3)).alloc (.cells #[.slice (some ⟨wr.heap.size, 0, none⟩) n n] 36)).cell? ((⟨wr.heap.size + 1, 0, none⟩ : Addr).add j) = some u) := Lib.hid (by
            have h := cell_one_new (wr.alloc (.cells (madeCells #[.int .i64 0] n) 3)) (.slice (some ⟨wr.heap.size, 0, none⟩) n n) 36
            rw [World.size_alloc] at h
            exact h)
          have hws1 := hB1.size
          have hown := HR1.out.own
          have hlg := hown.lt g (by simp [Value.ownBlock])
          have hrb := hws
          go_wp2_with (at_builtin; go_must (refine wpList_append_own _ rfl _ _ 24 rfl w.heap.size 36 i0 (.slice none 0 0) 1 24 Try.underlying24 hi hz0 hz1 hz2 rfl (by decide) _ _ _ rfl (hown.alloc _) ⟨wr.heap.size + 1, 0, none⟩ 1 1 [.slice (some ⟨wr.heap.size, 0, none⟩) n n] rfl rfl HCN.out (by simp [Value.oneCell']) (by unfold maxLen; omega) (by omega) (by simp; omega) ?_); go_must (intro v' w4 hown' hgrow _; obtain ⟨g', cap', rfl⟩ := ownsRow_succ hown'); go_must (have HO4 := Lib.hid (HR1.out.appended HBL.out (by simp) hrb HNE.out hown' hgrow)); go_must (have hB4 : Below w.heap.size w w4 := (hB1.alloc hws1 _).grown hgrow (by simp; omega) (fun r e => by have e' : some g = some r := e; cases e'; exact hlg.1)); clear hown' hgrow)
          go_roundw
          case rel => exact ⟨k + 1, g', cap', _, by omega, by go_num, rfl, Lib.hid (by rw [HROW.out]; exact HO4.out), hB4⟩
          case measure => simp [intOf]; omega
      · obtain rfl : k = n := by omega
        have HR2 : Hid (RowsD w.heap.size wr (.slice (some ⟨g, 0, none⟩) k cap) k k (patL k) GG) := Lib.hid (by
          have h := HR.out
          rwa [List.take_of_length_le (by rw [HPL.out]; exact Nat.le_refl _)] at h)
        clear HR
        go_wp2_with fail
        go_ret
        exact ⟨g, cap, GG, ⟨by rw [HPL.out]; rfl, hB⟩, by rw [HPL.out]; exact HR2.out⟩
  · rw [patI_no hz]
    by_cases hlow : z ≤ 0
    · have hl0 : ¬ (0 : Int) < z := by omega
      go_enter Try.func20, Try.ntmps20
      go_wp2_with fail
      go_loopw [3, 4] (fun v i wr => i = .int .i64 0 ∧ v = .slice (some ⟨w.heap.size, 0, none⟩) 0 0 ∧ wr = w.alloc (.cells #[] 36)) (fun _ _ _ => 0)
      case atStart => exact ⟨rfl, rfl, rfl⟩
      case round =>
        obtain ⟨rfl, rfl, rfl⟩ := hrel
        go_wp2_with fail
        go_ret
        exact ⟨_, 0, _, ⟨rfl, (Below.refl _ w).alloc (Nat.le_refl _) _⟩, RowsD.start w (Nat.le_refl _) 0⟩
    · have hl0 : (0 : Int) < z := by omega
      have hl9 : ¬ z ≤ 9 := by omega
      go_enter Try.func20, Try.ntmps20
      go_wp2_with fail
      go_loopw [3, 4] (fun v i wr => i = .int .i64 0 ∧ v = .slice (some ⟨w.heap.size, 0, none⟩) 0 0 ∧ wr = w.alloc (.cells #[] 36)) (fun _ _ _ => 0)
      case atStart => exact ⟨rfl, rfl, rfl⟩
      case round =>
        obtain ⟨rfl, rfl, rfl⟩ := hrel
        go_wp2_with fail
        go_ret
        exact ⟨_, 0, _, ⟨rfl, (Below.refl _ w).alloc (Nat.le_refl _) _⟩, RowsD.start w (Nat.le_refl _) 0⟩

end Go.Proofs.Ytkkifphpogfjfaa

namespace Go.Proofs.Ytkkifphpogfjfaa
open Go.RowKit Go.Shelf Go.Deep

theorem rin_pat : ∀ k, k < 9 → (patL (k + 1)).set k ((List.replicate (k + 1) (0 : Int)).set 0 1) = rinL (k + 1) := by decide +kernel
def rinI (z : Int) : List (List Int) := if 1 ≤ z ∧ z ≤ 9 then rinL z.toNat else []
theorem rinI_yes {n : Nat} (h1 : 1 ≤ n) (h9 : n ≤ 9) : rinI n = rinL n := by unfold rinI; rw [if_pos (by omega), Int.toNat_natCast]
theorem rinI_no {z : Int} (h : ¬ (1 ≤ z ∧ z ≤ 9)) : rinI z = [] := if_neg h

set_option maxRecDepth 100000 in
set_option maxHeartbeats 4000000 in
theorem specRinD (z : Int) (w : World) :
    Calls Try.prog 32 #[.int .i64 z] w (MadeD (rinI z) w) := by
  have HP := Lib.hid (specPatD z w)
  by_cases hz : 1 ≤ z ∧ z ≤ 9
  · obtain ⟨n, rfl⟩ : ∃ n : Nat, z = (n : Int) := ⟨z.toNat, by omega⟩
    have hn1 : 1 ≤ n := by omega
    have hn9 : n ≤ 9 := by omega
    have hni : (n : Int) ≤ 9 := by omega
    rw [rinI_yes hn1 hn9]
    rw [patI_yes hn1 hn9] at HP
    have HPL := Lib.hid (pat_len n)
    have HRL := Lib.hid (rin_len n)
    have HRP : Hid ((patL n).set (n - 1) ((List.replicate n (0 : Int)).set 0 1) = rinL n) := Lib.hid (by
      have h := rin_pat (n - 1) (by omega)
      rw [show n - 1 + 1 = n by omega] at h
      exact h)
    have HLR : Hid ((patL n)[n - 1]? = some (List.replicate n 0)) := Lib.hid (by rw [pat_row (by omega), if_neg (by omega)])
    clear hz
    go_enter Try.func32, Try.ntmps32
    go_wp2_with fail
    refine HP.out.mono ?_
    rintro e w1 h
    obtain ⟨g, cap, GG, ⟨he, hB1⟩, hR⟩ := h
    rw [HPL.out] at he hR
    subst he
    have hz1 := hB1.size
    have hcg := hR.head (i := n - 1) (by omega)
    obtain ⟨_, hgb, hrb⟩ := hR.row (n - 1) _ HLR.out
    have hc0 : w1.cell? ⟨GG (n - 1), 0, none⟩ = some (.int .i64 0) := hrb.cell (by rw [List.getElem?_replicate, if_pos (by omega)])
    have hf0 := hrb.blk.frozen 0
    have hS := hR.store HLR.out 0 1
    rw [HRP.out] at hS
    have HS := Lib.hid hS
    have hBs : Below w.heap.size w (w1.setCell ⟨GG (n - 1), 0, none⟩ (.int .i64 1)) := hB1.setCell (p := ⟨GG (n - 1), 0, none⟩) hgb _
    have hnn : (n : Int) - 1 = ((n - 1 : Nat) : Int) := by omega
    have hnl : n - 1 < n := by omega
    obtain ⟨q, hq⟩ : ∃ q, n - 1 = q := ⟨_, rfl⟩
    rw [hq] at hcg hc0 hf0 HS hBs hnn hnl
    clear hR hS hrb hgb hq
    go_wp2_with fail
    go_ret
    exact ⟨g, cap, GG, ⟨by rw [HRL.out]; rfl, hBs⟩, by rw [HRL.out]; exact HS.out⟩
  · rw [rinI_no hz]
    rw [patI_no hz] at HP
    clear hz
    go_enter Try.func32, Try.ntmps32
    go_wp2_with fail
    refine HP.out.mono ?_
    rintro e w1 h
    obtain ⟨g, cap, GG, ⟨rfl, hB1⟩, hR⟩ := h
    have HR := Lib.hid hR
    clear hR
    go_wp2_with fail
    go_ret
    exact ⟨g, cap, GG, ⟨rfl, hB1⟩, HR.out⟩

/-- A line's row, as far as it is laid. -/
def linR (k j : Nat) : List Int := (List.range j).map fun t => if k < t then 1 else 0
theorem linR_succ (k j : Nat) : linR k (j + 1) = linR k j ++ [if k < j then 1 else 0] := by simp [linR, List.range_succ]
theorem linR_len (k j : Nat) : (linR k j).length = j := by simp [linR]
theorem lin_row {n k : Nat} (hk : k < n) : (linL n)[k]? = some (linR k n) := by
  unfold linL
  rw [rowsP_at _ hk]
  simp [linR]
def linI (z : Int) : List (List Int) := if 1 ≤ z ∧ z ≤ 9 then linL z.toNat else []
theorem linI_yes {n : Nat} (h1 : 1 ≤ n) (h9 : n ≤ 9) : linI n = linL n := by unfold linI; rw [if_pos (by omega), Int.toNat_natCast]
theorem linI_no {z : Int} (h : ¬ (1 ≤ z ∧ z ≤ 9)) : linI z = [] := if_neg h

set_option maxRecDepth 100000 in
set_option maxHeartbeats 8000000 in
theorem specLinO (z : Int) (w : World) :
    Calls Try.prog 28 #[.int .i64 z] w (MadeO (linI z) w) := by
  obtain ⟨i0, hi, hz0, hz1, hz2⟩ := info_parts infoInts
  obtain ⟨i1, hj, hy0, hy1, hy2⟩ := info_parts infoInt
  by_cases hz : 1 ≤ z ∧ z ≤ 9
  · obtain ⟨n, rfl⟩ : ∃ n : Nat, z = (n : Int) := ⟨z.toNat, by omega⟩
    have hn1 : 1 ≤ n := by omega
    have hn9 : n ≤ 9 := by omega
    have hni : (n : Int) ≤ 9 := by omega
    rw [linI_yes hn1 hn9]
    have HPL := Lib.hid (lin_len n)
    clear hz
    go_enter Try.func28, Try.ntmps28
    go_wp2_with fail
    go_loopw [3, 4] (fun v i wr => ∃ (k g cap : Nat), k ≤ n ∧ i = .int .i64 k ∧ v = .slice (some ⟨g, 0, none⟩) k cap ∧ Hid (OwnMat w.heap.size wr (.slice (some ⟨g, 0, none⟩) k cap) ((linL n).take k)) ∧ Below w.heap.size w wr) (fun _ i _ => n - (intOf i).toNat)
    case atStart => exact ⟨0, _, _, Nat.zero_le _, rfl, rfl, Lib.hid (OwnMat.start w (Nat.le_refl _)), (Below.refl _ _).alloc (Nat.le_refl _) _⟩
    case round =>
      obtain ⟨k, g, cap, hk, rfl, rfl, HO, hB⟩ := hrel
      have hws := hB.size
      by_cases hlt : k < n
      · have hki : (k : Int) < (n : Int) := by omega
        have HTK : Hid ((linL n).take (k + 1) = (linL n).take k ++ [linR k n]) := Lib.hid (take_at (lin_row hlt))
        have HTL : Hid (((linL n).take k).length = k) := Lib.hid (by rw [List.length_take, HPL.out]; omega)
        have HRL := Lib.hid (linR_len k n)
        obtain ⟨wx, rfl⟩ : ∃ wx : World, wx = wr := ⟨_, rfl⟩
        go_wp2_with fail
        go_loopw [5, 6] (fun v i wr => ∃ (j g' cap' : Nat), j ≤ n ∧ i = .int .i64 j ∧ v = .slice (some ⟨g', 0, none⟩) j cap' ∧ Hid (wr.ownsRow wx.heap.size 3 1 (.slice (some ⟨g', 0, none⟩) j cap') j ((linR k j).map (Value.int .i64))) ∧ Below wx.heap.size wx wr) (fun _ i _ => n - (intOf i).toNat)
        case atStart => exact ⟨0, _, _, Nat.zero_le _, rfl, rfl, Lib.hid (World.ownsRow_lit (size := 1) wx #[] 0 (Nat.le_refl _) (Nat.zero_le _) rfl), (Below.refl _ _).alloc (Nat.le_refl _) _⟩
        case round =>
          obtain ⟨j, g', cap', hj', rfl, rfl, HR, hB2⟩ := hrel
          have hBs := hB2.size
          by_cases hlj : j < n
          · have hji : (j : Int) < (n : Int) := by omega
            have hown := HR.out
            have hlg := hown.lt g' (by simp [Value.ownBlock])
            by_cases hkj : k < j
            · have hkji : (k : Int) < (j : Int) := by omega
              have HRow : Hid (linR k (j + 1) = linR k j ++ [1]) := Lib.hid (by rw [linR_succ, if_pos hkj])
              go_wp2_with (at_builtin; go_must (refine wpList_append_own _ rfl _ _ 36 rfl wx.heap.size 3 i1 (.int .i64 0) 1 8 Try.underlying36 hj hy0 hy1 hy2 rfl (by decide) _ _ _ rfl (hown.alloc _) ⟨wr.heap.size, 0, none⟩ 1 1 [.int .i64 1] rfl rfl (cell_one_new _ _ _) (by simp [Value.oneCell']) (by unfold maxLen; omega) (by omega) (by simp; omega) ?_); go_must (intro v' w4 hown' hgrow _; obtain ⟨g2, cap2, rfl⟩ := ownsRow_succ hown'); go_must (have HO4 := Lib.hid hown'); go_must (have hB4 : Below wx.heap.size wx w4 := (hB2.alloc hBs _).grown hgrow (by simp; omega) (fun r e => by have e' : some g' = some r := e; cases e'; exact hlg.1)); clear hown' hgrow)
              go_roundw
              case rel => exact ⟨j + 1, g2, cap2, by omega, by go_num, rfl, Lib.hid (by rw [HRow.out, List.map_append]; exact HO4.out), hB4⟩
              case measure => simp [intOf]; omega
            · have hkji : ¬ (k : Int) < (j : Int) := by omega
              have HRow : Hid (linR k (j + 1) = linR k j ++ [0]) := Lib.hid (by rw [linR_succ, if_neg hkj])
              go_wp2_with (at_builtin; go_must (refine wpList_append_own _ rfl _ _ 36 rfl wx.heap.size 3 i1 (.int .i64 0) 1 8 Try.underlying36 hj hy0 hy1 hy2 rfl (by decide) _ _ _ rfl (hown.alloc _) ⟨wr.heap.size, 0, none⟩ 1 1 [.int .i64 0] rfl rfl (cell_one_new _ _ _) (by simp [Value.oneCell']) (by unfold maxLen; omega) (by omega) (by simp; omega) ?_); go_must (intro v' w4 hown' hgrow _; obtain ⟨g2, cap2, rfl⟩ := ownsRow_succ hown'); go_must (have HO4 := Lib.hid hown'); go_must (have hB4 : Below wx.heap.size wx w4 := (hB2.alloc hBs _).grown hgrow (by simp; omega) (fun r e => by have e' : some g' = some r := e; cases e'; exact hlg.1)); clear hown' hgrow)
              go_roundw
              case rel => exact ⟨j + 1, g2, cap2, by omega, by go_num, rfl, Lib.hid (by rw [HRow.out, List.map_append]; exact HO4.out), hB4⟩
              case measure => simp [intOf]; omega
          · obtain rfl : j = n := by omega
            have hO2 := HO.out.below hB2
            obtain ⟨vs, hown, hrows⟩ := hO2
            rw [HTL.out] at hown
            have HW := Lib.hid hrows
            clear hrows
            have hlg := hown.lt g (by simp [Value.ownBlock])
            have HR2 : Hid (wr.ownsRow w.heap.size 3 1 (.slice (some ⟨g', 0, none⟩) j cap') (linR k j).length ((linR k j).map (Value.int .i64))) := by
              rw [HRL.out]; exact Joins.ownsRow_le HR.out hws
            have hBr : Below w.heap.size w wr := hB.trans (hB2.mono hws)
            go_wp2_with (at_builtin; go_must (refine wpList_append_own _ rfl _ _ 24 rfl w.heap.size 36 i0 (.slice none 0 0) 1 24 Try.underlying24 hi hz0 hz1 hz2 rfl (by decide) _ _ _ rfl (hown.alloc _) ⟨wr.heap.size, 0, none⟩ 1 1 [.slice (some ⟨g', 0, none⟩) j cap'] rfl rfl (cell_one_new _ _ _) (by simp [Value.oneCell']) (by unfold maxLen; omega) (by omega) (by simp; omega) ?_); go_must (intro v' w4 hown' hgrow _; obtain ⟨g2, cap2, rfl⟩ := ownsRow_succ hown'); go_must (have HO4 := Lib.hid (OwnMat.appended (by rw [HTL.out]; exact hown) HW.out HR2.out (by rw [HTL.out]; exact hown') hgrow)); go_must (have hB4 : Below w.heap.size w w4 := (hBr.alloc (by omega) _).grown hgrow (by simp; omega) (fun r e => by have e' : some g = some r := e; cases e'; exact hlg.1)); clear hown' hgrow)
            go_roundw
            case rel => exact ⟨k + 1, g2, cap2, by omega, by go_num, rfl, Lib.hid (by rw [HTK.out]; exact HO4.out), hB4⟩
            case measure => simp [intOf]; omega
      · obtain rfl : k = n := by omega
        have HR2 : Hid (OwnMat w.heap.size wr (.slice (some ⟨g, 0, none⟩) k cap) (linL k)) := Lib.hid (by
          have h := HO.out
          rwa [List.take_of_length_le (by rw [HPL.out]; exact Nat.le_refl _)] at h)
        clear HO
        go_wp2_with fail
        go_ret
        exact ⟨_, cap, ⟨by rw [HPL.out]; rfl, hB⟩, by rw [HPL.out]; exact HR2.out⟩
  · rw [linI_no hz]
    by_cases hlow : z ≤ 0
    · have hl0 : ¬ (0 : Int) < z := by omega
      go_enter Try.func28, Try.ntmps28
      go_wp2_with fail
      go_loopw [3, 4] (fun v i wr => i = .int .i64 0 ∧ v = .slice (some ⟨w.heap.size, 0, none⟩) 0 0 ∧ wr = w.alloc (.cells #[] 36)) (fun _ _ _ => 0)
      case atStart => exact ⟨rfl, rfl, rfl⟩
      case round =>
        obtain ⟨rfl, rfl, rfl⟩ := hrel
        go_wp2_with fail
        go_ret
        exact ⟨_, 0, ⟨rfl, (Below.refl _ w).alloc (Nat.le_refl _) _⟩, OwnMat.start w (Nat.le_refl _)⟩
    · have hl0 : (0 : Int) < z := by omega
      have hl9 : ¬ z ≤ 9 := by omega
      go_enter Try.func28, Try.ntmps28
      go_wp2_with fail
      go_loopw [3, 4] (fun v i wr => i = .int .i64 0 ∧ v = .slice (some ⟨w.heap.size, 0, none⟩) 0 0 ∧ wr = w.alloc (.cells #[] 36)) (fun _ _ _ => 0)
      case atStart => exact ⟨rfl, rfl, rfl⟩
      case round =>
        obtain ⟨rfl, rfl, rfl⟩ := hrel
        go_wp2_with fail
        go_ret
        exact ⟨_, 0, ⟨rfl, (Below.refl _ w).alloc (Nat.le_refl _) _⟩, OwnMat.start w (Nat.le_refl _)⟩

end Go.Proofs.Ytkkifphpogfjfaa

namespace Go.Proofs.Ytkkifphpogfjfaa
open Go.RowKit Go.Shelf Go.Deep

def bI (b : Bool) : Int := if b = true then 1 else 0
/-- From which nodes one can go along m arrows. -/
def nowL (G : List (List Int)) (m : Nat) : List Int := (List.range G.length).map fun i => bI (wkB G m i)
theorem nowL_len (G : List (List Int)) (m : Nat) : (nowL G m).length = G.length := by simp [nowL]
theorem nowL_at {G : List (List Int)} {m i : Nat} (hi : i < G.length) : (nowL G m)[i]? = some (bI (wkB G m i)) := by
  unfold nowL
  rw [List.getElem?_map, List.getElem?_range hi]; rfl
theorem nowL_zero (G : List (List Int)) : nowL G 0 = List.replicate G.length 1 := by
  refine List.ext_getElem (by simp [nowL]) fun j h1 h2 => ?_
  simp [nowL, wkB, bI]
theorem any_next (p : Nat → Bool) (k : Nat) : (List.range (k + 1)).any p = ((List.range k).any p || p k) := by simp [List.range_succ]
theorem lng_yesR {G : List (List Int)} {m : Nat} (hg : gOk G = true) (hm : m < 9) (hall : ∀ k, 1 ≤ k → k ≤ m → wkS G k = true) (hno : wkS G (m + 1) = false) : lngI G = ((m + 1 : Nat) : Int) ∧ lngK G = true := by
  obtain ⟨n, hn, hle⟩ := (lng_le (G := G) (k := m + 1) (by omega) (by omega)).2 hno
  have h1 := lng_some hn
  have e : n = m + 1 := by
    rcases Nat.lt_or_ge n (m + 1) with hlt | hge
    · have := hall n h1.1.1 (by omega)
      rw [h1.2] at this; cases this
    · omega
  subst e
  unfold lngI lngK
  rw [hn, hg]
  exact ⟨rfl, rfl⟩
theorem lng_noR {G : List (List Int)} (hg : gOk G = true) (hall : ∀ k, 1 ≤ k → k ≤ 9 → wkS G k = true) : lngI G = -1 ∧ lngK G = false := by
  have h : lngO G = none := by
    cases h : lngO G with
    | none => rfl
    | some n =>
      have h1 := lng_some h
      have := hall n h1.1.1 h1.1.2
      rw [h1.2] at this; cases this
  unfold lngI lngK
  rw [h, hg]
  exact ⟨rfl, rfl⟩
theorem lng_badR {G : List (List Int)} (hg : gOk G = false) : lngI G = -1 ∧ lngK G = false := by
  unfold lngI lngK
  rw [hg]
  exact ⟨rfl, rfl⟩
theorem max_bI (p q : Bool) : (if bI q > bI p then bI q else bI p) = bI (p || q) := by cases p <;> cases q <;> rfl

set_option maxRecDepth 100000 in
set_option maxHeartbeats 8000000 in
theorem specLng (a : Option Addr) (c : Nat) (G : List (List Int)) (n₀ : Nat) (w : World) (hM : Mat n₀ w a G) (hn : n₀ ≤ w.heap.size) (hF : Fit G) :
    Calls Try.prog 34 #[.slice a G.length c] w (Ans (.tuple #[.int .i64 (lngI G), .bool (lngK G)]) w) := by
  obtain ⟨i1, hj, hy0, hy1, hy2⟩ := info_parts infoInt
  have HF := Lib.hid hF
  clear hF
  obtain ⟨zi, HZI⟩ : ∃ z, Hid (lngI G = z) := ⟨_, rfl⟩
  obtain ⟨zk, HZK⟩ : ∃ z, Hid (lngK G = z) := ⟨_, rfl⟩
  rw [HZI.out, HZK.out]
  by_cases hg : gOk G = true
  · have HG := Lib.hid (good_of hg)
    have h1 := HG.out.1
    have h9 := HG.out.2.1
    have HYes : Hid (∀ m, m < 9 → (∀ k, 1 ≤ k → k ≤ m → wkS G k = true) → wkS G (m + 1) = false → zi = ((m + 1 : Nat) : Int) ∧ zk = true) := Lib.hid fun m hm h h2 => by
      have h3 := lng_yesR hg hm h h2
      rw [HZI.out, HZK.out] at h3; exact h3
    have HNo : Hid ((∀ k, 1 ≤ k → k ≤ 9 → wkS G k = true) → zi = -1 ∧ zk = false) := Lib.hid fun h => by
      have h3 := lng_noR hg h
      rw [HZI.out, HZK.out] at h3; exact h3
    go_enter Try.func34, Try.ntmps34
    go_wp2_with fail
    refine (specOk_any _ _ _ n₀ _ hM HF.out).mono ?_
    rintro e w' ⟨rfl, rfl⟩
    rw [hg]
    clear hg
    go_wp2_with fail
    go_loopw [4, 5] (fun v i wr => ∃ (k g cap : Nat), k ≤ G.length ∧ i = .int .i64 k ∧ v = .slice (some ⟨g, 0, none⟩) k cap ∧ Hid (wr.ownsRow w.heap.size 3 1 (.slice (some ⟨g, 0, none⟩) k cap) k ((List.replicate k (1 : Int)).map (Value.int .i64))) ∧ Below w.heap.size w wr) (fun _ i _ => G.length - (intOf i).toNat)
    case atStart => exact ⟨0, _, _, Nat.zero_le _, rfl, rfl, Lib.hid (World.ownsRow_lit (size := 1) w #[] 0 (Nat.le_refl _) (Nat.zero_le _) rfl), (Below.refl _ _).alloc (Nat.le_refl _) _⟩
    case round =>
      obtain ⟨k, g, cap, hk, rfl, rfl, HR, hB⟩ := hrel
      have hBs := hB.size
      by_cases hlt : k < G.length
      · have hki : (k : Int) < (G.length : Int) := by omega
        have hown := HR.out
        have hlg := hown.lt g (by simp [Value.ownBlock])
        go_wp2_with (at_builtin; go_must (refine wpList_append_own _ rfl _ _ 36 rfl w.heap.size 3 i1 (.int .i64 0) 1 8 Try.underlying36 hj hy0 hy1 hy2 rfl (by decide) _ _ _ rfl (hown.alloc _) ⟨wr.heap.size, 0, none⟩ 1 1 [.int .i64 1] rfl rfl (cell_one_new _ _ _) (by simp [Value.oneCell']) (by unfold maxLen; omega) (by omega) (by simp; omega) ?_); go_must (intro v' w4 hown' hgrow _; obtain ⟨g2, cap2, rfl⟩ := ownsRow_succ hown'); go_must (have HO4 := Lib.hid hown'); go_must (have hB4 : Below w.heap.size w w4 := (hB.alloc hBs _).grown hgrow (by simp; omega) (fun r e => by have e' : some g = some r := e; cases e'; exact hlg.1)); clear hown' hgrow)
        go_roundw
        case rel => exact ⟨k + 1, g2, cap2, by omega, by go_num, rfl, Lib.hid (by rw [List.replicate_succ', List.map_append]; exact HO4.out), hB4⟩
        case measure => simp [intOf]; omega
      · obtain rfl : k = G.length := by omega
        have HRN : Hid (wr.ownsRow w.heap.size 3 1 (.slice (some ⟨g, 0, none⟩) G.length cap) G.length ((nowL G 0).map (Value.int .i64))) := Lib.hid (by rw [nowL_zero]; exact HR.out)
        have hB0 := hB
        clear HR hB hlt hk hBs
        go_wp2_with fail
        go_loopw [4, 6] (fun v i wr => ∃ (m g cap : Nat), m ≤ 9 ∧ i = .int .i64 ((m : Int) + 1) ∧ v = .slice (some ⟨g, 0, none⟩) G.length cap ∧ Hid (wr.ownsRow w.heap.size 3 1 (.slice (some ⟨g, 0, none⟩) G.length cap) G.length ((nowL G m).map (Value.int .i64))) ∧ Below w.heap.size w wr ∧ Hid (∀ q, 1 ≤ q → q ≤ m → wkS G q = true)) (fun _ i _ => 10 - (intOf i).toNat)
        case atStart => exact ⟨0, g, cap, Nat.zero_le _, rfl, rfl, HRN, hB0, Lib.hid fun q h1 h2 => by omega⟩
        case round =>
          clear HRN hB0
          obtain ⟨m, g, cap, hm, rfl, rfl, HN, hB, HW⟩ := hrel
          have hBs := hB.size
          by_cases hlm : m < 9
          · have hmi : (m : Int) + 1 ≤ 9 := by omega
            obtain ⟨wx, rfl⟩ : ∃ wx : World, wx = wr := ⟨_, rfl⟩
            go_wp2_with fail
            go_loopw [7, 8, 9] (fun v s i wr => ∃ (j g' cap' : Nat), j ≤ G.length ∧ i = .int .i64 j ∧ s = .int .i64 (bI ((List.range j).any (wkB G (m + 1)))) ∧ v = .slice (some ⟨g', 0, none⟩) j cap' ∧ Hid (wr.ownsRow wx.heap.size 3 1 (.slice (some ⟨g', 0, none⟩) j cap') j (((nowL G (m + 1)).take j).map (Value.int .i64))) ∧ Below wx.heap.size wx wr) (fun _ _ i _ => G.length - (intOf i).toNat)
            case atStart => exact ⟨0, _, _, Nat.zero_le _, rfl, rfl, rfl, Lib.hid (World.ownsRow_lit (size := 1) wx #[] 0 (Nat.le_refl _) (Nat.zero_le _) rfl), (Below.refl _ _).alloc (Nat.le_refl _) _⟩
            case round =>
              obtain ⟨j, g', cap', hjk, rfl, rfl, rfl, HR, hB2⟩ := hrel
              have hBs2 := hB2.size
              by_cases hlj : j < G.length
              · have hIN : Ints wx.heap.size wr (some ⟨g, 0, none⟩) (nowL G m) := (own_intsQ (c := cap) (by rw [nowL_len]; exact HN.out)).below hB2
                obtain ⟨b, o, a1, c1, xs, rfl, hb, hc, hX, HX⟩ := (hM.below ((hB.mono hn).trans (hB2.mono (Nat.le_trans hn hBs)))).at_ (k := j) (hlj)
                have HE := Lib.hid (HG.out.len HX.out)
                obtain ⟨wy, rfl⟩ : ∃ wy : World, wy = wr := ⟨_, rfl⟩
                go_wp2_with fail
                go_loopw [10, 11] (fun x i wt => ∃ (l : Nat), l ≤ G.length ∧ i = .int .i64 l ∧ x = .int .i64 (bI ((List.range l).any fun l => arw G j l && wkB G m l)) ∧ wt = wy) (fun _ i _ => G.length - (intOf i).toNat)
                case atStart => exact ⟨0, Nat.zero_le _, rfl, rfl, rfl⟩
                case round =>
                  obtain ⟨l, hlk, rfl, rfl, rfl⟩ := hrel
                  obtain ⟨wz, rfl⟩ : ∃ wz : World, wz = wr := ⟨_, rfl⟩
                  by_cases hll : l < G.length
                  · obtain ⟨b4, o4, v, rfl, hb4, hc4, HV⟩ := hX.at_ (k := l) (by rw [HE.out]; exact hll)
                    obtain ⟨b5, o5, u, e5, hb5, hc5, HU⟩ := hIN.at_ (k := l) (by rw [nowL_len]; exact hll)
                    cases e5
                    rw [Nat.zero_add] at hc5
                    have hlx : l < xs.length := by rw [HE.out]; exact hll
                    have hu : u = bI (wkB G m l) := by
                      have := HU.out
                      rw [nowL_at (hll)] at this
                      exact (Option.some.inj this).symm
                    have HA : Hid (arw G j l = (v == 1)) := Lib.hid (by unfold arw; rw [ent_eq HX.out HV.out])
                    have HNX := Lib.hid (any_next (fun l => arw G j l && wkB G m l) l)
                    obtain ⟨p, HP⟩ : ∃ p, Hid (((List.range l).any fun l => arw G j l && wkB G m l) = p) := ⟨_, rfl⟩
                    rw [HP.out] at HNX ⊢
                    have hX4 := hX
                    by_cases hv : v = 1
                    · subst hv
                      cases hw : wkB G m l with
                      | true =>
                        have hu1 : u = 1 := by rw [hu, hw]; rfl
                        subst hu1
                        have HNY : Hid (((List.range (l + 1)).any fun l => arw G j l && wkB G m l) = true) := Lib.hid (by rw [HNX.out, HA.out, hw]; simp)
                        clear hu hw
                        go_wp2_with fail
                        go_roundw
                        case rel => exact ⟨l + 1, by omega, by go_num, by rw [HNY.out]; rfl, by first | trivial | rfl⟩
                        case measure => simp [intOf]; omega
                      | false =>
                        have hu1 : u = 0 := by rw [hu, hw]; rfl
                        subst hu1
                        have HNY : Hid (((List.range (l + 1)).any fun l => arw G j l && wkB G m l) = p) := Lib.hid (by rw [HNX.out, hw]; simp)
                        clear hu hw
                        go_wp2_with fail
                        go_roundw
                        case rel => exact ⟨l + 1, by omega, by go_num, by rw [HNY.out], by first | trivial | rfl⟩
                        case measure => simp [intOf]; omega
                    · have hv1 : (v == 1) = false := by simp [hv]
                      have HNY : Hid (((List.range (l + 1)).any fun l => arw G j l && wkB G m l) = p) := Lib.hid (by rw [HNX.out, HA.out, hv1]; simp)
                      clear hu
                      go_wp2_with fail
                      go_roundw
                      case rel => exact ⟨l + 1, by omega, by go_num, by rw [HNY.out], by first | trivial | rfl⟩
                      case measure => simp [intOf]; omega
                  · obtain rfl : l = G.length := by omega
                    have HXW : Hid (((List.range G.length).any fun l => arw G j l && wkB G m l) = wkB G (m + 1) j) := Lib.hid rfl
                    rw [HXW.out]
                    have HTN : Hid ((nowL G (m + 1)).take (j + 1) = (nowL G (m + 1)).take j ++ [bI (wkB G (m + 1) j)]) := Lib.hid (take_at (nowL_at (hlj)))
                    have HMX : Hid ((if bI (wkB G (m + 1) j) > bI ((List.range j).any (wkB G (m + 1))) then bI (wkB G (m + 1) j) else bI ((List.range j).any (wkB G (m + 1)))) = bI ((List.range (j + 1)).any (wkB G (m + 1)))) := Lib.hid (by rw [max_bI, any_next])
                    obtain ⟨p, HP⟩ : ∃ p, Hid (bI ((List.range j).any (wkB G (m + 1))) = p) := ⟨_, rfl⟩
                    obtain ⟨x, HX2⟩ : ∃ x, Hid (bI (wkB G (m + 1) j) = x) := ⟨_, rfl⟩
                    rw [HP.out, HX2.out] at HMX
                    rw [HX2.out] at HTN
                    rw [HP.out, HX2.out]
                    have hown := HR.out
                    have hlg := hown.lt g' (by simp [Value.ownBlock])
                    go_wp2_with (at_builtin; go_must (refine wpList_append_own _ rfl _ _ 36 rfl wx.heap.size 3 i1 (.int .i64 0) 1 8 Try.underlying36 hj hy0 hy1 hy2 rfl (by decide) _ _ _ rfl (hown.alloc _) ⟨wz.heap.size, 0, none⟩ 1 1 [.int .i64 x] rfl rfl (cell_one_new _ _ _) (by simp [Value.oneCell']) (by unfold maxLen; omega) (by omega) (by simp; omega) ?_); go_must (intro v' w4 hown' hgrow _; obtain ⟨g2, cap2, rfl⟩ := ownsRow_succ hown'); go_must (have HO4 := Lib.hid hown'); go_must (have hB4 : Below wx.heap.size wx w4 := (hB2.alloc hBs2 _).grown hgrow (by simp; omega) (fun r e => by have e' : some g' = some r := e; cases e'; exact hlg.1)); clear hown' hgrow)
                    go_roundw
                    case rel => exact ⟨j + 1, g2, cap2, by omega, by go_num, by rw [← HMX.out], rfl, Lib.hid (by rw [HTN.out, List.map_append]; exact HO4.out), hB4⟩
                    case measure => simp [intOf]; omega
              · obtain rfl : j = G.length := by omega
                have HSM : Hid (((List.range G.length).any (wkB G (m + 1))) = wkS G (m + 1)) := Lib.hid rfl
                rw [HSM.out]
                have HN2 : Hid (wr.ownsRow w.heap.size 3 1 (.slice (some ⟨g', 0, none⟩) G.length cap') G.length ((nowL G (m + 1)).map (Value.int .i64))) := Lib.hid (by
                  have h := Joins.ownsRow_le HR.out hBs
                  rwa [List.take_of_length_le (by rw [nowL_len]; exact Nat.le_refl _)] at h)
                have hBX := hB.trans (hB2.mono hBs)
                clear HR HN hB hB2 hBs
                cases hw : wkS G (m + 1) with
                | true =>
                  have HW2 : Hid (∀ q, 1 ≤ q → q ≤ m + 1 → wkS G q = true) := Lib.hid fun q h1 h2 => by
                    by_cases e : q = m + 1
                    · rw [e]; exact hw
                    · exact HW.out q h1 (by omega)
                  have e1 : bI true = 1 := rfl
                  rw [e1]
                  clear e1 hw
                  go_wp2_with fail
                  go_roundw
                  case rel => exact ⟨m + 1, g', cap', by omega, by go_num, rfl, HN2, hBX, HW2⟩
                  case measure => simp [intOf]; omega
                | false =>
                  have HRes := Lib.hid (HYes.out m hlm HW.out hw)
                  have e1 : bI false = 0 := rfl
                  rw [e1]
                  clear e1 hw
                  go_wp2_with fail
                  go_ret2
                  exact ⟨by rw [HRes.out.1, HRes.out.2]; rfl, hBX⟩
          · obtain rfl : m = 9 := by omega
            have HRes := Lib.hid (HNo.out HW.out)
            go_wp2_with fail
            go_ret2
            exact ⟨by rw [HRes.out.1, HRes.out.2]; rfl, hB⟩
  · have hgn : gOk G = false := by simpa using hg
    have HRes : Hid (zi = -1 ∧ zk = false) := Lib.hid (by
      have h3 := lng_badR hgn
      rw [HZI.out, HZK.out] at h3; exact h3)
    clear hg
    go_enter Try.func34, Try.ntmps34
    go_wp2_with fail
    refine (specOk_any _ _ _ n₀ _ hM HF.out).mono ?_
    rintro e w' ⟨rfl, rfl⟩
    rw [hgn]
    go_wp2_with fail
    go_ret2
    exact ⟨by rw [HRes.out.1, HRes.out.2]; rfl, Below.refl _ _⟩

end Go.Proofs.Ytkkifphpogfjfaa

namespace Go.Proofs.Ytkkifphpogfjfaa
open Go.RowKit Go.Shelf Go.Deep

theorem hgt_small {G : List (List Int)} {p i : Nat} (hk : lngK G = true) (hi : i < G.length) (hw : wkE G p i = true) : p ≤ 8 := by
  obtain ⟨_, n, hn⟩ := lngK_some hk
  rcases Nat.lt_or_ge p n with hlt | hge
  · have := lng_some hn
    omega
  · have hw2 : wkS G (n + (p - n)) = true := by rw [show n + (p - n) = p by omega]; exact wkS_end.2 ⟨i, hi, hw⟩
    have := wkS_mono hw2
    rw [(lng_some hn).2] at this; cases this
theorem hst_at {G : List (List Int)} {r k j i : Nat} {xs : List Int} (hk : lngK G = true) (h : HgtSt G r k j xs) (hi : i < G.length) : ∃ p : Nat, xs[i]? = some (p : Int) ∧ p ≤ 8 := by
  have hx : i < xs.length := by rw [h.len]; exact hi
  have h1 := List.getElem?_eq_getElem hx
  obtain ⟨h2, h3⟩ := h.walk i _ h1
  refine ⟨(xs[i]).toNat, by rw [h1]; congr 1; omega, hgt_small hk hi h3⟩
theorem ReadLB.ofRow {xs : List Int} {yes : Bool} {b : Nat} {w w' : World} (h : RowBlk w' b xs) (hl : xs.length ≤ 1000) (hB : Below w.heap.size w w') : ReadLB xs yes w (.returned (.tuple #[.slice (some ⟨b, 0, none⟩) xs.length xs.length, .bool yes])) w' := by
  refine ⟨some ⟨b, 0, none⟩, xs.length, ⟨rfl, hB⟩, own_intsQ (base := 0) (c := xs.length) (h.own (Nat.zero_le _) rfl hl)⟩

set_option maxRecDepth 100000 in
set_option maxHeartbeats 8000000 in
theorem specHgt (a : Option Addr) (c : Nat) (G : List (List Int)) (n₀ : Nat) (w : World) (hM : Mat n₀ w a G) (hn : n₀ ≤ w.heap.size) (hF : Fit G) :
    Calls Try.prog 50 #[.slice a G.length c] w (ReadLB (hgtL G) (lngK G) w) := by
  have HL := Lib.hid (specLng a c G n₀ w hM hn hF)
  by_cases hk : lngK G = true
  · have hg : gOk G = true := (lngK_some hk).1
    have HG := Lib.hid (good_of hg)
    have h1 := HG.out.1
    have h9 := HG.out.2.1
    have HK := Lib.hid hk
    have HEND : Hid (∀ xs, HgtSt G G.length 0 0 xs → xs = hgtL G) := Lib.hid fun xs h => hst_end h hk
    obtain ⟨zs, HZ⟩ : ∃ zs, Hid (hgtL G = zs) := ⟨_, rfl⟩
    obtain ⟨zi, HZI⟩ : ∃ z, Hid (lngI G = z) := ⟨_, rfl⟩
    rw [hk]
    rw [hk, HZI.out] at HL
    rw [HZ.out] at HEND ⊢
    clear hk hg
    go_enter Try.func50, Try.ntmps50
    go_wp2_with fail
    refine HL.out.mono ?_
    rintro e w1 ⟨rfl, hB1⟩
    have hz1 := hB1.size
    have hM1 := hM.below (hB1.mono hn)
    clear HL hM
    have hmk := run_make_row' (P := Try.prog) 36 3 (.int .i64 0) 8 Try.underlying36 infoInt rfl .i64 .i64 G.length (by omega) (by omega)
    have HR0 := Lib.hid (RowBlk.made w1 G.length)
    have hB2 : Below w1.heap.size w1 (w1.alloc (.cells (madeCells #[.int .i64 0] G.length) 3)) := (Below.refl _ _).alloc (Nat.le_refl _) _
    go_wp2_with fail
    go_loopw [7] (fun i wr => ∃ (r : Nat) (xs : List Int), r ≤ G.length ∧ i = .int .i64 r ∧ Hid (HgtSt G r 0 0 xs) ∧ Hid (RowBlk wr w1.heap.size xs) ∧ Below w1.heap.size w1 wr) (fun i _ => G.length - (intOf i).toNat)
    case atStart => exact ⟨0, _, Nat.zero_le _, rfl, Lib.hid (hst_begin G), HR0, hB2⟩
    case round =>
      clear HR0 hB2 hmk
      obtain ⟨r, xs, hr, rfl, HS, HR, hB⟩ := hrel
      by_cases hlr : r < G.length
      · go_wp2_with fail
        go_loopw [8] (fun i wr => ∃ (k : Nat) (xs : List Int), k ≤ G.length ∧ i = .int .i64 k ∧ Hid (HgtSt G r k 0 xs) ∧ Hid (RowBlk wr w1.heap.size xs) ∧ Below w1.heap.size w1 wr) (fun i _ => G.length - (intOf i).toNat)
        case atStart => exact ⟨0, xs, Nat.zero_le _, rfl, HS, HR, hB⟩
        case round =>
          clear HS HR hB
          obtain ⟨k, xs, hkk, rfl, HS, HR, hB⟩ := hrel
          by_cases hlk : k < G.length
          · go_wp2_with fail
            go_loopw [9] (fun i wr => ∃ (j : Nat) (xs : List Int), j ≤ G.length ∧ i = .int .i64 j ∧ Hid (HgtSt G r k j xs) ∧ Hid (RowBlk wr w1.heap.size xs) ∧ Below w1.heap.size w1 wr) (fun i _ => G.length - (intOf i).toNat)
            case atStart => exact ⟨0, xs, Nat.zero_le _, rfl, HS, HR, hB⟩
            case round =>
              clear HS HR hB
              obtain ⟨j, xs, hjj, rfl, HS, HR, hB⟩ := hrel
              by_cases hlj : j < G.length
              · have hws := hB.size
                obtain ⟨b, o, a1, c1, row, rfl, hb, hc, hX, HX⟩ := (hM1.below (hB.mono (Nat.le_trans hn hz1))).at_ hlk
                have HE := Lib.hid (HG.out.len HX.out)
                have hlx : j < row.length := by rw [HE.out]; exact hlj
                obtain ⟨b4, o4, v, rfl, hb4, hc4, HV⟩ := hX.at_ hlx
                have HA : Hid (arw G k j = (v == 1)) := Lib.hid (by unfold arw; rw [ent_eq HX.out HV.out])
                by_cases hv : v = 1
                · have hvb : (v == 1) = true := by simp [hv]
                  obtain ⟨p, hp, hp8⟩ := hst_at HK.out HS.out hlk
                  obtain ⟨q, hq, hq8⟩ := hst_at HK.out HS.out hlj
                  have hcp := HR.out.cell hp
                  have hcq := HR.out.cell hq
                  have hfz := HR.out.blk.frozen j
                  have HS2 := Lib.hid (hst_put HS.out hlk hlj (by rw [HA.out]; exact hvb) hp hq)
                  by_cases hgt : (p : Int) + 1 > (q : Int)
                  · have HR2 : Hid (RowBlk (wr.setCell ⟨w1.heap.size, j, none⟩ (.int .i64 ((p : Int) + 1))).drew w1.heap.size (xs.set j ((max q (p + 1) : Nat) : Int))) := Lib.hid (by
                      rw [show ((max q (p + 1) : Nat) : Int) = (p : Int) + 1 by omega]
                      exact HR.out.store j ((p : Int) + 1))
                    have hBd : Below w1.heap.size w1 (wr.setCell ⟨w1.heap.size, j, none⟩ (.int .i64 ((p : Int) + 1))).drew := below_drewN (hB.setCell (p := ⟨w1.heap.size, j, none⟩) (Nat.le_refl _) _) 1
                    clear hp hq HS HR hB hv hX
                    go_wp2_with fail
                    go_still_tail 13, (by kernel_rfl)
                    go_wp2_with fail
                    go_roundw
                    case rel => exact ⟨j + 1, _, by omega, by go_num, HS2, HR2, hBd⟩
                    case measure => simp [intOf]; omega
                  · have HR2 : Hid (RowBlk (wr.setCell ⟨w1.heap.size, j, none⟩ (.int .i64 (q : Int))).drew w1.heap.size (xs.set j ((max q (p + 1) : Nat) : Int))) := Lib.hid (by
                      rw [show ((max q (p + 1) : Nat) : Int) = (q : Int) by omega]
                      exact HR.out.store j (q : Int))
                    have hBd : Below w1.heap.size w1 (wr.setCell ⟨w1.heap.size, j, none⟩ (.int .i64 (q : Int))).drew := below_drewN (hB.setCell (p := ⟨w1.heap.size, j, none⟩) (Nat.le_refl _) _) 1
                    clear hp hq HS HR hB hv hX
                    go_wp2_with fail
                    go_still_tail 13, (by kernel_rfl)
                    go_wp2_with fail
                    go_roundw
                    case rel => exact ⟨j + 1, _, by omega, by go_num, HS2, HR2, hBd⟩
                    case measure => simp [intOf]; omega
                · have hvb : (v == 1) = false := by simp [hv]
                  have HS2 := Lib.hid (hst_skip HS.out (by rw [HA.out]; exact hvb))
                  clear hv
                  go_wp2_with fail
                  go_roundw
                  case rel => exact ⟨j + 1, xs, by omega, by go_num, HS2, HR, hB⟩
                  case measure => simp [intOf]; omega
              · obtain rfl : j = G.length := by omega
                go_wp2_with fail
                go_roundw
                case rel => exact ⟨k + 1, xs, by omega, by go_num, Lib.hid (hst_row HS.out), HR, hB⟩
                case measure => simp [intOf]; omega
          · obtain rfl : k = G.length := by omega
            go_wp2_with fail
            go_roundw
            case rel => exact ⟨r + 1, xs, by omega, by go_num, Lib.hid (hst_round HS.out), HR, hB⟩
            case measure => simp [intOf]; omega
      · obtain rfl : r = G.length := by omega
        have HX := Lib.hid (HEND.out xs HS.out)
        have HXL := Lib.hid HS.out.len
        have HR2 := HR
        rw [HX.out] at HR2 HXL
        clear HS HR
        go_wp2_with fail
        go_ret2
        have h := ReadLB.ofRow (yes := true) HR2.out (by rw [HXL.out]; omega) (hB1.trans (hB.mono hz1))
        rw [HXL.out] at h
        exact h
  · have hkn : lngK G = false := by simpa using hk
    have HZ : Hid (hgtL G = []) := Lib.hid (hgt_no hkn)
    obtain ⟨zi, HZI⟩ : ∃ z, Hid (lngI G = z) := ⟨_, rfl⟩
    rw [hkn, HZ.out]
    rw [hkn, HZI.out] at HL
    clear hk hkn
    go_enter Try.func50, Try.ntmps50
    go_wp2_with fail
    refine HL.out.mono ?_
    rintro e w1 ⟨rfl, hB1⟩
    have hz1 := hB1.size
    go_wp2_with fail
    go_ret2
    exact ⟨_, _, ⟨rfl, hB1.alloc hz1 _⟩, fun h => absurd rfl h⟩

end Go.Proofs.Ytkkifphpogfjfaa

namespace Go.Proofs.Ytkkifphpogfjfaa
open Go.RowKit Go.Shelf Go.Deep

/-- The levels so far, in a list of one's own. -/
def LvO (base L : Nat) (W : World) (g cap : Nat) (xs : List Int) : Prop := W.ownsRow base 3 1 (.slice (some ⟨g, 0, none⟩) L cap) L (xs.map (Value.int .i64))
theorem LvO.cell {base L g cap i : Nat} {W : World} {xs : List Int} {y : Int} (h : LvO base L W g cap xs) (hi : i < L) (hy : xs[i]? = some y) : W.cell? ⟨g, i, none⟩ = some (.int .i64 y) := by
  rw [World.ownsRow.cellAt h i (by omega), List.getElem?_map, hy]; rfl
theorem LvO.store {base L g cap : Nat} {W : World} {xs : List Int} (h : LvO base L W g cap xs) (j : Nat) (x : Int) : LvO base L (W.setCell ⟨g, j, none⟩ (.int .i64 x)) g cap (xs.set j x) := by
  have h2 := (World.ownsRow.stored h j (.int .i64 x)).1
  rw [← List.map_set] at h2
  exact h2
theorem LvO.lt {base L g cap : Nat} {W : World} {xs : List Int} (h : LvO base L W g cap xs) : base ≤ g ∧ g < W.heap.size := World.ownsRow.lt h g (by simp [Value.ownBlock])
theorem lst_at {G : List (List Int)} {m s i : Nat} {xs : List Int} (h : LvlSt G m s xs) (hi : i < G.length) : xs[i]? = some (-1) ∨ ∃ p : Nat, xs[i]? = some (p : Int) ∧ p < m := by
  have hx : i < xs.length := by rw [h.len]; exact hi
  have h1 := List.getElem?_eq_getElem hx
  rcases h.rng i _ h1 with h2 | ⟨h2, h3⟩
  · exact .inl (by rw [h1, h2])
  · exact .inr ⟨(xs[i]).toNat, by rw [h1]; congr 1; omega, by omega⟩
theorem rem_lv (q m : Nat) : Int.tmod (q : Int) (m : Int) = ((q % m : Nat) : Int) := by rw [Int.tmod_eq_emod_of_nonneg (Int.natCast_nonneg _)]; rfl
theorem lev_noR {G : List (List Int)} {m : Nat} (h : ∀ f, ¬ IsLvl G m f) : levK G (m : Int) = false := by
  rw [Bool.eq_false_iff]
  intro hk
  have h2 := levI_lvl hk
  rw [Int.toNat_natCast] at h2
  exact h _ h2
theorem lev_noG {G : List (List Int)} {z : Int} (h : gOk G = false) : levK G z = false := by
  rw [Bool.eq_false_iff]
  intro hk
  have := (levK_iff.1 hk).1
  rw [h] at this; cases this
theorem lev_noM {G : List (List Int)} {z : Int} (h : ¬ (1 ≤ z ∧ z ≤ 9)) : levK G z = false := by
  rw [Bool.eq_false_iff]
  intro hk
  exact h (levK_iff.1 hk).2.1
/-- What is checked at the end: the pairs ahead of (k, j) fit. -/
def ChkTo (G : List (List Int)) (m k j : Nat) (xs : List Int) : Prop := ∀ a b, a < G.length → b < G.length → arw G a b = true → (a < k ∨ (a = k ∧ b < j)) → (nd xs a + 1) % m = nd xs b
theorem chk_row {G : List (List Int)} {m k : Nat} {xs : List Int} (h : ChkTo G m k G.length xs) : ChkTo G m (k + 1) 0 xs := fun a b ha hb hab hx => h a b ha hb hab (by omega)
theorem chk_next {G : List (List Int)} {m k j : Nat} {xs : List Int} (h : ChkTo G m k j xs) (hc : arw G k j = true → (nd xs k + 1) % m = nd xs j) : ChkTo G m k (j + 1) xs := fun a b ha hb hab hx => by
  by_cases e : a = k ∧ b = j
  · rw [e.1, e.2] at hab ⊢; exact hc hab
  · exact h a b ha hb hab (by omega)

set_option maxRecDepth 100000 in
set_option maxHeartbeats 16000000 in
theorem specLev (a : Option Addr) (c : Nat) (G : List (List Int)) (z : Int) (n₀ : Nat) (w : World) (hM : Mat n₀ w a G) (hn : n₀ ≤ w.heap.size) (hF : Fit G) :
    Calls Try.prog 38 #[.slice a G.length c, .int .i64 z] w (ReadLB (levI G z) (levK G z) w) := by
  obtain ⟨i1, hj, hy0, hy1, hy2⟩ := info_parts infoInt
  have HF := Lib.hid hF
  clear hF
  by_cases hg : gOk G = true
  · by_cases hz : 1 ≤ z ∧ z ≤ 9
    · obtain ⟨m, rfl⟩ : ∃ m : Nat, z = (m : Int) := ⟨z.toNat, by omega⟩
      have hd : decide (1 ≤ (m : Int) ∧ (m : Int) ≤ 9) = true := decide_eq_true hz
      have hm1 : 1 ≤ m := by omega
      have hm9 : m ≤ 9 := by omega
      have hm0 : ¬ (m : Int) = 0 := by omega
      have HG := Lib.hid (good_of hg)
      have h1 := HG.out.1
      have h9 := HG.out.2.1
      obtain ⟨zs, HZ⟩ : ∃ zs, Hid (levI G (m : Int) = zs) := ⟨_, rfl⟩
      obtain ⟨zk, HK⟩ : ∃ zk, Hid (levK G (m : Int) = zk) := ⟨_, rfl⟩
      have HYes : Hid (∀ xs, IsLvl G m xs → zs = xs ∧ zk = true) := Lib.hid fun xs h => by
        have h2 := levI_yes hg hz.1 hz.2 (by rw [Int.toNat_natCast]; exact h)
        rw [HZ.out, HK.out] at h2; exact h2
      have HNo : Hid ((∀ f, ¬ IsLvl G m f) → zs = [] ∧ zk = false) := Lib.hid fun h => by
        have h2 := lev_noR h
        rw [← HZ.out, ← HK.out]; exact ⟨levI_no h2, h2⟩
      rw [HZ.out, HK.out]
      go_enter Try.func38, Try.ntmps38
      go_wp2_with fail
      refine (specOk_any _ _ _ n₀ _ hM HF.out).mono ?_
      rintro e w' ⟨rfl, rfl⟩
      rw [hg]
      go_wp2_with fail
      refine (in_any _ _ _ _).mono ?_
      rw [hd]
      rintro e w' ⟨rfl, rfl⟩
      clear hg hz hd HZ HK
      go_wp2_with fail
      go_loopw [6, 7] (fun v i wr => ∃ (k g cap : Nat), k ≤ G.length ∧ i = .int .i64 k ∧ v = .slice (some ⟨g, 0, none⟩) k cap ∧ Hid (wr.ownsRow w.heap.size 3 1 (.slice (some ⟨g, 0, none⟩) k cap) k ((List.replicate k (-1 : Int)).map (Value.int .i64))) ∧ Below w.heap.size w wr) (fun _ i _ => G.length - (intOf i).toNat)
      case atStart => exact ⟨0, _, _, Nat.zero_le _, rfl, rfl, Lib.hid (World.ownsRow_lit (size := 1) w #[] 0 (Nat.le_refl _) (Nat.zero_le _) rfl), (Below.refl _ _).alloc (Nat.le_refl _) _⟩
      case round =>
        obtain ⟨k, g, cap, hk, rfl, rfl, HR, hB⟩ := hrel
        have hBs := hB.size
        by_cases hlt : k < G.length
        · have hki : (k : Int) < (G.length : Int) := by omega
          have hown := HR.out
          have hlg := hown.lt g (by simp [Value.ownBlock])
          go_wp2_with (at_builtin; go_must (refine wpList_append_own _ rfl _ _ 36 rfl w.heap.size 3 i1 (.int .i64 0) 1 8 Try.underlying36 hj hy0 hy1 hy2 rfl (by decide) _ _ _ rfl (hown.alloc _) ⟨wr.heap.size, 0, none⟩ 1 1 [.int .i64 (-1)] rfl rfl (cell_one_new _ _ _) (by simp [Value.oneCell']) (by unfold maxLen; omega) (by omega) (by simp; omega) ?_); go_must (intro v' w4 hown' hgrow _; obtain ⟨g2, cap2, rfl⟩ := ownsRow_succ hown'); go_must (have HO4 := Lib.hid hown'); go_must (have hB4 : Below w.heap.size w w4 := (hB.alloc hBs _).grown hgrow (by simp; omega) (fun r e => by have e' : some g = some r := e; cases e'; exact hlg.1)); clear hown' hgrow)
          go_roundw
          case rel => exact ⟨k + 1, g2, cap2, by omega, by go_num, rfl, Lib.hid (by rw [List.replicate_succ', List.map_append]; exact HO4.out), hB4⟩
          case measure => simp [intOf]; omega
        · obtain rfl : k = G.length := by omega
          have HO0 : Hid (LvO w.heap.size G.length wr g cap (List.replicate G.length (-1))) := Lib.hid HR.out
          have hB0 := hB
          have hgb := HO0.out.lt.1
          clear HR hB hlt hk hBs
          go_wp2_with fail
          go_loopw [8] (fun i wr => ∃ (s : Nat) (xs : List Int), s ≤ G.length ∧ i = .int .i64 s ∧ Hid (LvlSt G m s xs) ∧ Hid (ClosedA G xs) ∧ Hid (LvO w.heap.size G.length wr g cap xs) ∧ Below w.heap.size w wr) (fun i _ => G.length - (intOf i).toNat)
          case atStart => exact ⟨0, _, Nat.zero_le _, rfl, Lib.hid (lvl_begin G m), Lib.hid (closed_begin G), HO0, hB0⟩
          case round =>
            clear HO0 hB0
            obtain ⟨s, xs, hs, rfl, HS, HC, HO, hB⟩ := hrel
            by_cases hls : s < G.length
            · have hsi : (s : Int) < (G.length : Int) := by omega
              rcases lst_at HS.out hls with hx | ⟨p, hx, hpm⟩
              · have hcz := HO.out.cell hls hx
                have hfz := World.ownsRow.frozenAt HO.out s
                have HS0 := Lib.hid ((lvl_start HS.out HC.out hm1 hls).1 hx)
                have HE0 : Hid (RndEd G 0 (xs.set s 0)) := Lib.hid (rnd_begin (asB_set_self (List.getElem?_eq_some_iff.1 hx).1 (Int.le_refl _)))
                have HO0 := Lib.hid (HO.out.store s 0)
                have hB0 : Below w.heap.size w (wr.setCell ⟨g, s, none⟩ (.int .i64 0)) := hB.setCell (p := ⟨g, s, none⟩) hgb _
                clear hx HS HC HO hB
                go_wp2_with fail
                go_loopw [9] (fun i wr => ∃ (r : Nat) (xs : List Int), r ≤ G.length ∧ i = .int .i64 r ∧ Hid (LvlSt G m (s + 1) xs) ∧ Hid (RndEd G r xs) ∧ Hid (LvO w.heap.size G.length wr g cap xs) ∧ Below w.heap.size w wr) (fun i _ => G.length - (intOf i).toNat)
                case atStart => exact ⟨0, _, Nat.zero_le _, rfl, HS0, HE0, HO0, hB0⟩
                case round =>
                  clear HS0 HE0 HO0 hB0
                  obtain ⟨r, xs, hr, rfl, HS, HE, HO, hB⟩ := hrel
                  by_cases hlr : r < G.length
                  · go_wp2_with fail
                    go_loopw [10] (fun i wr => ∃ (k : Nat) (xs : List Int), k ≤ G.length ∧ i = .int .i64 k ∧ Hid (LvlSt G m (s + 1) xs) ∧ Hid (RndSt G r k 0 xs) ∧ Hid (LvO w.heap.size G.length wr g cap xs) ∧ Below w.heap.size w wr) (fun i _ => G.length - (intOf i).toNat)
                    case atStart => exact ⟨0, xs, Nat.zero_le _, rfl, HS, Lib.hid (rnd_in HE.out), HO, hB⟩
                    case round =>
                      clear HS HE HO hB
                      obtain ⟨k, xs, hk, rfl, HS, HE, HO, hB⟩ := hrel
                      by_cases hlk : k < G.length
                      · have hki : (k : Int) < (G.length : Int) := by omega
                        go_wp2_with fail
                        go_loopw [11] (fun i wr => ∃ (j : Nat) (xs : List Int), j ≤ G.length ∧ i = .int .i64 j ∧ Hid (LvlSt G m (s + 1) xs) ∧ Hid (RndSt G r k j xs) ∧ Hid (LvO w.heap.size G.length wr g cap xs) ∧ Below w.heap.size w wr) (fun i _ => G.length - (intOf i).toNat)
                        case atStart => exact ⟨0, xs, Nat.zero_le _, rfl, HS, HE, HO, hB⟩
                        case round =>
                          clear HS HE HO hB
                          obtain ⟨j, xs, hjj, rfl, HS, HE, HO, hB⟩ := hrel
                          by_cases hlj : j < G.length
                          · have hji : (j : Int) < (G.length : Int) := by omega
                            obtain ⟨b, o, a1, c1, row, rfl, hb, hc, hX, HX⟩ := (hM.below (hB.mono hn)).at_ hlk
                            have HEE := Lib.hid (HG.out.len HX.out)
                            have hlx : j < row.length := by rw [HEE.out]; exact hlj
                            obtain ⟨b4, o4, v, rfl, hb4, hc4, HV⟩ := hX.at_ hlx
                            have HA : Hid (arw G k j = (v == 1)) := Lib.hid (by unfold arw; rw [ent_eq HX.out HV.out])
                            by_cases hv : v = 1
                            · have hvb : (v == 1) = true := by simp [hv]
                              have HAT : Hid (arw G k j = true) := Lib.hid (by rw [HA.out]; exact hvb)
                              clear hv
                              rcases lst_at HS.out hlk with hxk | ⟨p, hxk, hpm⟩
                              · have hck := HO.out.cell hlk hxk
                                have HKB : Hid (asB xs k = false) := Lib.hid (by rw [asB_some hxk]; rfl)
                                rcases lst_at HS.out hlj with hxj | ⟨q, hxj, hqm⟩
                                · have hcj := HO.out.cell hlj hxj
                                  have HE2 := Lib.hid (rnd_skip HE.out fun _ => by unfold ClosedP; rw [HKB.out, asB_some hxj]; rfl)
                                  clear hxk hxj
                                  go_wp2_with fail
                                  go_roundw
                                  case rel => exact ⟨j + 1, xs, by omega, by go_num, HS, HE2, HO, hB⟩
                                  case measure => simp [intOf]; omega
                                · have hcj := HO.out.cell hlj hxj
                                  have hqn : ¬ (q : Int) < 0 := by omega
                                  have hqp : (0 : Int) ≤ (q : Int) := by omega
                                  obtain ⟨t, ht⟩ : ∃ t : Nat, t = (q + m - 1) % m := ⟨_, rfl⟩
                                  have hmd : Int.tmod ((q : Int) + (m : Int) - 1) (m : Int) = (t : Int) := by rw [ht, show (q : Int) + (m : Int) - 1 = ((q + m - 1 : Nat) : Int) by omega]; exact rem_lv (q + m - 1) m
                                  have HS2 := Lib.hid (lvl_bwd HS.out hm1 hlk hlj HAT.out hxj hxk)
                                  have HE2 := Lib.hid (rnd_put (y := (t : Int)) HE.out hlk hlj HAT.out (by rw [HKB.out, asB_some hxj, decide_eq_true hqp]; decide) hxk (by decide) (Int.natCast_nonneg _))
                                  rw [← ht] at HS2
                                  have HO2 := Lib.hid (HO.out.store k (t : Int))
                                  have hfz := World.ownsRow.frozenAt HO.out k
                                  have hB2 : Below w.heap.size w (wr.setCell ⟨g, k, none⟩ (.int .i64 (t : Int))) := hB.setCell (p := ⟨g, k, none⟩) hgb _
                                  clear hxk hxj ht HS HE HO hB
                                  go_wp2_with fail
                                  go_roundw
                                  case rel => exact ⟨j + 1, _, by omega, by go_num, HS2, HE2, HO2, hB2⟩
                                  case measure => simp [intOf]; omega
                              · have hck := HO.out.cell hlk hxk
                                have hpn : ¬ (p : Int) < 0 := by omega
                                have hpp : (0 : Int) ≤ (p : Int) := by omega
                                have HKB : Hid (asB xs k = true) := Lib.hid (by rw [asB_some hxk]; exact decide_eq_true hpp)
                                rcases lst_at HS.out hlj with hxj | ⟨q, hxj, hqm⟩
                                · have hcj := HO.out.cell hlj hxj
                                  obtain ⟨t, ht⟩ : ∃ t : Nat, t = (p + 1) % m := ⟨_, rfl⟩
                                  have hmd : Int.tmod ((p : Int) + 1) (m : Int) = (t : Int) := by rw [ht]; exact rem_lv (p + 1) m
                                  have htn : ¬ (t : Int) < 0 := by omega
                                  have htp : (0 : Int) ≤ (t : Int) := by omega
                                  have HS2 := Lib.hid (lvl_fwd HS.out hm1 hlk hlj HAT.out hxk hxj)
                                  have HE2 := Lib.hid (rnd_put (y := (t : Int)) HE.out hlk hlj HAT.out (by rw [HKB.out, asB_some hxj]; decide) hxj (by decide) (Int.natCast_nonneg _))
                                  rw [← ht] at HS2
                                  have HO2 := Lib.hid (HO.out.store j (t : Int))
                                  have hfz := World.ownsRow.frozenAt HO.out j
                                  have hkj : k ≠ j := fun e => by rw [e] at hxk; rw [hxj] at hxk; have := Option.some.inj hxk; omega
                                  have hS1 : Below w.heap.size wr (wr.setCell ⟨g, j, none⟩ (.int .i64 (t : Int))) := (Below.refl _ _).setCell (p := ⟨g, j, none⟩) hgb _
                                  have hB2 : Below w.heap.size w (wr.setCell ⟨g, j, none⟩ (.int .i64 (t : Int))) := hB.setCell (p := ⟨g, j, none⟩) hgb _
                                  have hck2 := HO2.out.cell (i := k) (y := (p : Int)) hlk (by rw [List.getElem?_set_ne (Ne.symm hkj)]; exact hxk)
                                  have hcj2 := HO2.out.cell (i := j) (y := (t : Int)) hlj (List.getElem?_set_self (List.getElem?_eq_some_iff.1 hxj).1)
                                  have hcX := (hS1.cell (p := ⟨b, o + k, none⟩) (Nat.lt_of_lt_of_le hb hn)).trans hc
                                  have hcY := (hS1.cell (p := ⟨b4, o4 + j, none⟩) (Nat.lt_of_lt_of_le hb4 hn)).trans hc4
                                  clear hxk hxj ht HS HE HO hB hkj hS1
                                  go_wp2_with fail
                                  go_roundw
                                  case rel => exact ⟨j + 1, _, by omega, by go_num, HS2, HE2, HO2, hB2⟩
                                  case measure => simp [intOf]; omega
                                · have hcj := HO.out.cell hlj hxj
                                  have hqn : ¬ (q : Int) < 0 := by omega
                                  have hqp : (0 : Int) ≤ (q : Int) := by omega
                                  have HE2 := Lib.hid (rnd_skip HE.out fun _ => by unfold ClosedP; rw [HKB.out, asB_some hxj, decide_eq_true hqp])
                                  clear hxk hxj
                                  go_wp2_with fail
                                  go_roundw
                                  case rel => exact ⟨j + 1, xs, by omega, by go_num, HS, HE2, HO, hB⟩
                                  case measure => simp [intOf]; omega
                            · have hvb : (v == 1) = false := by simp [hv]
                              have HE2 := Lib.hid (rnd_skip HE.out fun h => by rw [HA.out, hvb] at h; cases h)
                              clear hv
                              go_wp2_with fail
                              go_roundw
                              case rel => exact ⟨j + 1, xs, by omega, by go_num, HS, HE2, HO, hB⟩
                              case measure => simp [intOf]; omega
                          · obtain rfl : j = G.length := by omega
                            go_wp2_with fail
                            go_roundw
                            case rel => exact ⟨k + 1, xs, by omega, by go_num, HS, Lib.hid (rnd_row HE.out), HO, hB⟩
                            case measure => simp [intOf]; omega
                      · obtain rfl : k = G.length := by omega
                        go_wp2_with fail
                        go_roundw
                        case rel => exact ⟨r + 1, xs, by omega, by go_num, HS, Lib.hid (rnd_out HE.out), HO, hB⟩
                        case measure => simp [intOf]; omega
                  · obtain rfl : r = G.length := by omega
                    have HC2 := Lib.hid (rnd_closed HE.out HS.out.len)
                    go_wp2_with fail
                    go_roundw
                    case rel => exact ⟨s + 1, xs, by omega, by go_num, HS, HC2, HO, hB⟩
                    case measure => simp [intOf]; omega
              · have hcz := HO.out.cell hls hx
                have hpn : ¬ (p : Int) < 0 := by omega
                have HS0 := Lib.hid ((lvl_start HS.out HC.out hm1 hls).2 (by rw [asB_some hx]; exact decide_eq_true (Int.natCast_nonneg _)))
                have HE0 : Hid (RndEd G 0 xs) := Lib.hid (rnd_begin (by rw [asB_some hx]; exact decide_eq_true (Int.natCast_nonneg _)))
                have HO0 := HO
                have hB0 := hB
                clear hx HS HC HO hB
                go_wp2_with fail
                go_loopw [9] (fun i wr => ∃ (r : Nat) (xs : List Int), r ≤ G.length ∧ i = .int .i64 r ∧ Hid (LvlSt G m (s + 1) xs) ∧ Hid (RndEd G r xs) ∧ Hid (LvO w.heap.size G.length wr g cap xs) ∧ Below w.heap.size w wr) (fun i _ => G.length - (intOf i).toNat)
                case atStart => exact ⟨0, _, Nat.zero_le _, rfl, HS0, HE0, HO0, hB0⟩
                case round =>
                  clear HS0 HE0 HO0 hB0
                  obtain ⟨r, xs, hr, rfl, HS, HE, HO, hB⟩ := hrel
                  by_cases hlr : r < G.length
                  · go_wp2_with fail
                    go_loopw [10] (fun i wr => ∃ (k : Nat) (xs : List Int), k ≤ G.length ∧ i = .int .i64 k ∧ Hid (LvlSt G m (s + 1) xs) ∧ Hid (RndSt G r k 0 xs) ∧ Hid (LvO w.heap.size G.length wr g cap xs) ∧ Below w.heap.size w wr) (fun i _ => G.length - (intOf i).toNat)
                    case atStart => exact ⟨0, xs, Nat.zero_le _, rfl, HS, Lib.hid (rnd_in HE.out), HO, hB⟩
                    case round =>
                      clear HS HE HO hB
                      obtain ⟨k, xs, hk, rfl, HS, HE, HO, hB⟩ := hrel
                      by_cases hlk : k < G.length
                      · have hki : (k : Int) < (G.length : Int) := by omega
                        go_wp2_with fail
                        go_loopw [11] (fun i wr => ∃ (j : Nat) (xs : List Int), j ≤ G.length ∧ i = .int .i64 j ∧ Hid (LvlSt G m (s + 1) xs) ∧ Hid (RndSt G r k j xs) ∧ Hid (LvO w.heap.size G.length wr g cap xs) ∧ Below w.heap.size w wr) (fun i _ => G.length - (intOf i).toNat)
                        case atStart => exact ⟨0, xs, Nat.zero_le _, rfl, HS, HE, HO, hB⟩
                        case round =>
                          clear HS HE HO hB
                          obtain ⟨j, xs, hjj, rfl, HS, HE, HO, hB⟩ := hrel
                          by_cases hlj : j < G.length
                          · have hji : (j : Int) < (G.length : Int) := by omega
                            obtain ⟨b, o, a1, c1, row, rfl, hb, hc, hX, HX⟩ := (hM.below (hB.mono hn)).at_ hlk
                            have HEE := Lib.hid (HG.out.len HX.out)
                            have hlx : j < row.length := by rw [HEE.out]; exact hlj
                            obtain ⟨b4, o4, v, rfl, hb4, hc4, HV⟩ := hX.at_ hlx
                            have HA : Hid (arw G k j = (v == 1)) := Lib.hid (by unfold arw; rw [ent_eq HX.out HV.out])
                            by_cases hv : v = 1
                            · have hvb : (v == 1) = true := by simp [hv]
                              have HAT : Hid (arw G k j = true) := Lib.hid (by rw [HA.out]; exact hvb)
                              clear hv
                              rcases lst_at HS.out hlk with hxk | ⟨p, hxk, hpm⟩
                              · have hck := HO.out.cell hlk hxk
                                have HKB : Hid (asB xs k = false) := Lib.hid (by rw [asB_some hxk]; rfl)
                                rcases lst_at HS.out hlj with hxj | ⟨q, hxj, hqm⟩
                                · have hcj := HO.out.cell hlj hxj
                                  have HE2 := Lib.hid (rnd_skip HE.out fun _ => by unfold ClosedP; rw [HKB.out, asB_some hxj]; rfl)
                                  clear hxk hxj
                                  go_wp2_with fail
                                  go_roundw
                                  case rel => exact ⟨j + 1, xs, by omega, by go_num, HS, HE2, HO, hB⟩
                                  case measure => simp [intOf]; omega
                                · have hcj := HO.out.cell hlj hxj
                                  have hqn : ¬ (q : Int) < 0 := by omega
                                  have hqp : (0 : Int) ≤ (q : Int) := by omega
                                  obtain ⟨t, ht⟩ : ∃ t : Nat, t = (q + m - 1) % m := ⟨_, rfl⟩
                                  have hmd : Int.tmod ((q : Int) + (m : Int) - 1) (m : Int) = (t : Int) := by rw [ht, show (q : Int) + (m : Int) - 1 = ((q + m - 1 : Nat) : Int) by omega]; exact rem_lv (q + m - 1) m
                                  have HS2 := Lib.hid (lvl_bwd HS.out hm1 hlk hlj HAT.out hxj hxk)
                                  have HE2 := Lib.hid (rnd_put (y := (t : Int)) HE.out hlk hlj HAT.out (by rw [HKB.out, asB_some hxj, decide_eq_true hqp]; decide) hxk (by decide) (Int.natCast_nonneg _))
                                  rw [← ht] at HS2
                                  have HO2 := Lib.hid (HO.out.store k (t : Int))
                                  have hfz := World.ownsRow.frozenAt HO.out k
                                  have hB2 : Below w.heap.size w (wr.setCell ⟨g, k, none⟩ (.int .i64 (t : Int))) := hB.setCell (p := ⟨g, k, none⟩) hgb _
                                  clear hxk hxj ht HS HE HO hB
                                  go_wp2_with fail
                                  go_roundw
                                  case rel => exact ⟨j + 1, _, by omega, by go_num, HS2, HE2, HO2, hB2⟩
                                  case measure => simp [intOf]; omega
                              · have hck := HO.out.cell hlk hxk
                                have hpn : ¬ (p : Int) < 0 := by omega
                                have hpp : (0 : Int) ≤ (p : Int) := by omega
                                have HKB : Hid (asB xs k = true) := Lib.hid (by rw [asB_some hxk]; exact decide_eq_true hpp)
                                rcases lst_at HS.out hlj with hxj | ⟨q, hxj, hqm⟩
                                · have hcj := HO.out.cell hlj hxj
                                  obtain ⟨t, ht⟩ : ∃ t : Nat, t = (p + 1) % m := ⟨_, rfl⟩
                                  have hmd : Int.tmod ((p : Int) + 1) (m : Int) = (t : Int) := by rw [ht]; exact rem_lv (p + 1) m
                                  have htn : ¬ (t : Int) < 0 := by omega
                                  have htp : (0 : Int) ≤ (t : Int) := by omega
                                  have HS2 := Lib.hid (lvl_fwd HS.out hm1 hlk hlj HAT.out hxk hxj)
                                  have HE2 := Lib.hid (rnd_put (y := (t : Int)) HE.out hlk hlj HAT.out (by rw [HKB.out, asB_some hxj]; decide) hxj (by decide) (Int.natCast_nonneg _))
                                  rw [← ht] at HS2
                                  have HO2 := Lib.hid (HO.out.store j (t : Int))
                                  have hfz := World.ownsRow.frozenAt HO.out j
                                  have hkj : k ≠ j := fun e => by rw [e] at hxk; rw [hxj] at hxk; have := Option.some.inj hxk; omega
                                  have hS1 : Below w.heap.size wr (wr.setCell ⟨g, j, none⟩ (.int .i64 (t : Int))) := (Below.refl _ _).setCell (p := ⟨g, j, none⟩) hgb _
                                  have hB2 : Below w.heap.size w (wr.setCell ⟨g, j, none⟩ (.int .i64 (t : Int))) := hB.setCell (p := ⟨g, j, none⟩) hgb _
                                  have hck2 := HO2.out.cell (i := k) (y := (p : Int)) hlk (by rw [List.getElem?_set_ne (Ne.symm hkj)]; exact hxk)
                                  have hcj2 := HO2.out.cell (i := j) (y := (t : Int)) hlj (List.getElem?_set_self (List.getElem?_eq_some_iff.1 hxj).1)
                                  have hcX := (hS1.cell (p := ⟨b, o + k, none⟩) (Nat.lt_of_lt_of_le hb hn)).trans hc
                                  have hcY := (hS1.cell (p := ⟨b4, o4 + j, none⟩) (Nat.lt_of_lt_of_le hb4 hn)).trans hc4
                                  clear hxk hxj ht HS HE HO hB hkj hS1
                                  go_wp2_with fail
                                  go_roundw
                                  case rel => exact ⟨j + 1, _, by omega, by go_num, HS2, HE2, HO2, hB2⟩
                                  case measure => simp [intOf]; omega
                                · have hcj := HO.out.cell hlj hxj
                                  have hqn : ¬ (q : Int) < 0 := by omega
                                  have hqp : (0 : Int) ≤ (q : Int) := by omega
                                  have HE2 := Lib.hid (rnd_skip HE.out fun _ => by unfold ClosedP; rw [HKB.out, asB_some hxj, decide_eq_true hqp])
                                  clear hxk hxj
                                  go_wp2_with fail
                                  go_roundw
                                  case rel => exact ⟨j + 1, xs, by omega, by go_num, HS, HE2, HO, hB⟩
                                  case measure => simp [intOf]; omega
                            · have hvb : (v == 1) = false := by simp [hv]
                              have HE2 := Lib.hid (rnd_skip HE.out fun h => by rw [HA.out, hvb] at h; cases h)
                              clear hv
                              go_wp2_with fail
                              go_roundw
                              case rel => exact ⟨j + 1, xs, by omega, by go_num, HS, HE2, HO, hB⟩
                              case measure => simp [intOf]; omega
                          · obtain rfl : j = G.length := by omega
                            go_wp2_with fail
                            go_roundw
                            case rel => exact ⟨k + 1, xs, by omega, by go_num, HS, Lib.hid (rnd_row HE.out), HO, hB⟩
                            case measure => simp [intOf]; omega
                      · obtain rfl : k = G.length := by omega
                        go_wp2_with fail
                        go_roundw
                        case rel => exact ⟨r + 1, xs, by omega, by go_num, HS, Lib.hid (rnd_out HE.out), HO, hB⟩
                        case measure => simp [intOf]; omega
                  · obtain rfl : r = G.length := by omega
                    have HC2 := Lib.hid (rnd_closed HE.out HS.out.len)
                    go_wp2_with fail
                    go_roundw
                    case rel => exact ⟨s + 1, xs, by omega, by go_num, HS, HC2, HO, hB⟩
                    case measure => simp [intOf]; omega
            · obtain rfl : s = G.length := by omega
              have HEND := Lib.hid (lvl_end HS.out)
              have HSL := Lib.hid HS.out.len
              have HT := Lib.hid HEND.out.1
              obtain ⟨w3, rfl⟩ : ∃ w3 : World, w3 = wr := ⟨_, rfl⟩
              have hM3 := hM.below (hB.mono hn)
              clear HS HC
              go_wp2_with fail
              go_loopw [12] (fun i wr => ∃ (k q : Nat), k ≤ G.length ∧ i = .int .i64 k ∧ wr = w3.drewN q ∧ Hid (ChkTo G m k 0 xs)) (fun i _ => G.length - (intOf i).toNat)
              case atStart => exact ⟨0, 0, Nat.zero_le _, rfl, rfl, Lib.hid fun a b _ _ _ h => by omega⟩
              case round =>
                obtain ⟨k, q, hk, rfl, rfl, HCK⟩ := hrel
                by_cases hlk : k < G.length
                · obtain ⟨b, o, a1, c1, row, rfl, hb, hc, hX, HX⟩ := hM3.at_ hlk
                  have HE := Lib.hid (HG.out.len HX.out)
                  have hki : (k : Int) < (G.length : Int) := by omega
                  obtain ⟨p, hp, hpn, hpm⟩ := tells_at HT.out hlk
                  have HP := Lib.hid hpn
                  have hcp := HO.out.cell hlk hp
                  obtain ⟨t, ht⟩ : ∃ t : Nat, t = (p + 1) % m := ⟨_, rfl⟩
                  have hmd : Int.tmod ((p : Int) + 1) (m : Int) = (t : Int) := by rw [ht]; exact rem_lv (p + 1) m
                  have HTT := Lib.hid ht
                  clear hp hpn ht
                  go_wp2_with fail
                  go_loopw [13] (fun i wr => ∃ (j q : Nat), j ≤ G.length ∧ i = .int .i64 j ∧ wr = w3.drewN q ∧ Hid (ChkTo G m k j xs)) (fun i _ => G.length - (intOf i).toNat)
                  case atStart => exact ⟨0, q, Nat.zero_le _, rfl, rfl, HCK⟩
                  case round =>
                    clear HCK
                    obtain ⟨j, q2, hjj, rfl, rfl, HCK⟩ := hrel
                    by_cases hlj : j < G.length
                    · have hji : (j : Int) < (G.length : Int) := by omega
                      have hlx : j < row.length := by rw [HE.out]; exact hlj
                      have hlxi : (j : Int) < (row.length : Int) := by omega
                      obtain ⟨b4, o4, v, rfl, hb4, hc4, HV⟩ := hX.at_ hlx
                      have HA : Hid (arw G k j = (v == 1)) := Lib.hid (by unfold arw; rw [ent_eq HX.out HV.out])
                      by_cases hv : v = 1
                      · have hvb : (v == 1) = true := by simp [hv]
                        obtain ⟨r, hr, hrn, hrm⟩ := tells_at HT.out hlj
                        have hcr := HO.out.cell hlj hr
                        by_cases hE : t = r
                        · have hne : ((t : Int) != (r : Int)) = false := by rw [hE]; simp
                          have HCK2 := Lib.hid (chk_next HCK.out fun _ => by rw [HP.out, hrn, ← HTT.out]; exact hE)
                          clear hr hrn hv hE
                          go_wp2_with fail
                          go_quiet (fail)
                          go_wp2_with fail
                          go_roundw
                          case rel => exact ⟨j + 1, _, by omega, by go_num, by first | rfl | exact drewN_twoP _ _ _, HCK2⟩
                          case measure => simp [intOf]; omega
                        · have hne : ((t : Int) != (r : Int)) = true := by simp; omega
                          have HRes := Lib.hid (HNo.out fun f hf => by
                            have h3 := HEND.out.2.2 f hf k j hlk hlj (by rw [HA.out]; exact hvb)
                            rw [HP.out, hrn, ← HTT.out] at h3
                            exact hE h3)
                          clear hr hrn hv hE
                          go_wp2_with fail
                          go_quiet (fail)
                          go_wp2_with fail
                          go_ret2
                          rw [HRes.out.1, HRes.out.2]
                          exact ⟨_, _, ⟨rfl, Below.alloc (below_drewN hB _) hB.size _⟩, fun h => absurd rfl h⟩
                      · have hvb : (v == 1) = false := by simp [hv]
                        have HCK2 := Lib.hid (chk_next HCK.out fun h => by rw [HA.out, hvb] at h; cases h)
                        clear hv
                        go_wp2_with fail
                        go_quiet (fail)
                        go_wp2_with fail
                        go_roundw
                        case rel => exact ⟨j + 1, _, by omega, by go_num, by first | rfl | exact drewN_twoP _ _ _, HCK2⟩
                        case measure => simp [intOf]; omega
                    · obtain rfl : j = G.length := by omega
                      go_wp2_with fail
                      go_roundw
                      case rel => exact ⟨k + 1, q2, by omega, by go_num, by first | trivial | rfl, Lib.hid (chk_row HCK.out)⟩
                      case measure => simp [intOf]; omega
                · obtain rfl : k = G.length := by omega
                  have HRes := Lib.hid (HYes.out xs (HEND.out.2.1 fun i j hi hj ha => HCK.out i j hi hj ha (.inl hi)))
                  go_wp2_with fail
                  go_ret2
                  rw [HRes.out.1, HRes.out.2]
                  refine ⟨some ⟨g, 0, none⟩, cap, ⟨by rw [HSL.out]; rfl, below_drewN hB _⟩, ?_⟩
                  have h := HO.out
                  exact own_intsQ (base := w.heap.size) (c := cap) (by rw [HSL.out]; exact h)
    · have hd : decide (1 ≤ z ∧ z ≤ 9) = false := decide_eq_false hz
      have hkn := lev_noM (G := G) hz
      rw [levI_no hkn, hkn]
      clear hkn hz
      go_enter Try.func38, Try.ntmps38
      go_wp2_with fail
      refine (specOk_any _ _ _ n₀ _ hM HF.out).mono ?_
      rintro e w' ⟨rfl, rfl⟩
      rw [hg]
      go_wp2_with fail
      refine (in_any _ _ _ _).mono ?_
      rw [hd]
      rintro e w' ⟨rfl, rfl⟩
      go_wp2_with fail
      go_ret2
      exact ⟨_, _, ⟨rfl, (Below.refl _ w).alloc (Nat.le_refl _) _⟩, fun h => absurd rfl h⟩
  · have hgn : gOk G = false := by simpa using hg
    have hkn := lev_noG (z := z) hgn
    rw [levI_no hkn, hkn]
    clear hg hkn
    go_enter Try.func38, Try.ntmps38
    go_wp2_with fail
    refine (specOk_any _ _ _ n₀ _ hM HF.out).mono ?_
    rintro e w' ⟨rfl, rfl⟩
    rw [hgn]
    go_wp2_with fail
    go_ret2
    exact ⟨_, _, ⟨rfl, (Below.refl _ w).alloc (Nat.le_refl _) _⟩, fun h => absurd rfl h⟩

end Go.Proofs.Ytkkifphpogfjfaa

namespace Go.Proofs.Ytkkifphpogfjfaa
open Go.RowKit Go.Shelf Go.Deep

/-- The rings above, of the first t numbers. -/
noncomputable def rngTo (G : List (List Int)) (t : Nat) : List Int := ((List.range t).map fun k => ((k + 1 : Nat) : Int)).filter (levK G)
theorem rngTo_all (G : List (List Int)) : rngTo G 9 = rngL G := rfl
theorem rngTo_yes {G : List (List Int)} {t : Nat} (h : levK G ((t : Int) + 1) = true) : rngTo G (t + 1) = rngTo G t ++ [(t : Int) + 1] := by
  have e : ((t + 1 : Nat) : Int) = (t : Int) + 1 := by omega
  unfold rngTo
  rw [List.range_succ, List.map_append, List.filter_append]
  simp only [List.map_cons, List.map_nil, e, List.filter_cons, h, if_true, List.filter_nil]
theorem rngTo_no {G : List (List Int)} {t : Nat} (h : levK G ((t : Int) + 1) = false) : rngTo G (t + 1) = rngTo G t := by
  have e : ((t + 1 : Nat) : Int) = (t : Int) + 1 := by omega
  unfold rngTo
  rw [List.range_succ, List.map_append, List.filter_append]
  simp [h]
theorem rngTo_le (G : List (List Int)) (t : Nat) : (rngTo G t).length ≤ t := by
  have := List.length_filter_le (levK G) ((List.range t).map fun k => ((k + 1 : Nat) : Int))
  simpa [rngTo] using this

set_option maxRecDepth 100000 in
set_option maxHeartbeats 4000000 in
theorem specRng (a : Option Addr) (c : Nat) (G : List (List Int)) (n₀ : Nat) (w : World) (hM : Mat n₀ w a G) (hn : n₀ ≤ w.heap.size) (hF : Fit G) :
    Calls Try.prog 44 #[.slice a G.length c] w (MadeOwn (rngL G) w) := by
  obtain ⟨i1, hj, hy0, hy1, hy2⟩ := info_parts infoInt
  have HF := Lib.hid hF
  have hlG := hF.1
  clear hF
  go_enter Try.func44, Try.ntmps44
  go_wp2_with fail
  go_loopw [3, 4] (fun v i wr => ∃ (t g cap l : Nat), t ≤ 9 ∧ l ≤ 9 ∧ i = .int .i64 ((t : Int) + 1) ∧ v = .slice (some ⟨g, 0, none⟩) l cap ∧ Hid ((rngTo G t).length = l) ∧ Hid (wr.ownsRow w.heap.size 3 1 (.slice (some ⟨g, 0, none⟩) l cap) l ((rngTo G t).map (Value.int .i64))) ∧ Below w.heap.size w wr) (fun _ i _ => 10 - (intOf i).toNat)
  case atStart => exact ⟨0, _, _, 0, Nat.zero_le _, Nat.zero_le _, rfl, rfl, Lib.hid rfl, Lib.hid (World.ownsRow_lit (size := 1) w #[] 0 (Nat.le_refl _) (Nat.zero_le _) rfl), (Below.refl _ _).alloc (Nat.le_refl _) _⟩
  case round =>
    obtain ⟨t, g, cap, l, ht, hl, rfl, rfl, HL, HO, hB⟩ := hrel
    have hBs := hB.size
    by_cases hlt : t < 9
    · have hti : (t : Int) + 1 ≤ 9 := by omega
      have HLE := Lib.hid (rngTo_le G (t + 1))
      have hlv := specLev a c G ((t : Int) + 1) n₀ wr (hM.below (hB.mono hn)) (Nat.le_trans hn hBs) HF.out
      obtain ⟨y, hy⟩ : ∃ y, levK G ((t : Int) + 1) = y := ⟨_, rfl⟩
      have HY := Lib.hid hy
      obtain ⟨zs, hzs⟩ : ∃ zs, levI G ((t : Int) + 1) = zs := ⟨_, rfl⟩
      rw [hy, hzs] at hlv
      clear hy hzs
      go_wp2_with fail
      refine hlv.mono ?_
      rintro e w1 ⟨a1, c1, ⟨rfl, hB1⟩, -⟩
      have HO1 : Hid (w1.ownsRow w.heap.size 3 1 (.slice (some ⟨g, 0, none⟩) l cap) l ((rngTo G t).map (Value.int .i64))) := Lib.hid (own_blockQ HO.out fun g' e => by
        have e' : some g = some g' := e
        cases e'
        exact hB1.block _ (World.ownsRow.lt HO.out g (by simp [Value.ownBlock])).2)
      have hBX := hB.trans (hB1.mono hBs)
      clear HO hB hB1 hlv hBs
      have hBs := hBX.size
      cases y with
      | true =>
        have HN := Lib.hid (rngTo_yes HY.out)
        have HL2 : Hid ((rngTo G (t + 1)).length = l + 1) := Lib.hid (by rw [HN.out, List.length_append, HL.out]; rfl)
        have hl2 : l + 1 ≤ 9 := by have := HLE.out; rw [HL2.out] at this; omega
        have hown := HO1.out
        have hlg := hown.lt g (by simp [Value.ownBlock])
        go_wp2_with (at_builtin; go_must (refine wpList_append_own _ rfl _ _ 36 rfl w.heap.size 3 i1 (.int .i64 0) 1 8 Try.underlying36 hj hy0 hy1 hy2 rfl (by decide) _ _ _ rfl (hown.alloc _) ⟨w1.heap.size, 0, none⟩ 1 1 [.int .i64 ((t : Int) + 1)] rfl rfl (cell_one_new _ _ _) (by simp [Value.oneCell']) (by unfold maxLen; omega) (by omega) (by simp; omega) ?_); go_must (intro v' w4 hown' hgrow _; obtain ⟨g2, cap2, rfl⟩ := ownsRow_succ hown'); go_must (have HO4 := Lib.hid hown'); go_must (have hB4 : Below w.heap.size w w4 := (hBX.alloc hBs _).grown hgrow (by simp; omega) (fun r e => by have e' : some g = some r := e; cases e'; exact hlg.1)); clear hown' hgrow)
        go_roundw
        case rel => exact ⟨t + 1, g2, cap2, l + 1, by omega, hl2, by go_num, rfl, HL2, Lib.hid (by rw [HN.out, List.map_append]; exact HO4.out), hB4⟩
        case measure => simp [intOf]; omega
      | false =>
        have HN := Lib.hid (rngTo_no HY.out)
        go_wp2_with fail
        go_roundw
        case rel => exact ⟨t + 1, g, cap, l, by omega, hl, by go_num, rfl, Lib.hid (by rw [HN.out]; exact HL.out), Lib.hid (by rw [HN.out]; exact HO1.out), hBX⟩
        case measure => simp [intOf]; omega
    · obtain rfl : t = 9 := by omega
      have HO2 := HO
      have HL2 := HL
      rw [rngTo_all] at HO2 HL2
      clear HO HL
      go_wp2_with fail
      go_ret
      exact ⟨some ⟨g, 0, none⟩, cap, ⟨by rw [HL2.out]; rfl, hB⟩, by rw [HL2.out]; exact HO2.out⟩
theorem specRngR (a : Option Addr) (c : Nat) (G : List (List Int)) (n₀ : Nat) (w : World) (hM : Mat n₀ w a G) (hn : n₀ ≤ w.heap.size) (hF : Fit G) :
    Calls Try.prog 44 #[.slice a G.length c] w (ReadI (rngL G) w) :=
  (specRng a c G n₀ w hM hn hF).mono fun _ _ ⟨a, c, h1, h2⟩ => ⟨a, c, h1, own_intsQ h2⟩

end Go.Proofs.Ytkkifphpogfjfaa

namespace Go.Proofs.Ytkkifphpogfjfaa
open Go.RowKit Go.Shelf Go.Deep

theorem patI_fit {z : Int} : Fit (patI z) := by
  by_cases h : 1 ≤ z ∧ z ≤ 9
  · unfold patI
    rw [if_pos h]
    exact (pat_good (by omega) (by omega)).fit
  · rw [patI_no h]
    exact ⟨by simp, fun xs hx => by simp at hx⟩
theorem linI_fit {z : Int} : Fit (linI z) := by
  by_cases h : 1 ≤ z ∧ z ≤ 9
  · unfold linI
    rw [if_pos h]
    exact (lin_good (by omega) (by omega)).fit
  · rw [linI_no h]
    exact ⟨by simp, fun xs hx => by simp at hx⟩
theorem rinI_fits {z : Int} : Fit (rinI z) := by
  by_cases h : 1 ≤ z ∧ z ≤ 9
  · unfold rinI
    rw [if_pos h]
    exact (rin_good (by omega) (by omega)).fit
  · rw [rinI_no h]
    exact ⟨by simp, fun xs hx => by simp at hx⟩
theorem levI_le {G : List (List Int)} {z : Int} : (levI G z).length ≤ 1048576 := by
  cases h : levK G z with
  | true =>
    have h1 := (levI_lvl h).1.1.1
    have h2 := (good_of (levK_iff.1 h).1).2.1
    omega
  | false => rw [levI_no h]; simp
theorem rngL_le {G : List (List Int)} : (rngL G).length ≤ 1048576 := by
  have := rngTo_le G 9
  rw [rngTo_all] at this
  omega
theorem hgtL_le {G : List (List Int)} : (hgtL G).length ≤ 1048576 := by
  cases h : lngK G with
  | true =>
    have h2 := (good_of (lngK_some h).1).2.1
    rw [hgt_yes h, List.length_map, List.length_range]
    omega
  | false => rw [hgt_no h]; simp
theorem patI_le (z : Int) : (patI z).length ≤ 1000 := by
  unfold patI
  split
  · rw [pat_len]; omega
  · simp
theorem rinI_le (z : Int) : (rinI z).length ≤ 1000 := by
  unfold rinI
  split
  · rw [rin_len]; omega
  · simp
theorem specPatR (z : Int) (w : World) : Calls Try.prog 20 #[.int .i64 z] w (ReadM (patI z) w) :=
  (specPatD z w).mono fun _ _ h => by
    obtain ⟨a, c, h1, h2⟩ := h.made (patI_le z)
    exact ⟨a, c, h1, h2.mat⟩
theorem specRinR (z : Int) (w : World) : Calls Try.prog 32 #[.int .i64 z] w (ReadM (rinI z) w) :=
  (specRinD z w).mono fun _ _ h => by
    obtain ⟨a, c, h1, h2⟩ := h.made (rinI_le z)
    exact ⟨a, c, h1, h2.mat⟩
theorem specLinR (z : Int) (w : World) : Calls Try.prog 28 #[.int .i64 z] w (ReadM (linI z) w) :=
  (specLinO z w).mono fun _ _ ⟨a, c, h1, h2⟩ => ⟨a, c, h1, h2.mat⟩

end Go.Proofs.Ytkkifphpogfjfaa
