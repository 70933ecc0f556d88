/-
  spec.FromKinds, walked.
-/
import Derived.Test.YtdolpkjighbohaaPC
import Derived.Maps.AppendAt
namespace Go.Proofs.Ytdolpkjighbohaa
open Go.RowKit Go.Shelf Go.Deep

theorem grow_ne {W : World} {base e n : Nat} {v : Value} {xs : List Value} (_ : W.ownsRow base e 1 v n xs) : v.ownBlock = none ∨ v.ownBlock ≠ none := by
  cases v.ownBlock <;> simp
/-- A slice that grew lies in its old row or in a new block: not in another one's row. -/
theorem loc_ne {W : World} {base e n n1 n2 g g2 cap cap2 : Nat} {v : Value} {xs : List Value} {o : Obj} (h : W.ownsRow base e 1 v n xs) (hne : v.ownBlock ≠ some g)
    (hl : (Value.slice (some ⟨g2, 0, none⟩) n2 cap2).ownBlock = (Value.slice (some ⟨g, 0, none⟩) n1 cap).ownBlock ∨ (Value.slice (some ⟨g2, 0, none⟩) n2 cap2).ownBlock = some (W.alloc o).heap.size) : v.ownBlock ≠ some g2 := by
  rcases hl with e1 | e1
  · have e2 : g2 = g := by simpa [Value.ownBlock] using e1
    rw [e2]; exact hne
  · have e2 : g2 = (W.alloc o).heap.size := by simpa [Value.ownBlock] using e1
    intro e3
    have := (h.lt _ e3).2
    simp at e2
    omega

set_option maxRecDepth 100000 in
set_option maxHeartbeats 4000000 in
theorem specFrom (a a' a'' : Option Addr) (c c' c'' : Nat) (G H : List (List Int)) (f : List Int) (n₀ : Nat) (w : World) (hM : Mat n₀ w a G) (hM' : Mat n₀ w a' H) (hI : Ints n₀ w a'' f) (hn : n₀ ≤ w.heap.size) (hF : Fit G) (hF' : Fit H) (hl : f.length ≤ 1048576) :
    Calls Try.prog 37 #[.slice a G.length c, .slice a' H.length c', .slice a'' f.length c''] w (ReadI (frI G H f) w) := by
  obtain ⟨i1, hj, hy0, hy1, hy2⟩ := info_parts infoInt
  have HCK : ∀ W, Below w.heap.size w W → Calls Try.prog 34 #[.slice a G.length c, .slice a' H.length c', .slice a'' f.length c''] W (MadeOwn (kbI G H f) W) := fun W hW => specKby a a' a'' c c' c'' G H f n₀ W (hM.below (hW.mono hn)) (hM'.below (hW.mono hn)) (hI.below (hW.mono hn)) (Nat.le_trans hn hW.size) hF hF' hl
  clear hF hF'
  have hk9 := kb_le (G := G) (H := H) (f := f)
  have HST : Hid (∀ (k : Nat) (y x : Int), f[k]? = some y → (kbI G H f)[k]? = some x → nubL (f.take (k + 1)) = if x = ((nubL (f.take k)).length : Int) then nubL (f.take k) ++ [y] else nubL (f.take k)) := Lib.hid fun k y x h1 h2 => by
    cases h : mapOkI G H f with
    | true => rw [kb_yes h] at h2; exact kby_first h1 h2
    | false => rw [kb_no h] at h2; simp at h2
  have HEND : Hid (frI G H f = nubL (f.take (kbI G H f).length)) := Lib.hid (by
    cases h : mapOkI G H f with
    | true => rw [kb_yes h, fr_yes h, kby_length, List.take_length]
    | false => rw [kb_no h, fr_no h]; rfl)
  have HLE : Hid ((kbI G H f).length ≤ f.length) := Lib.hid (by
    cases h : mapOkI G H f with
    | true => rw [kb_yes h, kby_length]; exact Nat.le_refl _
    | false => rw [kb_no h]; simp)
  obtain ⟨ls, hls⟩ : ∃ ls, kbI G H f = ls := ⟨_, rfl⟩
  have hC2 := HCK
  have hst := HST.out
  have hend := HEND.out
  have hle := HLE.out
  rw [hls] at hk9 hst hend hle
  simp only [hls] at hC2
  clear HCK HST HEND HLE hls
  have HC := Lib.hid hC2
  have HST := Lib.hid hst
  have HEND := Lib.hid hend
  clear hC2 hst hend
  obtain ⟨zs, HZ⟩ : ∃ zs, Hid (frI G H f = zs) := ⟨_, rfl⟩
  rw [HZ.out] at HEND ⊢
  go_enter Try.func37, Try.ntmps37
  go_wp2_with fail
  refine (HC.out _ ((Below.refl _ w).alloc (Nat.le_refl _) _)).mono ?_
  rintro e w2 ⟨aK, cK, ⟨rfl, hB2⟩, hK2⟩
  have HB2 := Lib.hid (((Below.refl w.heap.size w).alloc (Nat.le_refl _) (.cells #[] 3)).trans (hB2.mono (by simp)))
  have HO0 : Hid (w2.ownsRow w.heap.size 3 1 (.slice (some ⟨w.heap.size, 0, none⟩) 0 0) 0 ((nubL (f.take 0)).map (Value.int .i64))) := Lib.hid (ownsRow_below (World.ownsRow_lit (size := 1) w #[] 0 (Nat.le_refl _) (Nat.zero_le _) rfl) hB2)
  have hI2 := hI.below (HB2.out.mono hn)
  have hz2 := HB2.out.size
  have HNE : Hid ((Value.slice aK ls.length cK).ownBlock ≠ some w.heap.size) := Lib.hid fun e => by
    have := (hK2.lt _ e).1
    simp at this
    omega
  have HKO := Lib.hid hK2
  clear hB2 hK2
  go_wp2_with fail
  go_loopw [7, 9] (fun v i wr => ∃ (k s g cap : Nat), k ≤ ls.length ∧ s ≤ k ∧ i = .int .i64 k ∧ v = .slice (some ⟨g, 0, none⟩) s cap ∧ Hid ((nubL (f.take k)).length = s) ∧ Hid (wr.ownsRow w.heap.size 3 1 (.slice (some ⟨g, 0, none⟩) s cap) s ((nubL (f.take k)).map (Value.int .i64))) ∧ Below w.heap.size w wr ∧ Ints n₀ wr a'' f ∧ Hid (wr.ownsRow (w.heap.size + 1) 3 1 (.slice aK ls.length cK) ls.length (ls.map (Value.int .i64))) ∧ Hid ((Value.slice aK ls.length cK).ownBlock ≠ some g))
    (fun _ i _ => ls.length - (intOf i).toNat)
  case atStart => exact ⟨0, 0, _, _, Nat.zero_le _, Nat.le_refl _, rfl, rfl, Lib.hid rfl, HO0, HB2.out, hI2, Lib.hid (by have := HKO.out; simpa using this), HNE⟩
  case round =>
    obtain ⟨k, s, g, cap, hk, hsk, rfl, rfl, HS, HO, hB, hIr, HKR, HNG⟩ := hrel
    have hws := hB.size
    by_cases hlt : k < ls.length
    · obtain ⟨b, o, y, rfl, hb, hc, HY⟩ := hIr.at_ (show k < f.length by omega)
      obtain ⟨b2, o2, x, rfl, hb2, hc2, HX⟩ := (own_intsQ HKR.out).at_ hlt
      have HN := Lib.hid (HST.out k y x HY.out HX.out)
      rw [HS.out] at HN
      by_cases he : x = (s : Int)
      · have HN2 : Hid (nubL (f.take (k + 1)) = nubL (f.take k) ++ [y]) := Lib.hid (by rw [HN.out, if_pos he])
        have hyb : (x == (s : Int)) = true := by simp [he]
        have hown := HO.out
        have hlg := hown.lt g (by simp [Value.ownBlock])
        clear he HN
        go_wp2_with (at_builtin; go_must (refine wpList_append_own_at _ rfl _ _ 24 rfl w.heap.size 3 i1 (.int .i64 0) 1 8 Try.underlying24 hj hy0 hy1 hy2 rfl (by decide) _ _ _ rfl (hown.alloc _) ⟨wr.heap.size, 0, none⟩ 1 1 [.int .i64 y] rfl rfl (cell_one_new _ _ _) (by simp [Value.oneCell']) (by unfold maxLen; omega) (by omega) (by simp; omega) ?_); go_must (intro v' wz hown' hgrow _ hloc; obtain ⟨g2, cap2, rfl⟩ := ownsRow_succ hown'); go_must (have HO4 := Lib.hid hown'); go_must (have hB4 : Below w.heap.size w wz := (hB.alloc hws _).grown hgrow (by simp; omega) (fun r e => by have e' : some g = some r := e; cases e'; exact hlg.1)); go_must (have HKZ : Hid (wz.ownsRow (w.heap.size + 1) 3 1 (.slice (some ⟨b2, o2, none⟩) ls.length cK) ls.length (ls.map (Value.int .i64))) := Lib.hid (World.ownsRow.kept (World.ownsRow.kept HKR.out (World.grownBy_alloc _ _ none) (grow_ne HKR.out)) hgrow (.inr HNG.out))); go_must (have HNZ : Hid ((Value.slice (some ⟨b2, o2, none⟩) ls.length cK).ownBlock ≠ some g2) := Lib.hid (loc_ne HKR.out HNG.out hloc)); clear hown' hgrow hloc)
        go_roundw
        case rel => exact ⟨k + 1, s + 1, g2, cap2, by omega, by omega, by go_num, rfl, Lib.hid (by rw [HN2.out, List.length_append, HS.out]; rfl), Lib.hid (by rw [HN2.out, List.map_append]; exact HO4.out), hB4, hI.below (hB4.mono hn), HKZ, HNZ⟩
        case measure => simp [intOf]; omega
      · have HN2 : Hid (nubL (f.take (k + 1)) = nubL (f.take k)) := Lib.hid (by rw [HN.out, if_neg he])
        have hyb : (x == (s : Int)) = false := by simp [he]
        clear he HN
        go_wp2_with fail
        go_roundw
        case rel => exact ⟨k + 1, s, g, cap, by omega, by omega, by go_num, rfl, Lib.hid (by rw [HN2.out, HS.out]), Lib.hid (by rw [HN2.out]; exact HO.out), hB, hIr, HKR, HNG⟩
        case measure => simp [intOf]; omega
    · obtain rfl : k = ls.length := by omega
      have HLZ : Hid (zs.length = s) := Lib.hid (by rw [HEND.out, HS.out])
      go_wp2_with fail
      go_ret
      refine ⟨some ⟨g, 0, none⟩, cap, ⟨by rw [HLZ.out]; rfl, hB⟩, ?_⟩
      have h := HO.out
      rw [← HEND.out] at h
      exact own_intsK HLZ.out h

end Go.Proofs.Ytdolpkjighbohaa
