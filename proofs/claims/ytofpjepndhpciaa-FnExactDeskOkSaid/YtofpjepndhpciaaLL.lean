/-
  The model's l11Rows: rows copied.
-/
import Derived.Test.YtofpjepndhpciaaWS
import Derived.Test.YtofpjepndhpciaaLK
namespace Go.Proofs.Ytofpjepndhpciaa
open Go.RowKit Go.Shelf Go.Deep

set_option maxRecDepth 100000 in
set_option maxHeartbeats 8000000 in
theorem specRows11 (a : Option Addr) (c : Nat) (G : List (List Int)) (n₀ : Nat) (w : World) (hM : Mat n₀ w a G) (hn : n₀ ≤ w.heap.size) (hg : gOk G = true) :
    Calls Try.prog 32 #[.slice a G.length c] w (MadeS G w) := by
  obtain ⟨i0, hi, hz0, hz1, hz2⟩ := info_parts infoInts
  obtain ⟨i1, hj, hy0, hy1, hy2⟩ := info_parts infoInt
  have HG := Lib.hid (good_of hg)
  have hl9 := HG.out.2.1
  have hl1 := HG.out.1
  clear hg
  go_enter Try.func32, Try.ntmps32
  go_wp2_with fail
  go_loopw [3, 4] (fun v i wr => ∃ (k g cap : Nat), k ≤ G.length ∧ i = .int .i64 k ∧ v = .slice (some ⟨g, 0, none⟩) k cap ∧ Hid (OwnSep w.heap.size wr (.slice (some ⟨g, 0, none⟩) k cap) (G.take k)) ∧ Below w.heap.size w wr) (fun _ i _ => G.length - (intOf i).toNat)
  case atStart => exact ⟨0, _, _, Nat.zero_le _, rfl, rfl, Lib.hid (by rw [List.take_zero]; exact OwnSep.start w (Nat.le_refl _)), (Below.refl _ _).alloc (Nat.le_refl _) _⟩
  case round =>
    obtain ⟨k, g, cap, hk, rfl, rfl, HO, hB⟩ := hrel
    have hws := hB.size
    have hMr : Mat n₀ wr a G := hM.below (hB.mono hn)
    by_cases hlt : k < G.length
    · have hki : (k : Int) < (G.length : Int) := by omega
      obtain ⟨b5, o5, a5, c5, xs, rfl, hb5, hc5, hI5, HX⟩ := hMr.at_ hlt
      have HEx := Lib.hid (HG.out.len HX.out)
      have hx1 : 1 ≤ xs.length := by rw [HEx.out]; exact hl1
      have hx9 : xs.length ≤ 9 := by rw [HEx.out]; exact hl9
      obtain ⟨b6, o6, _, e6, _⟩ := hI5.at_ (k := 0) (by omega)
      subst e6
      have HTK : Hid (G.take (k + 1) = G.take k ++ [xs]) := Lib.hid (take_at HX.out)
      have HTL : Hid ((G.take k).length = k) := Lib.hid (by rw [List.length_take]; omega)
      have hca : (wr.alloc (.cells #[] 3)).cell? ⟨b5, o5 + k, none⟩ = some (.slice (some ⟨b6, o6, none⟩) xs.length c5) := (World.cell?_alloc_lt wr _ ⟨b5, o5 + k, none⟩ (by show b5 < _; omega)).trans hc5
      have hown0 : (wr.alloc (.cells #[] 3)).ownsRow wr.heap.size 3 1 (.slice (some ⟨wr.heap.size, 0, none⟩) 0 0) 0 [] := World.ownsRow_lit (size := 1) wr #[] 0 (Nat.le_refl _) (Nat.zero_le _) rfl
      have hQa := hI5.below ((Below.refl n₀ wr).alloc (Nat.le_trans hn hws) (.cells #[] 3))
      have hone : ∀ u ∈ xs.map (Value.int .i64), u.oneCell' = true := fun u hu => by obtain ⟨x, _, rfl⟩ := List.mem_map.1 hu; rfl
      obtain ⟨vs, hownr, hrowsr, hsepr⟩ := HO.out
      rw [HTL.out] at hownr
      have hvl : vs.length = k := by simpa using hownr.1
      have HLT : Hid (∀ y ∈ vs, ∀ q, y.ownBlock = some q → q < wr.heap.size) := Lib.hid fun y hy q hq => by
        obtain ⟨i, hi, e⟩ := List.mem_iff_getElem.1 hy
        have hil : i < (G.take k).length := by rw [HTL.out]; omega
        exact ((hrowsr i y _ (by rw [List.getElem?_eq_getElem hi, e]) (List.getElem?_eq_getElem hil)).lt q hq).2
      have HRW := Lib.hid hrowsr
      have HSEP := Lib.hid hsepr
      clear hrowsr hsepr HO hI5 hMr
      go_wp2_with (first
        | (at_builtin; refine wpList_append_own _ rfl _ _ 47 rfl wr.heap.size 3 i1 (.int .i64 0) 1 8 Try.underlying47 hj hy0 hy1 hy2 rfl (by decide) (.slice (some ⟨wr.heap.size, 0, none⟩) 0 0) 0 [] rfl hown0 ⟨b6, o6, none⟩ xs.length c5 (xs.map (Value.int .i64)) rfl (by simp) (ints_news8 hQa) hone (by unfold maxLen; omega) (by omega) (by simp) ?_; intro v4 w4 hown4 hgrow4 _; rw [Nat.zero_add, List.nil_append] at hown4; have hB4 : Below wr.heap.size wr w4 := ((Below.refl _ wr).alloc (Nat.le_refl _) _).grown hgrow4 (by simp) (fun r e => by have e' : some wr.heap.size = some r := e; cases e'; exact Nat.le_refl _); have hs4 := hB4.size; obtain ⟨g4, c4, rfl⟩ := Joins.ownsRow_form hown4 (by omega); have hg4 := (hown4.lt g4 (by simp [Value.ownBlock])).1; have hown := ownsRow_below hownr hB4; have hlg := hown.lt g (by simp [Value.ownBlock]); have HRow : Hid (w4.ownsRow w.heap.size 3 1 (.slice (some ⟨g4, 0, none⟩) xs.length c4) xs.length (xs.map (Value.int .i64))) := Lib.hid (Joins.ownsRow_le hown4 hws); have HB4 := Lib.hid hB4; have hBr : Below w.heap.size w w4 := hB.trans (hB4.mono hws); clear hgrow4 hown0 hca hQa hown4 hB4 hownr)
        | (at_builtin; refine wpList_append_own _ rfl _ _ 23 rfl w.heap.size 47 i0 (.slice none 0 0) 1 24 Try.underlying23 hi hz0 hz1 hz2 rfl (by decide) _ _ _ rfl (hown.alloc _) ⟨w4.heap.size, 0, none⟩ 1 1 [.slice (some ⟨g4, 0, none⟩) xs.length c4] rfl rfl (cell_one_new _ _ _) (by simp [Value.oneCell']) (by unfold maxLen; omega) (by omega) (by simp; omega) ?_; intro v' w6 hown' hgrow _; obtain ⟨g6, cap6, rfl⟩ := ownsRow_succ hown'; have HO6 := Lib.hid (OwnSep.appended (xss := G.take k) (by rw [HTL.out]; exact hown) (fun i x ys hx hys => ownsRow_below (HRW.out i x ys hx hys) HB4.out) HSEP.out HRow.out (fun y hy q hq e => by have h1 := HLT.out y hy q hq; have e' : some g4 = some q := e; cases e'; omega) (by rw [HTL.out]; exact hown') hgrow); have hB6 : Below w.heap.size w w6 := (hBr.alloc (by omega) _).grown hgrow (by simp; omega) (fun r e => by have e' : some g = some r := e; cases e'; exact hlg.1); clear hown' hgrow hown))
      go_roundw
      case rel => exact ⟨k + 1, g6, cap6, by omega, by go_num, rfl, Lib.hid (by rw [HTK.out]; exact HO6.out), hB6⟩
      case measure => simp [intOf]; omega
    · obtain rfl : k = G.length := by omega
      go_wp2_with fail
      go_ret
      have h := HO.out
      rw [List.take_length] at h
      exact ⟨_, cap, ⟨rfl, hB⟩, h⟩

end Go.Proofs.Ytofpjepndhpciaa
