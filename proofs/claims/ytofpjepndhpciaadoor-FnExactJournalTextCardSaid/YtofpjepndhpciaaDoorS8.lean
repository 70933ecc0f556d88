/-
  The model's l1Cut; the model's GraphOk of rows of whatever a text may tell.
-/
import Derived.Test.YtofpjepndhpciaaDoorS6
import Derived.Test.YtofpjepndhpciaaDoorS4
import Derived.Test.YtofpjepndhpciaaDoorZF
import Derived.Test.YtofpjepndhpciaaDoorZG
namespace Go.Proofs.YtofpjepndhpciaaDoor
open Go.RowKit Go.Shelf Go.Deep

def FitB (xss : List (List Int)) : Prop := xss.length ≤ 2000000 ∧ ∀ xs ∈ xss, xs.length ≤ 2000000
theorem FitB.at_ {xss : List (List Int)} (h : FitB xss) {i : Nat} {xs : List Int} (hx : xss[i]? = some xs) : xs.length ≤ 2000000 := h.2 xs (List.mem_of_getElem? hx)

/-- Strings of the call's own, built by append. -/
def OwnStr (base : Nat) (W : World) (v : Value) (ps : List ByteArray) : Prop := W.ownsRow base 9 1 v ps.length (ps.map Value.string)
theorem drop_take_snoc {l : List UInt8} {f k : Nat} (hf : f ≤ k) (hk : k < l.length) : (l.drop f).take (k + 1 - f) = (l.drop f).take (k - f) ++ [l[k]] := by
  rw [show k + 1 - f = (k - f) + 1 by omega, List.take_add_one, List.getElem?_drop, show f + (k - f) = k by omega, List.getElem?_eq_getElem hk]
  rfl
theorem drop_parts {l : List UInt8} {f k : Nat} (hf : f ≤ k) (hk : k < l.length) : l.drop f = (l.drop f).take (k - f) ++ l[k] :: l.drop (k + 1) := by
  conv => lhs; rw [← List.take_append_drop (k - f) (l.drop f)]
  rw [List.drop_drop, show f + (k - f) = k by omega, List.drop_eq_getElem_cons hk]
theorem cut_at {l : List UInt8} {f k : Nat} (hf : f ≤ k) (hk : k < l.length) (h47 : l[k] = 47) (hn : (47 : UInt8) ∉ (l.drop f).take (k - f)) : cutL (l.drop f) = (l.drop f).take (k - f) :: cutL (l.drop (k + 1)) := by
  conv => lhs; rw [drop_parts hf hk, h47]
  exact cutL_first _ hn
theorem piece_list {s : ByteArray} {f k : Nat} : (s.extract f k).data.toList = (s.data.toList.drop f).take (k - f) := by
  rw [Lib.extract_data]

set_option maxRecDepth 100000 in
set_option maxHeartbeats 4000000 in
theorem cut_any (s : ByteArray) (hs : s.size ≤ 1048576) (w : World) :
    Calls Tryd.prog 43 #[.string s, .int .u8 47] w fun e w' => ∃ (g cap : Nat) (ps : List ByteArray), e = .returned (.slice (some ⟨g, 0, none⟩) ps.length cap) ∧ Below w.heap.size w w' ∧ Hid (ps.map (·.data.toList) = cutL s.data.toList) ∧ OwnStr w.heap.size w' (.slice (some ⟨g, 0, none⟩) ps.length cap) ps := by
  obtain ⟨i1, hj, hy0, hy1, hy2⟩ := info_parts infoStr
  have hsl : s.data.toList.length = s.size := by simp
  have HSL := Lib.hid hsl
  clear hsl
  go_enter Tryd.func43, Tryd.ntmps43
  go_wp2_with fail
  go_loopw [5, 6, 7] (fun v t i wr => ∃ (k f g cap n : Nat) (ps : List ByteArray), k ≤ s.size ∧ f ≤ k ∧ n ≤ k ∧ i = .int .i64 k ∧ t = .int .i64 f ∧ v = .slice (some ⟨g, 0, none⟩) n cap ∧ Hid (n = ps.length ∧ wr.ownsRow w.heap.size 9 1 (.slice (some ⟨g, 0, none⟩) n cap) n (ps.map Value.string)) ∧ Below w.heap.size w wr ∧
      Hid (cutL s.data.toList = ps.map (·.data.toList) ++ cutL (s.data.toList.drop f) ∧ (47 : UInt8) ∉ (s.data.toList.drop f).take (k - f))) (fun _ _ i _ => s.size - (intOf i).toNat)
  case atStart => exact ⟨0, 0, _, _, 0, [], Nat.zero_le _, Nat.le_refl _, Nat.le_refl _, rfl, rfl, rfl, Lib.hid ⟨rfl, World.ownsRow_lit (size := 1) w #[] 0 (Nat.le_refl _) (Nat.zero_le _) rfl⟩, (Below.refl _ _).alloc (Nat.le_refl _) _, Lib.hid ⟨by simp, by simp⟩⟩
  case round =>
    obtain ⟨k, f, g, cap, n, ps, hk, hf, hn, rfl, rfl, rfl, HO, hB, HC⟩ := hrel
    have hws := hB.size
    have ik0 : (0 : Int) ≤ (k : Int) := Int.natCast_nonneg _
    have if0 : (0 : Int) ≤ (f : Int) := Int.natCast_nonneg _
    have hfk : (f : Int) ≤ (k : Int) := by omega
    have hks : (k : Int) ≤ (s.size : Int) := by omega
    have hfs : (f : Int) ≤ (s.size : Int) := by omega
    obtain ⟨hnl, hown⟩ := HO.out
    have HNL := Lib.hid hnl
    have hlg := hown.lt g (by simp [Value.ownBlock])
    clear hnl
    by_cases hlt : k < s.size
    · have hlti : (k : Int) < (s.size : Int) := by omega
      obtain ⟨b, hb⟩ : ∃ b, s[k] = b := ⟨_, rfl⟩
      have hlb : s.data.toList[k]'(by rw [HSL.out]; exact hlt) = b := by rw [← hb]; rfl
      have HLB := Lib.hid hlb
      clear hlb
      by_cases h47 : b = 47
      · subst h47
        have HC2 : Hid (cutL s.data.toList = (ps ++ [s.extract f k]).map (·.data.toList) ++ cutL (s.data.toList.drop (k + 1)) ∧ (47 : UInt8) ∉ (s.data.toList.drop (k + 1)).take (k + 1 - (k + 1))) := Lib.hid (by
          obtain ⟨h1, h2⟩ := HC.out
          refine ⟨?_, by simp⟩
          rw [h1, cut_at hf (by rw [HSL.out]; exact hlt) HLB.out h2, List.map_append, List.map_singleton, piece_list, List.append_assoc]
          rfl)
        go_wp2_with (at_builtin; go_must (refine wpList_append_own _ rfl _ _ 65 rfl w.heap.size 9 i1 (.string ⟨#[]⟩) 1 16 Tryd.underlying65 hj hy0 hy1 hy2 rfl (by decide) _ _ _ rfl (hown.alloc _) ⟨wr.heap.size, 0, none⟩ 1 1 [.string (s.extract f k)] rfl rfl (cell_one_new _ _ _) (by simp [Value.oneCell']) (by unfold maxLen; omega) (by omega) (by simp; omega) ?_); go_must (intro v' w4 hown4 hgrow _; obtain ⟨g2, cap2, rfl⟩ := ownsRow_succ hown4); go_must (have HO4 := Lib.hid hown4); go_must (have hB4 : Below w.heap.size w w4 := (hB.alloc hws _).grown hgrow (by simp; omega) (fun r e => by have e' : some g = some r := e; cases e'; exact hlg.1)); clear hown4 hgrow)
        go_roundw
        case rel => exact ⟨k + 1, k + 1, g2, cap2, n + 1, ps ++ [s.extract f k], by omega, Nat.le_refl _, by omega, by go_num, by go_num, rfl, Lib.hid ⟨by rw [List.length_append, List.length_singleton, HNL.out], by rw [List.map_append]; exact HO4.out⟩, hB4, HC2⟩
        case measure => simp [intOf]; omega
      · have HC3 : Hid (cutL s.data.toList = ps.map (·.data.toList) ++ cutL (s.data.toList.drop f) ∧ (47 : UInt8) ∉ (s.data.toList.drop f).take (k + 1 - f)) := Lib.hid (by
          obtain ⟨h1, h2⟩ := HC.out
          refine ⟨h1, ?_⟩
          rw [drop_take_snoc hf (by rw [HSL.out]; exact hlt), HLB.out]
          intro h
          rcases List.mem_append.1 h with h | h
          · exact h2 h
          · simp at h; exact h47 h.symm)
        have hbn : b.toNat ≠ 47 := fun e => h47 (UInt8.toNat_inj.1 (by rw [e]; rfl))
        have hbe : (((b.toNat : Nat) : Int) == 47) = false := by simp; omega
        clear hown
        go_wp2_with fail
        go_roundw
        case rel => exact ⟨k + 1, f, g, cap, n, ps, by omega, by omega, by omega, by go_num, rfl, rfl, HO, hB, HC3⟩
        case measure => simp [intOf]; omega
    · obtain rfl : k = s.size := by omega
      have HF : Hid ((ps ++ [s.extract f s.size]).map (·.data.toList) = cutL s.data.toList) := Lib.hid (by
        obtain ⟨h1, h2⟩ := HC.out
        have e : (s.data.toList.drop f).take (s.size - f) = s.data.toList.drop f := List.take_of_length_le (by rw [List.length_drop, HSL.out]; exact Nat.le_refl _)
        rw [e] at h2
        rw [h1, cutL_last h2, List.map_append, List.map_singleton, piece_list, e])
      go_wp2_with (at_builtin; go_must (refine wpList_append_own _ rfl _ _ 65 rfl w.heap.size 9 i1 (.string ⟨#[]⟩) 1 16 Tryd.underlying65 hj hy0 hy1 hy2 rfl (by decide) _ _ _ rfl (hown.alloc _) ⟨wr.heap.size, 0, none⟩ 1 1 [.string (s.extract f s.size)] rfl rfl (cell_one_new _ _ _) (by simp [Value.oneCell']) (by unfold maxLen; omega) (by omega) (by simp; omega) ?_); go_must (intro v' w4 hown4 hgrow _; obtain ⟨g2, cap2, rfl⟩ := ownsRow_succ hown4); go_must (have HO4 := Lib.hid hown4); go_must (have hB4 : Below w.heap.size w w4 := (hB.alloc hws _).grown hgrow (by simp; omega) (fun r e => by have e' : some g = some r := e; cases e'; exact hlg.1)); clear hown4 hgrow)
      go_ret
      have e : n + 1 = (ps ++ [s.extract f s.size]).length := by rw [List.length_append, List.length_singleton, HNL.out]
      refine ⟨g2, cap2, ps ++ [s.extract f s.size], by rw [← e]; rfl, hB4, HF, ?_⟩
      unfold OwnStr
      rw [← e, List.map_append]
      exact HO4.out

end Go.Proofs.YtofpjepndhpciaaDoor
