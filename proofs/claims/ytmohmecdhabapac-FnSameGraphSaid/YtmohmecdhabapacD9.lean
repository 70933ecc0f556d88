/-
  An order drawn: l20Order (what it holds is never asked: a list of so many numbers).
-/
import Derived.Test.YtmohmecdhabapacD8
namespace Go.Proofs.Ytmohmecdhabapac
open Go.RowKit Go.Shelf

def DrawnO (n₀ B n N : Nat) (w : World) (e : Ending) (w' : World) : Prop :=
  ∃ (g cap : Nat), e = .returned (.slice (some ⟨g, 0, none⟩) n cap) ∧ Hid (IOut n₀ B w w' (.slice (some ⟨g, 0, none⟩) n cap) n N)

set_option maxRecDepth 100000 in
set_option maxHeartbeats 4000000 in
theorem order_any (n₀ B N n : Nat) (w : World) (hR : Rd n₀ B w N) (hN : N ≤ 200000) (hn : n ≤ 9) :
    Calls Try.prog 40 #[.pointer (some ⟨B, 0, none⟩), .int .i64 n] w (DrawnO n₀ B n (N + n) w) := by
  have hBw := hR.lt
  obtain ⟨i1, hj, hy0, hy1, hy2⟩ := info_parts infoInt
  have HI0 := Lib.hid (IOut.start hR hBw)
  clear hR
  go_enter Try.func40, Try.ntmps40
  go_wp2_with fail
  go_loopw [5, 6] (fun v i wr => ∃ (k g cap : Nat), k ≤ n ∧ i = .int .i64 k ∧ v = .slice (some ⟨g, 0, none⟩) k cap ∧ Hid (IOut n₀ B w wr (.slice (some ⟨g, 0, none⟩) k cap) k (N + k)))
    (fun _ i _ => n - (intOf i).toNat)
  case atStart => exact ⟨0, _, _, Nat.zero_le _, rfl, rfl, HI0⟩
  case round =>
    obtain ⟨k, g, cap, hk, rfl, rfl, HO⟩ := hrel
    clear HI0
    by_cases hlt : k < n
    · go_wp2_with fail
      refine (pick_any n₀ B (N + k) _ _ HO.out.1 (by omega)).mono ?_
      rintro e w4 ⟨x4, ⟨rfl, hp0, hp1, _⟩, hR4, hg4, -⟩
      have hp2 := hp1 (by omega)
      obtain ⟨t, rfl⟩ : ∃ t : Nat, x4 = (t : Int) := ⟨x4.toNat, by omega⟩
      have htk : t ≤ k := by omega
      have HO4 := Lib.hid (HO.out.pick hR4 hg4)
      clear hp0 hp1 hp2 hR4 hg4 HO
      obtain ⟨ys, hyl, hown⟩ := HO4.out.2.2.2
      have hsz6 := HO4.out.2.1.size
      go_wp2_with (at_builtin; refine wpList_append_own _ rfl _ _ 24 rfl w.heap.size 3 i1 (.int .i64 0) 1 8 Try.underlying24 hj hy0 hy1 hy2 rfl (by decide) _ _ _ rfl (hown.alloc _) ⟨w4.heap.size, 0, none⟩ 1 1 [.int .i64 k] rfl rfl (cell_one_new _ _ _) (by simp [Value.oneCell']) (by unfold maxLen; omega) (by omega) (by simp; omega) ?_; intro v' w7 hown' hgrow _; obtain ⟨g', cap', rfl⟩ := ownsRow_succ hown'; have HO7 := Lib.hid (HO4.out.appended hyl hown hown' hgrow); clear hown' hgrow hown)
      go_loopw [8] (fun i wr => ∃ (q : Nat), t ≤ q ∧ q ≤ k ∧ i = .int .i64 q ∧ Hid (IOut n₀ B w wr (.slice (some ⟨g', 0, none⟩) (k + 1) cap') (k + 1) (N + k + 1)))
        (fun i _ => (intOf i).toNat)
      case atStart => exact ⟨k, htk, Nat.le_refl _, rfl, HO7⟩
      case round =>
        obtain ⟨q, htq, hqk, rfl, HO⟩ := hrel
        clear HO7 HO4
        by_cases hq1 : t < q
        · obtain ⟨p, rfl⟩ : ∃ p, q = p + 1 := ⟨q - 1, by omega⟩
          obtain ⟨z, hcz⟩ := HO.out.cell (i := p) (by omega)
          obtain ⟨y, hcy⟩ := HO.out.cell (i := p + 1) (by omega)
          have hf1 := HO.out.frozen (p + 1)
          have epp : ((p + 1 : Nat) : Int) - 1 = (p : Int) := by omega
          have HO5 := Lib.hid (HO.out.store (p + 1) z)
          go_wp2_with fail
          go_roundw
          case rel => exact ⟨p, by omega, by omega, by go_num, HO5⟩
          case measure => simp [intOf]
        · obtain rfl : q = t := by omega
          obtain ⟨y, hcy⟩ := HO.out.cell (i := q) (by omega)
          have hf1 := HO.out.frozen q
          have HO5 := Lib.hid (HO.out.store q (k : Int))
          go_wp2_with fail
          go_roundw
          case rel => exact ⟨k + 1, g', cap', by omega, by go_num, rfl, HO5⟩
          case measure => simp [intOf]; omega
    · obtain rfl : k = n := by omega
      go_wp2_with fail
      go_ret
      exact ⟨g, cap, rfl, HO⟩

end Go.Proofs.Ytmohmecdhabapac
