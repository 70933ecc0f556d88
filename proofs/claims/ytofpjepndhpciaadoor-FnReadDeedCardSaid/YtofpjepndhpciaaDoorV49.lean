/-
  The walk of the law of P72 (ReadDeed).
-/
import Derived.Test.YtofpjepndhpciaaDoorD27
import Derived.Test.YtofpjepndhpciaaDoorLG
import Derived.Test.YtofpjepndhpciaaDoorP15
namespace Go.Proofs.YtofpjepndhpciaaDoor
open Go.RowKit Go.Shelf Go.Deep

attribute [local go_sem] deed_eq deed_ne deed_guard
theorem readDd_as {o : Option Dd} {w w' : World} {e : Ending} (h : ReadDd o w e w') : e = .returned (.tuple #[.agg #[.int .i64 (o.getD ⟨0, 0, 0⟩).k, .int .i64 (o.getD ⟨0, 0, 0⟩).a, .int .i64 (o.getD ⟨0, 0, 0⟩).b], .bool o.isSome]) ∧ Below w.heap.size w w' := by
  obtain ⟨h1, h2⟩ := h
  refine ⟨?_, h2⟩
  cases o with
  | none => exact h1
  | some d => exact h1

set_option maxRecDepth 100000 in
set_option maxHeartbeats 4000000 in
theorem readDeed_any (a : Option Addr) (n c : Nat) (w : World) (hc : n ≤ c) (hl : n ≤ 9223372036854775807) (hy : Bytes w.heap.size w a n) (hD : DWs w) :
    Calls Tryd.prog 4 #[.slice a n c] w (Ans (.bool true) w) := by
  have HDW := Lib.hid hD
  clear hD
  by_cases hbig : 1048576 < n
  · go_enter Tryd.func4, Tryd.ntmps4
    go_wp2_with fail
    go_ret
    exact ⟨rfl, Below.refl _ _⟩
  have es : ∀ (W : World) (o : Obj), (W.alloc o).heap.size = W.heap.size + 1 := fun W o => by simp
  go_enter Tryd.func4, Tryd.ntmps4
  go_wp2_with fail
  refine (drawRdd_any a n c w (by omega) hc hy).mono ?_
  rintro e w1 ⟨s, rfl, hs, hB1⟩
  have HS := Lib.hid (fun W => specRdd s (by omega) W)
  have HI := Lib.hid (fun W hW => implRdd s (by omega) W hW)
  have hzz : (s ++ (⟨#[32]⟩ : ByteArray)).size ≤ 1048576 := by rw [ByteArray.size_append]; show s.size + 1 ≤ _; omega
  have HN : Hid (∀ W, DWs W → Calls Tryd.prog 14 #[.string (s ++ (⟨#[32]⟩ : ByteArray))] W fun e w' => e = .returned (.tuple #[.agg #[.int .i64 0, .int .i64 0, .int .i64 0], .bool false]) ∧ Below W.heap.size W w') := Lib.hid fun W hW => by
    have h := implRdd (s ++ (⟨#[32]⟩ : ByteArray)) hzz W hW
    rw [show (s ++ (⟨#[32]⟩ : ByteArray)).data.toList = s.data.toList ++ [32] by simp, rdD_space] at h
    exact h
  obtain ⟨d, y, HD, HY, h0, h1⟩ : ∃ d y, Hid ((rdD s.data.toList).getD ⟨0, 0, 0⟩ = d) ∧ Hid ((rdD s.data.toList).isSome = y) ∧ (y = false → d = ⟨0, 0, 0⟩) ∧ (y = true → tB (ddT d) = s) := by
    refine ⟨_, _, rfl, rfl, fun h => ?_, fun h => ?_⟩
    · cases hr : rdD s.data.toList with
      | none => rfl
      | some d => rw [hr] at h; cases h
    · cases hr : rdD s.data.toList with
      | none => rw [hr] at h; cases h
      | some d => exact (tB_ext (rdD_some.1 hr).2.symm).symm
  have H0 := Lib.hid h0
  have H1 := Lib.hid h1
  obtain ⟨k, p, q⟩ := d
  have hyy : (y != y) = false := bne_self_eq_false _
  have hdd : eqD ⟨k, p, q⟩ ⟨k, p, q⟩ = true := eqD_yes _
  clear hy h0 h1 hzz
  go_wp2_with fail
  refine (HI.out w1 (HDW.out.kept hB1)).mono ?_
  rintro e w2 h2
  obtain ⟨rfl, hB2⟩ := readDd_as h2
  rw [HD.out, HY.out]
  clear h2
  have hx2 : Box3 (w2.alloc (.cells #[.int .i64 k, .int .i64 p, .int .i64 q] 24)) w2.heap.size ⟨k, p, q⟩ := Box3.new w2 ⟨k, p, q⟩
  have hb2 := hB1.trans (hB2.mono hB1.size)
  have hB3 := hb2.alloc hb2.size (.cells #[.int .i64 k, .int .i64 p, .int .i64 q] 24)
  have hz2 := hb2.size
  go_wp2_with fail
  obtain ⟨V, hV⟩ : ∃ V, w2.alloc (.cells #[.int .i64 k, .int .i64 p, .int .i64 q] 24) = V := ⟨_, rfl⟩
  rw [hV] at hx2 hB3 ⊢
  clear hV hB1 hB2 hb2
  refine (HS.out V).mono ?_
  rintro e w4 h4
  obtain ⟨rfl, hB4⟩ := readDd_as h4
  rw [HD.out, HY.out]
  clear h4
  have hx4 : Box3 w4 w2.heap.size ⟨k, p, q⟩ := (hB4.block _ hx2.lt).trans hx2
  have hb4 := hB3.trans (hB4.mono hB3.size)
  have hx6 := Box3.new w4 ⟨k, p, q⟩
  have hx5 : Box3 (w4.alloc (.cells #[.int .i64 k, .int .i64 p, .int .i64 q] 24)) w2.heap.size ⟨k, p, q⟩ := (((Below.refl w4.heap.size w4).alloc (Nat.le_refl _) _).block _ hx4.lt).trans hx4
  have HB5 := Lib.hid (hb4.alloc hb4.size (.cells #[.int .i64 k, .int .i64 p, .int .i64 q] 24))
  have hz4 : w2.heap.size < w4.heap.size := hx4.lt
  obtain ⟨⟨a0, a1, a2⟩, _⟩ := box3_cell hx6
  obtain ⟨⟨b0, b1, b2⟩, _⟩ := box3_cell hx5
  change Box3 (w4.alloc (.cells #[.int .i64 k, .int .i64 p, .int .i64 q] 24)) w4.heap.size ⟨k, p, q⟩ at hx6
  have HX5 := Lib.hid hx5
  have HZ5 := Lib.hid (es w4 (.cells #[.int .i64 k, .int .i64 p, .int .i64 q] 24))
  clear hx2 hx4 hx5 hx6 hb4 hB3 hB4
  cases y with
  | false =>
    obtain ⟨rfl, rfl, rfl⟩ := Dd.mk.inj (H0.out rfl)
    go_wp2_with fail
    refine (alive_any _).mono ?_
    rintro e w6 ⟨rfl, hB6⟩
    have HB6 := Lib.hid (HB5.out.trans (hB6.mono HB5.out.size))
    clear hB6 a0 a1 a2 b0 b1 b2
    go_wp2_with fail
    go_ret
    exact ⟨rfl, HB6.out⟩
  | true =>
    have hT := H1.out rfl
    have HT := Lib.hid hT
    have hTT : (s.toList == s.toList) = true := beq_self_eq_true _
    have hnb : ¬ 9223372036854775807 < s.size + 1 := by omega
    clear hT
    go_wp2_with fail
    clear a0 a1 a2 b0 b1 b2
    have hx5 := HX5.out
    have hB5 := HB5.out
    have hz5 := HZ5.out
    obtain ⟨U, hU⟩ : ∃ U, w4.alloc (.cells #[.int .i64 k, .int .i64 p, .int .i64 q] 24) = U := ⟨_, rfl⟩
    rw [hU] at hx5 hB5 hz5 ⊢
    clear hU HX5 HB5 HZ5
    refine (HN.out U (HDW.out.kept hB5)).mono ?_
    rintro e w6 ⟨rfl, hB6⟩
    have hx6 : Box3 w6 w2.heap.size ⟨k, p, q⟩ := (hB6.block _ hx5.lt).trans hx5
    have hx7 : Box3 (w6.alloc (.cells #[.int .i64 0, .int .i64 0, .int .i64 0] 24)) w2.heap.size ⟨k, p, q⟩ := (((Below.refl w6.heap.size w6).alloc (Nat.le_refl _) _).block _ hx6.lt).trans hx6
    have hb6 := hB5.trans (hB6.mono hB5.size)
    have HB7 := Lib.hid (hb6.alloc hb6.size (.cells #[.int .i64 0, .int .i64 0, .int .i64 0] 24))
    have hz6 : w2.heap.size < w6.heap.size := hx6.lt
    obtain ⟨⟨b0, b1, b2⟩, _⟩ := box3_cell hx7
    clear hx5 hx6 hx7 hb6 hB5 hB6 hz5
    go_wp2_with fail
    refine (implDdt k p q _ (HDW.out.kept HB7.out)).mono ?_
    rintro e w8 ⟨rfl, hB8⟩
    rw [HT.out]
    have HB8 := Lib.hid (HB7.out.trans (hB8.mono HB7.out.size))
    clear b0 b1 b2 hB8
    go_wp2_with fail
    go_ret
    exact ⟨rfl, HB8.out⟩

end Go.Proofs.YtofpjepndhpciaaDoor
