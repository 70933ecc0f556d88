/-
  The walk of the exact law of DeedText.
-/
import Derived.Test.YtofpjepndhpciaaDoorLG
import Derived.Test.YtofpjepndhpciaaDoorLH
import Derived.Test.YtofpjepndhpciaaDoorP15
namespace Go.Proofs.YtofpjepndhpciaaDoor
open Go.RowKit Go.Shelf Go.Deep

set_option maxRecDepth 100000 in
set_option maxHeartbeats 4000000 in
theorem exDeedText_any (k a b : Int) (w : World) (hD : DWs w) : Calls Tryd.prog 6 #[.agg #[.int .i64 k, .int .i64 a, .int .i64 b]] w (Ans (.bool true) w) := by
  have HDW := Lib.hid hD
  clear hD
  have es : ∀ (W : World) (o : Obj), (W.alloc o).heap.size = W.heap.size + 1 := fun W o => by simp
  have hB0 := (Below.refl w.heap.size w).alloc (Nat.le_refl _) (.cells #[.int .i64 k, .int .i64 a, .int .i64 b] 38)
  have hc : ∀ W : World, Below (w.heap.size + 1) (w.alloc (.cells #[.int .i64 k, .int .i64 a, .int .i64 b] 38)) W → W.cell? ⟨w.heap.size, 0, none⟩ = some (.int .i64 k) ∧ W.cell? ⟨w.heap.size, 1, none⟩ = some (.int .i64 a) ∧ W.cell? ⟨w.heap.size, 2, none⟩ = some (.int .i64 b) := fun W hW =>
    ⟨(hW.cell (p := ⟨w.heap.size, 0, none⟩) (by show w.heap.size < _; omega)).trans (by simp [go_sem]), (hW.cell (p := ⟨w.heap.size, 1, none⟩) (by show w.heap.size < _; omega)).trans (by simp [go_sem]), (hW.cell (p := ⟨w.heap.size, 2, none⟩) (by show w.heap.size < _; omega)).trans (by simp [go_sem])⟩
  have HC := Lib.hid hc
  have hT : ∃ T, tB (ddT ⟨k, a, b⟩) = T := ⟨_, rfl⟩
  have HS : Hid (∀ W, Calls Tryd.prog 12 #[.agg #[.int .i64 k, .int .i64 a, .int .i64 b]] W fun e w' => e = .returned (.string (tB (ddT ⟨k, a, b⟩))) ∧ Below W.heap.size W w') := Lib.hid fun W => specDdt k a b W
  have HI : Hid (∀ W, DWs W → Calls Tryd.prog 11 #[.agg #[.int .i64 k, .int .i64 a, .int .i64 b]] W fun e w' => e = .returned (.string (tB (ddT ⟨k, a, b⟩))) ∧ Below W.heap.size W w') := Lib.hid fun W hW => implDdt k a b W hW
  obtain ⟨T, hT⟩ := hT
  rw [hT] at HS HI
  clear hT hc
  go_enter Tryd.func6, Tryd.ntmps6
  go_wp2_with fail
  have hs0 : (w.alloc (.cells #[.int .i64 k, .int .i64 a, .int .i64 b] 38)).heap.size = w.heap.size + 1 := es _ _
  refine (toDeed_any k a b _).mono ?_
  rintro e w2 ⟨rfl, hB2⟩
  rw [hs0] at hB2
  have hz2 := hB2.size
  rw [hs0] at hz2
  go_wp2_with fail
  refine (HS.out w2).mono ?_
  rintro e w3 ⟨rfl, hB3⟩
  have hB4 := hB2.trans (hB3.mono hz2)
  have hz4 := hB4.size
  rw [hs0] at hz4
  obtain ⟨c0, c1, c2⟩ := HC.out w3 hB4
  clear hB2 hB3
  go_wp2_with fail
  refine (toDeed_any k a b _).mono ?_
  rintro e w5 ⟨rfl, hB5⟩
  have hB6 := hB4.trans (hB5.mono hz4)
  have hz6 := hB6.size
  rw [hs0] at hz6
  clear hB4 hB5 c0 c1 c2
  go_wp2_with fail
  refine (HI.out w5 (HDW.out.kept (hB0.trans (hB6.mono (Nat.le_succ _))))).mono ?_
  rintro e w7 ⟨rfl, hB7⟩
  have HB8 := Lib.hid (hB0.trans ((hB6.trans (hB7.mono hz6)).mono (by omega)))
  have hTT : (T.toList == T.toList) = true := beq_self_eq_true _
  clear hB6 hB7
  go_wp2_with fail
  go_ret
  exact ⟨rfl, HB8.out⟩

end Go.Proofs.YtofpjepndhpciaaDoor
