/-
  The iterator over all maps to another graph: impl.graph.mapsTo.
-/
import Derived.Test.YtofpjepndhpciaaM6
namespace Go.Proofs.Ytofpjepndhpciaa
open Go.RowKit Go.Shelf Go.Deep

attribute [local go_sem] Oper.semAt_some

theorem make_cap (N : Nat) (hN : N ≤ 9) (w : World) : (Instr.makeSlice 47 (.int .i64 0) (.int .i64 (N : Int))).run Try.prog w = .ok (.slice (some ⟨w.heap.size, 0, none⟩) 0 N) (w.alloc (.cells (madeCells #[.int .i64 0] N) 3)) := by
  obtain ⟨i, hi, hz0, hz1, hz2⟩ := info_parts infoInt
  have hr := run_make (P := Try.prog) w 47 3 i (.int .i64 0) Try.underlying47 hi hz0 .i64 .i64 0 (N : Int) (Int.le_refl _) (by omega) (by rw [hz2]; omega) (by omega)
  simp only [Int.toNat_zero, Int.toNat_natCast, hz1, Nat.mul_one] at hr
  exact hr

end Go.Proofs.Ytofpjepndhpciaa
