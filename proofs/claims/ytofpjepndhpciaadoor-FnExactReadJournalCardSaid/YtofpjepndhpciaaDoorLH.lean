/-
  The laws' helpers for deeds.
-/
import Derived.Test.YtofpjepndhpciaaDoorLD0
import Derived.Test.YtofpjepndhpciaaDoorZA
namespace Go.Proofs.YtofpjepndhpciaaDoor
open Go.RowKit Go.Shelf Go.Deep

set_option maxHeartbeats 1000000 in
theorem toDeed_any (k a b : Int) (w : World) : Calls Tryd.prog 22 #[.agg #[.int .i64 k, .int .i64 a, .int .i64 b]] w fun e w' => e = .returned (.agg #[.int .i64 k, .int .i64 a, .int .i64 b]) ∧ Below w.heap.size w w' := by
  have HB := Lib.hid ((((Below.refl w.heap.size w).alloc (Nat.le_refl _) (.cells #[.int .i64 k, .int .i64 a, .int .i64 b] 38)).alloc (by simp) (.cells #[.int .i64 k, .int .i64 a, .int .i64 b] 24)).alloc (by simp; omega) (.cells #[.int .i64 k, .int .i64 a, .int .i64 b] 24))
  go_enter Tryd.func22, Tryd.ntmps22
  go_wp2_with fail
  refine bodyPost_ret (v := .agg #[.int .i64 k, .int .i64 a, .int .i64 b]) ?_ rfl ⟨rfl, HB.out⟩
  simp [results, Tryd.f22, go_sem]
set_option maxHeartbeats 1000000 in
theorem eqDeed_any (d e : Dd) (w : World) : Calls Tryd.prog 23 #[.agg #[.int .i64 d.k, .int .i64 d.a, .int .i64 d.b], .agg #[.int .i64 e.k, .int .i64 e.a, .int .i64 e.b]] w (Ans (.bool (eqD d e)) w) := by
  have hB := ((Below.refl w.heap.size w).alloc (Nat.le_refl _) (.cells #[.int .i64 d.k, .int .i64 d.a, .int .i64 d.b] 24)).alloc (by simp) (.cells #[.int .i64 e.k, .int .i64 e.a, .int .i64 e.b] 24)
  have HB := Lib.hid hB
  obtain ⟨z, HZ⟩ : ∃ z, Hid (eqD d e = z) := ⟨_, rfl⟩
  rw [HZ.out]
  clear hB
  have hz : eqD d e = (d.k == e.k && (d.a == e.a && d.b == e.b)) := by
    obtain ⟨dk, da, db⟩ := d
    obtain ⟨ek, ea, eb⟩ := e
    unfold eqD
    rw [Bool.eq_iff_iff]
    simp [Dd.mk.injEq]
  have HZ2 : Hid (z = (d.k == e.k && (d.a == e.a && d.b == e.b))) := Lib.hid (by rw [← HZ.out, hz])
  obtain ⟨dk, da, db⟩ := d
  obtain ⟨ek, ea, eb⟩ := e
  clear hz HZ
  go_enter Tryd.func23, Tryd.ntmps23
  go_wp2_with fail
  all_goals
    go_ret
    refine ⟨ret_bool ?_, HB.out⟩
    rw [HZ2.out]
    simp_all

end Go.Proofs.YtofpjepndhpciaaDoor
