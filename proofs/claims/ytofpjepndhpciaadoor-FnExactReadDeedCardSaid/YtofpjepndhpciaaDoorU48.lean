/-
  The walk of the exact law of ReadDeed.
-/
import Derived.Test.YtofpjepndhpciaaDoorLG
import Derived.Test.YtofpjepndhpciaaDoorLH
import Derived.Test.YtofpjepndhpciaaDoorP15
namespace Go.Proofs.YtofpjepndhpciaaDoor
open Go.RowKit Go.Shelf Go.Deep

theorem readDd_is {o : Option Dd} {w w' : World} {e : Ending} (h : ReadDd o w e w') : e = .returned (.tuple #[.agg #[.int .i64 (o.getD ⟨0, 0, 0⟩).k, .int .i64 (o.getD ⟨0, 0, 0⟩).a, .int .i64 (o.getD ⟨0, 0, 0⟩).b], .bool o.isSome]) ∧ Below w.heap.size w w' := by
  obtain ⟨h1, h2⟩ := h
  refine ⟨?_, h2⟩
  cases o with
  | none => exact h1
  | some d => exact h1

set_option maxRecDepth 100000 in
set_option maxHeartbeats 4000000 in
theorem exReadDeed_any (s : ByteArray) (w : World) (hD : DWs w) : Calls Tryd.prog 7 #[.string s] w (Ans (.bool true) w) := by
  by_cases hbig : 1048576 < s.size
  · have hd : decide ((1048576 : Int) < (s.size : Int)) = true := decide_eq_true (by omega)
    go_enter Tryd.func7, Tryd.ntmps7
    go_wp2_with fail
    go_ret
    exact ⟨rfl, Below.refl _ _⟩
  have es : ∀ (W : World) (o : Obj), (W.alloc o).heap.size = W.heap.size + 1 := fun W o => by simp
  have hs : s.size ≤ 1048576 := by omega
  have hd : decide ((1048576 : Int) < (s.size : Int)) = false := decide_eq_false (by omega)
  have hS := fun W => specRdd s hs W
  have hI := fun W hW => implRdd s hs W hW
  have HDW := Lib.hid hD
  obtain ⟨o, ho⟩ : ∃ o, rdD s.data.toList = o := ⟨_, rfl⟩
  rw [ho] at hS hI
  have HS := Lib.hid hS
  have HI := Lib.hid hI
  obtain ⟨d, HD⟩ : ∃ d, Hid (o.getD ⟨0, 0, 0⟩ = d) := ⟨_, rfl⟩
  obtain ⟨y, HY⟩ : ∃ y, Hid (o.isSome = y) := ⟨_, rfl⟩
  clear hS hI ho hbig hD
  go_enter Tryd.func7, Tryd.ntmps7
  go_wp2_with fail
  refine (HS.out w).mono ?_
  rintro e w1 h1
  obtain ⟨rfl, hB1⟩ := readDd_is h1
  rw [HD.out, HY.out]
  clear h1
  have hx : Box3 (w1.alloc (.cells #[.int .i64 d.k, .int .i64 d.a, .int .i64 d.b] 24)) w1.heap.size d := Box3.new w1 d
  have hB2 := hB1.alloc hB1.size (.cells #[.int .i64 d.k, .int .i64 d.a, .int .i64 d.b] 24)
  have hz1 := hB1.size
  go_wp2_with fail
  obtain ⟨V, hV⟩ : ∃ V, w1.alloc (.cells #[.int .i64 d.k, .int .i64 d.a, .int .i64 d.b] 24) = V := ⟨_, rfl⟩
  have hzV : V.heap.size = w1.heap.size + 1 := by rw [← hV, es]
  rw [hV] at hx hB2 ⊢
  refine (HI.out V (HDW.out.kept hB2)).mono ?_
  rintro e w3 h3
  obtain ⟨rfl, hB3⟩ := readDd_is h3
  rw [HD.out, HY.out]
  clear h3 hV
  have hx3 : Box3 w3 w1.heap.size d := (hB3.block _ hx.lt).trans hx
  have hB4 := hB2.trans (hB3.mono hB2.size)
  have hx4 := (Box3.new w3 d)
  have hx5 : Box3 (w3.alloc (.cells #[.int .i64 d.k, .int .i64 d.a, .int .i64 d.b] 24)) w1.heap.size d := (((Below.refl w3.heap.size w3).alloc (Nat.le_refl _) _).block _ hx3.lt).trans hx3
  obtain ⟨⟨a0, a1, a2⟩, _⟩ := box3_cell hx4
  obtain ⟨⟨b0, b1, b2⟩, _⟩ := box3_cell hx5
  have HB5 := Lib.hid (hB4.alloc hB4.size (.cells #[.int .i64 d.k, .int .i64 d.a, .int .i64 d.b] 24))
  have hyy : (y != y) = false := bne_self_eq_false _
  clear hx hx3 hx4 hx5 hB1 hB2 hB3 hB4
  go_wp2_with fail
  refine (eqDeed_any d d _).mono ?_
  rw [eqD_yes]
  rintro e w6 ⟨rfl, hB6⟩
  have HB7 := Lib.hid (HB5.out.trans (hB6.mono HB5.out.size))
  clear hB6 a0 a1 a2 b0 b1 b2
  go_wp2_with fail
  go_ret
  exact ⟨rfl, HB7.out⟩

end Go.Proofs.YtofpjepndhpciaaDoor
