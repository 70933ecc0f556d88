/-
  The walk of the law of P71 (DeedText).
-/
import Derived.Test.YtofpjepndhpciaaDoorD27
import Derived.Test.YtofpjepndhpciaaDoorLG
import Derived.Test.YtofpjepndhpciaaDoorP15
namespace Go.Proofs.YtofpjepndhpciaaDoor
open Go.RowKit Go.Shelf Go.Deep
attribute [local go_sem] deed_eq deed_guard

set_option maxRecDepth 100000 in
set_option maxHeartbeats 4000000 in
theorem deedText_any (a : Option Addr) (n c : Nat) (w : World) (hc : n ≤ c) (hl : n ≤ 9223372036854775807) (hy : Bytes w.heap.size w a n) (hD : DWs w) :
    Calls Tryd.prog 3 #[.slice a n c] w (Ans (.bool true) w) := by
  have HDW := Lib.hid hD
  clear hD
  by_cases hbig : 1048576 < n
  · go_enter Tryd.func3, Tryd.ntmps3
    go_wp2_with fail
    go_ret
    exact ⟨rfl, Below.refl _ _⟩
  have es : ∀ (W : World) (o : Obj), (W.alloc o).heap.size = W.heap.size + 1 := fun W o => by simp
  go_enter Tryd.func3, Tryd.ntmps3
  go_wp2_with fail
  refine (drawDdt_any a n c w (by omega) hc hy).mono ?_
  rintro e w1 ⟨d, rfl, -, hB1⟩
  obtain ⟨k, x, y⟩ := d
  have hx1 := Box3.new w1 ⟨k, x, y⟩
  have hB2 := hB1.alloc hB1.size (.cells #[.int .i64 k, .int .i64 x, .int .i64 y] 24)
  have hz2 := hB2.size
  have hzV := es w1 (.cells #[.int .i64 k, .int .i64 x, .int .i64 y] 24)
  obtain ⟨t, HT⟩ : ∃ t, Hid (tB (ddT ⟨k, x, y⟩) = t) := ⟨_, rfl⟩
  have HTS : Hid (t.size ≤ 10) := Lib.hid (by rw [← HT.out, tB_len]; exact ddT_len _)
  have hnt : (t != t) = false := bytes_ne_self t
  obtain ⟨⟨a0, a1, a2⟩, _⟩ := box3_cell hx1
  clear hB1 hy
  go_wp2_with fail
  change Box3 (w1.alloc (.cells #[.int .i64 k, .int .i64 x, .int .i64 y] 24)) w1.heap.size ⟨k, x, y⟩ at hx1
  clear a0 a1 a2
  obtain ⟨V, hV⟩ : ∃ V, w1.alloc (.cells #[.int .i64 k, .int .i64 x, .int .i64 y] 24) = V := ⟨_, rfl⟩
  rw [hV] at hx1 hB2 hz2 hzV ⊢
  clear hV
  refine (implDdt k x y V (HDW.out.kept hB2)).mono ?_
  rintro e w3 ⟨rfl, hB3⟩
  rw [HT.out]
  have hx3 : Box3 w3 w1.heap.size ⟨k, x, y⟩ := (hB3.block _ hx1.lt).trans hx1
  have hb3 := hB2.trans (hB3.mono hz2)
  have hz3 : w1.heap.size + 1 ≤ w3.heap.size := by have := hB3.size; omega
  obtain ⟨⟨a0, a1, a2⟩, _⟩ := box3_cell hx3
  clear hB2 hB3 hx1
  go_wp2_with fail
  clear a0 a1 a2
  refine (specDdt k x y w3).mono ?_
  rintro e w4 ⟨rfl, hB4⟩
  rw [HT.out]
  have hx4 : Box3 w4 w1.heap.size ⟨k, x, y⟩ := (hB4.block _ hx3.lt).trans hx3
  have HB4 := Lib.hid (hb3.trans (hB4.mono hb3.size))
  have hz4 : w1.heap.size + 1 ≤ w4.heap.size := by have := hB4.size; omega
  clear hx3 hb3 hB4
  by_cases hd : ddT ⟨k, x, y⟩ = []
  · obtain rfl : t = ⟨#[]⟩ := by rw [← HT.out, hd]
    clear hd
    go_wp2_with fail
    refine (alive_any _).mono ?_
    rintro e w6 ⟨rfl, hB6⟩
    have HB6 := Lib.hid (HB4.out.trans (hB6.mono HB4.out.size))
    clear hB6
    go_wp2_with fail
    go_ret
    exact ⟨rfl, HB6.out⟩
  · have HI := Lib.hid (implRdd t (Nat.le_trans HTS.out (by omega)) w4 (HDW.out.kept HB4.out))
    have HR : Hid (rdD t.data.toList = some ⟨k, x, y⟩) := Lib.hid (by rw [← HT.out]; exact rdD_text hd)
    rw [HR.out] at HI
    have hse : t.toList.isEmpty = false := by rw [ByteArray.toList_eq, Bool.eq_false_iff, ne_eq, List.isEmpty_iff, ← HT.out]; exact hd
    clear hd hnt
    go_wp2_with fail
    refine HI.out.mono ?_
    rintro e w5 ⟨rfl, hB5⟩
    have hx5 : Box3 w5 w1.heap.size ⟨k, x, y⟩ := (hB5.block _ hx4.lt).trans hx4
    have hb5 := HB4.out.trans (hB5.mono HB4.out.size)
    have hx6 := Box3.new w5 ⟨k, x, y⟩
    have hx7 : Box3 (w5.alloc (.cells #[.int .i64 k, .int .i64 x, .int .i64 y] 24)) w1.heap.size ⟨k, x, y⟩ := (((Below.refl w5.heap.size w5).alloc (Nat.le_refl _) _).block _ hx5.lt).trans hx5
    have HB6 := Lib.hid (hb5.alloc hb5.size (.cells #[.int .i64 k, .int .i64 x, .int .i64 y] 24))
    obtain ⟨⟨a0, a1, a2⟩, _⟩ := box3_cell hx6
    obtain ⟨⟨b0, b1, b2⟩, _⟩ := box3_cell hx7
    have hyy : eqD ⟨k, x, y⟩ ⟨k, x, y⟩ = true := eqD_yes _
    clear hx4 hB5 hx5 hb5 hx6 hx7 HI
    go_wp2_with fail
    go_ret
    exact ⟨rfl, HB6.out⟩

end Go.Proofs.YtofpjepndhpciaaDoor
