/-
  The walk of the exact law of ReadJournal.
-/
import Derived.Test.YtofpjepndhpciaaDoorLG
import Derived.Test.YtofpjepndhpciaaDoorLJ
import Derived.Test.YtofpjepndhpciaaDoorP15
namespace Go.Proofs.YtofpjepndhpciaaDoor
open Go.RowKit Go.Shelf Go.Deep

theorem rdJ_len (s : List UInt8) : (rdJ [] s).1.length ≤ s.length := by
  obtain ⟨h1, h2, h3⟩ := rdJ_take s.length s (Nat.le_refl _)
  have h4 : ∀ l : List Dd, (∀ d ∈ l, ddT d ≠ []) → l.length ≤ (jrT l).length := by
    intro l
    induction l with
    | nil => intro _; exact Nat.le_refl _
    | cons d l ih =>
      intro h
      have := ih fun e he => h e (List.mem_cons_of_mem _ he)
      have e : jrT (d :: l) = ddT d ++ 10 :: jrT l := rfl
      rw [e, List.length_append, List.length_cons, List.length_cons]
      omega
  have h5 := h4 _ h3
  rw [h2, List.length_take] at h5
  omega

set_option maxRecDepth 100000 in
set_option maxHeartbeats 4000000 in
theorem exReadJournal_any (s : ByteArray) (w : World) (hD : DWs w) : Calls Tryd.prog 9 #[.string s] w (Ans (.bool true) w) := by
  by_cases hbig : 1048576 < s.size
  · have hd : decide ((1048576 : Int) < (s.size : Int)) = true := decide_eq_true (by omega)
    go_enter Tryd.func9, Tryd.ntmps9
    go_wp2_with fail
    go_ret
    exact ⟨rfl, Below.refl _ _⟩
  have hs : s.size ≤ 1048576 := by omega
  have hd : decide ((1048576 : Int) < (s.size : Int)) = false := decide_eq_false (by omega)
  have hll : (rdJ [] s.data.toList).1.length ≤ 1048576 := by have := rdJ_len s.data.toList; have e : s.data.toList.length = s.size := by simp
                                                             omega
  have hS := fun W => specRdj s hs W
  have hI := fun W hW => implRdj s (by omega) W hW
  have HDW := Lib.hid hD
  clear hD
  obtain ⟨L, hL⟩ : ∃ L, (rdJ [] s.data.toList).1 = L := ⟨_, rfl⟩
  obtain ⟨f, hf⟩ : ∃ f, (rdJ [] s.data.toList).2 = f := ⟨_, rfl⟩
  rw [hL, hf] at hS hI
  rw [hL] at hll
  have HS := Lib.hid hS
  have HI := Lib.hid hI
  have hff : ((f : Int) != (f : Int)) = false := bne_self_eq_false _
  clear hS hI hL hf hbig
  go_enter Tryd.func9, Tryd.ntmps9
  go_wp2_with fail
  refine (HS.out w).mono ?_
  rintro e w1 ⟨g0, c0, ⟨rfl, hB1⟩, hO1⟩
  have hX1 : Deeds w1.heap.size w1 (some ⟨g0, 0, none⟩) L := by
    obtain ⟨a', c', e', h'⟩ := OwnD.deeds hO1
    cases e'; exact h'
  have HB1 := Lib.hid hB1
  have hz1 := hB1.size
  clear hB1 hO1
  go_wp2_with fail
  refine (HI.out w1 (HDW.out.kept HB1.out)).mono ?_
  rintro e w2 ⟨a1, c1, ⟨rfl, hB2⟩, hO2⟩
  have hY2 : Deeds w2.heap.size w2 a1 L := by
    obtain ⟨a', c', e', h'⟩ := OwnD.deeds hO2
    cases e'; exact h'
  have hX2 := hX1.below hB2
  have HB2 := Lib.hid (HB1.out.trans (hB2.mono hz1))
  have hz2 := hB2.size
  have HO2 := Lib.hid hO2
  clear hX1 hB2 hO2
  go_wp2_with fail
  refine (eqDs_same _ _ _ _ L _ hY2 (hX2.more hz2) hll).mono ?_
  rintro e w3 ⟨rfl, hB3⟩
  have hX3 := hX2.below (hB3.mono hz2)
  have hO3 : OwnD w1.heap.size w3 (.slice a1 L.length c1) L := World.ownsRow.kept HO2.out (grown_of_below hB3) (by cases (Value.slice a1 L.length c1).ownBlock <;> simp)
  have hz3 : w1.heap.size ≤ w3.heap.size := Nat.le_trans hz2 hB3.size
  have HB3 := Lib.hid (HB2.out.trans (hB3.mono HB2.out.size))
  clear hX2 hY2 hB3 HO2
  go_wp2_with fail
  refine (markDs_any w1.heap.size a1 c1 L 1 w3 hO3 (by omega) (by omega) (by omega)).mono ?_
  rintro e w4 ⟨rfl, hH4, hB4, hs4⟩
  have hX4 := hX3.below hB4
  have HB4 := Lib.hid (HB3.out.trans (hB4.mono hz1))
  have hz4 : w1.heap.size ≤ w4.heap.size := by omega
  obtain ⟨q, hq⟩ : ∃ q : Nat, 1 + ((L.length * 3 : Nat) : Int) = (q : Int) := ⟨1 + L.length * 3, by omega⟩
  rw [hq]
  have HQ := Lib.hid hq
  have hqq : ((q : Int) != (q : Int)) = false := bne_self_eq_false _
  clear hX3 hO3 hB4 hs4 hq
  have HH := Lib.hid (heldDs_any a1 c1 L.length 1 w4 hH4 (by omega) (by omega) (by omega))
  rw [HQ.out] at HH
  go_wp2_with fail
  refine HH.out.mono ?_
  rintro e wq ⟨rfl, rfl⟩
  clear HH
  go_wp2_with fail
  refine (HI.out wq (HDW.out.kept HB4.out)).mono ?_
  rintro e w5 ⟨a2, c2, ⟨rfl, hB5⟩, hO5⟩
  have hY5 : Deeds w5.heap.size w5 a2 L := by
    obtain ⟨a', c', e', h'⟩ := OwnD.deeds hO5
    cases e'; exact h'
  have hX5 := hX4.below (hB5.mono hz4)
  have hH5 := hH4.below hB5
  have hz5 := hB5.size
  have HB5 := Lib.hid (HB4.out.trans (hB5.mono HB4.out.size))
  clear hX4 hH4 hB5 hO5
  go_wp2_with fail
  refine (eqDs_same _ _ _ _ L _ hY5 (hX5.more (by omega)) hll).mono ?_
  rintro e w6 ⟨rfl, hB6⟩
  have hH6 := hH5.below hB6
  have HB6 := Lib.hid (HB5.out.trans (hB6.mono HB5.out.size))
  have HH := Lib.hid (heldDs_any a1 c1 L.length 1 w6 hH6 (by omega) (by omega) (by omega))
  rw [HQ.out] at HH
  clear hX5 hY5 hH5 hB6
  go_wp2_with fail
  refine HH.out.mono ?_
  rintro e wq2 ⟨rfl, rfl⟩
  go_wp2_with fail
  go_ret
  exact ⟨rfl, HB6.out⟩

end Go.Proofs.YtofpjepndhpciaaDoor
