/-
  The walk of the exact law of JournalText.
-/
import Derived.Test.YtofpjepndhpciaaDoorLG
import Derived.Test.YtofpjepndhpciaaDoorLI
import Derived.Test.YtofpjepndhpciaaDoorP15
namespace Go.Proofs.YtofpjepndhpciaaDoor
open Go.RowKit Go.Shelf Go.Deep

set_option maxRecDepth 100000 in
set_option maxHeartbeats 4000000 in
theorem exJournalText_any (a : Option Addr) (c : Nat) (l : List Dd) (w : World) (hM : Deeds w.heap.size w a l) (hl : l.length ≤ 9223372036854775807) (hD : DWs w) :
    Calls Tryd.prog 8 #[.slice a l.length c] w (Ans (.bool true) w) := by
  have HDW := Lib.hid hD
  clear hD
  obtain ⟨t, HT⟩ : ∃ t, Hid (tB (jrI l) = t) := ⟨_, rfl⟩
  have hnt : (t != t) = false := bytes_ne_self t
  go_enter Tryd.func8, Tryd.ntmps8
  go_wp2_with fail
  refine (szDs_any a l.length c 1048576 w hl (by omega) (by omega)).mono ?_
  rintro e wq ⟨r, ⟨rfl, rfl⟩, hr⟩
  by_cases hr0 : r < 0
  · go_wp2_with fail
    go_ret
    exact ⟨rfl, Below.refl _ _⟩
  have hl1 : l.length ≤ 1048576 := by have := hr (by omega); omega
  clear hr
  go_wp2_with fail
  refine (toDs_any a c l _ wq hM hl1 (Nat.le_refl _)).mono ?_
  rintro e w1 ⟨rfl, hB1, hX1⟩
  have hz1 := hB1.size
  have hM1 := hM.below hB1
  have HB1 := Lib.hid hB1
  clear hM hB1
  go_wp2_with fail
  refine (specJrt _ _ _ _ _ hX1 (Nat.le_refl _) hl1).mono ?_
  rw [HT.out]
  rintro e w2 ⟨rfl, hB2⟩
  have hM2 := hM1.below (hB2.mono hz1)
  have HB2 := Lib.hid (HB1.out.trans (hB2.mono hz1))
  have hz2 := HB2.out.size
  clear hM1 hB2 hX1
  go_wp2_with fail
  refine (toDs_any a c l _ w2 hM2 hl1 hz2).mono ?_
  rintro e w3 ⟨rfl, hB3, hX3⟩
  have hM3 := hM2.below (hB3.mono hz2)
  have HB3 := Lib.hid (HB2.out.trans (hB3.mono hz2))
  have hz3 := HB3.out.size
  clear hM2 hB3
  go_wp2_with fail
  refine (implJrt _ _ _ _ _ hX3 (Nat.le_refl _) hl1 (HDW.out.kept HB3.out)).mono ?_
  rw [HT.out]
  rintro e w4 ⟨rfl, hB4⟩
  have hM4 := hM3.below (hB4.mono hz3)
  have hX4 := (hX3.below hB4).more hB4.size
  have HB4 := Lib.hid (HB3.out.trans (hB4.mono hz3))
  have hz4 := HB4.out.size
  clear hM3 hB4 hX3
  go_wp2_with fail
  refine (toDs_any a c l _ w4 hM4 hl1 hz4).mono ?_
  rintro e w5 ⟨rfl, hB5, hY5⟩
  have hX5 := (hX4.below hB5).more hB5.size
  have HB5 := Lib.hid (HB4.out.trans (hB5.mono hz4))
  have hz5 := HB5.out.size
  clear hM4 hB5 hX4
  go_wp2_with fail
  refine (eqDs_same _ _ _ _ l _ hX5 hY5 hl1).mono ?_
  rintro e w6 ⟨rfl, hB6⟩
  have HB6 := Lib.hid (HB5.out.trans (hB6.mono hz5))
  clear hB6 hX5 hY5
  go_wp2_with fail
  go_ret
  exact ⟨rfl, HB6.out⟩

end Go.Proofs.YtofpjepndhpciaaDoor
