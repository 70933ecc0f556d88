/-
  The walk of the law of P26 (RigidOk).
-/
import Derived.Test.YtiappomfohnhoaaD14
import Derived.Test.YtiappomfohnhoaaZV
import Derived.Test.YtiappomfohnhoaaZR
import Derived.Test.YtiappomfohnhoaaZF
import Derived.Test.YtiappomfohnhoaaG1
namespace Go.Proofs.Ytiappomfohnhoaa
open Go.RowKit Go.Shelf

set_option maxRecDepth 100000 in
set_option maxHeartbeats 8000000 in
theorem rigidOk_any (a : Option Addr) (n c : Nat) (w : World) (hc : n ≤ c) (hl : n ≤ 9223372036854775807) (hy : Bytes w.heap.size w a n) :
    Calls Try.prog 13 #[.slice a n c] w (Ans (.bool true) w) := by
  by_cases hbign : 1048576 < n
  · go_enter Try.func13, Try.ntmps13
    go_wp2_with fail
    go_ret
    exact ⟨rfl, Below.refl _ _⟩
  go_enter Try.func13, Try.ntmps13
  go_wp2_with fail
  refine (drawRigidOk_any a n c w (by omega) hc hy).mono ?_
  rintro e w1 ⟨aG, cG, G, rfl, ⟨hF, x1, hx4⟩, hB⟩
  have HB1 := Lib.hid hB
  have HF := Lib.hid hF
  obtain ⟨r, HR⟩ : ∃ r, Hid (rigI G = r) := ⟨_, rfl⟩
  have HRT : Hid (rigI (turnedL G) = r) := Lib.hid (by rw [rig_turned, HR.out])
  have HTF := Lib.hid (turned_fit (xss := G))
  have hrr : (r != r) = false := by simp
  have hrs : (r == r) = true := by simp
  clear hB hF hy
  go_wp2_with fail
  refine (implRigid _ _ _ _ x1 HF.out).mono ?_
  rw [HR.out]
  rintro e w2 ⟨rfl, hB2⟩
  have hz2 := hB2.size
  have x2 := (x1.below hB2).more hz2
  have HB2 := Lib.hid (HB1.out.trans (hB2.mono HB1.out.size))
  clear hB2 hz2 x1
  go_wp2_with fail
  refine (specRigid _ _ _ _ _ x2 (Nat.le_refl _) HF.out).mono ?_
  rw [HR.out]
  rintro e w3 ⟨rfl, hB3⟩
  have hz3 := hB3.size
  have x3 := (x2.below hB3).more hz3
  have HB3 := Lib.hid (HB2.out.trans (hB3.mono HB2.out.size))
  clear hB3 hz3 x2
  cases r with
  | false =>
    go_wp2_with fail
    refine (implTurned _ _ _ _ x3 HF.out).mono ?_
    rintro e w4 ⟨b4, c4, ⟨rfl, hB4⟩, hO4⟩
    have t4 := hO4.mat
    clear hO4
    have hz4 := hB4.size
    have x4 := (x3.below hB4).more hz4
    have HB4 := Lib.hid (HB3.out.trans (hB4.mono HB3.out.size))
    clear hB4 hz4 x3
    go_wp2_with fail
    refine (implRigid _ _ _ _ t4 HTF.out).mono ?_
    rw [HRT.out]
    rintro e w5 ⟨rfl, hB5⟩
    have hz5 := hB5.size
    have x5 := (x4.below hB5).more hz5
    have t5 := (t4.below hB5).more hz5
    have HB5 := Lib.hid (HB4.out.trans (hB5.mono HB4.out.size))
    clear hB5 hz5 x4 t4
    clear x5 t5
    go_wp2_with fail
    refine (alive_any _).mono ?_
    rintro e w6 ⟨rfl, hB6⟩
    have hz6 := hB6.size
    have HB6 := Lib.hid (HB5.out.trans (hB6.mono HB5.out.size))
    clear hB6 hz6 
    go_wp2_with fail
    go_ret
    exact ⟨rfl, HB6.out⟩
  | true =>
    obtain ⟨hcc, htt⟩ := rig_core HR.out
    have HCC := Lib.hid hcc
    have HTT := Lib.hid htt
    clear hcc htt
    go_wp2_with fail
    refine (implCoreOk _ _ _ _ x3 HF.out).mono ?_
    rw [HCC.out]
    rintro e w4 ⟨rfl, hB4⟩
    have hz4 := hB4.size
    have x4 := (x3.below hB4).more hz4
    have HB4 := Lib.hid (HB3.out.trans (hB4.mono HB3.out.size))
    clear hB4 hz4 x3
    go_wp2_with fail
    refine (implTurns _ _ _ _ x4 HF.out).mono ?_
    rw [HTT.out]
    rintro e w5 ⟨rfl, hB5⟩
    have hz5 := hB5.size
    have x5 := (x4.below hB5).more hz5
    have HB5 := Lib.hid (HB4.out.trans (hB5.mono HB4.out.size))
    clear hB5 hz5 x4
    go_wp2_with fail
    refine (implTurned _ _ _ _ x5 HF.out).mono ?_
    rintro e w6 ⟨b6, c6, ⟨rfl, hB6⟩, hO6⟩
    have t6 := hO6.mat
    clear hO6
    have hz6 := hB6.size
    have x6 := (x5.below hB6).more hz6
    have HB6 := Lib.hid (HB5.out.trans (hB6.mono HB5.out.size))
    clear hB6 hz6 x5
    go_wp2_with fail
    refine (implRigid _ _ _ _ t6 HTF.out).mono ?_
    rw [HRT.out]
    rintro e w7 ⟨rfl, hB7⟩
    have hz7 := hB7.size
    have x7 := (x6.below hB7).more hz7
    have t7 := (t6.below hB7).more hz7
    have HB7 := Lib.hid (HB6.out.trans (hB7.mono HB6.out.size))
    clear hB7 hz7 x6 t6
    clear x7 t7
    go_wp2_with fail
    refine (alive_any _).mono ?_
    rintro e w8 ⟨rfl, hB8⟩
    have hz8 := hB8.size
    have HB8 := Lib.hid (HB7.out.trans (hB8.mono HB7.out.size))
    clear hB8 hz8 
    go_wp2_with fail
    go_ret
    exact ⟨rfl, HB8.out⟩

end Go.Proofs.Ytiappomfohnhoaa
