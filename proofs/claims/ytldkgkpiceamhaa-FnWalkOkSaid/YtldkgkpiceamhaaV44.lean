/-
  The walk of the law of P68 (WalkOk).
-/
import Derived.Test.YtldkgkpiceamhaaXD
import Derived.Test.YtldkgkpiceamhaaXB
import Derived.Test.YtldkgkpiceamhaaZA
import Derived.Test.YtldkgkpiceamhaaZB
import Derived.Test.YtldkgkpiceamhaaXF
namespace Go.Proofs.Ytldkgkpiceamhaa
open Go.RowKit Go.Shelf

theorem Ints.takeK {n : Nat} {W : World} {a : Option Addr} {xs : List Int} (h : Ints n W a xs) (k : Nat) : Ints n W a (xs.take k) := fun hne => by
  have hne' : xs ≠ [] := fun e => by rw [e] at hne; simp at hne
  obtain ⟨b, o, e, hb, hc⟩ := h hne'
  refine ⟨b, o, e, hb, fun j hj => ?_⟩
  have hj' : j < k ∧ j < xs.length := by rw [List.length_take] at hj; omega
  rw [hc j hj'.2, List.getElem?_take_of_lt hj'.1]
theorem ints_one (z : Int) (W : World) : Ints (W.alloc (.cells #[.int .i64 z] 3)).heap.size (W.alloc (.cells #[.int .i64 z] 3)) (some ⟨W.heap.size, 0, none⟩) [z] := by
  have h := World.ownsRow_lit (size := 1) (base := W.heap.size) (e := 3) W #[.int .i64 z] 1 (Nat.le_refl _) (by decide) rfl
  obtain ⟨a, c, e, hI⟩ := own_ints (xs := [z]) h
  cases e
  exact hI

set_option maxRecDepth 100000 in
set_option maxHeartbeats 8000000 in
theorem walkOk_any (a : Option Addr) (n c : Nat) (w : World) (hc : n ≤ c) (hl : n ≤ 9223372036854775807) (hy : Bytes w.heap.size w a n) :
    Calls Try.prog 4 #[.slice a n c] w (Ans (.bool true) w) := by
  by_cases hbign : 1048576 < n
  · go_enter Try.func4, Try.ntmps4
    go_wp2_with fail
    go_ret
    exact ⟨rfl, Below.refl _ _⟩
  go_enter Try.func4, Try.ntmps4
  go_wp2_with fail
  refine (drawWalkOk_any a n c w (by omega) hc hy).mono ?_
  rintro e w1 ⟨aG, cG, G, aF, cF, f, rfl, ⟨hF, x1, hG9⟩, ⟨⟨hf1, hf20, hfc⟩, i1⟩, hB⟩
  have HB1 := Lib.hid hB
  have HF := Lib.hid hF
  obtain ⟨o, HO⟩ : ∃ o, Hid (walkI G f = o) := ⟨_, rfl⟩
  obtain ⟨m, HM⟩ : ∃ m, Hid (gOk G = m) := ⟨_, rfl⟩
  have HW1 : Hid (walkI G [0] = m) := Lib.hid (walk_one.trans HM.out)
  have hoo : (o != o) = false := by simp
  have hmm : (m == m) = true := by simp
  have hff : Fit ([] : List (List Int)) := ⟨by simp, fun xs hx => by cases hx⟩
  clear hB hF hy hff
  go_wp2_with fail
  refine (implWlk _ _ _ _ _ _ _ x1 i1 HF.out (by omega)).mono ?_
  rw [HO.out]
  rintro e w2 ⟨rfl, hB2⟩
  have hz2 := hB2.size
  have x2 := (x1.below hB2).more hz2
  have i2 := (i1.below hB2).more hz2
  have HB2 := Lib.hid (HB1.out.trans (hB2.mono HB1.out.size))
  clear hB2 hz2 x1 i1
  go_wp2_with fail
  refine (specWalk _ _ _ _ _ _ _ _ x2 i2 HF.out (by omega)).mono ?_
  rw [HO.out]
  rintro e w3 h3
  obtain ⟨rfl, hB3⟩ := h3.below
  clear h3
  have hz3 := hB3.size
  have x3 := (x2.below hB3).more hz3
  have i3 := (i2.below hB3).more hz3
  have HB3 := Lib.hid (HB2.out.trans (hB3.mono HB2.out.size))
  clear hB3 hz3 x2 i2
  cases o with
  | false =>
    have l4 := ints_one 0 w3
    have hbl : Below w3.heap.size w3 (w3.alloc (.cells #[.int .i64 0] 3)) := (Below.refl _ _).alloc (Nat.le_refl _) _
    have HB4 := Lib.hid (HB3.out.trans (hbl.mono HB3.out.size))
    have x4 := (x3.below hbl).more hbl.size
    obtain ⟨w4, hw4⟩ : ∃ W, w3.alloc (.cells #[.int .i64 0] 3) = W := ⟨_, rfl⟩
    rw [hw4] at l4 HB4 x4
    have HC := Lib.hid (implWlk _ _ cG 1 G [0] w4 x4 l4 HF.out (by simp))
    rw [HW1.out] at HC
    clear hbl x3 i3 l4
    go_wp2_with fail
    refine (HC.out).mono ?_
    rintro e w5 ⟨rfl, hB5⟩
    have hz5 := hB5.size
    have x5 := (x4.below hB5).more hz5
    have HB5 := Lib.hid (HB4.out.trans (hB5.mono HB4.out.size))
    clear hB5 hz5 x4
    go_wp2_with fail
    refine (implOk _ _ _ _ x5 HF.out).mono ?_
    rw [HM.out]
    rintro e w6 ⟨rfl, hB6⟩
    have hz6 := hB6.size
    have x6 := (x5.below hB6).more hz6
    have HB6 := Lib.hid (HB5.out.trans (hB6.mono HB5.out.size))
    clear hB6 hz6 x5
    clear x6
    go_wp2_with fail
    refine (alive_any _).mono ?_
    rintro e w7 ⟨rfl, hB7⟩
    have hz7 := hB7.size
    have HB7 := Lib.hid (HB6.out.trans (hB7.mono HB6.out.size))
    clear hB7 hz7 
    go_wp2_with fail
    go_ret
    exact ⟨rfl, HB7.out⟩
  | true =>
    by_cases h2 : f.length < 2
    · have h2i : (f.length : Int) < 2 := by omega
      have l4 := ints_one 0 w3
      have hbl : Below w3.heap.size w3 (w3.alloc (.cells #[.int .i64 0] 3)) := (Below.refl _ _).alloc (Nat.le_refl _) _
      have HB4 := Lib.hid (HB3.out.trans (hbl.mono HB3.out.size))
      have x4 := (x3.below hbl).more hbl.size
      obtain ⟨w4, hw4⟩ : ∃ W, w3.alloc (.cells #[.int .i64 0] 3) = W := ⟨_, rfl⟩
      rw [hw4] at l4 HB4 x4
      have HC := Lib.hid (implWlk _ _ cG 1 G [0] w4 x4 l4 HF.out (by simp))
      rw [HW1.out] at HC
      clear hbl x3 i3 l4
      go_wp2_with fail
      refine (HC.out).mono ?_
      rintro e w5 ⟨rfl, hB5⟩
      have hz5 := hB5.size
      have x5 := (x4.below hB5).more hz5
      have HB5 := Lib.hid (HB4.out.trans (hB5.mono HB4.out.size))
      clear hB5 hz5 x4
      go_wp2_with fail
      refine (implOk _ _ _ _ x5 HF.out).mono ?_
      rw [HM.out]
      rintro e w6 ⟨rfl, hB6⟩
      have hz6 := hB6.size
      have x6 := (x5.below hB6).more hz6
      have HB6 := Lib.hid (HB5.out.trans (hB6.mono HB5.out.size))
      clear hB6 hz6 x5
      clear x6
      go_wp2_with fail
      refine (alive_any _).mono ?_
      rintro e w7 ⟨rfl, hB7⟩
      have hz7 := hB7.size
      have HB7 := Lib.hid (HB6.out.trans (hB7.mono HB6.out.size))
      clear hB7 hz7 
      go_wp2_with fail
      go_ret
      exact ⟨rfl, HB7.out⟩
    · have h2i : ¬ (f.length : Int) < 2 := by omega
      obtain ⟨t, ht⟩ : ∃ t, f.length - 1 = t := ⟨_, rfl⟩
      have hti : (f.length : Int) - 1 = (t : Int) := by omega
      have htl : t ≤ f.length := by omega
      have HTL : Hid ((f.take t).length = t) := Lib.hid (by rw [List.length_take]; omega)
      have HP : Hid (walkI G (f.take t) = true) := Lib.hid (by rw [← ht]; exact walk_init HO.out (by omega))
      have HC0 := implWlk _ _ cG cF G (f.take t) w3 x3 (i3.takeK t) HF.out (by rw [HTL.out]; omega)
      rw [HTL.out, HP.out] at HC0
      have HCP := Lib.hid HC0
      clear HC0 ht h2
      have htc : t ≤ cF := by omega
      have htci : (t : Int) ≤ (cF : Int) := by omega
      go_wp2_with fail
      refine (HCP.out).mono ?_
      rintro e w4 ⟨rfl, hB4⟩
      have hz4 := hB4.size
      have x4 := (x3.below hB4).more hz4
      have i4 := (i3.below hB4).more hz4
      have HB4 := Lib.hid (HB3.out.trans (hB4.mono HB3.out.size))
      clear hB4 hz4 x3 i3
      have l5 := ints_one 0 w4
      have hbl : Below w4.heap.size w4 (w4.alloc (.cells #[.int .i64 0] 3)) := (Below.refl _ _).alloc (Nat.le_refl _) _
      have HB5 := Lib.hid (HB4.out.trans (hbl.mono HB4.out.size))
      have x5 := (x4.below hbl).more hbl.size
      obtain ⟨w5, hw5⟩ : ∃ W, w4.alloc (.cells #[.int .i64 0] 3) = W := ⟨_, rfl⟩
      rw [hw5] at l5 HB5 x5
      have HC := Lib.hid (implWlk _ _ cG 1 G [0] w5 x5 l5 HF.out (by simp))
      rw [HW1.out] at HC
      clear hbl x4 i4 l5
      go_wp2_with fail
      refine (HC.out).mono ?_
      rintro e w6 ⟨rfl, hB6⟩
      have hz6 := hB6.size
      have x6 := (x5.below hB6).more hz6
      have HB6 := Lib.hid (HB5.out.trans (hB6.mono HB5.out.size))
      clear hB6 hz6 x5
      go_wp2_with fail
      refine (implOk _ _ _ _ x6 HF.out).mono ?_
      rw [HM.out]
      rintro e w7 ⟨rfl, hB7⟩
      have hz7 := hB7.size
      have x7 := (x6.below hB7).more hz7
      have HB7 := Lib.hid (HB6.out.trans (hB7.mono HB6.out.size))
      clear hB7 hz7 x6
      clear x7
      go_wp2_with fail
      refine (alive_any _).mono ?_
      rintro e w8 ⟨rfl, hB8⟩
      have hz8 := hB8.size
      have HB8 := Lib.hid (HB7.out.trans (hB8.mono HB7.out.size))
      clear hB8 hz8 
      go_wp2_with fail
      go_ret
      exact ⟨rfl, HB8.out⟩

end Go.Proofs.Ytldkgkpiceamhaa
