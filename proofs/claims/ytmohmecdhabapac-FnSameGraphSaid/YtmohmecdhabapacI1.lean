/-
  impl.PartOf.
-/
import Derived.Test.YtmohmecdhabapacH1
import Derived.Test.YtmohmecdhabapacF3
import Derived.StillTailTactics
namespace Go.Proofs.Ytmohmecdhabapac
open Go.RowKit Go.Shelf Go.Deep

/-- The node told at place i. -/
def nd (ys : List Int) (i : Nat) : Nat := (ys[i]?.getD 0).toNat
theorem nd_eq {ys : List Int} {i : Nat} {y : Int} (h : ys[i]? = some y) : nd ys i = y.toNat := by simp [nd, h]
open Classical in
/-- THE GRAPH OF SOME NODES; nothing for others. -/
noncomputable def partL (xss : List (List Int)) (ys : List Int) : List (List Int) :=
  if gOk xss = true ∧ 1 ≤ ys.length ∧ Nodes xss.length ys then rowsP ys.length (fun i j => arw xss (nd ys i) (nd ys j)) else []
theorem partL_yes {xss : List (List Int)} {ys : List Int} (h : gOk xss = true) (h1 : 1 ≤ ys.length) (hN : Nodes xss.length ys) : partL xss ys = rowsP ys.length (fun i j => arw xss (nd ys i) (nd ys j)) := if_pos ⟨h, h1, hN⟩
theorem partL_no {xss : List (List Int)} {ys : List Int} (h : ¬ (gOk xss = true ∧ 1 ≤ ys.length ∧ Nodes xss.length ys)) : partL xss ys = [] := if_neg h

theorem arrowC (n₀ : Nat) (a : Option Addr) (c : Nat) (xss : List (List Int)) (w : World) (hM : Mat n₀ w a xss) (hn : n₀ ≤ w.heap.size) (hG : Good xss) (i j : Nat) (hi : i < xss.length) (hj : j < xss.length) :
    Calls Try.prog 35 #[.agg #[.slice a xss.length c], .int .i64 i, .int .i64 j] w fun e w' => e = .returned (.bool (arw xss i j)) ∧ w' = w.alloc (.cells #[.slice a xss.length c] 49) :=
  callsIn_wide.1 (arrow_in Fence.wide 0 (fun _ => trivial) rfl n₀ a c xss w hM hn hG i j hi hj)

set_option maxRecDepth 100000 in
set_option maxHeartbeats 1000000 in
theorem part1 (n₀ B B' : Nat) (a a' : Option Addr) (c c' : Nat) (xss : List (List Int)) (ys : List Int) (w : World) (hM : Mat n₀ w a xss) (hI : Ints n₀ w a' ys) (hn : n₀ ≤ w.heap.size) (hB : Boxed w B 49 (.slice a xss.length c)) (hB' : Boxed w B' 24 (.slice a' ys.length c')) (hG : Good xss) (hN : Nodes xss.length ys) (i j : Nat) (hi : i < ys.length) (hj : j < ys.length) :
    Calls Try.prog 34 #[.int .i64 i, .int .i64 j, .pointer (some ⟨B, 0, none⟩), .pointer (some ⟨B', 0, none⟩)] w (Ans (.bool (arw xss (nd ys i) (nd ys j))) w) := by
  have hle := nodes_le hN
  have hl9 := hG.2.1
  obtain ⟨b, o, y, rfl, hb, hcl, HY⟩ := hI.at_ hi
  obtain ⟨b2, o2, y2, e2, hb2, hcl2, HY2⟩ := hI.at_ hj
  cases e2
  obtain ⟨hy0, hy1⟩ := hN.1 i y HY.out
  obtain ⟨hz0, hz1⟩ := hN.1 j y2 HY2.out
  obtain ⟨p, rfl⟩ := Int.eq_ofNat_of_zero_le hy0
  obtain ⟨q, rfl⟩ := Int.eq_ofNat_of_zero_le hz0
  have ep : nd ys i = p := by rw [nd_eq HY.out]; simp
  have eq : nd ys j = q := by rw [nd_eq HY2.out]; simp
  rw [ep, eq]
  have hp : p < xss.length := by omega
  have hq : q < xss.length := by omega
  have HM := Lib.hid hM
  have HG := Lib.hid hG
  have cB := hB.cell
  have cB' := hB'.cell
  clear hM hG hB hB' hN HY HY2 hI ep eq hy0 hy1 hz0 hz1
  go_enter Try.func34, Try.ntmps34
  go_wp2_with fail
  go_still_tail 9, (by kernel_rfl)
  change wpList _ _ _ _ _ w.drew
  have hM2 : Mat n₀ w.drew a xss := HM.out
  have hn2 : n₀ ≤ w.drew.heap.size := hn
  have hb3 : Below w.heap.size w w.drew := (Below.refl _ _).drew
  have hs : w.drew.heap.size = w.heap.size := rfl
  obtain ⟨V, hV⟩ : ∃ V, w.drew = V := ⟨_, rfl⟩
  rw [hV] at hM2 hn2 hb3 hs ⊢
  clear hV cB cB' hcl hcl2
  go_wp2_with (go_at_call 35; refine (arrowC n₀ _ _ _ _ hM2 hn2 HG.out p q hp hq).mono ?_; rintro e w' ⟨rfl, rfl⟩)
  go_ret
  exact ⟨rfl, hb3.alloc (by omega) _⟩

theorem someNodes_zero (a : Option Addr) (c m : Nat) (ys : List Int) (w : World) (h1 : ys.length < 1) :
    Calls Try.prog 32 #[.slice a ys.length c, .int .i64 m] w fun e w' => e = .returned (.bool false) ∧ w = w' := by
  go_enter Try.func32, Try.ntmps32
  go_wp2_with fail
  go_ret
  exact ⟨rfl, rfl⟩

set_option maxRecDepth 100000 in
set_option maxHeartbeats 2000000 in
theorem implPart (a a' : Option Addr) (c c' : Nat) (xss : List (List Int)) (ys : List Int) (w : World) (hM : Mat w.heap.size w a xss) (hI : Ints w.heap.size w a' ys) (hc : ys.length ≤ c') (hl : ys.length ≤ 1048576) (hf : Fit xss) :
    Calls Try.prog 8 #[.slice a xss.length c, .slice a' ys.length c'] w (MadeR (partL xss ys) w) := by
  have HF := Lib.hid hf
  clear hf
  by_cases hg : gOk xss = true
  · have HG := Lib.hid (good_of hg)
    have hl9 := HG.out.2.1
    by_cases hN : 1 ≤ ys.length ∧ Nodes xss.length ys
    · rw [partL_yes hg hN.1 hN.2]
      obtain ⟨h1, hN⟩ := hN
      have hle := nodes_le hN
      have HN := Lib.hid hN
      clear hN
      go_enter Try.func8, Try.ntmps8
      go_wp2_with fail
      have bL := Boxed.new w 24 (.slice a' ys.length c')
      have hB0 : Below w.heap.size w (w.alloc (.cells #[.slice a' ys.length c'] 24)) := (Below.refl _ _).alloc (Nat.le_refl _) _
      have hs0 := hB0.size
      refine (implOk _ _ _ _ ((hM.below hB0).more hs0) HF.out).mono ?_
      rintro e w1 ⟨rfl, hB1⟩
      have bL1 : Boxed w1 w.heap.size 24 (.slice a' ys.length c') := (hB1.block _ bL.lt).trans bL
      have hB2 := hB0.trans (hB1.mono hs0)
      have hws := hB2.size
      have cL := bL1.cell
      clear hB0 hB1 hs0 bL
      have cL2 : ∀ o, (w1.alloc o).cell? ⟨w.heap.size, 0, none⟩ = some (.slice a' ys.length c') := fun o => (bL1.alloc o).cell
      go_wp2_with fail
      refine (someNodes_yes a' c' w.heap.size xss.length ys w1 (hI.below hB2) hc hl9 h1 HN.out).mono ?_
      rintro e w2 ⟨rfl, rfl⟩
      go_wp2_with fail
      have hB3 := hB2.alloc hws (.cells #[.slice a xss.length c] 49)
      have bG := Boxed.new w1 49 (.slice a xss.length c)
      have bL3 := bL1.alloc (.cells #[.slice a xss.length c] 49)
      have hM2 := hM.below hB3
      have hI2 := hI.below hB3
      have hws3 := hB3.size
      clear cL cL2 bL1 hM hI hB2
      obtain ⟨V, hV⟩ : ∃ V, w1.alloc (.cells #[.slice a xss.length c] 49) = V := ⟨_, rfl⟩
      rw [hV] at hB3 bG bL3 hM2 hI2 hws3 ⊢
      clear hV
      refine (callsIn_wide.1 (rowsBy_in Fence.wide rfl (fun _ => trivial) rfl 34 #[.pointer (some ⟨w1.heap.size, 0, none⟩), .pointer (some ⟨w.heap.size, 0, none⟩)] (fun i j => arw xss (nd ys i) (nd ys j)) ys.length (by omega) V (enters_of Try.func34 (by kernel_rfl) rfl)
        (fun W' i j hb hi hj => callsIn_wide.2 (part1 w.heap.size w1.heap.size w.heap.size a a' c c' xss ys W' (hM2.below (hb.mono hws3)) (hI2.below (hb.mono hws3)) (Nat.le_trans hws3 hb.size) ((hb.block _ bG.lt).trans bG) ((hb.block _ bL3.lt).trans bL3) HG.out HN.out i j hi hj)))).mono ?_
      rintro e w2 ⟨rfl, hB4, hO⟩
      have HB := Lib.hid (hB3.trans (hB4.mono hws3))
      have HO := Lib.hid hO
      clear hB4 hO hB3
      go_wp2
      go_ret
      refine ⟨_, _, ⟨?_, HB.out⟩, .inr ⟨V.heap.size + 1, fun i => V.heap.size + 3 + i, rfl, rfl, HO.out, by omega, fun i _ => by show w.heap.size ≤ V.heap.size + 3 + i; omega, fun i j h => by have h' : V.heap.size + 3 + i = V.heap.size + 3 + j := h; omega⟩⟩
      rw [rowsP_length]
      rfl
    · rw [partL_no (by intro h; exact hN ⟨h.2.1, h.2.2⟩)]
      by_cases h1 : ys.length < 1
      · clear hN
        go_enter Try.func8, Try.ntmps8
        go_wp2_with fail
        have bL := Boxed.new w 24 (.slice a' ys.length c')
        have hB0 : Below w.heap.size w (w.alloc (.cells #[.slice a' ys.length c'] 24)) := (Below.refl _ _).alloc (Nat.le_refl _) _
        have hs0 := hB0.size
        refine (implOk _ _ _ _ ((hM.below hB0).more hs0) HF.out).mono ?_
        rintro e w1 ⟨rfl, hB1⟩
        have bL1 : Boxed w1 w.heap.size 24 (.slice a' ys.length c') := (hB1.block _ bL.lt).trans bL
        have hB2 := hB0.trans (hB1.mono hs0)
        have hws := hB2.size
        have cL := bL1.cell
        clear hB0 hB1 hs0 bL
        go_wp2_with fail
        refine (someNodes_zero a' c' xss.length ys w1 (by omega)).mono ?_
        rintro e w2 ⟨rfl, rfl⟩
        go_wp2_with fail
        go_ret
        exact ⟨none, 0, ⟨rfl, hB2⟩, .inl ⟨rfl, rfl, rfl⟩⟩
      · have HN : Hid (¬ Nodes xss.length ys) := Lib.hid fun h => hN ⟨by omega, h⟩
        clear hN
        go_enter Try.func8, Try.ntmps8
        go_wp2_with fail
        have bL := Boxed.new w 24 (.slice a' ys.length c')
        have hB0 : Below w.heap.size w (w.alloc (.cells #[.slice a' ys.length c'] 24)) := (Below.refl _ _).alloc (Nat.le_refl _) _
        have hs0 := hB0.size
        refine (implOk _ _ _ _ ((hM.below hB0).more hs0) HF.out).mono ?_
        rintro e w1 ⟨rfl, hB1⟩
        have bL1 : Boxed w1 w.heap.size 24 (.slice a' ys.length c') := (hB1.block _ bL.lt).trans bL
        have hB2 := hB0.trans (hB1.mono hs0)
        have hws := hB2.size
        have cL := bL1.cell
        clear hB0 hB1 hs0 bL
        go_wp2_with fail
        refine (someNodes_no a' c' w.heap.size xss.length ys w1 (hI.below hB2) hc hl hl9 HN.out).mono ?_
        rintro e w2 ⟨rfl, rfl⟩
        go_wp2_with fail
        go_ret
        exact ⟨none, 0, ⟨rfl, hB2⟩, .inl ⟨rfl, rfl, rfl⟩⟩
  · have hg' : gOk xss = false := by simpa using hg
    rw [partL_no (by intro h; exact hg h.1)]
    clear hg
    go_enter Try.func8, Try.ntmps8
    go_wp2_with fail
    have bL := Boxed.new w 24 (.slice a' ys.length c')
    have hB0 : Below w.heap.size w (w.alloc (.cells #[.slice a' ys.length c'] 24)) := (Below.refl _ _).alloc (Nat.le_refl _) _
    have hs0 := hB0.size
    refine (implOk _ _ _ _ ((hM.below hB0).more hs0) HF.out).mono ?_
    rintro e w1 ⟨rfl, hB1⟩
    have bL1 : Boxed w1 w.heap.size 24 (.slice a' ys.length c') := (hB1.block _ bL.lt).trans bL
    have hB2 := hB0.trans (hB1.mono hs0)
    have hws := hB2.size
    have cL := bL1.cell
    clear hB0 hB1 hs0 bL
    go_wp2_with fail
    go_ret
    exact ⟨none, 0, ⟨rfl, hB2⟩, .inl ⟨rfl, rfl, rfl⟩⟩

end Go.Proofs.Ytmohmecdhabapac
