/-
  The walks of the laws of P63 (ArrowsIn) and P1 (TurnedOf).
-/
import Derived.Test.YtdhpkmijbgcdpaaG1
namespace Go.Proofs.Ytdhpkmijbgcdpaa
open Go.RowKit Go.Shelf

set_option maxRecDepth 100000 in
set_option maxHeartbeats 2000000 in
theorem arrowsIn_any (a : Option Addr) (n c : Nat) (w : World) (hc : n ≤ c) (hl : n ≤ 9223372036854775807) (hy : Bytes w.heap.size w a n) :
    Calls Try.prog 4 #[.slice a n c] w (Ans (.bool true) w) := by
  by_cases hbig : 1048576 < n
  · go_enter Try.func4, Try.ntmps4
    go_wp2_with fail
    go_ret
    exact ⟨rfl, Below.refl _ _⟩
  go_enter Try.func4, Try.ntmps4
  go_wp2_with fail
  refine (drawArrowsIn_any a n c w (by omega) hc hy).mono ?_
  rintro e w1 ⟨a1, c1, xss, rfl, hF, hM, hB⟩
  have HB := Lib.hid hB
  have HF := Lib.hid hF
  have h00 : ((arrowsI xss) != (arrowsI xss)) = false := by simp
  have h01 : ((arrowsI xss) == (arrowsI xss)) = true := by simp
  clear hB hF hy
  go_wp2_with fail
  refine (implArrows _ _ _ _ hM HF.out).mono ?_
  rintro e w2 ⟨rfl, hB2⟩
  have hM2 : Mat w1.heap.size w2 a1 xss := hM.below hB2
  have hz2 := hB2.size
  have HB2 := Lib.hid (HB.out.trans (hB2.mono HB.out.size))
  clear hM hB2
  go_wp2_with fail
  refine (specArrows _ _ _ _ _ hM2 HF.out).mono ?_
  rintro e w3 ⟨rfl, rfl⟩
  by_cases hg : gOk xss = true
  · have HG := Lib.hid (good_of hg)
    have h0 : 0 ≤ arrowsI xss := by rw [arrowsI_yes hg]; omega
    have hl9 := HG.out.2.1
    have hmm : IntKind.i64.wrap ((xss.length : Int) * xss.length) = (xss.length : Int) * xss.length := by
      have h1 := sq_le hl9
      have e : ((xss.length : Int) * xss.length) = ((xss.length * xss.length : Nat) : Int) := by rw [Int.natCast_mul]
      rw [e]; exact IntWalk.i64_in _ (by omega)
    have hle : arrowsI xss ≤ (xss.length : Int) * xss.length := by
      rw [arrowsI_yes hg]
      have h1 := AL_le xss
      have e : ((xss.length : Int) * xss.length) = ((xss.length * xss.length : Nat) : Int) := by rw [Int.natCast_mul]
      rw [e]; omega
    have hled : decide (arrowsI xss ≤ (xss.length : Int) * xss.length) = true := decide_eq_true hle
    go_wp2_with fail
    refine (implTurned _ _ _ _ (hM2.more hz2) HF.out).mono ?_
    rintro e w3 ⟨a2, c2, ⟨rfl, hB3⟩, hO⟩
    have hM3 := hO.mat
    have HB3 := Lib.hid (HB2.out.trans (hB3.mono HB2.out.size))
    clear hB3 hO
    go_wp2_with fail
    refine (implArrows _ _ _ _ hM3 turned_fit).mono ?_
    rintro e w4 ⟨rfl, hB4⟩
    have HB4 := Lib.hid (HB3.out.trans (hB4.mono HB3.out.size))
    rw [turned_arrows HG.out]
    clear hB4 hM3
    go_wp2_with fail
    refine (alive_any _).mono ?_
    rintro e w5 ⟨rfl, hB5⟩
    have HB5 := Lib.hid (HB4.out.trans (hB5.mono HB4.out.size))
    clear hB5
    go_wp2_with fail
    go_ret
    exact ⟨rfl, HB5.out⟩
  · have hg' : gOk xss = false := by simpa using hg
    have h0 : arrowsI xss = -1 := arrowsI_no hg'
    go_wp2_with fail
    refine (alive_any _).mono ?_
    rintro e w5 ⟨rfl, hB5⟩
    have HB5 := Lib.hid (HB2.out.trans (hB5.mono HB2.out.size))
    clear hB5
    go_wp2_with fail
    go_ret
    exact ⟨rfl, HB5.out⟩

end Go.Proofs.Ytdhpkmijbgcdpaa
