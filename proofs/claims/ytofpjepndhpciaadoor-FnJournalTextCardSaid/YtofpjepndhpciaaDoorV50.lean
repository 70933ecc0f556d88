/-
  The walk of the law of P73 (JournalText).
-/
import Derived.Test.YtofpjepndhpciaaDoorD28
import Derived.Test.YtofpjepndhpciaaDoorP15
import Derived.BigQuiet
namespace Go.Proofs.YtofpjepndhpciaaDoor
open Go.RowKit Go.Shelf Go.Deep
attribute [local go_sem] deed_eq deed_ne deed_guard

set_option maxRecDepth 100000 in
set_option maxHeartbeats 4000000 in
theorem sameDeeds_same (a b : Option Addr) (c c' : Nat) (l : List Dd) (w : World) (hA : Deeds w.heap.size w a l) (hB : Deeds w.heap.size w b l) (hl : l.length ≤ 1048576) :
    Calls Tryd.prog 21 #[.slice a l.length c, .slice b l.length c'] w (Ans (.bool true) w) := by
  have hll : ((l.length : Int) != (l.length : Int)) = false := bne_self_eq_false _
  go_enter Tryd.func21, Tryd.ntmps21
  go_wp2_with fail
  go_loopw [5] (fun i wr => ∃ k : Nat, k ≤ l.length ∧ i = .int .i64 k ∧ Below w.heap.size w wr) (fun i _ => l.length - (intOf i).toNat)
  case atStart => exact ⟨0, Nat.zero_le _, rfl, Below.refl _ _⟩
  case round =>
    obtain ⟨k, hk, rfl, hBw⟩ := hrel
    by_cases hlt : k < l.length
    · obtain ⟨b1, o1, d, rfl, hb1, HD1, p1, p2, p3⟩ := (hA.below hBw).at_ hlt
      obtain ⟨b2, o2, d2, rfl, hb2, HD2, q1, q2, q3⟩ := (hB.below hBw).at_ hlt
      obtain rfl : d = d2 := Option.some.inj (HD1.out.symm.trans HD2.out)
      have hkl : (k : Int) < (l.length : Int) := by omega
      have hdd : eqD ⟨d.k, d.a, d.b⟩ ⟨d.k, d.a, d.b⟩ = true := eqD_yes _
      clear HD1 HD2 hll
      go_wp2_with fail
      go_quiet (fail)
      go_wp2_with fail
      go_roundw
      case rel => exact ⟨k + 1, by omega, by go_num, below_drewN hBw _⟩
      case measure => simp [intOf]; omega
    · have hkl : ¬ (k : Int) < (l.length : Int) := by omega
      go_wp2_with fail
      go_ret
      exact ⟨rfl, hBw⟩

theorem jr_all {l : List Dd} (h : jrI l ≠ []) : jrI l = jrT l ∧ ∀ d ∈ l, ddT d ≠ [] := by
  unfold jrI at h ⊢
  split at h
  · rename_i e
    refine ⟨if_pos e, fun d hd => ?_⟩
    have := List.all_eq_true.1 e d hd
    rwa [decide_eq_true_eq] at this
  · exact absurd rfl h
theorem jrT_len : ∀ l : List Dd, (jrT l).length ≤ 10 * l.length
  | [] => Nat.le_refl _
  | d :: l => by
    have h1 := jrT_len l
    have h2 := ddT_le d
    have e : jrT (d :: l) = (ddT d ++ [10]) ++ jrT l := by simp [jrT]
    rw [e, List.length_append, List.length_append, List.length_cons]
    simp only [List.length_cons, List.length_nil]
    omega

set_option maxRecDepth 100000 in
set_option maxHeartbeats 4000000 in
theorem journalText_any (a : Option Addr) (n c : Nat) (w : World) (hc : n ≤ c) (hl : n ≤ 9223372036854775807) (hy : Bytes w.heap.size w a n) (hD : DWs w) :
    Calls Tryd.prog 5 #[.slice a n c] w (Ans (.bool true) w) := by
  have HDW := Lib.hid hD
  clear hD
  by_cases hbig : 1048576 < n
  · go_enter Tryd.func5, Tryd.ntmps5
    go_wp2_with fail
    go_ret
    exact ⟨rfl, Below.refl _ _⟩
  go_enter Tryd.func5, Tryd.ntmps5
  go_wp2_with fail
  refine (drawJrt_any a n c w (by omega) hc hy).mono ?_
  rintro e w1 ⟨g, c1, l, rfl, hl6, hM, hB1⟩
  have HB1 := Lib.hid hB1
  obtain ⟨t, HT⟩ : ∃ t, Hid (tB (jrI l) = t) := ⟨_, rfl⟩
  have hnt : (t != t) = false := bytes_ne_self t
  clear hy hB1
  go_wp2_with fail
  refine (implJrt _ _ _ _ _ hM (Nat.le_refl _) (by omega) (HDW.out.kept HB1.out)).mono ?_
  rw [HT.out]
  rintro e w2 ⟨rfl, hB2⟩
  have hz2 := hB2.size
  have hM2 := (hM.below hB2).more hz2
  have HB2 := Lib.hid (HB1.out.trans (hB2.mono HB1.out.size))
  clear hM hB2
  go_wp2_with fail
  refine (specJrt _ _ _ _ _ hM2 (Nat.le_refl _) (by omega)).mono ?_
  rw [HT.out]
  rintro e w3 ⟨rfl, hB3⟩
  have hz3 := hB3.size
  have hM3 := (hM2.below hB3).more hz3
  have HB3 := Lib.hid (HB2.out.trans (hB3.mono HB2.out.size))
  clear hM2 hB3
  by_cases hd : jrI l = []
  · obtain rfl : t = ⟨#[]⟩ := by rw [← HT.out, hd]
    clear hd hM3
    go_wp2_with fail
    refine (alive_any _).mono ?_
    rintro e w6 ⟨rfl, hB6⟩
    have HB6 := Lib.hid (HB3.out.trans (hB6.mono HB3.out.size))
    clear hB6
    go_wp2_with fail
    go_ret
    exact ⟨rfl, HB6.out⟩
  · obtain ⟨hj1, hj2⟩ := jr_all hd
    have hse : t.toList.isEmpty = false := by rw [ByteArray.toList_eq, Bool.eq_false_iff, ne_eq, List.isEmpty_iff, ← HT.out]; exact hd
    have hts : t.size = (jrT l).length := by rw [← HT.out, tB_len, hj1]
    have htl := jrT_len l
    have HI := implRdj t (by omega) w3 (HDW.out.kept HB3.out)
    have hrd : rdJ [] t.data.toList = (l, (jrT l).length) := by rw [← HT.out]; show rdJ [] (jrI l) = _; rw [hj1]; exact rdJ_text hj2
    rw [hrd, ← hts] at HI
    have HI := Lib.hid HI
    have HL6 := Lib.hid hl6
    have htt : ((t.size : Int) == (t.size : Int)) = true := beq_self_eq_true _
    clear hd hnt hj1 hj2 hrd hts htl
    go_wp2_with fail
    refine HI.out.mono ?_
    rintro e w5 ⟨a5, c5, ⟨rfl, hB5⟩, hO5⟩
    have hz5 := hB5.size
    have hM5 := (hM3.below hB5).more hz5
    have hX5 : Deeds w5.heap.size w5 a5 l := by
      obtain ⟨a', c', e', h'⟩ := OwnD.deeds hO5
      cases e'; exact h'
    have HB5 := Lib.hid (HB3.out.trans (hB5.mono HB3.out.size))
    clear hM3 hB5 hO5 HI
    go_wp2_with fail
    refine (sameDeeds_same _ _ _ _ l _ hX5 hM5 (by have := HL6.out; omega)).mono ?_
    rintro e w6 ⟨rfl, hB6⟩
    have HB6 := Lib.hid (HB5.out.trans (hB6.mono HB5.out.size))
    clear hB6 hX5 hM5
    go_wp2_with fail
    go_ret
    exact ⟨rfl, HB6.out⟩

end Go.Proofs.YtofpjepndhpciaaDoor
