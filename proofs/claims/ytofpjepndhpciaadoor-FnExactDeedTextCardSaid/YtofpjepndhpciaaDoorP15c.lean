/-
  impl.digitIn, impl.ReadDeed.
-/
import Derived.Test.YtofpjepndhpciaaDoorP15b
import Derived.Test.YtofpjepndhpciaaDoorLF
namespace Go.Proofs.YtofpjepndhpciaaDoor
open Go.RowKit Go.Shelf Go.Deep

/-- The digit with which a text begins; 0 for the empty one. -/
def dgF : List UInt8 → Int
  | [] => 0
  | b :: _ => (b.toNat : Int) - 48
def cutA (s : List UInt8) : List UInt8 := (Lib.cut s [32]).1
def cutB (s : List UInt8) : List UInt8 := (Lib.cut s [32]).2.1
/-- THE DEED OF A KIND that a text may be. -/
def cndK (s : List UInt8) (k : Nat) : Dd := ⟨(k : Int), dgF (cutA (cutB s)), dgF (cutB (cutB s))⟩
theorem wrd_own : ∀ d ∈ ddAll, ∃ k, k < 6 ∧ cutA (ddT d) = wrdL k ∧ cndK (ddT d) k = d := by
  have : ∀ d ∈ ddAll, decide (d.k.toNat < 6) && (decide (cutA (ddT d) = wrdL d.k.toNat) && decide (cndK (ddT d) d.k.toNat = d)) = true := by decide +kernel
  intro d hd
  have h := this d hd
  simp only [Bool.and_eq_true, decide_eq_true_eq] at h
  exact ⟨_, h.1, h.2.1, h.2.2⟩
theorem wrd_ne (k : Nat) : wrdL k ≠ [] := by unfold wrdL; split <;> simp
theorem cutA_nil : cutA [] = [] := rfl
theorem rdD_yes {s : List UInt8} {k : Nat} (hw : cutA s = wrdL k) (ht : ddT (cndK s k) = s) : rdD s = some (cndK s k) := by
  have hs : s ≠ [] := fun e => by subst e; exact wrd_ne k hw.symm
  have h := rdD_text (d := cndK s k) (by rw [ht]; exact hs)
  rwa [ht] at h
theorem rdD_no {s : List UInt8} (h : ∀ k, k < 6 → ¬ (cutA s = wrdL k ∧ ddT (cndK s k) = s)) : rdD s = none := by
  cases hr : rdD s with
  | none => rfl
  | some d =>
    obtain ⟨hd, rfl⟩ := rdD_some.1 hr
    obtain ⟨k, hk, h1, h2⟩ := wrd_own d hd
    exact absurd ⟨h1, by rw [h2]⟩ (h k hk)

set_option maxRecDepth 100000 in
set_option maxHeartbeats 1000000 in
theorem digitIn_any (s : ByteArray) (hs : s.size ≤ 1048576) (w : World) : Calls Tryd.prog 40 #[.string s] w fun e w' => e = .returned (.int .i64 (dgF s.data.toList)) ∧ w' = w := by
  obtain ⟨z, HZ⟩ : ∃ z, Hid (dgF s.data.toList = z) := ⟨_, rfl⟩
  rw [HZ.out]
  cases hl : s.data.toList with
  | nil =>
    have he : s.toList.isEmpty = true := by rw [ByteArray.toList_eq, hl]; rfl
    have HZ2 : Hid (z = 0) := Lib.hid (HZ.out.symm.trans (by rw [hl]; rfl))
    clear hl
    go_enter Tryd.func40, Tryd.ntmps40
    go_wp2_with fail
    go_ret
    exact ⟨by rw [HZ2.out]; rfl, rfl⟩
  | cons b r =>
    have he : s.toList.isEmpty = false := by rw [ByteArray.toList_eq, hl]; rfl
    have hsz : 0 < s.size := by
      have h : s.data.toList.length = s.size := by simp
      rw [hl] at h
      simp at h
      omega
    have h0 : s[0] = b := by
      have h : s.data.toList[0]? = some b := by rw [hl]; rfl
      have h2 : s.data.toList[0]? = some s[0] := List.getElem?_eq_getElem (by simpa using hsz)
      rw [h] at h2
      exact (Option.some.inj h2).symm
    have HZ2 : Hid (z = (b.toNat : Int) - 48) := Lib.hid (HZ.out.symm.trans (by rw [hl]; rfl))
    have hb : b.toNat < 256 := b.toNat_lt
    clear hl
    go_enter Tryd.func40, Tryd.ntmps40
    go_wp2_with fail
    go_ret
    exact ⟨by rw [HZ2.out]; rfl, rfl⟩

theorem index_words {j : Nat} (hj : j < 6) (w : World) : (Instr.index 53 (.agg #[.string (tB (wrdL 0)), .string (tB (wrdL 1)), .string (tB (wrdL 2)), .string (tB (wrdL 3)), .string (tB (wrdL 4)), .string (tB (wrdL 5))]) (.int .i64 (j : Int))).run Tryd.prog w = .ok (.string (tB (wrdL j))) w := by
  have h : Tryd.prog.underlying 53 = some (.array 6 9) := by kernel_rfl
  have hz := Tryd.sizeOf9
  have ha := Tryd.isAgg9
  match j, hj with
  | 0, _ => simp [Instr.index, run_underlying h, asIntOf, go_sem, hz, ha]
  | 1, _ => simp [Instr.index, run_underlying h, asIntOf, go_sem, hz, ha]
  | 2, _ => simp [Instr.index, run_underlying h, asIntOf, go_sem, hz, ha]
  | 3, _ => simp [Instr.index, run_underlying h, asIntOf, go_sem, hz, ha]
  | 4, _ => simp [Instr.index, run_underlying h, asIntOf, go_sem, hz, ha]
  | 5, _ => simp [Instr.index, run_underlying h, asIntOf, go_sem, hz, ha]

theorem cut_take (l : List UInt8) : (Lib.cut l [32]).1.length ≤ l.length ∧ (Lib.cut l [32]).2.1.length ≤ l.length := by
  unfold Lib.cut
  split
  · exact ⟨by rw [List.length_take]; omega, by rw [List.length_drop]; omega⟩
  · exact ⟨Nat.le_refl _, Nat.zero_le _⟩

set_option maxRecDepth 100000 in
set_option maxHeartbeats 4000000 in
theorem implRdd (s : ByteArray) (hs : s.size ≤ 1048576) (w : World) (hW : DWs w) : Calls Tryd.prog 14 #[.string s] w (ReadDd (rdD s.data.toList) w) := by
  have hsl : s.data.toList.length = s.size := by simp
  obtain ⟨L, HL⟩ : ∃ L, Hid (s.data.toList = L) := ⟨_, rfl⟩
  have HSB : Hid (s = tB L) := Lib.hid (tB_ext HL.out)
  rw [HL.out] at hsl ⊢
  obtain ⟨R, HR⟩ : ∃ R, Hid (rdD L = R) := ⟨_, rfl⟩
  rw [HR.out]
  have hB0 : Below w.heap.size w (w.alloc (.cells #[.int .i64 0, .int .i64 0, .int .i64 0] 24)) := (Below.refl _ _).alloc (Nat.le_refl _) _
  have hX0 : Box3 (w.alloc (.cells #[.int .i64 0, .int .i64 0, .int .i64 0] 24)) w.heap.size ⟨0, 0, 0⟩ := Box3.new w ⟨0, 0, 0⟩
  have hW1 := hW.kept hB0
  obtain ⟨V, hV⟩ : ∃ V, w.alloc (.cells #[.int .i64 0, .int .i64 0, .int .i64 0] 24) = V := ⟨_, rfl⟩
  rw [hV] at hB0 hX0 hW1
  obtain ⟨m1, hm1⟩ := hW1.mx
  have hC1 := strings_Cut s ⟨#[32]⟩ m1 V (by omega) hm1
  rw [HL.out] at hC1
  obtain ⟨A, HA⟩ : ∃ A, Hid (cutA L = A) := ⟨_, rfl⟩
  obtain ⟨B, HB⟩ : ∃ B, Hid (cutB L = B) := ⟨_, rfl⟩
  have hBl : B.length ≤ 1048576 := by rw [← HB.out]; exact Nat.le_trans (cut_take L).2 (by omega)
  have HC1 : Hid (Calls Tryd.prog 39 #[.string s, .string ⟨#[32]⟩] V fun e w' => e = .returned (.tuple #[.string (tB A), .string (tB B), .bool (Lib.cut L [32]).2.2]) ∧ ∃ n, w' = V.drewN n) := Lib.hid (by rw [← HA.out, ← HB.out]; exact hC1)
  have HV := Lib.hid hV
  have HB0 := Lib.hid hB0
  have HX0 := Lib.hid hX0
  have HW1 := Lib.hid hW1
  clear hC1 hB0 hX0 hW1 hW hV
  go_enter Tryd.func14, Tryd.ntmps14
  go_wp2_with fail
  rw [HV.out]
  refine HC1.out.mono ?_
  rintro e w1 ⟨rfl, n1, hn1⟩
  have hW2 : DWs w1 := by rw [hn1]; exact HW1.out.drewN n1
  have HB2 : Hid (Below w.heap.size w w1) := Lib.hid (by rw [hn1]; exact below_drewN HB0.out n1)
  have HX2 : Hid (Box3 w1 w.heap.size ⟨0, 0, 0⟩) := Lib.hid (by rw [hn1]; exact HX0.out)
  obtain ⟨m2, hm2⟩ := hW2.mx
  have hC2 := strings_Cut (tB B) ⟨#[32]⟩ m2 w1 (by show B.toArray.size < _; simp; omega) hm2
  obtain ⟨C, HC⟩ : ∃ C, Hid (cutA B = C) := ⟨_, rfl⟩
  obtain ⟨D, HD⟩ : ∃ D, Hid (cutB B = D) := ⟨_, rfl⟩
  have hCl : C.length ≤ 1048576 := by rw [← HC.out]; exact Nat.le_trans (cut_take B).1 hBl
  have hDl : D.length ≤ 1048576 := by rw [← HD.out]; exact Nat.le_trans (cut_take B).2 hBl
  have HC2 : Hid (Calls Tryd.prog 39 #[.string (tB B), .string ⟨#[32]⟩] w1 fun e w' => e = .returned (.tuple #[.string (tB C), .string (tB D), .bool (Lib.cut B [32]).2.2]) ∧ ∃ n, w' = w1.drewN n) := Lib.hid (by rw [← HC.out, ← HD.out]; exact hC2)
  have HW2 := Lib.hid hW2
  clear hC2 hW2 hn1 HC1 HV HB0 HX0 HW1
  go_wp2_with fail
  refine HC2.out.mono ?_
  rintro e w2 ⟨rfl, n2, hn2⟩
  have hW3 : DWs w2 := by rw [hn2]; exact HW2.out.drewN n2
  have HB3 : Hid (Below w.heap.size w w2) := Lib.hid (by rw [hn2]; exact below_drewN HB2.out n2)
  have HX3 : Hid (Box3 w2 w.heap.size ⟨0, 0, 0⟩) := Lib.hid (by rw [hn2]; exact HX2.out)
  have c0 := hW3.at_ 0 (by decide)
  have c1 := hW3.at_ 1 (by decide)
  have c2 := hW3.at_ 2 (by decide)
  have c3 := hW3.at_ 3 (by decide)
  have c4 := hW3.at_ 4 (by decide)
  have c5 := hW3.at_ 5 (by decide)
  have HW3 := Lib.hid hW3
  clear hn2 HC2 HB2 HX2 HW2 hW3
  go_wp2_with fail
  clear c0 c1 c2 c3 c4 c5
  obtain ⟨SA, HSA⟩ : ∃ SA, Hid (tB A = SA) := ⟨_, rfl⟩
  rw [HSA.out]
  have hz3 := HB3.out.size
  go_loopw [26] (fun i wr => ∃ j : Nat, j ≤ 6 ∧ i = .int .i64 j ∧ Below w.heap.size w wr ∧ Hid (Below w2.heap.size w2 wr) ∧ Hid (∀ k, k < j → ¬ (cutA L = wrdL k ∧ ddT (cndK L k) = L))) (fun i _ => 6 - (intOf i).toNat)
  case atStart => exact ⟨0, Nat.zero_le _, rfl, HB3.out, Lib.hid (Below.refl _ _), Lib.hid fun k h => absurd h (Nat.not_lt_zero _)⟩
  case round =>
    obtain ⟨j, hj, rfl, hB, HBR, HN⟩ := hrel
    have hWr := HW3.out.kept HBR.out
    have HXr : Hid (Box3 wr w.heap.size ⟨0, 0, 0⟩) := Lib.hid ((HBR.out.block _ HX3.out.lt).trans HX3.out)
    by_cases hlt : j < 6
    · have hji : (j : Int) < 6 := by omega
      have hix := index_words hlt wr
      obtain ⟨WJ, HWJ⟩ : ∃ WJ, Hid ((.string (tB (wrdL j)) : Value) = .string WJ) := ⟨_, rfl⟩
      rw [HWJ.out] at hix
      have HWB : Hid (tB (wrdL j) = WJ) := Lib.hid (Value.string.inj HWJ.out)
      have HDC := digitIn_any (tB C) (by show C.toArray.size ≤ _; simpa using hCl) wr
      have HDD := digitIn_any (tB D) (by show D.toArray.size ≤ _; simpa using hDl) wr
      go_wp2_with fail
      refine HDC.mono ?_
      rintro e w4 ⟨rfl, rfl⟩
      clear HDC
      go_wp2_with fail
      refine HDD.mono ?_
      rintro e w5 ⟨rfl, rfl⟩
      clear HDD
      obtain ⟨x, HX⟩ : ∃ x, Hid (dgF C = x) := ⟨_, rfl⟩
      obtain ⟨y, HY⟩ : ∃ y, Hid (dgF D = y) := ⟨_, rfl⟩
      have e1 : dgF C = x := HX.out
      have e2 : dgF D = y := HY.out
      rw [e1, e2]
      clear e1 e2
      have HK : Hid (cndK L j = ⟨(j : Int), x, y⟩) := Lib.hid (by unfold cndK; rw [HB.out, HC.out, HD.out, HX.out, HY.out])
      have hwz := hB.size
      have hB6 : Below w.heap.size w (w5.alloc (.cells #[.int .i64 (j : Int), .int .i64 x, .int .i64 y] 24)) := hB.alloc hwz _
      have hB6r : Below w5.heap.size w5 (w5.alloc (.cells #[.int .i64 (j : Int), .int .i64 x, .int .i64 y] 24)) := (Below.refl _ _).alloc (Nat.le_refl _) _
      by_cases hAw : A = wrdL j
      · have hwb : (SA.toList == WJ.toList) = true := by rw [← HSA.out, hAw, HWB.out]; exact beq_self_eq_true _
        have HAw := Lib.hid hAw
        clear hAw
        have hX6 : Box3 (w5.alloc (.cells #[.int .i64 (j : Int), .int .i64 x, .int .i64 y] 24)) w5.heap.size ⟨(j : Int), x, y⟩ := Box3.new w5 ⟨(j : Int), x, y⟩
        have hR6 : Box3 (w5.alloc (.cells #[.int .i64 (j : Int), .int .i64 x, .int .i64 y] 24)) w.heap.size ⟨0, 0, 0⟩ := (hB6r.block _ HXr.out.lt).trans HXr.out
        have hW6 := hWr.kept hB6r
        have hT6 := implDdt (j : Int) x y _ hW6
        obtain ⟨V6, hV6⟩ : ∃ V6, w5.alloc (.cells #[.int .i64 (j : Int), .int .i64 x, .int .i64 y] 24) = V6 := ⟨_, rfl⟩
        rw [hV6] at hB6 hB6r hX6 hR6 hW6 hT6
        have HV6 := Lib.hid hV6
        have HT6 := Lib.hid hT6
        have HX6 := Lib.hid hX6
        have HR6 := Lib.hid hR6
        have HB6 := Lib.hid hB6
        have HBr6 := Lib.hid hB6r
        clear hV6 hT6 hX6 hR6 hB6 hB6r hW6 hix hWr
        go_wp2_with fail
        rw [HV6.out]
        refine HT6.out.mono ?_
        rintro e w7 ⟨rfl, hB7⟩
        clear hwb
        have HB7 := Lib.hid (HB6.out.trans (hB7.mono HB6.out.size))
        have HBr7 := Lib.hid (HBr6.out.trans (hB7.mono HBr6.out.size))
        have hX7 : Box3 w7 w5.heap.size ⟨(j : Int), x, y⟩ := (hB7.block _ HX6.out.lt).trans HX6.out
        have hR7 : Box3 w7 w.heap.size ⟨0, 0, 0⟩ := (hB7.block _ HR6.out.lt).trans HR6.out
        by_cases he : ddT ⟨(j : Int), x, y⟩ = L
        · have hTb : ((tB (ddT ⟨(j : Int), x, y⟩)).toList == s.toList) = true := beq_iff_eq.2 (by rw [ByteArray.toList_eq, ByteArray.toList_eq, HL.out, he])
          have HR2 : Hid (R = some ⟨(j : Int), x, y⟩) := Lib.hid (by
            rw [← HR.out, ← HK.out]
            exact rdD_yes (HA.out.trans HAw.out) (by rw [HK.out]; exact he))
          obtain ⟨T, hT⟩ : ∃ T, tB (ddT ⟨(j : Int), x, y⟩) = T := ⟨_, rfl⟩
          rw [hT] at hTb ⊢
          obtain ⟨⟨c1, c2, c3⟩, _⟩ := box3_cell hX7
          obtain ⟨⟨s1, s2⟩, ⟨s3, s4⟩, ⟨s5, s6⟩, hDe⟩ := Box3.puts hR7 ⟨(j : Int), x, y⟩
          obtain ⟨⟨t1, t2, t3⟩, _⟩ := box3_cell hDe
          clear he hT hX7 hR7 hB7 HV6 HT6 HX6 HR6 HBr6
          go_wp2_with fail
          refine bodyPost_ret (v := .tuple #[.agg #[.int .i64 (j : Int), .int .i64 x, .int .i64 y], .bool true]) ?_ rfl ?_
          · simp [results, Tryd.f14, go_sem, t1, t2, t3]
          · rw [HR2.out]
            exact ⟨rfl, below_put3 HB7.out (Nat.le_refl _) ⟨(j : Int), x, y⟩⟩
        · have hTb : ((tB (ddT ⟨(j : Int), x, y⟩)).toList == s.toList) = false := beq_eq_false_iff_ne.2 (by rw [ByteArray.toList_eq, ByteArray.toList_eq, HL.out]; exact he)
          have HN2 : Hid (∀ k, k < j + 1 → ¬ (cutA L = wrdL k ∧ ddT (cndK L k) = L)) := Lib.hid fun k hk hh => by
            by_cases e : k = j
            · subst e; rw [HK.out] at hh; exact he hh.2
            · exact HN.out k (by omega) hh
          have HBR2 := Lib.hid (HBR.out.trans (HBr7.out.mono HBR.out.size))
          have hB9 := HB7.out
          obtain ⟨T, hT⟩ : ∃ T, tB (ddT ⟨(j : Int), x, y⟩) = T := ⟨_, rfl⟩
          rw [hT] at hTb ⊢
          clear he hT hX7 hR7 hB7 HV6 HT6 HX6 HR6 HBr6
          go_wp2_with fail
          go_roundw
          case rel => exact ⟨j + 1, by omega, by go_num, hB9, HBR2, HN2⟩
          case measure => simp [intOf]; omega
      · have hwb : (SA.toList == WJ.toList) = false := beq_eq_false_iff_ne.2 (by rw [← HSA.out, ← HWB.out, ByteArray.toList_eq, ByteArray.toList_eq]; exact hAw)
        have HN2 : Hid (∀ k, k < j + 1 → ¬ (cutA L = wrdL k ∧ ddT (cndK L k) = L)) := Lib.hid fun k hk hh => by
          by_cases e : k = j
          · subst e; exact hAw (HA.out.symm.trans hh.1)
          · exact HN.out k (by omega) hh
        have HBR2 := Lib.hid (HBR.out.trans (hB6r.mono HBR.out.size))
        go_wp2_with fail
        go_roundw
        case rel => exact ⟨j + 1, by omega, by go_num, hB6, HBR2, HN2⟩
        case measure => simp [intOf]; omega
    · obtain rfl : j = 6 := by omega
      have HR2 : Hid (R = none) := Lib.hid (HR.out.symm.trans (rdD_no HN.out))
      obtain ⟨⟨s1, s2⟩, ⟨s3, s4⟩, ⟨s5, s6⟩, hDe⟩ := Box3.puts HXr.out ⟨0, 0, 0⟩
      obtain ⟨⟨t1, t2, t3⟩, _⟩ := box3_cell hDe
      have HBq := Lib.hid hB
      clear hWr hB
      go_wp2_with fail
      refine bodyPost_ret (v := .tuple #[.agg #[.int .i64 0, .int .i64 0, .int .i64 0], .bool false]) ?_ rfl ?_
      · simp [results, Tryd.f14, go_sem, t1, t2, t3]
      · rw [HR2.out]
        exact ⟨rfl, below_put3 HBq.out (Nat.le_refl _) ⟨0, 0, 0⟩⟩

end Go.Proofs.YtofpjepndhpciaaDoor
