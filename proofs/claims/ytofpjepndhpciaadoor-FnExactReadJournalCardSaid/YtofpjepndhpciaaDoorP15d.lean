/-
  impl.JournalText, impl.ReadJournal.
-/
import Derived.Test.YtofpjepndhpciaaDoorP15c
import Derived.Test.YtofpjepndhpciaaDoorLG
namespace Go.Proofs.YtofpjepndhpciaaDoor
open Go.RowKit Go.Shelf Go.Deep

theorem built_below {B b : Nat} {bs : List Value} {W W' : World} (h : Lib.IsBuilderF 71 5 B b bs W) (hb : Below W.heap.size W W') : Lib.IsBuilderF 71 5 B b bs W' := by
  rcases h with h | h
  · have hlt := h.lt
    obtain ⟨hB, v, hv, hown, hne⟩ := h
    exact .inl ⟨hB, v, (hb.block b hlt).trans hv, hown.kept (grown_of_below hb) (Classical.em _), hne⟩
  · have hlt := h.lt
    obtain ⟨hB, v, hv, hown, hne⟩ := h
    exact .inr ⟨hB, v, (hb.block b hlt).trans hv, hown.kept (grown_of_below hb) (Classical.em _), hne⟩
theorem jrT_size : ∀ l : List Dd, (jrT l).length ≤ 10 * l.length
  | [] => Nat.le_refl _
  | d :: l => by
    have h1 := jrT_size l
    have h2 := ddT_le d
    have e : jrT (d :: l) = (ddT d ++ [10]) ++ jrT l := by simp [jrT]
    rw [e, List.length_append, List.length_append, List.length_cons]
    simp only [List.length_cons, List.length_nil]
    omega
theorem cells_snoc {l : List Dd} {k : Nat} {d : Dd} (h : l[k]? = some d) : Lib.byteCells (jrT (l.take k)) ++ Lib.strCells (tB (ddT d) ++ ⟨#[10]⟩) = Lib.byteCells (jrT (l.take (k + 1))) := by
  rw [jrT_take h, Lib.strCells_eq, ByteArray.data_append, Array.toList_append]
  show List.map _ _ ++ List.map _ _ = List.map _ _
  rw [← List.map_append]

set_option maxRecDepth 100000 in
set_option maxHeartbeats 4000000 in
theorem implJrt (n₀ : Nat) (a : Option Addr) (c : Nat) (l : List Dd) (w : World) (hM : Deeds n₀ w a l) (hn : n₀ ≤ w.heap.size) (hl : l.length ≤ 1048576) (hW : DWs w) :
    Calls Tryd.prog 18 #[.slice a l.length c] w fun e w' => e = .returned (.string (tB (jrI l))) ∧ Below w.heap.size w w' := by
  obtain ⟨R, HR⟩ : ∃ R, Hid (jrI l = R) := ⟨_, rfl⟩
  rw [HR.out]
  have hB0 : Below w.heap.size w (w.alloc (.cells #[.pointer none, .slice none 0 0] 71)) := (Below.refl _ _).alloc (Nat.le_refl _) _
  have HBU0 : Hid (Lib.IsBuilderF 71 5 w.heap.size w.heap.size (Lib.byteCells (jrT (l.take 0))) (w.alloc (.cells #[.pointer none, .slice none 0 0] 71))) := Lib.hid (Lib.IsBuilderF.of (Lib.fresh_isBuilder 71 5 w))
  have HB0 := Lib.hid hB0
  have HW := Lib.hid hW
  clear hB0 hW
  go_enter Tryd.func18, Tryd.ntmps18
  go_wp2_with fail
  go_loopw [9] (fun i wr => ∃ k : Nat, k ≤ l.length ∧ i = .int .i64 k ∧ Below w.heap.size w wr ∧ Hid (Lib.IsBuilderF 71 5 w.heap.size w.heap.size (Lib.byteCells (jrT (l.take k))) wr) ∧ Hid (∀ (j : Nat) (d : Dd), j < k → l[j]? = some d → ddT d ≠ [])) (fun i _ => l.length - (intOf i).toNat)
  case atStart => exact ⟨0, Nat.zero_le _, rfl, HB0.out, HBU0, Lib.hid fun j d h => absurd h (Nat.not_lt_zero _)⟩
  case round =>
    obtain ⟨k, hk, rfl, hB, HBU, HN⟩ := hrel
    have hws := hB.size
    have HWr := Lib.hid (HW.out.kept hB)
    by_cases hlt : k < l.length
    · obtain ⟨b, o, d, rfl, hb, HD, q1, q2, q3⟩ := (hM.below (hB.mono hn)).at_ hlt
      have hkl : (k : Int) < (l.length : Int) := by omega
      have hA1 : Below wr.heap.size wr (wr.alloc (.cells #[.int .i64 d.k, .int .i64 d.a, .int .i64 d.b] 24)) := (Below.refl _ _).alloc (Nat.le_refl _) _
      have HDT := Lib.hid (implDdt d.k d.a d.b _ (HWr.out.kept hA1))
      have HA1 := Lib.hid hA1
      obtain ⟨V, hV⟩ : ∃ V, wr.alloc (.cells #[.int .i64 d.k, .int .i64 d.a, .int .i64 d.b] 24) = V := ⟨_, rfl⟩
      rw [hV] at HDT HA1
      have HV := Lib.hid hV
      clear hA1 hV
      go_wp2_with fail
      rw [HV.out]
      refine HDT.out.mono ?_
      rintro e w2 ⟨rfl, hB2⟩
      have HB2 := Lib.hid (HA1.out.trans (hB2.mono HA1.out.size))
      have HB3 := Lib.hid (hB.trans (HB2.out.mono hws))
      clear hB2 HDT HA1 HV q1 q2 q3
      by_cases he : ddT d = []
      · have hTs : (tB (ddT d)).toList.isEmpty = true := by rw [ByteArray.toList_eq, he]; rfl
        have HR2 : Hid (R = []) := Lib.hid (by rw [← HR.out]; exact jrI_no HD.out he)
        obtain ⟨T, hT⟩ : ∃ T, tB (ddT d) = T := ⟨_, rfl⟩
        have hT' : tB (ddT ⟨d.k, d.a, d.b⟩) = T := hT
        rw [hT'] at *
        rw [hT] at hTs
        clear he hT hT'
        go_wp2_with fail
        go_ret
        exact ⟨by rw [HR2.out]; rfl, HB3.out⟩
      · have hTs : (tB (ddT d)).toList.isEmpty = false := by rw [ByteArray.toList_eq, Bool.eq_false_iff, ne_eq, List.isEmpty_iff]; exact he
        have htz : (tB (ddT d)).size ≤ 9 := by have := ddT_le d; simpa [ByteArray.size] using this
        have HN2 : Hid (∀ (j : Nat) (e : Dd), j < k + 1 → l[j]? = some e → ddT e ≠ []) := Lib.hid fun j e hj hje => by
          by_cases ej : j = k
          · subst ej; rw [HD.out] at hje; cases hje; exact he
          · exact HN.out j e (by omega) hje
        have hsz : (tB (ddT d) ++ (⟨#[10]⟩ : ByteArray)).size ≤ 10 := by
          rw [ByteArray.size_append]
          have : (⟨#[10]⟩ : ByteArray).size = 1 := rfl
          omega
        have hlen : (Lib.byteCells (jrT (l.take k))).length ≤ 10 * k := by
          rw [Lib.byteCells_length]
          refine Nat.le_trans (jrT_size _) ?_
          rw [List.length_take]; omega
        have HWS := Lib.hid (Builder_WriteString_f w.heap.size w.heap.size _ (tB (ddT d) ++ (⟨#[10]⟩ : ByteArray)) w2 (built_below HBU.out HB2.out) (by omega) HB3.out.size)
        rw [cells_snoc HD.out] at HWS
        obtain ⟨T, hT⟩ : ∃ T, tB (ddT d) = T := ⟨_, rfl⟩
        have hT' : tB (ddT ⟨d.k, d.a, d.b⟩) = T := hT
        rw [hT] at HWS hTs hsz htz
        rw [hT']
        clear he hT hT'
        go_wp2_with fail
        refine HWS.out.mono ?_
        rintro e w4 ⟨rfl, hBU4, hB4⟩
        have hB5 := HB3.out.trans hB4
        have HBU4 := Lib.hid hBU4
        clear hBU4 hB4
        go_wp2_with fail
        go_roundw
        case rel => exact ⟨k + 1, by omega, by go_num, hB5, HBU4, HN2⟩
        case measure => simp [intOf]; omega
    · obtain rfl : k = l.length := by omega
      have HR2 : Hid (R = jrT l) := Lib.hid (by rw [← HR.out]; exact jrI_yes HN.out)
      have HBS := HBU.out
      rw [List.take_length] at HBS
      have HST := Lib.hid (Builder_String_any_f w.heap.size w.heap.size (jrT l) wr HBS hws)
      clear HBS
      go_wp2_with fail
      refine HST.out.mono ?_
      rintro e w4 ⟨rfl, _, hB4⟩
      have HB5 := Lib.hid (hB.trans hB4)
      clear hB4
      go_wp2_with fail
      go_ret
      exact ⟨by rw [HR2.out]; rfl, HB5.out⟩

/-- A text cut at its first newline. -/
theorem cut_line (l : List UInt8) : ((10 : UInt8) ∉ l ∧ Lib.cut l [10] = (l, [], false)) ∨ ∃ p r, l = p ++ 10 :: r ∧ (10 : UInt8) ∉ p ∧ Lib.cut l [10] = (p, r, true) := by
  have h1 := Lib.index_one l 10
  have h2 := Lib.indexByte_ge l 10
  by_cases hn : Lib.indexByte l 10 = -1
  · refine .inl ⟨fun hm => ?_, ?_⟩
    · obtain ⟨k, hk⟩ := List.getElem?_of_mem hm
      exact Lib.indexByte_none hn k hk
    · unfold Lib.cut
      rw [h1, hn, if_neg (by decide)]
  · obtain ⟨o, ho⟩ : ∃ o : Nat, Lib.indexByte l 10 = (o : Int) := ⟨(Lib.indexByte l 10).toNat, by omega⟩
    obtain ⟨h3, h4⟩ := Lib.indexByte_some ho
    obtain ⟨hlt, he⟩ := List.getElem?_eq_some_iff.1 h3
    refine .inr ⟨l.take o, l.drop (o + 1), ?_, fun hm => ?_, ?_⟩
    · conv => lhs; rw [← List.take_append_drop o l, List.drop_eq_getElem_cons hlt, he]
    · obtain ⟨k, hk⟩ := List.getElem?_of_mem hm
      have hko : k < o := by have := (List.getElem?_eq_some_iff.1 hk).1; rw [List.length_take] at this; omega
      rw [List.getElem?_take_of_lt hko] at hk
      exact h4 k hko hk
    · unfold Lib.cut
      rw [h1, ho, if_pos (Int.natCast_nonneg _)]
      rfl
theorem rdJ_word : ∀ (p : List UInt8) {cur r : List UInt8}, (10 : UInt8) ∉ p → rdJ cur (p ++ r) = rdJ (cur ++ p) r
  | [], cur, r, _ => by rw [List.append_nil]; rfl
  | b :: p, cur, r, h => by
    have hb : b ≠ 10 := fun e => h (by rw [e]; exact List.mem_cons_self)
    rw [List.cons_append, rdJ_char hb, rdJ_word p (fun e => h (List.mem_cons_of_mem _ e)), List.append_assoc]
    rfl
/-- WHERE ONE STANDS in a text, at the beginning of a line. -/
def RdF (B : List UInt8) (L : List Dd) (f : Nat) : Prop := rdJ [] B = (L ++ (rdJ [] (B.drop f)).1, f + (rdJ [] (B.drop f)).2)
theorem RdF.start (B : List UInt8) : RdF B [] 0 := by unfold RdF; simp
theorem RdF.line {B p r : List UInt8} {L : List Dd} {f : Nat} {d : Dd} (h : RdF B L f) (he : B.drop f = p ++ 10 :: r) (hp : (10 : UInt8) ∉ p) (hd : rdD p = some d) : RdF B (L ++ [d]) (f + (p.length + 1)) := by
  unfold RdF at *
  have hr : B.drop (f + (p.length + 1)) = r := by rw [← List.drop_drop, he, show p ++ 10 :: r = (p ++ [10]) ++ r by simp, List.drop_left' (by simp)]
  rw [he, rdJ_word p hp, List.nil_append, rdJ_yes hd] at h
  rw [h, hr, List.append_assoc]
  simp only [List.cons_append, List.nil_append, Prod.mk.injEq, true_and]
  omega
theorem RdF.stop {B p r : List UInt8} {L : List Dd} {f : Nat} (h : RdF B L f) (he : B.drop f = p ++ 10 :: r) (hp : (10 : UInt8) ∉ p) (hd : rdD p = none) : rdJ [] B = (L, f) := by
  unfold RdF at h
  rw [he, rdJ_word p hp, List.nil_append, rdJ_no hd] at h
  rw [h, List.append_nil]; rfl
theorem RdF.fin {B : List UInt8} {L : List Dd} {f : Nat} (h : RdF B L f) (hp : (10 : UInt8) ∉ B.drop f) : rdJ [] B = (L, f) := by
  unfold RdF at h
  have := rdJ_word (B.drop f) (cur := []) (r := []) hp
  rw [List.append_nil] at this
  rw [this] at h
  rw [h]; simp [rdJ]

/-- DEEDS AND A NUMBER, in memory of one's own; where there is none, any slice. -/
def MadeDN (l : List Dd) (n : Nat) (w : World) (e : Ending) (w' : World) : Prop := ∃ (a : Option Addr) (c : Nat), (e = .returned (.tuple #[.slice a l.length c, .int .i64 (n : Int)]) ∧ Below w.heap.size w w') ∧ OwnD w.heap.size w' (.slice a l.length c) l
theorem extract_rest (s : ByteArray) (f : Nat) : (s.extract f s.size).data.toList = s.data.toList.drop f := by
  rw [piece_list, List.take_of_length_le (by simp)]

set_option maxRecDepth 100000 in
set_option maxHeartbeats 4000000 in
theorem implRdj (s : ByteArray) (hs : s.size ≤ 1048576) (w : World) (hW : DWs w) : Calls Tryd.prog 20 #[.string s] w (MadeDN (rdJ [] s.data.toList).1 (rdJ [] s.data.toList).2 w) := by
  obtain ⟨i1, hj, hy0, hy1, hy2⟩ := info_parts infoDeed
  have es : ∀ (W : World) (o : Obj), (W.alloc o).heap.size = W.heap.size + 1 := fun W o => by simp
  have hsl : s.data.toList.length = s.size := by simp
  obtain ⟨B, HB⟩ : ∃ B, Hid (s.data.toList = B) := ⟨_, rfl⟩
  rw [HB.out] at hsl ⊢
  have HSL := Lib.hid hsl
  obtain ⟨R1, HR1⟩ : ∃ R, Hid ((rdJ [] B).1 = R) := ⟨_, rfl⟩
  obtain ⟨R2, HR2⟩ : ∃ R, Hid ((rdJ [] B).2 = R) := ⟨_, rfl⟩
  rw [HR1.out, HR2.out]
  have HW := Lib.hid hW
  clear hsl hW
  go_enter Tryd.func20, Tryd.ntmps20
  go_wp2_with fail
  go_loopw [4, 5] (fun v t wr => ∃ (f cap n : Nat) (a : Option Addr) (L : List Dd), f ≤ s.size ∧ n ≤ f ∧ t = .int .i64 f ∧ v = .slice a n cap ∧ Hid (n = L.length ∧ wr.ownsRow w.heap.size 24 3 (.slice a n cap) n (ddC L)) ∧ Below w.heap.size w wr ∧ Hid (RdF B L f)) (fun _ t _ => s.size - (intOf t).toNat)
  case atStart => exact ⟨0, 0, 0, none, [], Nat.zero_le _, Nat.le_refl _, rfl, rfl, Lib.hid ⟨rfl, World.ownsRow_nil _ _ _ 3⟩, Below.refl _ _, Lib.hid (RdF.start _)⟩
  case round =>
    obtain ⟨f, cap, n, a, L, hf, hn, rfl, rfl, HO, hB, HC⟩ := hrel
    have hws := hB.size
    have if0 : (0 : Int) ≤ (f : Int) := Int.natCast_nonneg _
    have hfs : (f : Int) ≤ (s.size : Int) := by omega
    have hWr := HW.out.kept hB
    obtain ⟨m, hm⟩ := hWr.mx
    have hez : (s.extract f s.size).size ≤ 1048576 := by rw [ByteArray.size_extract]; omega
    have hCut := strings_Cut (s.extract f s.size) ⟨#[10]⟩ m wr (by omega) hm
    rw [extract_rest, HB.out] at hCut
    have HWr := Lib.hid hWr
    obtain ⟨C, HCC⟩ : ∃ C, Hid (Lib.cut (B.drop f) [10] = C) := ⟨_, rfl⟩
    have hCut2 : Calls Tryd.prog 39 #[.string (s.extract f s.size), .string ⟨#[10]⟩] wr fun e w' => e = .returned (.tuple #[.string (tB C.1), .string (tB C.2.1), .bool C.2.2]) ∧ ∃ n, w' = wr.drewN n := by rw [← HCC.out]; exact hCut
    have HCut := Lib.hid hCut2
    clear hCut hCut2 hWr
    go_wp2_with fail
    refine HCut.out.mono ?_
    rintro e w1 ⟨rfl, q1, rfl⟩
    have hB1 : Below wr.heap.size wr (wr.drewN q1) := below_drewN (Below.refl _ _) q1
    have HW1 := Lib.hid (HWr.out.kept hB1)
    have HB1 := Lib.hid (hB.trans (hB1.mono hws))
    obtain ⟨hnl, hown⟩ := HO.out
    have HO1 : Hid ((wr.drewN q1).ownsRow w.heap.size 24 3 (.slice a n cap) n (ddC L)) := Lib.hid (ownsRow_below hown hB1)
    have HNL := Lib.hid hnl
    have hCl : C.1.length ≤ s.size - f := by
      rw [← HCC.out]
      have h := (cut_line (B.drop f))
      have hd : (B.drop f).length = s.size - f := by rw [List.length_drop, HSL.out]
      rcases h with ⟨_, h⟩ | ⟨p, r, he, _, h⟩
      · rw [h]; exact Nat.le_of_eq hd
      · rw [h]; rw [he, List.length_append] at hd; show p.length ≤ _; omega
    obtain ⟨w1, hw1⟩ : ∃ w1, wr.drewN q1 = w1 := ⟨_, rfl⟩
    rw [hw1] at HW1 HB1 HO1 ⊢
    have hRD := implRdd (tB C.1) (by show C.1.toArray.size ≤ _; simp; omega) w1 HW1.out
    have HRD : Hid (Calls Tryd.prog 14 #[.string (tB C.1)] w1 (ReadDd (rdD C.1) w1)) := Lib.hid hRD
    obtain ⟨c1, c2, c3⟩ := C
    clear hRD hown hnl HO HCut hw1 hB1 hB
    go_wp2_with fail
    refine HRD.out.mono ?_
    rintro e w2 ⟨rfl, hB2⟩
    have HB2 := Lib.hid (HB1.out.trans (hB2.mono HB1.out.size))
    have HO2 : Hid (w2.ownsRow w.heap.size 24 3 (.slice a n cap) n (ddC L)) := Lib.hid (ownsRow_below HO1.out hB2)
    clear hB2 HRD HO1
    rcases cut_line (B.drop f) with ⟨hno, hcut⟩ | ⟨p, r, hpr, hno, hcut⟩
    · rw [HCC.out] at hcut
      cases hcut
      have HE := Lib.hid (HC.out.fin hno)
      clear hno
      cases hd : rdD (B.drop f) with
      | none =>
        have hB3 := HB2.out.alloc HB2.out.size (.cells #[.int .i64 0, .int .i64 0, .int .i64 0] 24)
        have hO3 := HO2.out.alloc (.cells #[.int .i64 0, .int .i64 0, .int .i64 0] 24)
        have HB3 := Lib.hid hB3
        have HO3 := Lib.hid hO3
        clear hB3 hO3 hd
        go_wp2_with fail
        go_ret2
        have e1 : R1 = L := by rw [← HR1.out, HE.out]
        have e2 : R2 = f := by rw [← HR2.out, HE.out]
        subst e1
        subst e2
        exact ⟨a, cap, ⟨by rw [← HNL.out]; rfl, HB3.out⟩, by unfold OwnD; rw [← HNL.out]; exact HO3.out⟩
      | some d =>
        have hB3 := HB2.out.alloc HB2.out.size (.cells #[.int .i64 d.k, .int .i64 d.a, .int .i64 d.b] 24)
        have hO3 := HO2.out.alloc (.cells #[.int .i64 d.k, .int .i64 d.a, .int .i64 d.b] 24)
        have HB3 := Lib.hid hB3
        have HO3 := Lib.hid hO3
        clear hB3 hO3 hd
        go_wp2_with fail
        go_ret2
        have e1 : R1 = L := by rw [← HR1.out, HE.out]
        have e2 : R2 = f := by rw [← HR2.out, HE.out]
        subst e1
        subst e2
        exact ⟨a, cap, ⟨by rw [← HNL.out]; rfl, HB3.out⟩, by unfold OwnD; rw [← HNL.out]; exact HO3.out⟩
    · rw [HCC.out] at hcut
      obtain ⟨h1, h2⟩ := Prod.mk.inj hcut.symm
      obtain ⟨h2, h3⟩ := Prod.mk.inj h2
      subst h1
      subst h2
      subst h3
      clear hcut
      have hpl : f + (p.length + 1) ≤ s.size := by
        have h := congrArg List.length hpr
        rw [List.length_drop, HSL.out, List.length_append, List.length_cons] at h
        omega
      cases hd : rdD p with
      | none =>
        have HE := Lib.hid (HC.out.stop hpr hno hd)
        have hB3 := HB2.out.alloc HB2.out.size (.cells #[.int .i64 0, .int .i64 0, .int .i64 0] 24)
        have hO3 := HO2.out.alloc (.cells #[.int .i64 0, .int .i64 0, .int .i64 0] 24)
        have HB3 := Lib.hid hB3
        have HO3 := Lib.hid hO3
        clear hB3 hO3 hd hpr hno
        go_wp2_with fail
        go_ret2
        have e1 : R1 = L := by rw [← HR1.out, HE.out]
        have e2 : R2 = f := by rw [← HR2.out, HE.out]
        subst e1
        subst e2
        exact ⟨a, cap, ⟨by rw [← HNL.out]; rfl, HB3.out⟩, by unfold OwnD; rw [← HNL.out]; exact HO3.out⟩
      | some d =>
        have HC2 := Lib.hid (HC.out.line hpr hno hd)
        have hO5 := (HO2.out.alloc (.cells #[.int .i64 d.k, .int .i64 d.a, .int .i64 d.b] 24)).alloc (.cells #[.int .i64 d.k, .int .i64 d.a, .int .i64 d.b] 24)
        have hB5 := (HB2.out.alloc HB2.out.size (.cells #[.int .i64 d.k, .int .i64 d.a, .int .i64 d.b] 24)).alloc (by have := HB2.out.size; simp; omega) (.cells #[.int .i64 d.k, .int .i64 d.a, .int .i64 d.b] 24)
        have hDe : Box3 (w2.alloc (.cells #[.int .i64 d.k, .int .i64 d.a, .int .i64 d.b] 24)) w2.heap.size d := Box3.new w2 d
        obtain ⟨⟨t1, t2, t3⟩, _⟩ := box3_cell hDe
        have hnw := World.news_of_block (cs := #[.int .i64 d.k, .int .i64 d.a, .int .i64 d.b]) (t := 24) (fr := (0, 0)) (heap_alloc_new (w2.alloc (.cells #[.int .i64 d.k, .int .i64 d.a, .int .i64 d.b] 24)) (.cells #[.int .i64 d.k, .int .i64 d.a, .int .i64 d.b] 24))
        rw [es] at hnw
        have HNW := Lib.hid hnw
        have HO5 := Lib.hid hO5
        have HB5 := Lib.hid hB5
        have hz5 := hB5.size
        have hpz : (tB p).size = p.length := by simp [ByteArray.size]
        have HAT : Hid (∀ r, (Value.slice a n cap).ownBlock = some r → w.heap.size ≤ r) := Lib.hid fun r e => (HO2.out.lt r e).1
        obtain ⟨S, hS⟩ : ∃ S, tB p = S := ⟨_, rfl⟩
        rw [hS] at hpz ⊢
        clear hO5 hnw hB5 hDe hd hpr hno hS
        go_wp2_with (at_builtin; go_must (refine wpList_append_own _ rfl _ _ 32 rfl w.heap.size 24 i1 (.agg #[.int .i64 0, .int .i64 0, .int .i64 0]) 3 24 Tryd.underlying32 hj hy0 hy1 hy2 rfl (by decide) _ _ _ rfl HO5.out ⟨w2.heap.size + 1, 0, none⟩ 1 1 [.int .i64 d.k, .int .i64 d.a, .int .i64 d.b] rfl rfl HNW.out (by simp [Value.oneCell']) (by unfold maxLen; omega) (by omega) (by simpa using hz5) ?_); go_must (intro v' w4 hown' hgrow _; obtain ⟨g2, cap2, rfl⟩ := ownsRow_succ hown'); go_must (have hB6 : Below w.heap.size w w4 := HB5.out.grown hgrow hz5 HAT.out); go_must (have HO6 := Lib.hid hown'); clear hown' hgrow)
        go_roundw
        case rel => exact ⟨f + (p.length + 1), cap2, n + 1, some ⟨g2, 0, none⟩, L ++ [d], by omega, by omega, by go_num, rfl, Lib.hid ⟨by rw [List.length_append, HNL.out]; rfl, by rw [ddC_app]; exact HO6.out⟩, hB6, HC2⟩
        case measure => simp [intOf]; omega

end Go.Proofs.YtofpjepndhpciaaDoor
