/-
  The model's JournalText, ReadJournal.
-/
import Derived.Test.YtofpjepndhpciaaDoorLF
namespace Go.Proofs.YtofpjepndhpciaaDoor
open Go.RowKit Go.Shelf Go.Deep

theorem jrT_take {l : List Dd} {k : Nat} {d : Dd} (h : l[k]? = some d) : jrT (l.take (k + 1)) = jrT (l.take k) ++ (ddT d ++ [10]) := by
  rw [List.take_add_one, h, jrT_app]; rfl
theorem jrI_no {l : List Dd} {k : Nat} {d : Dd} (h : l[k]? = some d) (hd : ddT d = []) : jrI l = [] := by
  unfold jrI
  rw [if_neg]
  intro e
  have := List.all_eq_true.1 e d (List.mem_of_getElem? h)
  rw [decide_eq_true_eq] at this
  exact this hd
theorem jrI_yes {l : List Dd} (h : ∀ (j : Nat) (d : Dd), j < l.length → l[j]? = some d → ddT d ≠ []) : jrI l = jrT l := by
  unfold jrI
  rw [if_pos]
  refine List.all_eq_true.2 fun d hd => ?_
  obtain ⟨j, hj⟩ := List.getElem?_of_mem hd
  rw [decide_eq_true_eq]
  exact h j d (List.getElem?_eq_some_iff.1 hj).1 hj
theorem ddT_le (d : Dd) : (ddT d).length ≤ 9 := by
  by_cases h : ddT d = []
  · rw [h]; simp
  · exact (ddT_some d (ddT_all h)).2.1

set_option maxRecDepth 100000 in
set_option maxHeartbeats 4000000 in
theorem specJrt (n₀ : Nat) (a : Option Addr) (c : Nat) (l : List Dd) (w : World) (hM : Deeds n₀ w a l) (hn : n₀ ≤ w.heap.size) (hl : l.length ≤ 1048576) :
    Calls Tryd.prog 19 #[.slice a l.length c] w fun e w' => e = .returned (.string (tB (jrI l))) ∧ Below w.heap.size w w' := by
  obtain ⟨R, HR⟩ : ∃ R, Hid (jrI l = R) := ⟨_, rfl⟩
  rw [HR.out]
  go_enter Tryd.func19, Tryd.ntmps19
  go_wp2_with fail
  go_loopw [3, 4] (fun v i wr => ∃ (k : Nat) (O : ByteArray), k ≤ l.length ∧ i = .int .i64 k ∧ v = .string O ∧ O.size ≤ 10 * k ∧ Below w.heap.size w wr ∧ Hid (O = tB (jrT (l.take k))) ∧ Hid (∀ (j : Nat) (d : Dd), j < k → l[j]? = some d → ddT d ≠ [])) (fun _ i _ => l.length - (intOf i).toNat)
  case atStart => exact ⟨0, ⟨#[]⟩, Nat.zero_le _, rfl, rfl, Nat.zero_le _, Below.refl _ _, Lib.hid rfl, Lib.hid fun j d h => absurd h (Nat.not_lt_zero _)⟩
  case round =>
    obtain ⟨k, O, hk, rfl, rfl, hO, hB, HO, HN⟩ := hrel
    have hws := hB.size
    by_cases hlt : k < l.length
    · obtain ⟨b, o, d, rfl, hb, HD, q1, q2, q3⟩ := hM.at_ hlt
      have hcc : ∀ W : World, Below w.heap.size w W → W.cell? ⟨b, o + k * 3, none⟩ = some (.int .i64 d.k) ∧ W.cell? ⟨b, o + k * 3 + 1, none⟩ = some (.int .i64 d.a) ∧ W.cell? ⟨b, o + k * 3 + 2, none⟩ = some (.int .i64 d.b) := fun W hW =>
        ⟨(hW.cell (p := ⟨b, o + k * 3, none⟩) (by show b < _; omega)).trans q1, (hW.cell (p := ⟨b, o + k * 3 + 1, none⟩) (by show b < _; omega)).trans q2, (hW.cell (p := ⟨b, o + k * 3 + 2, none⟩) (by show b < _; omega)).trans q3⟩
      obtain ⟨c1, c2, c3⟩ := hcc wr hB
      have HCC := Lib.hid hcc
      have HDT : Hid (∀ W : World, Calls Tryd.prog 12 #[.agg #[.int .i64 d.k, .int .i64 d.a, .int .i64 d.b]] W (TextOf d W)) := Lib.hid fun W => specDdt d.k d.a d.b W
      have hkl : (k : Int) < (l.length : Int) := by omega
      clear q1 q2 q3 hcc
      go_wp2_with fail
      refine (HDT.out wr).mono ?_
      rintro e w2 ⟨rfl, hB2⟩
      have hB3 := hB.trans (hB2.mono hws)
      have hz3 := hB3.size
      clear c1 c2 c3 hB2
      obtain ⟨c1, c2, c3⟩ := HCC.out w2 hB3
      by_cases he : ddT d = []
      · have hTs : (tB (ddT d)).toList.isEmpty = true := by rw [ByteArray.toList_eq, he]; rfl
        have HR2 : Hid (R = []) := Lib.hid (by rw [← HR.out]; exact jrI_no HD.out he)
        obtain ⟨T, hT⟩ : ∃ T, tB (ddT d) = T := ⟨_, rfl⟩
        rw [hT] at hTs ⊢
        clear he hT
        go_wp2_with fail
        go_ret
        exact ⟨by rw [HR2.out]; rfl, hB3⟩
      · have hTs : (tB (ddT d)).toList.isEmpty = false := by rw [ByteArray.toList_eq, Bool.eq_false_iff, ne_eq, List.isEmpty_iff]; exact he
        have HT : Hid (tB (ddT d) ++ ⟨#[10]⟩ = tB (ddT d ++ [10])) := Lib.hid (tB_ext (by rw [ByteArray.data_append, Array.toList_append]))
        have htz : (tB (ddT d)).size ≤ 9 := by have := ddT_le d; simpa [ByteArray.size] using this
        have HN2 : Hid (∀ (j : Nat) (e : Dd), j < k + 1 → l[j]? = some e → ddT e ≠ []) := Lib.hid fun j e hj hje => by
          by_cases ej : j = k
          · subst ej; rw [HD.out] at hje; cases hje; exact he
          · exact HN.out j e (by omega) hje
        have HO2 : Hid (O ++ tB (ddT d) ++ ⟨#[10]⟩ = tB (jrT (l.take (k + 1)))) := Lib.hid (by
          rw [jrT_take HD.out, HO.out]
          refine tB_ext ?_
          rw [ByteArray.data_append, ByteArray.data_append, Array.toList_append, Array.toList_append, List.append_assoc])
        have hsz : (O ++ tB (ddT d) ++ (⟨#[10]⟩ : ByteArray)).size ≤ 10 * (k + 1) := by
          rw [ByteArray.size_append, ByteArray.size_append]
          have : (⟨#[10]⟩ : ByteArray).size = 1 := rfl
          omega
        have HDT2 := Lib.hid (HDT.out w2)
        have hd2 : ∀ W : World, TextOf d W = fun e w' => e = .returned (.string (tB (ddT d))) ∧ Below W.heap.size W w' := fun W => rfl
        rw [hd2] at HDT2
        obtain ⟨T, hT⟩ : ∃ T, tB (ddT d) = T := ⟨_, rfl⟩
        rw [hT] at hTs HO2 hsz htz HDT2 ⊢
        clear he hT hd2 HT HDT
        go_wp2_with fail
        refine HDT2.out.mono ?_
        rintro e w4 ⟨rfl, hB4⟩
        have hB5 := hB3.trans (hB4.mono hz3)
        clear hB4 c1 c2 c3
        go_wp2_with fail
        go_roundw
        case rel => exact ⟨k + 1, _, by omega, by go_num, rfl, hsz, hB5, HO2, HN2⟩
        case measure => simp [intOf]; omega
    · obtain rfl : k = l.length := by omega
      have HR2 : Hid (R = jrT l) := Lib.hid (by rw [← HR.out]; exact jrI_yes HN.out)
      go_wp2_with fail
      go_ret
      exact ⟨by rw [HR2.out, HO.out, List.take_length]; rfl, hB⟩

theorem rdJ_char {cur r : List UInt8} {b : UInt8} (h : b ≠ 10) : rdJ cur (b :: r) = rdJ (cur ++ [b]) r := by
  conv => lhs; unfold rdJ
  rw [if_neg h]
theorem rdJ_yes {cur r : List UInt8} {d : Dd} (h : rdD cur = some d) : rdJ cur (10 :: r) = (d :: (rdJ [] r).1, cur.length + 1 + (rdJ [] r).2) := by
  conv => lhs; unfold rdJ
  rw [if_pos rfl, h]
theorem rdJ_no {cur r : List UInt8} (h : rdD cur = none) : rdJ cur (10 :: r) = ([], 0) := by
  conv => lhs; unfold rdJ
  rw [if_pos rfl, h]
/-- WHERE ONE STANDS in a text. -/
def RdAt (B : List UInt8) (L : List Dd) (f k : Nat) : Prop := rdJ [] B = (L ++ (rdJ ((B.drop f).take (k - f)) (B.drop k)).1, f + (rdJ ((B.drop f).take (k - f)) (B.drop k)).2)
theorem RdAt.start (B : List UInt8) : RdAt B [] 0 0 := by unfold RdAt; simp
theorem RdAt.char {B : List UInt8} {L : List Dd} {f k : Nat} (h : RdAt B L f k) (hf : f ≤ k) (hk : k < B.length) (hb : B[k] ≠ 10) : RdAt B L f (k + 1) := by
  unfold RdAt at *
  rw [List.drop_eq_getElem_cons hk, rdJ_char hb, ← drop_take_snoc hf hk] at h
  exact h
theorem RdAt.line {B : List UInt8} {L : List Dd} {f k : Nat} {d : Dd} (h : RdAt B L f k) (hf : f ≤ k) (hk : k < B.length) (hb : B[k] = 10) (hd : rdD ((B.drop f).take (k - f)) = some d) : RdAt B (L ++ [d]) (k + 1) (k + 1) := by
  unfold RdAt at *
  have hl : ((B.drop f).take (k - f)).length = k - f := by rw [List.length_take, List.length_drop]; omega
  rw [List.drop_eq_getElem_cons hk, hb, rdJ_yes hd, hl] at h
  rw [h, Nat.sub_self, List.take_zero, List.append_assoc]
  simp only [List.cons_append, List.nil_append, Prod.mk.injEq, true_and]
  omega
theorem RdAt.stop {B : List UInt8} {L : List Dd} {f k : Nat} (h : RdAt B L f k) (hk : k < B.length) (hb : B[k] = 10) (hd : rdD ((B.drop f).take (k - f)) = none) : rdJ [] B = (L, f) := by
  unfold RdAt at h
  rw [List.drop_eq_getElem_cons hk, hb, rdJ_no hd] at h
  rw [h, List.append_nil]; rfl
theorem RdAt.fin {B : List UInt8} {L : List Dd} {f : Nat} (h : RdAt B L f B.length) : rdJ [] B = (L, f) := by
  unfold RdAt at h
  rw [List.drop_eq_nil_of_le (Nat.le_refl B.length)] at h
  rw [h]; simp [rdJ]
/-- DEEDS AND A NUMBER. -/
def OwnDN (l : List Dd) (n : Nat) (w : World) (e : Ending) (w' : World) : Prop := ∃ (g c : Nat), (e = .returned (.tuple #[.slice (some ⟨g, 0, none⟩) l.length c, .int .i64 (n : Int)]) ∧ Below w.heap.size w w') ∧ OwnD w.heap.size w' (.slice (some ⟨g, 0, none⟩) l.length c) l

set_option maxRecDepth 100000 in
set_option maxHeartbeats 4000000 in
theorem specRdj (s : ByteArray) (hs : s.size ≤ 1048576) (w : World) : Calls Tryd.prog 27 #[.string s] w (OwnDN (rdJ [] s.data.toList).1 (rdJ [] s.data.toList).2 w) := by
  obtain ⟨i1, hj, hy0, hy1, hy2⟩ := info_parts infoDeed
  have es : ∀ (W : World) (o : Obj), (W.alloc o).heap.size = W.heap.size + 1 := fun W o => by simp
  have hsl : s.data.toList.length = s.size := by simp
  have HSL := Lib.hid hsl
  obtain ⟨R1, HR1⟩ : ∃ R, Hid ((rdJ [] s.data.toList).1 = R) := ⟨_, rfl⟩
  obtain ⟨R2, HR2⟩ : ∃ R, Hid ((rdJ [] s.data.toList).2 = R) := ⟨_, rfl⟩
  rw [HR1.out, HR2.out]
  clear hsl
  go_enter Tryd.func27, Tryd.ntmps27
  go_wp2_with fail
  go_loopw [4, 5, 6] (fun v t i wr => ∃ (k f g cap n : Nat) (L : List Dd), k ≤ s.size ∧ f ≤ k ∧ n ≤ k ∧ i = .int .i64 k ∧ t = .int .i64 f ∧ v = .slice (some ⟨g, 0, none⟩) n cap ∧ Hid (n = L.length ∧ wr.ownsRow w.heap.size 24 3 (.slice (some ⟨g, 0, none⟩) n cap) n (ddC L)) ∧ Below w.heap.size w wr ∧ Hid (RdAt s.data.toList L f k)) (fun _ _ i _ => s.size - (intOf i).toNat)
  case atStart => exact ⟨0, 0, _, _, 0, [], Nat.zero_le _, Nat.le_refl _, Nat.le_refl _, rfl, rfl, rfl, Lib.hid ⟨rfl, World.ownsRow_lit (size := 3) w #[] 0 (Nat.le_refl _) (Nat.zero_le _) rfl⟩, (Below.refl _ _).alloc (Nat.le_refl _) _, Lib.hid (RdAt.start _)⟩
  case round =>
    obtain ⟨k, f, g, cap, n, L, hk, hf, hn, rfl, rfl, rfl, HO, hB, HC⟩ := hrel
    have hws := hB.size
    have ik0 : (0 : Int) ≤ (k : Int) := Int.natCast_nonneg _
    have if0 : (0 : Int) ≤ (f : Int) := Int.natCast_nonneg _
    have hfk : (f : Int) ≤ (k : Int) := by omega
    have hks : (k : Int) ≤ (s.size : Int) := by omega
    have hfs : (f : Int) ≤ (s.size : Int) := by omega
    obtain ⟨hnl, hown⟩ := HO.out
    have HNL := Lib.hid hnl
    have hlg := hown.lt g (by simp [Value.ownBlock])
    clear hnl
    by_cases hlt : k < s.size
    · have hlti : (k : Int) < (s.size : Int) := by omega
      obtain ⟨b, hb⟩ : ∃ b, s[k] = b := ⟨_, rfl⟩
      have hlb : s.data.toList[k]'(by rw [HSL.out]; exact hlt) = b := by rw [← hb]; rfl
      have HLB := Lib.hid hlb
      clear hlb
      by_cases h10 : b = 10
      · subst h10
        have hez : (s.extract f k).size ≤ 1048576 := by rw [ByteArray.size_extract]; omega
        have HRD := specRdd (s.extract f k) hez wr
        rw [piece_list] at HRD
        have HRD := Lib.hid HRD
        cases hd : rdD ((s.data.toList.drop f).take (k - f)) with
        | none =>
          rw [hd] at HRD
          have HE := Lib.hid (HC.out.stop (by rw [HSL.out]; exact hlt) HLB.out hd)
          clear hd
          go_wp2_with fail
          refine HRD.out.mono ?_
          rintro e w3 ⟨rfl, hB3⟩
          have hown3 : w3.ownsRow w.heap.size 24 3 (.slice (some ⟨g, 0, none⟩) n cap) n (ddC L) := hown.kept (grown_of_below hB3) (by cases (Value.slice (some ⟨g, 0, none⟩) n cap).ownBlock <;> simp)
          have hB4 := hB.trans (hB3.mono hws)
          have hO5 := hown3.alloc (.cells #[.int .i64 0, .int .i64 0, .int .i64 0] 24)
          have HO5 := Lib.hid hO5
          have HB5 := Lib.hid (hB4.alloc hB4.size (.cells #[.int .i64 0, .int .i64 0, .int .i64 0] 24))
          clear hown3 hO5 hown
          go_wp2_with fail
          go_ret2
          have e1 : R1 = L := by rw [← HR1.out, HE.out]
          have e2 : R2 = f := by rw [← HR2.out, HE.out]
          subst e1
          subst e2
          exact ⟨g, cap, ⟨by rw [← HNL.out]; rfl, HB5.out⟩, by unfold OwnD; rw [← HNL.out]; exact HO5.out⟩
        | some d =>
          rw [hd] at HRD
          have HC2 := Lib.hid (HC.out.line hf (by rw [HSL.out]; exact hlt) HLB.out hd)
          clear hd
          go_wp2_with fail
          refine HRD.out.mono ?_
          rintro e w3 ⟨rfl, hB3⟩
          have hown3 : w3.ownsRow w.heap.size 24 3 (.slice (some ⟨g, 0, none⟩) n cap) n (ddC L) := hown.kept (grown_of_below hB3) (by cases (Value.slice (some ⟨g, 0, none⟩) n cap).ownBlock <;> simp)
          have hB4 := hB.trans (hB3.mono hws)
          have hO5 := (hown3.alloc (.cells #[.int .i64 d.k, .int .i64 d.a, .int .i64 d.b] 24)).alloc (.cells #[.int .i64 d.k, .int .i64 d.a, .int .i64 d.b] 24)
          have hB5 := (hB4.alloc hB4.size (.cells #[.int .i64 d.k, .int .i64 d.a, .int .i64 d.b] 24)).alloc (by have := hB4.size; simp; omega) (.cells #[.int .i64 d.k, .int .i64 d.a, .int .i64 d.b] 24)
          have hDe : Box3 (w3.alloc (.cells #[.int .i64 d.k, .int .i64 d.a, .int .i64 d.b] 24)) w3.heap.size d := Box3.new w3 d
          obtain ⟨⟨t1, t2, t3⟩, _⟩ := box3_cell hDe
          have hnw := World.news_of_block (cs := #[.int .i64 d.k, .int .i64 d.a, .int .i64 d.b]) (t := 24) (fr := (0, 0)) (heap_alloc_new (w3.alloc (.cells #[.int .i64 d.k, .int .i64 d.a, .int .i64 d.b] 24)) (.cells #[.int .i64 d.k, .int .i64 d.a, .int .i64 d.b] 24))
          rw [es] at hnw
          have HNW := Lib.hid hnw
          have HO5 := Lib.hid hO5
          have HB5 := Lib.hid hB5
          have hz5 := hB5.size
          clear hown3 hO5 hown hnw hB5 hDe
          go_wp2_with (at_builtin; go_must (refine wpList_append_own _ rfl _ _ 32 rfl w.heap.size 24 i1 (.agg #[.int .i64 0, .int .i64 0, .int .i64 0]) 3 24 Tryd.underlying32 hj hy0 hy1 hy2 rfl (by decide) _ _ _ rfl HO5.out ⟨w3.heap.size + 1, 0, none⟩ 1 1 [.int .i64 d.k, .int .i64 d.a, .int .i64 d.b] rfl rfl HNW.out (by simp [Value.oneCell']) (by unfold maxLen; omega) (by omega) (by simpa using hz5) ?_); go_must (intro v' w4 hown' hgrow _; obtain ⟨g2, cap2, rfl⟩ := ownsRow_succ hown'); go_must (have hB6 : Below w.heap.size w w4 := HB5.out.grown hgrow hz5 (fun r e => by have e' : some g = some r := e; cases e'; exact hlg.1)); go_must (have HO6 := Lib.hid hown'); clear hown' hgrow)
          go_roundw
          case rel => exact ⟨k + 1, k + 1, g2, cap2, n + 1, L ++ [d], by omega, Nat.le_refl _, by omega, by go_num, by go_num, rfl, Lib.hid ⟨by rw [List.length_append, HNL.out]; rfl, by rw [ddC_app]; exact HO6.out⟩, hB6, HC2⟩
          case measure => simp [intOf]; omega
      · have HC3 := Lib.hid (HC.out.char hf (by rw [HSL.out]; exact hlt) (by rw [HLB.out]; exact h10))
        have hbn : b.toNat ≠ 10 := fun e => h10 (UInt8.toNat_inj.1 (by rw [e]; rfl))
        have hbe : (((b.toNat : Nat) : Int) == 10) = false := by simp; omega
        clear hown
        go_wp2_with fail
        go_roundw
        case rel => exact ⟨k + 1, f, g, cap, n, L, by omega, by omega, by omega, by go_num, rfl, rfl, HO, hB, HC3⟩
        case measure => simp [intOf]; omega
    · obtain rfl : k = s.size := by omega
      have HE : Hid (rdJ [] s.data.toList = (L, f)) := Lib.hid (RdAt.fin (by rw [HSL.out]; exact HC.out))
      go_wp2_with fail
      go_ret2
      have e1 : R1 = L := by rw [← HR1.out, HE.out]
      have e2 : R2 = f := by rw [← HR2.out, HE.out]
      subst e1
      subst e2
      exact ⟨g, cap, ⟨by rw [← HNL.out]; rfl, hB⟩, by unfold OwnD; rw [← HNL.out]; exact hown⟩

end Go.Proofs.YtofpjepndhpciaaDoor
