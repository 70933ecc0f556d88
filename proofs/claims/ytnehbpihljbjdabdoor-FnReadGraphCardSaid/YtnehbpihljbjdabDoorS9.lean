/-
  The model's ReadGraph.
-/
import Derived.Test.YtnehbpihljbjdabDoorS8
import Derived.Test.YtnehbpihljbjdabDoorS7
import Derived.Test.YtnehbpihljbjdabDoorJ5
import Derived.Lib.SlicesS
namespace Go.Proofs.YtnehbpihljbjdabDoor
open Go.RowKit Go.Shelf Go.Deep

/-- Does a text hold the byte of a number? -/
def hasD (q : List UInt8) (j : Nat) : Bool := q.any fun b => b.toNat == 48 + j
def rowN (N : Nat) (p : List UInt8) : List Int := (List.range N).map fun j => if hasD p j = true then 1 else 0
def digOk (N : Nat) (p : List UInt8) : Bool := p.all fun b => decide (48 ≤ b.toNat ∧ b.toNat < 48 + N)
def rowsN (s : List UInt8) : List (List Int) := (cutL s).map (rowN (cutL s).length)
theorem rowN_length (N : Nat) (p : List UInt8) : (rowN N p).length = N := by simp [rowN]
theorem rowsN_length (s : List UInt8) : (rowsN s).length = (cutL s).length := by simp [rowsN]
theorem hasD_dig {q : List UInt8} {j : Nat} (hj : j < 10) : hasD q j = q.contains (dgB j) := by
  unfold hasD
  rw [List.contains_eq_any_beq]
  congr 1
  funext b
  by_cases h : b.toNat = 48 + j
  · have := dgB_eq hj h; subst this; simp [h]
  · have h1 : (b.toNat == 48 + j) = false := by simpa using h
    have h2 : (dgB j == b) = false := by
      simp only [beq_eq_false_iff_ne]
      intro e; exact h (by rw [← e, dgB_nat hj])
    rw [h1, h2]
theorem rowsN_eq {s : List UInt8} (h : rdOk s = true) : rowsN s = rdL s := by
  obtain ⟨h9, _⟩ := rdOk_iff.1 h
  rw [rdL_yes h]
  unfold rowsN rowsP
  conv => lhs; arg 2; rw [← list_get (cutL s) []]
  rw [List.map_map]
  refine List.map_congr_left fun i hi => ?_
  show rowN _ _ = _
  unfold rowN
  refine List.map_congr_left fun j hj => ?_
  rw [hasD_dig (by have := List.mem_range.1 hj; omega)]
  rfl
theorem rd_yes {s : List UInt8} (h : rdOk s = true) : (∀ p ∈ cutL s, digOk (cutL s).length p = true) ∧ gOk (rowsN s) = true ∧ gTextB (rowsN s) = ⟨s.toArray⟩ := by
  obtain ⟨h9, ha⟩ := rdOk_iff.1 h
  rw [rowsN_eq h]
  refine ⟨fun p hp => List.all_eq_true.2 fun b hb => ?_, gOk_true (rd_good h), rd_text h⟩
  have := ascF_all (ha p hp) b hb
  rw [decide_eq_true_eq]; omega
theorem rd_back {s : List UInt8} (hg : gOk (rowsN s) = true) (ht : gTextB (rowsN s) = ⟨s.toArray⟩) : rdOk s = true ∧ rdL s = rowsN s := by
  have h := rd_graph (good_of hg)
  rw [ht] at h
  simpa using h
theorem digOk_snoc {N : Nat} {q : List UInt8} {b : UInt8} (h : digOk N q = true) (hb : 48 ≤ b.toNat ∧ b.toNat < 48 + N) : digOk N (q ++ [b]) = true := by
  unfold digOk at *
  rw [List.all_append, h]
  simp [hb]
theorem digOk_no {N : Nat} {q : List UInt8} {b : UInt8} (hm : b ∈ q) (hb : ¬ (48 ≤ b.toNat ∧ b.toNat < 48 + N)) : digOk N q = false := by
  cases h : digOk N q with
  | false => rfl
  | true => have := List.all_eq_true.1 h b hm; rw [decide_eq_true_eq] at this; exact absurd this hb
theorem hasD_snoc (q : List UInt8) (b : UInt8) (j : Nat) : hasD (q ++ [b]) j = (hasD q j || b.toNat == 48 + j) := by simp [hasD]
theorem rowIs_owns {W : World} {base b N : Nat} {t : TypeId} {f : Nat → Value} (h : W.rowIs b t N f) (hb : base ≤ b) (hN : N ≤ maxLen) : W.ownsRow base t 1 (.slice (some ⟨b, 0, none⟩) N N) N ((List.range N).map f) := by
  obtain ⟨c, h1, h2, h3⟩ := h
  refine ⟨by simp, .inr ⟨b, N, c, rfl, hb, h1, Nat.le_refl _, hN, by omega, ?_⟩⟩
  refine List.ext_getElem? fun i => ?_
  rw [Nat.mul_one]
  by_cases hi : i < N
  · rw [List.getElem?_take_of_lt hi]
    simp [hi, h3 i hi]
  · rw [List.getElem?_eq_none (by simp; omega), List.getElem?_eq_none (by simp; omega)]

theorem own_apart {W : World} {base base' e e' n m : Nat} {v x : Value} {vs xs : List Value} (hne : e ≠ e') (h : W.ownsRow base e 1 v n vs) (k : W.ownsRow base' e' 1 x m xs) : x.ownBlock = none ∨ x.ownBlock ≠ v.ownBlock := by
  rcases k.2 with ⟨rfl, _⟩ | ⟨g, cap, cur, rfl, _, hg, _⟩
  · exact .inl (by simp [Value.ownBlock])
  · refine .inr fun q => ?_
    rcases h.2 with ⟨rfl, _⟩ | ⟨g', cap', cur', rfl, _, hg', _⟩
    · simp [Value.ownBlock] at q
    · have : g = g' := by simpa [Value.ownBlock] using q
      subst this
      rw [hg] at hg'
      injection hg' with hg'
      injection hg' with _ h2
      exact absurd h2.symm hne
/-- The rows that the first k pieces tell. -/
def rT (s : List UInt8) (k : Nat) : List (List Int) := ((cutL s).take k).map (rowN (cutL s).length)
theorem rT_length {s : List UInt8} {k : Nat} (hk : k ≤ (cutL s).length) : (rT s k).length = k := by simp [rT]; omega
theorem rT_succ {s p : List UInt8} {k : Nat} (h : (cutL s)[k]? = some p) : rT s (k + 1) = rT s k ++ [rowN (cutL s).length p] := by
  unfold rT; rw [List.take_add_one, h, List.map_append]; rfl
theorem rT_all (s : List UInt8) : rT s (cutL s).length = rowsN s := by unfold rT rowsN; rw [List.take_of_length_le (Nat.le_refl _)]
theorem rowsN_fit {s : List UInt8} (h : (cutL s).length ≤ 2000000) : FitB (rowsN s) := ⟨by rw [rowsN_length]; exact h, fun xs hx => by
  obtain ⟨p, _, rfl⟩ := List.mem_map.1 hx
  rw [rowN_length]; exact h⟩

set_option maxRecDepth 100000 in
set_option maxHeartbeats 4000000 in
theorem specRead (s : ByteArray) (w : World) (hs : s.size ≤ 1048576) :
    Calls Tryd.prog 14 #[.string s] w (ReadB (rdL s.data.toList) (rdOk s.data.toList) w) := by
  obtain ⟨i0, hi, hz0, hz1, hz2⟩ := info_parts infoInts
  have hB0 : Below w.heap.size w (w.alloc (.cells #[] 46)) := (Below.refl _ _).alloc (Nat.le_refl _) _
  have HB0 := Lib.hid hB0
  have HO0 := Lib.hid (OwnMat.start w (Nat.le_refl w.heap.size))
  have hsl : s.data.toList.length = s.size := by simp
  obtain ⟨l, hl⟩ : ∃ l, s.data.toList = l := ⟨_, rfl⟩
  have hll : l.length ≤ 1048576 := by rw [← hl, hsl]; exact hs
  have HLS : Hid (s = ⟨l.toArray⟩) := Lib.hid (by rw [← hl])
  have hCut := cut_any s hs (w.alloc (.cells #[] 46))
  rw [hl] at hCut ⊢
  have HCut := Lib.hid hCut
  obtain ⟨N, hN⟩ : ∃ N, (cutL l).length = N := ⟨_, rfl⟩
  have hN1 : N ≤ 1048577 := by
    have h1 : l.count 47 ≤ l.length := List.count_le_length
    rw [← hN, cutL_length]; omega
  have HN := Lib.hid hN
  obtain ⟨xs, HXS⟩ : ∃ xs, Hid (rdL l = xs) := ⟨_, rfl⟩
  obtain ⟨z, HZ⟩ : ∃ z, Hid (rdOk l = z) := ⟨_, rfl⟩
  rw [HXS.out, HZ.out]
  have HNO : Hid (rdOk l = false → z = false ∧ xs = []) := Lib.hid fun h => ⟨by rw [← HZ.out, h], by rw [← HXS.out, rdL_no h]⟩
  clear hB0 hsl hl hCut hN
  go_enter Tryd.func14, Tryd.ntmps14
  go_wp2_with fail
  refine HCut.out.mono ?_
  rintro e w2 ⟨gp, capp, ps, rfl, hB2, HPS, hOS⟩
  have hpn : ps.length = N := by rw [← HN.out, ← HPS.out, List.length_map]
  rw [hpn]
  have HPN := Lib.hid hpn
  have HOS : Hid (w2.ownsRow (w.alloc (.cells #[] 46)).heap.size 9 1 (.slice (some ⟨gp, 0, none⟩) N capp) N (ps.map Value.string)) := Lib.hid (by unfold OwnStr at hOS; rw [hpn] at hOS; exact hOS)
  have HO2 := Lib.hid (HO0.out.below hB2)
  have HB2 := Lib.hid (HB0.out.trans (hB2.mono HB0.out.size))
  have hz02 := HB2.out.size
  clear hpn hOS hB2
  go_wp2_with fail
  go_loopw [4, 6] (fun v i wr => ∃ (k g cap : Nat), k ≤ N ∧ i = .int .i64 k ∧ v = .slice (some ⟨g, 0, none⟩) k cap ∧ Hid (OwnMat w.heap.size wr (.slice (some ⟨g, 0, none⟩) k cap) (rT l k)) ∧ Below w.heap.size w wr ∧ Hid (wr.ownsRow (w.alloc (.cells #[] 46)).heap.size 9 1 (.slice (some ⟨gp, 0, none⟩) N capp) N (ps.map Value.string)))
    (fun _ i _ => N - (intOf i).toNat)
  case atStart => exact ⟨0, _, _, Nat.zero_le _, rfl, rfl, HO2, HB2.out, HOS⟩
  case round =>
    obtain ⟨k, g, cap, hk, rfl, rfl, HO, hB, HS⟩ := hrel
    have hwz := hB.size
    by_cases hlt : k < N
    · have hkp : k < ps.length := by rw [HPN.out]; exact hlt
      obtain ⟨p, hp⟩ : ∃ p, ps[k]'hkp = p := ⟨_, rfl⟩
      have hkk : wr.cell? ⟨gp, k, none⟩ = some (.string p) := by
        rw [HS.out.cellAt k (by omega), List.getElem?_map, List.getElem?_eq_getElem hkp, hp]; rfl
      have HP : Hid ((cutL l)[k]? = some p.data.toList) := Lib.hid (by rw [← HPS.out, List.getElem?_map, List.getElem?_eq_getElem hkp, hp]; rfl)
      have HPM : Hid (p.data.toList ∈ cutL l) := Lib.hid (List.mem_of_getElem? HP.out)
      have hgl := (HS.out.lt gp rfl).2
      have hpz : p.size ≤ 1048576 := by
        have h1 := cut_small HPM.out
        have h2 : p.data.toList.length = p.size := by simp
        have h3 := hll
        omega
      have hmk := run_make_row' (P := Tryd.prog) 46 3 (.int .i64 0) 8 Tryd.underlying46 infoInt rfl .i64 .i64 N (by omega) (by omega)
      have ik0 : (0 : Int) ≤ (k : Int) := Int.natCast_nonneg _
      have hlti : (k : Int) < (N : Int) := by omega
      clear hkp hp
      obtain ⟨wo, rfl⟩ : ∃ wo : World, wo = wr := ⟨_, rfl⟩
      go_wp2_with fail
      clear hmk
      go_loopw [8] (fun j wi => ∃ t : Nat, t ≤ p.size ∧ j = .int .i64 t ∧ Below wo.heap.size wo wi ∧ Hid (wi.rowIs wo.heap.size 3 N (fun x => .int .i64 (if hasD (p.data.toList.take t) x = true then 1 else 0))) ∧ Hid (digOk N (p.data.toList.take t) = true)) (fun j _ => p.size - (intOf j).toNat)
      case atStart => exact ⟨0, Nat.zero_le _, rfl, (Below.refl _ _).alloc (Nat.le_refl _) _, (World.rowIs_made wo _ _ _).congr fun x _ => by simp [hasD], rfl⟩
      case round =>
        obtain ⟨t, ht, rfl, hB3, HR, HD⟩ := hrel
        have hkk3 := (hB3.cell (p := ⟨gp, k, none⟩) hgl).trans hkk
        have hz3 := hB3.size
        have it0 : (0 : Int) ≤ (t : Int) := Int.natCast_nonneg _
        clear hkk
        by_cases hlt2 : t < p.size
        · have hti : (t : Int) < (p.size : Int) := by omega
          obtain ⟨b, hb⟩ : ∃ b, p[t] = b := ⟨_, rfl⟩
          have HTK : Hid (p.data.toList.take (t + 1) = p.data.toList.take t ++ [b]) := Lib.hid (by
            rw [List.take_add_one, List.getElem?_eq_getElem (by simpa using hlt2)]
            have e : p.data.toList[t]'(by simpa using hlt2) = b := by rw [← hb]; rfl
            rw [e]; rfl)
          have HBM : Hid (b ∈ p.data.toList) := Lib.hid (List.mem_of_mem_take (i := t + 1) (by rw [HTK.out]; simp))
          by_cases hv : 48 ≤ b.toNat ∧ b.toNat < 48 + N
          · obtain ⟨q, hq⟩ : ∃ q, b.toNat = 48 + q := ⟨b.toNat - 48, by omega⟩
            have hqN : q < N := by omega
            have HR2 : Hid ((wr.setCell ⟨wo.heap.size, q, none⟩ (.int .i64 1)).rowIs wo.heap.size 3 N (fun x => .int .i64 (if hasD (p.data.toList.take (t + 1)) x = true then 1 else 0))) := Lib.hid ((HR.out.set q (.int .i64 1)).congr fun x _ => by
              rw [HTK.out, hasD_snoc]
              by_cases e : x = q
              · subst e; simp [hq]
              · have h1 : (b.toNat == 48 + x) = false := by simp only [beq_eq_false_iff_ne]; omega
                simp [e, h1])
            have HD2 : Hid (digOk N (p.data.toList.take (t + 1)) = true) := Lib.hid (by rw [HTK.out]; exact digOk_snoc HD.out hv)
            have hc3 := HR.out.cell hqN
            have hf3 := HR.out.frozen q
            have hlb := World.rowIs.lt HR.out
            have iq0 : (0 : Int) ≤ (q : Int) := Int.natCast_nonneg _
            have iqN : (q : Int) < (N : Int) := by omega
            have iqN2 : (q : Int) ≤ (N : Int) - 1 := by omega
            clear hv
            go_wp2_with (go_at_call 25; refine (in_yes _ _ _ _ (by omega) (by omega)).mono ?_; rintro e w' ⟨rfl, rfl⟩)
            go_roundw
            case rel => exact ⟨t + 1, by omega, by go_num, hB3.setCell (p := ⟨wo.heap.size, q, none⟩) (Nat.le_refl _) _, HR2, HD2⟩
            case measure => simp [intOf]; omega
          · have hno : rdOk l = false := by
              cases h : rdOk l with
              | false => rfl
              | true =>
                have h1 := (rd_yes h).1 _ HPM.out
                rw [HN.out, digOk_no HBM.out hv] at h1; cases h1
            obtain ⟨rfl, rfl⟩ := HNO.out hno
            have hdn : Hid (decide ((0 : Int) ≤ ((b.toNat : Nat) : Int) - 48 ∧ ((b.toNat : Nat) : Int) - 48 ≤ (N : Int) - 1) = false) := Lib.hid (decide_eq_false (by omega))
            have HBF := Lib.hid (hB.trans (hB3.mono hwz))
            have hbl : b.toNat < 256 := b.toNat_lt
            clear hno hv
            go_wp2_with (go_at_call 25; refine (in_any _ _ _ _).mono ?_; rw [hdn.out]; rintro e w' ⟨rfl, rfl⟩)
            go_ret2
            exact ⟨_, _, ⟨rfl, HBF.out.alloc HBF.out.size _⟩, fun h => absurd rfl h⟩
        · obtain rfl : t = p.size := by omega
          have hfull : p.data.toList.take p.size = p.data.toList := List.take_of_length_le (by simp)
          have HX : Hid (wr.ownsRow w.heap.size 3 1 (.slice (some ⟨wo.heap.size, 0, none⟩) N N) (rowN N p.data.toList).length ((rowN N p.data.toList).map (Value.int .i64))) := Lib.hid (by
            have h := rowIs_owns HR.out hwz (by unfold maxLen; omega)
            rw [hfull] at h
            rw [rowN_length]
            unfold rowN
            rw [List.map_map]
            exact h)
          have HO3 := HO.out.below hB3
          obtain ⟨vs, hown, hrows⟩ := HO3
          have hrl : (rT l k).length = k := rT_length (by rw [HN.out]; exact hk)
          have HRL := Lib.hid hrl
          rw [hrl] at hown
          have HW := Lib.hid hrows
          have hlg := hown.lt g (by simp [Value.ownBlock])
          have hBr : Below w.heap.size w wr := hB.trans (hB3.mono hwz)
          have hzw := hBr.size
          have HS3 := Lib.hid (ownsRow_below HS.out hB3)
          have HAP : Hid ((Value.slice (some ⟨gp, 0, none⟩) N capp).ownBlock = none ∨ (Value.slice (some ⟨gp, 0, none⟩) N capp).ownBlock ≠ (Value.slice (some ⟨g, 0, none⟩) k cap).ownBlock) := Lib.hid (own_apart (e := 46) (e' := 9) (by decide) hown HS3.out)
          clear hrows hrl hfull
          go_wp2_with (at_builtin; go_must (refine wpList_append_own _ rfl _ _ 23 rfl w.heap.size 46 i0 (.slice none 0 0) 1 24 Tryd.underlying23 hi hz0 hz1 hz2 rfl (by decide) _ _ _ rfl (hown.alloc _) ⟨wr.heap.size, 0, none⟩ 1 1 [.slice (some ⟨wo.heap.size, 0, none⟩) N N] rfl rfl (cell_one_new _ _ _) (by simp [Value.oneCell']) (by unfold maxLen; omega) (by omega) (by simp; omega) ?_); go_must (intro v' w4 hown' hgrow _; obtain ⟨g2, cap2, rfl⟩ := ownsRow_succ hown'); go_must (have HO4 := Lib.hid (OwnMat.appended (by rw [HRL.out]; exact hown) HW.out HX.out (by rw [HRL.out]; exact hown') hgrow)); have hB4 : Below w.heap.size w w4 := (hBr.alloc hzw _).grown hgrow (by simp; omega) (fun r e => by have e' : some g = some r := e; cases e'; exact hlg.1); have HS4 := Lib.hid ((HS3.out.alloc (.cells #[.slice (some ⟨wo.heap.size, 0, none⟩) N N] 46)).kept hgrow HAP.out); clear hown' hgrow)
          go_roundw
          case rel => exact ⟨k + 1, g2, cap2, by omega, by go_num, rfl, Lib.hid (by rw [rT_succ HP.out, HN.out]; exact HO4.out), hB4, HS4⟩
          case measure => simp [intOf]; omega
    · obtain rfl : k = N := by omega
      have hrt : rT l k = rowsN l := by rw [← HN.out]; exact rT_all l
      have hrl : (rowsN l).length = k := by rw [rowsN_length, HN.out]
      have hm := HO.out
      rw [hrt] at hm
      have hMat : Mat wr.heap.size wr (some ⟨g, 0, none⟩) (rowsN l) := OwnMat.mat (c := cap) (by rw [hrl]; exact hm)
      have hOk := specOk_big (some ⟨g, 0, none⟩) cap (rowsN l) wr.heap.size wr hMat (rowsN_fit (by rw [HN.out]; omega))
      rw [hrl] at hOk
      have HRL := Lib.hid hrl
      have HMT := Lib.hid hMat
      by_cases hg : gOk (rowsN l) = true
      · have hTx := specText (some ⟨g, 0, none⟩) cap (rowsN l) wr.heap.size wr hMat (Nat.le_refl _) (good_of hg).fit
        rw [hrl] at hTx
        rw [hg] at hOk
        have HOk := Lib.hid hOk
        by_cases ht : gTextB (rowsN l) = s
        · rw [ht] at hTx
          have HTx := Lib.hid hTx
          obtain ⟨hr1, hr2⟩ := rd_back hg (by rw [ht]; exact HLS.out)
          obtain rfl : z = true := by rw [← HZ.out, hr1]
          have HX2 : Hid (xs = rowsN l) := Lib.hid (by rw [← HXS.out, hr2])
          have hnn := bytes_ne_self s
          clear hrt hrl hm hMat hOk hTx hg ht hr1 hr2
          go_wp2_with fail
          refine HOk.out.mono ?_
          rintro e wq ⟨rfl, rfl⟩
          go_wp2_with fail
          refine HTx.out.mono ?_
          rintro e w5 ⟨rfl, hB5⟩
          have HM5 := Lib.hid ((HMT.out.below hB5).more hB5.size)
          have HB5 := Lib.hid (hB.trans (hB5.mono hwz))
          clear hB5
          go_wp2_with fail
          go_ret2
          exact ⟨some ⟨g, 0, none⟩, cap, ⟨by rw [HX2.out, HRL.out]; rfl, HB5.out⟩, by rw [HX2.out]; exact HM5.out⟩
        · have hno : rdOk l = false := by
            cases h : rdOk l with
            | false => rfl
            | true => exact absurd ((rd_yes h).2.2.trans HLS.out.symm) ht
          obtain ⟨rfl, rfl⟩ := HNO.out hno
          have hnn := (Lib.bytes_beq_false_iff (gTextB (rowsN l)) s).2 ht
          generalize gTextB (rowsN l) = T at hTx hnn
          have HTx := Lib.hid hTx
          clear hrt hrl hm hMat hOk hTx hg ht hno
          go_wp2_with fail
          refine HOk.out.mono ?_
          rintro e wq ⟨rfl, rfl⟩
          go_wp2_with fail
          refine HTx.out.mono ?_
          rintro e w5 ⟨rfl, hB5⟩
          have HB5 := Lib.hid (hB.trans (hB5.mono hwz))
          clear hB5
          go_wp2_with fail
          go_ret2
          exact ⟨_, _, ⟨rfl, HB5.out.alloc HB5.out.size _⟩, fun h => absurd rfl h⟩
      · have hgn : gOk (rowsN l) = false := by simpa using hg
        have hno : rdOk l = false := by
          cases h : rdOk l with
          | false => rfl
          | true => exact absurd (rd_yes h).2.1 hg
        obtain ⟨rfl, rfl⟩ := HNO.out hno
        rw [hgn] at hOk
        have HOk := Lib.hid hOk
        clear hrt hrl hm hMat hOk hg hgn hno
        go_wp2_with fail
        refine HOk.out.mono ?_
        rintro e wq ⟨rfl, rfl⟩
        go_wp2_with fail
        go_ret2
        exact ⟨_, _, ⟨rfl, hB.alloc hwz _⟩, fun h => absurd rfl h⟩

end Go.Proofs.YtnehbpihljbjdabDoor
