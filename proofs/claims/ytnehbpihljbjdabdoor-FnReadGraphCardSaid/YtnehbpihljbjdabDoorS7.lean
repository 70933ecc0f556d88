/-
  impl.ascendingDigits; impl.ReadGraph, walked.
-/
import Derived.Test.YtnehbpihljbjdabDoorS6
import Derived.Test.YtnehbpihljbjdabDoorS4
import Derived.Test.YtnehbpihljbjdabDoorSh2
import Derived.Test.YtnehbpihljbjdabDoorZJ
namespace Go.Proofs.YtnehbpihljbjdabDoor
open Go.RowKit Go.Shelf Go.Deep

theorem drop_byte {s : ByteArray} {k : Nat} (hk : k < s.size) : s.data.toList.drop k = s[k] :: s.data.toList.drop (k + 1) := by
  have h : k < s.data.toList.length := by simpa using hk
  rw [List.drop_eq_getElem_cons h]
  rfl
theorem ascF_no {l N : Nat} {b : UInt8} {r : List UInt8} (h : ¬ (48 + l ≤ b.toNat ∧ b.toNat < 48 + N)) : ascF l N (b :: r) = false := by
  rw [ascF, decide_eq_false h]; rfl
theorem ascF_yes {l N : Nat} {b : UInt8} {r : List UInt8} (h : 48 + l ≤ b.toNat ∧ b.toNat < 48 + N) : ascF l N (b :: r) = ascF (b.toNat - 48 + 1) N r := by
  conv => lhs; rw [ascF, decide_eq_true h]
  rfl

set_option maxRecDepth 100000 in
set_option maxHeartbeats 1000000 in
theorem asc_any (s : ByteArray) (N : Nat) (hN : N ≤ 9) (hs : s.size ≤ 1048576) (w : World) :
    Calls Tryd.prog 28 #[.string s, .int .i64 N] w fun e w' => e = .returned (.bool (ascF 0 N s.data.toList)) ∧ w' = w := by
  obtain ⟨z, HZ⟩ : ∃ z, Hid (ascF 0 N s.data.toList = z) := ⟨_, rfl⟩
  rw [HZ.out]
  go_enter Tryd.func28, Tryd.ntmps28
  go_wp2_with fail
  go_loop [5, 10] (fun t i => ∃ k l : Nat, k ≤ s.size ∧ l ≤ 9 ∧ i = .int .i64 k ∧ t = .int .i64 l ∧ Hid (ascF l N (s.data.toList.drop k) = z)) (fun _ i => s.size - (intOf i).toNat)
  case atStart => exact ⟨0, 0, Nat.zero_le _, Nat.zero_le _, rfl, rfl, by rw [List.drop_zero]; exact HZ⟩
  case round =>
    obtain ⟨k, l, hk, hl, rfl, rfl, HR⟩ := hrel
    by_cases hlt : k < s.size
    · have hd := drop_byte hlt
      obtain ⟨b, hb⟩ : ∃ b, s[k] = b := ⟨_, rfl⟩
      rw [hb] at hd
      have HR2 : Hid (ascF l N (b :: s.data.toList.drop (k + 1)) = z) := Lib.hid (by rw [← hd]; exact HR.out)
      have hbl : b.toNat < 256 := b.toNat_lt
      have ik0 : (0 : Int) ≤ (k : Int) := Int.natCast_nonneg _
      have hlti : (k : Int) < (s.size : Int) := by omega
      clear hd HR
      by_cases hok : 48 + l ≤ b.toNat ∧ b.toNat < 48 + N
      · have HR3 : Hid (ascF (b.toNat - 48 + 1) N (s.data.toList.drop (k + 1)) = z) := Lib.hid (by rw [← ascF_yes hok]; exact HR2.out)
        obtain ⟨h1, h2⟩ := hok
        have e1 : ((b.toNat : Nat) : Int) - 48 + 1 = ((b.toNat - 48 + 1 : Nat) : Int) := by omega
        have t1 : ¬ ((b.toNat : Nat) : Int) - 48 < (l : Int) := by omega
        have t2 : ¬ (N : Int) ≤ ((b.toNat : Nat) : Int) - 48 := by omega
        go_wp2_with fail
        go_round
        case rel => exact ⟨k + 1, b.toNat - 48 + 1, by omega, by omega, by go_num, by congr 1, HR3⟩
        case measure => simp [intOf]; omega
      · have hz : z = false := by rw [← HR2.out]; exact ascF_no hok
        subst hz
        by_cases h1 : 48 + l ≤ b.toNat
        · have t1 : ¬ ((b.toNat : Nat) : Int) - 48 < (l : Int) := by omega
          have t2 : (N : Int) ≤ ((b.toNat : Nat) : Int) - 48 := by omega
          go_wp2_with fail
          go_ret
          exact ⟨rfl, rfl⟩
        · have t1 : ((b.toNat : Nat) : Int) - 48 < (l : Int) := by omega
          go_wp2_with fail
          go_ret
          exact ⟨rfl, rfl⟩
    · obtain rfl : k = s.size := by omega
      have hz : z = true := by
        rw [← HR.out, List.drop_eq_nil_of_le (by simp)]; rfl
      subst hz
      go_wp2_with fail
      go_ret
      exact ⟨rfl, rfl⟩

theorem idx_mem {c : UInt8} : ∀ l : List UInt8, (0 ≤ Lib.indexByte l c) ↔ l.contains c = true
  | [] => by simp [Lib.indexByte]
  | b :: r => by
    have ih := idx_mem (c := c) r
    have hg := Lib.indexByte_ge r c
    unfold Lib.indexByte
    by_cases hb : b = c
    · subst hb; simp
    · have h1 : (b == c) = false := by simpa using hb
      have hc : (b :: r).contains c = r.contains c := by
        simp; intro e; exact absurd e.symm hb
      rw [if_neg (by rw [h1]; decide), hc, ← ih]
      split
      · rename_i h
        have h' := beq_iff_eq.1 h
        rw [h']
      · rename_i h
        have h' : Lib.indexByte r c ≠ -1 := fun e => h (by rw [e]; rfl)
        constructor <;> intro _ <;> omega

set_option maxRecDepth 100000 in
set_option maxHeartbeats 4000000 in
theorem read1 (s : List UInt8) (L B : Nat) (N : Nat) (ps : List ByteArray) (w : World) (hps : ps.map (·.data.toList) = cutL s) (hN : N = ps.length) (h9 : N ≤ 9) (hL : Boxed w L 38 (.slice (some ⟨B, 0, none⟩) N N))
    (hc : ∀ k p, ps[k]? = some p → w.cell? ⟨B, k, none⟩ = some (.string p)) (_hlb : B < w.heap.size) (i j : Nat) (hi : i < N) (hj : j < N) :
    Calls Tryd.prog 30 #[.int .i64 i, .int .i64 j, .pointer (some ⟨L, 0, none⟩)] w (Ans (.bool (rdP s i j)) w) := by
  have hip : i < ps.length := by omega
  have hci := hc i _ (List.getElem?_eq_getElem hip)
  have hrd : rdP s i j = (ps[i]'hip).data.toList.contains (dgB j) := by
    unfold rdP
    rw [← hps, List.getElem?_map, List.getElem?_eq_getElem hip]
    rfl
  rw [hrd]
  obtain ⟨p, hp⟩ : ∃ p, ps[i]'hip = p := ⟨_, rfl⟩
  rw [hp] at hci ⊢
  have cL := hL.cell
  have ii0 : (0 : Int) ≤ (i : Int) := Int.natCast_nonneg _
  have iiN : (i : Int) < (N : Int) := by omega
  have hdg : (48 + (j : Int)).toNat.toUInt8 = dgB j := by
    have e : (48 + (j : Int)).toNat = 48 + j := by omega
    rw [e]; rfl
  have hans : decide ((0 : Int) ≤ Lib.indexByte p.data.toList (dgB j)) = p.data.toList.contains (dgB j) := by
    by_cases h : 0 ≤ Lib.indexByte p.data.toList (dgB j)
    · rw [decide_eq_true h, (idx_mem _).1 h]
    · rw [decide_eq_false h]
      cases hcc : p.data.toList.contains (dgB j) with
      | false => rfl
      | true => exact absurd ((idx_mem _).2 hcc) h
  have HANS := Lib.hid hans
  have HDG := Lib.hid hdg
  clear hps hN hL hc hrd hp hans hdg hip
  go_enter Tryd.func30, Tryd.ntmps30
  go_wp2_with fail
  refine wp_region_still_tail 6 (by kernel_rfl) (by kernel_rfl) ?_
  simp only [List.take_succ_cons, List.take_zero, List.drop_succ_cons, List.drop_zero]
  repeat still_step
  still_call (digit_any j (by omega) _)
  repeat still_step
  try refine wpStill_nil ?_
  change wpList _ _ _ _ _ w.drew
  go_wp2_with fail
  refine (strings_IndexByte p _ _).mono ?_
  rw [HDG.out]
  rintro e w' ⟨rfl, rfl⟩
  obtain ⟨q, hq⟩ : ∃ q, Lib.indexByte p.data.toList (dgB j) = q := ⟨_, rfl⟩
  have HQ := HANS.out
  rw [hq] at HQ ⊢
  have HA := Lib.hid HQ
  clear HQ hq
  go_wp2_with fail
  go_ret
  exact ⟨ret_bool HA.out, (Below.refl _ w).drew⟩

theorem cut_small : ∀ {l x : List UInt8}, x ∈ cutL l → x.length ≤ l.length
  | [], x, h => by simp [cutL] at h; rw [h]; simp
  | b :: r, x, h => by
    unfold cutL at h
    split at h
    · rcases List.mem_cons.1 h with rfl | h
      · simp
      · have := cut_small h; simp; omega
    · cases hc : cutL r with
      | nil => exact absurd hc (cutL_ne r)
      | cons y t =>
        rw [hc] at h
        rcases List.mem_cons.1 h with rfl | h
        · have := cut_small (l := r) (x := y) (by rw [hc]; simp); simp; omega
        · have := cut_small (l := r) (x := x) (by rw [hc]; exact List.mem_cons_of_mem _ h); simp; omega
theorem cells_list (w : World) (ps : List ByteArray) (t : TypeId) (k : Nat) (p : ByteArray) (h : ps[k]? = some p) : (w.alloc (.cells (ps.map Value.string).toArray t)).cell? ⟨w.heap.size, k, none⟩ = some (.string p) := by simp [h]

set_option maxRecDepth 100000 in
set_option maxHeartbeats 4000000 in
theorem implRead (s : ByteArray) (m : Int) (w : World) (hs : s.size ≤ 1048576) (hm : w.cell? ⟨0, 0, none⟩ = some (.int .i64 m)) :
    Calls Tryd.prog 11 #[.string s] w (MadeB (rdL s.data.toList) (rdOk s.data.toList) w) := by
  obtain ⟨hsp, hlen⟩ := split_cut s
  obtain ⟨ps, hps0⟩ : ∃ ps, Lib.splitB ⟨#[47]⟩ 0 (Lib.countB s ⟨#[47]⟩) s = ps := ⟨_, rfl⟩
  have hSplit := strings_Split s ⟨#[47]⟩ m w (by omega) hm (Nat.le_refl 1)
  have hCount := strings_Count_one s 47 w
  have hcb : (Lib.countByte s.data.toList 47 : Int) = ((Lib.countB s ⟨#[47]⟩ : Nat) : Int) := by
    show _ = ((Lib.count s.data.toList [47] : Nat) : Int)
    rw [Lib.count_one]; rfl
  rw [hcb] at hCount
  rw [hps0] at hsp hSplit
  obtain ⟨K, hK⟩ : ∃ K, Lib.countB s ⟨#[47]⟩ = K := ⟨_, rfl⟩
  rw [hK] at hSplit hCount hlen
  have hpl : ps.length = K + 1 := by rw [hlen, ← hsp, List.length_map]
  have hKs : K ≤ s.size := by
    have h1 : K = s.data.toList.count 47 := by rw [← hK]; exact Lib.count_one 47 s.data.toList
    have h2 := List.count_le_length (a := (47 : UInt8)) (l := s.data.toList)
    have h3 : s.data.toList.length = s.size := by simp
    omega
  have HSP := Lib.hid hsp
  have HPL := Lib.hid hpl
  have HLEN := Lib.hid hlen
  have HSplit := Lib.hid hSplit
  have HCount := Lib.hid hCount
  obtain ⟨xs, HXS⟩ : ∃ xs, Hid (rdL s.data.toList = xs) := ⟨_, rfl⟩
  obtain ⟨z, HZ⟩ : ∃ z, Hid (rdOk s.data.toList = z) := ⟨_, rfl⟩
  rw [HXS.out, HZ.out]
  clear hsp hpl hlen hSplit hCount hcb hps0 hK
  have es : ∀ (W : World) (o : Obj), (W.alloc o).heap.size = W.heap.size + 1 := fun W o => by simp
  by_cases hbig : 9 < K + 1
  · have hz : rdOk s.data.toList = false := by
      cases h : rdOk s.data.toList with
      | false => rfl
      | true => have := (rdOk_iff.1 h).1; rw [← HLEN.out] at this; omega
    obtain rfl : z = false := by rw [← HZ.out, hz]
    obtain rfl : xs = [] := by rw [← HXS.out, rdL_no hz]
    clear hz
    have hb1 : (9 : Int) < (K : Int) + 1 := by omega
    go_enter Tryd.func11, Tryd.ntmps11
    go_wp2_with fail
    refine HCount.out.mono ?_
    rintro e w1 ⟨rfl, rfl⟩
    go_wp2_with fail
    go_ret2
    exact ⟨none, 0, ⟨rfl, Below.refl _ _⟩, .inl ⟨rfl, rfl, rfl⟩⟩
  · have hb1 : ¬ (9 : Int) < (K : Int) + 1 := by omega
    go_enter Tryd.func11, Tryd.ntmps11
    go_wp2_with fail
    refine HCount.out.mono ?_
    rintro e w1 ⟨rfl, rfl⟩
    go_wp2_with fail
    refine HSplit.out.mono ?_
    rintro e w2 ⟨rfl, rfl⟩
    go_wp2_with fail
    have e1 : (K : Int) + 1 = ((K + 1 : Nat) : Int) := by omega
    rw [e1]
    have hK9 : K + 1 ≤ 9 := by omega
    obtain ⟨N, hN⟩ : ∃ N, K + 1 = N := ⟨_, rfl⟩
    rw [hN] at hK9 ⊢
    have HPN : Hid (ps.length = N) := Lib.hid (HPL.out.trans hN)
    have HLN : Hid ((cutL s.data.toList).length = N) := Lib.hid (HLEN.out.symm.trans hN)
    have hcell : ∀ k p, ps[k]? = some p → ((w1.alloc (.cells (ps.map Value.string).toArray 9)).alloc (.cells #[.slice (some ⟨w1.heap.size, 0, none⟩) N N] 38)).cell? ⟨w1.heap.size, k, none⟩ = some (.string p) := fun k p hp =>
      (World.cell?_alloc_lt _ _ ⟨w1.heap.size, k, none⟩ (by rw [es]; exact Nat.lt_succ_self _)).trans (cells_list w1 ps _ k p hp)
    have bL := Boxed.new (w1.alloc (.cells (ps.map Value.string).toArray 9)) 38 (.slice (some ⟨w1.heap.size, 0, none⟩) N N)
    rw [es] at bL
    have hBV := ((Below.refl w1.heap.size w1).alloc (Nat.le_refl _) (.cells (ps.map Value.string).toArray 9)).alloc (by rw [es]; omega) (.cells #[.slice (some ⟨w1.heap.size, 0, none⟩) N N] 38)
    obtain ⟨V, hV⟩ : ∃ V, (w1.alloc (.cells (ps.map Value.string).toArray 9)).alloc (.cells #[.slice (some ⟨w1.heap.size, 0, none⟩) N N] 38) = V := ⟨_, rfl⟩
    rw [hV] at hcell bL hBV ⊢
    clear hV e1 hN hbig hb1 HSplit HCount HPL HLEN hKs es
    have HCELL := Lib.hid hcell
    have HBL := Lib.hid bL
    have HBV := Lib.hid hBV
    have cL := bL.cell
    have hzV := hBV.size
    have hlL := bL.lt
    clear hcell bL hBV
    go_loop [17] (fun i => ∃ k : Nat, k ≤ N ∧ i = .int .i64 k ∧ Hid (∀ p ∈ ps.take k, ascF 0 N p.data.toList = true)) (fun i => N - (intOf i).toNat)
    case atStart => exact ⟨0, Nat.zero_le _, rfl, fun p hp => by simp at hp⟩
    case round =>
      obtain ⟨k, hk, rfl, HA⟩ := hrel
      have ik0 : (0 : Int) ≤ (k : Int) := Int.natCast_nonneg _
      by_cases hlt : k < N
      · have hkp : k < ps.length := by rw [HPN.out]; exact hlt
        have hck := HCELL.out k _ (List.getElem?_eq_getElem hkp)
        obtain ⟨p, hp⟩ : ∃ p, ps[k]'hkp = p := ⟨_, rfl⟩
        rw [hp] at hck
        have hpm : p.data.toList ∈ cutL s.data.toList := by
          rw [← HSP.out]; exact List.mem_map.2 ⟨p, by rw [← hp]; exact List.getElem_mem hkp, rfl⟩
        have hpz : p.size ≤ 1048576 := by
          have h1 := cut_small hpm
          have h2 : p.data.toList.length = p.size := by simp
          have h3 : s.data.toList.length = s.size := by simp
          omega
        have HT : Hid (ps.take (k + 1) = ps.take k ++ [p]) := Lib.hid (by rw [List.take_add_one, List.getElem?_eq_getElem hkp, hp]; rfl)
        have hlti : (k : Int) < (N : Int) := by omega
        have HPM := Lib.hid hpm
        clear hp hpm hkp
        go_wp2_with fail
        refine (asc_any p N hK9 hpz _).mono ?_
        rintro e w' ⟨rfl, rfl⟩
        by_cases ha : ascF 0 N p.data.toList = true
        · rw [ha]
          go_wp2_with fail
          go_round
          case rel => exact ⟨k + 1, by omega, by go_num, fun x hx => by
            rw [HT.out] at hx
            rcases List.mem_append.1 hx with hx | hx
            · exact HA.out x hx
            · simp at hx; rw [hx]; exact ha⟩
          case measure => simp [intOf]; omega
        · have han : ascF 0 N p.data.toList = false := by simpa using ha
          have hz : rdOk s.data.toList = false := by
            cases h : rdOk s.data.toList with
            | false => rfl
            | true => have := (rdOk_iff.1 h).2 _ HPM.out; rw [HLN.out] at this; exact absurd this ha
          obtain rfl : z = false := by rw [← HZ.out, hz]
          obtain rfl : xs = [] := by rw [← HXS.out, rdL_no hz]
          rw [han]
          clear hz ha han
          go_wp2_with fail
          go_ret2
          exact ⟨none, 0, ⟨rfl, HBV.out⟩, .inl ⟨rfl, rfl, rfl⟩⟩
      · obtain rfl : k = N := by omega
        have hok : rdOk s.data.toList = true := rdOk_iff.2 (by
          rw [HLN.out]
          refine ⟨hK9, fun p hp => ?_⟩
          rw [← HSP.out] at hp
          obtain ⟨q, hq, rfl⟩ := List.mem_map.1 hp
          exact HA.out q (by rw [List.take_of_length_le (by rw [HPN.out]; exact Nat.le_refl _)]; exact hq))
        obtain rfl : z = true := by rw [← HZ.out, hok]
        have hxs : xs = rowsP k (rdP s.data.toList) := by rw [← HXS.out, rdL_yes hok, HLN.out]
        subst hxs
        have HR := Lib.hid (callsIn_wide.1 (rowsBy_in Fence.wide rfl (fun _ => trivial) rfl 30 #[.pointer (some ⟨w1.heap.size + 1, 0, none⟩)] (rdP s.data.toList) k hK9 V (enters_of Tryd.func30 (by kernel_rfl) rfl)
          (fun W' i j hb hi hj => callsIn_wide.2 (read1 s.data.toList (w1.heap.size + 1) w1.heap.size k ps W' HSP.out HPN.out.symm hK9 ((hb.block _ HBL.out.lt).trans HBL.out)
            (fun q p hp => (hb.cell (p := ⟨w1.heap.size, q, none⟩) (by show w1.heap.size < V.heap.size; omega)).trans (HCELL.out q p hp)) (Nat.lt_of_lt_of_le (by omega) hb.size) i j hi hj))))
        clear hok
        go_wp2_with fail
        refine HR.out.mono ?_
        rintro e w3 ⟨rfl, hB4, hO⟩
        have hBZ := HBV.out.trans (hB4.mono hzV)
        have HO := Lib.hid hO
        clear hB4 hO
        go_wp2
        go_ret2
        exact ⟨_, _, ⟨by rw [rowsP_length]; rfl, hBZ⟩, .inr ⟨V.heap.size + 1, fun i => V.heap.size + 3 + i, rfl, (rowsP_length _ _).symm, HO.out, by omega, fun i hi => by show w1.heap.size ≤ V.heap.size + 3 + i; omega, fun i j h => by have h' : V.heap.size + 3 + i = V.heap.size + 3 + j := h; omega⟩⟩

end Go.Proofs.YtnehbpihljbjdabDoor
