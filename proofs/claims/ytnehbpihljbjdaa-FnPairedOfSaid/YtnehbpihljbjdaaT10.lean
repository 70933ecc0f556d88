/-
  Numbers of pairs in a map: impl.numbersOf; impl.PairedOf, walked.
-/
import Derived.Test.YtnehbpihljbjdaaT9
import Derived.Test.YtnehbpihljbjdaaT6
import Derived.Test.YtnehbpihljbjdaaZN
import Derived.Maps.OwnOps
import Derived.Maps.Views
import Derived.DeepKeys4
import Derived.WideKeyPair
namespace Go.Proofs.Ytnehbpihljbjdaa
open Go.RowKit Go.Shelf Go.Deep Go.Maps Go.WideMaps

theorem pairRow : (63 : TypeId) < Try.prog.types.size := of_decide_eq_true (by kernel_rfl)
theorem pairArr : ArrKey Try.prog 63 3 2 := ⟨Try.underlying63, by kernel_rfl, by kernel_rfl, by kernel_rfl⟩
theorem pairWide : (match Try.prog.underlying 63 with | some (.array _ _) | some (.struct _) => true | _ => false) = true := by rw [Try.underlying63]
theorem pairLaid : laidOutB Try.prog = true := by kernel_rfl
theorem pairKeyed : Keyed Try.prog 63 := Keyed.of_law (deep_law_laid pairLaid (m := 2) (by omega) pairRow (by kernel_rfl) pairWide)
theorem typesSome : ∃ m, Try.prog.types.size = m + 1 := by
  have h : (0 : Nat) < Try.prog.types.size := Nat.lt_of_le_of_lt (Nat.zero_le _) pairRow
  exact ⟨Try.prog.types.size - 1, by omega⟩
def pKey (a b : Nat) : Lit := .string (keyBytes [.int .i64 (a : Int), .int .i64 (b : Int)])
theorem pKey_of {a b : Nat} (ha : a ≤ 9) (hb : b ≤ 9) : keyOf Try.prog 63 (.agg #[.int .i64 (a : Int), .int .i64 (b : Int)]) = some (pKey a b) :=
  keyOf_pair pairArr Try.underlying3 typesSome (WalkArith.wf_i64 (by omega)) (WalkArith.wf_i64 (by omega))
theorem pKey_inj {a b a' b' : Nat} (ha : a ≤ 9) (hb : b ≤ 9) (ha' : a' ≤ 9) (hb' : b' ≤ 9) (h : pKey a b = pKey a' b') : a = a' ∧ b = b' := by
  have e := pairKeyed.inj (pKey_of ha hb) (by rw [h]; exact pKey_of ha' hb')
  simp at e
  omega
def numD (m : Nat) : Nat → DataW Unit
  | 0 => .map []
  | t + 1 => (numD m t).put (pKey (t / m) (t % m)) (.lit (.int .i64 (t : Int)))
theorem numD_map (m : Nat) : ∀ t, Go.Maps.IsMap (numD m t)
  | 0 => isMap_empty
  | t + 1 => (numD_map m t).put _ _
theorem numD_at (m : Nat) (z : DataW Unit) : ∀ N t, t < N → N ≤ 9 → (numD m N).atKey (pKey (t / m) (t % m)) z = .lit (.int .i64 (t : Int))
  | 0, t, h, _ => by omega
  | N + 1, t, h, h9 => by
    by_cases e : t = N
    · subst e
      exact atKey_put_same (numD_map m t) (pairKeyed.key (pKey_of (Nat.le_trans (Nat.div_le_self _ _) (by omega)) (Nat.le_trans (Nat.mod_le _ _) (by omega)))) _ _
    · have ht := numD_at m z N t (by omega) (by omega)
      have hne : pKey (t / m) (t % m) ≠ pKey (N / m) (N % m) := fun h' => by
        obtain ⟨h1, h2⟩ := pKey_inj (Nat.le_trans (Nat.div_le_self _ _) (by omega)) (Nat.le_trans (Nat.mod_le _ _) (by omega)) (Nat.le_trans (Nat.div_le_self _ _) (by omega)) (Nat.le_trans (Nat.mod_le _ _) (by omega)) h'
        have e1 := Nat.div_add_mod t m
        have e2 := Nat.div_add_mod N m
        rw [h1, h2] at e1
        omega
      exact (atKey_put_other hne _ _).trans ht
theorem numD_pair {n m p q : Nat} (z : DataW Unit) (hp : p < n) (hq : q < m) (h9 : n * m ≤ 9) : (numD m (n * m)).atKey (pKey p q) z = .lit (.int .i64 ((p * m + q : Nat) : Int)) := by
  have h := numD_at m z (n * m) (p * m + q) (pair_lt hp hq) h9
  rw [pair_div hq, pair_mod hq] at h
  exact h
/-- THE PAIRS' NUMBERS lie in block B. -/
def Numbered (m N B : Nat) (W : World) : Prop := W.ownsMap Try.prog 63 (plainElem Try.prog 3) B N (numD m N)
theorem make_map (k : Int) (w : World) : (Instr.makeMap 74 (some (.int .i64 k))).run Try.prog w = .ok (.map (some w.heap.size)) (w.alloc (.map #[] 0)) := by
  simp [Instr.makeMap, run_underlying Try.underlying74, asInt, asIntOf, Result.andThen]
theorem zeroInt (w : World) : (zeroValue 3).run Try.prog w = .ok (.int .i64 0) w := by kernel_rfl

set_option maxRecDepth 100000 in
set_option maxHeartbeats 4000000 in
theorem numbersOf_any (base g cap n m : Nat) (w : World) (hP : Pairs base n m w g cap) (_hn : base ≤ w.heap.size) (h9 : n * m ≤ 9) :
    Calls Try.prog 66 #[.slice (some ⟨g, 0, none⟩) (n * m) cap] w fun e w' => e = .returned (.map (some w.heap.size)) ∧ Below w.heap.size w w' ∧ Numbered m (n * m) w.heap.size w' := by
  obtain ⟨N, hN⟩ : ∃ N, n * m = N := ⟨_, rfl⟩
  have HP := Lib.hid hP
  rw [hN] at h9 ⊢
  have HN := Lib.hid hN
  clear hN hP
  have hmk := make_map (N : Int) w
  go_enter Try.func66, Try.ntmps66
  go_wp2_with fail
  clear hmk
  go_loopw [11] (fun i wr => ∃ k : Nat, k ≤ N ∧ i = .int .i64 k ∧ Below w.heap.size w wr ∧ Hid (Numbered m k w.heap.size wr)) (fun i _ => N - (intOf i).toNat)
  case atStart => exact ⟨0, Nat.zero_le _, rfl, (Below.refl _ _).alloc (Nat.le_refl _) _, World.ownsMap_made _ _ _ _⟩
  case round =>
    obtain ⟨k, hk, rfl, hB, HR⟩ := hrel
    have hws := hB.size
    by_cases hlt : k < N
    · have hP' : Pairs base n m wr g cap := ownsRow_below ((Joins.ownsRow_le HP.out (Nat.le_refl _))) hB
      obtain ⟨c1, c2⟩ := pairs_cells hP' (z := k) (by rw [HN.out]; exact hlt)
      have hgl := (World.ownsRow.lt hP' g rfl).2
      have hkey := pKey_of (a := k / m) (b := k % m) (Nat.le_trans (Nat.div_le_self _ _) (by omega)) (Nat.le_trans (Nat.mod_le _ _) (by omega))
      have HNX : Hid (numD m (k + 1) = (numD m k).put (pKey (k / m) (k % m)) (.lit (.int .i64 (k : Int)))) := Lib.hid rfl
      generalize pKey (k / m) (k % m) = kl at hkey HNX
      generalize k / m = q at c1 hkey ⊢
      generalize k % m = r at c2 hkey ⊢
      have HKE := Lib.hid hkey
      clear hP' hkey
      go_wp2_with (at_mapUpdate; go_must (refine wpList_mapUpdate_own _ rfl _ _ _ 74 rfl 63 3 pairKeyed Try.underlying74 (plainElem Try.prog 3) w.heap.size k (numD m k) rfl (World.ownsMap.alloc HR.out _) (by unfold maxLen; omega) _ _ kl rfl rfl HKE.out _ [] (plainElem_int Try.underlying3 (WalkArith.wf_i64 (by omega))) ?_); go_must (intro w1 hown1 hgrow1; have hB1 : Below w.heap.size w w1 := (hB.alloc hws _).grown hgrow1 (by simp; omega) (fun j hj => by cases hj; exact Nat.le_refl _); have HO1 := Lib.hid hown1; clear hown1 hgrow1))
      go_roundw
      case rel => exact ⟨k + 1, by omega, by go_num, hB1, Lib.hid (by unfold Numbered; rw [HNX.out]; exact HO1.out)⟩
      case measure => simp [intOf]; omega
    · obtain rfl : k = N := by omega
      go_wp2_with fail
      go_ret
      exact ⟨rfl, hB, HR.out⟩

theorem Numbered.below {m N B : Nat} {W W' : World} (h : Numbered m N B W) (hb : Below W.heap.size W W') : Numbered m N B W' := by
  have hlt := World.ownsMap.lt h
  obtain ⟨es, clock, h1, F, h2, h3⟩ := h
  exact ⟨es, clock, (hb.block B hlt).trans h1, F, h2, h3⟩
theorem Numbered.look {n m B p q : Nat} {W : World} (h : Numbered m (n * m) B W) (hp : p < n) (hq : q < m) (h9 : n * m ≤ 9) :
    (Instr.lookup 74 (.map (some B)) (.agg #[.int .i64 (p : Int), .int .i64 (q : Int)]) false).run Try.prog W = .ok (.int .i64 ((p * m + q : Nat) : Int)) W := by
  have hm0 : 1 ≤ m := by omega
  have hn0 : 1 ≤ n := by omega
  have hp9 : p ≤ 9 := Nat.le_trans (Nat.le_of_lt hp) (Nat.le_trans (Nat.le_mul_of_pos_right n hm0) h9)
  have hq9 : q ≤ 9 := Nat.le_trans (Nat.le_of_lt hq) (Nat.le_trans (Nat.le_mul_of_pos_left m hn0) h9)
  obtain ⟨c, hrun, hat, _⟩ := World.ownsMap.lookup_int h pairKeyed Try.underlying74 Try.underlying3 (zeroInt W) (pKey_of hp9 hq9)
  rw [numD_pair _ hp hq h9] at hat
  have e : ((p * m + q : Nat) : Int) = c := by simpa using hat
  rw [e]
  exact hrun

set_option maxRecDepth 100000 in
set_option maxHeartbeats 4000000 in
theorem implPaired (a a' a'' a3 a4 : Option Addr) (c c' c'' c3 c4 : Nat) (K G H : List (List Int)) (f e : List Int) (w : World) (hM : Mat w.heap.size w a K) (hM' : Mat w.heap.size w a' G) (hM'' : Mat w.heap.size w a'' H) (hI : Ints w.heap.size w a3 f) (hI' : Ints w.heap.size w a4 e)
    (hf : Fit K) (hf' : Fit G) (hf'' : Fit H) (hl : f.length ≤ 1048576) (hl' : e.length ≤ 1048576) :
    Calls Try.prog 29 #[.slice a K.length c, .slice a' G.length c', .slice a'' H.length c'', .slice a3 f.length c3, .slice a4 e.length c4] w (MadeI (paiI K G H f e) w) := by
  have hTim := timesOk_any a' a'' c' c'' G H w hM' hM'' hf' hf''
  have HF := Lib.hid hf
  have HF' := Lib.hid hf'
  have HF'' := Lib.hid hf''
  obtain ⟨o, ho⟩ : ∃ o, timOk G H = o := ⟨_, rfl⟩
  obtain ⟨x, hx⟩ : ∃ x, mapOkI K G f = x := ⟨_, rfl⟩
  obtain ⟨y, hy⟩ : ∃ y, mapOkI K H e = y := ⟨_, rfl⟩
  have HO := Lib.hid ho
  have HX := Lib.hid hx
  have HY := Lib.hid hy
  obtain ⟨zs, HZ⟩ : ∃ zs, Hid (paiI K G H f e = zs) := ⟨_, rfl⟩
  rw [ho] at hTim
  rw [HZ.out]
  have HTim := Lib.hid hTim
  clear hx hy hTim ho hf hf' hf''
  go_enter Try.func29, Try.ntmps29
  go_wp2_with fail
  refine HTim.out.mono ?_
  rintro ee w1 ⟨rfl, hB1⟩
  have hz1 := hB1.size
  have hM1 := (hM.below hB1).more hz1
  have hM1' := (hM'.below hB1).more hz1
  have hM1'' := (hM''.below hB1).more hz1
  have hI1 := (hI.below hB1).more hz1
  have hI1' := (hI'.below hB1).more hz1
  clear hM hM' hM'' hI hI'
  cases o with
  | false =>
    have h0 : zs = [] := HZ.out.symm.trans (paiI_no fun h => by have h1 := h.1; rw [HO.out] at h1; cases h1)
    subst h0
    go_wp2_with fail
    go_ret
    exact ⟨none, 0, ⟨rfl, hB1⟩, .inl ⟨rfl, rfl, rfl⟩⟩
  | true =>
    go_wp2_with fail
    refine (implMapOk _ _ _ _ _ _ _ _ _ _ hM1 hM1' hI1 HF.out HF'.out hl).mono ?_
    rw [HX.out]
    rintro ee w2 ⟨rfl, hB2⟩
    have hB02 := hB1.trans (hB2.mono hz1)
    have hz12 := hB2.size
    have hM2 := (hM1.below hB2).more hz12
    have hM2'' := (hM1''.below hB2).more hz12
    have hI2 := (hI1.below hB2).more hz12
    have hI2' := (hI1'.below hB2).more hz12
    have hz2 := hB02.size
    clear hM1 hM1' hM1'' hI1 hI1' hB2 hB1
    cases x with
    | false =>
      have h0 : zs = [] := HZ.out.symm.trans (paiI_no fun h => by have h1 := h.2.1; rw [HX.out] at h1; cases h1)
      subst h0
      go_wp2_with fail
      go_ret
      exact ⟨none, 0, ⟨rfl, hB02⟩, .inl ⟨rfl, rfl, rfl⟩⟩
    | true =>
      go_wp2_with fail
      refine (implMapOk _ _ _ _ _ _ _ _ _ _ hM2 hM2'' hI2' HF.out HF''.out hl').mono ?_
      rw [HY.out]
      rintro ee w3 ⟨rfl, hB3⟩
      have hB03 := hB02.trans (hB3.mono hz2)
      have hz23 := hB3.size
      have hI3 := (hI2.below hB3).more hz23
      have hI3' := (hI2'.below hB3).more hz23
      have hz3 := hB03.size
      clear hM2 hM2'' hI2 hI2' hB3 hB02
      cases y with
      | false =>
        have h0 : zs = [] := HZ.out.symm.trans (paiI_no fun h => by have h1 := h.2.2; rw [HY.out] at h1; cases h1)
        subst h0
        go_wp2_with fail
        go_ret
        exact ⟨none, 0, ⟨rfl, hB03⟩, .inl ⟨rfl, rfl, rfl⟩⟩
      | true =>
        obtain ⟨hs1, hs2, hs3, hs4⟩ := pai_small HX.out HY.out
        obtain ⟨hGG, hHH, h9⟩ := timOk_of HO.out
        have hzs : zs = paiL H.length f e := HZ.out.symm.trans (paiI_yes ⟨HO.out, HX.out, HY.out⟩)
        have hL : zs.length = K.length := by rw [hzs, paiL_length, hs3]
        have HZS := Lib.hid hzs
        have HLZ := Lib.hid hL
        have HS2 := Lib.hid hs2
        have HS3 := Lib.hid hs3
        have HGP := Lib.hid hGG.1
        have HHP := Lib.hid hHH.1
        have hH9 := hHH.2.1
        obtain ⟨L, hLL⟩ : ∃ L, K.length = L := ⟨_, rfl⟩
        have HLL := Lib.hid hLL
        have hL9 : L ≤ 9 := by omega
        clear hs1 hs2 hs3 hs4 hGG hHH hzs hL hLL
        go_wp2_with fail
        refine (pairsWith_any a' a'' G.length H.length c' c'' w3 HGP.out HHP.out h9).mono ?_
        rintro ee w4 ⟨g, cap, rfl, hB4, hP⟩
        have hz4 := hB4.size
        have hI4 := (hI3.below hB4).more hz4
        have hI4' := (hI3'.below hB4).more hz4
        have hB04 := hB03.trans (hB4.mono hz3)
        clear hB4 hB03 hI3 hI3'
        go_wp2_with fail
        refine (numbersOf_any w3.heap.size g cap G.length H.length w4 hP hz4 h9).mono ?_
        rintro ee w5 ⟨rfl, hB5, hN5⟩
        have hz5 := hB5.size
        have hI5 := (hI4.below hB5).more hz5
        have hI5' := (hI4'.below hB5).more hz5
        have hz04 := hB04.size
        have HB5 := Lib.hid (hB04.trans (hB5.mono hz04))
        have hz05 := HB5.out.size
        have HN5 := Lib.hid hN5
        have hlt5 := World.ownsMap.lt hN5
        obtain ⟨B, hB⟩ : ∃ B, w4.heap.size = B := ⟨_, rfl⟩
        rw [hB] at HN5 hlt5 ⊢
        clear hP hB5 hB04 hI4 hI4' hN5 hz5 hz4 hz04 hB
        have hmk := run_make_row' (P := Try.prog) 37 3 (.int .i64 0) 8 Try.underlying37 infoInt rfl .i64 .i64 L (by omega) (by omega)
        rw [HLL.out]
        go_wp2_with fail
        clear hmk
        have HZL : Hid (zs.length = L) := Lib.hid (HLZ.out.trans HLL.out)
        go_loopw [43] (fun i wr => ∃ k : Nat, k ≤ L ∧ i = .int .i64 k ∧ Below w5.heap.size w5 wr ∧ Hid (wr.rowIs w5.heap.size 3 zs.length (fun j => .int .i64 (if j < k then zs[j]?.getD 0 else 0))))
          (fun i _ => L - (intOf i).toNat)
        case atStart =>
          refine ⟨0, Nat.zero_le _, rfl, (Below.refl _ _).alloc (Nat.le_refl _) _, ?_⟩
          have h := copyS_start w5 zs
          rw [HZL.out] at h ⊢
          exact h
        case round =>
          obtain ⟨k, hk, rfl, hB, HR⟩ := hrel
          by_cases hlt : k < L
          · have hLf : f.length = L := HS3.out.trans HLL.out
            have hLe : e.length = L := HS2.out.trans hLf
            obtain ⟨⟨_, _⟩, hm1⟩ := mapOk_iff.1 HX.out
            obtain ⟨⟨_, _⟩, hm2⟩ := mapOk_iff.1 HY.out
            obtain ⟨p, hp, enp, hpG⟩ := tells_at hm1.1 (j := k) (by rw [HLL.out]; exact hlt)
            obtain ⟨q, hq, enq, hqH⟩ := tells_at hm2.1 (j := k) (by rw [HLL.out]; exact hlt)
            have hr1 := (Numbered.below HN5.out hB).look hpG hqH h9
            have hr2 : (Instr.lookup 74 (.map (some B)) (.agg #[.int .i64 (p : Int), .int .i64 (q : Int)]) false).run Try.prog wr.drew = .ok (.int .i64 ((p * H.length + q : Nat) : Int)) wr.drew := (show Numbered H.length (G.length * H.length) B wr.drew from Numbered.below HN5.out hB.drew).look hpG hqH h9
            have HZk : Hid (zs[k]? = some ((p * H.length + q : Nat) : Int)) := Lib.hid (by rw [HZS.out, paiL_get (by rw [hLf]; exact hlt), enp, enq])
            generalize p * H.length + q = z at hr1 hr2 HZk
            obtain ⟨b, o1, v, rfl, hb, hc, HV⟩ := (hI5.below hB).at_ (k := k) (by rw [hLf]; exact hlt)
            have ev : v = (p : Int) := by have := HV.out; rw [hp] at this; cases this; rfl
            subst ev
            obtain ⟨b2, o2, u, rfl, hb2, hc2, HU⟩ := (hI5'.below hB).at_ (k := k) (by rw [hLe]; exact hlt)
            have eu : u = (q : Int) := by have := HU.out; rw [hq] at this; cases this; rfl
            subst eu
            have hkz : k < zs.length := by rw [HZL.out]; exact hlt
            have hc3 := HR.out.cell hkz
            have hf3 := HR.out.frozen k
            have hle1 : ((k : Nat) : Int) < (f.length : Int) := by omega
            have hle2 : ((k : Nat) : Int) < (e.length : Int) := by omega
            have hle3 : ((k : Nat) : Int) < (L : Int) := by omega
            have hlb := World.rowIs.lt HR.out
            have ik0 : (0 : Int) ≤ (k : Int) := Int.natCast_nonneg _
            clear hm1 hm2 hp enp hq enq HV HU hpG hqH hLf hLe hkz
            go_wp2_with fail
            go_still_tail 14, (by kernel_rfl)
            go_wp2_with fail
            go_roundw
            case rel => exact ⟨k + 1, by omega, by go_num, hB.drew.setCell (p := ⟨w5.heap.size, k, none⟩) (Nat.le_refl _) _, Lib.hid (copyS_step HR.out HZk.out)⟩
            case measure => simp [intOf]; omega
          · obtain rfl : k = L := by omega
            have HR2 : Hid (RowI wr w5.heap.size zs) := Lib.hid (copyS_done (by have h := HR.out; rw [← HZL.out] at h; exact h))
            have hB0 := HB5.out.trans (hB.mono hz05)
            go_wp2_with fail
            go_ret
            exact ⟨some ⟨w5.heap.size, 0, none⟩, k, ⟨by rw [HZL.out]; rfl, hB0⟩, .inr ⟨w5.heap.size, rfl, by rw [HZL.out], HR2.out, hz05⟩⟩

end Go.Proofs.Ytnehbpihljbjdaa
