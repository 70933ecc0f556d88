/-
  spec.LoweredOf, walked.
-/
import Derived.Test.YtjcoilabmbmbkaaY6
import Derived.Test.YtjcoilabmbmbkaaYA
import Derived.Test.YtjcoilabmbmbkaaYU
import Derived.Test.YtjcoilabmbmbkaaT5
import Derived.Test.YtjcoilabmbmbkaaJ5
namespace Go.Proofs.Ytjcoilabmbmbkaa
open Go.RowKit Go.Shelf Go.Deep

set_option maxRecDepth 100000 in
set_option maxHeartbeats 4000000 in
theorem specLowered (a a' a'' a3 : Option Addr) (c c' c'' c3 : Nat) (K G H : List (List Int)) (f : List Int) (n₀ : Nat) (w : World) (hM : Mat n₀ w a K) (hM' : Mat n₀ w a' G) (hM'' : Mat n₀ w a'' H) (hI : Ints n₀ w a3 f) (hn : n₀ ≤ w.heap.size)
    (hf : Fit K) (hf' : Fit G) (hf'' : Fit H) (hl : f.length ≤ 1048576) :
    Calls Try.prog 35 #[.slice a K.length c, .slice a' G.length c', .slice a'' H.length c'', .slice a3 f.length c3] w (ReadI (lowI K G H f) w) := by
  obtain ⟨i1, hj, hy0, hy1, hy2⟩ := info_parts infoInt
  have hB0 : Below w.heap.size w (w.alloc (.cells #[] 3)) := (Below.refl _ _).alloc (Nat.le_refl _) _
  have hS1 := specPow a'' a' c'' c' H G n₀ (w.alloc (.cells #[] 3)) (hM''.below (hB0.mono hn)) (hM'.below (hB0.mono hn)) (Nat.le_trans hn hB0.size) hf'' hf'
  have HS2 : Hid (∀ W, Below w.heap.size w W → Calls Try.prog 20 #[.slice a K.length c, .slice a' G.length c'] W (ReadB (timL K G) (timOk K G) W)) := Lib.hid fun W hW => specTimes a a' c c' K G n₀ W (hM.below (hW.mono hn)) (hM'.below (hW.mono hn)) (Nat.le_trans hn hW.size) hf hf'
  have hown0 : (w.alloc (.cells #[] 3)).ownsRow w.heap.size 3 1 (.slice (some ⟨w.heap.size, 0, none⟩) 0 0) 0 [] := World.ownsRow_lit (size := 1) w #[] 0 (Nat.le_refl _) (Nat.zero_le _) rfl
  have HOW0 := Lib.hid hown0
  have HB0 := Lib.hid hB0
  have HF := Lib.hid hf
  have hlK := hf.1
  have hlG := hf'.1
  have hlH := hf''.1
  have HTF : Hid (Fit (powL H G)) := Lib.hid pow_fit
  have htl := HTF.out.1
  clear hf hf' hf'' hown0 hB0 hM' hM''
  obtain ⟨o, ho⟩ : ∃ o, timOk K G = o := ⟨_, rfl⟩
  obtain ⟨p, hp⟩ : ∃ p, powOk H G = p := ⟨_, rfl⟩
  obtain ⟨x, hx⟩ : ∃ x, mapOkI K (powL H G) f = x := ⟨_, rfl⟩
  obtain ⟨zs, HZ⟩ : ∃ zs, Hid (lowI K G H f = zs) := ⟨_, rfl⟩
  rw [HZ.out]
  have HZN : Hid (¬ (o = true ∧ p = true ∧ x = true) → zs = []) := Lib.hid fun h => by rw [← HZ.out]; exact lowI_no (by rw [ho, hp, hx]; exact h)
  have HZY : Hid (o = true ∧ p = true ∧ x = true → zs = lowL H.length G.length f) := Lib.hid fun h => by rw [← HZ.out]; exact lowI_yes (by rw [ho, hp, hx]; exact h)
  have HK0 : Hid (o = true → Good K ∧ Good G ∧ K.length * G.length ≤ 9) := Lib.hid fun h => timOk_of (ho.trans h)
  have HH0 : Hid (p = true → Good H ∧ Good G ∧ H.length ^ G.length ≤ 9) := Lib.hid fun h => powOk_of (hp.trans h)
  have HTE : Hid (p = true → x = true → Tells K.length (H.length ^ G.length) f) := Lib.hid fun h h' => by
    have h2 := (mapOk_iff.1 (hx.trans h')).2.1
    rw [pow_length (hp.trans h)] at h2
    exact h2
  rw [ho] at HS2
  rw [hp] at hS1
  have HX := Lib.hid hx
  obtain ⟨T, hT⟩ : ∃ T, powL H G = T := ⟨_, rfl⟩
  rw [hT] at hS1 HX HTF htl
  have HS1 := Lib.hid hS1
  have hone : ∀ (zs : List Int), ∀ u ∈ zs.map (Value.int .i64), u.oneCell' = true := fun zs u hu => by obtain ⟨x, _, rfl⟩ := List.mem_map.1 hu; rfl
  have HONE := Lib.hid hone
  clear hx ho hp hT hS1 HZ hone
  go_enter Try.func35, Try.ntmps35
  go_wp2_with fail
  refine HS1.out.mono ?_
  rintro ee w2 ⟨b2, d2, ⟨rfl, hB2⟩, hT2⟩
  have hB02 := HB0.out.trans (hB2.mono HB0.out.size)
  have HO2 := Lib.hid (ownsRow_below HOW0.out hB2)
  have hz2 := hB02.size
  go_wp2_with fail
  refine (HS2.out _ hB02).mono ?_
  rintro ee w3 ⟨b3, d3, ⟨rfl, hB3⟩, -⟩
  have HO3 := Lib.hid (ownsRow_below HO2.out hB3)
  have HB3 := Lib.hid (hB02.trans (hB3.mono hz2))
  have hz23 := hB3.size
  have hT3 := (hT2.below hB3).more hz23
  have hz3 := HB3.out.size
  have hM3 := (hM.below (HB3.out.mono hn)).more (Nat.le_trans hn hz3)
  have hI3 := (hI.below (HB3.out.mono hn)).more (Nat.le_trans hn hz3)
  clear hB2 hB3 hB02 hT2 hz2 HO2 hM hI hz23
  go_wp2_with fail
  go_loopw [9, 14] (fun v i wr => ∃ (k s g cap : Nat), k ≤ K.length ∧ i = .int .i64 k ∧ v = .slice (some ⟨g, 0, none⟩) s cap ∧ Hid (s = k * G.length) ∧ Hid (wr.ownsRow w.heap.size 3 1 (.slice (some ⟨g, 0, none⟩) s cap) s ((lowL H.length G.length (f.take k)).map (Value.int .i64))) ∧ Hid (w3.heap.size ≤ g ∨ cap ≤ s) ∧ Below w3.heap.size w3 wr ∧ Hid (k = 0 ∨ (o = true ∧ p = true ∧ x = true)))
    (fun _ i _ => K.length - (intOf i).toNat)
  case atStart => exact ⟨0, 0, _, _, Nat.zero_le _, rfl, rfl, Lib.hid (Nat.zero_mul _).symm, HO3, Lib.hid (.inr (Nat.le_refl _)), Below.refl _ _, Lib.hid (.inl rfl)⟩
  case round =>
    obtain ⟨k, s, g, cap, hk, rfl, rfl, HS, HO, HG, hB, HK⟩ := hrel
    clear HO3
    have hws := hB.size
    by_cases hlt : k < K.length
    · cases o with
      | false =>
        have hk0 : k = 0 := by rcases HK.out with h | h; exact h; cases h.1
        have hs0 : s = 0 := by rw [HS.out, hk0, Nat.zero_mul]
        have h0 : zs = [] := HZN.out fun h => by cases h.1
        subst h0
        go_wp2_with fail
        go_ret
        exact ⟨some ⟨g, 0, none⟩, cap, ⟨by rfl, HB3.out.trans (hB.mono hz3)⟩, fun h => absurd (by rfl) h⟩
      | true =>
        cases p with
        | false =>
          have hk0 : k = 0 := by rcases HK.out with h | h; exact h; cases h.2.1
          have hs0 : s = 0 := by rw [HS.out, hk0, Nat.zero_mul]
          have h0 : zs = [] := HZN.out fun h => by cases h.2.1
          subst h0
          go_wp2_with fail
          go_ret
          exact ⟨some ⟨g, 0, none⟩, cap, ⟨by rfl, HB3.out.trans (hB.mono hz3)⟩, fun h => absurd (by rfl) h⟩
        | true =>
          have hTr := hT3.below hB
          have hMr := hM3.below hB
          have hIr := hI3.below hB
          go_wp2_with fail
          refine (specMapOk _ _ _ _ _ _ _ _ _ _ _ hMr hTr hIr HF.out HTF.out hl).mono ?_
          rw [HX.out]
          rintro ee w1 h1
          obtain ⟨rfl, hB1⟩ := h1.below
          have hBw := hB.trans (hB1.mono hws)
          have HO1 : Hid (w1.ownsRow w.heap.size 3 1 (.slice (some ⟨g, 0, none⟩) s cap) s ((lowL H.length G.length (f.take k)).map (Value.int .i64))) := Lib.hid (ownsRow_below HO.out hB1)
          have hI1 := hI3.below hBw
          clear h1 hB1 hTr hMr hIr HO hB hT3 hM3 hI3
          cases x with
          | false =>
            have hk0 : k = 0 := by rcases HK.out with h | h; exact h; cases h.2.2
            have hs0 : s = 0 := by rw [HS.out, hk0, Nat.zero_mul]
            have h0 : zs = [] := HZN.out fun h => by cases h.2.2
            subst h0
            go_wp2_with fail
            go_ret
            exact ⟨some ⟨g, 0, none⟩, cap, ⟨by rfl, HB3.out.trans (hBw.mono hz3)⟩, fun h => absurd (by rfl) h⟩
          | true =>
            obtain ⟨hKK, hGG, h9⟩ := HK0.out (by trivial)
            obtain ⟨hHH, _, hp9⟩ := HH0.out (by trivial)
            have HT := Lib.hid (HTE.out (by trivial) (by trivial))
            obtain ⟨y, hy, _, hyM⟩ := tells_at HT.out hlt
            obtain ⟨b, o1, u, rfl, hb, hc, HU⟩ := hI1.at_ (k := k) (by rw [HT.out.1]; exact hlt)
            have eu : u = (y : Int) := by have := HU.out; rw [hy] at this; cases this; rfl
            subst eu
            have hx9 := hGG.2.1
            have hx1 := hGG.1
            have hk9 := hKK.2.1
            have hm1 := hHH.1
            have hm9 := hHH.2.1
            have hs81 : s ≤ 81 := by rw [HS.out]; exact Nat.mul_le_mul (show k ≤ 9 by omega) hx9
            have hkf : k < f.length := by rw [HT.out.1]; exact hlt
            have HNX : Hid (lowL H.length G.length (f.take (k + 1)) = lowL H.length G.length (f.take k) ++ rowR H.length G.length y) := Lib.hid (by rw [lowL_next hy, Int.toNat_natCast])
            have HRL := Lib.hid (rowR_length H.length G.length y)
            have hy9 : y ≤ 9 := by omega
            clear hKK hGG hHH h9 hp9 hy HU
            go_wp2_with fail
            refine (specRow y G.length H.length w1 (by omega) hx9 hm1 hm9).mono ?_
            rintro ee w4 ⟨rfl, hB4, hR4⟩
            have hz1 := hBw.size
            have hBX := hBw.trans (hB4.mono hz1)
            have hown := ownsRow_below HO1.out hB4
            have hII := hR4.ints hR4.lt
            have hzX := hBX.size
            have hl4 := hR4.lt
            obtain ⟨rs, hrs⟩ : ∃ rs, rowR H.length G.length y = rs := ⟨_, rfl⟩
            rw [hrs] at hII HNX HRL
            have HNW := Lib.hid (ints_news hII)
            clear hB4 hR4 hrs hII
            go_wp2_with (at_builtin; go_must (refine wpList_append_up rfl _ _ 30 rfl w.heap.size w3.heap.size 3 i1 (.int .i64 0) 1 8 Try.underlying30 hj hy0 hy1 hy2 rfl (by decide) g s cap _ rfl hown HG.out hz3 hzX ⟨w1.heap.size, 0, none⟩ G.length G.length (rs.map (Value.int .i64)) rfl (by simp [HRL.out]) HNW.out (HONE.out rs) (by unfold maxLen; omega) (by omega) (by omega) ?_); go_must (intro g2 cap2 wz hown' hg2 hbz; have HO4 := Lib.hid hown'; have hB5 : Below w3.heap.size w3 wz := hBX.trans hbz; clear hown' hbz hown))
            go_roundw
            case rel => exact ⟨k + 1, s + G.length, g2, cap2, by omega, by go_num, rfl, Lib.hid (by rw [HS.out, Nat.succ_mul]), Lib.hid (by rw [HNX.out, List.map_append]; exact HO4.out), Lib.hid (.inl hg2), hB5, Lib.hid (.inr ⟨trivial, trivial, trivial⟩)⟩
            case measure => simp [intOf]; omega
    · obtain rfl : k = K.length := by omega
      have HL9 : Hid (zs.length = s ∧ lowL H.length G.length (f.take K.length) = zs) := Lib.hid (by
        rcases HK.out with h | h
        · rw [HZN.out fun hh => by have := (HK0.out hh.1).1.1; omega, HS.out, h, Nat.zero_mul]; exact ⟨rfl, by simp [lowL]⟩
        · have hfl := (HTE.out h.2.1 h.2.2).1
          rw [HZY.out h, lowL_length, HS.out, hfl]
          exact ⟨rfl, by rw [List.take_of_length_le (by omega)]⟩)
      go_wp2_with fail
      go_ret
      refine ⟨some ⟨g, 0, none⟩, cap, ⟨by rw [HL9.out.1]; rfl, HB3.out.trans (hB.mono hz3)⟩, ?_⟩
      have h := HO.out
      rw [HL9.out.2, ← HL9.out.1] at h
      obtain ⟨aa, cc, ee, hII⟩ := own_ints h
      cases ee
      exact hII

end Go.Proofs.Ytjcoilabmbmbkaa
