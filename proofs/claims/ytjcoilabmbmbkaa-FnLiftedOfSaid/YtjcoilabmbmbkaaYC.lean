/-
  spec.LiftedOf, walked.
-/
import Derived.Test.YtjcoilabmbmbkaaY6
import Derived.Test.YtjcoilabmbmbkaaYA
import Derived.Test.YtjcoilabmbmbkaaYU
import Derived.Test.YtjcoilabmbmbkaaT5
namespace Go.Proofs.Ytjcoilabmbmbkaa
open Go.RowKit Go.Shelf Go.Deep

set_option maxRecDepth 100000 in
set_option maxHeartbeats 4000000 in
theorem specLifted (a a' a'' a3 : Option Addr) (c c' c'' c3 : Nat) (K G H : List (List Int)) (f : List Int) (n₀ : Nat) (w : World) (hM : Mat n₀ w a K) (hM' : Mat n₀ w a' G) (hM'' : Mat n₀ w a'' H) (hI : Ints n₀ w a3 f) (hn : n₀ ≤ w.heap.size)
    (hf : Fit K) (hf' : Fit G) (hf'' : Fit H) (hl : f.length ≤ 1048576) :
    Calls Try.prog 32 #[.slice a K.length c, .slice a' G.length c', .slice a'' H.length c'', .slice a3 f.length c3] w (ReadI (lifI K G H f) w) := by
  obtain ⟨i1, hj, hy0, hy1, hy2⟩ := info_parts infoInt
  have hB0 : Below w.heap.size w (w.alloc (.cells #[] 3)) := (Below.refl _ _).alloc (Nat.le_refl _) _
  have hS1 := specTimes a a' c c' K G n₀ (w.alloc (.cells #[] 3)) (hM.below (hB0.mono hn)) (hM'.below (hB0.mono hn)) (Nat.le_trans hn hB0.size) hf hf'
  have HS2 : Hid (∀ W, Below w.heap.size w W → Calls Try.prog 15 #[.slice a'' H.length c'', .slice a' G.length c'] W (ReadB (powL H G) (powOk H G) W)) := Lib.hid fun W hW => specPow a'' a' c'' c' H G n₀ W (hM''.below (hW.mono hn)) (hM'.below (hW.mono hn)) (Nat.le_trans hn hW.size) hf'' hf'
  have hown0 : (w.alloc (.cells #[] 3)).ownsRow w.heap.size 3 1 (.slice (some ⟨w.heap.size, 0, none⟩) 0 0) 0 [] := World.ownsRow_lit (size := 1) w #[] 0 (Nat.le_refl _) (Nat.zero_le _) rfl
  have HOW0 := Lib.hid hown0
  have HB0 := Lib.hid hB0
  have HF'' := Lib.hid hf''
  have hlK := hf.1
  have hlG := hf'.1
  have hlH := hf''.1
  have HTF : Hid (Fit (timL K G)) := Lib.hid tim_fit
  have htl := HTF.out.1
  clear hf hf' hf'' hown0 hB0 hM hM'
  obtain ⟨o, ho⟩ : ∃ o, timOk K G = o := ⟨_, rfl⟩
  obtain ⟨p, hp⟩ : ∃ p, powOk H G = p := ⟨_, rfl⟩
  obtain ⟨x, hx⟩ : ∃ x, mapOkI (timL K G) H f = x := ⟨_, rfl⟩
  obtain ⟨zs, HZ⟩ : ∃ zs, Hid (lifI K G H f = zs) := ⟨_, rfl⟩
  rw [HZ.out]
  have HZN : Hid (¬ (o = true ∧ p = true ∧ x = true) → zs = []) := Lib.hid fun h => by rw [← HZ.out]; exact lifI_no (by rw [ho, hp, hx]; exact h)
  have HZY : Hid (o = true ∧ p = true ∧ x = true → zs = liftL H.length G.length K.length f) := Lib.hid fun h => by rw [← HZ.out]; exact lifI_yes (by rw [ho, hp, hx]; exact h)
  have HK0 : Hid (o = true → Good K ∧ Good G ∧ K.length * G.length ≤ 9) := Lib.hid fun h => timOk_of (ho.trans h)
  have HH0 : Hid (p = true → Good H ∧ Good G ∧ H.length ^ G.length ≤ 9) := Lib.hid fun h => powOk_of (hp.trans h)
  have HTE : Hid (o = true → x = true → Tells (K.length * G.length) H.length f) := Lib.hid fun h h' => by
    have h2 := (mapOk_iff.1 (hx.trans h')).2.1
    rw [tim_length (ho.trans h)] at h2
    exact h2
  rw [ho] at hS1
  rw [hp] at HS2
  have HX := Lib.hid hx
  obtain ⟨T, hT⟩ : ∃ T, timL K G = T := ⟨_, rfl⟩
  rw [hT] at hS1 HX HTF htl
  have HS1 := Lib.hid hS1
  clear hx ho hp hT hS1 HZ
  go_enter Try.func32, Try.ntmps32
  go_wp2_with fail
  refine HS1.out.mono ?_
  rintro ee w2 ⟨b2, d2, ⟨rfl, hB2⟩, hT2⟩
  have hB02 := HB0.out.trans (hB2.mono HB0.out.size)
  have HO2 := Lib.hid (ownsRow_below HOW0.out hB2)
  have hz2 := hB02.size
  go_wp2_with fail
  refine (HS2.out _ hB02).mono ?_
  rintro ee w3 ⟨b3, d3, ⟨rfl, hB3⟩, -⟩
  have HO3 := Lib.hid (ownsRow_below HO2.out hB3)
  have HB3 := Lib.hid (hB02.trans (hB3.mono hz2))
  have hz23 := hB3.size
  have hT3 := (hT2.below hB3).more hz23
  have hz3 := HB3.out.size
  have hM3 := (hM''.below (HB3.out.mono hn)).more (Nat.le_trans hn hz3)
  have hI3 := (hI.below (HB3.out.mono hn)).more (Nat.le_trans hn hz3)
  clear hB2 hB3 hB02 hT2 hz2 HO2 hM'' hI hz23
  go_wp2_with fail
  go_loopw [9, 14] (fun v i wr => ∃ (k g cap : Nat), k ≤ K.length ∧ i = .int .i64 k ∧ v = .slice (some ⟨g, 0, none⟩) k cap ∧ Hid (wr.ownsRow w.heap.size 3 1 (.slice (some ⟨g, 0, none⟩) k cap) k ((zs.take k).map (Value.int .i64))) ∧ Hid (w3.heap.size ≤ g ∨ cap ≤ k) ∧ Below w3.heap.size w3 wr ∧ Hid (k = 0 ∨ (o = true ∧ p = true ∧ x = true)))
    (fun _ i _ => K.length - (intOf i).toNat)
  case atStart => exact ⟨0, _, _, Nat.zero_le _, rfl, rfl, HO3, Lib.hid (.inr (Nat.le_refl _)), Below.refl _ _, Lib.hid (.inl rfl)⟩
  case round =>
    obtain ⟨k, g, cap, hk, rfl, rfl, HO, HG, hB, HK⟩ := hrel
    clear HO3
    have hws := hB.size
    by_cases hlt : k < K.length
    · cases o with
      | false =>
        have hk0 : k = 0 := by rcases HK.out with h | h; exact h; cases h.1
        have h0 : zs = [] := HZN.out fun h => by cases h.1
        subst h0
        go_wp2_with fail
        go_ret
        exact ⟨some ⟨g, 0, none⟩, cap, ⟨by rfl, HB3.out.trans (hB.mono hz3)⟩, fun h => absurd (by rfl) h⟩
      | true =>
        cases p with
        | false =>
          have hk0 : k = 0 := by rcases HK.out with h | h; exact h; cases h.2.1
          have h0 : zs = [] := HZN.out fun h => by cases h.2.1
          subst h0
          go_wp2_with fail
          go_ret
          exact ⟨some ⟨g, 0, none⟩, cap, ⟨by rfl, HB3.out.trans (hB.mono hz3)⟩, fun h => absurd (by rfl) h⟩
        | true =>
          have hTr := hT3.below hB
          have hMr := hM3.below hB
          have hIr := hI3.below hB
          go_wp2_with fail
          refine (specMapOk _ _ _ _ _ _ _ _ _ _ _ hTr hMr hIr HTF.out HF''.out hl).mono ?_
          rw [HX.out]
          rintro ee w1 h1
          obtain ⟨rfl, hB1⟩ := h1.below
          have hBw := hB.trans (hB1.mono hws)
          have HO1 : Hid (w1.ownsRow w.heap.size 3 1 (.slice (some ⟨g, 0, none⟩) k cap) k ((zs.take k).map (Value.int .i64))) := Lib.hid (ownsRow_below HO.out hB1)
          have hI1 := hI3.below hBw
          clear h1 hB1 hTr hMr hIr HO hB hT3 hM3 hI3
          cases x with
          | false =>
            have hk0 : k = 0 := by rcases HK.out with h | h; exact h; cases h.2.2
            have h0 : zs = [] := HZN.out fun h => by cases h.2.2
            subst h0
            go_wp2_with fail
            go_ret
            exact ⟨some ⟨g, 0, none⟩, cap, ⟨by rfl, HB3.out.trans (hBw.mono hz3)⟩, fun h => absurd (by rfl) h⟩
          | true =>
            obtain ⟨hKK, hGG, h9⟩ := HK0.out (by trivial)
            obtain ⟨hHH, _, hp9⟩ := HH0.out (by trivial)
            have HT := Lib.hid (HTE.out (by trivial) (by trivial))
            have HTS := Lib.hid (slice_tells HT.out hlt)
            have hx9 := hGG.2.1
            have hk9 := hKK.2.1
            have hm1 := hHH.1
            have hm9 := hHH.2.1
            have HUP : Hid (∀ k, k ≤ G.length → H.length ^ k ≤ 9) := Lib.hid fun k hk => Nat.le_trans (pow_up hm1 hk) hp9
            obtain ⟨s, hs⟩ : ∃ s, k * G.length = s := ⟨_, rfl⟩
            have HS := Lib.hid hs
            have hs81 : s ≤ 81 := by rw [← hs]; exact Nat.mul_le_mul (show k ≤ 9 by omega) hx9
            have hsI : (k : Int) * (G.length : Int) = (s : Int) := by rw [← hs, Int.natCast_mul]
            have HZk : Hid (zs[k]? = some ((numR H.length (sliceL G.length f k) : Nat) : Int)) := Lib.hid (by rw [HZY.out ⟨by trivial, by trivial, by trivial⟩]; exact lift_get hlt)
            have hfl : f.length = K.length * G.length := HT.out.1
            have HFL := Lib.hid hfl
            clear hKK hGG hHH h9 hp9 hfl hs
            go_wp2_with fail
            go_loop [15, 16] (fun v i => ∃ j q : Nat, j ≤ G.length ∧ i = .int .i64 j ∧ v = .int .i64 q ∧ q ≤ 9 ∧ Hid (q = numR H.length ((sliceL G.length f k).take j))) (fun _ i => G.length - (intOf i).toNat)
            case atStart => exact ⟨0, 0, Nat.zero_le _, rfl, rfl, by omega, Lib.hid (by simp [numR])⟩
            case round =>
              obtain ⟨j, q, hj', rfl, rfl, hq, HQ⟩ := hrel
              by_cases hltj : j < G.length
              · obtain ⟨y, hy, _, hyM⟩ := tells_at HTS.out hltj
                have hsl : s + j < f.length := by rw [HFL.out, ← HS.out]; exact pair_lt hlt hltj
                obtain ⟨b, o1, u, rfl, hb, hc, HU⟩ := hI1.at_ (k := s + j) hsl
                have eu : u = (y : Int) := by
                  have h2 := HU.out
                  rw [slice_get hltj, HS.out] at hy
                  rw [hy] at h2; cases h2; rfl
                subst eu
                have HQN : Hid (q * H.length + y = numR H.length ((sliceL G.length f k).take (j + 1))) := Lib.hid (by rw [numR_next hy, HQ.out])
                have hqn : q * H.length + y ≤ 9 := by
                  rw [HQN.out]
                  exact Nat.le_trans (Nat.le_of_lt (rowR_lt HTS.out hltj)) (HUP.out (j + 1) hltj)
                have hp0 : (0 : Int) ≤ (q : Int) * (H.length : Int) := by rw [← Int.natCast_mul]; omega
                have hp1 : (q : Int) * (H.length : Int) + (y : Int) ≤ 9 := by rw [← Int.natCast_mul]; omega
                have q0 : (0 : Int) ≤ (s : Int) + (j : Int) := by omega
                have q1 : (s : Int) + (j : Int) < (f.length : Int) := by omega
                have q2 : ((s : Int) + (j : Int)).toNat = s + j := by omega
                clear hy HU
                go_wp2_with fail
                go_round
                case rel => exact ⟨j + 1, q * H.length + y, by omega, by go_num, by rw [Int.natCast_add, Int.natCast_mul], hqn, HQN⟩
                case measure => simp [intOf]; omega
              · have HE : Hid (zs[k]? = some ((q : Nat) : Int)) := Lib.hid (by
                  have hjL : j = G.length := by omega
                  rw [HZk.out, HQ.out, hjL, List.take_of_length_le (by rw [HTS.out.1]; exact Nat.le_refl _)])
                have hsW := hBw.size
                have hown := HO1.out
                go_wp2_with (at_builtin; go_must (refine wpList_append_up rfl _ _ 30 rfl w.heap.size w3.heap.size 3 i1 (.int .i64 0) 1 8 Try.underlying30 hj hy0 hy1 hy2 rfl (by decide) g k cap _ rfl (hown.alloc _) HG.out hz3 (by simp; omega) ⟨w1.heap.size, 0, none⟩ 1 1 [.int .i64 (q : Int)] rfl rfl (cell_one_new _ _ _) (by simp [Value.oneCell']) (by unfold maxLen; omega) (by omega) (by decide) ?_); go_must (intro g2 cap2 wz hown' hg2 hbz; have HO4 := Lib.hid hown'; have hB4 : Below w3.heap.size w3 wz := (hBw.alloc hsW _).trans hbz; clear hown' hbz))
                go_roundw
                case rel => exact ⟨k + 1, g2, cap2, by omega, by go_num, rfl, Lib.hid (by rw [List.take_add_one, HE.out, List.map_append]; exact HO4.out), Lib.hid (.inl hg2), hB4, Lib.hid (.inr ⟨trivial, trivial, trivial⟩)⟩
                case measure => simp [intOf]; omega
    · obtain rfl : k = K.length := by omega
      have HL9 : Hid (zs.length = K.length) := Lib.hid (by
        rcases HK.out with h | h
        · rw [HZN.out fun hh => by have := (HK0.out hh.1).1.1; omega, h]; rfl
        · rw [HZY.out h, liftL_length])
      go_wp2_with fail
      go_ret
      refine ⟨some ⟨g, 0, none⟩, cap, ⟨by rw [HL9.out]; rfl, HB3.out.trans (hB.mono hz3)⟩, ?_⟩
      have h := HO.out
      rw [← HL9.out, List.take_of_length_le (Nat.le_refl _)] at h
      obtain ⟨aa, cc, ee, hII⟩ := own_ints h
      cases ee
      exact hII

end Go.Proofs.Ytjcoilabmbmbkaa
