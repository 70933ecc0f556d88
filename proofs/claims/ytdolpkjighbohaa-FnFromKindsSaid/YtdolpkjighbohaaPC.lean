/-
  spec.KindsBy, spec.FromKinds, walked.
-/
import Derived.Test.YtdolpkjighbohaaWH
import Derived.Test.YtdolpkjighbohaaZN
import Derived.Test.YtdolpkjighbohaaZI
import Derived.Test.YtdolpkjighbohaaW0
import Derived.Laws.Small
namespace Go.Proofs.Ytdolpkjighbohaa
open Go.RowKit Go.Shelf Go.Deep

theorem own_intsK {W : World} {base c n : Nat} {a : Option Addr} {xs : List Int} (hn : xs.length = n) (h : W.ownsRow base 3 1 (.slice a n c) n (xs.map (Value.int .i64))) : Ints W.heap.size W a xs := by
  subst hn; exact own_intsQ h
theorem kb_le {G H : List (List Int)} {f : List Int} : (kbI G H f).length ≤ 9 := by
  cases h : mapOkI G H f with
  | true => rw [kb_yes h, kby_length]; exact (map_le h).2.2
  | false => rw [kb_no h]; simp
theorem fr_le {G H : List (List Int)} {f : List Int} : (frI G H f).length ≤ 9 := by
  cases h : mapOkI G H f with
  | true => rw [fr_yes h]; exact Nat.le_trans (nub_le f) (map_le h).2.2
  | false => rw [fr_no h]; simp

set_option maxRecDepth 100000 in
set_option maxHeartbeats 4000000 in
theorem specKby (a a' a'' : Option Addr) (c c' c'' : Nat) (G H : List (List Int)) (f : List Int) (n₀ : Nat) (w : World) (hM : Mat n₀ w a G) (hM' : Mat n₀ w a' H) (hI : Ints n₀ w a'' f) (hn : n₀ ≤ w.heap.size) (hF : Fit G) (hF' : Fit H) (hl : f.length ≤ 1048576) :
    Calls Try.prog 34 #[.slice a G.length c, .slice a' H.length c', .slice a'' f.length c''] w (MadeOwn (kbI G H f) w) := by
  obtain ⟨i1, hj, hy0, hy1, hy2⟩ := info_parts infoInt
  have HF := Lib.hid hF
  have HF' := Lib.hid hF'
  clear hF hF'
  obtain ⟨x, hx⟩ : ∃ x, mapOkI G H f = x := ⟨_, rfl⟩
  have HX := Lib.hid hx
  obtain ⟨zs, HZ⟩ : ∃ zs, Hid (kbI G H f = zs) := ⟨_, rfl⟩
  rw [HZ.out]
  have HZN : Hid (x = false → zs = []) := Lib.hid fun h => by rw [← HZ.out, kb_no (hx.trans h)]
  have HZY : Hid (x = true → zs = kbyL f) := Lib.hid fun h => by rw [← HZ.out, kb_yes (hx.trans h)]
  have HH1 : Hid (x = true → f.length ≤ 9) := Lib.hid fun h => (map_le (hx.trans h)).2.2
  have HX1 : Hid (x = true → 1 ≤ f.length) := Lib.hid fun h => (map_le (hx.trans h)).2.1
  clear hx HZ
  go_enter Try.func34, Try.ntmps34
  go_wp2_with fail
  go_loopw [7, 8, 9] (fun v nx i wr => ∃ (k t g cap : Nat), k ≤ f.length ∧ t ≤ k ∧ i = .int .i64 k ∧ nx = .int .i64 t ∧ v = .slice (some ⟨g, 0, none⟩) k cap ∧ Hid (topK (kbyL (f.take k)) = t) ∧ Hid (wr.ownsRow w.heap.size 3 1 (.slice (some ⟨g, 0, none⟩) k cap) k ((kbyL (f.take k)).map (Value.int .i64))) ∧ Below w.heap.size w wr ∧ Hid (k = 0 ∨ x = true))
    (fun _ _ i _ => f.length - (intOf i).toNat)
  case atStart => exact ⟨0, 0, _, _, Nat.zero_le _, Nat.le_refl _, rfl, rfl, rfl, Lib.hid rfl, Lib.hid (World.ownsRow_lit (size := 1) w #[] 0 (Nat.le_refl _) (Nat.zero_le _) rfl), (Below.refl _ _).alloc (Nat.le_refl _) _, Lib.hid (.inl rfl)⟩
  case round =>
    obtain ⟨k, t, g, cap, hk, htk, rfl, rfl, rfl, HT, HO, hB, HK⟩ := hrel
    have hws := hB.size
    have hMr := hM.below (hB.mono hn)
    have hMr' := hM'.below (hB.mono hn)
    have hIr := hI.below (hB.mono hn)
    by_cases hlt : k < f.length
    · go_wp2_with fail
      refine (specMapOk _ _ _ _ _ _ _ _ _ _ _ hMr hMr' hIr HF.out HF'.out hl).mono ?_
      rw [HX.out]
      rintro ee w1 h1
      obtain ⟨rfl, hB1⟩ := h1.below
      have hBw := hB.trans (hB1.mono hws)
      have HO1 : Hid (w1.ownsRow w.heap.size 3 1 (.slice (some ⟨g, 0, none⟩) k cap) k ((kbyL (f.take k)).map (Value.int .i64))) := Lib.hid (ownsRow_below HO.out hB1)
      have hI1 := hI.below (hBw.mono hn)
      clear h1 hB1 hMr hMr' hIr HO hB
      cases x with
      | false =>
        have hk0 : k = 0 := by rcases HK.out with h | h; exact h; cases h
        subst hk0
        have h0 : zs = [] := HZN.out (by trivial)
        subst h0
        go_wp2_with fail
        go_ret
        exact ⟨some ⟨g, 0, none⟩, cap, ⟨by rfl, hBw⟩, HO1.out⟩
      | true =>
        have hf9 := HH1.out (by trivial)
        have HLK : Hid ((kbyL (f.take k)).length = k) := Lib.hid (by rw [kby_length, List.length_take]; omega)
        have hlg := HO1.out.lt g (by simp [Value.ownBlock])
        have hsW := hBw.size
        have HRO := Lib.hid (own_intsK HLK.out HO1.out)
        obtain ⟨b, o, y, rfl, hb, hc, HY⟩ := hI1.at_ hlt
        go_wp2_with fail
        go_loopw [10, 11] (fun xv i wq => ∃ (j m q : Nat), j ≤ k ∧ q ≤ t ∧ i = .int .i64 j ∧ xv = .int .i64 q ∧ wq = w1.drewN m ∧ Hid ((q = t ∧ ∀ j', j' < j → f[j']? ≠ f[k]?) ∨ ∃ j', j' < j ∧ f[j']? = f[k]? ∧ nd (kbyL (f.take k)) j' = q)) (fun _ i _ => k - (intOf i).toNat)
        case atStart => exact ⟨0, 0, t, Nat.zero_le _, Nat.le_refl _, rfl, rfl, rfl, Lib.hid (.inl ⟨rfl, fun j' h => absurd h (Nat.not_lt_zero _)⟩)⟩
        case round =>
          obtain ⟨j, m, q, hj', hq, rfl, rfl, rfl, HJ⟩ := hrel
          by_cases hjk : j < k
          · obtain ⟨b2, o2, y2, e2, hb2, hc2, HY2⟩ := hI1.at_ (show j < f.length by omega)
            cases e2
            by_cases he : y2 = y
            · have hyb : (y2 == y) = true := by simp [he]
              have HE : Hid (f[j]? = f[k]?) := Lib.hid (by rw [HY.out, HY2.out, he])
              have hjl : j < (kbyL (f.take k)).length := by rw [HLK.out]; exact hjk
              obtain ⟨b3, o3, y3, e3, hb3, hc3, HY3⟩ := HRO.out.at_ hjl
              cases e3
              obtain ⟨p, hp, epn, hpt⟩ := tells_at (kind_tells (kby_kind (f.take k)).1) hjl
              have ey : y3 = (p : Int) := by have := HY3.out; rw [hp] at this; cases this; rfl
              subst ey
              rw [HT.out] at hpt
              rw [Nat.zero_add] at hc3
              have HP := Lib.hid epn
              clear he hp epn HY3 HY2 hjl
              go_wp2_with fail
              go_quiet (fail)
              go_wp2_with fail
              go_roundw
              case rel => exact ⟨j + 1, _, p, by omega, by omega, by go_num, rfl, by first | rfl | exact drewN_two _ _ _, Lib.hid (.inr ⟨j, by omega, HE.out, HP.out⟩)⟩
              case measure => simp [intOf]; omega
            · have hyb : (y2 == y) = false := by simp [he]
              have HJ2 : Hid ((q = t ∧ ∀ j', j' < j + 1 → f[j']? ≠ f[k]?) ∨ ∃ j', j' < j + 1 ∧ f[j']? = f[k]? ∧ nd (kbyL (f.take k)) j' = q) := Lib.hid (by
                rcases HJ.out with ⟨h1, h2⟩ | ⟨j', h1, h2, h3⟩
                · refine .inl ⟨h1, fun j' hj2 => ?_⟩
                  by_cases ej : j' = j
                  · subst ej; rw [HY.out, HY2.out]; intro h; exact he (Option.some.inj h)
                  · exact h2 j' (by omega)
                · exact .inr ⟨j', by omega, h2, h3⟩)
              clear he HY2
              go_wp2_with fail
              go_quiet (fail)
              go_wp2_with fail
              go_roundw
              case rel => exact ⟨j + 1, _, q, by omega, hq, by go_num, rfl, by first | rfl | exact drewN_two _ _ _, HJ2⟩
              case measure => simp [intOf]; omega
          · obtain rfl : j = k := by omega
            have HS : Hid (kbyL (f.take (j + 1)) = kbyL (f.take j) ++ [((q : Nat) : Int)]) := Lib.hid (by
              rcases HJ.out with ⟨h1, h2⟩ | ⟨j', h1, h2, h3⟩
              · rw [h1, ← HT.out]
                refine (kby_new HY.out fun hm => ?_).1
                obtain ⟨i, hi⟩ := List.mem_iff_getElem?.1 hm
                have hij : i < j := by have := (List.getElem?_eq_some_iff.1 hi).1; rw [List.length_take] at this; omega
                rw [List.getElem?_take_of_lt hij] at hi
                exact h2 i hij (by rw [hi, HY.out])
              · rw [← h3]
                exact (kby_old HY.out h1 (by rw [h2, HY.out])).1)
            have HTQ : Hid (topK (kbyL (f.take (j + 1))) = max t (q + 1)) := Lib.hid (by rw [HS.out, topK_snoc, HT.out, Int.toNat_natCast])
            have hBm : Below w.heap.size w (w1.drewN m) := below_drewN hBw m
            have hsM := hBm.size
            have hown : (w1.drewN m).ownsRow w.heap.size 3 1 (.slice (some ⟨g, 0, none⟩) j cap) j ((kbyL (f.take j)).map (Value.int .i64)) := ownsRow_below HO1.out (below_drewN (Below.refl _ _) m)
            have hlg2 := hown.lt g (by simp [Value.ownBlock])
            clear HRO HJ hBw hsW
            go_wp2_with (at_builtin; go_must (refine wpList_append_own _ rfl _ _ 24 rfl w.heap.size 3 i1 (.int .i64 0) 1 8 Try.underlying24 hj hy0 hy1 hy2 rfl (by decide) _ _ _ rfl (hown.alloc _) ⟨(w1.drewN m).heap.size, 0, none⟩ 1 1 [.int .i64 (q : Int)] rfl rfl (cell_one_new _ _ _) (by simp [Value.oneCell']) (by unfold maxLen; omega) (by omega) (by simp; omega) ?_); go_must (intro v' wz hown' hgrow _; obtain ⟨g2, cap2, rfl⟩ := ownsRow_succ hown'); go_must (have HO4 := Lib.hid hown'); go_must (have hB4 : Below w.heap.size w wz := (hBm.alloc hsM _).grown hgrow (by simp; omega) (fun r e => by have e' : some g = some r := e; cases e'; exact hlg2.1)); clear hown' hgrow)
            go_roundw
            case rel =>
              by_cases hgt : (q : Int) + 1 > (t : Int)
              · exact ⟨j + 1, q + 1, g2, cap2, by omega, by omega, by go_num, by rw [if_pos hgt]; congr 1, rfl, Lib.hid (by have := HTQ.out; omega), Lib.hid (by rw [HS.out, List.map_append]; exact HO4.out), hB4, Lib.hid (.inr trivial)⟩
              · exact ⟨j + 1, t, g2, cap2, by omega, by omega, by go_num, by rw [if_neg hgt], rfl, Lib.hid (by have := HTQ.out; omega), Lib.hid (by rw [HS.out, List.map_append]; exact HO4.out), hB4, Lib.hid (.inr trivial)⟩
            case measure => simp [intOf]; omega
    · obtain rfl : k = f.length := by omega
      have HL9 : Hid (zs = kbyL (f.take f.length)) := Lib.hid (by
        cases x with
        | true => rw [HZY.out rfl, List.take_length]
        | false =>
          rcases HK.out with h | h
          · rw [HZN.out rfl, h]; rfl
          · cases h)
      have HLZ : Hid (zs.length = f.length) := Lib.hid (by rw [HL9.out, kby_length, List.take_length])
      go_wp2_with fail
      go_ret
      refine ⟨some ⟨g, 0, none⟩, cap, ⟨by rw [HLZ.out]; rfl, hB⟩, ?_⟩
      have h := HO.out
      rw [← HL9.out] at h
      rw [HLZ.out]
      exact h

theorem specKbyR (a a' a'' : Option Addr) (c c' c'' : Nat) (G H : List (List Int)) (f : List Int) (n₀ : Nat) (w : World) (hM : Mat n₀ w a G) (hM' : Mat n₀ w a' H) (hI : Ints n₀ w a'' f) (hn : n₀ ≤ w.heap.size) (hF : Fit G) (hF' : Fit H) (hl : f.length ≤ 1048576) :
    Calls Try.prog 34 #[.slice a G.length c, .slice a' H.length c', .slice a'' f.length c''] w (ReadI (kbI G H f) w) :=
  (specKby a a' a'' c c' c'' G H f n₀ w hM hM' hI hn hF hF' hl).mono fun _ _ ⟨a, c, h1, h2⟩ => ⟨a, c, h1, own_intsQ h2⟩

end Go.Proofs.Ytdolpkjighbohaa
