/-
  spec.PairedOf, walked.
-/
import Derived.Test.YtnehbpihljbjdaaZT
import Derived.Test.YtnehbpihljbjdaaT2
import Derived.Test.YtnehbpihljbjdaaT5
import Derived.Test.YtnehbpihljbjdaaZN
import Derived.Test.YtnehbpihljbjdaaZI
namespace Go.Proofs.Ytnehbpihljbjdaa
open Go.RowKit Go.Shelf Go.Deep

/-- THE MAP MADE OF TWO, into the product; nothing for others. -/
def paiI (K G H : List (List Int)) (f e : List Int) : List Int := if timOk G H = true ∧ mapOkI K G f = true ∧ mapOkI K H e = true then paiL H.length f e else []
theorem paiI_yes {K G H : List (List Int)} {f e : List Int} (h : timOk G H = true ∧ mapOkI K G f = true ∧ mapOkI K H e = true) : paiI K G H f e = paiL H.length f e := if_pos h
theorem paiI_no {K G H : List (List Int)} {f e : List Int} (h : ¬ (timOk G H = true ∧ mapOkI K G f = true ∧ mapOkI K H e = true)) : paiI K G H f e = [] := if_neg h
theorem pai_small {K G H : List (List Int)} {f e : List Int} (h : mapOkI K G f = true) (h' : mapOkI K H e = true) : 1 ≤ f.length ∧ e.length = f.length ∧ f.length = K.length ∧ K.length ≤ 9 := by
  obtain ⟨⟨hg1, _⟩, hm1⟩ := mapOk_iff.1 h
  obtain ⟨_, hm2⟩ := mapOk_iff.1 h'
  have h1 := hm1.1.1
  have h2 := hm2.1.1
  have h3 := (good_of hg1).1
  have h4 := (good_of hg1).2.1
  omega
theorem paiI_le {K G H : List (List Int)} {f e : List Int} : (paiI K G H f e).length ≤ 1048576 := by
  by_cases h : timOk G H = true ∧ mapOkI K G f = true ∧ mapOkI K H e = true
  · rw [paiI_yes h, paiL_length]; have := pai_small h.2.1 h.2.2; omega
  · rw [paiI_no h]; simp

set_option maxRecDepth 100000 in
set_option maxHeartbeats 4000000 in
theorem specPaired (a a' a'' a3 a4 : Option Addr) (c c' c'' c3 c4 : Nat) (K G H : List (List Int)) (f e : List Int) (n₀ : Nat) (w : World) (hM : Mat n₀ w a K) (hM' : Mat n₀ w a' G) (hM'' : Mat n₀ w a'' H) (hI : Ints n₀ w a3 f) (hI' : Ints n₀ w a4 e) (hn : n₀ ≤ w.heap.size)
    (hf : Fit K) (hf' : Fit G) (hf'' : Fit H) (hl : f.length ≤ 1048576) (hl' : e.length ≤ 1048576) :
    Calls Try.prog 30 #[.slice a K.length c, .slice a' G.length c', .slice a'' H.length c'', .slice a3 f.length c3, .slice a4 e.length c4] w (ReadI (paiI K G H f e) w) := by
  obtain ⟨i1, hj, hy0, hy1, hy2⟩ := info_parts infoInt
  have hB0 : Below w.heap.size w (w.alloc (.cells #[] 3)) := (Below.refl _ _).alloc (Nat.le_refl _) _
  have hS := specTimes a' a'' c' c'' G H n₀ (w.alloc (.cells #[] 3)) (hM'.below (hB0.mono hn)) (hM''.below (hB0.mono hn)) (Nat.le_trans hn hB0.size) hf' hf''
  have hown0 : (w.alloc (.cells #[] 3)).ownsRow w.heap.size 3 1 (.slice (some ⟨w.heap.size, 0, none⟩) 0 0) 0 [] := World.ownsRow_lit (size := 1) w #[] 0 (Nat.le_refl _) (Nat.zero_le _) rfl
  have HOW0 := Lib.hid hown0
  have HB0 := Lib.hid hB0
  have HF := Lib.hid hf
  have HF' := Lib.hid hf'
  have HF'' := Lib.hid hf''
  have hlH := hf''.1
  clear hf hf' hf'' hown0 hB0
  obtain ⟨o, ho⟩ : ∃ o, timOk G H = o := ⟨_, rfl⟩
  obtain ⟨x, hx⟩ : ∃ x, mapOkI K G f = x := ⟨_, rfl⟩
  obtain ⟨y, hy⟩ : ∃ y, mapOkI K H e = y := ⟨_, rfl⟩
  rw [ho] at hS
  have HS := Lib.hid hS
  have HO' := Lib.hid ho
  have HX := Lib.hid hx
  have HY := Lib.hid hy
  obtain ⟨zs, HZ⟩ : ∃ zs, Hid (paiI K G H f e = zs) := ⟨_, rfl⟩
  rw [HZ.out]
  clear hx hy ho hS
  go_enter Try.func30, Try.ntmps30
  go_wp2_with fail
  refine HS.out.mono ?_
  rintro ee w2 ⟨b2, d2, ⟨rfl, hB2⟩, -⟩
  have HOW := Lib.hid (ownsRow_below HOW0.out hB2)
  have HB := Lib.hid (HB0.out.trans (hB2.mono HB0.out.size))
  clear hB2
  go_wp2_with fail
  go_loopw [11, 14] (fun v i wr => ∃ (k g cap : Nat), k ≤ f.length ∧ i = .int .i64 k ∧ v = .slice (some ⟨g, 0, none⟩) k cap ∧ Hid (wr.ownsRow w.heap.size 3 1 (.slice (some ⟨g, 0, none⟩) k cap) k ((zs.take k).map (Value.int .i64))) ∧ Below w.heap.size w wr ∧ Hid (k = 0 ∨ (o = true ∧ x = true ∧ y = true)))
    (fun _ i _ => f.length - (intOf i).toNat)
  case atStart => exact ⟨0, _, _, Nat.zero_le _, rfl, rfl, HOW, HB.out, Lib.hid (.inl rfl)⟩
  case round =>
    obtain ⟨k, g, cap, hk, rfl, rfl, HO, hB, HK⟩ := hrel
    have hws := hB.size
    have hMr := hM.below (hB.mono hn)
    have hMr' := hM'.below (hB.mono hn)
    have hMr'' := hM''.below (hB.mono hn)
    have hIr := hI.below (hB.mono hn)
    have hIr' := hI'.below (hB.mono hn)
    by_cases hlt : k < f.length
    · have hle1 : ((k : Nat) : Int) < (f.length : Int) := by omega
      cases o with
      | false =>
        have hk0 : k = 0 := by rcases HK.out with h | h; exact h; cases h.1
        have h0 : zs = [] := HZ.out.symm.trans (paiI_no fun h => by have h1 := h.1; rw [HO'.out] at h1; cases h1)
        subst h0
        go_wp2_with fail
        go_ret
        exact ⟨some ⟨g, 0, none⟩, cap, ⟨by rfl, hB⟩, fun h => absurd (by rfl) h⟩
      | true =>
        go_wp2_with fail
        refine (specMapOk _ _ _ _ _ _ _ _ _ _ _ hMr hMr' hIr HF.out HF'.out hl).mono ?_
        rw [HX.out]
        rintro ee w1 h1
        obtain ⟨rfl, hB1⟩ := h1.below
        cases x with
        | false =>
          have hk0 : k = 0 := by rcases HK.out with h | h; exact h; cases h.2.1
          have h0 : zs = [] := HZ.out.symm.trans (paiI_no fun h => by have h1 := h.2.1; rw [HX.out] at h1; cases h1)
          subst h0
          have hBB := Lib.hid (hB.trans (hB1.mono hws))
          clear h1 hB1
          go_wp2_with fail
          go_ret
          exact ⟨some ⟨g, 0, none⟩, cap, ⟨by rfl, hBB.out⟩, fun h => absurd (by rfl) h⟩
        | true =>
          have hBw1 := hB.trans (hB1.mono hws)
          have hM1 := hM.below (hBw1.mono hn)
          have hM1'' := hM''.below (hBw1.mono hn)
          have hI1 := hI.below (hBw1.mono hn)
          have hI1' := hI'.below (hBw1.mono hn)
          have HO1 : Hid (w1.ownsRow w.heap.size 3 1 (.slice (some ⟨g, 0, none⟩) k cap) k ((zs.take k).map (Value.int .i64))) := Lib.hid (ownsRow_below HO.out hB1)
          clear h1 hB1 hMr hMr' hMr'' hIr hIr' HO hB
          go_wp2_with fail
          refine (specMapOk _ _ _ _ _ _ _ _ _ _ _ hM1 hM1'' hI1' HF.out HF''.out hl').mono ?_
          rw [HY.out]
          rintro ee W h2
          obtain ⟨rfl, hB2⟩ := h2.below
          have hws1 := hBw1.size
          have hBw2 := hBw1.trans (hB2.mono hws1)
          have hI2 := hI1.below (hB2.mono (by omega))
          have hI2' := hI1'.below (hB2.mono (by omega))
          have HO2 : Hid (W.ownsRow w.heap.size 3 1 (.slice (some ⟨g, 0, none⟩) k cap) k ((zs.take k).map (Value.int .i64))) := Lib.hid (ownsRow_below HO1.out hB2)
          have hws2 := hBw2.size
          clear h2 hB2 hM1 hM1'' hI1 hI1' HO1 hBw1
          cases y with
          | false =>
            have hk0 : k = 0 := by rcases HK.out with h | h; exact h; cases h.2.2
            have h0 : zs = [] := HZ.out.symm.trans (paiI_no fun h => by have h1 := h.2.2; rw [HY.out] at h1; cases h1)
            subst h0
            have HBB := Lib.hid hBw2
            go_wp2_with fail
            go_ret
            exact ⟨some ⟨g, 0, none⟩, cap, ⟨by rfl, HBB.out⟩, fun h => absurd (by rfl) h⟩
          | true =>
            obtain ⟨hs1, hs2, hs3, hs4⟩ := pai_small HX.out HY.out
            obtain ⟨⟨_, _⟩, hm1⟩ := mapOk_iff.1 HX.out
            obtain ⟨⟨_, hg2⟩, hm2⟩ := mapOk_iff.1 HY.out
            obtain ⟨hGG, hHH, h9⟩ := timOk_of HO'.out
            obtain ⟨p, hp, enp, hpG⟩ := tells_at hm1.1 (j := k) (by rw [← hm1.1.1]; exact hlt)
            obtain ⟨q, hq, enq, hqH⟩ := tells_at hm2.1 (j := k) (by rw [← hm1.1.1]; exact hlt)
            have hH9 := hHH.2.1
            have hr9 : p * H.length + q < 9 := Nat.lt_of_lt_of_le (pair_lt hpG hqH) h9
            obtain ⟨z, hz⟩ : ∃ z, p * H.length + q = z := ⟨_, rfl⟩
            obtain ⟨r, hr⟩ : ∃ r, p * H.length = r := ⟨_, rfl⟩
            have hzr : r + q = z := by rw [← hr, hz]
            have HZk : Hid (zs[k]? = some (z : Int)) := Lib.hid (by rw [← HZ.out, paiI_yes ⟨HO'.out, HX.out, HY.out⟩, paiL_get hlt, enp, enq, hz])
            obtain ⟨b, o1, v, rfl, hb, hc, HV⟩ := hI2.at_ hlt
            have ev : v = (p : Int) := by have := HV.out; rw [hp] at this; cases this; rfl
            subst ev
            obtain ⟨b2, o2, u, rfl, hb2, hc2, HU⟩ := hI2'.at_ (by rw [hs2]; exact hlt)
            have eu : u = (q : Int) := by have := HU.out; rw [hq] at this; cases this; rfl
            subst eu
            have hrI : (p : Int) * (H.length : Int) = (r : Int) := by rw [← hr, Int.natCast_mul]
            rw [hz] at hr9
            have hzI : (r : Int) + (q : Int) = (z : Int) := by omega
            have hw1 : IntKind.i64.wrap ((p : Int) * (H.length : Int)) = (r : Int) := by rw [hrI]; simp [IntKind.wrap, IntKind.bits, IntKind.signed]; omega
            have hw1' : IntKind.i64.wrap (r : Int) = (r : Int) := by simp [IntKind.wrap, IntKind.bits, IntKind.signed]; omega
            have hw2 : IntKind.i64.wrap ((r : Int) + (q : Int)) = (z : Int) := by rw [hzI]; simp [IntKind.wrap, IntKind.bits, IntKind.signed]; omega
            have hw3 : IntKind.i64.wrap (z : Int) = (z : Int) := by simp [IntKind.wrap, IntKind.bits, IntKind.signed]; omega
            have hown := HO2.out
            have hlg := hown.lt g (by simp [Value.ownBlock])
            have ag1 : some b ≠ (Value.slice (some ⟨g, 0, none⟩) k cap).ownBlock := fun e => by
              have e' : some b = some g := e
              cases e'
              omega
            have ag2 : some b2 ≠ (Value.slice (some ⟨g, 0, none⟩) k cap).ownBlock := fun e => by
              have e' : some b2 = some g := e
              cases e'
              omega
            have hle2 : ((k : Nat) : Int) < (e.length : Int) := by omega
            have ik0 : (0 : Int) ≤ (k : Int) := Int.natCast_nonneg _
            have hf9 : f.length ≤ 9 := by omega
            clear hm1 hm2 hg2 hp enp hq enq HV HU hGG hHH h9 hr hz hpG hqH hzr hs2 hs3 hs4
            go_wp2_with fail
            go_region_held3 (fun w' => w'.cell? ⟨b, o1 + k, none⟩ = some (.int .i64 p) ∧ w'.cell? ⟨b2, o2 + k, none⟩ = some (.int .i64 q))
              (first
                | (go_keep; done)
                | (go_split_ands
                   refine ⟨?_, ?_⟩
                   · (rw [hgrow.cell_far _ (by simp; omega) ag1]; assumption)
                   · (rw [hgrow.cell_far _ (by simp; omega) ag2]; assumption)))
              ((refine step_append_lies _ (by rfl) _ _ _ (by rfl) w.heap.size 3 i1 _ 1 8 Try.underlying37 hj hy0 hy1 hy2 rfl (by omega) (.slice (some ⟨g, 0, none⟩) k cap) k ((zs.take k).map (Value.int .i64)) (by rfl) ((hown.alloc _).drew)
                  ⟨W.heap.size, 0, none⟩ 1 1 [.int .i64 (z : Int)] (by rfl) (by rfl) (World.news_of_block (cs := #[.int .i64 (z : Int)]) (t := 3) (fr := (0, 0)) (heap_alloc_new W _)) (by simp [Value.oneCell'])
                  (by omega) (by unfold maxLen; omega) (by omega) (by simp; omega) (W.heap.size + 1) (by simp) ?_; intro gg cap2 w4 hown4 hgrow hat hlt4))
            have hB4 : Below w.heap.size w w4 := ((hBw2.alloc hws2 _).drew).grown hgrow (by simp; omega) (fun r e => by have e' : some g = some r := e; cases e'; exact hlg.1)
            have HO4 : Hid (w4.ownsRow w.heap.size 3 1 (.slice (some ⟨gg, 0, none⟩) (k + 1) cap2) (k + 1) ((zs.take (k + 1)).map (Value.int .i64))) := Lib.hid (by rw [List.take_add_one, HZk.out, List.map_append]; exact hown4)
            clear hown4 hgrow hat hlt4
            go_wp2_with fail
            go_roundw
            case rel => exact ⟨k + 1, gg, cap2, by omega, by go_num, rfl, HO4, hB4, Lib.hid (.inr ⟨trivial, trivial, trivial⟩)⟩
            case measure => simp [intOf]; omega
    · obtain rfl : k = f.length := by omega
      have HZ9 : Hid (zs.length = f.length ∨ (zs = [] ∧ f.length = 0)) := Lib.hid (by
        rcases HK.out with h | ⟨h0, h1, h2⟩
        · right
          refine ⟨?_, h⟩
          rw [← HZ.out]
          refine paiI_no fun hh => ?_
          have := pai_small hh.2.1 hh.2.2
          omega
        · left
          subst h0; subst h1; subst h2
          rw [← HZ.out, paiI_yes ⟨HO'.out, HX.out, HY.out⟩, paiL_length])
      have HL9 : Hid (zs.length = f.length) := Lib.hid (by rcases HZ9.out with h | h; exact h; rw [h.1, h.2]; rfl)
      go_wp2_with fail
      go_ret
      refine ⟨some ⟨g, 0, none⟩, cap, ⟨by rw [HL9.out]; rfl, hB⟩, ?_⟩
      have h := HO.out
      rw [← HL9.out, List.take_of_length_le (Nat.le_refl _)] at h
      obtain ⟨aa, cc, ee, hII⟩ := own_ints h
      cases ee
      exact hII

end Go.Proofs.Ytnehbpihljbjdaa
