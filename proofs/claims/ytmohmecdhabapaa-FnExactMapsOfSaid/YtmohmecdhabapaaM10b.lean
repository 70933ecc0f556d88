/-
  The model's BehindOf.
-/
import Derived.Test.YtmohmecdhabapaaM10
import Derived.Test.YtmohmecdhabapaaM4
namespace Go.Proofs.Ytmohmecdhabapaa
open Go.RowKit Go.Shelf Go.Deep

/-- A NEW LIST THAT CAN BE READ. -/
def ReadI (xs : List Int) (w : World) (e : Ending) (w' : World) : Prop := ∃ (a : Option Addr) (c : Nat), (e = .returned (.slice a xs.length c) ∧ Below w.heap.size w w') ∧ Ints w'.heap.size w' a xs

set_option maxRecDepth 100000 in
set_option maxHeartbeats 2000000 in
theorem specBehind (a a' a'' a3 a4 : Option Addr) (c c' c'' c3 c4 : Nat) (G H K : List (List Int)) (f e : List Int) (n₀ : Nat) (w : World) (hM : Mat n₀ w a G) (hM' : Mat n₀ w a' H) (hM'' : Mat n₀ w a'' K) (hI : Ints n₀ w a3 f) (hI' : Ints n₀ w a4 e) (hn : n₀ ≤ w.heap.size)
    (hf : Fit G) (hf' : Fit H) (hf'' : Fit K) (hl : f.length ≤ 1048576) (hl' : e.length ≤ 1048576) :
    Calls Try.prog 29 #[.slice a G.length c, .slice a' H.length c', .slice a'' K.length c'', .slice a3 f.length c3, .slice a4 e.length c4] w (ReadI (behI G H K f e) w) := by
  obtain ⟨i1, hj, hy0, hy1, hy2⟩ := info_parts infoInt
  have HF := Lib.hid hf
  have HF' := Lib.hid hf'
  have HF'' := Lib.hid hf''
  clear hf hf' hf''
  obtain ⟨x, hx⟩ : ∃ x, mapOkI G H f = x := ⟨_, rfl⟩
  obtain ⟨y, hy⟩ : ∃ y, mapOkI H K e = y := ⟨_, rfl⟩
  have HX := Lib.hid hx
  have HY := Lib.hid hy
  obtain ⟨zs, HZ⟩ : ∃ zs, Hid (behI G H K f e = zs) := ⟨_, rfl⟩
  rw [HZ.out]
  clear hx hy
  go_enter Try.func29, Try.ntmps29
  go_wp2_with fail
  go_loopw [11, 12] (fun v i wr => ∃ (k g cap : Nat), k ≤ f.length ∧ i = .int .i64 k ∧ v = .slice (some ⟨g, 0, none⟩) k cap ∧ Hid (wr.ownsRow w.heap.size 3 1 (.slice (some ⟨g, 0, none⟩) k cap) k ((zs.take k).map (Value.int .i64))) ∧ Below w.heap.size w wr ∧ Hid (k = 0 ∨ (x = true ∧ y = true)))
    (fun _ i _ => f.length - (intOf i).toNat)
  case atStart => exact ⟨0, _, _, Nat.zero_le _, rfl, rfl, World.ownsRow_lit (size := 1) w #[] 0 (Nat.le_refl _) (Nat.zero_le _) rfl, (Below.refl _ _).alloc (Nat.le_refl _) _, Lib.hid (.inl rfl)⟩
  case round =>
    obtain ⟨k, g, cap, hk, rfl, rfl, HO, hB, HK⟩ := hrel
    have hws := hB.size
    have hMr := hM.below (hB.mono hn)
    have hMr' := hM'.below (hB.mono hn)
    have hMr'' := hM''.below (hB.mono hn)
    have hIr := hI.below (hB.mono hn)
    have hIr' := hI'.below (hB.mono hn)
    by_cases hlt : k < f.length
    · have hle1 : ((k : Nat) : Int) < (f.length : Int) := by omega
      cases x with
      | false =>
        have hk0 : k = 0 := by rcases HK.out with h | h; exact h; cases h.1
        have h0 : zs = [] := HZ.out.symm.trans (behI_no fun h => by have h1 := h.1; rw [HX.out] at h1; cases h1)
        subst h0
        go_wp2_with fail
        refine (specMapOk _ _ _ _ _ _ _ _ _ _ _ hMr hMr' hIr HF.out HF'.out hl).mono ?_
        rw [HX.out]
        rintro ee w1 h1
        obtain ⟨rfl, hB1⟩ := h1.below
        have hBB := Lib.hid (hB.trans (hB1.mono hws))
        clear h1 hB1
        go_wp2_with fail
        go_ret
        exact ⟨some ⟨g, 0, none⟩, cap, ⟨by rfl, hBB.out⟩, fun h => absurd (by rfl) h⟩
      | true =>
        go_wp2_with fail
        refine (specMapOk _ _ _ _ _ _ _ _ _ _ _ hMr hMr' hIr HF.out HF'.out hl).mono ?_
        rw [HX.out]
        rintro ee w1 h1
        obtain ⟨rfl, hB1⟩ := h1.below
        have hBw1 := hB.trans (hB1.mono hws)
        have hM1' := hM'.below (hBw1.mono hn)
        have hM1'' := hM''.below (hBw1.mono hn)
        have hI1 := hI.below (hBw1.mono hn)
        have hI1' := hI'.below (hBw1.mono hn)
        have HO1 : Hid (w1.ownsRow w.heap.size 3 1 (.slice (some ⟨g, 0, none⟩) k cap) k ((zs.take k).map (Value.int .i64))) := Lib.hid (ownsRow_below HO.out hB1)
        clear h1 hB1 hMr hMr' hMr'' hIr hIr' HO hB
        go_wp2_with fail
        refine (specMapOk _ _ _ _ _ _ _ _ _ _ _ hM1' hM1'' hI1' HF'.out HF''.out hl').mono ?_
        rw [HY.out]
        rintro ee w2 h2
        obtain ⟨rfl, hB2⟩ := h2.below
        have hws1 := hBw1.size
        have hBw2 := hBw1.trans (hB2.mono hws1)
        have hI2 := hI1.below (hB2.mono (by omega))
        have hI2' := hI1'.below (hB2.mono (by omega))
        have HO2 : Hid (w2.ownsRow w.heap.size 3 1 (.slice (some ⟨g, 0, none⟩) k cap) k ((zs.take k).map (Value.int .i64))) := Lib.hid (ownsRow_below HO1.out hB2)
        have hws2 := hBw2.size
        clear h2 hB2 hM1' hM1'' hI1 hI1' HO1 hBw1
        cases y with
        | false =>
          have hk0 : k = 0 := by rcases HK.out with h | h; exact h; cases h.2
          have h0 : zs = [] := HZ.out.symm.trans (behI_no fun h => by have h1 := h.2; rw [HY.out] at h1; cases h1)
          subst h0
          have HBB := Lib.hid hBw2
          go_wp2_with fail
          go_ret
          exact ⟨some ⟨g, 0, none⟩, cap, ⟨by rfl, HBB.out⟩, fun h => absurd (by rfl) h⟩
        | true =>
          obtain ⟨⟨hg1, hg2⟩, hm1⟩ := mapOk_iff.1 HX.out
          obtain ⟨⟨_, _⟩, hm2⟩ := mapOk_iff.1 HY.out
          obtain ⟨p, hp, enp, hpH⟩ := tells_at hm1.1 (j := k) (by rw [← hm1.1.1]; exact hlt)
          obtain ⟨q, hq, enq, hqK⟩ := tells_at hm2.1 hpH
          have hf9 : f.length ≤ 9 := by rw [hm1.1.1]; exact (good_of hg1).2.1
          have hpe : p < e.length := by rw [hm2.1.1]; exact hpH
          have HZk : Hid (zs[k]? = some (q : Int)) := Lib.hid (by rw [← HZ.out, behI_yes HX.out HY.out]; unfold behL; rw [List.getElem?_map, hp]; simp [hq])
          obtain ⟨b, o, v, rfl, hb, hc, HV⟩ := hI2.at_ hlt
          have ev : v = (p : Int) := by have := HV.out; rw [hp] at this; cases this; rfl
          subst ev
          obtain ⟨b2, o2, u, rfl, hb2, hc2, HU⟩ := hI2'.at_ hpe
          have eu : u = (q : Int) := by have := HU.out; rw [hq] at this; cases this; rfl
          subst eu
          have hlg := HO2.out.lt g rfl
          clear hm1 hm2 hg1 hg2 hp enp hq enq HV HU
          go_wp2_with (at_builtin; refine wpList_append_lies _ rfl _ _ 26 rfl w.heap.size 3 i1 (.int .i64 0) 1 8 Try.underlying26 hj hy0 hy1 hy2 rfl (by decide) (.slice (some ⟨g, 0, none⟩) k cap) k ((zs.take k).map (Value.int .i64)) rfl (HO2.out.alloc _) ⟨w2.heap.size, 0, none⟩ 1 1 [.int .i64 (q : Int)] rfl rfl (cell_one_new _ _ _) (by simp [Value.oneCell']) (by omega) (by unfold maxLen; omega) (by omega) (by simp; omega) (w2.heap.size + 1) (by simp) ?_; intro g5 cap5 w5 hown5 hgrow5 _ _; have hB5 : Below w.heap.size w w5 := (hBw2.alloc hws2 _).grown hgrow5 (by simp; omega) (fun r e => by have e' : some g = some r := e; cases e'; exact hlg.1); have HO5 : Hid (w5.ownsRow w.heap.size 3 1 (.slice (some ⟨g5, 0, none⟩) (k + 1) cap5) (k + 1) ((zs.take (k + 1)).map (Value.int .i64))) := Lib.hid (by rw [List.take_add_one, HZk.out, List.map_append]; exact hown5); clear hown5 hgrow5)
          go_roundw
          case rel => exact ⟨k + 1, g5, cap5, by omega, by go_num, rfl, HO5, hB5, Lib.hid (.inr ⟨trivial, trivial⟩)⟩
          case measure => simp [intOf]; omega
    · obtain rfl : k = f.length := by omega
      have HZ9 : Hid (zs.length = f.length ∨ (zs = [] ∧ f.length = 0)) := Lib.hid (by
        rcases HK.out with h | ⟨h1, h2⟩
        · right
          refine ⟨?_, h⟩
          rw [← HZ.out]
          refine behI_no fun hh => ?_
          have h3 := (mapOk_iff.1 hh.1)
          have h4 := h3.2.1.1
          have h5 := (good_of h3.1.1).1
          omega
        · left
          subst h1; subst h2
          rw [← HZ.out, behI_yes HX.out HY.out, behL_length])
      have HL9 : Hid (zs.length = f.length) := Lib.hid (by rcases HZ9.out with h | h; exact h; rw [h.1, h.2]; rfl)
      go_wp2_with fail
      go_ret
      refine ⟨some ⟨g, 0, none⟩, cap, ⟨by rw [HL9.out]; rfl, hB⟩, ?_⟩
      have h := HO.out
      rw [← HL9.out, List.take_of_length_le (Nat.le_refl _)] at h
      obtain ⟨aa, cc, ee, hII⟩ := own_ints h
      cases ee
      exact hII

end Go.Proofs.Ytmohmecdhabapaa
