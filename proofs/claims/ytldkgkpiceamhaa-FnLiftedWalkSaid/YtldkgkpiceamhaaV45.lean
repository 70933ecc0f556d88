/-
  The walk of the law of P54 (LiftedWalk).
-/
import Derived.Test.YtldkgkpiceamhaaXD
import Derived.Test.YtldkgkpiceamhaaXC
import Derived.Test.YtldkgkpiceamhaaZA
import Derived.Test.YtldkgkpiceamhaaZB
import Derived.Test.YtldkgkpiceamhaaM8a
import Derived.Test.YtldkgkpiceamhaaXF
import Derived.Deep.RegionHeld3
import Derived.BigQuiet
namespace Go.Proofs.Ytldkgkpiceamhaa
open Go.RowKit Go.Shelf

set_option maxRecDepth 100000 in
set_option maxHeartbeats 8000000 in
theorem liftedWalk_any (a : Option Addr) (n c : Nat) (w : World) (hc : n ≤ c) (hl : n ≤ 9223372036854775807) (hy : Bytes w.heap.size w a n) :
    Calls Try.prog 5 #[.slice a n c] w (Ans (.bool true) w) := by
  by_cases hbign : 1048576 < n
  · go_enter Try.func5, Try.ntmps5
    go_wp2_with fail
    go_ret
    exact ⟨rfl, Below.refl _ _⟩
  obtain ⟨i1, hj, hy0, hy1, hy2⟩ := info_parts infoInt
  go_enter Try.func5, Try.ntmps5
  go_wp2_with fail
  refine (drawLiftedWalk_any a n c w (by omega) hc hy).mono ?_
  rintro e w1 ⟨aG, cG, G, aH, cH, H, aF, cF, f, aW, cW, wl, z, rfl, ⟨hF, x1, hG9⟩, ⟨hF', y1, hH4⟩, ⟨hfl, f1⟩, ⟨⟨hw1, hw20, hwc⟩, m1⟩, ⟨hz0, hz9⟩, hB⟩
  have HB1 := Lib.hid hB
  have HF := Lib.hid hF
  have HF' := Lib.hid hF'
  obtain ⟨o, HO⟩ : ∃ o, Hid (lifK G H f wl z = o) := ⟨_, rfl⟩
  obtain ⟨L, HL, HLF⟩ : ∃ L, Hid (liwI G H f wl z = L) ∧ Hid (L.length ≤ 1048576) := ⟨_, rfl, liwI_le⟩
  have hll := HLF.out
  have hoo : (o != o) = false := by simp
  clear hB hF hF' hy
  go_wp2_with fail
  refine (implLif _ _ _ _ _ _ _ _ _ _ _ _ _ _ x1 y1 f1 m1 HF.out HF'.out hfl (by omega) hwc).mono ?_
  rw [HL.out, HO.out]
  rintro e w2 ⟨b2, c2, ⟨rfl, hB2⟩, hO2⟩
  have p2 := own_intsQ hO2
  clear hO2
  have hz2 := hB2.size
  have x2 := (x1.below hB2).more hz2
  have y2 := (y1.below hB2).more hz2
  have f2 := (f1.below hB2).more hz2
  have m2 := (m1.below hB2).more hz2
  have HB2 := Lib.hid (HB1.out.trans (hB2.mono HB1.out.size))
  clear hB2 hz2 x1 y1 f1 m1
  go_wp2_with fail
  refine (specLif _ _ _ _ _ _ _ _ _ _ _ _ _ _ _ x2 y2 f2 m2 (Nat.le_refl _) HF.out HF'.out hfl (by omega)).mono ?_
  rw [HL.out, HO.out]
  rintro e w3 ⟨b3, c3, ⟨rfl, hB3⟩, t3⟩
  have hz3 := hB3.size
  have x3 := (x2.below hB3).more hz3
  have y3 := (y2.below hB3).more hz3
  have f3 := (f2.below hB3).more hz3
  have m3 := (m2.below hB3).more hz3
  have p3 := (p2.below hB3).more hz3
  have HB3 := Lib.hid (HB2.out.trans (hB3.mono HB2.out.size))
  clear hB3 hz3 x2 y2 f2 m2 p2
  go_wp2_with fail
  refine (sameS_same _ _ _ _ _ _ _ p3 t3 HLF.out).mono ?_
  rintro e w4 h4
  obtain ⟨rfl, hB4⟩ := h4.below
  clear h4
  have hz4 := hB4.size
  have x4 := (x3.below hB4).more hz4
  have y4 := (y3.below hB4).more hz4
  have f4 := (f3.below hB4).more hz4
  have m4 := (m3.below hB4).more hz4
  have p4 := (p3.below hB4).more hz4
  have t4 := (t3.below hB4).more hz4
  have HB4 := Lib.hid (HB3.out.trans (hB4.mono HB3.out.size))
  clear hB4 hz4 x3 y3 f3 m3 p3 t3
  clear t4
  cases o with
  | false =>
    obtain rfl : L = [] := HL.out.symm.trans (lif_no HO.out)
    clear x4 y4 f4 m4 p4
    go_wp2_with fail
    refine (alive_any _).mono ?_
    rintro e w5 ⟨rfl, hB5⟩
    have hz5 := hB5.size
    have HB5 := Lib.hid (HB4.out.trans (hB5.mono HB4.out.size))
    clear hB5 hz5 
    go_wp2_with fail
    go_ret
    exact ⟨rfl, HB5.out⟩
  | true =>
    obtain ⟨hcv, hwk, hz, hf0⟩ := lifK_iff.1 HO.out
    obtain ⟨hgH, hw13, hwT, _⟩ := walk_iff.1 hwk
    obtain ⟨⟨hgG, _⟩, hfm⟩ := mapOk_iff.1 (cov_iff.1 hcv).1
    obtain ⟨hS, hlen, hwkL⟩ := lif_fin HO.out
    have HON : Hid (∀ k j, 0 < k → k < wl.length → j < G.length → j ≠ nd L k → nd f j = nd wl k → walkI G (L.set k (j : Int)) = false) := Lib.hid fun k j h1 h2 h3 h4 h5 => by
      have := lif_only HO.out h1 h2 h3 (by rw [HL.out]; exact h4) h5
      rwa [HL.out] at this
    rw [HL.out] at hS hlen hwkL
    have HfT := Lib.hid hfm.1
    have HwT := Lib.hid hwT
    have HS := Lib.hid hS
    have HWL := Lib.hid hwkL
    have hl1 : L.length ≤ wl.length := by omega
    have hl2 : wl.length ≤ L.length := by omega
    have hfl1 : f.length ≤ G.length := by have := HfT.out.1; omega
    have hfl2 : G.length ≤ f.length := by have := HfT.out.1; omega
    have hLne : 0 < L.length := by omega
    obtain ⟨bp, op, u0, rfl, hbp, hcp, HU0⟩ := p4.at_ (k := 0) hLne
    replace hcp : w4.cell? ⟨bp, op, none⟩ = some (.int .i64 u0) := hcp
    have hu0 : (u0 == z) = true := by
      have h1 : nd L 0 = u0.toNat := nd_eq HU0.out
      have h2 := HS.out.first
      rw [h1] at h2
      have h3 := HS.out.tells.2 0 u0 HU0.out
      rw [show u0 = z by omega]; exact beq_self_eq_true _
    have hLL : ((L.length : Int) == (wl.length : Int)) = true := by rw [show L.length = wl.length by omega]; exact beq_self_eq_true _
    have X4 := Lib.hid x4
    have F4 := Lib.hid f4
    have M4 := Lib.hid m4
    have P4 := Lib.hid p4
    clear hcv hwk hz hf0 hgH hw13 hwT hgG hfm hS hlen hwkL x4 y4 f4 m4 p4
    go_wp2_with fail
    go_loopw [12] (fun i wr => ∃ k : Nat, k ≤ L.length ∧ i = .int .i64 k ∧ Below w4.heap.size w4 wr) (fun i _ => L.length - (intOf i).toNat)
    case atStart => exact ⟨0, Nat.zero_le _, rfl, Below.refl _ _⟩
    case round =>
      obtain ⟨k, hk, rfl, hB⟩ := hrel
      by_cases hlt : k < L.length
      · have hkw : k < wl.length := by omega
        obtain ⟨b5, o5, v5, e5, hb5, hc5, HV5⟩ := (P4.out.below hB).at_ hlt
        cases e5
        have hv5 := HS.out.tells.2 k v5 HV5.out
        obtain ⟨p, rfl⟩ : ∃ p : Nat, v5 = (p : Int) := ⟨v5.toNat, by omega⟩
        have hpG : p < G.length := by omega
        have hpf : p < f.length := by omega
        have HNP : Hid (nd L k = p) := Lib.hid (by rw [nd_eq HV5.out]; exact Int.toNat_natCast _)
        have HFr := Lib.hid (F4.out.below hB)
        obtain ⟨b6, o6, v6, rfl, hb6, hc6, HV6⟩ := HFr.out.at_ hpf
        obtain ⟨b7, o7, v7, rfl, hb7, hc7, HV7⟩ := (M4.out.below hB).at_ hkw
        have hv6 := HfT.out.2 p v6 HV6.out
        have hv7 := HwT.out.2 k v7 HV7.out
        have hN6 : nd f p = v6.toNat := nd_eq HV6.out
        have HN7 : Hid (nd wl k = v7.toNat) := Lib.hid (nd_eq HV7.out)
        have hled := HS.out.led k (by omega)
        rw [HNP.out, hN6, HN7.out] at hled
        have hne : (v6 != v7) = false := by rw [show v6 = v7 by omega]; exact bne_self_eq_false _
        have hki : (k : Int) < (L.length : Int) := by omega
        have hkwi : (k : Int) < (wl.length : Int) := by omega
        have hpi : (p : Int) < (f.length : Int) := by omega
        have HBr := Lib.hid hB
        clear hv5 hv6 hN6 hled hB
        go_wp2_with fail
        go_quiet (fail)
        have hBq : Below w4.heap.size w4 (wr.drewN nq) := below_drewN HBr.out nq
        obtain ⟨wq, hwq⟩ : ∃ W, wr.drewN nq = W := ⟨_, rfl⟩
        rw [hwq] at hBq ⊢
        clear hwq hc5 hc6 hc7
        go_wp2_with fail
        go_loopw [13, 14] (fun s i wr => ∃ (j : Nat) (q : Value), j ≤ G.length ∧ s = .int .i64 j ∧ i = q ∧ Below w4.heap.size w4 wr) (fun s _ _ => G.length - (intOf s).toNat)
        case atStart => exact ⟨0, _, Nat.zero_le _, rfl, rfl, hBq⟩
        case round =>
          clear hBq
          obtain ⟨j, q, hjl, rfl, rfl, hB⟩ := hrel
          by_cases hltj : j < G.length
          · have hji : (j : Int) < (G.length : Int) := by omega
            by_cases hk0 : 0 < k
            · have hk0i : (0 : Int) < (k : Int) := by omega
              have hB0 : Below wr.heap.size wr (wr.alloc (.cells #[] 3)) := (Below.refl _ _).alloc (Nat.le_refl _) _
              have hown0 : (wr.alloc (.cells #[] 3)).ownsRow wr.heap.size 3 1 (.slice (some ⟨wr.heap.size, 0, none⟩) 0 0) 0 [] := World.ownsRow_lit (size := 1) wr #[] 0 (Nat.le_refl _) (Nat.zero_le _) rfl
              have hQa : Ints w4.heap.size (wr.alloc (.cells #[] 3)) (some ⟨bp, op, none⟩) L := P4.out.below (hB.trans (hB0.mono hB.size))
              have hone : ∀ u ∈ L.map (Value.int .i64), u.oneCell' = true := fun u hu => by obtain ⟨x, _, rfl⟩ := List.mem_map.1 hu; rfl
              have hws := hB.size
              go_wp2_with (at_builtin; refine wpList_append_own _ rfl _ _ 24 rfl wr.heap.size 3 i1 (.int .i64 0) 1 8 Try.underlying24 hj hy0 hy1 hy2 rfl (by decide) (.slice (some ⟨wr.heap.size, 0, none⟩) 0 0) 0 [] rfl hown0 ⟨bp, op, none⟩ L.length c2 (L.map (Value.int .i64)) rfl (by simp) (ints_news8 hQa) hone (by unfold maxLen; omega) (by omega) (by simp) ?_; intro v9 wz hown4 hgrow4 _; rw [Nat.zero_add, List.nil_append] at hown4; have hBz : Below wr.heap.size wr wz := hB0.grown hgrow4 (by simp) (fun r e => by have e' : some wr.heap.size = some r := e; cases e'; exact Nat.le_refl _); obtain ⟨g4, c4, rfl⟩ := Joins.ownsRow_form hown4 (by omega); have hg4 := (hown4.lt g4 (by simp [Value.ownBlock])).1; have hfz := hown4.frozenAt k; have hcz : wz.cell? ⟨g4, k, none⟩ = some (.int .i64 (p : Int)) := (by rw [hown4.cellAt k (by omega), List.getElem?_map, HV5.out]; rfl); have hst := (hown4.stored k (.int .i64 (j : Int))).1; have HB9 := Lib.hid (hB.trans (hBz.mono hws)); clear hgrow4 hown0 hQa hown4 hBz hB0)
              have hBs : Below w4.heap.size w4 (wz.setCell ⟨g4, k, none⟩ (.int .i64 (j : Int))) := HB9.out.setCell (p := ⟨g4, k, none⟩) (by show w4.heap.size ≤ g4; omega) _
              rw [← List.map_set] at hst
              obtain ⟨WS, hWS⟩ : ∃ W, wz.setCell ⟨g4, k, none⟩ (.int .i64 (j : Int)) = W := ⟨_, rfl⟩
              rw [hWS] at hBs hst ⊢
              have hjf : j < f.length := by omega
              have hjfi : (j : Int) < (f.length : Int) := by omega
              obtain ⟨b9, o9, u9, e9, hb9, hc9, HU9⟩ := (P4.out.below hBs).at_ hlt
              cases e9
              obtain rfl : u9 = (p : Int) := by have h1 := HU9.out; rw [HV5.out] at h1; cases h1; rfl
              obtain ⟨b8, o8, v8, e8, hb8, hc8, HV8⟩ := (F4.out.below hBs).at_ hjf
              cases e8
              obtain ⟨b10, o10, u10, e10, hb10, hc10, HU10⟩ := (M4.out.below hBs).at_ hkw
              cases e10
              obtain rfl : u10 = v7 := by have h1 := HU10.out; rw [HV7.out] at h1; cases h1; rfl
              have hN8 : nd f j = v8.toNat := nd_eq HV8.out
              have hv8 := HfT.out.2 j v8 HV8.out
              have hv7 := HwT.out.2 k u10 HV7.out
              clear hWS hcz hfz hg4
              by_cases hjp : j = p
              · have hne1 : ((j : Int) != (p : Int)) = false := by rw [hjp]; exact bne_self_eq_false _
                clear hjp hN8 hv8 hv7 hst
                go_quiet (fail)
                go_wp2_with fail
                go_roundw
                case rel => exact ⟨j + 1, _, by omega, by go_num, rfl, below_drewN hBs _⟩
                case measure => simp [intOf]; omega
              · have hne1 : ((j : Int) != (p : Int)) = true := bne_iff_ne.2 fun h => hjp (Int.ofNat_inj.1 h)
                by_cases hvv : v8 = u10
                · have heq2 : (v8 == u10) = true := by rw [hvv]; exact beq_self_eq_true _
                  have HWN : Hid (walkI G (L.set k (j : Int)) = false) := Lib.hid (HON.out k j hk0 hkw hltj (by rw [HNP.out]; exact hjp) (by rw [hN8, HN7.out, hvv]))
                  have hIo : Ints WS.drew.heap.size WS.drew (some ⟨g4, 0, none⟩) (L.set k (j : Int)) := own_intsD (W := WS.drew) (by rw [List.length_set]) hst
                  have HCW0 := implWlk _ _ cG c4 G (L.set k (j : Int)) WS.drew ((X4.out.below hBs.drew).more hBs.size) hIo HF.out (by rw [List.length_set]; exact hll)
                  rw [HWN.out, List.length_set] at HCW0
                  have HCW := Lib.hid HCW0
                  clear HCW0 hIo hst hjp hvv hN8 hv8 hv7
                  refine wp_region_held_drew (S := fun W => W.cell? ⟨bp, op + k, none⟩ = some (.int .i64 (p : Int)) ∧ W.cell? ⟨b6, o6 + j, none⟩ = some (.int .i64 v8) ∧ W.cell? ⟨b7, o7 + k, none⟩ = some (.int .i64 u10)) (by kernel_rfl) ⟨hc9, hc8, hc10⟩ (fun hS0 => ?_)
                  have hBd : Below w4.heap.size w4 WS.drew := hBs.drew
                  have hk9 : bp < WS.drew.heap.size ∧ b6 < WS.drew.heap.size ∧ b7 < WS.drew.heap.size := ⟨Nat.lt_of_lt_of_le hb9 hBd.size, Nat.lt_of_lt_of_le hb8 hBd.size, Nat.lt_of_lt_of_le hb10 hBd.size⟩
                  have hsd : w4.heap.size ≤ WS.drew.heap.size := hBd.size
                  obtain ⟨V, hV⟩ : ∃ V, WS.drew = V := ⟨_, rfl⟩
                  rw [hV] at hS0 HCW hBd hk9 hsd ⊢
                  clear hV hBs hc9 hc8 hc10
                  refine wpAnyH_take (i := 0) (v := ?_) rfl (by kernel_rfl) (by kernel_rfl) (by kernel_rfl) (fun _ _ _ h => h) (Or.inl ⟨by rfl, ?_⟩) hS0 ?_
                  case refine_2 => rintro w ⟨s1, s2, s3⟩; first | (go_simp; rfl) | go_simp
                  simp only [Act.put, List.getElem_toArray, List.getElem_cons_zero, List.setIfInBounds_toArray, List.set_cons_zero, List.set_cons_succ]
                  refine wpAnyH_take (i := 1) (v := ?_) rfl (by kernel_rfl) (by kernel_rfl) (by kernel_rfl) (fun _ _ _ h => h) (Or.inl ⟨by rfl, ?_⟩) hS0 ?_
                  case refine_2 => rintro w ⟨s1, s2, s3⟩; first | (go_simp; rfl) | go_simp
                  simp only [Act.put, List.getElem_toArray, List.getElem_cons_succ, List.getElem_cons_zero, List.setIfInBounds_toArray, List.set_cons_zero, List.set_cons_succ]
                  refine wpAnyH_take (i := 2) (v := ?_) rfl (by kernel_rfl) (by kernel_rfl) (by kernel_rfl) (fun _ _ _ h => h) (Or.inl ⟨by rfl, ?_⟩) hS0 ?_
                  case refine_2 => rintro w ⟨s1, s2, s3⟩; first | (go_simp; rfl) | go_simp
                  simp only [Act.put, List.getElem_toArray, List.getElem_cons_succ, List.getElem_cons_zero, List.setIfInBounds_toArray, List.set_cons_zero, List.set_cons_succ]
                  refine wpAnyH_take (i := 3) (v := ?_) rfl (by kernel_rfl) (by kernel_rfl) (by kernel_rfl) (fun _ _ _ h => h) (Or.inl ⟨by rfl, ?_⟩) hS0 ?_
                  case refine_2 => rintro w ⟨s1, s2, s3⟩; first | (go_simp; rfl) | go_simp
                  simp only [Act.put, List.getElem_toArray, List.getElem_cons_succ, List.getElem_cons_zero, List.setIfInBounds_toArray, List.set_cons_zero, List.set_cons_succ]
                  refine wpAnyH_take (i := 4) (v := ?_) rfl (by kernel_rfl) (by kernel_rfl) (by kernel_rfl) (fun _ _ _ h => h) (Or.inl ⟨by rfl, ?_⟩) hS0 ?_
                  case refine_2 => rintro w ⟨s1, s2, s3⟩; first | (go_simp; rfl) | go_simp
                  simp only [Act.put, List.getElem_toArray, List.getElem_cons_succ, List.getElem_cons_zero, List.setIfInBounds_toArray, List.set_cons_zero, List.set_cons_succ]
                  refine wpAnyH_take (i := 5) (v := ?_) rfl (by kernel_rfl) (by kernel_rfl) (by kernel_rfl) (fun _ _ _ h => h) (Or.inl ⟨by rfl, ?_⟩) hS0 ?_
                  case refine_2 => rintro w ⟨s1, s2, s3⟩; first | (go_simp; rfl) | go_simp
                  simp only [Act.put, List.getElem_toArray, List.getElem_cons_succ, List.getElem_cons_zero, List.setIfInBounds_toArray, List.set_cons_zero, List.set_cons_succ]
                  refine wpAnyH_take (i := 6) (v := ?_) rfl (by kernel_rfl) (by kernel_rfl) (by kernel_rfl) (fun _ _ _ h => h) (Or.inl ⟨by rfl, ?_⟩) hS0 ?_
                  case refine_2 => rintro w ⟨s1, s2, s3⟩; first | (go_simp; rfl) | go_simp
                  simp only [Act.put, List.getElem_toArray, List.getElem_cons_succ, List.getElem_cons_zero, List.setIfInBounds_toArray, List.set_cons_zero, List.set_cons_succ]
                  refine wpAnyH_take (i := 7) (v := ?_) rfl (by kernel_rfl) (by kernel_rfl) (by kernel_rfl) (fun _ _ _ h => h) (Or.inl ⟨by rfl, ?_⟩) hS0 ?_
                  case refine_2 => rintro w ⟨s1, s2, s3⟩; first | (go_simp; rfl) | go_simp
                  simp only [Act.put, List.getElem_toArray, List.getElem_cons_succ, List.getElem_cons_zero, List.setIfInBounds_toArray, List.set_cons_zero, List.set_cons_succ]
                  refine wpAnyH_take (i := 8) (v := ?_) rfl (by kernel_rfl) (by kernel_rfl) (by kernel_rfl) (fun _ _ _ h => h) (Or.inl ⟨by rfl, ?_⟩) hS0 ?_
                  case refine_2 => rintro w ⟨s1, s2, s3⟩; first | (go_simp; rfl) | go_simp
                  simp only [Act.put, List.getElem_toArray, List.getElem_cons_succ, List.getElem_cons_zero, List.setIfInBounds_toArray, List.set_cons_zero, List.set_cons_succ]
                  refine wpAnyH_take (i := 9) (v := ?_) rfl (by kernel_rfl) (by kernel_rfl) (by kernel_rfl) (fun _ _ _ h => h) (Or.inl ⟨by rfl, ?_⟩) hS0 ?_
                  case refine_2 => rintro w ⟨s1, s2, s3⟩; first | (go_simp; rfl) | go_simp
                  simp only [Act.put, List.getElem_toArray, List.getElem_cons_succ, List.getElem_cons_zero, List.setIfInBounds_toArray, List.set_cons_zero, List.set_cons_succ]
                  refine wpAnyH_take (i := 10) (v := ?_) rfl (by kernel_rfl) (by kernel_rfl) (by kernel_rfl) (fun _ _ _ h => h) (Or.inl ⟨by rfl, ?_⟩) hS0 ?_
                  case refine_2 => rintro w ⟨s1, s2, s3⟩; first | (go_simp; rfl) | go_simp
                  simp only [Act.put, List.getElem_toArray, List.getElem_cons_succ, List.getElem_cons_zero, List.setIfInBounds_toArray, List.set_cons_zero, List.set_cons_succ]
                  refine wpAnyH_take (i := 11) (v := ?_) rfl (by kernel_rfl) (by kernel_rfl) (by kernel_rfl) (fun _ _ _ h => h) (Or.inl ⟨by rfl, ?_⟩) hS0 ?_
                  case refine_2 => rintro w ⟨s1, s2, s3⟩; first | (go_simp; rfl) | go_simp
                  simp only [Act.put, List.getElem_toArray, List.getElem_cons_succ, List.getElem_cons_zero, List.setIfInBounds_toArray, List.set_cons_zero, List.set_cons_succ]
                  refine wpAnyH_take (i := 12) (v := ?_) rfl (by kernel_rfl) (by kernel_rfl) (by kernel_rfl) (fun _ _ _ h => h) (Or.inl ⟨by rfl, ?_⟩) hS0 ?_
                  case refine_2 => rintro w ⟨s1, s2, s3⟩; first | (go_simp; rfl) | go_simp
                  simp only [Act.put, List.getElem_toArray, List.getElem_cons_succ, List.getElem_cons_zero, List.setIfInBounds_toArray, List.set_cons_zero, List.set_cons_succ]
                  refine wpAnyH_take (i := 13) (v := ?_) rfl (by kernel_rfl) (by kernel_rfl) (by kernel_rfl) (fun _ _ _ h => h) (Or.inl ⟨by rfl, ?_⟩) hS0 ?_
                  case refine_2 => rintro w ⟨s1, s2, s3⟩; first | (go_simp; rfl) | go_simp
                  simp only [Act.put, List.getElem_toArray, List.getElem_cons_succ, List.getElem_cons_zero, List.setIfInBounds_toArray, List.set_cons_zero, List.set_cons_succ]
                  refine wpAnyH_take (i := 14) (v := ?_) rfl (by kernel_rfl) (by kernel_rfl) (by kernel_rfl) (fun _ _ _ h => h) (Or.inl ⟨by rfl, ?_⟩) hS0 ?_
                  case refine_2 => rintro w ⟨s1, s2, s3⟩; first | (go_simp; rfl) | go_simp
                  simp only [Act.put, List.getElem_toArray, List.getElem_cons_succ, List.getElem_cons_zero, List.setIfInBounds_toArray, List.set_cons_zero, List.set_cons_succ]
                  refine wpAnyH_take (i := 15) (v := ?_) rfl (by kernel_rfl) (by kernel_rfl) (by kernel_rfl) (fun _ _ _ h => h) (Or.inl ⟨by rfl, ?_⟩) hS0 ?_
                  case refine_2 => rintro w ⟨s1, s2, s3⟩; first | (go_simp; rfl) | go_simp
                  simp only [Act.put, List.getElem_toArray, List.getElem_cons_succ, List.getElem_cons_zero, List.setIfInBounds_toArray, List.set_cons_zero, List.set_cons_succ]
                  refine wpAnyH_take (i := 16) (v := ?_) rfl (by kernel_rfl) (by kernel_rfl) (by kernel_rfl) (fun _ _ _ h => h) (Or.inl ⟨by rfl, ?_⟩) hS0 ?_
                  case refine_2 => rintro w ⟨s1, s2, s3⟩; first | (go_simp; rfl) | go_simp
                  simp only [Act.put, List.getElem_toArray, List.getElem_cons_succ, List.getElem_cons_zero, List.setIfInBounds_toArray, List.set_cons_zero, List.set_cons_succ]
                  refine wpAnyH_take (i := 17) (v := ?_) rfl (by kernel_rfl) (by kernel_rfl) (by kernel_rfl) (fun _ _ _ h => h) (Or.inl ⟨by rfl, ?_⟩) hS0 ?_
                  case refine_2 => rintro w ⟨s1, s2, s3⟩; first | (go_simp; rfl) | go_simp
                  simp only [Act.put, List.getElem_toArray, List.getElem_cons_succ, List.getElem_cons_zero, List.setIfInBounds_toArray, List.set_cons_zero, List.set_cons_succ]
                  refine wpAnyH_take (i := 18) (v := ?_) rfl (by kernel_rfl) (by kernel_rfl) (by kernel_rfl) (fun _ _ _ h => h) (Or.inl ⟨by rfl, ?_⟩) hS0 ?_
                  case refine_2 => rintro w ⟨s1, s2, s3⟩; first | (go_simp; rfl) | go_simp
                  simp only [Act.put, List.getElem_toArray, List.getElem_cons_succ, List.getElem_cons_zero, List.setIfInBounds_toArray, List.set_cons_zero, List.set_cons_succ]
                  refine wpAnyH_take (i := 19) (v := ?_) rfl (by kernel_rfl) (by kernel_rfl) (by kernel_rfl) (fun _ _ _ h => h) (Or.inl ⟨by rfl, ?_⟩) hS0 ?_
                  case refine_2 => rintro w ⟨s1, s2, s3⟩; first | (go_simp; rfl) | go_simp
                  simp only [Act.put, List.getElem_toArray, List.getElem_cons_succ, List.getElem_cons_zero, List.setIfInBounds_toArray, List.set_cons_zero, List.set_cons_succ]
                  refine wpAnyH_ready (rs := [20]) (by kernel_rfl) (by simp) ?_
                  refine AllReadyH.cons rfl (fun K hK => ?_) AllReadyH.nil
                  go_simp
                  refine HCW.out.mono ?_
                  rintro e w7 ⟨rfl, hD⟩
                  have hS1 := (And.intro ((hD.cell (p := ⟨bp, op + k, none⟩) hk9.1).trans hS0.1) (And.intro ((hD.cell (p := ⟨b6, o6 + j, none⟩) hk9.2.1).trans hS0.2.1) ((hD.cell (p := ⟨b7, o7 + k, none⟩) hk9.2.2).trans hS0.2.2)))
                  have hB7 := hBd.trans (hD.mono hsd)
                  refine hK.out _ _ hS1 (fun _ => ?_)
                  clear hD hS0 HCW
                  clear hK K
                  refine wpAnyH_take (i := 21) (v := ?_) rfl (by kernel_rfl) (by kernel_rfl) (by kernel_rfl) (fun _ _ _ h => h) (Or.inl ⟨by rfl, ?_⟩) hS1 ?_
                  case refine_2 => rintro w ⟨s1, s2, s3⟩; first | (go_simp; rfl) | go_simp
                  simp only [Act.put, List.getElem_toArray, List.getElem_cons_succ, List.getElem_cons_zero, List.setIfInBounds_toArray, List.set_cons_zero, List.set_cons_succ]
                  refine wpAnyH_done (by kernel_rfl) ?_ _
                  go_wp2_with fail
                  go_roundw
                  case rel => exact ⟨j + 1, _, by omega, by go_num, rfl, hB7⟩
                  case measure => simp [intOf]; omega
                · have heq2 : (v8 == u10) = false := beq_eq_false_iff_ne.2 hvv
                  clear hjp hvv hN8 hv8 hv7 hst
                  go_quiet (fail)
                  go_wp2_with fail
                  go_roundw
                  case rel => exact ⟨j + 1, _, by omega, by go_num, rfl, below_drewN hBs _⟩
                  case measure => simp [intOf]; omega
            · obtain rfl : k = 0 := by omega
              go_wp2_with fail
              go_roundw
              case rel => exact ⟨0 + 1, by omega, by go_num, hB⟩
              case measure => simp [intOf]; omega
          · obtain rfl : j = G.length := by omega
            go_wp2_with fail
            go_roundw
            case rel => exact ⟨k + 1, by omega, by go_num, hB⟩
            case measure => simp [intOf]; omega
      · obtain rfl : k = L.length := by omega
        have HC := implWlk _ _ cG c2 G L wr ((X4.out.below hB).more hB.size) ((P4.out.below hB).more hB.size) HF.out hll
        rw [HWL.out] at HC
        have HC5 := Lib.hid HC
        have hcpr : wr.cell? ⟨bp, op, none⟩ = some (.int .i64 u0) := (hB.cell (p := ⟨bp, op, none⟩) hbp).trans hcp
        have HBr := Lib.hid (HB4.out.trans (hB.mono HB4.out.size))
        have hcp5 : ∀ W', Below wr.heap.size wr W' → W'.cell? ⟨bp, op, none⟩ = some (.int .i64 u0) := fun W' h => (h.cell (p := ⟨bp, op, none⟩) (by have := hB.size; show bp < wr.heap.size; omega)).trans hcpr
        clear HC hB
        go_wp2_with fail
        refine HC5.out.mono ?_
        rintro e w5 ⟨rfl, hB5⟩
        have hc9 := hcp5 w5 hB5
        have hB9 := HBr.out.trans (hB5.mono HBr.out.size)
        clear hcp5
        go_wp2_with fail
        go_ret
        exact ⟨rfl, hB9⟩

end Go.Proofs.Ytldkgkpiceamhaa
