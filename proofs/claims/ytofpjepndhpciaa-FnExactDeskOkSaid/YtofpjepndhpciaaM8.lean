/-
  The model's maps, node by node: spec.l2Maps.
-/
import Derived.Test.YtofpjepndhpciaaM8a
import Derived.Test.YtofpjepndhpciaaZM
import Derived.StillTactics
namespace Go.Proofs.Ytofpjepndhpciaa
open Go.RowKit Go.Shelf Go.Deep

attribute [local irreducible] wpStill

/-- Rows of one's own, no cell of which lies below. -/
def MadeO (xss : List (List Int)) (w : World) (e : Ending) (w' : World) : Prop := ∃ (a : Option Addr) (c : Nat), (e = .returned (.slice a xss.length c) ∧ Below w.heap.size w w') ∧ OwnMat w.heap.size w' (.slice a xss.length c) xss

set_option maxRecDepth 100000 in
set_option maxHeartbeats 40000000 in
theorem specMapsO (a : Option Addr) (c : Nat) (a' : Option Addr) (c' : Nat) (G H : List (List Int)) (n₀ : Nat) (w : World) (hM : Mat n₀ w a G) (hM' : Mat n₀ w a' H) (hn₀ : n₀ ≤ w.heap.size) (hfew : fewI G H = true) :
    Calls Try.prog 69 #[.slice a G.length c, .slice a' H.length c'] w (MadeO (mapsL G H) w) := by
  obtain ⟨i0, hi, hz0, hz1, hz2⟩ := info_parts infoInts
  obtain ⟨i1, hj, hy0, hy1, hy2⟩ := info_parts infoInt
  have HG := Lib.hid (good_of (fewI_iff.1 hfew).1)
  have HH := Lib.hid (good_of (fewI_iff.1 hfew).2.1)
  have hl9 := HG.out.2.1
  have hl9' := HH.out.2.1
  have HFw := Lib.hid hfew
  have HZ : Hid (mapsL G H = lvl G H G.length) := Lib.hid (by rw [mapsL_yes hfew, lvl_eq])
  rw [HZ.out]
  have es : ∀ (W : World) (o : Obj), (W.alloc o).heap.size = W.heap.size + 1 := fun W o => by simp
  clear hfew
  go_enter Try.func69, Try.ntmps69
  go_wp2_with fail
  go_loopw [5, 6] (fun v i wr => ∃ (k g cap : Nat), k ≤ G.length ∧ i = .int .i64 k ∧ v = .slice (some ⟨g, 0, none⟩) (lvl G H k).length cap ∧ Hid (OwnMat w.heap.size wr (.slice (some ⟨g, 0, none⟩) (lvl G H k).length cap) (lvl G H k)) ∧ Below w.heap.size w wr ∧ Hid (k = 0 → wr.cell? ⟨g, 0, none⟩ = some (.slice (some ⟨w.heap.size, 0, none⟩) 0 0)))
    (fun _ i _ => G.length - (intOf i).toNat)
  case atStart =>
    refine ⟨0, w.heap.size + 1, 1, Nat.zero_le _, rfl, rfl, ?_, ((Below.refl _ w).alloc (Nat.le_refl _) _).alloc (by simp) _, Lib.hid fun _ => by have h := cell_one_new (w.alloc (.cells #[] 3)) (.slice (some ⟨w.heap.size, 0, none⟩) 0 0) 47 0 _ rfl; rw [es] at h; exact h⟩
    have h1 : (w.alloc (.cells #[] 3)).ownsRow w.heap.size 3 1 (.slice (some ⟨w.heap.size, 0, none⟩) 0 0) 0 [] := World.ownsRow_lit (size := 1) w #[] 0 (Nat.le_refl _) (Nat.zero_le _) rfl
    have h2 := World.ownsRow_lit (size := 1) (base := w.heap.size) (e := 47) (w.alloc (.cells #[] 3)) #[.slice (some ⟨w.heap.size, 0, none⟩) 0 0] 1 (by simp) (by unfold maxLen; omega) rfl
    rw [es] at h2
    refine Lib.hid ⟨[.slice (some ⟨w.heap.size, 0, none⟩) 0 0], h2, fun i x xs hx hxs => ?_⟩
    have e : i = 0 := by have := (List.getElem?_eq_some_iff.1 hx).1; simp at this; omega
    subst e
    simp [lvl] at hx hxs
    subst hx; subst hxs
    exact h1.alloc _
  case round =>
    obtain ⟨k, g, cap, hk, rfl, rfl, HO, hB, HK0⟩ := hrel
    by_cases hlt : k < G.length
    · have hws := hB.size
      have HLk := Lib.hid (lvl_le HFw.out hk)
      have HLk1 : Hid ((lvl G H (k + 1)).length ≤ 7000) := Lib.hid (lvl_le HFw.out (by omega))
      obtain ⟨L, HL⟩ : ∃ L, Hid (lvl G H k = L) := ⟨_, rfl⟩
      have HLn : Hid (lvl G H (k + 1) = L.flatMap fun p => exts G H p H.length) := Lib.hid (by rw [← HL.out]; rfl)
      have HLl : Hid (∀ (i : Nat) (p : List Int), L[i]? = some p → p.length = k ∧ Tells k H.length p) := Lib.hid fun i p hp => by rw [← HL.out] at hp; exact ⟨lvl_len hp, lvl_tells hp⟩
      rw [HL.out] at HO HLk
      rw [HLn.out] at HLk1
      simp only [HL.out]
      have hL7 := HLk.out
      clear HLk
      obtain ⟨wo, rfl⟩ : ∃ wo : World, wo = wr := ⟨_, rfl⟩
      go_wp2_with fail
      -- BODY
      have hsz1 : wo.heap.size ≤ (wo.alloc (.cells #[] 47)).heap.size := by simp
      go_loopw [7, 8] (fun v i wr => ∃ (m g' cap' : Nat), m ≤ L.length ∧ i = .int .i64 m ∧ v = .slice (some ⟨g', 0, none⟩) (nxt G H L m).length cap' ∧ Hid (OwnMat wo.heap.size wr (.slice (some ⟨g', 0, none⟩) (nxt G H L m).length cap') (nxt G H L m)) ∧ Below wo.heap.size wo wr)
        (fun _ i _ => L.length - (intOf i).toNat)
      case atStart => exact ⟨0, _, _, Nat.zero_le _, rfl, rfl, OwnMat.start wo (Nat.le_refl _), (Below.refl _ _).alloc (Nat.le_refl _) _⟩
      case round =>
        obtain ⟨m, g', cap', hm, rfl, rfl, HN, hBi⟩ := hrel
        by_cases hlm : m < L.length
        · obtain ⟨q, HQ⟩ : ∃ q, Hid (L[m]? = some q) := ⟨_, List.getElem?_eq_getElem hlm⟩
          obtain ⟨hql, hqt⟩ := HLl.out m q HQ.out
          have HQT := Lib.hid hqt
          have HQL := Lib.hid hql
          have hsi := hBi.size
          clear hqt hql
          go_wp2_with fail
          go_loopw [7, 9] (fun v i wr => ∃ (x g' cap' : Nat), x ≤ H.length ∧ i = .int .i64 x ∧ v = .slice (some ⟨g', 0, none⟩) (nxt G H L m ++ exts G H q x).length cap' ∧ Hid (OwnMat wo.heap.size wr (.slice (some ⟨g', 0, none⟩) (nxt G H L m ++ exts G H q x).length cap') (nxt G H L m ++ exts G H q x)) ∧ Below wo.heap.size wo wr)
            (fun _ i _ => H.length - (intOf i).toNat)
          case atStart => exact ⟨0, g', cap', Nat.zero_le _, rfl, by rw [exts_zero, List.append_nil], by rw [exts_zero, List.append_nil]; exact HN, hBi⟩
          case round =>
            clear HN hBi hsi
            obtain ⟨x, g1, cap1, hx, rfl, rfl, HNx, hBx⟩ := hrel
            by_cases hlx : x < H.length
            · have hsx := hBx.size
              have hMr := hM.below ((hB.trans (hBx.mono hws)).mono hn₀)
              have hMr' := hM'.below ((hB.trans (hBx.mono hws)).mono hn₀)
              have hOut := (HO.out.mat).below hBx
              -- g[k], g[k][k], h[x], h[x][x]
              obtain ⟨b1, o1, a1, c1, rowk, rfl, hb1, hc1, hRk, HRk⟩ := hMr.at_ hlt
              have HEk := Lib.hid (HG.out.len HRk.out)
              obtain ⟨b2, o2, vkk, rfl, hb2, hc2, HVkk⟩ := hRk.at_ (k := k) (by rw [HEk.out]; exact hlt)
              obtain ⟨b3, o3, a3, c3, rowx, rfl, hb3, hc3, hRx, HRx⟩ := hMr'.at_ hlx
              have HEx := Lib.hid (HH.out.len HRx.out)
              obtain ⟨b4, o4, vxx, rfl, hb4, hc4, HVxx⟩ := hRx.at_ (k := x) (by rw [HEx.out]; exact hlx)
              have hkk : vkk = 0 ∨ vkk = 1 := by
                have := (good_iff_ent HG.out.1 HG.out.2.1 (fun i xs h => HG.out.len h)).1 HG.out (⟨k, hlt⟩, ⟨k, hlt⟩)
                rw [ent_eq HRk.out HVkk.out] at this; exact this
              have hxx : vxx = 0 ∨ vxx = 1 := by
                have := (good_iff_ent HH.out.1 HH.out.2.1 (fun i xs h => HH.out.len h)).1 HH.out (⟨x, hlx⟩, ⟨x, hlx⟩)
                rw [ent_eq HRx.out HVxx.out] at this; exact this
              have hr1 : k < rowk.length := by rw [HEk.out]; exact hlt
              have hr9 : rowk.length ≤ 9 := by rw [HEk.out]; exact hl9
              have hr2 : x < rowx.length := by rw [HEx.out]; exact hlx
              have hr8 : rowx.length ≤ 9 := by rw [HEx.out]; exact hl9'
              have hqo := hOut.at_ hlm
              obtain ⟨b5, o5, a5, c5, q', e5, hb5, hc5, hQ5, HQ5⟩ := hqo
              obtain rfl : q = q' := Option.some.inj (HQ.out.symm.trans HQ5.out)
              cases e5
              have hqk : q.length = k := HQL.out
              have HD : Hid (goodB G H q x 0 = (vkk == 0 || vxx == 1)) := Lib.hid (by
                rw [goodB_zero, hqk]; unfold arw; rw [ent_eq HRk.out HVkk.out, ent_eq HRx.out HVxx.out]
                rcases hkk with rfl | rfl <;> rcases hxx with rfl | rfl <;> rfl)
              have HQK := Lib.hid hqk
              clear hqk
              obtain ⟨d0, hd0⟩ : ∃ d0, d0 = (vkk == 0 || vxx == 1) := ⟨_, rfl⟩
              have HD0 : Hid (d0 = goodB G H q x 0) := Lib.hid (hd0.trans HD.out.symm)
              have hred : ∃ (e1 : Bool), e1 = d0 := ⟨_, rfl⟩
              clear hred
              rcases hkk with rfl | rfl
              · have hd0' : d0 = true := by rw [hd0]; rfl
                subst hd0'
                clear hd0 hxx
                go_wp2_with fail
                go_loopw [10, 11] (fun v i wt => ∃ (j n : Nat) (gd : Bool), j ≤ k ∧ i = .int .i64 j ∧ v = .bool gd ∧ wt = wr.drewN n ∧ Hid (gd = goodB G H q x j)) (fun _ i _ => k - (intOf i).toNat)
                case atStart => exact ⟨0, 0, _, Nat.zero_le _, rfl, rfl, rfl, HD0⟩
                case round =>
                  obtain ⟨j, nn, gd, hjk, rfl, rfl, rfl, HGD⟩ := hrel
                  by_cases hlj : j < k
                  · obtain ⟨pj, hpj, enj, hpH⟩ := tells_at HQT.out hlj
                    obtain ⟨b6, o6, y6, e6, hb6, hc6, HY6⟩ := hQ5.at_ (k := j) (by rw [HQK.out]; exact hlj)
                    cases e6
                    have ey6 : y6 = (pj : Int) := by have := HY6.out; rw [hpj] at this; cases this; rfl
                    subst ey6
                    obtain ⟨b7, o7, a7, c7, rowj, e7, hb7, hc7, hRj, HRj⟩ := hMr.at_ (k := j) (by omega)
                    cases e7
                    have HEj := Lib.hid (HG.out.len HRj.out)
                    obtain ⟨b8, o8, vA, rfl, hb8, hc8, HVA⟩ := hRj.at_ (k := k) (by rw [HEj.out]; exact hlt)
                    obtain ⟨b9, o9, a9, c9, rowp, e9, hb9, hc9, hRp, HRp⟩ := hMr'.at_ hpH
                    cases e9
                    have HEp := Lib.hid (HH.out.len HRp.out)
                    obtain ⟨b10, o10, vB, rfl, hb10, hc10, HVB⟩ := hRp.at_ (k := x) (by rw [HEp.out]; exact hlx)
                    obtain ⟨b11, o11, vC, e11, hb11, hc11, HVC⟩ := hRk.at_ (k := j) (by rw [HEk.out]; omega)
                    cases e11
                    obtain ⟨b12, o12, vD, e12, hb12, hc12, HVD⟩ := hRx.at_ (k := pj) (by rw [HEx.out]; exact hpH)
                    cases e12
                    have hA : vA = 0 ∨ vA = 1 := by
                      have := (good_iff_ent HG.out.1 HG.out.2.1 (fun i xs h => HG.out.len h)).1 HG.out (⟨j, by omega⟩, ⟨k, hlt⟩)
                      rw [ent_eq HRj.out HVA.out] at this; exact this
                    have hBb : vB = 0 ∨ vB = 1 := by
                      have := (good_iff_ent HH.out.1 HH.out.2.1 (fun i xs h => HH.out.len h)).1 HH.out (⟨pj, hpH⟩, ⟨x, hlx⟩)
                      rw [ent_eq HRp.out HVB.out] at this; exact this
                    have hC : vC = 0 ∨ vC = 1 := by
                      have := (good_iff_ent HG.out.1 HG.out.2.1 (fun i xs h => HG.out.len h)).1 HG.out (⟨k, hlt⟩, ⟨j, by omega⟩)
                      rw [ent_eq HRk.out HVC.out] at this; exact this
                    have hD : vD = 0 ∨ vD = 1 := by
                      have := (good_iff_ent HH.out.1 HH.out.2.1 (fun i xs h => HH.out.len h)).1 HH.out (⟨x, hlx⟩, ⟨pj, hpH⟩)
                      rw [ent_eq HRx.out HVD.out] at this; exact this
                    have HOKE : Hid (okJ G H q x j = ((!(vA == 1) || vB == 1) && (!(vC == 1) || vD == 1))) := Lib.hid (by
                      unfold okJ; rw [HQK.out, enj]; unfold arw; rw [ent_eq HRj.out HVA.out, ent_eq HRp.out HVB.out, ent_eq HRk.out HVC.out, ent_eq HRx.out HVD.out])
                    have hj1 : k < rowj.length := by rw [HEj.out]; exact hlt
                    have hj9 : rowj.length ≤ 9 := by rw [HEj.out]; exact hl9
                    have hp1 : x < rowp.length := by rw [HEp.out]; exact hlx
                    have hp9 : rowp.length ≤ 9 := by rw [HEp.out]; exact hl9'
                    have hj2 : j < rowk.length := by omega
                    have hj3 : j < G.length := by omega
                    have hq1 : j < q.length := by rw [HQK.out]; exact hlj
                    have hq9 : q.length ≤ 9 := by rw [HQK.out]; omega
                    have hpx : pj < rowx.length := by rw [HEx.out]; exact hpH
                    clear hpj enj HY6 HVA HVB HVC HVD HRp hRp hRj HRj
                    rcases hA with rfl | rfl
                    · have HOKE' : Hid (okJ G H q x j = (true && (!(vC == 1) || vD == 1))) := Lib.hid (by rw [HOKE.out]; rcases hBb with rfl | rfl <;> rfl)
                      clear HOKE hBb
                      rcases hC with rfl | rfl
                      · have HOK : Hid (okJ G H q x j = true) := Lib.hid (by rw [HOKE'.out]; rcases hD with rfl | rfl <;> rfl)
                        clear HOKE'
                        clear hD
                        have xhc1 := (show (wr.drewN nn).cell? _ = _ from hc1)
                        have xhc3 := (show (wr.drewN nn).cell? _ = _ from hc3)
                        have xhc5 := (show (wr.drewN nn).cell? _ = _ from hc5)
                        have xhc6 := (show (wr.drewN nn).cell? _ = _ from hc6)
                        have xhc7 := (show (wr.drewN nn).cell? _ = _ from hc7)
                        have xhc8 := (show (wr.drewN nn).cell? _ = _ from hc8)
                        have xhc9 := (show (wr.drewN nn).cell? _ = _ from hc9)
                        have xhc10 := (show (wr.drewN nn).cell? _ = _ from hc10)
                        have xhc11 := (show (wr.drewN nn).cell? _ = _ from hc11)
                        have xhc12 := (show (wr.drewN nn).cell? _ = _ from hc12)
                        clear hc1 hc3 hc5 hc6 hc7 hc8 hc9 hc10 hc11 hc12
                        obtain ⟨U, hU⟩ : ∃ U, wr.drewN nn = U := ⟨_, rfl⟩
                        rw [hU] at xhc1 xhc3 xhc5 xhc6 xhc7 xhc8 xhc9 xhc10 xhc11 xhc12 ⊢
                        have yhc5 := xhc5
                        rw [Nat.zero_add] at yhc5
                        go_wp2_with fail
                        refine wp_region_still_lit (by kernel_rfl) (by kernel_rfl) ?_
                        iterate 50 (first | (refine wpStill_wanted (by rfl) (fun K hK => ?_); go_simp; refine hK _ ?_; clear hK K) | (refine wpStill_unwanted (by rfl) ?_; simp only [Act.put, List.setIfInBounds_toArray, List.set_cons_zero, List.set_cons_succ]))
                        refine wpStill_nil ?_
                        have hUd : U.drew = wr.drewN (nn + 1) := by rw [← hU]; rfl
                        change Exit.then _ _ Exit.normal _ U.drew
                        rw [hUd]
                        have hapx : (nxt G H L m).length + (exts G H q x).length = (nxt G H L m ++ exts G H q x).length := List.length_append.symm
                        rw [hapx]
                        clear hapx
                        go_wp2_with fail
                        go_roundw
                        case rel => exact ⟨j + 1, _, gd, by omega, by go_num, rfl, rfl, Lib.hid (by rw [goodB_succ, HOK.out, ← HGD.out]; simp)⟩
                        case measure => simp [intOf]; omega
                      · rcases hD with rfl | rfl
                        · have HOK : Hid (okJ G H q x j = false) := Lib.hid (by rw [HOKE'.out]; rfl)
                          clear HOKE'
                          have xhc1 := (show (wr.drewN nn).cell? _ = _ from hc1)
                          have xhc3 := (show (wr.drewN nn).cell? _ = _ from hc3)
                          have xhc5 := (show (wr.drewN nn).cell? _ = _ from hc5)
                          have xhc6 := (show (wr.drewN nn).cell? _ = _ from hc6)
                          have xhc7 := (show (wr.drewN nn).cell? _ = _ from hc7)
                          have xhc8 := (show (wr.drewN nn).cell? _ = _ from hc8)
                          have xhc9 := (show (wr.drewN nn).cell? _ = _ from hc9)
                          have xhc10 := (show (wr.drewN nn).cell? _ = _ from hc10)
                          have xhc11 := (show (wr.drewN nn).cell? _ = _ from hc11)
                          have xhc12 := (show (wr.drewN nn).cell? _ = _ from hc12)
                          clear hc1 hc3 hc5 hc6 hc7 hc8 hc9 hc10 hc11 hc12
                          obtain ⟨U, hU⟩ : ∃ U, wr.drewN nn = U := ⟨_, rfl⟩
                          rw [hU] at xhc1 xhc3 xhc5 xhc6 xhc7 xhc8 xhc9 xhc10 xhc11 xhc12 ⊢
                          have yhc5 := xhc5
                          rw [Nat.zero_add] at yhc5
                          go_wp2_with fail
                          refine wp_region_still_lit (by kernel_rfl) (by kernel_rfl) ?_
                          iterate 50 (first | (refine wpStill_wanted (by rfl) (fun K hK => ?_); go_simp; refine hK _ ?_; clear hK K) | (refine wpStill_unwanted (by rfl) ?_; simp only [Act.put, List.setIfInBounds_toArray, List.set_cons_zero, List.set_cons_succ]))
                          refine wpStill_nil ?_
                          have hUd : U.drew = wr.drewN (nn + 1) := by rw [← hU]; rfl
                          change Exit.then _ _ Exit.normal _ U.drew
                          rw [hUd]
                          have hapx : (nxt G H L m).length + (exts G H q x).length = (nxt G H L m ++ exts G H q x).length := List.length_append.symm
                          rw [hapx]
                          clear hapx
                          go_wp2_with fail
                          go_roundw
                          case rel => exact ⟨j + 1, _, false, by omega, by go_num, rfl, rfl, Lib.hid (by rw [goodB_succ, HOK.out]; simp)⟩
                          case measure => simp [intOf]; omega
                        · have HOK : Hid (okJ G H q x j = true) := Lib.hid (by rw [HOKE'.out]; rfl)
                          clear HOKE'
                          have xhc1 := (show (wr.drewN nn).cell? _ = _ from hc1)
                          have xhc3 := (show (wr.drewN nn).cell? _ = _ from hc3)
                          have xhc5 := (show (wr.drewN nn).cell? _ = _ from hc5)
                          have xhc6 := (show (wr.drewN nn).cell? _ = _ from hc6)
                          have xhc7 := (show (wr.drewN nn).cell? _ = _ from hc7)
                          have xhc8 := (show (wr.drewN nn).cell? _ = _ from hc8)
                          have xhc9 := (show (wr.drewN nn).cell? _ = _ from hc9)
                          have xhc10 := (show (wr.drewN nn).cell? _ = _ from hc10)
                          have xhc11 := (show (wr.drewN nn).cell? _ = _ from hc11)
                          have xhc12 := (show (wr.drewN nn).cell? _ = _ from hc12)
                          clear hc1 hc3 hc5 hc6 hc7 hc8 hc9 hc10 hc11 hc12
                          obtain ⟨U, hU⟩ : ∃ U, wr.drewN nn = U := ⟨_, rfl⟩
                          rw [hU] at xhc1 xhc3 xhc5 xhc6 xhc7 xhc8 xhc9 xhc10 xhc11 xhc12 ⊢
                          have yhc5 := xhc5
                          rw [Nat.zero_add] at yhc5
                          go_wp2_with fail
                          refine wp_region_still_lit (by kernel_rfl) (by kernel_rfl) ?_
                          iterate 50 (first | (refine wpStill_wanted (by rfl) (fun K hK => ?_); go_simp; refine hK _ ?_; clear hK K) | (refine wpStill_unwanted (by rfl) ?_; simp only [Act.put, List.setIfInBounds_toArray, List.set_cons_zero, List.set_cons_succ]))
                          refine wpStill_nil ?_
                          have hUd : U.drew = wr.drewN (nn + 1) := by rw [← hU]; rfl
                          change Exit.then _ _ Exit.normal _ U.drew
                          rw [hUd]
                          have hapx : (nxt G H L m).length + (exts G H q x).length = (nxt G H L m ++ exts G H q x).length := List.length_append.symm
                          rw [hapx]
                          clear hapx
                          go_wp2_with fail
                          go_roundw
                          case rel => exact ⟨j + 1, _, gd, by omega, by go_num, rfl, rfl, Lib.hid (by rw [goodB_succ, HOK.out, ← HGD.out]; simp)⟩
                          case measure => simp [intOf]; omega
                    · rcases hBb with rfl | rfl
                      · have HOK : Hid (okJ G H q x j = false) := Lib.hid (by rw [HOKE.out]; rcases hC with rfl | rfl <;> rcases hD with rfl | rfl <;> rfl)
                        clear HOKE
                        clear hC hD
                        have xhc1 := (show (wr.drewN nn).cell? _ = _ from hc1)
                        have xhc3 := (show (wr.drewN nn).cell? _ = _ from hc3)
                        have xhc5 := (show (wr.drewN nn).cell? _ = _ from hc5)
                        have xhc6 := (show (wr.drewN nn).cell? _ = _ from hc6)
                        have xhc7 := (show (wr.drewN nn).cell? _ = _ from hc7)
                        have xhc8 := (show (wr.drewN nn).cell? _ = _ from hc8)
                        have xhc9 := (show (wr.drewN nn).cell? _ = _ from hc9)
                        have xhc10 := (show (wr.drewN nn).cell? _ = _ from hc10)
                        have xhc11 := (show (wr.drewN nn).cell? _ = _ from hc11)
                        have xhc12 := (show (wr.drewN nn).cell? _ = _ from hc12)
                        clear hc1 hc3 hc5 hc6 hc7 hc8 hc9 hc10 hc11 hc12
                        obtain ⟨U, hU⟩ : ∃ U, wr.drewN nn = U := ⟨_, rfl⟩
                        rw [hU] at xhc1 xhc3 xhc5 xhc6 xhc7 xhc8 xhc9 xhc10 xhc11 xhc12 ⊢
                        have yhc5 := xhc5
                        rw [Nat.zero_add] at yhc5
                        go_wp2_with fail
                        refine wp_region_still_lit (by kernel_rfl) (by kernel_rfl) ?_
                        iterate 50 (first | (refine wpStill_wanted (by rfl) (fun K hK => ?_); go_simp; refine hK _ ?_; clear hK K) | (refine wpStill_unwanted (by rfl) ?_; simp only [Act.put, List.setIfInBounds_toArray, List.set_cons_zero, List.set_cons_succ]))
                        refine wpStill_nil ?_
                        have hUd : U.drew = wr.drewN (nn + 1) := by rw [← hU]; rfl
                        change Exit.then _ _ Exit.normal _ U.drew
                        rw [hUd]
                        have hapx : (nxt G H L m).length + (exts G H q x).length = (nxt G H L m ++ exts G H q x).length := List.length_append.symm
                        rw [hapx]
                        clear hapx
                        go_wp2_with fail
                        go_roundw
                        case rel => exact ⟨j + 1, nn + 1, _, by omega, by go_num, rfl, rfl, Lib.hid (by rw [goodB_succ, HOK.out]; simp)⟩
                        case measure => simp [intOf]; omega
                      · rcases hC with rfl | rfl
                        · have HOK : Hid (okJ G H q x j = true) := Lib.hid (by rw [HOKE.out]; rcases hD with rfl | rfl <;> rfl)
                          clear HOKE
                          clear hD
                          have xhc1 := (show (wr.drewN nn).cell? _ = _ from hc1)
                          have xhc3 := (show (wr.drewN nn).cell? _ = _ from hc3)
                          have xhc5 := (show (wr.drewN nn).cell? _ = _ from hc5)
                          have xhc6 := (show (wr.drewN nn).cell? _ = _ from hc6)
                          have xhc7 := (show (wr.drewN nn).cell? _ = _ from hc7)
                          have xhc8 := (show (wr.drewN nn).cell? _ = _ from hc8)
                          have xhc9 := (show (wr.drewN nn).cell? _ = _ from hc9)
                          have xhc10 := (show (wr.drewN nn).cell? _ = _ from hc10)
                          have xhc11 := (show (wr.drewN nn).cell? _ = _ from hc11)
                          have xhc12 := (show (wr.drewN nn).cell? _ = _ from hc12)
                          clear hc1 hc3 hc5 hc6 hc7 hc8 hc9 hc10 hc11 hc12
                          obtain ⟨U, hU⟩ : ∃ U, wr.drewN nn = U := ⟨_, rfl⟩
                          rw [hU] at xhc1 xhc3 xhc5 xhc6 xhc7 xhc8 xhc9 xhc10 xhc11 xhc12 ⊢
                          have yhc5 := xhc5
                          rw [Nat.zero_add] at yhc5
                          go_wp2_with fail
                          refine wp_region_still_lit (by kernel_rfl) (by kernel_rfl) ?_
                          iterate 50 (first | (refine wpStill_wanted (by rfl) (fun K hK => ?_); go_simp; refine hK _ ?_; clear hK K) | (refine wpStill_unwanted (by rfl) ?_; simp only [Act.put, List.setIfInBounds_toArray, List.set_cons_zero, List.set_cons_succ]))
                          refine wpStill_nil ?_
                          have hUd : U.drew = wr.drewN (nn + 1) := by rw [← hU]; rfl
                          change Exit.then _ _ Exit.normal _ U.drew
                          rw [hUd]
                          have hapx : (nxt G H L m).length + (exts G H q x).length = (nxt G H L m ++ exts G H q x).length := List.length_append.symm
                          rw [hapx]
                          clear hapx
                          go_wp2_with fail
                          go_roundw
                          case rel => exact ⟨j + 1, _, gd, by omega, by go_num, rfl, rfl, Lib.hid (by rw [goodB_succ, HOK.out, ← HGD.out]; simp)⟩
                          case measure => simp [intOf]; omega
                        · rcases hD with rfl | rfl
                          · have HOK : Hid (okJ G H q x j = false) := Lib.hid (by rw [HOKE.out]; rfl)
                            clear HOKE
                            have xhc1 := (show (wr.drewN nn).cell? _ = _ from hc1)
                            have xhc3 := (show (wr.drewN nn).cell? _ = _ from hc3)
                            have xhc5 := (show (wr.drewN nn).cell? _ = _ from hc5)
                            have xhc6 := (show (wr.drewN nn).cell? _ = _ from hc6)
                            have xhc7 := (show (wr.drewN nn).cell? _ = _ from hc7)
                            have xhc8 := (show (wr.drewN nn).cell? _ = _ from hc8)
                            have xhc9 := (show (wr.drewN nn).cell? _ = _ from hc9)
                            have xhc10 := (show (wr.drewN nn).cell? _ = _ from hc10)
                            have xhc11 := (show (wr.drewN nn).cell? _ = _ from hc11)
                            have xhc12 := (show (wr.drewN nn).cell? _ = _ from hc12)
                            clear hc1 hc3 hc5 hc6 hc7 hc8 hc9 hc10 hc11 hc12
                            obtain ⟨U, hU⟩ : ∃ U, wr.drewN nn = U := ⟨_, rfl⟩
                            rw [hU] at xhc1 xhc3 xhc5 xhc6 xhc7 xhc8 xhc9 xhc10 xhc11 xhc12 ⊢
                            have yhc5 := xhc5
                            rw [Nat.zero_add] at yhc5
                            go_wp2_with fail
                            refine wp_region_still_lit (by kernel_rfl) (by kernel_rfl) ?_
                            iterate 50 (first | (refine wpStill_wanted (by rfl) (fun K hK => ?_); go_simp; refine hK _ ?_; clear hK K) | (refine wpStill_unwanted (by rfl) ?_; simp only [Act.put, List.setIfInBounds_toArray, List.set_cons_zero, List.set_cons_succ]))
                            refine wpStill_nil ?_
                            have hUd : U.drew = wr.drewN (nn + 1) := by rw [← hU]; rfl
                            change Exit.then _ _ Exit.normal _ U.drew
                            rw [hUd]
                            have hapx : (nxt G H L m).length + (exts G H q x).length = (nxt G H L m ++ exts G H q x).length := List.length_append.symm
                            rw [hapx]
                            clear hapx
                            go_wp2_with fail
                            go_roundw
                            case rel => exact ⟨j + 1, _, false, by omega, by go_num, rfl, rfl, Lib.hid (by rw [goodB_succ, HOK.out]; simp)⟩
                            case measure => simp [intOf]; omega
                          · have HOK : Hid (okJ G H q x j = true) := Lib.hid (by rw [HOKE.out]; rfl)
                            clear HOKE
                            have xhc1 := (show (wr.drewN nn).cell? _ = _ from hc1)
                            have xhc3 := (show (wr.drewN nn).cell? _ = _ from hc3)
                            have xhc5 := (show (wr.drewN nn).cell? _ = _ from hc5)
                            have xhc6 := (show (wr.drewN nn).cell? _ = _ from hc6)
                            have xhc7 := (show (wr.drewN nn).cell? _ = _ from hc7)
                            have xhc8 := (show (wr.drewN nn).cell? _ = _ from hc8)
                            have xhc9 := (show (wr.drewN nn).cell? _ = _ from hc9)
                            have xhc10 := (show (wr.drewN nn).cell? _ = _ from hc10)
                            have xhc11 := (show (wr.drewN nn).cell? _ = _ from hc11)
                            have xhc12 := (show (wr.drewN nn).cell? _ = _ from hc12)
                            clear hc1 hc3 hc5 hc6 hc7 hc8 hc9 hc10 hc11 hc12
                            obtain ⟨U, hU⟩ : ∃ U, wr.drewN nn = U := ⟨_, rfl⟩
                            rw [hU] at xhc1 xhc3 xhc5 xhc6 xhc7 xhc8 xhc9 xhc10 xhc11 xhc12 ⊢
                            have yhc5 := xhc5
                            rw [Nat.zero_add] at yhc5
                            go_wp2_with fail
                            refine wp_region_still_lit (by kernel_rfl) (by kernel_rfl) ?_
                            iterate 50 (first | (refine wpStill_wanted (by rfl) (fun K hK => ?_); go_simp; refine hK _ ?_; clear hK K) | (refine wpStill_unwanted (by rfl) ?_; simp only [Act.put, List.setIfInBounds_toArray, List.set_cons_zero, List.set_cons_succ]))
                            refine wpStill_nil ?_
                            have hUd : U.drew = wr.drewN (nn + 1) := by rw [← hU]; rfl
                            change Exit.then _ _ Exit.normal _ U.drew
                            rw [hUd]
                            have hapx : (nxt G H L m).length + (exts G H q x).length = (nxt G H L m ++ exts G H q x).length := List.length_append.symm
                            rw [hapx]
                            clear hapx
                            go_wp2_with fail
                            go_roundw
                            case rel => exact ⟨j + 1, _, gd, by omega, by go_num, rfl, rfl, Lib.hid (by rw [goodB_succ, HOK.out, ← HGD.out]; simp)⟩
                            case measure => simp [intOf]; omega
                  · obtain rfl : j = k := by omega
                    have hgk : gd = lead G H (q ++ [(x : Int)]) := by rw [lead_snoc, HQK.out]; exact HGD.out
                    have HGK := Lib.hid hgk
                    clear hgk HGD
                    cases gd with
                    | false =>
                      go_wp2_with fail
                      go_roundw
                      case rel => exact ⟨x + 1, g1, cap1, by omega, by go_num, by rw [exts_no HGK.out.symm], by rw [exts_no HGK.out.symm]; exact HNx, below_drewN hBx nn⟩
                      case measure => simp [intOf]; omega
                    | true =>
                      have ha5 : ∃ b6 o6, a5 = some ⟨b6, o6, none⟩ := by
                        by_cases hj0 : j = 0
                        · have h1 := HK0.out hj0
                          subst hj0
                          have hL0 : L.length = 1 := by rw [← HL.out]; rfl
                          have hm0 : m = 0 := by omega
                          subst hm0
                          have h2 := (hBx.cell (p := ⟨g, 0, none⟩) hb5).trans h1
                          rw [hc5] at h2
                          simp only [Option.some.injEq, Value.slice.injEq] at h2
                          exact ⟨_, _, h2.1⟩
                        · obtain ⟨b6, o6, _, e6, _⟩ := hQ5.at_ (k := 0) (by rw [HQK.out]; omega)
                          exact ⟨b6, o6, e6⟩
                      obtain ⟨b6, o6, rfl⟩ := ha5
                      have HQ6 : Hid (Ints wo.heap.size (wr.drewN nn) (some ⟨b6, o6, none⟩) q) := hQ5
                      have HNU : Hid (OwnMat wo.heap.size (wr.drewN nn) (.slice (some ⟨g1, 0, none⟩) (nxt G H L m ++ exts G H q x).length cap1) (nxt G H L m ++ exts G H q x)) := HNx
                      have hBU := below_drewN hBx nn
                      have hcU : (wr.drewN nn).cell? ⟨g, 0 + m, none⟩ = some (.slice (some ⟨b6, o6, none⟩) q.length c5) := hc5
                      clear HNx hBx hQ5 hc5 hc1 hc2 hc3 hc4 hMr hMr' hOut hRk hRx hsx
                      obtain ⟨U, hU⟩ : ∃ U, wr.drewN nn = U := ⟨_, rfl⟩
                      rw [hU] at HQ6 HNU hBU hcU ⊢
                      clear hU
                      have hsU := hBU.size
                      have hlg1 : wo.heap.size ≤ g1 ∧ g1 < U.heap.size := by
                        obtain ⟨vs, ho, _⟩ := HNU.out
                        exact ho.lt g1 rfl
                      have hq9 : q.length ≤ 9 := by rw [HQK.out]; omega
                      have hca : (U.alloc (.cells #[] 3)).cell? ⟨g, 0 + m, none⟩ = some (.slice (some ⟨b6, o6, none⟩) q.length c5) := (World.cell?_alloc_lt U _ ⟨g, 0 + m, none⟩ (by show g < _; omega)).trans hcU
                      have hown0 : (U.alloc (.cells #[] 3)).ownsRow U.heap.size 3 1 (.slice (some ⟨U.heap.size, 0, none⟩) 0 0) 0 [] := World.ownsRow_lit (size := 1) U #[] 0 (Nat.le_refl _) (Nat.zero_le _) rfl
                      have hQa := HQ6.out.below ((Below.refl wo.heap.size U).alloc hsU (.cells #[] 3))
                      have hone : ∀ u ∈ q.map (Value.int .i64), u.oneCell' = true := fun u hu => by obtain ⟨x, _, rfl⟩ := List.mem_map.1 hu; rfl
                      have HP7 : Hid ((nxt G H L m ++ exts G H q x).length ≤ 7000) := Lib.hid (Nat.le_trans (nxt_prefix HQ.out hx) HLk1.out)
                      obtain ⟨nl, HNL⟩ : ∃ nl, Hid ((nxt G H L m ++ exts G H q x).length = nl) := ⟨_, rfl⟩
                      have hnl := HP7.out
                      rw [HNL.out] at hnl HNU ⊢
                      rw [Nat.zero_add] at hca hcU
                      clear HK0
                      go_wp2_with (first
                        | (at_builtin; refine wpList_append_own _ rfl _ _ 47 rfl U.heap.size 3 i1 (.int .i64 0) 1 8 Try.underlying47 hj hy0 hy1 hy2 rfl (by decide) (.slice (some ⟨U.heap.size, 0, none⟩) 0 0) 0 [] rfl hown0 ⟨b6, o6, none⟩ q.length c5 (q.map (Value.int .i64)) rfl (by simp) (ints_news8 hQa) hone (by unfold maxLen; omega) (by omega) (by simp) ?_; intro v4 w4 hown4 hgrow4 _; rw [Nat.zero_add, List.nil_append] at hown4; have hB4 : Below U.heap.size U w4 := ((Below.refl _ U).alloc (Nat.le_refl _) _).grown hgrow4 (by simp) (fun r e => by have e' : some U.heap.size = some r := e; cases e'; exact Nat.le_refl _); have hs4 := hB4.size; clear hgrow4 hown0 hca hQa)
                        | (at_builtin; refine wpList_append_lies _ rfl _ _ 47 rfl U.heap.size 3 i1 (.int .i64 0) 1 8 Try.underlying47 hj hy0 hy1 hy2 rfl (by decide) v4 q.length (q.map (Value.int .i64)) rfl (hown4.alloc _) ⟨w4.heap.size, 0, none⟩ 1 1 [.int .i64 (x : Int)] rfl rfl (cell_one_new _ _ _) (by simp [Value.oneCell']) (by omega) (by unfold maxLen; omega) (by omega) (by simp; omega) (w4.heap.size + 1) (by simp) ?_; intro g5 cap5 w5 hown5 hgrow5 _ _; have hB5 : Below U.heap.size U w5 := (hB4.alloc hs4 _).grown hgrow5 (by simp; omega) (fun r e => (hown4.lt r e).1); have hs5 := hB5.size; have HRow : Hid (w5.ownsRow wo.heap.size 3 1 (.slice (some ⟨g5, 0, none⟩) (q.length + 1) cap5) (q ++ [(x : Int)]).length ((q ++ [(x : Int)]).map (Value.int .i64))) := Lib.hid (by rw [List.length_append, List.length_singleton, List.map_append]; exact Joins.ownsRow_le hown5 hsU); obtain ⟨vs, hown, hrows⟩ := HNU.out.below hB5; rw [HNL.out] at hown; have HW := Lib.hid hrows; have hBr : Below wo.heap.size wo w5 := hBU.trans (hB5.mono hsU); clear hrows hgrow5 hown5 hown4 hB4)
                        | (at_builtin; refine wpList_append_own _ rfl _ _ 23 rfl wo.heap.size 47 i0 (.slice none 0 0) 1 24 Try.underlying23 hi hz0 hz1 hz2 rfl (by decide) _ _ _ rfl (hown.alloc _) ⟨w5.heap.size, 0, none⟩ 1 1 [.slice (some ⟨g5, 0, none⟩) (q.length + 1) cap5] rfl rfl (cell_one_new _ _ _) (by simp [Value.oneCell']) (by unfold maxLen; omega) (by omega) (by simp; omega) ?_; intro v' w6 hown' hgrow _; obtain ⟨g6, cap6, rfl⟩ := ownsRow_succ hown'; have HO6 := Lib.hid (OwnMat.appended (by rw [HNL.out]; exact hown) HW.out HRow.out (by rw [HNL.out]; exact hown') hgrow); have hB6 : Below wo.heap.size wo w6 := (hBr.alloc (by omega) _).grown hgrow (by simp; omega) (fun r e => by have e' : some g1 = some r := e; cases e'; exact hlg1.1); clear hown' hgrow hown))
                      go_roundw
                      case rel => exact ⟨x + 1, g6, cap6, by omega, by go_num, by rw [exts_yes HGK.out.symm, ← List.append_assoc, List.length_append, HNL.out]; rfl, Lib.hid (by rw [exts_yes HGK.out.symm, ← List.append_assoc, List.length_append, HNL.out]; exact HO6.out), hB6⟩
                      case measure => simp [intOf]; omega
              · have hxb : (vxx == 1) = d0 := by rw [hd0]; rfl
                clear hd0
                go_wp2_with fail
                go_loopw [10, 11] (fun v i wt => ∃ (j n : Nat) (gd : Bool), j ≤ k ∧ i = .int .i64 j ∧ v = .bool gd ∧ wt = wr.drewN n ∧ Hid (gd = goodB G H q x j)) (fun _ i _ => k - (intOf i).toNat)
                case atStart => exact ⟨0, 0, _, Nat.zero_le _, rfl, rfl, rfl, HD0⟩
                case round =>
                  obtain ⟨j, nn, gd, hjk, rfl, rfl, rfl, HGD⟩ := hrel
                  by_cases hlj : j < k
                  · obtain ⟨pj, hpj, enj, hpH⟩ := tells_at HQT.out hlj
                    obtain ⟨b6, o6, y6, e6, hb6, hc6, HY6⟩ := hQ5.at_ (k := j) (by rw [HQK.out]; exact hlj)
                    cases e6
                    have ey6 : y6 = (pj : Int) := by have := HY6.out; rw [hpj] at this; cases this; rfl
                    subst ey6
                    obtain ⟨b7, o7, a7, c7, rowj, e7, hb7, hc7, hRj, HRj⟩ := hMr.at_ (k := j) (by omega)
                    cases e7
                    have HEj := Lib.hid (HG.out.len HRj.out)
                    obtain ⟨b8, o8, vA, rfl, hb8, hc8, HVA⟩ := hRj.at_ (k := k) (by rw [HEj.out]; exact hlt)
                    obtain ⟨b9, o9, a9, c9, rowp, e9, hb9, hc9, hRp, HRp⟩ := hMr'.at_ hpH
                    cases e9
                    have HEp := Lib.hid (HH.out.len HRp.out)
                    obtain ⟨b10, o10, vB, rfl, hb10, hc10, HVB⟩ := hRp.at_ (k := x) (by rw [HEp.out]; exact hlx)
                    obtain ⟨b11, o11, vC, e11, hb11, hc11, HVC⟩ := hRk.at_ (k := j) (by rw [HEk.out]; omega)
                    cases e11
                    obtain ⟨b12, o12, vD, e12, hb12, hc12, HVD⟩ := hRx.at_ (k := pj) (by rw [HEx.out]; exact hpH)
                    cases e12
                    have hA : vA = 0 ∨ vA = 1 := by
                      have := (good_iff_ent HG.out.1 HG.out.2.1 (fun i xs h => HG.out.len h)).1 HG.out (⟨j, by omega⟩, ⟨k, hlt⟩)
                      rw [ent_eq HRj.out HVA.out] at this; exact this
                    have hBb : vB = 0 ∨ vB = 1 := by
                      have := (good_iff_ent HH.out.1 HH.out.2.1 (fun i xs h => HH.out.len h)).1 HH.out (⟨pj, hpH⟩, ⟨x, hlx⟩)
                      rw [ent_eq HRp.out HVB.out] at this; exact this
                    have hC : vC = 0 ∨ vC = 1 := by
                      have := (good_iff_ent HG.out.1 HG.out.2.1 (fun i xs h => HG.out.len h)).1 HG.out (⟨k, hlt⟩, ⟨j, by omega⟩)
                      rw [ent_eq HRk.out HVC.out] at this; exact this
                    have hD : vD = 0 ∨ vD = 1 := by
                      have := (good_iff_ent HH.out.1 HH.out.2.1 (fun i xs h => HH.out.len h)).1 HH.out (⟨x, hlx⟩, ⟨pj, hpH⟩)
                      rw [ent_eq HRx.out HVD.out] at this; exact this
                    have HOKE : Hid (okJ G H q x j = ((!(vA == 1) || vB == 1) && (!(vC == 1) || vD == 1))) := Lib.hid (by
                      unfold okJ; rw [HQK.out, enj]; unfold arw; rw [ent_eq HRj.out HVA.out, ent_eq HRp.out HVB.out, ent_eq HRk.out HVC.out, ent_eq HRx.out HVD.out])
                    have hj1 : k < rowj.length := by rw [HEj.out]; exact hlt
                    have hj9 : rowj.length ≤ 9 := by rw [HEj.out]; exact hl9
                    have hp1 : x < rowp.length := by rw [HEp.out]; exact hlx
                    have hp9 : rowp.length ≤ 9 := by rw [HEp.out]; exact hl9'
                    have hj2 : j < rowk.length := by omega
                    have hj3 : j < G.length := by omega
                    have hq1 : j < q.length := by rw [HQK.out]; exact hlj
                    have hq9 : q.length ≤ 9 := by rw [HQK.out]; omega
                    have hpx : pj < rowx.length := by rw [HEx.out]; exact hpH
                    clear hpj enj HY6 HVA HVB HVC HVD HRp hRp hRj HRj
                    rcases hA with rfl | rfl
                    · have HOKE' : Hid (okJ G H q x j = (true && (!(vC == 1) || vD == 1))) := Lib.hid (by rw [HOKE.out]; rcases hBb with rfl | rfl <;> rfl)
                      clear HOKE hBb
                      rcases hC with rfl | rfl
                      · have HOK : Hid (okJ G H q x j = true) := Lib.hid (by rw [HOKE'.out]; rcases hD with rfl | rfl <;> rfl)
                        clear HOKE'
                        clear hD
                        have xhc1 := (show (wr.drewN nn).cell? _ = _ from hc1)
                        have xhc3 := (show (wr.drewN nn).cell? _ = _ from hc3)
                        have xhc5 := (show (wr.drewN nn).cell? _ = _ from hc5)
                        have xhc6 := (show (wr.drewN nn).cell? _ = _ from hc6)
                        have xhc7 := (show (wr.drewN nn).cell? _ = _ from hc7)
                        have xhc8 := (show (wr.drewN nn).cell? _ = _ from hc8)
                        have xhc9 := (show (wr.drewN nn).cell? _ = _ from hc9)
                        have xhc10 := (show (wr.drewN nn).cell? _ = _ from hc10)
                        have xhc11 := (show (wr.drewN nn).cell? _ = _ from hc11)
                        have xhc12 := (show (wr.drewN nn).cell? _ = _ from hc12)
                        clear hc1 hc3 hc5 hc6 hc7 hc8 hc9 hc10 hc11 hc12
                        obtain ⟨U, hU⟩ : ∃ U, wr.drewN nn = U := ⟨_, rfl⟩
                        rw [hU] at xhc1 xhc3 xhc5 xhc6 xhc7 xhc8 xhc9 xhc10 xhc11 xhc12 ⊢
                        have yhc5 := xhc5
                        rw [Nat.zero_add] at yhc5
                        go_wp2_with fail
                        refine wp_region_still_lit (by kernel_rfl) (by kernel_rfl) ?_
                        iterate 50 (first | (refine wpStill_wanted (by rfl) (fun K hK => ?_); go_simp; refine hK _ ?_; clear hK K) | (refine wpStill_unwanted (by rfl) ?_; simp only [Act.put, List.setIfInBounds_toArray, List.set_cons_zero, List.set_cons_succ]))
                        refine wpStill_nil ?_
                        have hUd : U.drew = wr.drewN (nn + 1) := by rw [← hU]; rfl
                        change Exit.then _ _ Exit.normal _ U.drew
                        rw [hUd]
                        have hapx : (nxt G H L m).length + (exts G H q x).length = (nxt G H L m ++ exts G H q x).length := List.length_append.symm
                        rw [hapx]
                        clear hapx
                        go_wp2_with fail
                        go_roundw
                        case rel => exact ⟨j + 1, _, gd, by omega, by go_num, rfl, rfl, Lib.hid (by rw [goodB_succ, HOK.out, ← HGD.out]; simp)⟩
                        case measure => simp [intOf]; omega
                      · rcases hD with rfl | rfl
                        · have HOK : Hid (okJ G H q x j = false) := Lib.hid (by rw [HOKE'.out]; rfl)
                          clear HOKE'
                          have xhc1 := (show (wr.drewN nn).cell? _ = _ from hc1)
                          have xhc3 := (show (wr.drewN nn).cell? _ = _ from hc3)
                          have xhc5 := (show (wr.drewN nn).cell? _ = _ from hc5)
                          have xhc6 := (show (wr.drewN nn).cell? _ = _ from hc6)
                          have xhc7 := (show (wr.drewN nn).cell? _ = _ from hc7)
                          have xhc8 := (show (wr.drewN nn).cell? _ = _ from hc8)
                          have xhc9 := (show (wr.drewN nn).cell? _ = _ from hc9)
                          have xhc10 := (show (wr.drewN nn).cell? _ = _ from hc10)
                          have xhc11 := (show (wr.drewN nn).cell? _ = _ from hc11)
                          have xhc12 := (show (wr.drewN nn).cell? _ = _ from hc12)
                          clear hc1 hc3 hc5 hc6 hc7 hc8 hc9 hc10 hc11 hc12
                          obtain ⟨U, hU⟩ : ∃ U, wr.drewN nn = U := ⟨_, rfl⟩
                          rw [hU] at xhc1 xhc3 xhc5 xhc6 xhc7 xhc8 xhc9 xhc10 xhc11 xhc12 ⊢
                          have yhc5 := xhc5
                          rw [Nat.zero_add] at yhc5
                          go_wp2_with fail
                          refine wp_region_still_lit (by kernel_rfl) (by kernel_rfl) ?_
                          iterate 50 (first | (refine wpStill_wanted (by rfl) (fun K hK => ?_); go_simp; refine hK _ ?_; clear hK K) | (refine wpStill_unwanted (by rfl) ?_; simp only [Act.put, List.setIfInBounds_toArray, List.set_cons_zero, List.set_cons_succ]))
                          refine wpStill_nil ?_
                          have hUd : U.drew = wr.drewN (nn + 1) := by rw [← hU]; rfl
                          change Exit.then _ _ Exit.normal _ U.drew
                          rw [hUd]
                          have hapx : (nxt G H L m).length + (exts G H q x).length = (nxt G H L m ++ exts G H q x).length := List.length_append.symm
                          rw [hapx]
                          clear hapx
                          go_wp2_with fail
                          go_roundw
                          case rel => exact ⟨j + 1, _, false, by omega, by go_num, rfl, rfl, Lib.hid (by rw [goodB_succ, HOK.out]; simp)⟩
                          case measure => simp [intOf]; omega
                        · have HOK : Hid (okJ G H q x j = true) := Lib.hid (by rw [HOKE'.out]; rfl)
                          clear HOKE'
                          have xhc1 := (show (wr.drewN nn).cell? _ = _ from hc1)
                          have xhc3 := (show (wr.drewN nn).cell? _ = _ from hc3)
                          have xhc5 := (show (wr.drewN nn).cell? _ = _ from hc5)
                          have xhc6 := (show (wr.drewN nn).cell? _ = _ from hc6)
                          have xhc7 := (show (wr.drewN nn).cell? _ = _ from hc7)
                          have xhc8 := (show (wr.drewN nn).cell? _ = _ from hc8)
                          have xhc9 := (show (wr.drewN nn).cell? _ = _ from hc9)
                          have xhc10 := (show (wr.drewN nn).cell? _ = _ from hc10)
                          have xhc11 := (show (wr.drewN nn).cell? _ = _ from hc11)
                          have xhc12 := (show (wr.drewN nn).cell? _ = _ from hc12)
                          clear hc1 hc3 hc5 hc6 hc7 hc8 hc9 hc10 hc11 hc12
                          obtain ⟨U, hU⟩ : ∃ U, wr.drewN nn = U := ⟨_, rfl⟩
                          rw [hU] at xhc1 xhc3 xhc5 xhc6 xhc7 xhc8 xhc9 xhc10 xhc11 xhc12 ⊢
                          have yhc5 := xhc5
                          rw [Nat.zero_add] at yhc5
                          go_wp2_with fail
                          refine wp_region_still_lit (by kernel_rfl) (by kernel_rfl) ?_
                          iterate 50 (first | (refine wpStill_wanted (by rfl) (fun K hK => ?_); go_simp; refine hK _ ?_; clear hK K) | (refine wpStill_unwanted (by rfl) ?_; simp only [Act.put, List.setIfInBounds_toArray, List.set_cons_zero, List.set_cons_succ]))
                          refine wpStill_nil ?_
                          have hUd : U.drew = wr.drewN (nn + 1) := by rw [← hU]; rfl
                          change Exit.then _ _ Exit.normal _ U.drew
                          rw [hUd]
                          have hapx : (nxt G H L m).length + (exts G H q x).length = (nxt G H L m ++ exts G H q x).length := List.length_append.symm
                          rw [hapx]
                          clear hapx
                          go_wp2_with fail
                          go_roundw
                          case rel => exact ⟨j + 1, _, gd, by omega, by go_num, rfl, rfl, Lib.hid (by rw [goodB_succ, HOK.out, ← HGD.out]; simp)⟩
                          case measure => simp [intOf]; omega
                    · rcases hBb with rfl | rfl
                      · have HOK : Hid (okJ G H q x j = false) := Lib.hid (by rw [HOKE.out]; rcases hC with rfl | rfl <;> rcases hD with rfl | rfl <;> rfl)
                        clear HOKE
                        clear hC hD
                        have xhc1 := (show (wr.drewN nn).cell? _ = _ from hc1)
                        have xhc3 := (show (wr.drewN nn).cell? _ = _ from hc3)
                        have xhc5 := (show (wr.drewN nn).cell? _ = _ from hc5)
                        have xhc6 := (show (wr.drewN nn).cell? _ = _ from hc6)
                        have xhc7 := (show (wr.drewN nn).cell? _ = _ from hc7)
                        have xhc8 := (show (wr.drewN nn).cell? _ = _ from hc8)
                        have xhc9 := (show (wr.drewN nn).cell? _ = _ from hc9)
                        have xhc10 := (show (wr.drewN nn).cell? _ = _ from hc10)
                        have xhc11 := (show (wr.drewN nn).cell? _ = _ from hc11)
                        have xhc12 := (show (wr.drewN nn).cell? _ = _ from hc12)
                        clear hc1 hc3 hc5 hc6 hc7 hc8 hc9 hc10 hc11 hc12
                        obtain ⟨U, hU⟩ : ∃ U, wr.drewN nn = U := ⟨_, rfl⟩
                        rw [hU] at xhc1 xhc3 xhc5 xhc6 xhc7 xhc8 xhc9 xhc10 xhc11 xhc12 ⊢
                        have yhc5 := xhc5
                        rw [Nat.zero_add] at yhc5
                        go_wp2_with fail
                        refine wp_region_still_lit (by kernel_rfl) (by kernel_rfl) ?_
                        iterate 50 (first | (refine wpStill_wanted (by rfl) (fun K hK => ?_); go_simp; refine hK _ ?_; clear hK K) | (refine wpStill_unwanted (by rfl) ?_; simp only [Act.put, List.setIfInBounds_toArray, List.set_cons_zero, List.set_cons_succ]))
                        refine wpStill_nil ?_
                        have hUd : U.drew = wr.drewN (nn + 1) := by rw [← hU]; rfl
                        change Exit.then _ _ Exit.normal _ U.drew
                        rw [hUd]
                        have hapx : (nxt G H L m).length + (exts G H q x).length = (nxt G H L m ++ exts G H q x).length := List.length_append.symm
                        rw [hapx]
                        clear hapx
                        go_wp2_with fail
                        go_roundw
                        case rel => exact ⟨j + 1, nn + 1, _, by omega, by go_num, rfl, rfl, Lib.hid (by rw [goodB_succ, HOK.out]; simp)⟩
                        case measure => simp [intOf]; omega
                      · rcases hC with rfl | rfl
                        · have HOK : Hid (okJ G H q x j = true) := Lib.hid (by rw [HOKE.out]; rcases hD with rfl | rfl <;> rfl)
                          clear HOKE
                          clear hD
                          have xhc1 := (show (wr.drewN nn).cell? _ = _ from hc1)
                          have xhc3 := (show (wr.drewN nn).cell? _ = _ from hc3)
                          have xhc5 := (show (wr.drewN nn).cell? _ = _ from hc5)
                          have xhc6 := (show (wr.drewN nn).cell? _ = _ from hc6)
                          have xhc7 := (show (wr.drewN nn).cell? _ = _ from hc7)
                          have xhc8 := (show (wr.drewN nn).cell? _ = _ from hc8)
                          have xhc9 := (show (wr.drewN nn).cell? _ = _ from hc9)
                          have xhc10 := (show (wr.drewN nn).cell? _ = _ from hc10)
                          have xhc11 := (show (wr.drewN nn).cell? _ = _ from hc11)
                          have xhc12 := (show (wr.drewN nn).cell? _ = _ from hc12)
                          clear hc1 hc3 hc5 hc6 hc7 hc8 hc9 hc10 hc11 hc12
                          obtain ⟨U, hU⟩ : ∃ U, wr.drewN nn = U := ⟨_, rfl⟩
                          rw [hU] at xhc1 xhc3 xhc5 xhc6 xhc7 xhc8 xhc9 xhc10 xhc11 xhc12 ⊢
                          have yhc5 := xhc5
                          rw [Nat.zero_add] at yhc5
                          go_wp2_with fail
                          refine wp_region_still_lit (by kernel_rfl) (by kernel_rfl) ?_
                          iterate 50 (first | (refine wpStill_wanted (by rfl) (fun K hK => ?_); go_simp; refine hK _ ?_; clear hK K) | (refine wpStill_unwanted (by rfl) ?_; simp only [Act.put, List.setIfInBounds_toArray, List.set_cons_zero, List.set_cons_succ]))
                          refine wpStill_nil ?_
                          have hUd : U.drew = wr.drewN (nn + 1) := by rw [← hU]; rfl
                          change Exit.then _ _ Exit.normal _ U.drew
                          rw [hUd]
                          have hapx : (nxt G H L m).length + (exts G H q x).length = (nxt G H L m ++ exts G H q x).length := List.length_append.symm
                          rw [hapx]
                          clear hapx
                          go_wp2_with fail
                          go_roundw
                          case rel => exact ⟨j + 1, _, gd, by omega, by go_num, rfl, rfl, Lib.hid (by rw [goodB_succ, HOK.out, ← HGD.out]; simp)⟩
                          case measure => simp [intOf]; omega
                        · rcases hD with rfl | rfl
                          · have HOK : Hid (okJ G H q x j = false) := Lib.hid (by rw [HOKE.out]; rfl)
                            clear HOKE
                            have xhc1 := (show (wr.drewN nn).cell? _ = _ from hc1)
                            have xhc3 := (show (wr.drewN nn).cell? _ = _ from hc3)
                            have xhc5 := (show (wr.drewN nn).cell? _ = _ from hc5)
                            have xhc6 := (show (wr.drewN nn).cell? _ = _ from hc6)
                            have xhc7 := (show (wr.drewN nn).cell? _ = _ from hc7)
                            have xhc8 := (show (wr.drewN nn).cell? _ = _ from hc8)
                            have xhc9 := (show (wr.drewN nn).cell? _ = _ from hc9)
                            have xhc10 := (show (wr.drewN nn).cell? _ = _ from hc10)
                            have xhc11 := (show (wr.drewN nn).cell? _ = _ from hc11)
                            have xhc12 := (show (wr.drewN nn).cell? _ = _ from hc12)
                            clear hc1 hc3 hc5 hc6 hc7 hc8 hc9 hc10 hc11 hc12
                            obtain ⟨U, hU⟩ : ∃ U, wr.drewN nn = U := ⟨_, rfl⟩
                            rw [hU] at xhc1 xhc3 xhc5 xhc6 xhc7 xhc8 xhc9 xhc10 xhc11 xhc12 ⊢
                            have yhc5 := xhc5
                            rw [Nat.zero_add] at yhc5
                            go_wp2_with fail
                            refine wp_region_still_lit (by kernel_rfl) (by kernel_rfl) ?_
                            iterate 50 (first | (refine wpStill_wanted (by rfl) (fun K hK => ?_); go_simp; refine hK _ ?_; clear hK K) | (refine wpStill_unwanted (by rfl) ?_; simp only [Act.put, List.setIfInBounds_toArray, List.set_cons_zero, List.set_cons_succ]))
                            refine wpStill_nil ?_
                            have hUd : U.drew = wr.drewN (nn + 1) := by rw [← hU]; rfl
                            change Exit.then _ _ Exit.normal _ U.drew
                            rw [hUd]
                            have hapx : (nxt G H L m).length + (exts G H q x).length = (nxt G H L m ++ exts G H q x).length := List.length_append.symm
                            rw [hapx]
                            clear hapx
                            go_wp2_with fail
                            go_roundw
                            case rel => exact ⟨j + 1, _, false, by omega, by go_num, rfl, rfl, Lib.hid (by rw [goodB_succ, HOK.out]; simp)⟩
                            case measure => simp [intOf]; omega
                          · have HOK : Hid (okJ G H q x j = true) := Lib.hid (by rw [HOKE.out]; rfl)
                            clear HOKE
                            have xhc1 := (show (wr.drewN nn).cell? _ = _ from hc1)
                            have xhc3 := (show (wr.drewN nn).cell? _ = _ from hc3)
                            have xhc5 := (show (wr.drewN nn).cell? _ = _ from hc5)
                            have xhc6 := (show (wr.drewN nn).cell? _ = _ from hc6)
                            have xhc7 := (show (wr.drewN nn).cell? _ = _ from hc7)
                            have xhc8 := (show (wr.drewN nn).cell? _ = _ from hc8)
                            have xhc9 := (show (wr.drewN nn).cell? _ = _ from hc9)
                            have xhc10 := (show (wr.drewN nn).cell? _ = _ from hc10)
                            have xhc11 := (show (wr.drewN nn).cell? _ = _ from hc11)
                            have xhc12 := (show (wr.drewN nn).cell? _ = _ from hc12)
                            clear hc1 hc3 hc5 hc6 hc7 hc8 hc9 hc10 hc11 hc12
                            obtain ⟨U, hU⟩ : ∃ U, wr.drewN nn = U := ⟨_, rfl⟩
                            rw [hU] at xhc1 xhc3 xhc5 xhc6 xhc7 xhc8 xhc9 xhc10 xhc11 xhc12 ⊢
                            have yhc5 := xhc5
                            rw [Nat.zero_add] at yhc5
                            go_wp2_with fail
                            refine wp_region_still_lit (by kernel_rfl) (by kernel_rfl) ?_
                            iterate 50 (first | (refine wpStill_wanted (by rfl) (fun K hK => ?_); go_simp; refine hK _ ?_; clear hK K) | (refine wpStill_unwanted (by rfl) ?_; simp only [Act.put, List.setIfInBounds_toArray, List.set_cons_zero, List.set_cons_succ]))
                            refine wpStill_nil ?_
                            have hUd : U.drew = wr.drewN (nn + 1) := by rw [← hU]; rfl
                            change Exit.then _ _ Exit.normal _ U.drew
                            rw [hUd]
                            have hapx : (nxt G H L m).length + (exts G H q x).length = (nxt G H L m ++ exts G H q x).length := List.length_append.symm
                            rw [hapx]
                            clear hapx
                            go_wp2_with fail
                            go_roundw
                            case rel => exact ⟨j + 1, _, gd, by omega, by go_num, rfl, rfl, Lib.hid (by rw [goodB_succ, HOK.out, ← HGD.out]; simp)⟩
                            case measure => simp [intOf]; omega
                  · obtain rfl : j = k := by omega
                    have hgk : gd = lead G H (q ++ [(x : Int)]) := by rw [lead_snoc, HQK.out]; exact HGD.out
                    have HGK := Lib.hid hgk
                    clear hgk HGD
                    cases gd with
                    | false =>
                      go_wp2_with fail
                      go_roundw
                      case rel => exact ⟨x + 1, g1, cap1, by omega, by go_num, by rw [exts_no HGK.out.symm], by rw [exts_no HGK.out.symm]; exact HNx, below_drewN hBx nn⟩
                      case measure => simp [intOf]; omega
                    | true =>
                      have ha5 : ∃ b6 o6, a5 = some ⟨b6, o6, none⟩ := by
                        by_cases hj0 : j = 0
                        · have h1 := HK0.out hj0
                          subst hj0
                          have hL0 : L.length = 1 := by rw [← HL.out]; rfl
                          have hm0 : m = 0 := by omega
                          subst hm0
                          have h2 := (hBx.cell (p := ⟨g, 0, none⟩) hb5).trans h1
                          rw [hc5] at h2
                          simp only [Option.some.injEq, Value.slice.injEq] at h2
                          exact ⟨_, _, h2.1⟩
                        · obtain ⟨b6, o6, _, e6, _⟩ := hQ5.at_ (k := 0) (by rw [HQK.out]; omega)
                          exact ⟨b6, o6, e6⟩
                      obtain ⟨b6, o6, rfl⟩ := ha5
                      have HQ6 : Hid (Ints wo.heap.size (wr.drewN nn) (some ⟨b6, o6, none⟩) q) := hQ5
                      have HNU : Hid (OwnMat wo.heap.size (wr.drewN nn) (.slice (some ⟨g1, 0, none⟩) (nxt G H L m ++ exts G H q x).length cap1) (nxt G H L m ++ exts G H q x)) := HNx
                      have hBU := below_drewN hBx nn
                      have hcU : (wr.drewN nn).cell? ⟨g, 0 + m, none⟩ = some (.slice (some ⟨b6, o6, none⟩) q.length c5) := hc5
                      clear HNx hBx hQ5 hc5 hc1 hc2 hc3 hc4 hMr hMr' hOut hRk hRx hsx
                      obtain ⟨U, hU⟩ : ∃ U, wr.drewN nn = U := ⟨_, rfl⟩
                      rw [hU] at HQ6 HNU hBU hcU ⊢
                      clear hU
                      have hsU := hBU.size
                      have hlg1 : wo.heap.size ≤ g1 ∧ g1 < U.heap.size := by
                        obtain ⟨vs, ho, _⟩ := HNU.out
                        exact ho.lt g1 rfl
                      have hq9 : q.length ≤ 9 := by rw [HQK.out]; omega
                      have hca : (U.alloc (.cells #[] 3)).cell? ⟨g, 0 + m, none⟩ = some (.slice (some ⟨b6, o6, none⟩) q.length c5) := (World.cell?_alloc_lt U _ ⟨g, 0 + m, none⟩ (by show g < _; omega)).trans hcU
                      have hown0 : (U.alloc (.cells #[] 3)).ownsRow U.heap.size 3 1 (.slice (some ⟨U.heap.size, 0, none⟩) 0 0) 0 [] := World.ownsRow_lit (size := 1) U #[] 0 (Nat.le_refl _) (Nat.zero_le _) rfl
                      have hQa := HQ6.out.below ((Below.refl wo.heap.size U).alloc hsU (.cells #[] 3))
                      have hone : ∀ u ∈ q.map (Value.int .i64), u.oneCell' = true := fun u hu => by obtain ⟨x, _, rfl⟩ := List.mem_map.1 hu; rfl
                      have HP7 : Hid ((nxt G H L m ++ exts G H q x).length ≤ 7000) := Lib.hid (Nat.le_trans (nxt_prefix HQ.out hx) HLk1.out)
                      obtain ⟨nl, HNL⟩ : ∃ nl, Hid ((nxt G H L m ++ exts G H q x).length = nl) := ⟨_, rfl⟩
                      have hnl := HP7.out
                      rw [HNL.out] at hnl HNU ⊢
                      rw [Nat.zero_add] at hca hcU
                      clear HK0
                      go_wp2_with (first
                        | (at_builtin; refine wpList_append_own _ rfl _ _ 47 rfl U.heap.size 3 i1 (.int .i64 0) 1 8 Try.underlying47 hj hy0 hy1 hy2 rfl (by decide) (.slice (some ⟨U.heap.size, 0, none⟩) 0 0) 0 [] rfl hown0 ⟨b6, o6, none⟩ q.length c5 (q.map (Value.int .i64)) rfl (by simp) (ints_news8 hQa) hone (by unfold maxLen; omega) (by omega) (by simp) ?_; intro v4 w4 hown4 hgrow4 _; rw [Nat.zero_add, List.nil_append] at hown4; have hB4 : Below U.heap.size U w4 := ((Below.refl _ U).alloc (Nat.le_refl _) _).grown hgrow4 (by simp) (fun r e => by have e' : some U.heap.size = some r := e; cases e'; exact Nat.le_refl _); have hs4 := hB4.size; clear hgrow4 hown0 hca hQa)
                        | (at_builtin; refine wpList_append_lies _ rfl _ _ 47 rfl U.heap.size 3 i1 (.int .i64 0) 1 8 Try.underlying47 hj hy0 hy1 hy2 rfl (by decide) v4 q.length (q.map (Value.int .i64)) rfl (hown4.alloc _) ⟨w4.heap.size, 0, none⟩ 1 1 [.int .i64 (x : Int)] rfl rfl (cell_one_new _ _ _) (by simp [Value.oneCell']) (by omega) (by unfold maxLen; omega) (by omega) (by simp; omega) (w4.heap.size + 1) (by simp) ?_; intro g5 cap5 w5 hown5 hgrow5 _ _; have hB5 : Below U.heap.size U w5 := (hB4.alloc hs4 _).grown hgrow5 (by simp; omega) (fun r e => (hown4.lt r e).1); have hs5 := hB5.size; have HRow : Hid (w5.ownsRow wo.heap.size 3 1 (.slice (some ⟨g5, 0, none⟩) (q.length + 1) cap5) (q ++ [(x : Int)]).length ((q ++ [(x : Int)]).map (Value.int .i64))) := Lib.hid (by rw [List.length_append, List.length_singleton, List.map_append]; exact Joins.ownsRow_le hown5 hsU); obtain ⟨vs, hown, hrows⟩ := HNU.out.below hB5; rw [HNL.out] at hown; have HW := Lib.hid hrows; have hBr : Below wo.heap.size wo w5 := hBU.trans (hB5.mono hsU); clear hrows hgrow5 hown5 hown4 hB4)
                        | (at_builtin; refine wpList_append_own _ rfl _ _ 23 rfl wo.heap.size 47 i0 (.slice none 0 0) 1 24 Try.underlying23 hi hz0 hz1 hz2 rfl (by decide) _ _ _ rfl (hown.alloc _) ⟨w5.heap.size, 0, none⟩ 1 1 [.slice (some ⟨g5, 0, none⟩) (q.length + 1) cap5] rfl rfl (cell_one_new _ _ _) (by simp [Value.oneCell']) (by unfold maxLen; omega) (by omega) (by simp; omega) ?_; intro v' w6 hown' hgrow _; obtain ⟨g6, cap6, rfl⟩ := ownsRow_succ hown'; have HO6 := Lib.hid (OwnMat.appended (by rw [HNL.out]; exact hown) HW.out HRow.out (by rw [HNL.out]; exact hown') hgrow); have hB6 : Below wo.heap.size wo w6 := (hBr.alloc (by omega) _).grown hgrow (by simp; omega) (fun r e => by have e' : some g1 = some r := e; cases e'; exact hlg1.1); clear hown' hgrow hown))
                      go_roundw
                      case rel => exact ⟨x + 1, g6, cap6, by omega, by go_num, by rw [exts_yes HGK.out.symm, ← List.append_assoc, List.length_append, HNL.out]; rfl, Lib.hid (by rw [exts_yes HGK.out.symm, ← List.append_assoc, List.length_append, HNL.out]; exact HO6.out), hB6⟩
                      case measure => simp [intOf]; omega
            · obtain rfl : x = H.length := by omega
              go_wp2_with fail
              go_roundw
              case rel => exact ⟨m + 1, g1, cap1, by omega, by go_num, by rw [nxt_succ HQ.out], by rw [nxt_succ HQ.out]; exact HNx, hBx⟩
              case measure => simp [intOf]; omega
        · obtain rfl : m = L.length := by omega
          have HN2 : Hid (OwnMat w.heap.size wr (.slice (some ⟨g', 0, none⟩) (lvl G H (k + 1)).length cap') (lvl G H (k + 1))) := Lib.hid (by
            rw [HLn.out, ← nxt_all]
            obtain ⟨vs, h1, h2⟩ := HN.out
            exact ⟨vs, Joins.ownsRow_le h1 hws, fun i x xs hx hxs => Joins.ownsRow_le (h2 i x xs hx hxs) hws⟩)
          have hBn := hB.trans (hBi.mono hws)
          have HNe : Hid ((nxt G H L L.length).length = (lvl G H (k + 1)).length) := Lib.hid (by rw [HLn.out, nxt_all])
          rw [HNe.out]
          clear HN hBi
          go_wp2_with fail
          go_roundw
          case rel => exact ⟨k + 1, g', cap', by omega, by go_num, rfl, HN2, hBn, Lib.hid fun h => absurd h (by omega)⟩
          case measure => simp [intOf]; omega
    · obtain rfl : k = G.length := by omega
      go_wp2_with fail
      go_ret
      exact ⟨some ⟨g, 0, none⟩, cap, ⟨rfl, hB⟩, HO.out⟩

theorem specMaps (a : Option Addr) (c : Nat) (a' : Option Addr) (c' : Nat) (G H : List (List Int)) (n₀ : Nat) (w : World) (hM : Mat n₀ w a G) (hM' : Mat n₀ w a' H) (hn₀ : n₀ ≤ w.heap.size) (hfew : fewI G H = true) :
    Calls Try.prog 69 #[.slice a G.length c, .slice a' H.length c'] w (ReadM (mapsL G H) w) :=
  (specMapsO a c a' c' G H n₀ w hM hM' hn₀ hfew).mono fun _ _ ⟨a, c, h1, h2⟩ => ⟨a, c, h1, h2.mat⟩

end Go.Proofs.Ytofpjepndhpciaa
