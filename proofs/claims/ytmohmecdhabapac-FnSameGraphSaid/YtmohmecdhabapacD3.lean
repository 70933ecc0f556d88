/-
  spec.l20Open, spec.l20Graph: a graph is drawn, or what is none.
-/
import Derived.Test.YtmohmecdhabapacD2
namespace Go.Proofs.Ytmohmecdhabapac
open Go.RowKit Go.Shelf

/-- THE READER IS MADE in the next new block. -/
def Opened (w : World) (e : Ending) (w' : World) : Prop := e = .returned (.pointer (some ⟨w.heap.size, 0, none⟩)) ∧ Rd w.heap.size w.heap.size w' 0 ∧ Below w.heap.size w w'
theorem opened_mk {w : World} {a : Option Addr} {n c : Nat} (hn : n ≤ 2000) (hy : Bytes w.heap.size w a n) : Opened w (.returned (.pointer (some ⟨w.heap.size, 0, none⟩))) (w.alloc (.cells #[.slice a n c, .int .i64 0] 69)) :=
  ⟨rfl, ⟨a, n, c, 0, World.alloc_heap_new w _, hn, by omega, Nat.le_refl _, hy.keep fun p hp => World.cell?_alloc_lt w _ p hp⟩, (Below.refl _ _).alloc (Nat.le_refl _) _⟩

set_option maxHeartbeats 400000 in
theorem open_any (a : Option Addr) (n c : Nat) (w : World) (hn : n ≤ 1048576) (hc : n ≤ c) (hy : Bytes w.heap.size w a n) :
    Calls Try.prog 28 #[.slice a n c] w (Opened w) := by
  by_cases h : n ≤ 2000
  · go_enter Try.func28, Try.ntmps28
    go_wp2
    go_ret
    exact opened_mk h hy
  · obtain ⟨b, o, rfl, hb, hcell⟩ := hy (by omega)
    have hy' : Bytes w.heap.size w (some ⟨b, o, none⟩) 2000 := fun _ => ⟨b, o, rfl, hb, fun j hj => hcell j (by omega)⟩
    clear hcell hy
    go_enter Try.func28, Try.ntmps28
    go_wp2
    go_ret
    exact opened_mk (by omega) hy'

set_option maxRecDepth 100000 in
set_option maxHeartbeats 4000000 in
theorem graph_anyK (n₀ B N K : Nat) (most odd : Int) (w : World) (hR : Rd n₀ B w N) (hN : N ≤ 500000) (h1 : 1 ≤ most) (h9 : most ≤ 9) (ho0 : 0 ≤ odd) (ho1 : odd ≤ 1000) (hmK : most ≤ (K : Int)) :
    Calls Try.prog 29 #[.pointer (some ⟨B, 0, none⟩), .int .i64 most, .int .i64 odd] w (DrawnGK n₀ B (N + 200) K w) := by
  have hBw := hR.lt
  obtain ⟨i0, hi, hz0, hz1, hz2⟩ := info_parts infoInts
  obtain ⟨i1, hj, hy0, hy1, hy2⟩ := info_parts infoInt
  go_enter Try.func29, Try.ntmps29
  go_wp2_with fail
  refine (pick_any n₀ B N most w hR (by omega)).mono ?_
  rintro e w1 ⟨x, ⟨rfl, hx0, hx1, _⟩, hR1, hg1, hs1⟩
  have hx1' := hx1 h1
  obtain ⟨m, hm⟩ : ∃ m : Nat, 1 + x = (m : Int) := ⟨(1 + x).toNat, by omega⟩
  have HM := Lib.hid hm
  have hm1 : 1 ≤ m := by omega
  have hm9 : m ≤ 9 := by omega
  have hmK' : m ≤ K := by omega
  obtain rfl : x = (m : Int) - 1 := by omega
  have hmm : (1 : Int) + ((m : Int) - 1) = m := by omega
  clear hm hx1 hR
  have HG := Lib.hid (GOut.start (m := m) hR1 hg1 hBw)
  clear hR1 hg1 hs1
  go_wp2_with fail
  refine (pick_any n₀ B (N + 1) 4 _ HG.out.rd (by omega)).mono ?_
  rintro e w2 ⟨q, ⟨rfl, hq0, hq1, _⟩, hR2, hg2, hs2⟩
  have hq4 := hq1 (by omega)
  have HG2 := Lib.hid (HG.out.pick hR2 hg2)
  clear hR2 hg2 hs2 hq1 HG
  go_wp2_with fail
  go_loopw [8, 10] (fun v i wr => ∃ (k g cap : Nat), k ≤ m ∧ i = .int .i64 k ∧ v = .slice (some ⟨g, 0, none⟩) k cap ∧ Hid (GOut n₀ B w wr (.slice (some ⟨g, 0, none⟩) k cap) k m (N + 2 + k * 16)))
    (fun _ i _ => m - (intOf i).toNat)
  case atStart => exact ⟨0, _, _, Nat.zero_le _, rfl, rfl, Lib.hid (HG2.out.more (by omega))⟩
  case round =>
    obtain ⟨k, g, cap, hk, rfl, rfl, HO⟩ := hrel
    by_cases hlt : k < m
    · have hmk := run_make_row' (P := Try.prog) 24 3 (.int .i64 0) 8 Try.underlying24 infoInt rfl .i64 .i64 m (by omega) (by omega)
      have HI0 := Lib.hid (GIn.make HO.out)
      obtain ⟨wo, rfl⟩ : ∃ wo : World, wo = wr := ⟨_, rfl⟩
      go_wp2_with fail
      clear hmk
      go_loopw [12] (fun i wi => ∃ j : Nat, j ≤ m ∧ i = .int .i64 j ∧ Hid (GIn n₀ B w wi (.slice (some ⟨g, 0, none⟩) k cap) k m wo.heap.size (N + 2 + k * 16 + j))) (fun i _ => m - (intOf i).toNat)
      case atStart => exact ⟨0, Nat.zero_le _, rfl, HI0⟩
      case round =>
        obtain ⟨j, hj, rfl, HI⟩ := hrel
        clear HI0 HO HG2
        by_cases hltj : j < m
        · go_wp2_with (go_at_call 30; refine (pick_any n₀ B (N + 2 + k * 16 + j) _ _ HI.out.out.rd (by omega)).mono ?_; rintro e w3 ⟨x, ⟨rfl, hx0, hx1, _⟩, hR3, hg3, -⟩; have HI3 := Lib.hid (HI.out.pick hR3 hg3); clear hR3 hg3; obtain ⟨y, hy⟩ := HI3.out.cur.cell hltj; have hfz := HI3.out.cur.frozen j)
          all_goals
            go_roundw
            case rel => first | exact ⟨j + 1, by omega, by go_num, Lib.hid ((HI3.out.store j _).more (by omega))⟩ | exact ⟨j + 1, by omega, by go_num, Lib.hid (HI.out.more (by omega))⟩
            case measure => simp [intOf]; omega
        · obtain rfl : j = m := by omega
          obtain ⟨vs, hown, hrows⟩ := HI.out.out.own
          have HW := Lib.hid hrows
          clear hrows
          have hbase := HI.out.out.far.size
          go_wp2_with (at_builtin; refine wpList_append_own _ rfl _ _ 23 rfl w.heap.size 24 i0 (.slice none 0 0) 1 24 Try.underlying23 hi hz0 hz1 hz2 rfl (by decide) _ _ _ rfl (hown.alloc _) ⟨wr.heap.size, 0, none⟩ 1 1 [.slice (some ⟨wo.heap.size, 0, none⟩) j j] rfl rfl (cell_one_new _ _ _) (by simp [Value.oneCell']) (by unfold maxLen; omega) (by omega) (by simp; omega) ?_; intro v' w4 hown' hgrow _; obtain ⟨g', cap', rfl⟩ := ownsRow_succ hown'; have HO4 := Lib.hid (GIn.appended HI.out hown HW.out hown' hgrow); clear hown' hgrow)
          go_roundw
          case rel => exact ⟨k + 1, g', cap', by omega, by go_num, rfl, Lib.hid (HO4.out.more (by omega))⟩
          case measure => simp [intOf]; omega
    · obtain rfl : k = m := by omega
      clear HG2
      go_wp2_with fail
      refine (pick_any n₀ B _ 4 _ HO.out.rd (by omega)).mono ?_
      rintro e w5 ⟨x, ⟨rfl, hx0, hx1, _⟩, hR5, hg5, -⟩
      have HO5 := Lib.hid (HO.out.pick hR5 hg5)
      clear hR5 hg5 HO hx1
      by_cases hxz : x = 0
      · have hxb : (x == 0) = true := by simp [hxz]
        clear hxz
        go_wp2_with fail
        go_loopw [13] (fun i wi => ∃ c : Nat, c ≤ k ∧ i = .int .i64 c ∧ Hid (GOut n₀ B w wi (.slice (some ⟨g, 0, none⟩) k cap) k k (N + 2 + k * 16 + 1))) (fun i _ => k - (intOf i).toNat)
        case atStart => exact ⟨0, Nat.zero_le _, rfl, HO5⟩
        case round =>
          obtain ⟨c, hc, rfl, HO6⟩ := hrel
          clear HO5
          by_cases hltc : c < k
          · go_wp2_with fail
            obtain ⟨wo, rfl⟩ : ∃ wo : World, wo = wr := ⟨_, rfl⟩
            go_loopw [14] (fun i wi => ∃ d : Nat, d ≤ c ∧ i = .int .i64 d ∧ Hid (GOut n₀ B w wi (.slice (some ⟨g, 0, none⟩) k cap) k k (N + 2 + k * 16 + 1))) (fun i _ => c - (intOf i).toNat)
            case atStart => exact ⟨0, Nat.zero_le _, rfl, HO6⟩
            case round =>
              obtain ⟨d, hd, rfl, HO7⟩ := hrel
              clear HO6
              by_cases hltd : d < c
              · obtain ⟨bc, hbc, hbc1, hIc⟩ := HO7.out.row hltc
                obtain ⟨bd, hbd, hbd1, hId⟩ := HO7.out.row (show d < k by omega)
                obtain ⟨y, hy⟩ := hId.cell hltc
                obtain ⟨z, hz⟩ := hIc.cell (show d < k by omega)
                have hfz := hIc.frozen d
                have HO8 := Lib.hid ((HO7.out.store hbc1 hIc d y).drew)
                clear hIc hId
                go_wp2
                go_region
                all_goals
                  go_wp2
                  go_roundw
                  case rel => exact ⟨d + 1, by omega, by go_num, HO8⟩
                  case measure => simp [intOf]; omega
              · obtain rfl : d = c := by omega
                go_wp2
                go_roundw
                case rel => exact ⟨d + 1, by omega, by go_num, HO7⟩
                case measure => simp [intOf]; omega
          · go_wp2_with fail
            refine (odd_any n₀ B _ odd _ HO6.out.rd (by omega) (by omega) ho0).mono ?_
            rintro e w6 ⟨yes, rfl, hR6, hg6, -⟩
            have HT := Lib.hid (HO6.out.pick hR6 hg6)
            clear hR6 hg6 HO6
            cases yes with
            | false =>
              go_wp2_with fail
              go_ret
              exact HT.out.drawn (by omega) (by omega) (by omega) (by omega)
            | true =>
              go_wp2_with fail
              refine (pick_any n₀ B _ 3 _ HT.out.rd (by omega)).mono ?_
              rintro e w7 ⟨t, ⟨rfl, ht0, ht1, _⟩, hR7, hg7, -⟩
              have HU := Lib.hid (HT.out.pick hR7 hg7)
              clear hR7 hg7 HT ht1
              by_cases ht2 : t = 0
              · have hb : (t == 0) = true := by simp [ht2]
                clear ht2
                go_wp2_with fail
                go_ret
                exact HU.out.drawn_none _ (by omega) _ _
              · have hb : (t == 0) = false := by simp [ht2]
                clear ht2
                obtain ⟨b0, hb0, hb1, hI0⟩ := HU.out.row (show 0 < k by omega)
                by_cases ht3 : t = 1
                · have hb2 : (t == 1) = true := by simp [ht3]
                  clear ht3
                  obtain ⟨y, hy⟩ := hI0.cell (show 0 < k by omega)
                  have hfz := hI0.frozen 0
                  have HI9 := Lib.hid (HU.out.store hb1 hI0 0 2)
                  clear hI0
                  go_wp2_with fail
                  go_ret
                  exact HI9.out.drawn (by omega) (by omega) (by omega) (by omega)
                · have hb2 : (t == 1) = false := by simp [ht3]
                  clear ht3
                  obtain ⟨zs, hz1', hz2', hz3'⟩ := hI0.values
                  have HZ := Lib.hid hz3'
                  have HZ2 := Lib.hid hz2'
                  have HZ1 := Lib.hid hz1'
                  have hlt0 : b0 < w7.heap.size := hI0.lt
                  have hlg : g < w7.heap.size := World.block_lt_of_cell? _ _ hb0
                  have hfg : w7.frozen? ⟨g, 0, none⟩ = false := by obtain ⟨vs, ho, _⟩ := HU.out.own; exact ho.frozenAt 0
                  clear hz3' hz2' hz1' hI0
                  go_wp2_with (at_builtin; go_must (refine wpList_append_grows _ rfl _ _ 24 rfl 3 i1 (.int .i64 0) 1 8 Try.underlying24 hj hy0 hy1 hy2 rfl (by decide) (some ⟨b0, 0, none⟩) k k zs rfl (fun h => by cases h) (by rw [HZ1.out]; omega) (fun b hb j u hu => by cases hb; rw [show ((⟨b0, 0, none⟩ : Addr).add j) = ⟨b0, j, none⟩ from by unfold Addr.add; split <;> simp_all]; exact (World.cell?_alloc_lt w7 _ ⟨b0, j, none⟩ hlt0).trans (HZ2.out j u hu)) ⟨w7.heap.size, 0, none⟩ 1 1 [.int .i64 0] rfl rfl (cell_one_new _ _ _) (by simp [Value.oneCell']) (by omega) (by unfold maxLen; omega) (by omega) ?_); go_must (intro v' w8 hown' hgrow; obtain ⟨g', cap', rfl⟩ := ownsRow_succ hown'); go_must (have HO9 := Lib.hid (HU.out.widened _ HZ1.out HZ.out hown' hgrow (N' := N + 200) (K := K) (by omega) (by omega) (by omega) (by omega))); go_must (have hc9 : w8.cell? ⟨g, 0, none⟩ = some (.slice (some ⟨b0, 0, none⟩) k k) := (World.cell?_of_block (hgrow.block g (by simp; omega) (by simp))).trans ((World.cell?_alloc_lt w7 _ ⟨g, 0, none⟩ hlg).trans hb0)); go_must (have hf9 : w8.frozen? ⟨g, 0, none⟩ = false := (World.frozen?_of_block (hgrow.block g (by simp; omega) (by simp))).trans ((World.frozen?_alloc_past _ g 0 hlg).trans hfg)); clear hown' hgrow)
                  go_ret
                  exact HO9.out
      · have hxb : (x == 0) = false := by simp [hxz]
        clear hxz
        go_wp2_with fail
        refine (odd_any n₀ B _ odd _ HO5.out.rd (by omega) (by omega) ho0).mono ?_
        rintro e w6 ⟨yes, rfl, hR6, hg6, -⟩
        have HT := Lib.hid (HO5.out.pick hR6 hg6)
        clear hR6 hg6 HO5
        cases yes with
        | false =>
          go_wp2_with fail
          go_ret
          exact HT.out.drawn (by omega) (by omega) (by omega) (by omega)
        | true =>
          go_wp2_with fail
          refine (pick_any n₀ B _ 3 _ HT.out.rd (by omega)).mono ?_
          rintro e w7 ⟨t, ⟨rfl, ht0, ht1, _⟩, hR7, hg7, -⟩
          have HU := Lib.hid (HT.out.pick hR7 hg7)
          clear hR7 hg7 HT ht1
          by_cases ht2 : t = 0
          · have hb : (t == 0) = true := by simp [ht2]
            clear ht2
            go_wp2_with fail
            go_ret
            exact HU.out.drawn_none _ (by omega) _ _
          · have hb : (t == 0) = false := by simp [ht2]
            clear ht2
            obtain ⟨b0, hb0, hb1, hI0⟩ := HU.out.row (show 0 < k by omega)
            by_cases ht3 : t = 1
            · have hb2 : (t == 1) = true := by simp [ht3]
              clear ht3
              obtain ⟨y, hy⟩ := hI0.cell (show 0 < k by omega)
              have hfz := hI0.frozen 0
              have HI9 := Lib.hid (HU.out.store hb1 hI0 0 2)
              clear hI0
              go_wp2_with fail
              go_ret
              exact HI9.out.drawn (by omega) (by omega) (by omega) (by omega)
            · have hb2 : (t == 1) = false := by simp [ht3]
              clear ht3
              obtain ⟨zs, hz1', hz2', hz3'⟩ := hI0.values
              have HZ := Lib.hid hz3'
              have HZ2 := Lib.hid hz2'
              have HZ1 := Lib.hid hz1'
              have hlt0 : b0 < w7.heap.size := hI0.lt
              have hlg : g < w7.heap.size := World.block_lt_of_cell? _ _ hb0
              have hfg : w7.frozen? ⟨g, 0, none⟩ = false := by obtain ⟨vs, ho, _⟩ := HU.out.own; exact ho.frozenAt 0
              clear hz3' hz2' hz1' hI0
              go_wp2_with (at_builtin; go_must (refine wpList_append_grows _ rfl _ _ 24 rfl 3 i1 (.int .i64 0) 1 8 Try.underlying24 hj hy0 hy1 hy2 rfl (by decide) (some ⟨b0, 0, none⟩) k k zs rfl (fun h => by cases h) (by rw [HZ1.out]; omega) (fun b hb j u hu => by cases hb; rw [show ((⟨b0, 0, none⟩ : Addr).add j) = ⟨b0, j, none⟩ from by unfold Addr.add; split <;> simp_all]; exact (World.cell?_alloc_lt w7 _ ⟨b0, j, none⟩ hlt0).trans (HZ2.out j u hu)) ⟨w7.heap.size, 0, none⟩ 1 1 [.int .i64 0] rfl rfl (cell_one_new _ _ _) (by simp [Value.oneCell']) (by omega) (by unfold maxLen; omega) (by omega) ?_); go_must (intro v' w8 hown' hgrow; obtain ⟨g', cap', rfl⟩ := ownsRow_succ hown'); go_must (have HO9 := Lib.hid (HU.out.widened _ HZ1.out HZ.out hown' hgrow (N' := N + 200) (K := K) (by omega) (by omega) (by omega) (by omega))); go_must (have hc9 : w8.cell? ⟨g, 0, none⟩ = some (.slice (some ⟨b0, 0, none⟩) k k) := (World.cell?_of_block (hgrow.block g (by simp; omega) (by simp))).trans ((World.cell?_alloc_lt w7 _ ⟨g, 0, none⟩ hlg).trans hb0)); go_must (have hf9 : w8.frozen? ⟨g, 0, none⟩ = false := (World.frozen?_of_block (hgrow.block g (by simp; omega) (by simp))).trans ((World.frozen?_alloc_past _ g 0 hlg).trans hfg)); clear hown' hgrow)
              go_ret
              exact HO9.out

theorem graph_any (n₀ B N : Nat) (most odd : Int) (w : World) (hR : Rd n₀ B w N) (hN : N ≤ 500000) (h1 : 1 ≤ most) (h9 : most ≤ 9) (ho0 : 0 ≤ odd) (ho1 : odd ≤ 1000) :
    Calls Try.prog 29 #[.pointer (some ⟨B, 0, none⟩), .int .i64 most, .int .i64 odd] w (DrawnG n₀ B (N + 200) w) :=
  (graph_anyK n₀ B N 9 most odd w hR hN h1 h9 ho0 ho1 (by omega)).mono fun _ _ h => h.drawn

end Go.Proofs.Ytmohmecdhabapac
