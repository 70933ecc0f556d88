/-
  Several texts in one.
  A graph is drawn whose rows can be set still; a graph that seldom has arrows to itself (spec.l20Bare).
  The draws of chapter 8's laws; a row drawn that can be set (l20Some).
-/
import Derived.Test.YtpcmenhchabgiaaZD
import Derived.Test.YtpcmenhchabgiaaZA
import Derived.Test.YtpcmenhchabgiaaZE
import Derived.Test.YtpcmenhchabgiaaZP
import Derived.Test.YtpcmenhchabgiaaWC
import Derived.Test.YtpcmenhchabgiaaWU
import Derived.Test.YtpcmenhchabgiaaWY
import Derived.Test.YtpcmenhchabgiaaWS
namespace Go.Proofs.Ytpcmenhchabgiaa
open Go.RowKit Go.Shelf Go.Deep

/-- A ROW THAT CAN BE SET. -/
def SetRow (base : Nat) (W : World) (x : Value) : Prop := ∃ (b m c : Nat) (cs : Array Value), x = .slice (some ⟨b, 0, none⟩) m c ∧ m ≤ 10 ∧ base ≤ b ∧ W.heap[b]? = some (.cells cs 3 (0, 0)) ∧ m ≤ cs.size ∧ ∀ i, i < m → ∃ y : Int, cs[i]? = some (.int .i64 y)
theorem SetRow.kept {base : Nat} {W W' : World} {x : Value} {row : Option Nat} (h : SetRow base W x) (hg : W.grownBy W' row) (hne : ∀ b m c, x = .slice (some ⟨b, 0, none⟩) m c → some b ≠ row) : SetRow base W' x := by
  obtain ⟨b, m, c, cs, rfl, h1, h2, h3, h4, h5⟩ := h
  exact ⟨b, m, c, cs, rfl, h1, h2, (hg.block b (Array.getElem?_eq_some_iff.1 h3).1 (hne b m c rfl)).trans h3, h4, h5⟩
theorem SetRow.store {base : Nat} {W : World} {x : Value} (h : SetRow base W x) (b' j : Nat) (z : Int) : SetRow base (W.setCell ⟨b', j, none⟩ (.int .i64 z)) x := by
  obtain ⟨b, m, c, cs, rfl, h1, h2, h3, h4, h5⟩ := h
  by_cases e : b = b'
  · subst e
    refine ⟨b, m, c, cs.setIfInBounds j (.int .i64 z), rfl, h1, h2, ?_, by simpa using h4, fun i hi => ?_⟩
    · show (W.heap.modify b _)[b]? = _
      simp [Array.getElem?_modify, h3]
    · by_cases e : j = i
      · subst e
        exact ⟨z, by rw [Array.getElem?_setIfInBounds, if_pos rfl, if_pos (by omega)]⟩
      · obtain ⟨y, hy⟩ := h5 i hi
        exact ⟨y, by rw [Array.getElem?_setIfInBounds, if_neg e]; exact hy⟩
  · exact ⟨b, m, c, cs, rfl, h1, h2, (Below.heap_setCell W ⟨b', j, none⟩ _ b e).trans h3, h4, h5⟩
theorem SetRow.read {base : Nat} {W : World} {x : Value} (h : SetRow base W x) : RowRead W x := by
  obtain ⟨b, m, c, cs, rfl, h1, _, h3, h4, h5⟩ := h
  refine ⟨b, m, c, rfl, h1, (Array.getElem?_eq_some_iff.1 h3).1, fun i hi => ?_⟩
  obtain ⟨y, hy⟩ := h5 i hi
  exact ⟨y, by simpa [World.cell?, h3] using hy⟩
theorem RowAny.setRow {base m : Nat} {W : World} {x : Value} (h : RowAny base W x m) (hm : m ≤ 10) : SetRow base W x := by
  obtain ⟨b, rfl, hb, cs, h1, h2, h3⟩ := h
  exact ⟨b, m, m, cs, rfl, hm, hb, h1, by omega, h3⟩
theorem set_own {W : World} {base k b j : Nat} {v : Value} {vs : List Value} {cs : Array Value} {z : Int} (h : W.ownsRow base 33 1 v k vs) (hb : W.heap[b]? = some (.cells cs 3 (0, 0))) : (W.setCell ⟨b, j, none⟩ (.int .i64 z)).ownsRow base 33 1 v k vs :=
  h.kept (grownBy_set W b j (.int .i64 z)) (.inr fun e => by
    rcases h.2 with ⟨rfl, _⟩ | ⟨g, cap, cur, rfl, _, hg, _⟩
    · cases e
    · have e' : g = b := by simpa [Value.ownBlock] using e
      subst e'
      rw [hb] at hg
      injection hg with hg
      injection hg with _ h2
      exact absurd h2 (by decide))

/-- A GRAPH IS LAID, whose rows can be set, while a reader goes on. -/
structure SOut (n₀ B : Nat) (w W : World) (v : Value) (k N : Nat) : Prop where
  rd : Rd n₀ B W N
  far : w.grownBy W (some B)
  lt : B < w.heap.size
  own : ∃ vs, W.ownsRow w.heap.size 33 1 v k vs ∧ ∀ x ∈ vs, SetRow w.heap.size W x
theorem SOut.more {n₀ B k N N' : Nat} {w W : World} {v : Value} (h : SOut n₀ B w W v k N) (hN : N ≤ N') : SOut n₀ B w W v k N' := ⟨h.rd.more hN, h.far, h.lt, h.own⟩
theorem SOut.pick {n₀ B k N N' : Nat} {w W W' : World} {v : Value} (h : SOut n₀ B w W v k N) (hr : Rd n₀ B W' N') (hg : W.grownBy W' (some B)) : SOut n₀ B w W' v k N' := by
  obtain ⟨vs, ho, hv⟩ := h.own
  have hlt := h.lt
  refine ⟨hr, grow_B h.far hg (fun r e => .inr (by cases e; rfl)), h.lt, vs, ho.kept hg (.inr (own_ne_rd ho h.rd)), fun x hx => (hv x hx).kept hg fun b m c e e2 => ?_⟩
  cases e2
  obtain ⟨b', m', c', cs, e', _, hb', _⟩ := hv x hx
  rw [e'] at e
  cases e
  omega
theorem SOut.drew {n₀ B k N : Nat} {w W : World} {v : Value} (h : SOut n₀ B w W v k N) : SOut n₀ B w W.drew v k N := ⟨h.rd, ⟨h.far.os, h.far.tape, h.far.output, h.far.size, h.far.block⟩, h.lt, h.own⟩
theorem SOut.mat {n₀ B k N : Nat} {w W : World} {a : Option Addr} {c : Nat} (h : SOut n₀ B w W (.slice a k c) k N) (hk : k ≤ 1000) : ∃ xss : List (List Int), xss.length = k ∧ Fit xss ∧ Mat W.heap.size W a xss := by
  obtain ⟨vs, ho, hv⟩ := h.own
  obtain ⟨xss, hl, hF, hM⟩ := mat_of_read ho (fun x hx => (hv x hx).read) hk
  exact ⟨xss, hl, hF, hM⟩
/-- One entry of a row set. -/
theorem SOut.entry {n₀ B k N g c : Nat} {w W : World} (h : SOut n₀ B w W (.slice (some ⟨g, 0, none⟩) k c) k N) {i l c' : Nat} {a' : Option Addr} (hi : i < k) (hc : W.cell? ⟨g, i, none⟩ = some (.slice a' l c')) (hl : i < l) :
    ∃ b, a' = some ⟨b, 0, none⟩ ∧ (∃ y : Int, W.cell? ⟨b, i, none⟩ = some (.int .i64 y)) ∧ W.frozen? ⟨b, i, none⟩ = false ∧ ∀ z : Int, SOut n₀ B w (W.setCell ⟨b, i, none⟩ (.int .i64 z)) (.slice (some ⟨g, 0, none⟩) k c) k N := by
  obtain ⟨vs, ho, hv⟩ := h.own
  have hlt := h.lt
  have hvi : vs[i]? = some (.slice a' l c') := by have h2 := ho.cellAt i (by omega); rw [hc] at h2; exact h2.symm
  obtain ⟨b, m, c2, cs, e, h1, h2, h3, h4, h5⟩ := hv _ (List.mem_of_getElem? hvi)
  cases e
  obtain ⟨y, hy⟩ := h5 i hl
  refine ⟨b, rfl, ⟨y, by simp [World.cell?, h3, hy]⟩, by simp [World.frozen?, h3], fun z => ?_⟩
  have hg := grownBy_set W b i (.int .i64 z)
  exact ⟨h.rd.keep hg (fun r e => by cases e; omega), grow_B h.far hg (fun r e => by cases e; exact .inl h2), h.lt, vs, set_own ho h3, fun x hx => (hv x hx).store b i z⟩
/-- DRAWN, with rows that can be set. -/
def DrawnS (n₀ B N K : Nat) (w : World) (e : Ending) (w' : World) : Prop := ∃ (g c k : Nat), e = .returned (.slice (some ⟨g, 0, none⟩) k c) ∧ k ≤ K ∧ SOut n₀ B w w' (.slice (some ⟨g, 0, none⟩) k c) k N
theorem SOut.drawn {n₀ B k N N' K g c : Nat} {w W : World} (h : SOut n₀ B w W (.slice (some ⟨g, 0, none⟩) k c) k N) (hk : k ≤ 1000) (hN : N ≤ N') (hK : k ≤ K) : DrawnGK n₀ B N' K w (.returned (.slice (some ⟨g, 0, none⟩) k c)) W := by
  obtain ⟨vs, ho, hv⟩ := h.own
  have hlt := h.lt
  obtain ⟨xss, hl, hF, hM⟩ := mat_of_read (ho.kept (erased_grown W B) (.inr (own_ne_rd ho h.rd))) (fun x hx => ((hv x hx).read).erased fun b m c e => by
    obtain ⟨b', m', c', cs, e', _, hb', _⟩ := hv x hx
    rw [e'] at e
    cases e
    omega) hk
  subst hl
  rw [show (W.setRow B #[]).heap.size = W.heap.size by simp] at hM
  exact ⟨_, c, xss, rfl, hF, hM, h.rd.more hN, h.far, hK⟩
theorem GOut.drawnS {n₀ B k m N N' K g c : Nat} {w W : World} (h : GOut n₀ B w W (.slice (some ⟨g, 0, none⟩) k c) k m N) (hm : m ≤ 10) (_hk : k ≤ 1000) (hN : N ≤ N') (hK : k ≤ K) : DrawnS n₀ B N' K w (.returned (.slice (some ⟨g, 0, none⟩) k c)) W := by
  obtain ⟨vs, ho, hv⟩ := h.own
  exact ⟨g, c, k, rfl, hK, h.rd.more hN, h.far, h.lt, vs, ho, fun x hx => (hv x hx).setRow hm⟩
theorem GOut.drawn_noneS {n₀ B k m N N' K : Nat} {w W : World} {v : Value} (h : GOut n₀ B w W v k m N) (hN : N ≤ N') : DrawnS n₀ B N' K w (.returned (.slice (some ⟨W.heap.size, 0, none⟩) 0 0)) (W.alloc (.cells #[] 33)) := by
  have hA := h.alloc (.cells #[] 33)
  exact ⟨W.heap.size, 0, 0, rfl, Nat.zero_le _, hA.rd.more hN, hA.far, hA.lt, [], World.ownsRow_lit (size := 1) W #[] 0 h.far.size (Nat.zero_le _) rfl, fun x hx => by cases hx⟩
theorem GOut.widenedS {n₀ B k m N N' K g cap g' cap' : Nat} {w W w1 : World} (h : GOut n₀ B w W (.slice (some ⟨g, 0, none⟩) k cap) k m N) (o : Obj) {zs : List Value} (hz : zs.length = m) (hzi : ∀ j, j < m → ∃ y : Int, zs[j]? = some (.int .i64 y))
    (hown : w1.ownsRow (W.alloc o).heap.size 3 1 (.slice (some ⟨g', 0, none⟩) (m + 1) cap') (m + 1) (zs ++ [.int .i64 0])) (hg : (W.alloc o).grownBy w1 none) (hm : m ≤ 9) (_hk : k ≤ 1000) (hN : N ≤ N') (hK : k ≤ K) :
    DrawnS n₀ B N' K w (.returned (.slice (some ⟨g, 0, none⟩) k cap)) (w1.setCell ⟨g, 0, none⟩ (.slice (some ⟨g', 0, none⟩) (m + 1) cap')) := by
  obtain ⟨vs, ho, hv⟩ := h.own
  have hlg := ho.lt g (by simp [Value.ownBlock])
  have hl := h.lt
  have hlg' := hown.lt g' (by simp [Value.ownBlock])
  rw [World.size_alloc] at hlg'
  have ho1 := (ho.alloc o).kept hg (.inr (by simp [Value.ownBlock]))
  have ho2 := (ho1.stored 0 (.slice (some ⟨g', 0, none⟩) (m + 1) cap')).1
  have hs := grownBy_set w1 g 0 (.slice (some ⟨g', 0, none⟩) (m + 1) cap')
  refine ⟨g, cap, k, rfl, hK, ?_, ?_, hl, _, ho2, fun x hx => ?_⟩
  · exact (((h.rd.keep (World.grownBy_alloc W o none) (fun r e => by cases e)).keep hg (fun r e => by cases e)).keep hs (fun r e => by cases e; omega)).more hN
  · exact grow_B (grow_B (grow_B h.far (World.grownBy_alloc W o none) (fun r e => by cases e)) hg (fun r e => by cases e)) hs (fun r e => by cases e; exact .inl hlg.1)
  · rcases List.mem_or_eq_of_mem_set hx with hx | rfl
    · obtain ⟨b, rfl, hb, hi⟩ := hv x hx
      have hi1 := ((hi.kept (World.grownBy_alloc W o none) (by simp)).kept hg (by simp))
      exact RowAny.setRow ⟨b, rfl, hb, hi1.kept hs (fun e => own_ne_ints ho1 hi1 e.symm)⟩ (by omega)
    · rcases hown.2 with ⟨e0, _⟩ | ⟨g2, cap2, cur, e0, hb2, hgg, hnc, hcm, hcs, hct⟩
      · cases e0
      · cases e0
        refine ⟨g', m + 1, cap', cur, rfl, by omega, by omega, (Below.heap_setCell w1 ⟨g, 0, none⟩ _ g' (by show g' ≠ g; omega)).trans hgg, by omega, fun i hi => ?_⟩
        have hc := hown.cellAt i (by omega)
        have hc2 : w1.cell? ⟨g', i, none⟩ = cur[i]? := by simp [World.cell?, hgg]
        rw [← hc2, hc]
        by_cases e : i < m
        · obtain ⟨y, hy⟩ := hzi i e
          exact ⟨y, by rw [List.getElem?_append_left (by omega), hy]⟩
        · obtain rfl : i = m := by omega
          exact ⟨0, by rw [List.getElem?_append_right (by omega)]; simp [hz]⟩

set_option maxRecDepth 100000 in
set_option maxHeartbeats 4000000 in
theorem graph_anyS (n₀ B N K : Nat) (most odd : Int) (w : World) (hR : Rd n₀ B w N) (hN : N ≤ 500000) (h1 : 1 ≤ most) (h9 : most ≤ 9) (ho0 : 0 ≤ odd) (ho1 : odd ≤ 1000) (hmK : most ≤ (K : Int)) :
    Calls Try.prog 78 #[.pointer (some ⟨B, 0, none⟩), .int .i64 most, .int .i64 odd] w (DrawnS n₀ B (N + 200) K w) := by
  have hBw := hR.lt
  obtain ⟨i0, hi, hz0, hz1, hz2⟩ := info_parts infoInts
  obtain ⟨i1, hj, hy0, hy1, hy2⟩ := info_parts infoInt
  go_enter Try.func78, Try.ntmps78
  go_wp2_with fail
  refine (pick_any n₀ B N most w hR (by omega)).mono ?_
  rintro e w1 ⟨x, ⟨rfl, hx0, hx1, _⟩, hR1, hg1, hs1⟩
  have hx1' := hx1 h1
  obtain ⟨m, hm⟩ : ∃ m : Nat, 1 + x = (m : Int) := ⟨(1 + x).toNat, by omega⟩
  have HM := Lib.hid hm
  have hm1 : 1 ≤ m := by omega
  have hm9 : m ≤ 9 := by omega
  have hmK' : m ≤ K := by omega
  obtain rfl : x = (m : Int) - 1 := by omega
  have hmm : (1 : Int) + ((m : Int) - 1) = m := by omega
  clear hm hx1 hR
  have HG := Lib.hid (GOut.start (m := m) hR1 hg1 hBw)
  clear hR1 hg1 hs1
  go_wp2_with fail
  refine (pick_any n₀ B (N + 1) 4 _ HG.out.rd (by omega)).mono ?_
  rintro e w2 ⟨q, ⟨rfl, hq0, hq1, _⟩, hR2, hg2, hs2⟩
  have hq4 := hq1 (by omega)
  have HG2 := Lib.hid (HG.out.pick hR2 hg2)
  clear hR2 hg2 hs2 hq1 HG
  go_wp2_with fail
  go_loopw [8, 10] (fun v i wr => ∃ (k g cap : Nat), k ≤ m ∧ i = .int .i64 k ∧ v = .slice (some ⟨g, 0, none⟩) k cap ∧ Hid (GOut n₀ B w wr (.slice (some ⟨g, 0, none⟩) k cap) k m (N + 2 + k * 16)))
    (fun _ i _ => m - (intOf i).toNat)
  case atStart => exact ⟨0, _, _, Nat.zero_le _, rfl, rfl, Lib.hid (HG2.out.more (by omega))⟩
  case round =>
    obtain ⟨k, g, cap, hk, rfl, rfl, HO⟩ := hrel
    by_cases hlt : k < m
    · have hmk := run_make_row' (P := Try.prog) 33 3 (.int .i64 0) 8 Try.underlying33 infoInt rfl .i64 .i64 m (by omega) (by omega)
      have HI0 := Lib.hid (GIn.make HO.out)
      obtain ⟨wo, rfl⟩ : ∃ wo : World, wo = wr := ⟨_, rfl⟩
      go_wp2_with fail
      clear hmk
      go_loopw [12] (fun i wi => ∃ j : Nat, j ≤ m ∧ i = .int .i64 j ∧ Hid (GIn n₀ B w wi (.slice (some ⟨g, 0, none⟩) k cap) k m wo.heap.size (N + 2 + k * 16 + j))) (fun i _ => m - (intOf i).toNat)
      case atStart => exact ⟨0, Nat.zero_le _, rfl, HI0⟩
      case round =>
        obtain ⟨j, hj, rfl, HI⟩ := hrel
        clear HI0 HO HG2
        by_cases hltj : j < m
        · go_wp2_with (go_at_call 55; refine (pick_any n₀ B (N + 2 + k * 16 + j) _ _ HI.out.out.rd (by omega)).mono ?_; rintro e w3 ⟨x, ⟨rfl, hx0, hx1, _⟩, hR3, hg3, -⟩; have HI3 := Lib.hid (HI.out.pick hR3 hg3); clear hR3 hg3; obtain ⟨y, hy⟩ := HI3.out.cur.cell hltj; have hfz := HI3.out.cur.frozen j)
          all_goals
            go_roundw
            case rel => first | exact ⟨j + 1, by omega, by go_num, Lib.hid ((HI3.out.store j _).more (by omega))⟩ | exact ⟨j + 1, by omega, by go_num, Lib.hid (HI.out.more (by omega))⟩
            case measure => simp [intOf]; omega
        · obtain rfl : j = m := by omega
          obtain ⟨vs, hown, hrows⟩ := HI.out.out.own
          have HW := Lib.hid hrows
          clear hrows
          have hbase := HI.out.out.far.size
          go_wp2_with (at_builtin; refine wpList_append_own _ rfl _ _ 24 rfl w.heap.size 33 i0 (.slice none 0 0) 1 24 Try.underlying24 hi hz0 hz1 hz2 rfl (by decide) _ _ _ rfl (hown.alloc _) ⟨wr.heap.size, 0, none⟩ 1 1 [.slice (some ⟨wo.heap.size, 0, none⟩) j j] rfl rfl (cell_one_new _ _ _) (by simp [Value.oneCell']) (by unfold maxLen; omega) (by omega) (by simp; omega) ?_; intro v' w4 hown' hgrow _; obtain ⟨g', cap', rfl⟩ := ownsRow_succ hown'; have HO4 := Lib.hid (GIn.appended HI.out hown HW.out hown' hgrow); clear hown' hgrow)
          go_roundw
          case rel => exact ⟨k + 1, g', cap', by omega, by go_num, rfl, Lib.hid (HO4.out.more (by omega))⟩
          case measure => simp [intOf]; omega
    · obtain rfl : k = m := by omega
      clear HG2
      go_wp2_with fail
      refine (pick_any n₀ B _ 4 _ HO.out.rd (by omega)).mono ?_
      rintro e w5 ⟨x, ⟨rfl, hx0, hx1, _⟩, hR5, hg5, -⟩
      have HO5 := Lib.hid (HO.out.pick hR5 hg5)
      clear hR5 hg5 HO hx1
      by_cases hxz : x = 0
      · have hxb : (x == 0) = true := by simp [hxz]
        clear hxz
        go_wp2_with fail
        go_loopw [13] (fun i wi => ∃ c : Nat, c ≤ k ∧ i = .int .i64 c ∧ Hid (GOut n₀ B w wi (.slice (some ⟨g, 0, none⟩) k cap) k k (N + 2 + k * 16 + 1))) (fun i _ => k - (intOf i).toNat)
        case atStart => exact ⟨0, Nat.zero_le _, rfl, HO5⟩
        case round =>
          obtain ⟨c, hc, rfl, HO6⟩ := hrel
          clear HO5
          by_cases hltc : c < k
          · go_wp2_with fail
            obtain ⟨wo, rfl⟩ : ∃ wo : World, wo = wr := ⟨_, rfl⟩
            go_loopw [14] (fun i wi => ∃ d : Nat, d ≤ c ∧ i = .int .i64 d ∧ Hid (GOut n₀ B w wi (.slice (some ⟨g, 0, none⟩) k cap) k k (N + 2 + k * 16 + 1))) (fun i _ => c - (intOf i).toNat)
            case atStart => exact ⟨0, Nat.zero_le _, rfl, HO6⟩
            case round =>
              obtain ⟨d, hd, rfl, HO7⟩ := hrel
              clear HO6
              by_cases hltd : d < c
              · obtain ⟨bc, hbc, hbc1, hIc⟩ := HO7.out.row hltc
                obtain ⟨bd, hbd, hbd1, hId⟩ := HO7.out.row (show d < k by omega)
                obtain ⟨y, hy⟩ := hId.cell hltc
                obtain ⟨z, hz⟩ := hIc.cell (show d < k by omega)
                have hfz := hIc.frozen d
                have HO8 := Lib.hid ((HO7.out.store hbc1 hIc d y).drew)
                clear hIc hId
                go_wp2
                go_region
                all_goals
                  go_wp2
                  go_roundw
                  case rel => exact ⟨d + 1, by omega, by go_num, HO8⟩
                  case measure => simp [intOf]; omega
              · obtain rfl : d = c := by omega
                go_wp2
                go_roundw
                case rel => exact ⟨d + 1, by omega, by go_num, HO7⟩
                case measure => simp [intOf]; omega
          · go_wp2_with fail
            refine (odd_any n₀ B _ odd _ HO6.out.rd (by omega) (by omega) ho0).mono ?_
            rintro e w6 ⟨yes, rfl, hR6, hg6, -⟩
            have HT := Lib.hid (HO6.out.pick hR6 hg6)
            clear hR6 hg6 HO6
            cases yes with
            | false =>
              go_wp2_with fail
              go_ret
              exact HT.out.drawnS (by omega) (by omega) (by omega) (by omega)
            | true =>
              go_wp2_with fail
              refine (pick_any n₀ B _ 3 _ HT.out.rd (by omega)).mono ?_
              rintro e w7 ⟨t, ⟨rfl, ht0, ht1, _⟩, hR7, hg7, -⟩
              have HU := Lib.hid (HT.out.pick hR7 hg7)
              clear hR7 hg7 HT ht1
              by_cases ht2 : t = 0
              · have hb : (t == 0) = true := by simp [ht2]
                clear ht2
                go_wp2_with fail
                go_ret
                exact HU.out.drawn_noneS (by omega)
              · have hb : (t == 0) = false := by simp [ht2]
                clear ht2
                obtain ⟨b0, hb0, hb1, hI0⟩ := HU.out.row (show 0 < k by omega)
                by_cases ht3 : t = 1
                · have hb2 : (t == 1) = true := by simp [ht3]
                  clear ht3
                  obtain ⟨y, hy⟩ := hI0.cell (show 0 < k by omega)
                  have hfz := hI0.frozen 0
                  have HI9 := Lib.hid (HU.out.store hb1 hI0 0 2)
                  clear hI0
                  go_wp2_with fail
                  go_ret
                  exact HI9.out.drawnS (by omega) (by omega) (by omega) (by omega)
                · have hb2 : (t == 1) = false := by simp [ht3]
                  clear ht3
                  obtain ⟨zs, hz1', hz2', hz3'⟩ := hI0.values
                  have HZ := Lib.hid hz3'
                  have HZ2 := Lib.hid hz2'
                  have HZ1 := Lib.hid hz1'
                  have hlt0 : b0 < w7.heap.size := hI0.lt
                  have hlg : g < w7.heap.size := World.block_lt_of_cell? _ _ hb0
                  have hfg : w7.frozen? ⟨g, 0, none⟩ = false := by obtain ⟨vs, ho, _⟩ := HU.out.own; exact ho.frozenAt 0
                  clear hz3' hz2' hz1' hI0
                  go_wp2_with (at_builtin; go_must (refine wpList_append_grows _ rfl _ _ 33 rfl 3 i1 (.int .i64 0) 1 8 Try.underlying33 hj hy0 hy1 hy2 rfl (by decide) (some ⟨b0, 0, none⟩) k k zs rfl (fun h => by cases h) (by rw [HZ1.out]; omega) (fun b hb j u hu => by cases hb; rw [show ((⟨b0, 0, none⟩ : Addr).add j) = ⟨b0, j, none⟩ from by unfold Addr.add; split <;> simp_all]; exact (World.cell?_alloc_lt w7 _ ⟨b0, j, none⟩ hlt0).trans (HZ2.out j u hu)) ⟨w7.heap.size, 0, none⟩ 1 1 [.int .i64 0] rfl rfl (cell_one_new _ _ _) (by simp [Value.oneCell']) (by omega) (by unfold maxLen; omega) (by omega) ?_); go_must (intro v' w8 hown' hgrow; obtain ⟨g', cap', rfl⟩ := ownsRow_succ hown'); go_must (have HO9 := Lib.hid (HU.out.widenedS _ HZ1.out HZ.out hown' hgrow (N' := N + 200) (K := K) (by omega) (by omega) (by omega) (by omega))); go_must (have hc9 : w8.cell? ⟨g, 0, none⟩ = some (.slice (some ⟨b0, 0, none⟩) k k) := (World.cell?_of_block (hgrow.block g (by simp; omega) (by simp))).trans ((World.cell?_alloc_lt w7 _ ⟨g, 0, none⟩ hlg).trans hb0)); go_must (have hf9 : w8.frozen? ⟨g, 0, none⟩ = false := (World.frozen?_of_block (hgrow.block g (by simp; omega) (by simp))).trans ((World.frozen?_alloc_past _ g 0 hlg).trans hfg)); clear hown' hgrow)
                  go_ret
                  exact HO9.out
      · have hxb : (x == 0) = false := by simp [hxz]
        clear hxz
        go_wp2_with fail
        refine (odd_any n₀ B _ odd _ HO5.out.rd (by omega) (by omega) ho0).mono ?_
        rintro e w6 ⟨yes, rfl, hR6, hg6, -⟩
        have HT := Lib.hid (HO5.out.pick hR6 hg6)
        clear hR6 hg6 HO5
        cases yes with
        | false =>
          go_wp2_with fail
          go_ret
          exact HT.out.drawnS (by omega) (by omega) (by omega) (by omega)
        | true =>
          go_wp2_with fail
          refine (pick_any n₀ B _ 3 _ HT.out.rd (by omega)).mono ?_
          rintro e w7 ⟨t, ⟨rfl, ht0, ht1, _⟩, hR7, hg7, -⟩
          have HU := Lib.hid (HT.out.pick hR7 hg7)
          clear hR7 hg7 HT ht1
          by_cases ht2 : t = 0
          · have hb : (t == 0) = true := by simp [ht2]
            clear ht2
            go_wp2_with fail
            go_ret
            exact HU.out.drawn_noneS (by omega)
          · have hb : (t == 0) = false := by simp [ht2]
            clear ht2
            obtain ⟨b0, hb0, hb1, hI0⟩ := HU.out.row (show 0 < k by omega)
            by_cases ht3 : t = 1
            · have hb2 : (t == 1) = true := by simp [ht3]
              clear ht3
              obtain ⟨y, hy⟩ := hI0.cell (show 0 < k by omega)
              have hfz := hI0.frozen 0
              have HI9 := Lib.hid (HU.out.store hb1 hI0 0 2)
              clear hI0
              go_wp2_with fail
              go_ret
              exact HI9.out.drawnS (by omega) (by omega) (by omega) (by omega)
            · have hb2 : (t == 1) = false := by simp [ht3]
              clear ht3
              obtain ⟨zs, hz1', hz2', hz3'⟩ := hI0.values
              have HZ := Lib.hid hz3'
              have HZ2 := Lib.hid hz2'
              have HZ1 := Lib.hid hz1'
              have hlt0 : b0 < w7.heap.size := hI0.lt
              have hlg : g < w7.heap.size := World.block_lt_of_cell? _ _ hb0
              have hfg : w7.frozen? ⟨g, 0, none⟩ = false := by obtain ⟨vs, ho, _⟩ := HU.out.own; exact ho.frozenAt 0
              clear hz3' hz2' hz1' hI0
              go_wp2_with (at_builtin; go_must (refine wpList_append_grows _ rfl _ _ 33 rfl 3 i1 (.int .i64 0) 1 8 Try.underlying33 hj hy0 hy1 hy2 rfl (by decide) (some ⟨b0, 0, none⟩) k k zs rfl (fun h => by cases h) (by rw [HZ1.out]; omega) (fun b hb j u hu => by cases hb; rw [show ((⟨b0, 0, none⟩ : Addr).add j) = ⟨b0, j, none⟩ from by unfold Addr.add; split <;> simp_all]; exact (World.cell?_alloc_lt w7 _ ⟨b0, j, none⟩ hlt0).trans (HZ2.out j u hu)) ⟨w7.heap.size, 0, none⟩ 1 1 [.int .i64 0] rfl rfl (cell_one_new _ _ _) (by simp [Value.oneCell']) (by omega) (by unfold maxLen; omega) (by omega) ?_); go_must (intro v' w8 hown' hgrow; obtain ⟨g', cap', rfl⟩ := ownsRow_succ hown'); go_must (have HO9 := Lib.hid (HU.out.widenedS _ HZ1.out HZ.out hown' hgrow (N' := N + 200) (K := K) (by omega) (by omega) (by omega) (by omega))); go_must (have hc9 : w8.cell? ⟨g, 0, none⟩ = some (.slice (some ⟨b0, 0, none⟩) k k) := (World.cell?_of_block (hgrow.block g (by simp; omega) (by simp))).trans ((World.cell?_alloc_lt w7 _ ⟨g, 0, none⟩ hlg).trans hb0)); go_must (have hf9 : w8.frozen? ⟨g, 0, none⟩ = false := (World.frozen?_of_block (hgrow.block g (by simp; omega) (by simp))).trans ((World.frozen?_alloc_past _ g 0 hlg).trans hfg)); clear hown' hgrow)
              go_ret
              exact HO9.out


set_option maxRecDepth 100000 in
set_option maxHeartbeats 4000000 in
theorem bare_any (n₀ B N K : Nat) (most odd : Int) (w : World) (hR : Rd n₀ B w N) (hN : N ≤ 400000) (h1 : 1 ≤ most) (h9 : most ≤ 9) (ho0 : 0 ≤ odd) (ho1 : odd ≤ 1000) (hmK : most ≤ (K : Int)) (hK : K ≤ 9) :
    Calls Try.prog 65 #[.pointer (some ⟨B, 0, none⟩), .int .i64 most, .int .i64 odd] w (DrawnGK n₀ B (N + 300) K w) := by
  go_enter Try.func65, Try.ntmps65
  go_wp2_with fail
  refine (graph_anyS n₀ B N K most odd w hR (by omega) h1 h9 ho0 ho1 hmK).mono ?_
  rintro e w1 ⟨g, c, m, rfl, hm, hS⟩
  have HS0 := Lib.hid hS
  clear hS hR
  go_wp2_with fail
  go_loopw [8] (fun i wr => ∃ k : Nat, k ≤ m ∧ i = .int .i64 k ∧ Hid (SOut n₀ B w wr (.slice (some ⟨g, 0, none⟩) m c) m (N + 200 + k))) (fun i _ => m - (intOf i).toNat)
  case atStart => exact ⟨0, Nat.zero_le _, rfl, HS0⟩
  case round =>
    clear HS0
    obtain ⟨k, hk, rfl, HS⟩ := hrel
    obtain ⟨xss, hxl, hF, hMx⟩ := HS.out.mat (by omega)
    by_cases hlt : k < m
    · have hki : (k : Int) < (m : Int) := by omega
      have HOk := Lib.hid (specOk_any (some ⟨g, 0, none⟩) c xss wr.heap.size wr hMx hF)
      rw [hxl] at HOk
      by_cases hg : gOk xss = true
      · rw [hg] at HOk
        obtain ⟨b3, o3, a3, c3, xs, e3, hb3, hc3, hI3, HX⟩ := hMx.at_ (k := k) (by omega)
        cases e3
        rw [Nat.zero_add] at hc3
        have hxl2 : xs.length = m := by rw [Good.len (good_of hg) HX.out, hxl]
        have hgw : g ≠ B := by
          obtain ⟨vs, ho, _⟩ := HS.out.own
          have := (ho.lt g (by simp [Value.ownBlock])).1
          have := HS.out.lt
          omega
        rw [hxl2] at hc3
        clear hg hF hMx hI3 HX
        go_wp2_with fail
        refine HOk.out.mono ?_
        rintro e wq ⟨rfl, rfl⟩
        go_wp2_with fail
        refine (odd_any n₀ B _ 40 wr HS.out.rd (by omega) (by omega) (by omega)).mono ?_
        rintro e w6 ⟨yes, rfl, hR6, hg6, -⟩
        have HT := Lib.hid (HS.out.pick hR6 hg6)
        have hc6 : w6.cell? ⟨g, k, none⟩ = some (.slice a3 m c3) := (World.cell?_of_block (hg6.block g hb3 (fun e => hgw (by cases e; rfl)))).trans hc3
        clear hR6 hg6 HS hc3 hb3 HOk
        cases yes with
        | true =>
          go_wp2_with fail
          go_roundw
          case rel => exact ⟨k + 1, by omega, by go_num, Lib.hid (HT.out.more (by omega))⟩
          case measure => simp [intOf]; omega
        | false =>
          obtain ⟨b, rfl, ⟨y, hy⟩, hf, hset⟩ := SOut.entry HT.out hlt hc6 hlt
          have HS2 := Lib.hid ((hset 0).more (show N + 200 + k + 1 ≤ N + 200 + (k + 1) by omega))
          clear hset HT
          go_wp2_with fail
          go_roundw
          case rel => exact ⟨k + 1, by omega, by go_num, HS2⟩
          case measure => simp [intOf]; omega
      · have hg' : gOk xss = false := by simpa using hg
        rw [hg'] at HOk
        clear hg hg' hF hMx
        go_wp2_with fail
        refine HOk.out.mono ?_
        rintro e wq ⟨rfl, rfl⟩
        go_wp2_with fail
        go_ret
        exact HS.out.drawn (by omega) (by omega) (by omega)
    · obtain rfl : k = m := by omega
      clear hF hMx
      go_wp2_with fail
      go_ret
      exact HS.out.drawn (by omega) (by omega) (by omega)

end Go.Proofs.Ytpcmenhchabgiaa

namespace Go.Proofs.Ytpcmenhchabgiaa
open Go.RowKit Go.Shelf Go.Deep

/-- A ROW IS DRAWN that can be set. -/
def DrawnLO (n₀ B N : Nat) (w : World) (e : Ending) (w' : World) : Prop :=
  ∃ (a : Option Addr) (c : Nat) (f : List Int), e = .returned (.slice a f.length c) ∧ f.length ≤ 1048576 ∧ w'.ownsRow w.heap.size 3 1 (.slice a f.length c) f.length (f.map (Value.int .i64)) ∧ Rd n₀ B w' N ∧ w.grownBy w' (some B)
theorem zeros_own (w : World) (n : Nat) (hn : n ≤ 1048576) : (w.alloc (.cells (madeCells #[.int .i64 0] n) 3)).ownsRow w.heap.size 3 1 (.slice (some ⟨w.heap.size, 0, none⟩) n n) n ((List.replicate n (0 : Int)).map (Value.int .i64)) := by
  have h : RowI (w.alloc (.cells (madeCells #[.int .i64 0] n) 3)) w.heap.size (List.replicate n 0) := by
    unfold RowI
    rw [List.length_replicate]
    refine (World.rowIs_made w (.int .i64 0) n 3).congr fun j hj => ?_
    simp [hj]
  have h2 := rowI_owns (base := w.heap.size) h (Nat.le_refl _) (by rw [List.length_replicate]; exact hn)
  rwa [List.length_replicate] at h2
theorem OwnMat.keptB {base B : Nat} {W W' : World} {v : Value} {xss : List (List Int)} (h : OwnMat base W v xss) (hg : W.grownBy W' (some B)) (hB : B < base) : OwnMat base W' v xss := by
  obtain ⟨vs, ho, hv⟩ := h
  exact ⟨vs, ho.kept hg (.inr fun e => by have := (ho.lt B e).1; omega), fun i x xs hx hxs => (hv i x xs hx hxs).kept hg (.inr fun e => by have := ((hv i x xs hx hxs).lt B e).1; omega)⟩

set_option maxRecDepth 100000 in
set_option maxHeartbeats 4000000 in
theorem someO_any (n₀ B N : Nat) (a1 : Option Addr) (c1 : Nat) (xss : List (List Int)) (a2 : Option Addr) (c2 : Nat) (yss : List (List Int)) (w1 : World) (hR1 : Rd n₀ B w1 N) (hN : N ≤ 200000) (hX : Mat w1.heap.size w1 a1 xss) (hY : Mat w1.heap.size w1 a2 yss) (hF : Fit xss) (hF' : Fit yss) (hx9 : xss.length ≤ 1000) :
    Calls Try.prog 66 #[.pointer (some ⟨B, 0, none⟩), .slice a1 xss.length c1, .slice a2 yss.length c2] w1 (DrawnLO n₀ B (N + 2) w1) := by
  have hB1 : B < w1.heap.size := hR1.lt
  have HF := Lib.hid hF
  have HF' := Lib.hid hF'
  have hlx := hF.1
  go_enter Try.func66, Try.ntmps66
  go_wp2_with fail
  refine (specMapsOfO _ _ _ _ xss yss _ w1 hX hY (Nat.le_refl _) HF.out HF'.out).mono ?_
  obtain ⟨ls, hls⟩ : ∃ ls, mapsL xss yss = ls := ⟨_, rfl⟩
  have HLF : Hid (Fit ls) := Lib.hid (by rw [← hls]; exact mapsL_fit _ _)
  have hl7 : ls.length ≤ 7000 := by rw [← hls]; exact mapsL_le _ _
  rw [hls]
  clear hls hF hF'
  rintro e w2 ⟨a3, c3, ⟨rfl, hB2⟩, hO⟩
  have hg2 : w1.grownBy w2 none := grown_of_below hB2
  have hg2' : w1.grownBy w2 (some B) := ⟨hB2.os, hB2.tape, hB2.output, hB2.size, fun k hk _ => hB2.block k hk⟩
  have hR2 : Rd n₀ B w2 N := hR1.keep hg2 (fun r e => by cases e)
  have HL2 := Lib.hid hO
  have HG2 := Lib.hid hg2'
  have hs2 := hB2.size
  clear hX hY hO hB2 hg2 hg2' hR1
  have hmk := run_make_row' (P := Try.prog) 33 3 (.int .i64 0) 8 Try.underlying33 infoInt rfl .i64 .i64 xss.length (by omega) (by omega)
  by_cases h0 : ls.length = 0
  · rw [h0]
    clear HL2 HLF hl7
    have HI := Lib.hid (Joins.ownsRow_le (zeros_own w2 xss.length (by omega)) hs2)
    have HR9 := Lib.hid ((hR2.keep (World.grownBy_alloc w2 (.cells (madeCells #[.int .i64 0] xss.length) 3) none) (fun r e => by cases e)).more (show N ≤ N + 2 by omega))
    have HG9 := Lib.hid (grow_B HG2.out (World.grownBy_alloc w2 (.cells (madeCells #[.int .i64 0] xss.length) 3) (some B)) (fun r e => by cases e; exact .inr rfl))
    clear hR2 HG2
    go_wp2_with fail
    go_ret
    exact ⟨_, _, List.replicate xss.length 0, by rw [List.length_replicate]; rfl, by rw [List.length_replicate]; omega, by rw [List.length_replicate]; exact HI.out, HR9.out, HG9.out⟩
  · have hlp : (0 : Int) < (ls.length : Int) := by omega
    have hl0 : ((ls.length : Int) == 0) = false := by simp; intro e; rw [e] at h0; exact h0 rfl
    clear h0
    go_wp2_with fail
    refine (odd_any n₀ B N 20 w2 hR2 (by omega) (by omega) (by omega)).mono ?_
    rintro e w3 ⟨x, rfl, hR3, hg3, -⟩
    have HL3 := Lib.hid (HL2.out.keptB hg3 hB1)
    have HG3 := Lib.hid (grow_B HG2.out hg3 (fun r e => by cases e; exact .inr rfl))
    have hs3 := HG3.out.size
    clear hR2 hg3 HL2 HG2
    cases x with
    | true =>
      have HI := Lib.hid (Joins.ownsRow_le (zeros_own w3 xss.length (by omega)) hs3)
      have HR9 := Lib.hid ((hR3.keep (World.grownBy_alloc w3 (.cells (madeCells #[.int .i64 0] xss.length) 3) none) (fun r e => by cases e)).more (show N + 1 ≤ N + 2 by omega))
      have HG9 := Lib.hid (grow_B HG3.out (World.grownBy_alloc w3 (.cells (madeCells #[.int .i64 0] xss.length) 3) (some B)) (fun r e => by cases e; exact .inr rfl))
      clear hR3 HG3 HL3 HLF
      go_wp2_with fail
      go_ret
      exact ⟨_, _, List.replicate xss.length 0, by rw [List.length_replicate]; rfl, by rw [List.length_replicate]; omega, by rw [List.length_replicate]; exact HI.out, HR9.out, HG9.out⟩
    | false =>
      clear hmk
      go_wp2_with fail
      refine (pick_any n₀ B (N + 1) (ls.length : Int) w3 hR3 (by omega)).mono ?_
      rintro e w5 ⟨y, ⟨rfl, hy0, hy1, _⟩, hR5, hg5, -⟩
      have hy2 := hy1 (by omega)
      obtain ⟨q, rfl⟩ : ∃ q : Nat, y = (q : Int) := ⟨y.toNat, by omega⟩
      have hql : q < ls.length := by omega
      have HG5 := Lib.hid (grow_B HG3.out hg5 (fun r e => by cases e; exact .inr rfl))
      obtain ⟨vs, ho, hv⟩ := HL3.out.keptB hg5 hB1
      have hvl : vs.length = ls.length := by simpa using ho.1
      obtain ⟨fs, hfs⟩ : ∃ fs, ls[q]? = some fs := ⟨_, List.getElem?_eq_getElem hql⟩
      obtain ⟨x, hx⟩ : ∃ x, vs[q]? = some x := ⟨_, List.getElem?_eq_getElem (by omega)⟩
      have hro := hv q x fs hx hfs
      obtain ⟨a5, c5, rfl⟩ := own_form hro
      obtain ⟨g3, c33, e3⟩ := Joins.ownsRow_form ho (by omega)
      cases e3
      have hc6 : w5.cell? ⟨g3, q, none⟩ = some (.slice a5 fs.length c5) := (ho.cellAt q (by omega)).trans hx
      have hfl : fs.length ≤ 1048576 := HLF.out.at_ hfs
      have HI6 := Lib.hid hro
      have HR5 := Lib.hid hR5
      clear hy1 hro hv ho hg5 hR3 HL3 HG3 hR5 hx hfs
      go_wp2_with fail
      go_ret
      exact ⟨a5, c5, fs, rfl, hfl, HI6.out, HR5.out.more (by omega), HG5.out⟩

theorem results_tmp3' {fn : Func} {t u v : Tmp} (h : fn.results = #[.tmp t, .tmp u, .tmp v]) (tmps : Array Value) (P : Program) (w : World) :
    (results fn tmps).run P w = .ok (.tuple #[tmps.getD t undef, tmps.getD u undef, tmps.getD v undef]) w := by
  simp [results, h]
theorem own_ints22 {W : World} {base c n : Nat} {a : Option Addr} {xs : List Int} (hn : xs.length = n) (h : W.ownsRow base 3 1 (.slice a n c) n (xs.map (Value.int .i64))) : Ints W.heap.size W a xs := by
  subst hn
  obtain ⟨a', c', e, hi⟩ := own_ints h
  cases e
  exact hi
theorem Mat.erasedStill {m n₀ B N : Nat} {W W' : World} {a : Option Addr} {xss : List (List Int)} (h : Mat m (W.setRow B #[]) a xss) (hR : Rd n₀ B W N) (hg : W.grownBy W' (some B)) : Mat m (W'.setRow B #[]) a xss := by
  obtain ⟨cs, t, fr, hb⟩ := rd_block hR
  exact h.sub (erased_sub hb fun k hk hne => (setRow_other W' B k _ hne).trans (hg.block k hk (fun e => hne (Option.some.inj e))))
theorem Mat.erasedSet {m n₀ B N r b : Nat} {W : World} {a : Option Addr} {xss : List (List Int)} {v : Value} (h : Mat m (W.setRow B #[]) a xss) (hR : Rd n₀ B W N) (hr : m ≤ r) (hB : r ≠ B) : Mat m ((W.setCell ⟨r, b, none⟩ v).setRow B #[]) a xss := by
  obtain ⟨cs, t, fr, hb⟩ := rd_block hR
  have h0 : ∀ k, k ≠ r → (W.setCell ⟨r, b, none⟩ v).heap[k]? = W.heap[k]? := fun k hk => Below.heap_setCell W ⟨r, b, none⟩ v k (fun e => hk (by simpa using e))
  refine h.keep fun p hp => World.cell?_of_block ?_
  by_cases e : p.block = B
  · have hb' : (W.setCell ⟨r, b, none⟩ v).heap[B]? = some (.cells cs t fr) := by rw [h0 B (Ne.symm hB)]; exact hb
    rw [e, setRow_heap _ B cs #[] t fr hb', setRow_heap W B cs #[] t fr hb]
  · rw [setRow_other _ B p.block _ e, setRow_other W B p.block _ e, h0 p.block (by omega)]

theorem own_ne_B {W : World} {base e n B : Nat} {v : Value} {xs : List Value} (h : W.ownsRow base e 1 v n xs) (hB : B < base) : v.ownBlock = none ∨ v.ownBlock ≠ some B := .inr fun e => by have := (h.lt B e).1; omega

/-- A graph, or what is none, of at most K nodes, and a number. -/
def DrawnKZ (K : Nat) (lo hi : Int) (w : World) (e : Ending) (w' : World) : Prop :=
  ∃ (a : Option Addr) (c : Nat) (xss : List (List Int)) (z : Int), e = .returned (.tuple #[.slice a xss.length c, .int .i64 z]) ∧ (Fit xss ∧ Mat w'.heap.size w' a xss ∧ xss.length ≤ K) ∧ (lo ≤ z ∧ z ≤ hi) ∧ Below w.heap.size w w'
/-- And a row. -/
def DrawnKZL (K : Nat) (lo hi : Int) (w : World) (e : Ending) (w' : World) : Prop :=
  ∃ (a : Option Addr) (c : Nat) (xss : List (List Int)) (z : Int) (a' : Option Addr) (c' : Nat) (f : List Int), e = .returned (.tuple #[.slice a xss.length c, .int .i64 z, .slice a' f.length c']) ∧ (Fit xss ∧ Mat w'.heap.size w' a xss ∧ xss.length ≤ K) ∧ (lo ≤ z ∧ z ≤ hi) ∧ (f.length ≤ 1048576 ∧ Ints w'.heap.size w' a' f) ∧ Below w.heap.size w w'

set_option maxRecDepth 100000 in
set_option maxHeartbeats 2000000 in
theorem drawWholeOf_any (a : Option Addr) (n c : Nat) (w : World) (hn : n ≤ 1048576) (hc : n ≤ c) (hy : Bytes w.heap.size w a n) :
    Calls Try.prog 17 #[.slice a n c] w (DrawnZ 11 w) := by
  go_enter Try.func17, Try.ntmps17
  go_wp2_with fail
  refine (open_any a n c w hn hc hy).mono ?_
  rintro e w1 ⟨rfl, hR1, hB⟩
  have hz1 := hB.size
  obtain ⟨B, hBe⟩ : ∃ B, w.heap.size = B := ⟨_, rfl⟩
  have HB1 := Lib.hid hB
  rw [hBe] at hR1 ⊢
  have HBE := Lib.hid hBe
  clear hB hBe hy
  go_wp2_with fail
  refine (pick_any B B (0) 11 w1 hR1 (by omega)).mono ?_
  rintro e w2 ⟨z, ⟨rfl, z0, z1, _⟩, hR2, hg2, -⟩
  have z2 := z1 (by omega)
  clear z1
  have HB2 := Lib.hid (HB1.out.grown hg2 hz1 (fun k e => by cases e; exact Nat.le_of_eq HBE.out))
  have hz2 := HB2.out.size
  clear hg2 hR1 HB1 hz1
  go_wp2_with fail
  go_ret
  exact ⟨_, rfl, ⟨z0, z2⟩, HB2.out⟩

set_option maxRecDepth 100000 in
set_option maxHeartbeats 2000000 in
theorem drawFewestOf_any (a : Option Addr) (n c : Nat) (w : World) (hn : n ≤ 1048576) (hc : n ≤ c) (hy : Bytes w.heap.size w a n) :
    Calls Try.prog 34 #[.slice a n c] w (DrawnMK 4 w) := by
  go_enter Try.func34, Try.ntmps34
  go_wp2_with fail
  refine (open_any a n c w hn hc hy).mono ?_
  rintro e w1 ⟨rfl, hR1, hB⟩
  have hz1 := hB.size
  obtain ⟨B, hBe⟩ : ∃ B, w.heap.size = B := ⟨_, rfl⟩
  have HB1 := Lib.hid hB
  rw [hBe] at hR1 ⊢
  have HBE := Lib.hid hBe
  clear hB hBe hy
  go_wp2_with fail
  refine (bare_any B B (0) 4 4 9 w1 hR1 (by omega) (by omega) (by omega) (by omega) (by omega) (by omega) (by omega)).mono ?_
  rintro e w2 ⟨aG, cG, G, rfl, hFG, hG2, hR2, hg2, hlG⟩
  have HFG := Lib.hid hFG
  have HG2 := Lib.hid hG2
  clear hFG hG2
  have HB2 := Lib.hid (HB1.out.grown hg2 hz1 (fun k e => by cases e; exact Nat.le_of_eq HBE.out))
  have hz2 := HB2.out.size
  clear hg2 hR1 HB1 hz1
  have LG := Lib.hid (HG2.out.laid hR2)
  go_wp2_with fail
  go_ret
  exact ⟨_, _, _, rfl, ⟨HFG.out, LG.out, hlG⟩, HB2.out⟩

set_option maxRecDepth 100000 in
set_option maxHeartbeats 2000000 in
theorem drawShortestWay_any (a : Option Addr) (n c : Nat) (w : World) (hn : n ≤ 1048576) (hc : n ≤ c) (hy : Bytes w.heap.size w a n) :
    Calls Try.prog 44 #[.slice a n c] w (DrawnMK 4 w) := by
  go_enter Try.func44, Try.ntmps44
  go_wp2_with fail
  refine (open_any a n c w hn hc hy).mono ?_
  rintro e w1 ⟨rfl, hR1, hB⟩
  have hz1 := hB.size
  obtain ⟨B, hBe⟩ : ∃ B, w.heap.size = B := ⟨_, rfl⟩
  have HB1 := Lib.hid hB
  rw [hBe] at hR1 ⊢
  have HBE := Lib.hid hBe
  clear hB hBe hy
  go_wp2_with fail
  refine (bare_any B B (0) 4 4 9 w1 hR1 (by omega) (by omega) (by omega) (by omega) (by omega) (by omega) (by omega)).mono ?_
  rintro e w2 ⟨aG, cG, G, rfl, hFG, hG2, hR2, hg2, hlG⟩
  have HFG := Lib.hid hFG
  have HG2 := Lib.hid hG2
  clear hFG hG2
  have HB2 := Lib.hid (HB1.out.grown hg2 hz1 (fun k e => by cases e; exact Nat.le_of_eq HBE.out))
  have hz2 := HB2.out.size
  clear hg2 hR1 HB1 hz1
  have LG := Lib.hid (HG2.out.laid hR2)
  go_wp2_with fail
  go_ret
  exact ⟨_, _, _, rfl, ⟨HFG.out, LG.out, hlG⟩, HB2.out⟩

set_option maxRecDepth 100000 in
set_option maxHeartbeats 2000000 in
theorem drawBothWays_any (a : Option Addr) (n c : Nat) (w : World) (hn : n ≤ 1048576) (hc : n ≤ c) (hy : Bytes w.heap.size w a n) :
    Calls Try.prog 37 #[.slice a n c] w (DrawnMK 5 w) := by
  go_enter Try.func37, Try.ntmps37
  go_wp2_with fail
  refine (open_any a n c w hn hc hy).mono ?_
  rintro e w1 ⟨rfl, hR1, hB⟩
  have hz1 := hB.size
  obtain ⟨B, hBe⟩ : ∃ B, w.heap.size = B := ⟨_, rfl⟩
  have HB1 := Lib.hid hB
  rw [hBe] at hR1 ⊢
  have HBE := Lib.hid hBe
  clear hB hBe hy
  go_wp2_with fail
  refine (graph_anyK B B (0) 5 5 9 w1 hR1 (by omega) (by omega) (by omega) (by omega) (by omega) (by omega)).mono ?_
  rintro e w2 ⟨aG, cG, G, rfl, hFG, hG2, hR2, hg2, hlG⟩
  have HFG := Lib.hid hFG
  have HG2 := Lib.hid hG2
  clear hFG hG2
  have HB2 := Lib.hid (HB1.out.grown hg2 hz1 (fun k e => by cases e; exact Nat.le_of_eq HBE.out))
  have hz2 := HB2.out.size
  clear hg2 hR1 HB1 hz1
  have LG := Lib.hid (HG2.out.laid hR2)
  go_wp2_with fail
  go_ret
  exact ⟨_, _, _, rfl, ⟨HFG.out, LG.out, hlG⟩, HB2.out⟩

set_option maxRecDepth 100000 in
set_option maxHeartbeats 2000000 in
theorem drawCountColours_any (a : Option Addr) (n c : Nat) (w : World) (hn : n ≤ 1048576) (hc : n ≤ c) (hy : Bytes w.heap.size w a n) :
    Calls Try.prog 31 #[.slice a n c] w (DrawnKZ 5 0 5 w) := by
  go_enter Try.func31, Try.ntmps31
  go_wp2_with fail
  refine (open_any a n c w hn hc hy).mono ?_
  rintro e w1 ⟨rfl, hR1, hB⟩
  have hz1 := hB.size
  obtain ⟨B, hBe⟩ : ∃ B, w.heap.size = B := ⟨_, rfl⟩
  have HB1 := Lib.hid hB
  rw [hBe] at hR1 ⊢
  have HBE := Lib.hid hBe
  clear hB hBe hy
  go_wp2_with fail
  refine (bare_any B B (0) 5 5 12 w1 hR1 (by omega) (by omega) (by omega) (by omega) (by omega) (by omega) (by omega)).mono ?_
  rintro e w2 ⟨aG, cG, G, rfl, hFG, hG2, hR2, hg2, hlG⟩
  have HFG := Lib.hid hFG
  have HG2 := Lib.hid hG2
  clear hFG hG2
  have HB2 := Lib.hid (HB1.out.grown hg2 hz1 (fun k e => by cases e; exact Nat.le_of_eq HBE.out))
  have hz2 := HB2.out.size
  clear hg2 hR1 HB1 hz1
  go_wp2_with fail
  refine (pick_any B B _ 6 w2 hR2 (by omega)).mono ?_
  rintro e w3 ⟨z, ⟨rfl, z0, z1, _⟩, hR3, hg3, -⟩
  have z2 := z1 (by omega)
  clear z1
  have HG3 := Lib.hid (HG2.out.erasedKept hR2 hg3 hg3.size)
  have HB3 := Lib.hid (HB2.out.grown hg3 hz2 (fun k e => by cases e; exact Nat.le_of_eq HBE.out))
  have LG := Lib.hid (HG3.out.laid hR3)
  clear hg3 HB2 hz2 HG2 HG3 hR2
  go_wp2_with fail
  go_ret2
  exact ⟨_, _, _, z, rfl, ⟨HFG.out, LG.out, hlG⟩, ⟨z0, by omega⟩, HB3.out⟩

set_option maxRecDepth 100000 in
set_option maxHeartbeats 2000000 in
theorem drawOneWay_any (a : Option Addr) (n c : Nat) (w : World) (hn : n ≤ 1048576) (hc : n ≤ c) (hy : Bytes w.heap.size w a n) :
    Calls Try.prog 41 #[.slice a n c] w (DrawnKZ 4 0 1063 w) := by
  go_enter Try.func41, Try.ntmps41
  go_wp2_with fail
  refine (open_any a n c w hn hc hy).mono ?_
  rintro e w1 ⟨rfl, hR1, hB⟩
  have hz1 := hB.size
  obtain ⟨B, hBe⟩ : ∃ B, w.heap.size = B := ⟨_, rfl⟩
  have HB1 := Lib.hid hB
  rw [hBe] at hR1 ⊢
  have HBE := Lib.hid hBe
  clear hB hBe hy
  go_wp2_with fail
  refine (bare_any B B (0) 4 4 12 w1 hR1 (by omega) (by omega) (by omega) (by omega) (by omega) (by omega) (by omega)).mono ?_
  rintro e w2 ⟨aG, cG, G, rfl, hFG, hG2, hR2, hg2, hlG⟩
  have HFG := Lib.hid hFG
  have HG2 := Lib.hid hG2
  clear hFG hG2
  have HB2 := Lib.hid (HB1.out.grown hg2 hz1 (fun k e => by cases e; exact Nat.le_of_eq HBE.out))
  have hz2 := HB2.out.size
  clear hg2 hR1 HB1 hz1
  have LG := HG2.out.laid hR2
  have HBW := Lib.hid (specBwO aG cG G w2.heap.size w2 LG (Nat.le_refl _) HFG.out)
  have HBL : Hid ((bwL G).length ≤ 4) := Lib.hid (by
    cases h : gOk G with
    | true => rw [bw_len h]; exact hlG
    | false => rw [bw_no h]; simp)
  have HBF : Hid (Fit (bwL G)) := Lib.hid (by
    cases h : gOk G with
    | true => exact (bw_good h).fit
    | false => rw [bw_no h]; exact ⟨by simp, fun xs hx => by simp at hx⟩)
  have hBlt := hR2.lt
  obtain ⟨P, hP⟩ : ∃ P, bwL G = P := ⟨_, rfl⟩
  rw [hP] at HBW HBL HBF
  clear hP LG HG2
  go_wp2_with fail
  refine HBW.out.mono ?_
  rintro e w3 ⟨a3, c3, ⟨rfl, hB3⟩, hO3⟩
  have hg3 : w2.grownBy w3 none := grown_of_below hB3
  have hR3 := hR2.keep hg3 (fun r e => by cases e)
  have HO3 := Lib.hid hO3
  have HB3 := Lib.hid (HB2.out.trans (hB3.mono hz2))
  have hz3 := HB3.out.size
  clear hO3 hg3 hR2 hB3 HB2 hz2
  go_wp2_with fail
  refine (pick_any B B _ 64 w3 hR3 (by omega)).mono ?_
  rintro e w4 ⟨z, ⟨rfl, z0, z1, _⟩, hR4, hg4, -⟩
  have z2 := z1 (by omega)
  clear z1
  have HO4 := Lib.hid (HO3.out.keptB hg4 hBlt)
  have HB4 := Lib.hid (HB3.out.grown hg4 hz3 (fun k e => by cases e; exact Nat.le_of_eq HBE.out))
  have hz4 := HB4.out.size
  clear hg4 hR3 HO3 HB3 hz3
  go_wp2_with fail
  refine (pick_any B B _ 20 w4 hR4 (by omega)).mono ?_
  rintro e w5 ⟨y, ⟨rfl, y0, y1, _⟩, hR5, hg5, -⟩
  have y2 := y1 (by omega)
  clear y1
  have HO5 := Lib.hid (HO4.out.keptB hg5 hBlt)
  have HB5 := Lib.hid (HB4.out.grown hg5 hz4 (fun k e => by cases e; exact Nat.le_of_eq HBE.out))
  clear hg5 hR4 HO4 HB4 hz4
  obtain ⟨q, hq, hq1⟩ : ∃ q : Int, Int.tdiv y 19 = q ∧ (q = 0 ∨ q = 1) := ⟨_, rfl, by
    obtain ⟨m, rfl⟩ : ∃ m : Nat, y = (m : Int) := ⟨y.toNat, by omega⟩
    have e : Int.tdiv (m : Int) 19 = ((m / 19 : Nat) : Int) := rfl
    rw [e]; omega⟩
  rcases hq1 with rfl | rfl
  · go_wp2_with fail
    go_ret2
    exact ⟨_, _, _, _, rfl, ⟨HBF.out, HO5.out.mat, HBL.out⟩, ⟨by omega, by omega⟩, HB5.out⟩
  · go_wp2_with fail
    go_ret2
    exact ⟨_, _, _, _, rfl, ⟨HBF.out, HO5.out.mat, HBL.out⟩, ⟨by omega, by omega⟩, HB5.out⟩

set_option maxRecDepth 100000 in
set_option maxHeartbeats 2000000 in
theorem drawColoursOk_any (a : Option Addr) (n c : Nat) (w : World) (hn : n ≤ 1048576) (hc : n ≤ c) (hy : Bytes w.heap.size w a n) :
    Calls Try.prog 26 #[.slice a n c] w (DrawnKZL 4 (-4) 4 w) := by
  go_enter Try.func26, Try.ntmps26
  go_wp2_with fail
  refine (open_any a n c w hn hc hy).mono ?_
  rintro e w1 ⟨rfl, hR1, hB⟩
  have hz1 := hB.size
  obtain ⟨B, hBe⟩ : ∃ B, w.heap.size = B := ⟨_, rfl⟩
  have HB1 := Lib.hid hB
  rw [hBe] at hR1 ⊢
  have HBE := Lib.hid hBe
  clear hB hBe hy
  go_wp2_with fail
  refine (bare_any B B (0) 4 4 12 w1 hR1 (by omega) (by omega) (by omega) (by omega) (by omega) (by omega) (by omega)).mono ?_
  rintro e w2 ⟨aG, cG, G, rfl, hFG, hG2, hR2, hg2, hlG⟩
  have HFG := Lib.hid hFG
  have HG2 := Lib.hid hG2
  clear hFG hG2
  have HB2 := Lib.hid (HB1.out.grown hg2 hz1 (fun k e => by cases e; exact Nat.le_of_eq HBE.out))
  have hz2 := HB2.out.size
  clear hg2 hR1 HB1 hz1
  go_wp2_with fail
  refine (pick_any B B _ 4 w2 hR2 (by omega)).mono ?_
  rintro e w3 ⟨z, ⟨rfl, z0, z1, _⟩, hR3, hg3, -⟩
  have z2 := z1 (by omega)
  clear z1
  have HG3 := Lib.hid (HG2.out.erasedKept hR2 hg3 hg3.size)
  have HB3 := Lib.hid (HB2.out.grown hg3 hz2 (fun k e => by cases e; exact Nat.le_of_eq HBE.out))
  have hz3 := HB3.out.size
  clear hg3 HB2 hz2 HG2 hR2
  have HW := Lib.hid (specWhoO (1 + z) w3)
  have HWF := Lib.hid (show Fit (whoI (1 + z)) by
    obtain ⟨m, hm⟩ : ∃ m : Nat, 1 + z = (m : Int) := ⟨(1 + z).toNat, by omega⟩
    rw [hm, whoI_yes (by omega) (by omega)]
    exact (who_good (by omega) (by omega)).fit)
  obtain ⟨P, hP⟩ : ∃ P, whoI (1 + z) = P := ⟨_, rfl⟩
  rw [hP] at HW HWF
  clear hP
  go_wp2_with fail
  refine HW.out.mono ?_
  rintro e w4 ⟨a4, c4, ⟨rfl, hB4⟩, hO4⟩
  have hg4 : w3.grownBy w4 none := grown_of_below hB4
  have hR4 := hR3.keep hg4 (fun r e => by cases e)
  have HM4 := Lib.hid hO4.mat
  have hg4' : w3.grownBy w4 (some B) := ⟨hB4.os, hB4.tape, hB4.output, hB4.size, fun k hk _ => hB4.block k hk⟩
  have HE4 := Lib.hid (HG3.out.erasedKept hR3 hg4' hB4.size)
  have HG4 := Lib.hid (HE4.out.laid hR4)
  have HB4 := Lib.hid (HB3.out.trans (hB4.mono hz3))
  have hz4 := HB4.out.size
  have hBlt := hR4.lt
  clear hO4 hg4 hg4' hR3 hB4 HB3 hz3 HG3
  go_wp2_with fail
  refine (someO_any B B _ aG cG G a4 c4 P w4 hR4 (by omega) HG4.out HM4.out HFG.out HWF.out (by omega)).mono ?_
  rintro e w5 ⟨a5, c5, f, rfl, hfl, hO5, hR5, hg5⟩
  have HG5 := Lib.hid (HE4.out.erasedStill hR4 hg5)
  have HB5 := Lib.hid (HB4.out.grown hg5 hz4 (fun k e => by cases e; exact Nat.le_of_eq HBE.out))
  have hzm5 : w4.heap.size ≤ w5.heap.size := hg5.size
  obtain ⟨m, hm⟩ : ∃ m, w4.heap.size = m := ⟨_, rfl⟩
  rw [hm] at hO5 HG5 hzm5 hBlt hz4
  have hzm : w.heap.size ≤ m := hz4
  have HBm : B < m := hBlt
  clear hg5 hR4 HB4 HG4 HE4 HM4 hm
  by_cases hf0 : f.length = 0
  · obtain rfl : f = [] := List.length_eq_zero_iff.1 hf0
    have HO5 := Lib.hid hO5
    clear hO5 hf0
    go_wp2_with fail
    refine (pick_any B B _ 20 w5 hR5 (by omega)).mono ?_
    rintro e w9 ⟨y, ⟨rfl, y0, y1, _⟩, hR9, hg9, -⟩
    have y2 := y1 (by omega)
    clear y1
    have hOf := HO5.out.kept hg9 (own_ne_B HO5.out HBm)
    have HI9 := Lib.hid (own_ints22 rfl hOf)
    have HG9 := Lib.hid (((HG5.out.erasedStill hR5 hg9).laid hR9).more (Nat.le_trans hzm5 hg9.size))
    have HB9 := Lib.hid (HB5.out.grown hg9 (Nat.le_trans hzm hzm5) (fun k e => by cases e; exact Nat.le_of_eq HBE.out))
    clear hg9 hOf hR9
    obtain ⟨q, hq, hq1⟩ : ∃ q : Int, Int.tdiv y 19 = q ∧ (q = 0 ∨ q = 1) := ⟨_, rfl, by
      obtain ⟨j, rfl⟩ : ∃ j : Nat, y = (j : Int) := ⟨y.toNat, by omega⟩
      have e : Int.tdiv (j : Int) 19 = ((j / 19 : Nat) : Int) := rfl
      rw [e]; omega⟩
    rcases hq1 with rfl | rfl
    · go_wp2_with fail
      (try simp only [Exit.inBlock, Exit.then])
      refine bodyPost_ret (results_tmp3' rfl _ _ _) rfl ?_
      exact ⟨_, _, _, _, _, _, [], by first | rfl | simp, ⟨HFG.out, HG9.out, hlG⟩, ⟨by omega, by omega⟩, ⟨by simp, HI9.out⟩, HB9.out⟩
    · go_wp2_with fail
      (try simp only [Exit.inBlock, Exit.then])
      refine bodyPost_ret (results_tmp3' rfl _ _ _) rfl ?_
      exact ⟨_, _, _, _, _, _, [], by first | rfl | simp, ⟨HFG.out, HG9.out, hlG⟩, ⟨by omega, by omega⟩, ⟨by simp, HI9.out⟩, HB9.out⟩
  · have hfp : (0 : Int) < (f.length : Int) := by omega
    have HO5 := Lib.hid hO5
    clear hO5
    go_wp2_with fail
    refine (pick_any B B _ 4 w5 hR5 (by omega)).mono ?_
    rintro e w6 ⟨y, ⟨rfl, y0, y1, _⟩, hR6, hg6, -⟩
    clear y1
    have HO6 := Lib.hid (HO5.out.kept hg6 (own_ne_B HO5.out HBm))
    have HG6 := Lib.hid (HG5.out.erasedStill hR5 hg6)
    have HB6 := Lib.hid (HB5.out.grown hg6 (Nat.le_trans hzm hzm5) (fun k e => by cases e; exact Nat.le_of_eq HBE.out))
    have hzm6 : m ≤ w6.heap.size := Nat.le_trans hzm5 hg6.size
    clear hg6 hR5 HO5 HG5 HB5 hzm5
    by_cases hy : y = 0
    · subst hy
      go_wp2_with fail
      refine (pick_any B B _ (1 + z + 1) w6 hR6 (by omega)).mono ?_
      rintro e w7 ⟨x, ⟨rfl, x0, x1, _⟩, hR7, hg7, -⟩
      clear x1
      have HO7 := Lib.hid (HO6.out.kept hg7 (own_ne_B HO6.out HBm))
      have HG7 := Lib.hid (HG6.out.erasedStill hR6 hg7)
      have HB7 := Lib.hid (HB6.out.grown hg7 (Nat.le_trans hzm hzm6) (fun k e => by cases e; exact Nat.le_of_eq HBE.out))
      have hzm7 : m ≤ w7.heap.size := Nat.le_trans hzm6 hg7.size
      clear hg7 hR6 HO6 HG6 HB6 hzm6
      have hO7 := HO7.out
      obtain ⟨r, c7, e7⟩ := Joins.ownsRow_form hO7 (by omega)
      cases e7
      have hrl := hO7.lt r (by simp [Value.ownBlock])
      have hc7 := hO7.cellAt 0 (by omega)
      rw [List.getElem?_map, List.getElem?_eq_getElem (by omega)] at hc7
      have hfz := hO7.frozenAt 0
      obtain ⟨v7, hv7⟩ : ∃ v, w7.cell? ⟨r, 0, none⟩ = some v := ⟨_, hc7⟩
      have hO8 := (hO7.stored 0 (.int .i64 x)).1
      have hg8 := grownBy_setX w7 r 0 (.int .i64 x)
      have HO8 := Lib.hid (show (w7.setCell ⟨r, 0, none⟩ (.int .i64 x)).ownsRow m 3 1 (.slice (some ⟨r, 0, none⟩) (f.set 0 x).length c5) (f.set 0 x).length ((f.set 0 x).map (Value.int .i64)) by
        rw [List.length_set, List.map_set]; exact hO8)
      have HG8 := Lib.hid (HG7.out.erasedSet (b := 0) (v := .int .i64 x) hR7 hrl.1 (by omega))
      have HR8 := Lib.hid (hR7.keep hg8 (fun k e => by cases e; omega))
      have HB8 := Lib.hid (HB7.out.grown hg8 (Nat.le_trans hzm hzm7) (fun k e => by cases e; omega))
      have hz8 := hg8.size
      have hzm8 : m ≤ (w7.setCell ⟨r, 0, none⟩ (.int .i64 x)).heap.size := Nat.le_trans hzm7 hz8
      have HL8 : Hid ((f.set 0 x).length = f.length) := Lib.hid (by rw [List.length_set])
      obtain ⟨f8, hf8⟩ : ∃ f8, f.set 0 x = f8 := ⟨_, rfl⟩
      rw [hf8] at HO8 HL8
      clear hO7 hO8 hc7 hg8 hR7 HO7 HG7 HB7 hzm7 hz8 hf8
      rw [HL8.out] at HO8
      go_wp2_with fail
      refine (pick_any B B _ 20 _ HR8.out (by omega)).mono ?_
      rintro e w9 ⟨y9, ⟨rfl, y0, y1, _⟩, hR9, hg9, -⟩
      have y2 := y1 (by omega)
      clear y1
      have hOf := HO8.out.kept hg9 (own_ne_B HO8.out HBm)
      have HI9 := Lib.hid (own_ints22 HL8.out hOf)
      have HG9 := Lib.hid (((HG8.out.erasedStill HR8.out hg9).laid hR9).more (Nat.le_trans hzm8 hg9.size))
      have HB9 := Lib.hid (HB8.out.grown hg9 (Nat.le_trans hzm hzm8) (fun k e => by cases e; exact Nat.le_of_eq HBE.out))
      clear hg9 hOf hR9
      obtain ⟨q, hq, hq1⟩ : ∃ q : Int, Int.tdiv y9 19 = q ∧ (q = 0 ∨ q = 1) := ⟨_, rfl, by
        obtain ⟨j, rfl⟩ : ∃ j : Nat, y9 = (j : Int) := ⟨y9.toNat, by omega⟩
        have e : Int.tdiv (j : Int) 19 = ((j / 19 : Nat) : Int) := rfl
        rw [e]; omega⟩
      rcases hq1 with rfl | rfl
      · go_wp2_with fail
        (try simp only [Exit.inBlock, Exit.then])
        refine bodyPost_ret (results_tmp3' rfl _ _ _) rfl ?_
        exact ⟨_, _, _, _, _, _, f8, by rw [HL8.out]; first | rfl | simp, ⟨HFG.out, HG9.out, hlG⟩, ⟨by omega, by omega⟩, ⟨by rw [HL8.out]; exact hfl, HI9.out⟩, HB9.out⟩
      · go_wp2_with fail
        (try simp only [Exit.inBlock, Exit.then])
        refine bodyPost_ret (results_tmp3' rfl _ _ _) rfl ?_
        exact ⟨_, _, _, _, _, _, f8, by rw [HL8.out]; first | rfl | simp, ⟨HFG.out, HG9.out, hlG⟩, ⟨by omega, by omega⟩, ⟨by rw [HL8.out]; exact hfl, HI9.out⟩, HB9.out⟩

    · go_wp2_with fail
      refine (pick_any B B _ 20 w6 hR6 (by omega)).mono ?_
      rintro e w9 ⟨y9, ⟨rfl, y0, y1, _⟩, hR9, hg9, -⟩
      have y2 := y1 (by omega)
      clear y1
      have hOf := HO6.out.kept hg9 (own_ne_B HO6.out HBm)
      have HI9 := Lib.hid (own_ints22 rfl hOf)
      have HG9 := Lib.hid (((HG6.out.erasedStill hR6 hg9).laid hR9).more (Nat.le_trans hzm6 hg9.size))
      have HB9 := Lib.hid (HB6.out.grown hg9 (Nat.le_trans hzm hzm6) (fun k e => by cases e; exact Nat.le_of_eq HBE.out))
      clear hg9 hOf hR9
      obtain ⟨q, hq, hq1⟩ : ∃ q : Int, Int.tdiv y9 19 = q ∧ (q = 0 ∨ q = 1) := ⟨_, rfl, by
        obtain ⟨j, rfl⟩ : ∃ j : Nat, y9 = (j : Int) := ⟨y9.toNat, by omega⟩
        have e : Int.tdiv (j : Int) 19 = ((j / 19 : Nat) : Int) := rfl
        rw [e]; omega⟩
      rcases hq1 with rfl | rfl
      · go_wp2_with fail
        (try simp only [Exit.inBlock, Exit.then])
        refine bodyPost_ret (results_tmp3' rfl _ _ _) rfl ?_
        exact ⟨_, _, _, _, _, _, f, by first | rfl | simp, ⟨HFG.out, HG9.out, hlG⟩, ⟨by omega, by omega⟩, ⟨hfl, HI9.out⟩, HB9.out⟩
      · go_wp2_with fail
        (try simp only [Exit.inBlock, Exit.then])
        refine bodyPost_ret (results_tmp3' rfl _ _ _) rfl ?_
        exact ⟨_, _, _, _, _, _, f, by first | rfl | simp, ⟨HFG.out, HG9.out, hlG⟩, ⟨by omega, by omega⟩, ⟨hfl, HI9.out⟩, HB9.out⟩

end Go.Proofs.Ytpcmenhchabgiaa
