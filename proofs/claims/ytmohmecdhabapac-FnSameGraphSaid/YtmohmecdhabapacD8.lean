/-
  A graph and nodes of it drawn: DrawPartOf.
-/
import Derived.Test.YtmohmecdhabapacC2
import Derived.Test.YtmohmecdhabapacD4
namespace Go.Proofs.Ytmohmecdhabapac
open Go.RowKit Go.Shelf

theorem IOut.alloc {n₀ B k N : Nat} {w W : World} {v : Value} (h : IOut n₀ B w W v k N) (o : Obj) : IOut n₀ B w (W.alloc o) v k N := by
  obtain ⟨h1, h2, h3, ys, hl, ho⟩ := h
  exact ⟨h1.keep (World.grownBy_alloc W o none) (fun r e => by cases e), grow_B h2 (World.grownBy_alloc W o none) (fun r e => by cases e), h3, ys, hl, ho.alloc o⟩
theorem IOut.cell {n₀ B k N g c : Nat} {w W : World} (h : IOut n₀ B w W (.slice (some ⟨g, 0, none⟩) k c) k N) {i : Nat} (hi : i < k) : ∃ y : Int, W.cell? ⟨g, i, none⟩ = some (.int .i64 y) := by
  obtain ⟨_, _, _, ys, hl, ho⟩ := h
  refine ⟨ys[i]'(by omega), ?_⟩
  rw [ho.cellAt i (by omega), List.getElem?_map, List.getElem?_eq_getElem (by omega)]; rfl
theorem IOut.frozen {n₀ B k N g c : Nat} {w W : World} (h : IOut n₀ B w W (.slice (some ⟨g, 0, none⟩) k c) k N) (i : Nat) : W.frozen? ⟨g, i, none⟩ = false := by
  obtain ⟨_, _, _, ys, _, ho⟩ := h
  exact ho.frozenAt i
theorem IOut.store {n₀ B k N g c : Nat} {w W : World} (h : IOut n₀ B w W (.slice (some ⟨g, 0, none⟩) k c) k N) (j : Nat) (y : Int) : IOut n₀ B w (W.setCell ⟨g, j, none⟩ (.int .i64 y)) (.slice (some ⟨g, 0, none⟩) k c) k N := by
  obtain ⟨h1, h2, h3, ys, hl, ho⟩ := h
  have hg := grownBy_set W g j (.int .i64 y)
  have hb := (ho.lt g (by simp [Value.ownBlock])).1
  refine ⟨h1.keep hg (fun r e => by cases e; omega), grow_B h2 hg (fun r e => by cases e; exact .inl hb), h3, ys.set j y, by simp [hl], ?_⟩
  have := (ho.stored j (.int .i64 y)).1
  rwa [List.map_set]
theorem IOut.cap {n₀ B k N c : Nat} {w W : World} {a : Option Addr} (h : IOut n₀ B w W (.slice a k c) k N) : k ≤ c := by
  obtain ⟨_, _, _, ys, _, ho⟩ := h
  rcases ho.2 with ⟨e, h0⟩ | ⟨g, cap, cur, e, _, _, hn, _⟩
  · omega
  · simp only [Value.slice.injEq] at e
    omega

theorem lit_cell (w : World) (cs : Array Value) (t : TypeId) (i : Nat) (v : Value) (h : cs[i]? = some v) : (w.alloc (.cells cs t)).cell? ⟨w.heap.size, i, none⟩ = some v := by
  have h1 := World.alloc_heap_new w (.cells cs t)
  unfold World.cell?
  simp only [h1]
  exact h

/-- A GRAPH, or what is none, AND A LIST ARE DRAWN. -/
def DrawnMI (w : World) (e : Ending) (w' : World) : Prop :=
  ∃ (a : Option Addr) (c : Nat) (xss : List (List Int)) (a' : Option Addr) (c' : Nat) (ys : List Int), e = .returned (.tuple #[.slice a xss.length c, .slice a' ys.length c']) ∧ (Fit xss ∧ Mat w'.heap.size w' a xss) ∧ (ys.length ≤ 10 ∧ ys.length ≤ c' ∧ Ints w'.heap.size w' a' ys) ∧ Below w.heap.size w w'

set_option maxRecDepth 100000 in
set_option maxHeartbeats 4000000 in
theorem drawPartOf_any (a : Option Addr) (n c : Nat) (w : World) (hn : n ≤ 1048576) (hc : n ≤ c) (hy : Bytes w.heap.size w a n) :
    Calls Try.prog 7 #[.slice a n c] w (DrawnMI w) := by
  obtain ⟨i1, hj, hy0, hy1, hy2⟩ := info_parts infoInt
  go_enter Try.func7, Try.ntmps7
  go_wp2_with fail
  refine (open_any a n c w hn hc hy).mono ?_
  rintro e w1 ⟨rfl, hR1, hB⟩
  have hz1 := hB.size
  have HB1 := Lib.hid hB
  obtain ⟨B, hBe⟩ : ∃ B, w.heap.size = B := ⟨_, rfl⟩
  rw [hBe] at hR1 ⊢
  go_wp2_with fail
  refine (graph_anyK B B 0 5 5 12 w1 hR1 (by omega) (by omega) (by omega) (by omega) (by omega) (by omega)).mono ?_
  rintro e w2 ⟨a2, c2, xss, rfl, hF, x2, hR2, hg2, hx5⟩
  have HG2 := Lib.hid hg2
  have HF := Lib.hid hF
  have HX2 := Lib.hid x2
  have HR2 := Lib.hid hR2
  have hB2' : B < w2.heap.size := hR2.lt
  have hlx := hF.1
  clear hF hR1 hg2 hB hy x2
  go_wp2_with fail
  have HI0 := Lib.hid (IOut.start hR2 hB2')
  clear hR2
  go_loopw [6, 7] (fun v i wr => ∃ (k m g cap : Nat), k ≤ xss.length ∧ m ≤ k ∧ i = .int .i64 k ∧ v = .slice (some ⟨g, 0, none⟩) m cap ∧ Hid (IOut B B w2 wr (.slice (some ⟨g, 0, none⟩) m cap) m (0 + 200 + k)))
    (fun _ i _ => xss.length - (intOf i).toNat)
  case atStart => exact ⟨0, 0, _, _, Nat.zero_le _, Nat.le_refl _, rfl, rfl, HI0⟩
  case round =>
    obtain ⟨k, m, g, cap, hk, hmk, rfl, rfl, HO⟩ := hrel
    clear HI0
    by_cases hlt : k < xss.length
    · go_wp2_with fail
      refine (pick_any B B (0 + 200 + k) _ _ HO.out.1 (by omega)).mono ?_
      rintro e w4 ⟨x4, ⟨rfl, hp0, hp1, _⟩, hR4, hg4, -⟩
      have HO4 := Lib.hid (HO.out.pick hR4 hg4)
      clear hp1 hR4 hg4 HO
      by_cases hx0 : x4 = 0
      · have hxb : (x4 == 0) = true := by simp [hx0]
        clear hx0
        obtain ⟨ys, hyl, hown⟩ := HO4.out.2.2.2
        have hsz6 := HO4.out.2.1.size
        go_wp2_with (at_builtin; refine wpList_append_own _ rfl _ _ 24 rfl w2.heap.size 3 i1 (.int .i64 0) 1 8 Try.underlying24 hj hy0 hy1 hy2 rfl (by decide) _ _ _ rfl (hown.alloc _) ⟨w4.heap.size, 0, none⟩ 1 1 [.int .i64 k] rfl rfl (cell_one_new _ _ _) (by simp [Value.oneCell']) (by unfold maxLen; omega) (by omega) (by simp; omega) ?_; intro v' w7 hown' hgrow _; obtain ⟨g', cap', rfl⟩ := ownsRow_succ hown'; have HO7 := Lib.hid (HO4.out.appended hyl hown hown' hgrow); clear hown' hgrow hown)
        go_roundw
        case rel => exact ⟨k + 1, m + 1, g', cap', by omega, by omega, by go_num, rfl, Lib.hid (HO7.out.more (by omega))⟩
        case measure => simp [intOf]; omega
      · have hxb : (x4 == 0) = false := by simp [hx0]
        clear hx0
        go_wp2_with fail
        go_roundw
        case rel => exact ⟨k + 1, m, g, cap, by omega, by omega, by go_num, rfl, Lib.hid (HO4.out.more (by omega))⟩
        case measure => simp [intOf]; omega
    · obtain rfl : k = xss.length := by omega
      go_wp2_with fail
      have HS0 := Lib.hid (HO.out.more (show 0 + 200 + xss.length ≤ 300 - m by omega))
      clear HO
      go_loopw [8, 9] (fun i _ wr => ∃ (q : Nat), q ≤ m ∧ i = .int .i64 ((q : Int) - 1) ∧ Hid (IOut B B w2 wr (.slice (some ⟨g, 0, none⟩) m cap) m (300 - q)))
        (fun i _ _ => (intOf i + 1).toNat)
      case atStart => exact ⟨m, Nat.le_refl _, rfl, HS0⟩
      case round =>
        obtain ⟨q, hq, rfl, HO⟩ := hrel
        clear HS0
        by_cases hq1 : 1 < q
        · obtain ⟨p, rfl⟩ : ∃ p, q = p + 1 := ⟨q - 1, by omega⟩
          have epp : ((p + 1 : Nat) : Int) - 1 = (p : Int) := by omega
          rw [epp]
          go_wp2_with fail
          refine (pick_any B B (300 - (p + 1)) _ _ HO.out.1 (by omega)).mono ?_
          rintro e w4 ⟨x4, ⟨rfl, hp0, hp1, _⟩, hR4, hg4, -⟩
          have HO4 := Lib.hid (HO.out.pick hR4 hg4)
          clear hp1 hR4 hg4 HO
          by_cases hx0 : x4 = 0
          · have hxb : (x4 == 0) = true := by simp [hx0]
            clear hx0
            obtain ⟨y, hcy⟩ := HO4.out.cell (i := p) (by omega)
            obtain ⟨z, hcz⟩ := HO4.out.cell (i := p - 1) (by omega)
            have hf1 := HO4.out.frozen p
            have hep1 : (p : Int) - 1 = ((p - 1 : Nat) : Int) := by omega
            have hpm : p < m := by omega
            have HO5 := Lib.hid (HO4.out.store p z)
            have hf2 := HO5.out.frozen (p - 1)
            have HO6 := Lib.hid (HO5.out.store (p - 1) y)
            go_wp2_with fail
            go_roundw
            case rel => exact ⟨p, by omega, by go_num, Lib.hid (HO6.out.more (by omega))⟩
            case measure => simp [intOf]; omega
          · have hxb : (x4 == 0) = false := by simp [hx0]
            clear hx0
            go_wp2_with fail
            refine (odd_any B B _ 12 _ HO4.out.1 (by omega) (by omega) (by omega)).mono ?_
            rintro e w6 ⟨yes, rfl, hR6, hg6, -⟩
            have HT := Lib.hid (HO4.out.pick hR6 hg6)
            clear hR6 hg6 HO4
            cases yes with
            | false =>
              have hcp := HT.out.cap
              obtain ⟨ys, hyl, HI⟩ := HT.out.ints
              have HR9 := HT.out.1
              have HG9 := HT.out.2.1
              have HX9 := Lib.hid ((HX2.out.erasedKept HR2.out HG9 HG9.size).laid HR9)
              have HI9 := Lib.hid (HI.laid HR9)
              have HBB := Lib.hid (HB1.out.grown (grow_B HG2.out HG9 (fun r e => by cases e; exact .inr rfl)) hz1 (fun k e => by cases e; exact Nat.le_of_eq hBe))
              clear HI HR9 HG9
              go_wp2_with fail
              go_ret2
              exact ⟨a2, c2, xss, some ⟨g, 0, none⟩, cap, ys, by rw [hyl]; rfl, ⟨HF.out, HX9.out⟩, ⟨by omega, by omega, HI9.out⟩, HBB.out⟩
            | true =>
              have HTa := Lib.hid (HT.out.alloc (.cells #[.int .i64 0, .int .i64 xss.length, .int .i64 (-1)] 3))
              have hB6 : B < w6.heap.size := HT.out.1.lt
              have hc0 : (w6.alloc (.cells #[.int .i64 0, .int .i64 xss.length, .int .i64 (-1)] 3)).cell? ⟨w6.heap.size, 0, none⟩ = some (.int .i64 0) := lit_cell _ _ _ _ _ rfl
              have hc1 : (w6.alloc (.cells #[.int .i64 0, .int .i64 xss.length, .int .i64 (-1)] 3)).cell? ⟨w6.heap.size, 1, none⟩ = some (.int .i64 xss.length) := lit_cell _ _ _ _ _ rfl
              have hc2 : (w6.alloc (.cells #[.int .i64 0, .int .i64 xss.length, .int .i64 (-1)] 3)).cell? ⟨w6.heap.size, 2, none⟩ = some (.int .i64 (-1)) := lit_cell _ _ _ _ _ rfl
              go_wp2_with fail
              refine (pick_any B B _ 3 _ HTa.out.1 (by omega)).mono ?_
              rintro e w7 ⟨x, ⟨rfl, hx0, hx1, _⟩, hR7, hg7, -⟩
              have hx2 := hx1 (by omega)
              have HU := Lib.hid (HTa.out.pick hR7 hg7)
              have hd : ∀ i v, (w6.alloc (.cells #[.int .i64 0, .int .i64 xss.length, .int .i64 (-1)] 3)).cell? ⟨w6.heap.size, i, none⟩ = some v → w7.cell? ⟨w6.heap.size, i, none⟩ = some v := fun i v h => (World.cell?_of_block (a := ⟨w6.heap.size, i, none⟩) (hg7.block w6.heap.size (by simp) (fun e => by have := Option.some.inj e; omega))).trans h
              have hd0 := hd 0 _ hc0
              have hd1 := hd 1 _ hc1
              have hd2 := hd 2 _ hc2
              clear hx1 hR7 hg7 HT HTa hc0 hc1 hc2 hd hB6
              obtain ⟨ys, hyl, hown⟩ := HU.out.2.2.2
              have hsz6 := HU.out.2.1.size
              rcases (by omega : x = 0 ∨ x = 1 ∨ x = 2) with rfl | rfl | rfl
              all_goals
                go_wp2_with (at_builtin; refine wpList_append_own _ rfl _ _ 24 rfl w2.heap.size 3 i1 (.int .i64 0) 1 8 Try.underlying24 hj hy0 hy1 hy2 rfl (by decide) _ _ _ rfl (hown.alloc _) ⟨w7.heap.size, 0, none⟩ 1 1 _ rfl rfl (cell_one_new _ _ _) (by simp [Value.oneCell']) (by unfold maxLen; omega) (by omega) (by simp; omega) ?_; intro v' w8 hown' hgrow _; obtain ⟨g', cap', rfl⟩ := ownsRow_succ hown'; have HO8 := Lib.hid (HU.out.appended hyl hown hown' hgrow); clear hown' hgrow hown)
                clear HU hyl
                have hcp := HO8.out.cap
                obtain ⟨ys, hyl, HI⟩ := HO8.out.ints
                have HR9 := HO8.out.1
                have HG9 := HO8.out.2.1
                have HX9 := Lib.hid ((HX2.out.erasedKept HR2.out HG9 HG9.size).laid HR9)
                have HI9 := Lib.hid (HI.laid HR9)
                have HBB := Lib.hid (HB1.out.grown (grow_B HG2.out HG9 (fun r e => by cases e; exact .inr rfl)) hz1 (fun k e => by cases e; exact Nat.le_of_eq hBe))
                clear HI HR9 HG9
                go_wp2_with fail
                go_ret2
                exact ⟨a2, c2, xss, some ⟨g', 0, none⟩, cap', ys, by rw [hyl]; rfl, ⟨HF.out, HX9.out⟩, ⟨by omega, by omega, HI9.out⟩, HBB.out⟩
        · have hqn : ¬ (0 < (q : Int) - 1) := by omega
          go_wp2_with fail
          refine (odd_any B B _ 12 _ HO.out.1 (by omega) (by omega) (by omega)).mono ?_
          rintro e w6 ⟨yes, rfl, hR6, hg6, -⟩
          have HT := Lib.hid (HO.out.pick hR6 hg6)
          clear hR6 hg6 HO
          cases yes with
          | false =>
            have hcp := HT.out.cap
            obtain ⟨ys, hyl, HI⟩ := HT.out.ints
            have HR9 := HT.out.1
            have HG9 := HT.out.2.1
            have HX9 := Lib.hid ((HX2.out.erasedKept HR2.out HG9 HG9.size).laid HR9)
            have HI9 := Lib.hid (HI.laid HR9)
            have HBB := Lib.hid (HB1.out.grown (grow_B HG2.out HG9 (fun r e => by cases e; exact .inr rfl)) hz1 (fun k e => by cases e; exact Nat.le_of_eq hBe))
            clear HI HR9 HG9
            go_wp2_with fail
            go_ret2
            exact ⟨a2, c2, xss, some ⟨g, 0, none⟩, cap, ys, by rw [hyl]; rfl, ⟨HF.out, HX9.out⟩, ⟨by omega, by omega, HI9.out⟩, HBB.out⟩
          | true =>
            have HTa := Lib.hid (HT.out.alloc (.cells #[.int .i64 0, .int .i64 xss.length, .int .i64 (-1)] 3))
            have hB6 : B < w6.heap.size := HT.out.1.lt
            have hc0 : (w6.alloc (.cells #[.int .i64 0, .int .i64 xss.length, .int .i64 (-1)] 3)).cell? ⟨w6.heap.size, 0, none⟩ = some (.int .i64 0) := lit_cell _ _ _ _ _ rfl
            have hc1 : (w6.alloc (.cells #[.int .i64 0, .int .i64 xss.length, .int .i64 (-1)] 3)).cell? ⟨w6.heap.size, 1, none⟩ = some (.int .i64 xss.length) := lit_cell _ _ _ _ _ rfl
            have hc2 : (w6.alloc (.cells #[.int .i64 0, .int .i64 xss.length, .int .i64 (-1)] 3)).cell? ⟨w6.heap.size, 2, none⟩ = some (.int .i64 (-1)) := lit_cell _ _ _ _ _ rfl
            go_wp2_with fail
            refine (pick_any B B _ 3 _ HTa.out.1 (by omega)).mono ?_
            rintro e w7 ⟨x, ⟨rfl, hx0, hx1, _⟩, hR7, hg7, -⟩
            have hx2 := hx1 (by omega)
            have HU := Lib.hid (HTa.out.pick hR7 hg7)
            have hd : ∀ i v, (w6.alloc (.cells #[.int .i64 0, .int .i64 xss.length, .int .i64 (-1)] 3)).cell? ⟨w6.heap.size, i, none⟩ = some v → w7.cell? ⟨w6.heap.size, i, none⟩ = some v := fun i v h => (World.cell?_of_block (a := ⟨w6.heap.size, i, none⟩) (hg7.block w6.heap.size (by simp) (fun e => by have := Option.some.inj e; omega))).trans h
            have hd0 := hd 0 _ hc0
            have hd1 := hd 1 _ hc1
            have hd2 := hd 2 _ hc2
            clear hx1 hR7 hg7 HT HTa hc0 hc1 hc2 hd hB6
            obtain ⟨ys, hyl, hown⟩ := HU.out.2.2.2
            have hsz6 := HU.out.2.1.size
            rcases (by omega : x = 0 ∨ x = 1 ∨ x = 2) with rfl | rfl | rfl
            all_goals
              go_wp2_with (at_builtin; refine wpList_append_own _ rfl _ _ 24 rfl w2.heap.size 3 i1 (.int .i64 0) 1 8 Try.underlying24 hj hy0 hy1 hy2 rfl (by decide) _ _ _ rfl (hown.alloc _) ⟨w7.heap.size, 0, none⟩ 1 1 _ rfl rfl (cell_one_new _ _ _) (by simp [Value.oneCell']) (by unfold maxLen; omega) (by omega) (by simp; omega) ?_; intro v' w8 hown' hgrow _; obtain ⟨g', cap', rfl⟩ := ownsRow_succ hown'; have HO8 := Lib.hid (HU.out.appended hyl hown hown' hgrow); clear hown' hgrow hown)
              clear HU hyl
              have hcp := HO8.out.cap
              obtain ⟨ys, hyl, HI⟩ := HO8.out.ints
              have HR9 := HO8.out.1
              have HG9 := HO8.out.2.1
              have HX9 := Lib.hid ((HX2.out.erasedKept HR2.out HG9 HG9.size).laid HR9)
              have HI9 := Lib.hid (HI.laid HR9)
              have HBB := Lib.hid (HB1.out.grown (grow_B HG2.out HG9 (fun r e => by cases e; exact .inr rfl)) hz1 (fun k e => by cases e; exact Nat.le_of_eq hBe))
              clear HI HR9 HG9
              go_wp2_with fail
              go_ret2
              exact ⟨a2, c2, xss, some ⟨g', 0, none⟩, cap', ys, by rw [hyl]; rfl, ⟨HF.out, HX9.out⟩, ⟨by omega, by omega, HI9.out⟩, HBB.out⟩

end Go.Proofs.Ytmohmecdhabapac
