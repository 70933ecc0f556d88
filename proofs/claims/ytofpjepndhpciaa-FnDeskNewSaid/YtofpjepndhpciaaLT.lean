/-
  The program's copied.
-/
import Derived.Test.YtofpjepndhpciaaLS
import Derived.Test.YtofpjepndhpciaaP12c
import Derived.Test.YtofpjepndhpciaaZE
namespace Go.Proofs.Ytofpjepndhpciaa
open Go.RowKit Go.Shelf Go.Deep

set_option maxHeartbeats 1000000 in
theorem arrowD (n₀ : Nat) (a : Option Addr) (c : Nat) (G : List (List Int)) (W : World) (hM : Mat n₀ W a G) (hn : n₀ ≤ W.heap.size) (hG : Good G) (i j : Nat) (hi : i < G.length) (hj : j < G.length) :
    CallsIn Fence.wide 20 Try.prog 51 #[.agg #[.slice a G.length c], .int .i64 (i : Int), .int .i64 (j : Int)] W (Ans (.bool (arw G i j)) W) :=
  (arrow_in Fence.wide 20 (fun _ => trivial) rfl n₀ a c G W hM hn hG i j hi hj).mono fun e w' h => ⟨h.1, by rw [h.2]; exact (Below.refl _ _).alloc (Nat.le_refl _) _⟩
/-- The rows of a graph, as the program makes them anew: in blocks of their own. -/
def RowsG (G : List (List Int)) (W : World) (e : Ending) (w' : World) : Prop := ∃ x, (e = .returned (.slice (some ⟨x, 0, none⟩) G.length G.length) ∧ Below W.heap.size W w') ∧ OwnG W.heap.size w'.heap.size w' (some ⟨x, 0, none⟩) G.length G
theorem rowsD (a : Option Addr) (c : Nat) (G : List (List Int)) (n₀ : Nat) (W : World) (hM : Mat n₀ W a G) (hn : n₀ ≤ W.heap.size) (hG : Good G) :
    Calls Try.prog 50 #[.int .i64 G.length, .func (.func 51) #[.agg #[.slice a G.length c]] #[]] W (RowsG G W) := by
  refine (callsIn_wide.1 (rowsByM_in Fence.wide rfl (fun _ => trivial) rfl 51 (.agg #[.slice a G.length c]) (arw G) G.length hG.2.1 W (enters_of Try.func51 (by kernel_rfl) rfl)
    (fun W' i j hb hi hj => arrowD n₀ a c G W' (hM.below (hb.mono hn)) (Nat.le_trans hn hb.size) hG i j hi hj))).mono ?_
  rintro e w' ⟨rfl, hB, hO⟩
  rw [← good_rowsP hG] at hO
  have hl := World.rowIs.lt hO.1
  refine ⟨_, ⟨rfl, hB⟩, _, _, ⟨rfl, rfl⟩, hO, ⟨by omega, hl⟩, fun i hi => ⟨by show W.heap.size ≤ W.heap.size + 3 + i; omega, (hO.2 i _ (List.getElem?_eq_getElem hi)).lt⟩, fun i j h => by have h' : W.heap.size + 3 + i = W.heap.size + 3 + j := h; omega⟩

/-- A DESK MADE ANEW. -/
def CopiedDk (d : Dk) (w : World) (e : Ending) (w' : World) : Prop := ∃ v, (e = .returned v ∧ Below w.heap.size w w') ∧ OwnDk w.heap.size w'.heap.size w' v d

set_option maxRecDepth 100000 in
set_option maxHeartbeats 4000000 in
theorem copied_any (aN : Option Addr) (cN : Nat) (G : List (List Int)) (aP : Option Addr) (cP : Nat) (P : List (List (List Int))) (n₀ : Nat) (w : World) (hM : Mat n₀ w aN G) (hC : Cube n₀ w aP P) (hn : n₀ ≤ w.heap.size) (hd : dokI ⟨G, P⟩ = true) :
    Calls Try.prog 31 #[.agg #[.slice aN G.length cN, .slice aP P.length cP]] w (CopiedDk ⟨G, P⟩ w) := by
  have HDK := Lib.hid (dok_iff.1 hd)
  have hP8 : P.length ≤ 8 := HDK.out.2.2
  have hG9 : G.length ≤ 9 := (good_of HDK.out.2.1).2.1
  clear hd
  have es : ∀ (W : World) (o : Obj), (W.alloc o).heap.size = W.heap.size + 1 := fun W o => by simp
  have hA1 : Below w.heap.size w (w.alloc (.cells #[.slice aN G.length cN, .slice aP P.length cP] 26)) := (Below.refl _ _).alloc (Nat.le_refl _) _
  have hA2 := hA1.alloc hA1.size (.cells #[.slice none 0 0, .slice none 0 0] 26)
  have hX1 : (w.alloc (.cells #[.slice aN G.length cN, .slice aP P.length cP] 26)).heap[w.heap.size]? = some (.cells #[.slice aN G.length cN, .slice aP P.length cP] 26) := heap_alloc_new w _
  have hX2 : ((w.alloc (.cells #[.slice aN G.length cN, .slice aP P.length cP] 26)).alloc (.cells #[.slice none 0 0, .slice none 0 0] 26)).heap[w.heap.size]? = some (.cells #[.slice aN G.length cN, .slice aP P.length cP] 26) := (((Below.refl _ _).alloc (Nat.le_refl _) _).block _ (Array.getElem?_eq_some_iff.1 hX1).1).trans hX1
  have hX3 : ((w.alloc (.cells #[.slice aN G.length cN, .slice aP P.length cP] 26)).alloc (.cells #[.slice none 0 0, .slice none 0 0] 26)).heap[w.heap.size + 1]? = some (.cells #[.slice none 0 0, .slice none 0 0] 26) := by
    have h := heap_alloc_new (w.alloc (.cells #[.slice aN G.length cN, .slice aP P.length cP] 26)) (.cells #[.slice none 0 0, .slice none 0 0] 26)
    rw [es] at h
    exact h
  have hmk := run_make_row' (P := Try.prog) 24 23 (.slice none 0 0) 24 Try.underlying24 infoRowsL rfl .i64 .i64 P.length (by omega) (by omega)
  have hzV : ((w.alloc (.cells #[.slice aN G.length cN, .slice aP P.length cP] 26)).alloc (.cells #[.slice none 0 0, .slice none 0 0] 26)).heap.size = w.heap.size + 1 + 1 := by rw [es, es]
  have HP0 := Lib.hid (PartC.start P (Below.refl ((w.alloc (.cells #[.slice aN G.length cN, .slice aP P.length cP] 26)).alloc (.cells #[.slice none 0 0, .slice none 0 0] 26)).heap.size ((w.alloc (.cells #[.slice aN G.length cN, .slice aP P.length cP] 26)).alloc (.cells #[.slice none 0 0, .slice none 0 0] 26))))
  rw [hzV] at HP0
  have HZ := Lib.hid hzV
  have HX2 := Lib.hid hX2
  have HX3 := Lib.hid hX3
  have HA2 := Lib.hid hA2
  have HMW := Lib.hid hM
  have HCW := Lib.hid hC
  have hc1 : ((w.alloc (.cells #[.slice aN G.length cN, .slice aP P.length cP] 26)).alloc (.cells #[.slice none 0 0, .slice none 0 0] 26)).cell? ⟨w.heap.size, 1, none⟩ = some (.slice aP P.length cP) := (dk_cell hX2).1.2
  clear hA1 hA2 hX1 hX2 hX3 hzV hM hC es
  obtain ⟨V, hV⟩ : ∃ V, (w.alloc (.cells #[.slice aN G.length cN, .slice aP P.length cP] 26)).alloc (.cells #[.slice none 0 0, .slice none 0 0] 26) = V := ⟨_, rfl⟩
  rw [hV] at HX2 HX3 HA2 HP0 HZ
  have HV := Lib.hid hV
  clear hV
  go_enter Try.func31, Try.ntmps31
  go_wp2_with fail
  clear hmk hc1
  rw [HV.out]
  go_loopw [13] (fun i wr => ∃ (k : Nat) (A T : Nat → Nat), k ≤ P.length ∧ i = .int .i64 k ∧ Hid (PartC V wr (w.heap.size + 1 + 1) P k A T)) (fun i _ => P.length - (intOf i).toNat)
  case atStart => exact ⟨0, _, _, Nat.zero_le _, rfl, HP0⟩
  case round =>
    obtain ⟨k, A, T, hk, rfl, HP⟩ := hrel
    clear HP0
    have hVz := HZ.out
    have hB := HP.out.below
    have hBs := hB.size
    have hBw : Below w.heap.size w wr := HA2.out.trans (hB.mono HA2.out.size)
    have htp := HP.out.top
    have hbw := HP.out.bw
    have hT0 : T 0 ≤ T k := mono_le HP.out.mono (Nat.zero_le k)
    have hbz : w.heap.size + 1 + 1 < wr.heap.size := by omega
    by_cases hlt : k < P.length
    · obtain ⟨b, o, Gk, aG, cG, rfl, hb, HG, hc, hMG⟩ := (HCW.out.below (hBw.mono hn)).at_ hlt
      have HGG := Lib.hid (good_of (HDK.out.1 Gk (List.mem_of_getElem? HG.out)))
      have hGk9 : Gk.length ≤ 9 := HGG.out.2.1
      have hc2 := HP.out.row.cell hlt
      simp only [Nat.lt_irrefl, if_false] at hc2
      have hf2 := HP.out.row.frozen k
      have hkl : (k : Int) < (P.length : Int) := by omega
      have HTO := Lib.hid (rowsD aG cG Gk n₀ wr hMG (by omega) HGG.out)
      clear hMG hB hBw
      go_wp2_with fail
      refine HTO.out.mono ?_
      rintro e w1 ⟨x, ⟨rfl, hb1⟩, hO⟩
      have HP1 := Lib.hid (HP.out.step HG.out hb1 hO)
      have hc3 := (hb1.cell (p := ⟨w.heap.size + 1 + 1, k, none⟩) hbz).trans hc2
      have hf3 := (hb1.frozen (p := ⟨w.heap.size + 1 + 1, k, none⟩) hbz).trans hf2
      clear hO hb1 hc2 hf2 HTO hc
      go_wp2_with fail
      go_roundw
      case rel => exact ⟨k + 1, _, _, by omega, by go_num, HP1⟩
      case measure => simp [intOf]; omega
    · obtain rfl : k = P.length := by omega
      have HGG := Lib.hid (good_of HDK.out.2.1)
      have HB := Lib.hid hB
      have HBW := Lib.hid hBw
      have HOC := Lib.hid HP.out.own
      have hX := (hB.block w.heap.size (by omega)).trans HX2.out
      have hY := (hB.block (w.heap.size + 1) (by omega)).trans HX3.out
      have c0 := (dk_cell hX).1.1
      have HY := Lib.hid hY
      have HTO := Lib.hid (rowsD aN cN G n₀ wr (HMW.out.below (hBw.mono hn)) (by omega) HGG.out)
      clear hX hY hB hBw
      go_wp2_with fail
      refine HTO.out.mono ?_
      rintro e w1 ⟨x, ⟨rfl, hb1⟩, hO⟩
      have hx2 := (hb1.block (w.heap.size + 1) (by omega)).trans HY.out
      have hx3 := dk_put hx2 0 (.slice (some ⟨x, 0, none⟩) G.length G.length)
      have hx4 := dk_put hx3 1 (.slice (some ⟨w.heap.size + 1 + 1, 0, none⟩) P.length P.length)
      obtain ⟨⟨s1, s3⟩, s2⟩ := dk_cell hx2
      obtain ⟨⟨t1, t3⟩, t2⟩ := dk_cell hx3
      obtain ⟨⟨r1, r3⟩, _⟩ := dk_cell hx4
      have hs1 := hb1.size
      have hb := HBW.out.trans (hb1.mono HBW.out.size)
      have HB4 := Lib.hid ((hb.setCell (p := ⟨w.heap.size + 1, 0, none⟩) (Nat.le_succ _) (.slice (some ⟨x, 0, none⟩) G.length G.length)).setCell (p := ⟨w.heap.size + 1, 1, none⟩) (Nat.le_succ _) (.slice (some ⟨w.heap.size + 1 + 1, 0, none⟩) P.length P.length))
      have ht : Touch (fun B => B = w.heap.size + 1) w1 ((w1.setCell ⟨w.heap.size + 1, 0, none⟩ (.slice (some ⟨x, 0, none⟩) G.length G.length)).setCell ⟨w.heap.size + 1, 1, none⟩ (.slice (some ⟨w.heap.size + 1 + 1, 0, none⟩) P.length P.length)) := (Touch.set (S := fun B => B = w.heap.size + 1) w1 rfl 0 _).trans (Touch.set (S := fun B => B = w.heap.size + 1) _ rfl 1 _)
      have hOC1 := (HOC.out.below hb1 (Nat.le_refl _)).touch ht (fun B e => by cases e; left; omega)
      have hO1 := hO.touch ht (fun B e => by cases e; left; omega)
      have hsz : ((w1.setCell ⟨w.heap.size + 1, 0, none⟩ (.slice (some ⟨x, 0, none⟩) G.length G.length)).setCell ⟨w.heap.size + 1, 1, none⟩ (.slice (some ⟨w.heap.size + 1 + 1, 0, none⟩) P.length P.length)).heap.size = w1.heap.size := by simp
      have HOD : Hid (OwnDk w.heap.size ((w1.setCell ⟨w.heap.size + 1, 0, none⟩ (.slice (some ⟨x, 0, none⟩) G.length G.length)).setCell ⟨w.heap.size + 1, 1, none⟩ (.slice (some ⟨w.heap.size + 1 + 1, 0, none⟩) P.length P.length)).heap.size
          ((w1.setCell ⟨w.heap.size + 1, 0, none⟩ (.slice (some ⟨x, 0, none⟩) G.length G.length)).setCell ⟨w.heap.size + 1, 1, none⟩ (.slice (some ⟨w.heap.size + 1 + 1, 0, none⟩) P.length P.length))
          (.agg #[.slice (some ⟨x, 0, none⟩) G.length G.length, .slice (some ⟨w.heap.size + 1 + 1, 0, none⟩) P.length P.length]) ⟨G, P⟩) := Lib.hid ⟨_, _, _, _, _, _, rfl, hO1, hOC1, by omega, by omega, by omega⟩
      have s2b := s2 0
      have t2b := t2 1
      clear hx2 hx3 hx4 hb1 hO hb s2 t2 HTO ht hOC1 hO1 hsz c0
      go_wp2_with fail
      refine bodyPost_ret (v := .agg #[.slice (some ⟨x, 0, none⟩) G.length G.length, .slice (some ⟨w.heap.size + 1 + 1, 0, none⟩) P.length P.length]) ?_ rfl ?_
      · simp [results, Try.f31, go_sem, r1, r3]
      · exact ⟨_, ⟨rfl, HB4.out⟩, HOD.out⟩

end Go.Proofs.Ytofpjepndhpciaa
