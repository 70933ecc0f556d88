/-
  Several texts in one.
  The program's copied.
  Desks compared.
  Desks marked, and held.
  The program's DeskNew.
-/
import Derived.Test.YtofpjepndhpciaaLS
import Derived.Test.YtofpjepndhpciaaP12c
import Derived.Test.YtofpjepndhpciaaZE
import Derived.Test.YtofpjepndhpciaaZB
import Derived.Test.YtofpjepndhpciaaZI
import Derived.Test.YtofpjepndhpciaaZA
namespace Go.Proofs.Ytofpjepndhpciaa
open Go.RowKit Go.Shelf Go.Deep

set_option maxHeartbeats 1000000 in
theorem arrowD (n₀ : Nat) (a : Option Addr) (c : Nat) (G : List (List Int)) (W : World) (hM : Mat n₀ W a G) (hn : n₀ ≤ W.heap.size) (hG : Good G) (i j : Nat) (hi : i < G.length) (hj : j < G.length) :
    CallsIn Fence.wide 20 Try.prog 51 #[.agg #[.slice a G.length c], .int .i64 (i : Int), .int .i64 (j : Int)] W (Ans (.bool (arw G i j)) W) :=
  (arrow_in Fence.wide 20 (fun _ => trivial) rfl n₀ a c G W hM hn hG i j hi hj).mono fun e w' h => ⟨h.1, by rw [h.2]; exact (Below.refl _ _).alloc (Nat.le_refl _) _⟩
/-- The rows of a graph, as the program makes them anew: in blocks of their own. -/
def RowsG (G : List (List Int)) (W : World) (e : Ending) (w' : World) : Prop := ∃ x, (e = .returned (.slice (some ⟨x, 0, none⟩) G.length G.length) ∧ Below W.heap.size W w') ∧ OwnG W.heap.size w'.heap.size w' (some ⟨x, 0, none⟩) G.length G
theorem rowsD (a : Option Addr) (c : Nat) (G : List (List Int)) (n₀ : Nat) (W : World) (hM : Mat n₀ W a G) (hn : n₀ ≤ W.heap.size) (hG : Good G) :
    Calls Try.prog 50 #[.int .i64 G.length, .func (.func 51) #[.agg #[.slice a G.length c]] #[]] W (RowsG G W) := by
  refine (callsIn_wide.1 (rowsByM_in Fence.wide rfl (fun _ => trivial) rfl 51 (.agg #[.slice a G.length c]) (arw G) G.length hG.2.1 W (enters_of Try.func51 (by kernel_rfl) rfl)
    (fun W' i j hb hi hj => arrowD n₀ a c G W' (hM.below (hb.mono hn)) (Nat.le_trans hn hb.size) hG i j hi hj))).mono ?_
  rintro e w' ⟨rfl, hB, hO⟩
  rw [← good_rowsP hG] at hO
  have hl := World.rowIs.lt hO.1
  refine ⟨_, ⟨rfl, hB⟩, _, _, ⟨rfl, rfl⟩, hO, ⟨by omega, hl⟩, fun i hi => ⟨by show W.heap.size ≤ W.heap.size + 3 + i; omega, (hO.2 i _ (List.getElem?_eq_getElem hi)).lt⟩, fun i j h => by have h' : W.heap.size + 3 + i = W.heap.size + 3 + j := h; omega⟩

/-- A DESK MADE ANEW. -/
def CopiedDk (d : Dk) (w : World) (e : Ending) (w' : World) : Prop := ∃ v, (e = .returned v ∧ Below w.heap.size w w') ∧ OwnDk w.heap.size w'.heap.size w' v d

set_option maxRecDepth 100000 in
set_option maxHeartbeats 4000000 in
theorem copied_any (aN : Option Addr) (cN : Nat) (G : List (List Int)) (aP : Option Addr) (cP : Nat) (P : List (List (List Int))) (n₀ : Nat) (w : World) (hM : Mat n₀ w aN G) (hC : Cube n₀ w aP P) (hn : n₀ ≤ w.heap.size) (hd : dokI ⟨G, P⟩ = true) :
    Calls Try.prog 31 #[.agg #[.slice aN G.length cN, .slice aP P.length cP]] w (CopiedDk ⟨G, P⟩ w) := by
  have HDK := Lib.hid (dok_iff.1 hd)
  have hP8 : P.length ≤ 8 := HDK.out.2.2
  have hG9 : G.length ≤ 9 := (good_of HDK.out.2.1).2.1
  clear hd
  have es : ∀ (W : World) (o : Obj), (W.alloc o).heap.size = W.heap.size + 1 := fun W o => by simp
  have hA1 : Below w.heap.size w (w.alloc (.cells #[.slice aN G.length cN, .slice aP P.length cP] 26)) := (Below.refl _ _).alloc (Nat.le_refl _) _
  have hA2 := hA1.alloc hA1.size (.cells #[.slice none 0 0, .slice none 0 0] 26)
  have hX1 : (w.alloc (.cells #[.slice aN G.length cN, .slice aP P.length cP] 26)).heap[w.heap.size]? = some (.cells #[.slice aN G.length cN, .slice aP P.length cP] 26) := heap_alloc_new w _
  have hX2 : ((w.alloc (.cells #[.slice aN G.length cN, .slice aP P.length cP] 26)).alloc (.cells #[.slice none 0 0, .slice none 0 0] 26)).heap[w.heap.size]? = some (.cells #[.slice aN G.length cN, .slice aP P.length cP] 26) := (((Below.refl _ _).alloc (Nat.le_refl _) _).block _ (Array.getElem?_eq_some_iff.1 hX1).1).trans hX1
  have hX3 : ((w.alloc (.cells #[.slice aN G.length cN, .slice aP P.length cP] 26)).alloc (.cells #[.slice none 0 0, .slice none 0 0] 26)).heap[w.heap.size + 1]? = some (.cells #[.slice none 0 0, .slice none 0 0] 26) := by
    have h := heap_alloc_new (w.alloc (.cells #[.slice aN G.length cN, .slice aP P.length cP] 26)) (.cells #[.slice none 0 0, .slice none 0 0] 26)
    rw [es] at h
    exact h
  have hmk := run_make_row' (P := Try.prog) 24 23 (.slice none 0 0) 24 Try.underlying24 infoRowsL rfl .i64 .i64 P.length (by omega) (by omega)
  have hzV : ((w.alloc (.cells #[.slice aN G.length cN, .slice aP P.length cP] 26)).alloc (.cells #[.slice none 0 0, .slice none 0 0] 26)).heap.size = w.heap.size + 1 + 1 := by rw [es, es]
  have HP0 := Lib.hid (PartC.start P (Below.refl ((w.alloc (.cells #[.slice aN G.length cN, .slice aP P.length cP] 26)).alloc (.cells #[.slice none 0 0, .slice none 0 0] 26)).heap.size ((w.alloc (.cells #[.slice aN G.length cN, .slice aP P.length cP] 26)).alloc (.cells #[.slice none 0 0, .slice none 0 0] 26))))
  rw [hzV] at HP0
  have HZ := Lib.hid hzV
  have HX2 := Lib.hid hX2
  have HX3 := Lib.hid hX3
  have HA2 := Lib.hid hA2
  have HMW := Lib.hid hM
  have HCW := Lib.hid hC
  have hc1 : ((w.alloc (.cells #[.slice aN G.length cN, .slice aP P.length cP] 26)).alloc (.cells #[.slice none 0 0, .slice none 0 0] 26)).cell? ⟨w.heap.size, 1, none⟩ = some (.slice aP P.length cP) := (dk_cell hX2).1.2
  clear hA1 hA2 hX1 hX2 hX3 hzV hM hC es
  obtain ⟨V, hV⟩ : ∃ V, (w.alloc (.cells #[.slice aN G.length cN, .slice aP P.length cP] 26)).alloc (.cells #[.slice none 0 0, .slice none 0 0] 26) = V := ⟨_, rfl⟩
  rw [hV] at HX2 HX3 HA2 HP0 HZ
  have HV := Lib.hid hV
  clear hV
  go_enter Try.func31, Try.ntmps31
  go_wp2_with fail
  clear hmk hc1
  rw [HV.out]
  go_loopw [13] (fun i wr => ∃ (k : Nat) (A T : Nat → Nat), k ≤ P.length ∧ i = .int .i64 k ∧ Hid (PartC V wr (w.heap.size + 1 + 1) P k A T)) (fun i _ => P.length - (intOf i).toNat)
  case atStart => exact ⟨0, _, _, Nat.zero_le _, rfl, HP0⟩
  case round =>
    obtain ⟨k, A, T, hk, rfl, HP⟩ := hrel
    clear HP0
    have hVz := HZ.out
    have hB := HP.out.below
    have hBs := hB.size
    have hBw : Below w.heap.size w wr := HA2.out.trans (hB.mono HA2.out.size)
    have htp := HP.out.top
    have hbw := HP.out.bw
    have hT0 : T 0 ≤ T k := mono_le HP.out.mono (Nat.zero_le k)
    have hbz : w.heap.size + 1 + 1 < wr.heap.size := by omega
    by_cases hlt : k < P.length
    · obtain ⟨b, o, Gk, aG, cG, rfl, hb, HG, hc, hMG⟩ := (HCW.out.below (hBw.mono hn)).at_ hlt
      have HGG := Lib.hid (good_of (HDK.out.1 Gk (List.mem_of_getElem? HG.out)))
      have hGk9 : Gk.length ≤ 9 := HGG.out.2.1
      have hc2 := HP.out.row.cell hlt
      simp only [Nat.lt_irrefl, if_false] at hc2
      have hf2 := HP.out.row.frozen k
      have hkl : (k : Int) < (P.length : Int) := by omega
      have HTO := Lib.hid (rowsD aG cG Gk n₀ wr hMG (by omega) HGG.out)
      clear hMG hB hBw
      go_wp2_with fail
      refine HTO.out.mono ?_
      rintro e w1 ⟨x, ⟨rfl, hb1⟩, hO⟩
      have HP1 := Lib.hid (HP.out.step HG.out hb1 hO)
      have hc3 := (hb1.cell (p := ⟨w.heap.size + 1 + 1, k, none⟩) hbz).trans hc2
      have hf3 := (hb1.frozen (p := ⟨w.heap.size + 1 + 1, k, none⟩) hbz).trans hf2
      clear hO hb1 hc2 hf2 HTO hc
      go_wp2_with fail
      go_roundw
      case rel => exact ⟨k + 1, _, _, by omega, by go_num, HP1⟩
      case measure => simp [intOf]; omega
    · obtain rfl : k = P.length := by omega
      have HGG := Lib.hid (good_of HDK.out.2.1)
      have HB := Lib.hid hB
      have HBW := Lib.hid hBw
      have HOC := Lib.hid HP.out.own
      have hX := (hB.block w.heap.size (by omega)).trans HX2.out
      have hY := (hB.block (w.heap.size + 1) (by omega)).trans HX3.out
      have c0 := (dk_cell hX).1.1
      have HY := Lib.hid hY
      have HTO := Lib.hid (rowsD aN cN G n₀ wr (HMW.out.below (hBw.mono hn)) (by omega) HGG.out)
      clear hX hY hB hBw
      go_wp2_with fail
      refine HTO.out.mono ?_
      rintro e w1 ⟨x, ⟨rfl, hb1⟩, hO⟩
      have hx2 := (hb1.block (w.heap.size + 1) (by omega)).trans HY.out
      have hx3 := dk_put hx2 0 (.slice (some ⟨x, 0, none⟩) G.length G.length)
      have hx4 := dk_put hx3 1 (.slice (some ⟨w.heap.size + 1 + 1, 0, none⟩) P.length P.length)
      obtain ⟨⟨s1, s3⟩, s2⟩ := dk_cell hx2
      obtain ⟨⟨t1, t3⟩, t2⟩ := dk_cell hx3
      obtain ⟨⟨r1, r3⟩, _⟩ := dk_cell hx4
      have hs1 := hb1.size
      have hb := HBW.out.trans (hb1.mono HBW.out.size)
      have HB4 := Lib.hid ((hb.setCell (p := ⟨w.heap.size + 1, 0, none⟩) (Nat.le_succ _) (.slice (some ⟨x, 0, none⟩) G.length G.length)).setCell (p := ⟨w.heap.size + 1, 1, none⟩) (Nat.le_succ _) (.slice (some ⟨w.heap.size + 1 + 1, 0, none⟩) P.length P.length))
      have ht : Touch (fun B => B = w.heap.size + 1) w1 ((w1.setCell ⟨w.heap.size + 1, 0, none⟩ (.slice (some ⟨x, 0, none⟩) G.length G.length)).setCell ⟨w.heap.size + 1, 1, none⟩ (.slice (some ⟨w.heap.size + 1 + 1, 0, none⟩) P.length P.length)) := (Touch.set (S := fun B => B = w.heap.size + 1) w1 rfl 0 _).trans (Touch.set (S := fun B => B = w.heap.size + 1) _ rfl 1 _)
      have hOC1 := (HOC.out.below hb1 (Nat.le_refl _)).touch ht (fun B e => by cases e; left; omega)
      have hO1 := hO.touch ht (fun B e => by cases e; left; omega)
      have hsz : ((w1.setCell ⟨w.heap.size + 1, 0, none⟩ (.slice (some ⟨x, 0, none⟩) G.length G.length)).setCell ⟨w.heap.size + 1, 1, none⟩ (.slice (some ⟨w.heap.size + 1 + 1, 0, none⟩) P.length P.length)).heap.size = w1.heap.size := by simp
      have HOD : Hid (OwnDk w.heap.size ((w1.setCell ⟨w.heap.size + 1, 0, none⟩ (.slice (some ⟨x, 0, none⟩) G.length G.length)).setCell ⟨w.heap.size + 1, 1, none⟩ (.slice (some ⟨w.heap.size + 1 + 1, 0, none⟩) P.length P.length)).heap.size
          ((w1.setCell ⟨w.heap.size + 1, 0, none⟩ (.slice (some ⟨x, 0, none⟩) G.length G.length)).setCell ⟨w.heap.size + 1, 1, none⟩ (.slice (some ⟨w.heap.size + 1 + 1, 0, none⟩) P.length P.length))
          (.agg #[.slice (some ⟨x, 0, none⟩) G.length G.length, .slice (some ⟨w.heap.size + 1 + 1, 0, none⟩) P.length P.length]) ⟨G, P⟩) := Lib.hid ⟨_, _, _, _, _, _, rfl, hO1, hOC1, by omega, by omega, by omega⟩
      have s2b := s2 0
      have t2b := t2 1
      clear hx2 hx3 hx4 hb1 hO hb s2 t2 HTO ht hOC1 hO1 hsz c0
      go_wp2_with fail
      refine bodyPost_ret (v := .agg #[.slice (some ⟨x, 0, none⟩) G.length G.length, .slice (some ⟨w.heap.size + 1 + 1, 0, none⟩) P.length P.length]) ?_ rfl ?_
      · simp [results, Try.f31, go_sem, r1, r3]
      · exact ⟨_, ⟨rfl, HB4.out⟩, HOD.out⟩

end Go.Proofs.Ytofpjepndhpciaa

namespace Go.Proofs.Ytofpjepndhpciaa
open Go.RowKit Go.Shelf Go.Deep

def FitK (d : Dk) : Prop := Fit d.now ∧ FitC d.past
theorem FitC.at_ {P : List (List (List Int))} (h : FitC P) {k : Nat} {G : List (List Int)} (hG : P[k]? = some G) : Fit G := h.2 G (List.mem_of_getElem? hG)

set_option maxHeartbeats 400000 in
theorem eqC_same (a a' : Option Addr) (c c' : Nat) (P : List (List (List Int))) (n₀ : Nat) (w : World) (hM : Cube n₀ w a P) (hM' : Cube n₀ w a' P) (hF : FitC P) :
    Calls Try.prog 37 #[.slice a P.length c, .slice a' P.length c'] w (Ans (.bool true) w) := by
  have HF := Lib.hid hF
  have hl := hF.1
  clear hF
  go_enter Try.func37, Try.ntmps37
  go_wp2
  go_loopw [5] (fun i wr => ∃ (k n : Nat), k ≤ P.length ∧ i = .int .i64 k ∧ wr = w.drewN n) (fun i _ => P.length - (intOf i).toNat)
  case atStart => exact ⟨0, 0, Nat.zero_le _, rfl, rfl⟩
  case round =>
    obtain ⟨k, n, hk, rfl, rfl⟩ := hrel
    by_cases hlt : k < P.length
    · obtain ⟨b, o, G, aG, cG, rfl, hb, HG, hc, hMG⟩ := hM.at_ hlt
      obtain ⟨b', o', G', aG', cG', rfl, hb', HG', hc', hMG'⟩ := hM'.at_ hlt
      obtain rfl : G = G' := Option.some.inj (HG.out.symm.trans HG'.out)
      have hx1 := HF.out.at_ HG.out
      go_wp2
      go_quiet ((go_at_call 23; exact Calls_quiet_add (eqSS_same aG aG' cG cG' G n₀ _ (hMG.drewN _) (hMG'.drewN _) hx1)))
      go_wp2
      go_roundw
      case rel => exact ⟨k + 1, _, by omega, by go_num, rfl⟩
      case measure => simp [intOf]; omega
    · obtain rfl : k = P.length := by omega
      go_wp2
      go_ret
      exact ⟨rfl, below_drewN (Below.refl _ _) n⟩

theorem boxed2 (w : World) (x y u v : Value) : Below w.heap.size w ((w.alloc (.cells #[x, y] 26)).alloc (.cells #[u, v] 26)) ∧
    ((w.alloc (.cells #[x, y] 26)).alloc (.cells #[u, v] 26)).heap[w.heap.size]? = some (.cells #[x, y] 26) ∧ ((w.alloc (.cells #[x, y] 26)).alloc (.cells #[u, v] 26)).heap[w.heap.size + 1]? = some (.cells #[u, v] 26) := by
  have es : ∀ (W : World) (o : Obj), (W.alloc o).heap.size = W.heap.size + 1 := fun W o => by simp
  have hA1 : Below w.heap.size w (w.alloc (.cells #[x, y] 26)) := (Below.refl _ _).alloc (Nat.le_refl _) _
  have hX1 : (w.alloc (.cells #[x, y] 26)).heap[w.heap.size]? = some (.cells #[x, y] 26) := heap_alloc_new w _
  refine ⟨hA1.alloc hA1.size _, (((Below.refl _ _).alloc (Nat.le_refl _) _).block _ (Array.getElem?_eq_some_iff.1 hX1).1).trans hX1, ?_⟩
  have h := heap_alloc_new (w.alloc (.cells #[x, y] 26)) (.cells #[u, v] 26)
  rw [es] at h
  exact h

set_option maxHeartbeats 1000000 in
theorem eqDk_same (v v' : Value) (d : Dk) (n₀ : Nat) (w : World) (h : DeskR n₀ w v d) (h' : DeskR n₀ w v' d) (hn : n₀ ≤ w.heap.size) (hF : FitK d) :
    Calls Try.prog 20 #[v, v'] w (Ans (.bool true) w) := by
  obtain ⟨aN, aP, cN, cP, rfl, hM, hC⟩ := h
  obtain ⟨aN', aP', cN', cP', rfl, hM', hC'⟩ := h'
  obtain ⟨hA, hX, hY⟩ := boxed2 w (.slice aN d.now.length cN) (.slice aP d.past.length cP) (.slice aN' d.now.length cN') (.slice aP' d.past.length cP')
  have hM2 := hM.below (hA.mono hn)
  have hM2' := hM'.below (hA.mono hn)
  have hC2 := hC.below (hA.mono hn)
  have hC2' := hC'.below (hA.mono hn)
  have HF := Lib.hid hF
  have HA := Lib.hid hA
  have HX := Lib.hid hX
  have HY := Lib.hid hY
  obtain ⟨⟨c0, c1⟩, _⟩ := dk_cell hX
  obtain ⟨⟨e0, e1⟩, _⟩ := dk_cell hY
  clear hM hM' hC hC' hF hA hX hY
  go_enter Try.func20, Try.ntmps20
  go_wp2_with fail
  refine (eqSS_same aN aN' cN cN' d.now n₀ _ hM2 hM2' HF.out.1).mono ?_
  rintro e w1 h1
  obtain ⟨rfl, hB1⟩ := h1.below
  clear h1
  obtain ⟨⟨f0, f1⟩, _⟩ := dk_cell ((hB1.block _ (Array.getElem?_eq_some_iff.1 HX.out).1).trans HX.out)
  obtain ⟨⟨g0, g1⟩, _⟩ := dk_cell ((hB1.block _ (Array.getElem?_eq_some_iff.1 HY.out).1).trans HY.out)
  have hC3 := hC2.below (hB1.mono (Nat.le_trans hn HA.out.size))
  have hC3' := hC2'.below (hB1.mono (Nat.le_trans hn HA.out.size))
  have HB := Lib.hid (HA.out.trans (hB1.mono HA.out.size))
  clear hB1 hM2 hM2' hC2 hC2' c0 c1 e0 e1
  go_wp2_with fail
  refine (eqC_same aP aP' cP cP' d.past n₀ w1 hC3 hC3' HF.out.2).mono ?_
  rintro e w2 ⟨rfl, hB2⟩
  have HB2 := Lib.hid (HB.out.trans (hB2.mono HB.out.size))
  clear hB2
  go_wp2_with fail
  go_ret
  exact ⟨rfl, HB2.out⟩

set_option maxHeartbeats 1000000 in
theorem sameDk_same (v v' : Value) (d : Dk) (n₀ : Nat) (w : World) (h : DeskR n₀ w v d) (h' : DeskR n₀ w v' d) (hn : n₀ ≤ w.heap.size) (hF : FitK d) :
    Calls Try.prog 14 #[v, v'] w (Ans (.bool true) w) := by
  obtain ⟨aN, aP, cN, cP, rfl, hM, hC⟩ := h
  obtain ⟨aN', aP', cN', cP', rfl, hM', hC'⟩ := h'
  obtain ⟨hA, hX, hY⟩ := boxed2 w (.slice aN d.now.length cN) (.slice aP d.past.length cP) (.slice aN' d.now.length cN') (.slice aP' d.past.length cP')
  have hM2 := hM.below (hA.mono hn)
  have hM2' := hM'.below (hA.mono hn)
  have hC2 := hC.below (hA.mono hn)
  have hC2' := hC'.below (hA.mono hn)
  have HF := Lib.hid hF
  have HA := Lib.hid hA
  have hpl := hF.2.1
  obtain ⟨⟨c0, c1⟩, _⟩ := dk_cell hX
  obtain ⟨⟨e0, e1⟩, _⟩ := dk_cell hY
  clear hM hM' hC hC' hF hA hX hY
  obtain ⟨V, hV⟩ : ∃ V, (w.alloc (.cells #[.slice aN d.now.length cN, .slice aP d.past.length cP] 26)).alloc (.cells #[.slice aN' d.now.length cN', .slice aP' d.past.length cP'] 26) = V := ⟨_, rfl⟩
  rw [hV] at hM2 hM2' hC2 hC2' HA c0 c1 e0 e1
  have HV := Lib.hid hV
  have c1V := c1
  have e1V := e1
  rw [← hV] at c1V e1V
  clear hV
  go_enter Try.func14, Try.ntmps14
  go_wp2_with fail
  clear c1V e1V
  rw [HV.out]
  go_loopw [5] (fun i wr => ∃ (k n : Nat), k ≤ d.past.length ∧ i = .int .i64 k ∧ wr = V.drewN n) (fun i _ => d.past.length - (intOf i).toNat)
  case atStart => exact ⟨0, 0, Nat.zero_le _, rfl, rfl⟩
  case round =>
    obtain ⟨k, n, hk, rfl, rfl⟩ := hrel
    by_cases hlt : k < d.past.length
    · obtain ⟨b, o, G, aG, cG, rfl, hb, HG, hc, hMG⟩ := hC2.at_ hlt
      obtain ⟨b', o', G', aG', cG', rfl, hb', HG', hc', hMG'⟩ := hC2'.at_ hlt
      obtain rfl : G = G' := Option.some.inj (HG.out.symm.trans HG'.out)
      have hx1 := HF.out.2.at_ HG.out
      go_wp2_with fail
      go_quiet ((go_at_call 17; exact Calls_quiet_add (sameSS_same aG aG' cG cG' G n₀ _ (hMG.drewN _) (hMG'.drewN _) hx1)))
      go_wp2_with fail
      go_roundw
      case rel => exact ⟨k + 1, _, by omega, by go_num, rfl⟩
      case measure => simp [intOf]; omega
    · obtain rfl : k = d.past.length := by omega
      have hm1 := hM2.drewN n
      have hm1' := hM2'.drewN n
      go_wp2_with fail
      refine (sameSS_same aN aN' cN cN' d.now n₀ _ hm1 hm1' HF.out.1).mono ?_
      rintro e w1 h1
      obtain ⟨rfl, hB1⟩ := h1.below
      clear h1
      have hB0 := below_drewN HA.out n
      have HB2 := Lib.hid (hB0.trans (hB1.mono hB0.size))
      clear hB0 hB1
      go_wp2_with fail
      go_ret
      exact ⟨rfl, HB2.out⟩

end Go.Proofs.Ytofpjepndhpciaa

namespace Go.Proofs.Ytofpjepndhpciaa
open Go.RowKit Go.Shelf Go.Deep

def totD (d : Dk) : Nat := tot d.now + totC d.past
def markCL (k : Nat) (P : List (List (List Int))) : List (List (List Int)) := (List.range P.length).map fun i => markL (k + totC (P.take i)) (P[i]?.getD [])
theorem markCL_length (k : Nat) (P : List (List (List Int))) : (markCL k P).length = P.length := by simp [markCL]
theorem markCL_get {k i : Nat} {P : List (List (List Int))} {G : List (List Int)} (h : P[i]? = some G) : (markCL k P)[i]? = some (markL (k + totC (P.take i)) G) := by
  obtain ⟨hi, rfl⟩ := List.getElem?_eq_some_iff.1 h
  simp [markCL, hi]
def markDL (k : Nat) (d : Dk) : Dk := ⟨markL k d.now, markCL (k + tot d.now) d.past⟩
theorem totC_le {P : List (List (List Int))} (k : Nat) : totC (P.take k) ≤ totC P := by
  unfold totC
  have h : P = P.take k ++ P.drop k := (List.take_append_drop k P).symm
  conv => rhs; rw [h, List.map_append, List.sum_append]
  omega
theorem totC_all (P : List (List (List Int))) : totC (P.take P.length) = totC P := by rw [List.take_length]

theorem tot_le9 {m : Nat} : ∀ {G : List (List Int)}, (∀ xs ∈ G, xs.length ≤ m) → tot G ≤ m * G.length
  | [], _ => by simp [tot]
  | x :: G, h => by
    have h1 := tot_le9 (G := G) fun xs hx => h xs (List.mem_cons_of_mem _ hx)
    have h2 := h x List.mem_cons_self
    unfold tot at h1 ⊢
    simp only [List.map_cons, List.sum_cons, List.length_cons, Nat.mul_add, Nat.mul_one]
    omega
/-- THE FIRST k GRAPHS ARE MARKED. -/
structure MarkC (lo hi b : Nat) (A T : Nat → Nat) (P : List (List (List Int))) (q : Nat) (w W : World) (k : Nat) : Prop where
  bw : lo ≤ b ∧ b < T 0
  mono : ∀ i, T i ≤ T (i + 1)
  top : T P.length ≤ hi
  row : W.rowIs b 23 P.length (fun i => .slice (some ⟨A i, 0, none⟩) (P[i]?.getD []).length (P[i]?.getD []).length)
  done : ∀ i G, i < k → P[i]? = some G → OwnG (T i) (T (i + 1)) W (some ⟨A i, 0, none⟩) G.length (markL (q + totC (P.take i)) G)
  rest : ∀ i G, k ≤ i → P[i]? = some G → OwnG (T i) (T (i + 1)) W (some ⟨A i, 0, none⟩) G.length G
  touch : Touch (fun B => lo ≤ B ∧ B < hi) w W
theorem MarkC.step {lo hi b : Nat} {A T : Nat → Nat} {P : List (List (List Int))} {q : Nat} {w W W' : World} {k : Nat} {G : List (List Int)} (h : MarkC lo hi b A T P q w W k) (hG : P[k]? = some G) (ht : Touch (fun B => T k ≤ B ∧ B < T (k + 1)) W W')
    (hO : OwnG (T k) (T (k + 1)) W' (some ⟨A k, 0, none⟩) G.length (markL (q + totC (P.take k)) G)) : MarkC lo hi b A T P q w W' (k + 1) := by
  have hk := (List.getElem?_eq_some_iff.1 hG).1
  have h0 : T 0 ≤ T k := mono_le h.mono (Nat.zero_le k)
  have h1 : T (k + 1) ≤ T P.length := mono_le h.mono hk
  have hbw := h.bw
  have htp := h.top
  have hap : ∀ i, i ≠ k → ∀ B, (T k ≤ B ∧ B < T (k + 1)) → B < T i ∨ T (i + 1) ≤ B := fun i hi B hB => by
    rcases Nat.lt_or_gt_of_ne hi with h2 | h2
    · have := mono_le h.mono (show i + 1 ≤ k from h2); omega
    · have := mono_le h.mono (show k + 1 ≤ i from h2); omega
  refine ⟨hbw, h.mono, htp, World.rowIs.of_block h.row (ht.block b fun s => by omega), fun i H hi hH => ?_, fun i H hi hH => (h.rest i H (by omega) hH).touch ht (hap i (by omega)), h.touch.trans (ht.more fun B s => by omega)⟩
  by_cases e : i = k
  · subst e; rw [hG] at hH; cases hH; exact hO
  · exact (h.done i H (by omega) hH).touch ht (hap i e)
def MarkedC (lo hi : Nat) (a : Option Addr) (P : List (List (List Int))) (q : Nat) (w : World) (e : Ending) (w' : World) : Prop := e = .returned (.int .i64 ((q + totC P : Nat) : Int)) ∧ OwnC lo hi w' a P.length (markCL q P) ∧ Touch (fun B => lo ≤ B ∧ B < hi) w w'
theorem markL_len {k : Nat} {G : List (List Int)} : (markL k G).length = G.length := markL_length k G

set_option maxHeartbeats 1000000 in
theorem markC_any (lo hi : Nat) (a : Option Addr) (P : List (List (List Int))) (q : Nat) (w : World) (hO : OwnC lo hi w a P.length P) (hF : FitC P) (hq : q + totC P ≤ 1200000000000) :
    Calls Try.prog 42 #[.slice a P.length P.length, .int .i64 q] w (MarkedC lo hi a P q w) := by
  obtain ⟨b, A, T, ⟨rfl, _⟩, hb, hm, htp, hr, hd⟩ := hO
  have HF := Lib.hid hF
  have hl := hF.1
  have HP0 : Hid (MarkC lo hi b A T P q w w 0) := ⟨hb, hm, htp, hr, fun i G h => absurd h (Nat.not_lt_zero _), fun i G _ hG => hd i G hG, Touch.refl _ _⟩
  have HQ := Lib.hid hq
  have hq0 : q ≤ 1200000000000 := by omega
  clear hF hb hm htp hr hd hq
  go_enter Try.func42, Try.ntmps42
  go_wp2_with fail
  go_loopw [1, 5] (fun t i wr => ∃ j r : Nat, j ≤ P.length ∧ i = .int .i64 j ∧ t = .int .i64 (r : Int) ∧ Hid (r = q + totC (P.take j)) ∧ r ≤ 1200000000000 ∧ Hid (MarkC lo hi b A T P q w wr j)) (fun _ i _ => P.length - (intOf i).toNat)
  case atStart => exact ⟨0, q, Nat.zero_le _, rfl, rfl, Lib.hid (by simp [totC]), hq0, HP0⟩
  case round =>
    obtain ⟨j, r, hj, rfl, rfl, HR, hr, HP⟩ := hrel
    clear HP0
    by_cases hlt : j < P.length
    · obtain ⟨G, HG⟩ : ∃ G, Hid (P[j]? = some G) := ⟨_, List.getElem?_eq_getElem hlt⟩
      have hc := HP.out.row.cell hlt
      rw [HG.out, Option.getD_some] at hc
      have hFG := HF.out.2 G (List.mem_of_getElem? HG.out)
      have HOG := Lib.hid (HP.out.rest j G (Nat.le_refl _) HG.out)
      obtain ⟨x, F, ⟨e1, _⟩, ho, hx, hFb, hFi⟩ := HOG.out
      have ex : A j = x := by injection e1 with e1; injection e1
      have HMK := Lib.hid (markSS_big x G.length r F G wr ho hFG hFi hr)
      rw [← ex] at HMK
      have HS := Lib.hid (And.intro hx (And.intro hFb hFi))
      have HEX := Lib.hid ex
      clear ho hFG hFi hFb hx e1 ex
      go_wp2_with fail
      refine HMK.out.mono ?_
      rintro e w1 ⟨he, ho1, ht1⟩
      have hrq : r + tot G = q + totC (P.take (j + 1)) := by rw [totC_at HG.out, HR.out]; omega
      have HP1 : Hid (MarkC lo hi b A T P q w w1 (j + 1)) := HP.out.step HG.out (ht1.more fun B s => by obtain ⟨i, hi, rfl⟩ := s; exact HS.out.2.1 i hi)
        ⟨x, F, ⟨by rw [HEX.out], markL_len.symm⟩, by rw [← HR.out, ← HEX.out]; exact ho1, HS.out.1, fun i hi => HS.out.2.1 i (by rw [markL_len] at hi; exact hi), HS.out.2.2⟩
      have hle := totC_le (P := P) (j + 1)
      have hqq := HQ.out
      obtain ⟨s, hs⟩ : ∃ s, s = r + tot G := ⟨_, rfl⟩
      rw [← hs] at he hrq
      subst he
      have HRQ := Lib.hid hrq
      have hs2 : s ≤ 1200000000000 := by omega
      clear ho1 ht1 hrq hs hle hqq HMK
      go_wp2_with fail
      go_roundw
      case rel => exact ⟨j + 1, s, by omega, by go_num, rfl, HRQ, hs2, HP1⟩
      case measure => simp [intOf]; omega
    · obtain rfl : j = P.length := by omega
      have hrr : r = q + totC P := by rw [HR.out, totC_all]
      have HRR := Lib.hid hrr
      clear hrr
      go_wp2_with fail
      go_ret
      refine ⟨by rw [← HRR.out]; rfl, ⟨b, A, T, ⟨rfl, (markCL_length _ _).symm⟩, HP.out.bw, HP.out.mono, by rw [markCL_length]; exact HP.out.top, ?_, fun i G hG => ?_⟩, HP.out.touch⟩
      · rw [markCL_length]
        refine HP.out.row.congr fun i hi => ?_
        rw [markCL_get (List.getElem?_eq_getElem hi), List.getElem?_eq_getElem hi, Option.getD_some, Option.getD_some, markL_len]
      · have hi : i < P.length := by have := (List.getElem?_eq_some_iff.1 hG).1; rwa [markCL_length] at this
        rw [markCL_get (List.getElem?_eq_getElem hi)] at hG
        cases hG
        rw [markL_len]
        exact HP.out.done i _ hi (List.getElem?_eq_getElem hi)

set_option maxHeartbeats 1000000 in
theorem heldC_any (a : Option Addr) (c q n₀ : Nat) (P : List (List (List Int))) (w : World) (hM : Cube n₀ w a (markCL q P)) (hF : FitC P) (hq : q + totC P ≤ 1000) :
    Calls Try.prog 44 #[.slice a P.length c, .int .i64 q] w fun e w' => e = .returned (.int .i64 ((q + totC P : Nat) : Int)) ∧ w = w' := by
  have HF := Lib.hid hF
  have hl := hF.1
  have HQ := Lib.hid hq
  have hq0 : q ≤ 1000 := by omega
  clear hF hq
  go_enter Try.func44, Try.ntmps44
  go_wp2_with fail
  go_loop [1, 5] (fun t i => ∃ j r : Nat, j ≤ P.length ∧ i = .int .i64 j ∧ t = .int .i64 (r : Int) ∧ Hid (r = q + totC (P.take j)) ∧ r ≤ 1000) (fun _ i => P.length - (intOf i).toNat)
  case atStart => exact ⟨0, q, Nat.zero_le _, rfl, rfl, Lib.hid (by simp [totC]), hq0⟩
  case round =>
    obtain ⟨j, r, hj, rfl, rfl, HR, hr⟩ := hrel
    by_cases hlt : j < P.length
    · obtain ⟨b, o, Y, aG, cG, rfl, hb, HY, hc, hMG⟩ := hM.at_ (k := j) (by rw [markCL_length]; exact hlt)
      obtain ⟨G, HG⟩ : ∃ G, Hid (P[j]? = some G) := ⟨_, List.getElem?_eq_getElem hlt⟩
      have hy := HY.out
      rw [markCL_get HG.out, ← HR.out] at hy
      obtain rfl : markL r G = Y := Option.some.inj hy
      rw [markL_len] at hc
      have hFG := HF.out.2 G (List.mem_of_getElem? HG.out)
      have HHD := Lib.hid (heldSS_any aG cG r n₀ G w hMG hFG hr)
      clear hy HY hMG hFG
      go_wp2_with fail
      refine HHD.out.mono ?_
      rintro e w1 ⟨he, rfl⟩
      have hrq : r + tot G = q + totC (P.take (j + 1)) := by rw [totC_at HG.out, HR.out]; omega
      have hle := totC_le (P := P) (j + 1)
      have hqq := HQ.out
      obtain ⟨s, hs⟩ : ∃ s, s = r + tot G := ⟨_, rfl⟩
      rw [← hs] at he hrq
      subst he
      have HRQ := Lib.hid hrq
      have hs2 : s ≤ 1000 := by omega
      clear hrq hs hle hqq HHD
      go_wp2_with fail
      go_round
      case rel => exact ⟨j + 1, s, by omega, by go_num, rfl, HRQ, hs2⟩
      case measure => simp [intOf]; omega
    · obtain rfl : j = P.length := by omega
      have hrr : r = q + totC P := by rw [HR.out, totC_all]
      have HRR := Lib.hid hrr
      clear hrr
      go_wp2_with fail
      go_ret
      exact ⟨by show Ending.returned _ = Ending.returned (.int .i64 ((q + totC P : Nat) : Int)); rw [← HRR.out]; rfl, rfl⟩

set_option maxHeartbeats 400000 in
theorem markCnil (q : Nat) (w : World) : Calls Try.prog 42 #[.slice none 0 0, .int .i64 q] w fun e w' => e = .returned (.int .i64 (q : Int)) ∧ w = w' := by
  go_enter Try.func42, Try.ntmps42
  go_wp2
  go_loop [1, 5] (fun t i => i = .int .i64 0 ∧ t = .int .i64 (q : Int)) (fun _ _ => 0)
  case atStart => exact ⟨rfl, rfl⟩
  case round =>
    obtain ⟨rfl, rfl⟩ := hrel
    go_wp2
    go_ret
    exact ⟨rfl, rfl⟩
/-- A DESK WHOSE ROWS LIE APART, or the zero value. -/
def ODk (lo hi : Nat) (W : World) (v : Value) (d : Dk) : Prop := OwnDk lo hi W v d ∨ (v = .agg #[.slice none 0 0, .slice none 0 0] ∧ d = ⟨[], []⟩)
theorem ODk.below {lo hi n : Nat} {W W' : World} {v : Value} {d : Dk} (h : ODk lo hi W v d) (hb : Below n W W') (hn : hi ≤ n) : ODk lo hi W' v d := h.imp (fun h => h.below hb hn) id
theorem ODk.touch {lo hi : Nat} {S : Nat → Prop} {W W' : World} {v : Value} {d : Dk} (h : ODk lo hi W v d) (ht : Touch S W W') (hS : ∀ B, S B → B < lo ∨ hi ≤ B) : ODk lo hi W' v d := h.imp (fun h => h.touch ht hS) id
theorem zero_read (W : World) : DeskR W.heap.size W (.agg #[.slice none 0 0, .slice none 0 0]) ⟨[], []⟩ := ⟨none, none, 0, 0, rfl, fun h => absurd rfl h, fun h => absurd rfl h⟩
theorem ODk.read {lo hi : Nat} {W : World} {v : Value} {d : Dk} (h : ODk lo hi W v d) : DeskR W.heap.size W v d := by
  rcases h with h | ⟨rfl, rfl⟩
  · exact h.read
  · exact zero_read W
def MarkedD (lo hi : Nat) (v : Value) (d : Dk) (q : Nat) (w : World) (e : Ending) (w' : World) : Prop := e = .returned (.int .i64 ((q + totD d : Nat) : Int)) ∧ ODk lo hi w' v (markDL q d) ∧ ∃ o, Touch (fun B => lo ≤ B ∧ B < hi) (w.alloc o) w'

set_option maxHeartbeats 1000000 in
theorem markDk_any (lo hi : Nat) (v : Value) (d : Dk) (q : Nat) (w : World) (hO : ODk lo hi w v d) (hhi : hi ≤ w.heap.size) (hF : FitK d) (hq : q + totD d ≤ 1200000000000) :
    Calls Try.prog 25 #[v, .int .i64 q] w (MarkedD lo hi v d q w) := by
  rcases hO with hO | ⟨rfl, rfl⟩
  · obtain ⟨aN, aP, n1, n2, p1, p2, rfl, hN, hP, h1, h2, h3⟩ := hO
    obtain ⟨b, F, ⟨rfl, _⟩, ho, hb, hFb, hFi⟩ := hN
    have hA : Below w.heap.size w (w.alloc (.cells #[.slice (some ⟨b, 0, none⟩) d.now.length d.now.length, .slice aP d.past.length d.past.length] 26)) := (Below.refl _ _).alloc (Nat.le_refl _) _
    have hX : (w.alloc (.cells #[.slice (some ⟨b, 0, none⟩) d.now.length d.now.length, .slice aP d.past.length d.past.length] 26)).heap[w.heap.size]? = some (.cells #[.slice (some ⟨b, 0, none⟩) d.now.length d.now.length, .slice aP d.past.length d.past.length] 26) := heap_alloc_new w _
    have ho2 := ho.below hA (by omega) (fun i hi => by have := hFb i hi; omega)
    have hP2 := hP.below hA (by omega)
    unfold totD at hq
    have hq1 : q ≤ 1200000000000 := by omega
    have HMK := Lib.hid (markSS_big b d.now.length q F d.now _ ho2 hF.1 hFi hq1)
    have HF := Lib.hid hF
    have HX := Lib.hid hX
    have HS := Lib.hid (And.intro hb (And.intro hFb (And.intro hFi (And.intro h1 (And.intro h2 h3)))))
    have HP2 := Lib.hid hP2
    have HQ := Lib.hid hq
    obtain ⟨c0, c1⟩ := (dk_cell hX).1
    clear ho ho2 hP hP2 hF hFi hA hX hq hb hFb h1 h2 h3
    go_enter Try.func25, Try.ntmps25
    go_wp2_with fail
    refine HMK.out.mono ?_
    rintro e w1 ⟨he, ho1, ht1⟩
    obtain ⟨hb, hFb, hFi, h1, h2, h3⟩ := HS.out
    have ht1' : Touch (fun B => n1 ≤ B ∧ B < n2) (w.alloc (.cells #[.slice (some ⟨b, 0, none⟩) d.now.length d.now.length, .slice aP d.past.length d.past.length] 26)) w1 := ht1.more fun B s => by obtain ⟨i, hi, rfl⟩ := s; exact hFb i hi
    obtain ⟨f0, f1⟩ := (dk_cell ((ht1'.block w.heap.size fun s => by omega).trans HX.out)).1
    have hP3 := HP2.out.touch ht1' fun B s => by omega
    obtain ⟨r, hr⟩ : ∃ r, r = q + tot d.now := ⟨_, rfl⟩
    have hqq := HQ.out
    rw [← hr] at he
    subst he
    have HMC := Lib.hid (markC_any p1 p2 aP d.past r w1 hP3 HF.out.2 (by omega))
    have HR := Lib.hid hr
    have HG1 : Hid (OwnG n1 n2 w1 (some ⟨b, 0, none⟩) d.now.length (markL q d.now)) := Lib.hid ⟨b, F, ⟨rfl, markL_len.symm⟩, ho1, hb, fun i hi => hFb i (by rw [markL_len] at hi; exact hi), hFi⟩
    have HT1 := Lib.hid ht1'
    clear ho1 ht1 ht1' hP3 hr hqq hb hFb hFi h1 h2 h3 c0 c1
    go_wp2_with fail
    refine HMC.out.mono ?_
    rintro e w2 ⟨he, hO2, ht2⟩
    obtain ⟨hb, hFb, hFi, h1, h2, h3⟩ := HS.out
    obtain ⟨s, hs⟩ : ∃ s, s = r + totC d.past := ⟨_, rfl⟩
    rw [← hs] at he
    subst he
    have hG2 := HG1.out.touch ht2 fun B s => by omega
    have hrr := HR.out
    have HFIN : Hid (s = q + totD d ∧ ODk lo hi w2 (.agg #[.slice (some ⟨b, 0, none⟩) d.now.length d.now.length, .slice aP d.past.length d.past.length]) (markDL q d) ∧ ∃ o, Touch (fun B => lo ≤ B ∧ B < hi) (w.alloc o) w2) := Lib.hid (by
      refine ⟨by unfold totD; omega, .inl ⟨some ⟨b, 0, none⟩, aP, n1, n2, p1, p2, ?_, ?_, ?_, h1, h2, h3⟩, _, (HT1.out.more fun B s => by omega).trans (ht2.more fun B s => by omega)⟩
      · show _ = Value.agg #[.slice _ (markL q d.now).length (markL q d.now).length, .slice _ (markCL (q + tot d.now) d.past).length (markCL (q + tot d.now) d.past).length]
        rw [markL_len, markCL_length]
      · show OwnG n1 n2 w2 _ (markL q d.now).length (markL q d.now)
        rw [markL_len]; exact hG2
      · show OwnC p1 p2 w2 _ (markCL (q + tot d.now) d.past).length (markCL (q + tot d.now) d.past)
        rw [markCL_length, ← hrr]; exact hO2)
    clear hO2 ht2 hG2 hs hrr hb hFb hFi h1 h2 h3 HMC HMK
    go_wp2_with fail
    go_ret
    exact ⟨by rw [← HFIN.out.1]; rfl, HFIN.out.2⟩
  · have HX : (w.alloc (.cells #[.slice none 0 0, .slice none 0 0] 26)).heap[w.heap.size]? = some (.cells #[.slice none 0 0, .slice none 0 0] 26) := heap_alloc_new w _
    obtain ⟨c0, c1⟩ := (dk_cell HX).1
    have hq1 : q ≤ 1200000000000 := by omega
    clear HX
    go_enter Try.func25, Try.ntmps25
    go_wp2_with fail
    refine (markNil q _).mono ?_
    rintro e w1 ⟨rfl, rfl⟩
    go_wp2_with fail
    refine (markCnil q _).mono ?_
    rintro e w1 ⟨rfl, rfl⟩
    go_wp2_with fail
    go_ret
    exact ⟨rfl, .inr ⟨rfl, rfl⟩, _, Touch.refl _ _⟩

set_option maxHeartbeats 1000000 in
theorem heldDk_any (v : Value) (d : Dk) (q n₀ : Nat) (w : World) (hR : DeskR n₀ w v (markDL q d)) (hn : n₀ ≤ w.heap.size) (hF : FitK d) (hq : q + totD d ≤ 1000) :
    Calls Try.prog 26 #[v, .int .i64 q] w fun e w' => e = .returned (.int .i64 ((q + totD d : Nat) : Int)) ∧ Below w.heap.size w w' := by
  obtain ⟨aN, aP, cN, cP, rfl, hM, hC⟩ := hR
  have hl1 : (markDL q d).now.length = d.now.length := markL_len
  have hl2 : (markDL q d).past.length = d.past.length := markCL_length _ _
  rw [hl1, hl2]
  have hA : Below w.heap.size w (w.alloc (.cells #[.slice aN d.now.length cN, .slice aP d.past.length cP] 26)) := (Below.refl _ _).alloc (Nat.le_refl _) _
  have hX : (w.alloc (.cells #[.slice aN d.now.length cN, .slice aP d.past.length cP] 26)).heap[w.heap.size]? = some (.cells #[.slice aN d.now.length cN, .slice aP d.past.length cP] 26) := heap_alloc_new w _
  obtain ⟨c0, c1⟩ := (dk_cell hX).1
  unfold totD at hq ⊢
  have HH := Lib.hid (heldSS_any aN cN q n₀ d.now _ (hM.below (hA.mono hn)) hF.1 (by omega))
  have HC := Lib.hid (heldC_any aP cP (q + tot d.now) n₀ d.past _ (hC.below (hA.mono hn)) hF.2 (by omega))
  have HA := Lib.hid hA
  obtain ⟨V, hV⟩ : ∃ V, w.alloc (.cells #[.slice aN d.now.length cN, .slice aP d.past.length cP] 26) = V := ⟨_, rfl⟩
  rw [hV] at HH HC HA c0 c1
  have HV := Lib.hid hV
  clear hF hA hX hV hM hC hl1 hl2
  go_enter Try.func26, Try.ntmps26
  go_wp2_with fail
  rw [HV.out]
  refine HH.out.mono ?_
  rintro e w1 ⟨rfl, rfl⟩
  go_wp2_with fail
  refine HC.out.mono ?_
  rintro e w1 ⟨rfl, rfl⟩
  go_wp2_with fail
  go_ret
  refine ⟨?_, HA.out⟩
  have h3 : ((q : Int) + (tot d.now : Int) + (totC d.past : Int)) = ((q + (tot d.now + totC d.past) : Nat) : Int) := by omega
  rw [← h3]
  rfl

end Go.Proofs.Ytofpjepndhpciaa

namespace Go.Proofs.Ytofpjepndhpciaa
open Go.RowKit Go.Shelf Go.Deep

/-- What DeskNew answers. -/
noncomputable def newD (G : List (List Int)) : Dk := if gOk G = true then ⟨G, []⟩ else ⟨[], []⟩
theorem newD_fit {G : List (List Int)} : FitK (newD G) ∧ totD (newD G) ≤ 81 := by
  unfold newD
  split
  · rename_i h
    have hg := good_of h
    refine ⟨⟨hg.fit, by simp [FitC]⟩, ?_⟩
    have h9 := hg.2.1
    show tot G + totC [] ≤ 81
    have ht : tot G ≤ 9 * G.length := tot_le9 fun xs hxs => by
      obtain ⟨i, hi⟩ := List.getElem?_of_mem hxs
      rw [hg.len hi]; exact h9
    simp only [totC, List.map_nil, List.sum_nil]
    omega
  · exact ⟨⟨by simp [Fit], by simp [FitC]⟩, by simp [totD, tot, totC]⟩
def NewD (G : List (List Int)) (yes : Bool) (w : World) (e : Ending) (w' : World) : Prop := ∃ v, (e = .returned (.tuple #[v, .bool yes]) ∧ Below w.heap.size w w') ∧ ODk w.heap.size w'.heap.size w' v (newD G)

set_option maxRecDepth 100000 in
set_option maxHeartbeats 4000000 in
theorem implNew (a : Option Addr) (c : Nat) (G : List (List Int)) (w : World) (hM : Mat w.heap.size w a G) (hF : Fit G) :
    Calls Try.prog 12 #[.slice a G.length c] w (NewD G (gOk G) w) := by
  have hx : (w.alloc (.cells #[.slice none 0 0, .slice none 0 0] 26)).heap[w.heap.size]? = some (.cells #[.slice none 0 0, .slice none 0 0] 26) := heap_alloc_new w _
  have hB0 : Below w.heap.size w (w.alloc (.cells #[.slice none 0 0, .slice none 0 0] 26)) := (Below.refl _ _).alloc (Nat.le_refl _) _
  have hM1 := (hM.below hB0).more hB0.size
  have HO := Lib.hid (implOk a c G _ hM1 hF)
  obtain ⟨V, hV⟩ : ∃ V, w.alloc (.cells #[.slice none 0 0, .slice none 0 0] 26) = V := ⟨_, rfl⟩
  rw [hV] at hx hB0 hM1 HO
  have HV := Lib.hid hV
  have HX := Lib.hid hx
  have HB0 := Lib.hid hB0
  clear hV hx hB0 hM
  by_cases hg : gOk G = true
  · rw [hg] at HO ⊢
    have HG := Lib.hid hg
    clear hg
    go_enter Try.func12, Try.ntmps12
    go_wp2_with fail
    rw [HV.out]
    refine HO.out.mono ?_
    rintro e w1 ⟨rfl, hB1⟩
    have hx1 := (hB1.block _ (Array.getElem?_eq_some_iff.1 HX.out).1).trans HX.out
    have hd : dokI ⟨G, []⟩ = true := dok_iff.2 ⟨fun g h => by simp at h, HG.out, Nat.zero_le _⟩
    have HC : Hid (Calls Try.prog 31 #[.agg #[.slice a G.length c, .slice none 0 0]] w1 (CopiedDk ⟨G, []⟩ w1)) :=
      Lib.hid (copied_any a c G none 0 [] w1.heap.size w1 ((hM1.below hB1).more hB1.size) (fun h => absurd rfl h) (Nat.le_refl _) hd)
    have HB1 := Lib.hid (HB0.out.trans (hB1.mono HB0.out.size))
    have HX1 := Lib.hid hx1
    have hwz : w.heap.size < w1.heap.size := (Array.getElem?_eq_some_iff.1 hx1).1
    clear hB1 hx1 hd hM1
    go_wp2_with fail
    refine HC.out.mono ?_
    rintro e w2 ⟨v, ⟨rfl, hB2⟩, hO⟩
    obtain ⟨aN, aP, n1, n2, p1, p2, rfl, h⟩ := id hO
    have hx2 := (hB2.block _ hwz).trans HX1.out
    have hx3 := dk_put hx2 0 (.slice aN G.length G.length)
    have hx4 := dk_put hx3 1 (.slice aP 0 0)
    obtain ⟨⟨s1, s3⟩, s2⟩ := dk_cell hx2
    obtain ⟨⟨t1, t3⟩, t2⟩ := dk_cell hx3
    obtain ⟨⟨r1, r3⟩, _⟩ := dk_cell hx4
    have hb := HB1.out.trans (hB2.mono HB1.out.size)
    have HB4 := Lib.hid ((hb.setCell (p := ⟨w.heap.size, 0, none⟩) (Nat.le_refl _) (.slice aN G.length G.length)).setCell (p := ⟨w.heap.size, 1, none⟩) (Nat.le_refl _) (.slice aP 0 0))
    have ht : Touch (fun B => B = w.heap.size) w2 ((w2.setCell ⟨w.heap.size, 0, none⟩ (.slice aN G.length G.length)).setCell ⟨w.heap.size, 1, none⟩ (.slice aP 0 0)) := (Touch.set (S := fun B => B = w.heap.size) w2 rfl 0 _).trans (Touch.set (S := fun B => B = w.heap.size) _ rfl 1 _)
    have hO4 := hO.touch ht (fun B e => by cases e; exact .inl hwz)
    have HO4 : Hid (ODk w.heap.size ((w2.setCell ⟨w.heap.size, 0, none⟩ (.slice aN G.length G.length)).setCell ⟨w.heap.size, 1, none⟩ (.slice aP 0 0)).heap.size ((w2.setCell ⟨w.heap.size, 0, none⟩ (.slice aN G.length G.length)).setCell ⟨w.heap.size, 1, none⟩ (.slice aP 0 0)) (.agg #[.slice aN G.length G.length, .slice aP 0 0]) (newD G)) := Lib.hid (.inl (by
      unfold newD
      rw [if_pos HG.out]
      exact hO4.wide (by omega) (by rw [ht.size]; exact Nat.le_refl _)))
    have s2b := s2 0
    have t2b := t2 1
    clear h hx2 hx3 hx4 hB2 hO hb s2 t2 hO4 ht HC
    go_wp2_with fail
    refine bodyPost_ret (v := .tuple #[.agg #[.slice aN G.length G.length, .slice aP 0 0], .bool true]) ?_ rfl ?_
    · simp [results, Try.f12, go_sem, r1, r3]
    · exact ⟨_, ⟨rfl, HB4.out⟩, HO4.out⟩
  · rw [show gOk G = false by simpa using hg] at HO ⊢
    have HG := Lib.hid hg
    clear hg
    go_enter Try.func12, Try.ntmps12
    go_wp2_with fail
    rw [HV.out]
    refine HO.out.mono ?_
    rintro e w1 ⟨rfl, hB1⟩
    have hx2 := (hB1.block _ (Array.getElem?_eq_some_iff.1 HX.out).1).trans HX.out
    have hx3 := dk_put hx2 0 (.slice none 0 0)
    have hx4 := dk_put hx3 1 (.slice none 0 0)
    obtain ⟨⟨s1, s3⟩, s2⟩ := dk_cell hx2
    obtain ⟨⟨t1, t3⟩, t2⟩ := dk_cell hx3
    obtain ⟨⟨r1, r3⟩, _⟩ := dk_cell hx4
    have hb := HB0.out.trans (hB1.mono HB0.out.size)
    have HB4 := Lib.hid ((hb.setCell (p := ⟨w.heap.size, 0, none⟩) (Nat.le_refl _) (.slice none 0 0)).setCell (p := ⟨w.heap.size, 1, none⟩) (Nat.le_refl _) (.slice none 0 0))
    have s2b := s2 0
    have t2b := t2 1
    clear hx2 hx3 hx4 hB1 hb s2 t2
    go_wp2_with fail
    refine bodyPost_ret (v := .tuple #[.agg #[.slice none 0 0, .slice none 0 0], .bool false]) ?_ rfl ?_
    · simp [results, Try.f12, go_sem, r1, r3]
    · exact ⟨_, ⟨rfl, HB4.out⟩, .inr ⟨rfl, by unfold newD; rw [if_neg HG.out]⟩⟩

/-- The model's answer, read. -/
def NewS (D : Dk) (yes : Bool) (w : World) (e : Ending) (w' : World) : Prop := ∃ (d1 d2 : Option Addr) (m1 e1 m2 e2 : Nat), (e = .returned (.tuple #[.agg #[.slice d1 m1 e1, .slice d2 m2 e2], .bool yes]) ∧ Below w.heap.size w w') ∧ DeskR w'.heap.size w' (.agg #[.slice d1 m1 e1, .slice d2 m2 e2]) D
theorem specNewS (a : Option Addr) (c : Nat) (G : List (List Int)) (n₀ : Nat) (w : World) (hM : Mat n₀ w a G) (hn : n₀ ≤ w.heap.size) (hF : Fit G) :
    Calls Try.prog 13 #[.slice a G.length c] w (NewS (newD G) (gOk G) w) := by
  refine (specNew a c G n₀ w hM hn hF).mono ?_
  intro e w' h
  unfold MadeNew at h
  unfold newD
  split at h
  · rename_i hg
    obtain ⟨a', c', ⟨rfl, hb⟩, hO⟩ := h
    rw [if_pos hg, hg]
    exact ⟨_, _, _, _, _, _, ⟨rfl, hb⟩, a', none, c', 0, rfl, hO.mat.mat, fun h => absurd rfl h⟩
  · rename_i hg
    rw [if_neg hg, show gOk G = false by simpa using hg]
    exact ⟨_, _, _, _, _, _, ⟨h.1, h.2⟩, zero_read w'⟩
theorem agg_of {n : Nat} {W : World} {v : Value} {d : Dk} (h : DeskR n W v d) : ∃ (d1 d2 : Option Addr) (m1 e1 m2 e2 : Nat), v = .agg #[.slice d1 m1 e1, .slice d2 m2 e2] := by
  obtain ⟨aN, aP, cN, cP, e, _⟩ := h
  exact ⟨_, _, _, _, _, _, e⟩
def NewI (D : Dk) (yes : Bool) (w : World) (e : Ending) (w' : World) : Prop := ∃ (d1 d2 : Option Addr) (m1 e1 m2 e2 : Nat), (e = .returned (.tuple #[.agg #[.slice d1 m1 e1, .slice d2 m2 e2], .bool yes]) ∧ Below w.heap.size w w') ∧ ODk w.heap.size w'.heap.size w' (.agg #[.slice d1 m1 e1, .slice d2 m2 e2]) D
theorem NewD.agg {G : List (List Int)} {yes : Bool} {w w' : World} {e : Ending} (h : NewD G yes w e w') : NewI (newD G) yes w e w' := by
  obtain ⟨v, ⟨rfl, hb⟩, hO⟩ := h
  obtain ⟨d1, d2, m1, e1, m2, e2, rfl⟩ := agg_of hO.read
  exact ⟨_, _, _, _, _, _, ⟨rfl, hb⟩, hO⟩


end Go.Proofs.Ytofpjepndhpciaa
