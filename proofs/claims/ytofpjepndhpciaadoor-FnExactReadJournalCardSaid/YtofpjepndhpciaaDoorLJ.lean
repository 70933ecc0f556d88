/-
  The laws' marks on deeds: set, and found again.
-/
import Derived.Test.YtofpjepndhpciaaDoorLI
namespace Go.Proofs.YtofpjepndhpciaaDoor
open Go.RowKit Go.Shelf Go.Deep

/-- THE BLOCK g BEGINS WITH THE m INTEGERS f. -/
def RowC (W : World) (g m : Nat) (f : Nat → Int) : Prop := ∃ c : Array Value, W.heap[g]? = some (.cells c 24 (0, 0)) ∧ ∀ i, i < m → c[i]? = some (.int .i64 (f i))
theorem RowC.cell {W : World} {g m : Nat} {f : Nat → Int} (h : RowC W g m f) {i : Nat} (hi : i < m) : W.cell? ⟨g, i, none⟩ = some (.int .i64 (f i)) := by
  obtain ⟨c, hb, hc⟩ := h
  simp [World.cell?, hb, hc i hi]
theorem RowC.frozen {W : World} {g m : Nat} {f : Nat → Int} (h : RowC W g m f) (i : Nat) : W.frozen? ⟨g, i, none⟩ = false := by
  obtain ⟨c, hb, _⟩ := h
  simp [World.frozen?, hb]
theorem RowC.lt {W : World} {g m : Nat} {f : Nat → Int} (h : RowC W g m f) : g < W.heap.size := by
  obtain ⟨c, hb, _⟩ := h
  exact (Array.getElem?_eq_some_iff.1 hb).1
theorem RowC.of_block {W W' : World} {g m : Nat} {f : Nat → Int} (h : RowC W g m f) (e : W'.heap[g]? = W.heap[g]?) : RowC W' g m f := by
  obtain ⟨c, hb, hc⟩ := h
  exact ⟨c, e.trans hb, hc⟩
theorem RowC.congr {W : World} {g m : Nat} {f f' : Nat → Int} (h : RowC W g m f) (e : ∀ i, i < m → f i = f' i) : RowC W g m f' := by
  obtain ⟨c, hb, hc⟩ := h
  exact ⟨c, hb, fun i hi => by rw [hc i hi, e i hi]⟩
theorem RowC.set {W : World} {g m : Nat} {f : Nat → Int} (h : RowC W g m f) (i : Nat) (z : Int) : RowC (W.setCell ⟨g, i, none⟩ (.int .i64 z)) g m (fun j => if j = i then z else f j) := by
  obtain ⟨c, hb, hc⟩ := h
  refine ⟨c.setIfInBounds i (.int .i64 z), ?_, fun j hj => ?_⟩
  · simp [World.setCell, Array.getElem?_modify, hb]
  · rw [Array.getElem?_setIfInBounds]
    have hj2 : j < c.size := (Array.getElem?_eq_some_iff.1 (hc j hj)).1
    by_cases e : j = i
    · subst e
      simp [hj2]
    · rw [if_neg (fun h => e h.symm)]
      show c[j]? = some (.int .i64 (if j = i then z else f j))
      rw [if_neg e]
      exact hc j hj
theorem ddC_int : ∀ {l : List Dd} {v : Value}, v ∈ ddC l → ∃ z : Int, v = .int .i64 z := fun {l v} h => by
  unfold ddC at h
  obtain ⟨d, _, hd⟩ := List.mem_flatMap.1 h
  simp only [List.mem_cons, List.not_mem_nil, or_false] at hd
  rcases hd with rfl | rfl | rfl
  · exact ⟨_, rfl⟩
  · exact ⟨_, rfl⟩
  · exact ⟨_, rfl⟩
/-- THE MARKS ARE THERE. -/
def HeldD (W : World) (a : Option Addr) (n : Nat) (K : Int) : Prop := n = 0 ∨ ∃ g, a = some ⟨g, 0, none⟩ ∧ RowC W g (n * 3) (fun j => K + (j : Int))
theorem HeldD.below {W W' : World} {a : Option Addr} {n : Nat} {K : Int} (h : HeldD W a n K) (hB : Below W.heap.size W W') : HeldD W' a n K := by
  rcases h with h | ⟨g, h1, h2⟩
  · exact .inl h
  · exact .inr ⟨g, h1, h2.of_block (hB.block g h2.lt)⟩
theorem OwnD.row {base : Nat} {W : World} {a : Option Addr} {c : Nat} {l : List Dd} (h : OwnD base W (.slice a l.length c) l) : l.length = 0 ∨ ∃ g f, a = some ⟨g, 0, none⟩ ∧ base ≤ g ∧ RowC W g (l.length * 3) f := by
  rcases h.2 with ⟨e, h0⟩ | ⟨g, cap, cur, e, hb, hg, h1, h2, h3, h4⟩
  · exact .inl h0
  · cases e
    refine .inr ⟨g, fun j => match cur[j]? with | some (.int .i64 z) => z | _ => 0, rfl, hb, cur, hg, fun i hi => ?_⟩
    have hic : i < cur.size := by rw [h3]; have := Nat.mul_le_mul_right 3 h1; omega
    have hin : cur.toList[i]? = some cur[i] := by simp [hic]
    have hm : cur[i] ∈ ddC l := by
      rw [← h4]
      refine List.mem_of_getElem? (i := i) ?_
      rw [List.getElem?_take, if_pos hi, hin]
    obtain ⟨z, hz⟩ := ddC_int hm
    simp only [Array.getElem?_eq_getElem hic, hz]
theorem wrapK (z : Int) (h0 : 0 ≤ z) (h1 : z ≤ 100000000) : IntKind.i64.wrap z = z := by simp [IntKind.wrap, IntKind.bits, IntKind.signed]; omega

set_option maxRecDepth 100000 in
set_option maxHeartbeats 4000000 in
theorem markRow_any (g c n : Nat) (f : Nat → Int) (K : Int) (w : World) (h : RowC w g (n * 3) f) (hn : n ≤ 2097152) (hK0 : 0 ≤ K) (hK1 : K ≤ 10) :
    Calls Tryd.prog 28 #[.slice (some ⟨g, 0, none⟩) n c, .int .i64 K] w fun e w' => e = .returned (.int .i64 (K + ((n * 3 : Nat) : Int))) ∧ RowC w' g (n * 3) (fun j => K + (j : Int)) ∧ w.grownBy w' (some g) ∧ w'.heap.size = w.heap.size := by
  have h0 : RowC w g (n * 3) (fun j => if j < 0 * 3 then K + (j : Int) else f j) := h.congr fun i _ => by rw [if_neg (by omega)]
  go_enter Tryd.func28, Tryd.ntmps28
  go_wp2_with fail
  go_loopw [1, 5] (fun v i wr => ∃ (k m : Nat), k ≤ n ∧ Hid (m = k * 3) ∧ i = .int .i64 k ∧ v = .int .i64 (K + (m : Int)) ∧ Hid (RowC wr g (n * 3) (fun j => if j < k * 3 then K + (j : Int) else f j)) ∧ Hid (w.grownBy wr (some g) ∧ wr.heap.size = w.heap.size)) (fun _ i _ => n - (intOf i).toNat)
  case atStart => exact ⟨0, 0, Nat.zero_le _, rfl, rfl, by simp, Lib.hid h0, Lib.hid ⟨⟨rfl, rfl, rfl, Nat.le_refl _, fun _ _ _ => rfl⟩, rfl⟩⟩
  case round =>
    obtain ⟨k, m, hk, HM, rfl, rfl, HR, HG⟩ := hrel
    by_cases hlt : k < n
    · have hkl : (k : Int) < (n : Int) := by omega
      have hm3 : m = k * 3 := HM.out
      have hw1 : IntKind.i64.wrap (K + (m : Int) + 1) = K + (m : Int) + 1 := wrapK _ (by omega) (by omega)
      have hw2 : IntKind.i64.wrap (K + (m : Int) + 1 + 1) = K + (m : Int) + 1 + 1 := wrapK _ (by omega) (by omega)
      have hw3 : IntKind.i64.wrap (K + (m : Int) + 1 + 1 + 1) = K + (m : Int) + 1 + 1 + 1 := wrapK _ (by omega) (by omega)
      have r1 := HR.out.set (k * 3) (K + (m : Int))
      have r2 := r1.set (k * 3 + 1) (K + (m : Int) + 1)
      have r3 := r2.set (k * 3 + 2) (K + (m : Int) + 1 + 1)
      have s1 := HR.out.cell (i := k * 3) (by omega)
      have s2 := HR.out.frozen (k * 3)
      have s3 := r1.cell (i := k * 3 + 1) (by omega)
      have s4 := r1.frozen (k * 3 + 1)
      have s5 := r2.cell (i := k * 3 + 2) (by omega)
      have s6 := r2.frozen (k * 3 + 2)
      have HR3 : Hid (RowC (((wr.setCell ⟨g, k * 3, none⟩ (.int .i64 (K + (m : Int)))).setCell ⟨g, k * 3 + 1, none⟩ (.int .i64 (K + (m : Int) + 1))).setCell ⟨g, k * 3 + 2, none⟩ (.int .i64 (K + (m : Int) + 1 + 1))) g (n * 3) (fun j => if j < (k + 1) * 3 then K + (j : Int) else f j)) := Lib.hid (r3.congr fun j _ => by
        by_cases j2 : j = k * 3 + 2
        · rw [if_pos j2, if_pos (by omega)]; omega
        · rw [if_neg j2]
          by_cases j1 : j = k * 3 + 1
          · rw [if_pos j1, if_pos (by omega)]; omega
          · rw [if_neg j1]
            by_cases j0 : j = k * 3
            · rw [if_pos j0, if_pos (by omega)]; omega
            · rw [if_neg j0]
              by_cases jl : j < k * 3
              · rw [if_pos jl, if_pos (by omega)]
              · rw [if_neg jl, if_neg (by omega)])
      have gs : ∀ (V : World) (i : Nat) (v : Value), w.grownBy V (some g) ∧ V.heap.size = w.heap.size → w.grownBy (V.setCell ⟨g, i, none⟩ v) (some g) ∧ (V.setCell ⟨g, i, none⟩ v).heap.size = w.heap.size := fun V i v hV => by
        have hx := grownBy_setX V g i v
        refine ⟨⟨hx.os.trans hV.1.os, hx.tape.trans hV.1.tape, hx.output.trans hV.1.output, Nat.le_trans hV.1.size hx.size, fun b hb hne => (hx.block b (by rw [hV.2]; exact hb) hne).trans (hV.1.block b hb hne)⟩, ?_⟩
        simpa using hV.2
      have HG3 := Lib.hid (gs _ (k * 3 + 2) (.int .i64 (K + (m : Int) + 1 + 1)) (gs _ (k * 3 + 1) (.int .i64 (K + (m : Int) + 1)) (gs wr (k * 3) (.int .i64 (K + (m : Int))) HG.out)))
      clear r1 r2 r3 gs hm3 HR HG
      go_wp2_with fail
      go_roundw
      case rel => exact ⟨k + 1, m + 3, by omega, Lib.hid (by have := HM.out; omega), by go_num, by simp; omega, HR3, HG3⟩
      case measure => simp [intOf]; omega
    · have hkl : ¬ (k : Int) < (n : Int) := by omega
      go_wp2_with fail
      go_ret
      have hkn : k = n := by omega
      subst hkn
      exact ⟨by rw [HM.out]; rfl, HR.out.congr fun i hi => by rw [if_pos hi], HG.out.1, HG.out.2⟩

set_option maxRecDepth 100000 in
set_option maxHeartbeats 4000000 in
theorem heldRow_any (g c n : Nat) (K : Int) (w : World) (h : RowC w g (n * 3) (fun j => K + (j : Int))) (hn : n ≤ 2097152) (hK0 : 0 ≤ K) (hK1 : K ≤ 10) :
    Calls Tryd.prog 29 #[.slice (some ⟨g, 0, none⟩) n c, .int .i64 K] w fun e w' => e = .returned (.int .i64 (K + ((n * 3 : Nat) : Int))) ∧ w' = w := by
  go_enter Tryd.func29, Tryd.ntmps29
  go_wp2_with fail
  go_loopw [1, 5] (fun v i wr => ∃ (k m : Nat), k ≤ n ∧ Hid (m = k * 3) ∧ i = .int .i64 k ∧ v = .int .i64 (K + (m : Int)) ∧ wr = w) (fun _ i _ => n - (intOf i).toNat)
  case atStart => exact ⟨0, 0, Nat.zero_le _, rfl, rfl, by simp, rfl⟩
  case round =>
    obtain ⟨k, m, hk, HM, rfl, rfl, rfl⟩ := hrel
    by_cases hlt : k < n
    · have hkl : (k : Int) < (n : Int) := by omega
      have hm3 : m = k * 3 := HM.out
      have hw1 : IntKind.i64.wrap (K + (m : Int) + 1) = K + (m : Int) + 1 := wrapK _ (by omega) (by omega)
      have hw2 : IntKind.i64.wrap (K + (m : Int) + 1 + 1) = K + (m : Int) + 1 + 1 := wrapK _ (by omega) (by omega)
      have hw3 : IntKind.i64.wrap (K + (m : Int) + 1 + 1 + 1) = K + (m : Int) + 1 + 1 + 1 := wrapK _ (by omega) (by omega)
      have s1 : wr.cell? ⟨g, k * 3, none⟩ = some (.int .i64 (K + (m : Int))) := (h.cell (i := k * 3) (by omega)).trans (by show some (Value.int .i64 (K + ((k * 3 : Nat) : Int))) = _; rw [hm3])
      have s3 : wr.cell? ⟨g, k * 3 + 1, none⟩ = some (.int .i64 (K + (m : Int) + 1)) := (h.cell (i := k * 3 + 1) (by omega)).trans (by show some (Value.int .i64 (K + ((k * 3 + 1 : Nat) : Int))) = _; rw [show K + ((k * 3 + 1 : Nat) : Int) = K + (m : Int) + 1 by omega])
      have s5 : wr.cell? ⟨g, k * 3 + 2, none⟩ = some (.int .i64 (K + (m : Int) + 1 + 1)) := (h.cell (i := k * 3 + 2) (by omega)).trans (by show some (Value.int .i64 (K + ((k * 3 + 2 : Nat) : Int))) = _; rw [show K + ((k * 3 + 2 : Nat) : Int) = K + (m : Int) + 1 + 1 by omega])
      have n1 : ∀ z : Int, (z != z) = false := fun z => bne_self_eq_false z
      clear hm3
      go_wp2_with fail
      go_roundw
      case rel => exact ⟨k + 1, m + 3, by omega, Lib.hid (by have := HM.out; omega), by go_num, by simp; omega, trivial⟩
      case measure => simp [intOf]; omega
    · have hkl : ¬ (k : Int) < (n : Int) := by omega
      go_wp2_with fail
      go_ret
      have hkn : k = n := by omega
      subst hkn
      exact ⟨by rw [HM.out]; rfl, rfl⟩
theorem markNil_any (a : Option Addr) (c : Nat) (K : Int) (w : World) : Calls Tryd.prog 28 #[.slice a 0 c, .int .i64 K] w fun e w' => e = .returned (.int .i64 K) ∧ w' = w := by
  go_enter Tryd.func28, Tryd.ntmps28
  go_wp2_with fail
  go_loopw [1, 5] (fun v i wr => i = .int .i64 0 ∧ v = .int .i64 K ∧ wr = w) (fun _ _ _ => 0)
  case atStart => exact ⟨rfl, rfl, rfl⟩
  case round =>
    obtain ⟨rfl, rfl, rfl⟩ := hrel
    go_wp2_with fail
    go_ret
    exact ⟨rfl, rfl⟩
theorem heldNil_any (a : Option Addr) (c : Nat) (K : Int) (w : World) : Calls Tryd.prog 29 #[.slice a 0 c, .int .i64 K] w fun e w' => e = .returned (.int .i64 K) ∧ w' = w := by
  go_enter Tryd.func29, Tryd.ntmps29
  go_wp2_with fail
  go_loopw [1, 5] (fun v i wr => i = .int .i64 0 ∧ v = .int .i64 K ∧ wr = w) (fun _ _ _ => 0)
  case atStart => exact ⟨rfl, rfl, rfl⟩
  case round =>
    obtain ⟨rfl, rfl, rfl⟩ := hrel
    go_wp2_with fail
    go_ret
    exact ⟨rfl, rfl⟩
/-- DEEDS OF ONE's OWN ARE MARKED. -/
theorem markDs_any (n₀ : Nat) (a : Option Addr) (c : Nat) (l : List Dd) (K : Int) (w : World) (h : OwnD n₀ w (.slice a l.length c) l) (hl : l.length ≤ 2097152) (hK0 : 0 ≤ K) (hK1 : K ≤ 10) :
    Calls Tryd.prog 28 #[.slice a l.length c, .int .i64 K] w fun e w' => e = .returned (.int .i64 (K + ((l.length * 3 : Nat) : Int))) ∧ HeldD w' a l.length K ∧ Below n₀ w w' ∧ w'.heap.size = w.heap.size := by
  rcases h.row with h0 | ⟨g, f, rfl, hg, hr⟩
  · rw [h0]
    refine (markNil_any a c K w).mono fun e w' he => ?_
    obtain ⟨rfl, rfl⟩ := he
    exact ⟨by simp, .inl rfl, ⟨rfl, rfl, rfl, Nat.le_refl _, fun _ _ => rfl⟩, rfl⟩
  · refine (markRow_any g c l.length f K w hr hl hK0 hK1).mono fun e w' he => ?_
    obtain ⟨rfl, h1, h2, h3⟩ := he
    exact ⟨rfl, .inr ⟨g, rfl, h1⟩, ⟨h2.os, h2.tape, h2.output, h2.size, fun b hb => by
      by_cases hbs : b < w.heap.size
      · exact h2.block b hbs (fun e => by have := Option.some.inj e; omega)
      · rw [Array.getElem?_eq_none (by omega), Array.getElem?_eq_none (by omega)]⟩, h3⟩
theorem heldDs_any (a : Option Addr) (c n : Nat) (K : Int) (w : World) (h : HeldD w a n K) (hn : n ≤ 2097152) (hK0 : 0 ≤ K) (hK1 : K ≤ 10) :
    Calls Tryd.prog 29 #[.slice a n c, .int .i64 K] w fun e w' => e = .returned (.int .i64 (K + ((n * 3 : Nat) : Int))) ∧ w' = w := by
  rcases h with rfl | ⟨g, rfl, hr⟩
  · refine (heldNil_any a c K w).mono fun e w' he => ?_
    obtain ⟨rfl, rfl⟩ := he
    exact ⟨by simp, rfl⟩
  · exact heldRow_any g c n K w hr hn hK0 hK1

end Go.Proofs.YtofpjepndhpciaaDoor
