/-
  Desks compared.
-/
import Derived.Test.YtofpjepndhpciaaLS
import Derived.Test.YtofpjepndhpciaaZB
namespace Go.Proofs.Ytofpjepndhpciaa
open Go.RowKit Go.Shelf Go.Deep

def FitK (d : Dk) : Prop := Fit d.now ∧ FitC d.past
theorem FitC.at_ {P : List (List (List Int))} (h : FitC P) {k : Nat} {G : List (List Int)} (hG : P[k]? = some G) : Fit G := h.2 G (List.mem_of_getElem? hG)

set_option maxHeartbeats 400000 in
theorem eqC_same (a a' : Option Addr) (c c' : Nat) (P : List (List (List Int))) (n₀ : Nat) (w : World) (hM : Cube n₀ w a P) (hM' : Cube n₀ w a' P) (hF : FitC P) :
    Calls Try.prog 37 #[.slice a P.length c, .slice a' P.length c'] w (Ans (.bool true) w) := by
  have HF := Lib.hid hF
  have hl := hF.1
  clear hF
  go_enter Try.func37, Try.ntmps37
  go_wp2
  go_loopw [5] (fun i wr => ∃ (k n : Nat), k ≤ P.length ∧ i = .int .i64 k ∧ wr = w.drewN n) (fun i _ => P.length - (intOf i).toNat)
  case atStart => exact ⟨0, 0, Nat.zero_le _, rfl, rfl⟩
  case round =>
    obtain ⟨k, n, hk, rfl, rfl⟩ := hrel
    by_cases hlt : k < P.length
    · obtain ⟨b, o, G, aG, cG, rfl, hb, HG, hc, hMG⟩ := hM.at_ hlt
      obtain ⟨b', o', G', aG', cG', rfl, hb', HG', hc', hMG'⟩ := hM'.at_ hlt
      obtain rfl : G = G' := Option.some.inj (HG.out.symm.trans HG'.out)
      have hx1 := HF.out.at_ HG.out
      go_wp2
      go_quiet ((go_at_call 23; exact Calls_quiet_add (eqSS_same aG aG' cG cG' G n₀ _ (hMG.drewN _) (hMG'.drewN _) hx1)))
      go_wp2
      go_roundw
      case rel => exact ⟨k + 1, _, by omega, by go_num, rfl⟩
      case measure => simp [intOf]; omega
    · obtain rfl : k = P.length := by omega
      go_wp2
      go_ret
      exact ⟨rfl, below_drewN (Below.refl _ _) n⟩

theorem boxed2 (w : World) (x y u v : Value) : Below w.heap.size w ((w.alloc (.cells #[x, y] 26)).alloc (.cells #[u, v] 26)) ∧
    ((w.alloc (.cells #[x, y] 26)).alloc (.cells #[u, v] 26)).heap[w.heap.size]? = some (.cells #[x, y] 26) ∧ ((w.alloc (.cells #[x, y] 26)).alloc (.cells #[u, v] 26)).heap[w.heap.size + 1]? = some (.cells #[u, v] 26) := by
  have es : ∀ (W : World) (o : Obj), (W.alloc o).heap.size = W.heap.size + 1 := fun W o => by simp
  have hA1 : Below w.heap.size w (w.alloc (.cells #[x, y] 26)) := (Below.refl _ _).alloc (Nat.le_refl _) _
  have hX1 : (w.alloc (.cells #[x, y] 26)).heap[w.heap.size]? = some (.cells #[x, y] 26) := heap_alloc_new w _
  refine ⟨hA1.alloc hA1.size _, (((Below.refl _ _).alloc (Nat.le_refl _) _).block _ (Array.getElem?_eq_some_iff.1 hX1).1).trans hX1, ?_⟩
  have h := heap_alloc_new (w.alloc (.cells #[x, y] 26)) (.cells #[u, v] 26)
  rw [es] at h
  exact h

set_option maxHeartbeats 1000000 in
theorem eqDk_same (v v' : Value) (d : Dk) (n₀ : Nat) (w : World) (h : DeskR n₀ w v d) (h' : DeskR n₀ w v' d) (hn : n₀ ≤ w.heap.size) (hF : FitK d) :
    Calls Try.prog 20 #[v, v'] w (Ans (.bool true) w) := by
  obtain ⟨aN, aP, cN, cP, rfl, hM, hC⟩ := h
  obtain ⟨aN', aP', cN', cP', rfl, hM', hC'⟩ := h'
  obtain ⟨hA, hX, hY⟩ := boxed2 w (.slice aN d.now.length cN) (.slice aP d.past.length cP) (.slice aN' d.now.length cN') (.slice aP' d.past.length cP')
  have hM2 := hM.below (hA.mono hn)
  have hM2' := hM'.below (hA.mono hn)
  have hC2 := hC.below (hA.mono hn)
  have hC2' := hC'.below (hA.mono hn)
  have HF := Lib.hid hF
  have HA := Lib.hid hA
  have HX := Lib.hid hX
  have HY := Lib.hid hY
  obtain ⟨⟨c0, c1⟩, _⟩ := dk_cell hX
  obtain ⟨⟨e0, e1⟩, _⟩ := dk_cell hY
  clear hM hM' hC hC' hF hA hX hY
  go_enter Try.func20, Try.ntmps20
  go_wp2_with fail
  refine (eqSS_same aN aN' cN cN' d.now n₀ _ hM2 hM2' HF.out.1).mono ?_
  rintro e w1 h1
  obtain ⟨rfl, hB1⟩ := h1.below
  clear h1
  obtain ⟨⟨f0, f1⟩, _⟩ := dk_cell ((hB1.block _ (Array.getElem?_eq_some_iff.1 HX.out).1).trans HX.out)
  obtain ⟨⟨g0, g1⟩, _⟩ := dk_cell ((hB1.block _ (Array.getElem?_eq_some_iff.1 HY.out).1).trans HY.out)
  have hC3 := hC2.below (hB1.mono (Nat.le_trans hn HA.out.size))
  have hC3' := hC2'.below (hB1.mono (Nat.le_trans hn HA.out.size))
  have HB := Lib.hid (HA.out.trans (hB1.mono HA.out.size))
  clear hB1 hM2 hM2' hC2 hC2' c0 c1 e0 e1
  go_wp2_with fail
  refine (eqC_same aP aP' cP cP' d.past n₀ w1 hC3 hC3' HF.out.2).mono ?_
  rintro e w2 ⟨rfl, hB2⟩
  have HB2 := Lib.hid (HB.out.trans (hB2.mono HB.out.size))
  clear hB2
  go_wp2_with fail
  go_ret
  exact ⟨rfl, HB2.out⟩

set_option maxHeartbeats 1000000 in
theorem sameDk_same (v v' : Value) (d : Dk) (n₀ : Nat) (w : World) (h : DeskR n₀ w v d) (h' : DeskR n₀ w v' d) (hn : n₀ ≤ w.heap.size) (hF : FitK d) :
    Calls Try.prog 14 #[v, v'] w (Ans (.bool true) w) := by
  obtain ⟨aN, aP, cN, cP, rfl, hM, hC⟩ := h
  obtain ⟨aN', aP', cN', cP', rfl, hM', hC'⟩ := h'
  obtain ⟨hA, hX, hY⟩ := boxed2 w (.slice aN d.now.length cN) (.slice aP d.past.length cP) (.slice aN' d.now.length cN') (.slice aP' d.past.length cP')
  have hM2 := hM.below (hA.mono hn)
  have hM2' := hM'.below (hA.mono hn)
  have hC2 := hC.below (hA.mono hn)
  have hC2' := hC'.below (hA.mono hn)
  have HF := Lib.hid hF
  have HA := Lib.hid hA
  have hpl := hF.2.1
  obtain ⟨⟨c0, c1⟩, _⟩ := dk_cell hX
  obtain ⟨⟨e0, e1⟩, _⟩ := dk_cell hY
  clear hM hM' hC hC' hF hA hX hY
  obtain ⟨V, hV⟩ : ∃ V, (w.alloc (.cells #[.slice aN d.now.length cN, .slice aP d.past.length cP] 26)).alloc (.cells #[.slice aN' d.now.length cN', .slice aP' d.past.length cP'] 26) = V := ⟨_, rfl⟩
  rw [hV] at hM2 hM2' hC2 hC2' HA c0 c1 e0 e1
  have HV := Lib.hid hV
  have c1V := c1
  have e1V := e1
  rw [← hV] at c1V e1V
  clear hV
  go_enter Try.func14, Try.ntmps14
  go_wp2_with fail
  clear c1V e1V
  rw [HV.out]
  go_loopw [5] (fun i wr => ∃ (k n : Nat), k ≤ d.past.length ∧ i = .int .i64 k ∧ wr = V.drewN n) (fun i _ => d.past.length - (intOf i).toNat)
  case atStart => exact ⟨0, 0, Nat.zero_le _, rfl, rfl⟩
  case round =>
    obtain ⟨k, n, hk, rfl, rfl⟩ := hrel
    by_cases hlt : k < d.past.length
    · obtain ⟨b, o, G, aG, cG, rfl, hb, HG, hc, hMG⟩ := hC2.at_ hlt
      obtain ⟨b', o', G', aG', cG', rfl, hb', HG', hc', hMG'⟩ := hC2'.at_ hlt
      obtain rfl : G = G' := Option.some.inj (HG.out.symm.trans HG'.out)
      have hx1 := HF.out.2.at_ HG.out
      go_wp2_with fail
      go_quiet ((go_at_call 17; exact Calls_quiet_add (sameSS_same aG aG' cG cG' G n₀ _ (hMG.drewN _) (hMG'.drewN _) hx1)))
      go_wp2_with fail
      go_roundw
      case rel => exact ⟨k + 1, _, by omega, by go_num, rfl⟩
      case measure => simp [intOf]; omega
    · obtain rfl : k = d.past.length := by omega
      have hm1 := hM2.drewN n
      have hm1' := hM2'.drewN n
      go_wp2_with fail
      refine (sameSS_same aN aN' cN cN' d.now n₀ _ hm1 hm1' HF.out.1).mono ?_
      rintro e w1 h1
      obtain ⟨rfl, hB1⟩ := h1.below
      clear h1
      have hB0 := below_drewN HA.out n
      have HB2 := Lib.hid (hB0.trans (hB1.mono hB0.size))
      clear hB0 hB1
      go_wp2_with fail
      go_ret
      exact ⟨rfl, HB2.out⟩

end Go.Proofs.Ytofpjepndhpciaa
