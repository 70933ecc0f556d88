/-
  impl.MapOk: a row tells nodes, and leads arrows to arrows.
-/
import Derived.Test.YtmohmecdhabapabL1
import Derived.Test.YtmohmecdhabapabE3
namespace Go.Proofs.Ytmohmecdhabapab
open Go.RowKit Go.Shelf Go.Deep

/-- A ROW TELLS a node below m' for each of m nodes. -/
def Tells (m m' : Nat) (f : List Int) : Prop := f.length = m ∧ ∀ (j : Nat) (y : Int), f[j]? = some y → 0 ≤ y ∧ y < m'
def tellsI (m m' : Nat) (f : List Int) : Bool := decide (f.length = m) && f.all fun y => decide (0 ≤ y ∧ y < (m' : Int))
theorem tells_iff (m m' : Nat) (f : List Int) : tellsI m m' f = true ↔ Tells m m' f := by
  unfold tellsI Tells
  simp only [Bool.and_eq_true, decide_eq_true_eq, List.all_eq_true]
  refine and_congr_right fun _ => ⟨fun h j y hy => h y (List.mem_of_getElem? hy), fun h y hy => ?_⟩
  obtain ⟨j, hj⟩ := List.getElem?_of_mem hy
  exact h j y hj
theorem tells_yes {m m' : Nat} {f : List Int} (h : Tells m m' f) : tellsI m m' f = true := (tells_iff m m' f).2 h
theorem tells_no {m m' : Nat} {f : List Int} (h : ¬ Tells m m' f) : tellsI m m' f = false := Bool.eq_false_iff.2 fun e => h ((tells_iff m m' f).1 e)
/-- A ROW LEADS each arrow to an arrow. -/
def leadsI (G H : List (List Int)) (f : List Int) : Bool := (AL G).all fun x => arw H (nd f x.1.1) (nd f x.2.1)
/-- A MAP. -/
def mapOkI (G H : List (List Int)) (f : List Int) : Bool := gOk G && gOk H && tellsI G.length H.length f && leadsI G H f
theorem mapOk_no1 {G H : List (List Int)} {f : List Int} (h : gOk G = false) : mapOkI G H f = false := by unfold mapOkI; rw [h]; rfl
theorem mapOk_no2 {G H : List (List Int)} {f : List Int} (h : gOk H = false) : mapOkI G H f = false := by unfold mapOkI; rw [h]; simp
theorem mapOk_no3 {G H : List (List Int)} {f : List Int} (h : tellsI G.length H.length f = false) : mapOkI G H f = false := by unfold mapOkI; rw [h]; simp
theorem mapOk_yes {G H : List (List Int)} {f : List Int} (h : gOk G = true) (h' : gOk H = true) (h'' : tellsI G.length H.length f = true) : mapOkI G H f = leadsI G H f := by unfold mapOkI; rw [h, h', h'']; rfl

theorem nodesP (a : Option Addr) (m c : Nat) (w : World) :
    Calls Try.prog 46 #[.agg #[.slice a m c]] w fun e w' => e = .returned (.int .i64 m) ∧ w' = w.alloc (.cells #[.slice a m c] 51) :=
  callsIn_wide.1 (nodes_in Fence.wide 0 (fun _ => trivial) rfl a m c w)

set_option maxRecDepth 100000 in
set_option maxHeartbeats 1000000 in
theorem tellsP (a a' a'' : Option Addr) (m m' c c' c'' n₀ : Nat) (f : List Int) (w : World) (hI : Ints n₀ w a'' f) (hn : n₀ ≤ w.heap.size) (hl : f.length ≤ 1048576) :
    Calls Try.prog 43 #[.agg #[.slice a m c], .agg #[.slice a' m' c'], .slice a'' f.length c''] w (Ans (.bool (tellsI m m' f)) w) := by
  obtain ⟨z, HZ⟩ : ∃ z, Hid (tellsI m m' f = z) := ⟨_, rfl⟩
  rw [HZ.out]
  have es : ∀ (W : World) (o : Obj), (W.alloc o).heap.size = W.heap.size + 1 := fun W o => by simp
  by_cases hfl : f.length = m
  · have HL := Lib.hid hfl
    have hne : ((f.length : Int) != (m : Int)) = false := by simp; omega
    clear hfl
    go_enter Try.func43, Try.ntmps43
    go_wp2_with fail
    refine (nodesP _ _ _ _).mono ?_
    rintro e w1 ⟨rfl, rfl⟩
    have bH := (Boxed.new (w.alloc (.cells #[.slice a m c] 51)) 51 (.slice a' m' c')).alloc (.cells #[.slice a m c] 51)
    have hB := ((((Below.refl w.heap.size w).alloc (Nat.le_refl _) (.cells #[.slice a m c] 51)).alloc (by simp) (.cells #[.slice a' m' c'] 51)).alloc (by simp; omega) (.cells #[.slice a m c] 51))
    rw [es] at bH
    obtain ⟨V, hV⟩ : ∃ V, ((w.alloc (.cells #[.slice a m c] 51)).alloc (.cells #[.slice a' m' c'] 51)).alloc (.cells #[.slice a m c] 51) = V := ⟨_, rfl⟩
    rw [hV] at bH hB ⊢
    clear hV
    go_wp2_with fail
    go_loopw [16] (fun i wr => ∃ k : Nat, k ≤ f.length ∧ i = .int .i64 k ∧ Boxed wr (w.heap.size + 1) 51 (.slice a' m' c') ∧ Below w.heap.size w wr ∧ Hid (∀ (j : Nat) (y : Int), j < k → f[j]? = some y → 0 ≤ y ∧ y < m')) (fun i _ => f.length - (intOf i).toNat)
    case atStart => exact ⟨0, Nat.zero_le _, rfl, bH, hB, fun j y h => absurd h (Nat.not_lt_zero _)⟩
    case round =>
      obtain ⟨k, hk, rfl, bH1, hB1, HR⟩ := hrel
      clear bH hB
      have cH := bH1.cell
      have hws := hB1.size
      by_cases hlt : k < f.length
      · obtain ⟨b, o, y, rfl, hb, hc0, HY⟩ := hI.at_ hlt
        have hc : wr.cell? ⟨b, o + k, none⟩ = some (.int .i64 y) := (hB1.cell (p := ⟨b, o + k, none⟩) (by show b < _; omega)).trans hc0
        clear hc0
        by_cases hy0 : y < 0
        · have HN : Hid (z = false) := Lib.hid (HZ.out.symm.trans (tells_no fun h => by have := (h.2 k y HY.out).1; omega))
          go_wp2_with fail
          go_ret
          exact ⟨ret_bool HN.out.symm, hB1⟩
        by_cases hy1 : (m' : Int) ≤ y
        · have HN : Hid (z = false) := Lib.hid (HZ.out.symm.trans (tells_no fun h => by have := (h.2 k y HY.out).2; omega))
          go_wp2_with fail
          refine (nodesP _ _ _ _).mono ?_
          rintro e w1 ⟨rfl, rfl⟩
          go_wp2_with fail
          go_ret
          exact ⟨ret_bool HN.out.symm, hB1.alloc hws _⟩
        go_wp2_with fail
        refine (nodesP _ _ _ _).mono ?_
        rintro e w1 ⟨rfl, rfl⟩
        go_wp2_with fail
        go_roundw
        case rel => exact ⟨k + 1, by omega, by go_num, bH1.alloc _, hB1.alloc hws _, fun j x hj hx => by
          by_cases e : j = k
          · subst e; rw [HY.out] at hx; cases hx; omega
          · exact HR.out j x (by omega) hx⟩
        case measure => simp [intOf]; omega
      · obtain rfl : k = f.length := by omega
        have HN : Hid (z = true) := Lib.hid (HZ.out.symm.trans (tells_yes ⟨HL.out, fun j y hy => HR.out j y (List.getElem?_eq_some_iff.1 hy).1 hy⟩))
        go_wp2_with fail
        go_ret
        exact ⟨ret_bool HN.out.symm, hB1⟩
  · have HN : Hid (z = false) := Lib.hid (HZ.out.symm.trans (tells_no fun h => hfl h.1))
    have hne : ((f.length : Int) != (m : Int)) = true := by simp; omega
    clear hfl
    go_enter Try.func43, Try.ntmps43
    go_wp2_with fail
    refine (nodesP _ _ _ _).mono ?_
    rintro e w1 ⟨rfl, rfl⟩
    go_wp2_with fail
    go_ret
    exact ⟨ret_bool HN.out.symm, ((((Below.refl w.heap.size w).alloc (Nat.le_refl _) (.cells #[.slice a m c] 51)).alloc (by simp) (.cells #[.slice a' m' c'] 51)).alloc (by simp; omega) (.cells #[.slice a m c] 51))⟩

/-- The node that a row tells. -/
theorem tells_at {m m' : Nat} {f : List Int} (h : Tells m m' f) {j : Nat} (hj : j < m) : ∃ p : Nat, f[j]? = some (p : Int) ∧ nd f j = p ∧ p < m' := by
  have hj' : j < f.length := by rw [h.1]; exact hj
  obtain ⟨h0, h1⟩ := h.2 j f[j] (List.getElem?_eq_getElem hj')
  refine ⟨f[j].toNat, ?_, nd_eq (List.getElem?_eq_getElem hj'), by omega⟩
  rw [List.getElem?_eq_getElem hj', Int.toNat_of_nonneg h0]

end Go.Proofs.Ytmohmecdhabapab
