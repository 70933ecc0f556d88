/-
  Several texts in one.
  impl.MapOk: a row tells nodes, and leads arrows to arrows.
  The model's MapOk.
-/
import Derived.Test.YtofpjepndhpciaaDoorL1
import Derived.Test.YtofpjepndhpciaaDoorZE
import Derived.BigQuiet
namespace Go.Proofs.YtofpjepndhpciaaDoor
open Go.RowKit Go.Shelf Go.Deep

/-- A ROW TELLS a node below m' for each of m nodes. -/
def Tells (m m' : Nat) (f : List Int) : Prop := f.length = m ∧ ∀ (j : Nat) (y : Int), f[j]? = some y → 0 ≤ y ∧ y < m'
def tellsI (m m' : Nat) (f : List Int) : Bool := decide (f.length = m) && f.all fun y => decide (0 ≤ y ∧ y < (m' : Int))
theorem tells_iff (m m' : Nat) (f : List Int) : tellsI m m' f = true ↔ Tells m m' f := by
  unfold tellsI Tells
  simp only [Bool.and_eq_true, decide_eq_true_eq, List.all_eq_true]
  refine and_congr_right fun _ => ⟨fun h j y hy => h y (List.mem_of_getElem? hy), fun h y hy => ?_⟩
  obtain ⟨j, hj⟩ := List.getElem?_of_mem hy
  exact h j y hj
theorem tells_yes {m m' : Nat} {f : List Int} (h : Tells m m' f) : tellsI m m' f = true := (tells_iff m m' f).2 h
theorem tells_no {m m' : Nat} {f : List Int} (h : ¬ Tells m m' f) : tellsI m m' f = false := Bool.eq_false_iff.2 fun e => h ((tells_iff m m' f).1 e)
/-- A ROW LEADS each arrow to an arrow. -/
def leadsI (G H : List (List Int)) (f : List Int) : Bool := (AL G).all fun x => arw H (nd f x.1.1) (nd f x.2.1)
/-- A MAP. -/
def mapOkI (G H : List (List Int)) (f : List Int) : Bool := gOk G && gOk H && tellsI G.length H.length f && leadsI G H f
theorem mapOk_no1 {G H : List (List Int)} {f : List Int} (h : gOk G = false) : mapOkI G H f = false := by unfold mapOkI; rw [h]; rfl
theorem mapOk_no2 {G H : List (List Int)} {f : List Int} (h : gOk H = false) : mapOkI G H f = false := by unfold mapOkI; rw [h]; simp
theorem mapOk_no3 {G H : List (List Int)} {f : List Int} (h : tellsI G.length H.length f = false) : mapOkI G H f = false := by unfold mapOkI; rw [h]; simp
theorem mapOk_yes {G H : List (List Int)} {f : List Int} (h : gOk G = true) (h' : gOk H = true) (h'' : tellsI G.length H.length f = true) : mapOkI G H f = leadsI G H f := by unfold mapOkI; rw [h, h', h'']; rfl

theorem nodesP (a : Option Addr) (m c : Nat) (w : World) :
    Calls Tryd.prog 55 #[.agg #[.slice a m c]] w fun e w' => e = .returned (.int .i64 m) ∧ w' = w.alloc (.cells #[.slice a m c] 80) :=
  callsIn_wide.1 (nodes_in Fence.wide 0 (fun _ => trivial) rfl a m c w)

/-- The node that a row tells. -/
theorem tells_at {m m' : Nat} {f : List Int} (h : Tells m m' f) {j : Nat} (hj : j < m) : ∃ p : Nat, f[j]? = some (p : Int) ∧ nd f j = p ∧ p < m' := by
  have hj' : j < f.length := by rw [h.1]; exact hj
  obtain ⟨h0, h1⟩ := h.2 j f[j] (List.getElem?_eq_getElem hj')
  refine ⟨f[j].toNat, ?_, nd_eq (List.getElem?_eq_getElem hj'), by omega⟩
  rw [List.getElem?_eq_getElem hj', Int.toNat_of_nonneg h0]

end Go.Proofs.YtofpjepndhpciaaDoor

namespace Go.Proofs.YtofpjepndhpciaaDoor
open Go.RowKit Go.Shelf Go.Deep

theorem AL_mem {xss : List (List Int)} (x : Fin xss.length × Fin xss.length) : x ∈ AL xss ↔ arw xss x.1.1 x.2.1 = true := by
  unfold AL
  rw [List.mem_filter]
  exact ⟨fun h => h.2, fun h => ⟨PL_all x, h⟩⟩
theorem leadsI_iff {G H : List (List Int)} {f : List Int} : leadsI G H f = true ↔ ∀ i j, i < G.length → j < G.length → arw G i j = true → arw H (nd f i) (nd f j) = true := by
  unfold leadsI
  rw [List.all_eq_true]
  exact ⟨fun h i j hi hj ha => h (⟨i, hi⟩, ⟨j, hj⟩) ((AL_mem _).2 ha), fun h x hx => h x.1.1 x.2.1 x.1.2 x.2.2 ((AL_mem x).1 hx)⟩
theorem arw_ent {xss : List (List Int)} {i j : Nat} : arw xss i j = true ↔ ent xss i j = 1 := by unfold arw; simp

end Go.Proofs.YtofpjepndhpciaaDoor
