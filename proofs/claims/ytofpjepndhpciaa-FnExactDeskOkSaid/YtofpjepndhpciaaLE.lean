/-
  Desks: what a deed makes of them; pure facts (P58, P59, P69, P70).
-/
import Derived.Test.YtofpjepndhpciaaLA
import Derived.Test.YtofpjepndhpciaaWV
import Derived.Test.YtofpjepndhpciaaZU
import Derived.Test.YtofpjepndhpciaaZB
namespace Go.Proofs.Ytofpjepndhpciaa
open Go.RowKit Go.Shelf

/-- A DESK: its graph, and those of before. -/
structure Dk where
  now : List (List Int)
  past : List (List (List Int))
def dokI (d : Dk) : Bool := (d.past.all fun g => gOk g) && (gOk d.now && decide (d.past.length ≤ 8))
theorem dok_iff {d : Dk} : dokI d = true ↔ (∀ g ∈ d.past, gOk g = true) ∧ gOk d.now = true ∧ d.past.length ≤ 8 := by
  unfold dokI
  simp only [Bool.and_eq_true, List.all_eq_true, decide_eq_true_eq]
/-- An arrow is put in, or taken out. -/
def flipL (G : List (List Int)) (i j : Nat) : List (List Int) := rowsP G.length fun k l => if k = i ∧ l = j then !(arw G k l) else arw G k l
/-- All nodes but one. -/
def dropN (n i : Nat) : List Int := ((List.range n).filter fun k => !(k == i)).map fun k => ((k : Nat) : Int)
/-- WHAT A DEED MAKES OF A GRAPH, if it can be done. -/
noncomputable def mdO (G : List (List Int)) (a : Dd) : Option (List (List Int)) :=
  if a.k = 0 ∧ (0 ≤ a.a ∧ a.a < G.length) ∧ (0 ≤ a.b ∧ a.b < G.length) then some (flipL G a.a.toNat a.b.toNat)
  else if a = ⟨1, 0, 0⟩ then (if besOk G [[0]] = true then some (besL G [[0]]) else none)
  else if a.k = 2 ∧ a.b = 0 ∧ 2 ≤ G.length ∧ (0 ≤ a.a ∧ a.a < G.length) then some (partL G (dropN G.length a.a.toNat))
  else if a = ⟨3, 0, 0⟩ then (if g5 G = true then some (corL G) else none)
  else if a = ⟨4, 0, 0⟩ then some (turnedL G)
  else none
/-- The last eight. -/
def last8 {α : Type} (l : List α) : List α := l.drop (l.length - 8)
theorem last8_len {α : Type} (l : List α) : (last8 l).length ≤ 8 := by unfold last8; rw [List.length_drop]; omega
theorem last8_mem {α : Type} {l : List α} {x : α} (h : x ∈ last8 l) : x ∈ l := List.mem_of_mem_drop h
theorem last8_few {α : Type} {l : List α} (h : l.length ≤ 8) : last8 l = l := by unfold last8; rw [show l.length - 8 = 0 by omega]; rfl
/-- ONE DEED, if it can be done. -/
noncomputable def stepO (d : Dk) (a : Dd) : Option Dk :=
  if a = ⟨5, 0, 0⟩ then (match d.past.getLast? with | some g => some ⟨g, d.past.dropLast⟩ | none => none)
  else match mdO d.now a with
    | some g => if g = d.now then none else some ⟨g, last8 (d.past ++ [d.now])⟩
    | none => none
theorem dropN_mem {n i : Nat} {y : Int} : y ∈ dropN n i ↔ ∃ k : Nat, y = (k : Int) ∧ k < n ∧ k ≠ i := by
  unfold dropN
  simp only [List.mem_map, List.mem_filter, List.mem_range, Bool.not_eq_true', beq_eq_false_iff_ne]
  constructor
  · rintro ⟨k, ⟨h1, h2⟩, rfl⟩; exact ⟨k, rfl, h1, h2⟩
  · rintro ⟨k, rfl, h1, h2⟩; exact ⟨k, ⟨h1, h2⟩, rfl⟩
theorem dropN_ne {n i : Nat} (h : 2 ≤ n) : 1 ≤ (dropN n i).length := by
  have hm : ∃ y, y ∈ dropN n i := by
    by_cases e : i = 0
    · exact ⟨1, dropN_mem.2 ⟨1, rfl, by omega, by omega⟩⟩
    · exact ⟨0, dropN_mem.2 ⟨0, rfl, by omega, fun h => e h.symm⟩⟩
  obtain ⟨y, hy⟩ := hm
  exact List.length_pos_of_mem hy
theorem dropN_nodes (n i : Nat) : Nodes n (dropN n i) := by
  have hn : (dropN n i).Nodup := List.Pairwise.map _ (fun a b (h : a ≠ b) => fun e => h (Int.ofNat_inj.1 e)) (List.nodup_range.filter _)
  refine ⟨fun j y hy => ?_, fun a b y hab ha hb => ?_⟩
  · obtain ⟨k, rfl, h1, _⟩ := dropN_mem.1 (List.mem_of_getElem? hy)
    omega
  · obtain ⟨h1, e1⟩ := List.getElem?_eq_some_iff.1 ha
    obtain ⟨h2, e2⟩ := List.getElem?_eq_some_iff.1 hb
    have hp := List.pairwise_iff_getElem.1 hn
    exact hp a b h1 h2 hab (e1.trans e2.symm)
theorem flip_good {G : List (List Int)} {i j : Nat} (h : gOk G = true) : Good (flipL G i j) := by
  have hg := good_of h
  exact rowsP_good _ hg.1 hg.2.1
theorem one_gOk : gOk [[0]] = true := by decide +kernel
/-- WHAT IS MADE IS A GRAPH. -/
theorem mdO_ok {G g : List (List Int)} {a : Dd} (h : gOk G = true) (hm : mdO G a = some g) : gOk g = true := by
  have hg := good_of h
  unfold mdO at hm
  split at hm
  · cases hm; exact gOk_true (flip_good h)
  · split at hm
    · split at hm
      · cases hm; exact gOk_true (bes_good ‹_›)
      · cases hm
    · split at hm
      · cases hm
        rename_i h2
        refine gOk_true (part_good h (dropN_ne h2.2.2.1) ?_)
        exact dropN_nodes G.length a.a.toNat
      · split at hm
        · split at hm
          · cases hm; exact gOk_true (cor_good ‹_›)
          · cases hm
        · split at hm
          · cases hm; exact gOk_true (turned_good hg)
          · cases hm
/-- WHATEVER IS DONE, IT IS A DESK. -/
theorem step_ok {d x : Dk} {a : Dd} (h : dokI d = true) (hs : stepO d a = some x) : dokI x = true := by
  obtain ⟨h1, h2, h3⟩ := dok_iff.1 h
  unfold stepO at hs
  split at hs
  · split at hs
    · rename_i g hg
      cases hs
      have hm : g ∈ d.past := List.mem_of_getLast? hg
      refine dok_iff.2 ⟨fun x hx => h1 x ((List.dropLast_sublist _).subset hx), h1 g hm, by rw [List.length_dropLast]; omega⟩
    · cases hs
  · split at hs
    · rename_i g hg
      split at hs
      · cases hs
      · cases hs
        refine dok_iff.2 ⟨fun x hx => ?_, mdO_ok h2 hg, last8_len _⟩
        rcases List.mem_append.1 (last8_mem hx) with hx | hx
        · exact h1 x hx
        · rw [List.mem_singleton.1 hx]; exact h2
    · cases hs
/-- WHAT WAS DONE CAN BE UNDONE. -/
theorem step_back {d x : Dk} {a : Dd} (hk : a.k ≠ 5) (hl : d.past.length < 8) (hs : stepO d a = some x) : stepO x ⟨5, 0, 0⟩ = some d := by
  unfold stepO at hs
  rw [if_neg (fun e => hk (by rw [e]))] at hs
  split at hs
  · split at hs
    · cases hs
    · cases hs
      unfold stepO
      rw [if_pos rfl, last8_few (by rw [List.length_append]; simp; omega)]
      simp
  · cases hs
theorem step_core {d x : Dk} {a : Dd} (hk : a.k = 3) (hs : stepO d a = some x) : corOkI x.now = true ∧ levelI x.now d.now = true := by
  unfold stepO at hs
  rw [if_neg (fun e => by rw [e] at hk; cases hk)] at hs
  split at hs
  · rename_i g hg
    split at hs
    · cases hs
    · cases hs
      unfold mdO at hg
      rw [if_neg (fun e => by omega), if_neg (fun e => by rw [e] at hk; cases hk), if_neg (fun e => by omega)] at hg
      split at hg
      · split at hg
        · cases hg; exact ⟨cor_core ‹_›, cor_level ‹_›⟩
        · cases hg
      · rw [if_neg (fun e => by rw [e] at hk; cases hk)] at hg
        cases hg
  · cases hs
/-- DEEDS, one after the other. -/
noncomputable def runL : List Dd → Dk → Dk × Nat
  | [], d => (d, 0)
  | a :: l, d => match stepO d a with
    | some x => ((runL l x).1, (runL l x).2 + 1)
    | none => runL l d
theorem run_app : ∀ (l r : List Dd) (d : Dk), runL (l ++ r) d = ((runL r (runL l d).1).1, (runL l d).2 + (runL r (runL l d).1).2)
  | [], r, d => by simp [runL]
  | a :: l, r, d => by
    simp only [List.cons_append, runL]
    split
    · rename_i x hx
      rw [run_app l r x]
      simp only [Prod.mk.injEq, true_and]
      omega
    · exact run_app l r d
theorem run_ok : ∀ (l : List Dd) (d : Dk), dokI d = true → dokI (runL l d).1 = true
  | [], d, h => h
  | a :: l, d, h => by
    simp only [runL]
    split
    · rename_i x hx; exact run_ok l x (step_ok h hx)
    · exact run_ok l d h
theorem run_le : ∀ (l : List Dd) (d : Dk), (runL l d).2 ≤ l.length
  | [], d => Nat.le_refl _
  | a :: l, d => by
    simp only [runL]
    split
    · rename_i x hx; have := run_le l x; simp only [List.length_cons]; omega
    · have := run_le l d; simp only [List.length_cons]; omega
theorem run_snoc (l : List Dd) (a : Dd) (d : Dk) : runL (l ++ [a]) d = match stepO (runL l d).1 a with | some x => (x, (runL l d).2 + 1) | none => runL l d := by
  rw [run_app]
  simp only [runL]
  split <;> rfl
end Go.Proofs.Ytofpjepndhpciaa
