/-
  The recursive iterator over the maps that begin with a row: impl.graph.mapsBegun.
-/
import Derived.Test.YtofpjepndhpciaaZO
namespace Go.Proofs.Ytofpjepndhpciaa
open Go.RowKit Go.Shelf Go.Deep

attribute [local go_sem] Oper.semAt_some

/-- WHERE THE ITERATOR's OWN BOXES LIE, and what it reads. -/
def Begun (s b n₀ N : Nat) (a a' : Option Addr) (c c' : Nat) (G H : List (List Int)) (p : List Int) (W : World) : Prop :=
  Boxed W s 51 (.slice a G.length c) ∧ Boxed W (s + 1) 51 (.slice a' H.length c') ∧ Boxed W (s + 1 + 1) 47 (.slice (some ⟨b, 0, none⟩) p.length N) ∧ Mat n₀ W a G ∧ Mat n₀ W a' H
theorem Begun.keep {s b n₀ N : Nat} {a a' : Option Addr} {c c' : Nat} {G H : List (List Int)} {p : List Int} {A C : World} (h : Begun s b n₀ N a a' c c' G H p A) (hk : ∀ (k : Nat) (o : Obj), A.heap[k]? = some o → o.isCells = true → k ≠ b → (k < n₀ ∨ s ≤ k) → C.heap[k]? = some o) (hb : n₀ ≤ b) (hbs : b < s) : Begun s b n₀ N a a' c c' G H p C := by
  have hm : ∀ (x : Option Addr) (X : List (List Int)), Mat n₀ A x X → Mat n₀ C x X := fun x X hX => by
    intro hne
    obtain ⟨b1, o1, e, h1, hc⟩ := hX hne
    have cellk : ∀ (q : Addr) (v : Value), q.block < n₀ → A.cell? q = some v → C.cell? q = some v := fun q v hq hv => by
      obtain ⟨o, ho, hoc⟩ := cells_of_cell hv
      exact (World.cell?_of_block ((hk _ o ho hoc (by omega) (.inl hq)).trans ho.symm)).trans hv
    refine ⟨b1, o1, e, h1, fun i hi => ?_⟩
    obtain ⟨a2, c2, h2, h3⟩ := hc i hi
    refine ⟨a2, c2, cellk ⟨b1, o1 + i, none⟩ _ h1 h2, fun hne2 => ?_⟩
    obtain ⟨b3, o3, e3, h4, h5⟩ := h3 hne2
    exact ⟨b3, o3, e3, h4, fun j hj => cellk ⟨b3, o3 + j, none⟩ _ h4 (h5 j hj)⟩
  exact ⟨hk _ _ h.1 rfl (by omega) (.inr (by omega)), hk _ _ h.2.1 rfl (by omega) (.inr (by omega)), hk _ _ h.2.2.1 rfl (by omega) (.inr (by omega)), hm _ _ h.2.2.2.1, hm _ _ h.2.2.2.2⟩
theorem Begun.grown {s b n₀ N : Nat} {a a' : Option Addr} {c c' : Nat} {G H : List (List Int)} {p : List Int} {A C : World} {row : Option Nat} (h : Begun s b n₀ N a a' c c' G H p A) (hg : A.grownBy C row) (hr : ∀ r, row = some r → r = b ∨ ∃ o : Obj, A.heap[r]? = some o ∧ o.isCells = false) (hb : n₀ ≤ b) (hbs : b < s) : Begun s b n₀ N a a' c c' G H p C :=
  h.keep (fun k o ho hc hkb _ => (hg.block k (Array.getElem?_eq_some_iff.1 ho).1 (fun e => by
    rcases hr k e.symm with h' | ⟨o', ho', hc'⟩
    · exact hkb h'
    · rw [ho] at ho'; cases ho'; rw [hc] at hc'; cases hc')).trans ho) hb hbs
theorem Begun.keepC {s b n₀ N T : Nat} {S : Nat → Prop} {a a' : Option Addr} {c c' : Nat} {G H : List (List Int)} {p : List Int} {A C : World} (h : Begun s b n₀ N a a' c c' G H p A) (hk : KeepC S T A C) (hS : ∀ B, S B → n₀ ≤ B ∧ B < s) (hb : n₀ ≤ b) (hbs : b < s) : Begun s b n₀ N a a' c c' G H p C :=
  h.keep (fun k o ho hc _ h' => hk.2 k o (fun hs => by have := hS k hs; omega) ho (.inl hc)) hb hbs
theorem begun_own {β : Type} (s b n₀ N : Nat) (a a' : Option Addr) (c c' : Nat) (G H : List (List Int)) (p : List Int) (hb : n₀ ≤ b) (hbs : b < s) : Own (fun (_ : β) W => Begun s b n₀ N a a' c c' G H p W) :=
  fun _ _ _ _ h hg hr => h.grown hg (fun r e => .inr (hr r e)) hb hbs

theorem mapsFrom_one (G H : List (List Int)) (p : List Int) : mapsFrom G H 0 p = [p] := rfl

end Go.Proofs.Ytofpjepndhpciaa
