/-
  The recursive iterator over the maps that begin with a row, where the caller's rounds may also turn great slices of rows of their own: impl.graph.mapsBegun.
-/
import Derived.Test.YtofpjepndhpciaaM6
namespace Go.Proofs.Ytofpjepndhpciaa
open Go.RowKit Go.Shelf Go.Deep

attribute [local go_sem] Oper.semAt_some

/-- A slice of two rows or more. -/
def Great (o : Obj) : Prop := ∃ cs fr, o = .cells cs 47 fr ∧ 2 ≤ cs.size
/-- WHAT A ROUND KEEPS: all cells but those of the caller's own blocks S, and all blocks from T on, but for great slices of rows from T0 on. -/
def KeepD (S : Nat → Prop) (T0 T : Nat) (W W' : World) : Prop := W.heap.size ≤ W'.heap.size ∧ ∀ (B : Nat) (o : Obj), ¬ S B → W.heap[B]? = some o → (o.isCells = true ∨ T ≤ B) → (B < T0 ∨ ¬ Great o) → W'.heap[B]? = some o
theorem KeepD.trans {S : Nat → Prop} {T0 T : Nat} {X Y Z : World} (h : KeepD S T0 T X Y) (k : KeepD S T0 T Y Z) : KeepD S T0 T X Z := ⟨Nat.le_trans h.1 k.1, fun B o hS hB hc hg => k.2 B o hS (h.2 B o hS hB hc hg) hc hg⟩
theorem KeepD.more {S : Nat → Prop} {T0 T T' : Nat} {X Y : World} (h : KeepD S T0 T X Y) (hT : T ≤ T') : KeepD S T0 T' X Y :=
  ⟨h.1, fun B o hS ho hc hg => h.2 B o hS ho (hc.elim .inl fun h' => .inr (Nat.le_trans hT h')) hg⟩
theorem not_great {o : Obj} (h : o.isCells = false) : ¬ Great o := fun ⟨cs, fr, e, _⟩ => by subst e; cases h
theorem KeepD.putObj (S : Nat → Prop) {T0 T l : Nat} (hl : l < T) (W : World) (o o' : Obj) (h : W.heap[l]? = some o) (hc : o.isCells = false) : KeepD S T0 T W (W.putObj l o') :=
  ⟨(KeepC.putObj S hl W o o' h hc).1, fun B o1 hS hB hc1 _ => (KeepC.putObj S hl W o o' h hc).2 B o1 hS hB hc1⟩
theorem KeepD.from {S : Nat → Prop} {T0 T B0 : Nat} {W W' : World} (h : KeepD S T0 T W W') (hS : ∀ B, S B → B < T) (hT : T ≤ B0) : KeepsFrom B0 W W' := ⟨h.1, fun k o hk ho hc => h.2 k o (fun s => by have := hS k s; omega) ho (.inr (by omega)) (.inr (not_great hc))⟩
theorem KeepD.boxed {S : Nat → Prop} {T0 T : Nat} {W W' : World} (h : KeepD S T0 T W W') {B : Nat} {t : TypeId} {v : Value} (hS : ¬ S B) (b : Boxed W B t v) : Boxed W' B t v := h.2 B _ hS b (.inl rfl) (.inr fun ⟨cs, fr, e, h2⟩ => by injection e with e1 e2; subst e1; simp at h2)
theorem Begun.keepD {s b n₀ N T0 T : Nat} {S : Nat → Prop} {a a' : Option Addr} {c c' : Nat} {G H : List (List Int)} {p : List Int} {A C : World} (h : Begun s b n₀ N a a' c c' G H p A) (hk : KeepD S T0 T A C) (hS : ∀ B, S B → n₀ ≤ B ∧ B < s) (hT : n₀ ≤ T0) : Begun s b n₀ N a a' c c' G H p C := by
  have hm : ∀ (x : Option Addr) (X : List (List Int)), Mat n₀ A x X → Mat n₀ C x X := fun x X hX => by
    intro hne
    obtain ⟨b1, o1, e, h1, hc⟩ := hX hne
    have cellk : ∀ (q : Addr) (v : Value), q.block < n₀ → A.cell? q = some v → C.cell? q = some v := fun q v hq hv => by
      obtain ⟨o, ho, hoc⟩ := cells_of_cell hv
      exact (World.cell?_of_block ((hk.2 _ o (fun hs => by have := hS _ hs; omega) ho (.inl hoc) (.inl (by omega))).trans ho.symm)).trans hv
    refine ⟨b1, o1, e, h1, fun i hi => ?_⟩
    obtain ⟨a2, c2, h2, h3⟩ := hc i hi
    refine ⟨a2, c2, cellk ⟨b1, o1 + i, none⟩ _ h1 h2, fun hne2 => ?_⟩
    obtain ⟨b3, o3, e3, h4, h5⟩ := h3 hne2
    exact ⟨b3, o3, e3, h4, fun j hj => cellk ⟨b3, o3 + j, none⟩ _ h4 (h5 j hj)⟩
  have ns : ∀ k, s ≤ k → ¬ S k := fun k hk' hs => by have := hS k hs; omega
  exact ⟨hk.boxed (ns _ (Nat.le_refl _)) h.1, hk.boxed (ns _ (by omega)) h.2.1, hk.boxed (ns _ (by omega)) h.2.2.1, hm _ _ h.2.2.2.1, hm _ _ h.2.2.2.2⟩
theorem Hold.keepD {b N T0 T : Nat} {S : Nat → Prop} {p : List Int} {A C : World} (h : Hold b N p A) (hk : KeepD S T0 T A C) (hS : ¬ S b) : Hold b N p C := by
  obtain ⟨h1, h2⟩ := h
  refine ⟨h1, ?_⟩
  rcases h2 with h0 | ⟨g, cap, cur, e0, hb', hg, hr⟩
  · exact .inl h0
  · have e1 := e0
    cases e1
    exact .inr ⟨b, N, cur, e0, hb', hk.2 b _ hS hg (.inl rfl) (.inr fun ⟨cs, fr, e, _⟩ => by injection e with _ e2; exact absurd e2 (by decide)), hr⟩
theorem Marked.keepD {T0 T : Nat} {S : Nat → Prop} {Ds : List Nat} {A C : World} (h : Marked T Ds A) (hk : KeepD S T0 T A C) (hS : ∀ B, S B → B < T) : Marked T Ds C :=
  h.keep hk.1 fun D o hD ho hc => hk.2 D o (fun s => by have := hS D s; omega) ho (.inr hD) (.inr (not_great hc))

end Go.Proofs.Ytofpjepndhpciaa
