/-
  The program's DeskNew.
-/
import Derived.Test.YtofpjepndhpciaaLT
import Derived.Test.YtofpjepndhpciaaLV
import Derived.Test.YtofpjepndhpciaaZA
namespace Go.Proofs.Ytofpjepndhpciaa
open Go.RowKit Go.Shelf Go.Deep

/-- What DeskNew answers. -/
noncomputable def newD (G : List (List Int)) : Dk := if gOk G = true then ⟨G, []⟩ else ⟨[], []⟩
theorem newD_fit {G : List (List Int)} : FitK (newD G) ∧ totD (newD G) ≤ 81 := by
  unfold newD
  split
  · rename_i h
    have hg := good_of h
    refine ⟨⟨hg.fit, by simp [FitC]⟩, ?_⟩
    have h9 := hg.2.1
    show tot G + totC [] ≤ 81
    have ht : tot G ≤ 9 * G.length := tot_le9 fun xs hxs => by
      obtain ⟨i, hi⟩ := List.getElem?_of_mem hxs
      rw [hg.len hi]; exact h9
    simp only [totC, List.map_nil, List.sum_nil]
    omega
  · exact ⟨⟨by simp [Fit], by simp [FitC]⟩, by simp [totD, tot, totC]⟩
def NewD (G : List (List Int)) (yes : Bool) (w : World) (e : Ending) (w' : World) : Prop := ∃ v, (e = .returned (.tuple #[v, .bool yes]) ∧ Below w.heap.size w w') ∧ ODk w.heap.size w'.heap.size w' v (newD G)

set_option maxRecDepth 100000 in
set_option maxHeartbeats 4000000 in
theorem implNew (a : Option Addr) (c : Nat) (G : List (List Int)) (w : World) (hM : Mat w.heap.size w a G) (hF : Fit G) :
    Calls Try.prog 12 #[.slice a G.length c] w (NewD G (gOk G) w) := by
  have hx : (w.alloc (.cells #[.slice none 0 0, .slice none 0 0] 26)).heap[w.heap.size]? = some (.cells #[.slice none 0 0, .slice none 0 0] 26) := heap_alloc_new w _
  have hB0 : Below w.heap.size w (w.alloc (.cells #[.slice none 0 0, .slice none 0 0] 26)) := (Below.refl _ _).alloc (Nat.le_refl _) _
  have hM1 := (hM.below hB0).more hB0.size
  have HO := Lib.hid (implOk a c G _ hM1 hF)
  obtain ⟨V, hV⟩ : ∃ V, w.alloc (.cells #[.slice none 0 0, .slice none 0 0] 26) = V := ⟨_, rfl⟩
  rw [hV] at hx hB0 hM1 HO
  have HV := Lib.hid hV
  have HX := Lib.hid hx
  have HB0 := Lib.hid hB0
  clear hV hx hB0 hM
  by_cases hg : gOk G = true
  · rw [hg] at HO ⊢
    have HG := Lib.hid hg
    clear hg
    go_enter Try.func12, Try.ntmps12
    go_wp2_with fail
    rw [HV.out]
    refine HO.out.mono ?_
    rintro e w1 ⟨rfl, hB1⟩
    have hx1 := (hB1.block _ (Array.getElem?_eq_some_iff.1 HX.out).1).trans HX.out
    have hd : dokI ⟨G, []⟩ = true := dok_iff.2 ⟨fun g h => by simp at h, HG.out, Nat.zero_le _⟩
    have HC : Hid (Calls Try.prog 31 #[.agg #[.slice a G.length c, .slice none 0 0]] w1 (CopiedDk ⟨G, []⟩ w1)) :=
      Lib.hid (copied_any a c G none 0 [] w1.heap.size w1 ((hM1.below hB1).more hB1.size) (fun h => absurd rfl h) (Nat.le_refl _) hd)
    have HB1 := Lib.hid (HB0.out.trans (hB1.mono HB0.out.size))
    have HX1 := Lib.hid hx1
    have hwz : w.heap.size < w1.heap.size := (Array.getElem?_eq_some_iff.1 hx1).1
    clear hB1 hx1 hd hM1
    go_wp2_with fail
    refine HC.out.mono ?_
    rintro e w2 ⟨v, ⟨rfl, hB2⟩, hO⟩
    obtain ⟨aN, aP, n1, n2, p1, p2, rfl, h⟩ := id hO
    have hx2 := (hB2.block _ hwz).trans HX1.out
    have hx3 := dk_put hx2 0 (.slice aN G.length G.length)
    have hx4 := dk_put hx3 1 (.slice aP 0 0)
    obtain ⟨⟨s1, s3⟩, s2⟩ := dk_cell hx2
    obtain ⟨⟨t1, t3⟩, t2⟩ := dk_cell hx3
    obtain ⟨⟨r1, r3⟩, _⟩ := dk_cell hx4
    have hb := HB1.out.trans (hB2.mono HB1.out.size)
    have HB4 := Lib.hid ((hb.setCell (p := ⟨w.heap.size, 0, none⟩) (Nat.le_refl _) (.slice aN G.length G.length)).setCell (p := ⟨w.heap.size, 1, none⟩) (Nat.le_refl _) (.slice aP 0 0))
    have ht : Touch (fun B => B = w.heap.size) w2 ((w2.setCell ⟨w.heap.size, 0, none⟩ (.slice aN G.length G.length)).setCell ⟨w.heap.size, 1, none⟩ (.slice aP 0 0)) := (Touch.set (S := fun B => B = w.heap.size) w2 rfl 0 _).trans (Touch.set (S := fun B => B = w.heap.size) _ rfl 1 _)
    have hO4 := hO.touch ht (fun B e => by cases e; exact .inl hwz)
    have HO4 : Hid (ODk w.heap.size ((w2.setCell ⟨w.heap.size, 0, none⟩ (.slice aN G.length G.length)).setCell ⟨w.heap.size, 1, none⟩ (.slice aP 0 0)).heap.size ((w2.setCell ⟨w.heap.size, 0, none⟩ (.slice aN G.length G.length)).setCell ⟨w.heap.size, 1, none⟩ (.slice aP 0 0)) (.agg #[.slice aN G.length G.length, .slice aP 0 0]) (newD G)) := Lib.hid (.inl (by
      unfold newD
      rw [if_pos HG.out]
      exact hO4.wide (by omega) (by rw [ht.size]; exact Nat.le_refl _)))
    have s2b := s2 0
    have t2b := t2 1
    clear h hx2 hx3 hx4 hB2 hO hb s2 t2 hO4 ht HC
    go_wp2_with fail
    refine bodyPost_ret (v := .tuple #[.agg #[.slice aN G.length G.length, .slice aP 0 0], .bool true]) ?_ rfl ?_
    · simp [results, Try.f12, go_sem, r1, r3]
    · exact ⟨_, ⟨rfl, HB4.out⟩, HO4.out⟩
  · rw [show gOk G = false by simpa using hg] at HO ⊢
    have HG := Lib.hid hg
    clear hg
    go_enter Try.func12, Try.ntmps12
    go_wp2_with fail
    rw [HV.out]
    refine HO.out.mono ?_
    rintro e w1 ⟨rfl, hB1⟩
    have hx2 := (hB1.block _ (Array.getElem?_eq_some_iff.1 HX.out).1).trans HX.out
    have hx3 := dk_put hx2 0 (.slice none 0 0)
    have hx4 := dk_put hx3 1 (.slice none 0 0)
    obtain ⟨⟨s1, s3⟩, s2⟩ := dk_cell hx2
    obtain ⟨⟨t1, t3⟩, t2⟩ := dk_cell hx3
    obtain ⟨⟨r1, r3⟩, _⟩ := dk_cell hx4
    have hb := HB0.out.trans (hB1.mono HB0.out.size)
    have HB4 := Lib.hid ((hb.setCell (p := ⟨w.heap.size, 0, none⟩) (Nat.le_refl _) (.slice none 0 0)).setCell (p := ⟨w.heap.size, 1, none⟩) (Nat.le_refl _) (.slice none 0 0))
    have s2b := s2 0
    have t2b := t2 1
    clear hx2 hx3 hx4 hB1 hb s2 t2
    go_wp2_with fail
    refine bodyPost_ret (v := .tuple #[.agg #[.slice none 0 0, .slice none 0 0], .bool false]) ?_ rfl ?_
    · simp [results, Try.f12, go_sem, r1, r3]
    · exact ⟨_, ⟨rfl, HB4.out⟩, .inr ⟨rfl, by unfold newD; rw [if_neg HG.out]⟩⟩

/-- The model's answer, read. -/
def NewS (D : Dk) (yes : Bool) (w : World) (e : Ending) (w' : World) : Prop := ∃ (d1 d2 : Option Addr) (m1 e1 m2 e2 : Nat), (e = .returned (.tuple #[.agg #[.slice d1 m1 e1, .slice d2 m2 e2], .bool yes]) ∧ Below w.heap.size w w') ∧ DeskR w'.heap.size w' (.agg #[.slice d1 m1 e1, .slice d2 m2 e2]) D
theorem specNewS (a : Option Addr) (c : Nat) (G : List (List Int)) (n₀ : Nat) (w : World) (hM : Mat n₀ w a G) (hn : n₀ ≤ w.heap.size) (hF : Fit G) :
    Calls Try.prog 13 #[.slice a G.length c] w (NewS (newD G) (gOk G) w) := by
  refine (specNew a c G n₀ w hM hn hF).mono ?_
  intro e w' h
  unfold MadeNew at h
  unfold newD
  split at h
  · rename_i hg
    obtain ⟨a', c', ⟨rfl, hb⟩, hO⟩ := h
    rw [if_pos hg, hg]
    exact ⟨_, _, _, _, _, _, ⟨rfl, hb⟩, a', none, c', 0, rfl, hO.mat.mat, fun h => absurd rfl h⟩
  · rename_i hg
    rw [if_neg hg, show gOk G = false by simpa using hg]
    exact ⟨_, _, _, _, _, _, ⟨h.1, h.2⟩, zero_read w'⟩
theorem agg_of {n : Nat} {W : World} {v : Value} {d : Dk} (h : DeskR n W v d) : ∃ (d1 d2 : Option Addr) (m1 e1 m2 e2 : Nat), v = .agg #[.slice d1 m1 e1, .slice d2 m2 e2] := by
  obtain ⟨aN, aP, cN, cP, e, _⟩ := h
  exact ⟨_, _, _, _, _, _, e⟩
def NewI (D : Dk) (yes : Bool) (w : World) (e : Ending) (w' : World) : Prop := ∃ (d1 d2 : Option Addr) (m1 e1 m2 e2 : Nat), (e = .returned (.tuple #[.agg #[.slice d1 m1 e1, .slice d2 m2 e2], .bool yes]) ∧ Below w.heap.size w w') ∧ ODk w.heap.size w'.heap.size w' (.agg #[.slice d1 m1 e1, .slice d2 m2 e2]) D
theorem NewD.agg {G : List (List Int)} {yes : Bool} {w w' : World} {e : Ending} (h : NewD G yes w e w') : NewI (newD G) yes w e w' := by
  obtain ⟨v, ⟨rfl, hb⟩, hO⟩ := h
  obtain ⟨d1, d2, m1, e1, m2, e2, rfl⟩ := agg_of hO.read
  exact ⟨_, _, _, _, _, _, ⟨rfl, hb⟩, hO⟩


end Go.Proofs.Ytofpjepndhpciaa
