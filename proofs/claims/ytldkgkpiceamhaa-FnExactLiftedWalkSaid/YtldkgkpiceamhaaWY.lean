/-
  Several texts in one.
  A new list, and whether there is one.
  What was made is owned: a list by make as one by append, rows by make as rows by append.
-/
import Derived.Test.YtldkgkpiceamhaaW0
import Derived.Test.YtldkgkpiceamhaaZA
import Derived.Test.YtldkgkpiceamhaaZF
import Derived.Test.YtldkgkpiceamhaaZQ
import Derived.Test.YtldkgkpiceamhaaZC
namespace Go.Proofs.Ytldkgkpiceamhaa
open Go.RowKit Go.Shelf Go.Deep

/-- A new list, and whether there is one. -/
def MadeLB (zs : List Int) (yes : Bool) (w : World) (e : Ending) (w' : World) : Prop := ∃ (a : Option Addr) (c : Nat), (e = .returned (.tuple #[.slice a zs.length c, .bool yes]) ∧ Below w.heap.size w w') ∧ w'.ownsRow w.heap.size 3 1 (.slice a zs.length c) zs.length (zs.map (Value.int .i64))

end Go.Proofs.Ytldkgkpiceamhaa

namespace Go.Proofs.Ytldkgkpiceamhaa
open Go.RowKit Go.Shelf Go.Deep

theorem rowIs_owns6 {W : World} {base b N : Nat} {t : TypeId} {f : Nat → Value} (h : W.rowIs b t N f) (hb : base ≤ b) (hN : N ≤ maxLen) : W.ownsRow base t 1 (.slice (some ⟨b, 0, none⟩) N N) N ((List.range N).map f) := by
  obtain ⟨cs, h1, h2, h3⟩ := h
  refine ⟨by simp, .inr ⟨b, N, cs, rfl, hb, h1, Nat.le_refl _, hN, by omega, ?_⟩⟩
  refine List.ext_getElem? fun i => ?_
  rw [Nat.mul_one]
  by_cases hi : i < N
  · rw [List.getElem?_take_of_lt hi]
    simp [hi, h3 i hi]
  · rw [List.getElem?_eq_none (by simp; omega), List.getElem?_eq_none (by simp; omega)]
theorem rowI_owns {W : World} {base b : Nat} {xs : List Int} (h : RowI W b xs) (hb : base ≤ b) (hl : xs.length ≤ 1048576) : W.ownsRow base 3 1 (.slice (some ⟨b, 0, none⟩) xs.length xs.length) xs.length (xs.map (Value.int .i64)) := by
  have h1 := rowIs_owns6 h hb (by unfold maxLen; omega)
  have e : ((List.range xs.length).map fun j => Value.int .i64 (xs[j]?.getD 0)) = xs.map (Value.int .i64) := by
    refine List.ext_getElem (by simp) fun i hi hi' => ?_
    have hix : i < xs.length := by simpa using hi'
    simp [hix]
  rw [e] at h1
  exact h1
theorem OwnI.owns {base : Nat} {W : World} {a : Option Addr} {c : Nat} {xs : List Int} (h : OwnI base W a c xs) (hl : xs.length ≤ 1048576) : W.ownsRow base 3 1 (.slice a xs.length c) xs.length (xs.map (Value.int .i64)) := by
  rcases h with ⟨rfl, rfl, rfl⟩ | ⟨b, rfl, rfl, hr, hb⟩
  · exact World.ownsRow_nil _ _ _ 1
  · exact rowI_owns hr hb hl
theorem madeI_own {xs : List Int} {w w' : World} {e : Ending} (hl : xs.length ≤ 1048576) (h : MadeI xs w e w') : MadeOwn xs w e w' := by
  obtain ⟨a, c, h1, h2⟩ := h
  exact ⟨a, c, h1, h2.owns hl⟩
theorem OwnR.sep {base : Nat} {W : World} {a : Option Addr} {c : Nat} {xss : List (List Int)} (h : OwnR base W a c xss) (hF : Fit xss) : OwnSep base W (.slice a xss.length c) xss := by
  rcases h with ⟨rfl, rfl, rfl⟩ | ⟨b, G, rfl, rfl, ⟨h1, h2⟩, hb, hG, hinj⟩
  · exact OwnSep.nil _ _
  · have hl := hF.1
    have get : ∀ (i : Nat) (x : Value), ((List.range xss.length).map fun i => Value.slice (some ⟨G i, 0, none⟩) (xss[i]?.getD []).length (xss[i]?.getD []).length)[i]? = some x → i < xss.length ∧ x = .slice (some ⟨G i, 0, none⟩) (xss[i]?.getD []).length (xss[i]?.getD []).length := fun i x hx => by
      have hi : i < xss.length := by have := (List.getElem?_eq_some_iff.1 hx).1; simpa using this
      refine ⟨hi, ?_⟩
      rw [List.getElem?_map, List.getElem?_range hi] at hx
      exact (Option.some.inj hx).symm
    refine ⟨_, rowIs_owns6 h1 hb (by unfold maxLen; omega), fun i x xs hx hxs => ?_, fun i j x y g hij hx hy hg e => ?_⟩
    · obtain ⟨hi, rfl⟩ := get i x hx
      rw [hxs]
      exact rowI_owns (h2 i xs hxs) (hG i hi) (hF.at_ hxs)
    · obtain ⟨_, rfl⟩ := get i x hx
      obtain ⟨_, rfl⟩ := get j y hy
      have e1 : G i = g := Option.some.inj hg
      have e2 : G j = g := Option.some.inj e
      exact hij (hinj i j (by omega))
theorem madeR_sep {xss : List (List Int)} {w w' : World} {e : Ending} (hF : Fit xss) (h : MadeR xss w e w') : MadeS xss w e w' := by
  obtain ⟨a, c, h1, h2⟩ := h
  exact ⟨a, c, h1, h2.sep hF⟩
theorem ownR_mono6 {base base' : Nat} {W : World} {a : Option Addr} {c : Nat} {xss : List (List Int)} (h : OwnR base W a c xss) (hb : base' ≤ base) : OwnR base' W a c xss := by
  rcases h with h | ⟨b, G, h1, h2, h3, h4, h5, h6⟩
  · exact .inl h
  · exact .inr ⟨b, G, h1, h2, h3, by omega, fun i hi => by have := h5 i hi; omega, h6⟩

end Go.Proofs.Ytldkgkpiceamhaa
