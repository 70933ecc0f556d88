/-
  Several texts in one.
  spec.StaysOk, spec.ImageOf, walked.
  spec.StaysOf, spec.CoreOf, spec.CoreOk, spec.RigidOk, walked.
  spec.TurnsOf, walked.
-/
import Derived.Test.YtldkgkpiceamhaaZU
import Derived.Test.YtldkgkpiceamhaaZN
import Derived.Test.YtldkgkpiceamhaaZI
import Derived.Test.YtldkgkpiceamhaaM9
import Derived.Test.YtldkgkpiceamhaaWV
import Derived.Test.YtldkgkpiceamhaaZY
import Derived.Test.YtldkgkpiceamhaaZX
namespace Go.Proofs.Ytldkgkpiceamhaa
open Go.RowKit Go.Shelf Go.Deep

/-- THE IMAGE OF A MAP; nothing for others. -/
def imaI (G H : List (List Int)) (f : List Int) : List Int := if mapOkI G H f = true then imgL H.length f else []
theorem imaI_yes {G H : List (List Int)} {f : List Int} (h : mapOkI G H f = true) : imaI G H f = imgL H.length f := if_pos h
theorem imaI_no {G H : List (List Int)} {f : List Int} (h : mapOkI G H f = false) : imaI G H f = [] := if_neg (by rw [h]; decide)
theorem imaI_le {G H : List (List Int)} {f : List Int} : (imaI G H f).length ≤ 1048576 := by
  cases h : mapOkI G H f with
  | true => rw [imaI_yes h]; have := imgL_le (m := H.length) f; have := (good_of (mapOk_iff.1 h).1.2).2.1; omega
  | false => rw [imaI_no h]; simp
theorem imgL_yes {k : Nat} {f : List Int} (h : (k : Int) ∈ f) : imgL (k + 1) f = imgL k f ++ [(k : Int)] := by
  unfold imgL imgN
  rw [List.range_succ, List.filter_append, List.map_append, show [k].filter (fun x : Nat => f.contains (x : Int)) = [k] from by simp [h]]
  rfl
theorem imgL_no {k : Nat} {f : List Int} (h : (k : Int) ∉ f) : imgL (k + 1) f = imgL k f := by
  unfold imgL imgN
  rw [List.range_succ, List.filter_append, List.map_append, show [k].filter (fun x : Nat => f.contains (x : Int)) = [] from by simp [h]]
  simp
theorem drewN_twoP (w : World) (n m : Nat) : (w.drewN n).drewN m = w.drewN (n + m) := by simp [World.drewN, Nat.add_assoc]

end Go.Proofs.Ytldkgkpiceamhaa

namespace Go.Proofs.Ytldkgkpiceamhaa
open Go.RowKit Go.Shelf Go.Deep

/-- A LIST, beside a yes or no. -/
def ReadLB (zs : List Int) (yes : Bool) (w : World) (e : Ending) (w' : World) : Prop := ∃ (a : Option Addr) (c : Nat), (e = .returned (.tuple #[.slice a zs.length c, .bool yes]) ∧ Below w.heap.size w w') ∧ Ints w'.heap.size w' a zs
theorem staL_le {G : List (List Int)} : (staL G).length ≤ 1048576 := by
  cases h : g5 G with
  | true => rw [(sta_map h).1.1]; have := (g5_iff.1 h).2; omega
  | false => rw [staL_no h]; simp
theorem g5_no1 {G : List (List Int)} (h : gOk G = false) : g5 G = false := by unfold g5; rw [h]; rfl
theorem g5_no2 {G : List (List Int)} (h : ¬ G.length ≤ 5) : g5 G = false := by unfold g5; rw [decide_eq_false h]; simp
theorem g5_yes {G : List (List Int)} (h : gOk G = true) (h5 : G.length ≤ 5) : g5 G = true := g5_iff.2 ⟨h, h5⟩
/-- The best of the first k rows is one of them that stays, or none. -/
theorem bestTo (G : List (List Int)) (k : Nat) : Best G ((mapsL G G).take k) (((mapsL G G).take k).foldl (betF G) []) := by
  have := best_fold G ((mapsL G G).take k) [] [] (.inl ⟨rfl, fun x hx => by cases hx⟩)
  rwa [List.nil_append] at this
theorem best_stys {G : List (List Int)} {l : List (List Int)} {b : List Int} (h : Best G l b) : b.length = 0 ∨ stysI G b = true := by
  rcases h with ⟨rfl, _⟩ | ⟨_, h2, _⟩
  · exact .inl rfl
  · exact .inr h2
theorem fold_next {G : List (List Int)} {ls : List (List Int)} {k : Nat} {x : List Int} (h : ls[k]? = some x) : (ls.take (k + 1)).foldl (betF G) [] = betF G ((ls.take k).foldl (betF G) []) x := by
  rw [List.take_add_one, h, List.foldl_append]; rfl
theorem bet_no {G : List (List Int)} {b x : List Int} (h : stysI G x = false) : betF G b x = b := if_neg fun hh => by rw [h] at hh; cases hh.1
theorem bet_first {G : List (List Int)} {b x : List Int} (h : stysI G x = true) (h0 : b.length = 0) : betF G b x = x := if_pos ⟨h, .inl h0⟩
theorem bet_less {G : List (List Int)} {b x : List Int} (h : stysI G x = true) (h0 : (imgL G.length x).length < (imgL G.length b).length) : betF G b x = x := if_pos ⟨h, .inr h0⟩
theorem bet_more {G : List (List Int)} {b x : List Int} (h0 : b.length ≠ 0) (h1 : ¬ (imgL G.length x).length < (imgL G.length b).length) : betF G b x = b := if_neg fun hh => hh.2.elim h0 h1

end Go.Proofs.Ytldkgkpiceamhaa

namespace Go.Proofs.Ytldkgkpiceamhaa
open Go.RowKit Go.Shelf Go.Deep

theorem turA_to (G : List (List Int)) {k : Nat} {p : List Int} (h : (olvl G.length G.length)[k]? = some p) : (((olvl G.length G.length).take (k + 1)).filter (sameBy G G)).length = (((olvl G.length G.length).take k).filter (sameBy G G)).length + if sameBy G G p = true then 1 else 0 := by
  rw [List.take_add_one, h, List.filter_append, List.length_append]
  by_cases hs : sameBy G G p = true <;> simp [hs]

end Go.Proofs.Ytldkgkpiceamhaa
