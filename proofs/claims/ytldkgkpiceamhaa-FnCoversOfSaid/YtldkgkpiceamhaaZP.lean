/-
  Several texts in one.
  Two small graphs drawn (l20Little), a map drawn if there is any (l20Some); DrawTimesOf, DrawSideOf, DrawSquareOf.
  A map drawn if there is any: l20Some; DrawPairedOf, DrawJoinedOf.
-/
import Derived.Test.YtldkgkpiceamhaaZK
import Derived.Test.YtldkgkpiceamhaaZH
import Derived.Test.YtldkgkpiceamhaaC2
import Derived.Test.YtldkgkpiceamhaaZA
namespace Go.Proofs.Ytldkgkpiceamhaa
open Go.RowKit Go.Shelf Go.Deep

/-- TWO GRAPHS, or what are none, ARE DRAWN, each of at most m nodes. -/
def DrawnPK (n₀ B N m : Nat) (w : World) (e : Ending) (w' : World) : Prop :=
  ∃ (a : Option Addr) (c : Nat) (xss : List (List Int)) (a' : Option Addr) (c' : Nat) (yss : List (List Int)), e = .returned (.tuple #[.slice a xss.length c, .slice a' yss.length c']) ∧
    (Fit xss ∧ Mat w'.heap.size (w'.setRow B #[]) a xss ∧ xss.length ≤ m) ∧ (Fit yss ∧ Mat w'.heap.size (w'.setRow B #[]) a' yss ∧ yss.length ≤ m) ∧ Rd n₀ B w' N ∧ w.grownBy w' (some B)

/-- A GRAPH, or what is none, of at most m nodes IS DRAWN. -/
def DrawnMK (m : Nat) (w : World) (e : Ending) (w' : World) : Prop :=
  ∃ (a : Option Addr) (c : Nat) (xss : List (List Int)), e = .returned (.slice a xss.length c) ∧ (Fit xss ∧ Mat w'.heap.size w' a xss ∧ xss.length ≤ m) ∧ Below w.heap.size w w'
/-- TWO GRAPHS, or what are none, of at most m nodes ARE DRAWN. -/
def DrawnMMK (m : Nat) (w : World) (e : Ending) (w' : World) : Prop :=
  ∃ (a : Option Addr) (c : Nat) (xss : List (List Int)) (a' : Option Addr) (c' : Nat) (yss : List (List Int)), e = .returned (.tuple #[.slice a xss.length c, .slice a' yss.length c']) ∧
    (Fit xss ∧ Mat w'.heap.size w' a xss ∧ xss.length ≤ m) ∧ (Fit yss ∧ Mat w'.heap.size w' a' yss ∧ yss.length ≤ m) ∧ Below w.heap.size w w'
/-- TWO GRAPHS, or what are none, AND A NUMBER ARE DRAWN. -/
def DrawnMMI (m : Nat) (w : World) (e : Ending) (w' : World) : Prop :=
  ∃ (a : Option Addr) (c : Nat) (xss : List (List Int)) (a' : Option Addr) (c' : Nat) (yss : List (List Int)) (s : Int), e = .returned (.tuple #[.slice a xss.length c, .slice a' yss.length c', .int .i64 s]) ∧
    (Fit xss ∧ Mat w'.heap.size w' a xss ∧ xss.length ≤ m) ∧ (Fit yss ∧ Mat w'.heap.size w' a' yss ∧ yss.length ≤ m) ∧ Below w.heap.size w w'
end Go.Proofs.Ytldkgkpiceamhaa

namespace Go.Proofs.Ytldkgkpiceamhaa
open Go.RowKit Go.Shelf Go.Deep

theorem results_tmp5' {fn : Func} {t u v x y : Tmp} (h : fn.results = #[.tmp t, .tmp u, .tmp v, .tmp x, .tmp y]) (tmps : Array Value) (P : Program) (w : World) :
    (results fn tmps).run P w = .ok (.tuple #[tmps.getD t undef, tmps.getD u undef, tmps.getD v undef, tmps.getD x undef, tmps.getD y undef]) w := by
  simp [results, h]

/-- A LIST IS DRAWN. -/
def DrawnL (n₀ B N : Nat) (w : World) (e : Ending) (w' : World) : Prop :=
  ∃ (a : Option Addr) (c : Nat) (f : List Int), e = .returned (.slice a f.length c) ∧ (f.length ≤ 1048576 ∧ Ints w'.heap.size (w'.setRow B #[]) a f) ∧ Rd n₀ B w' N ∧ w.grownBy w' (some B)

theorem made_zeros {n₀ B N : Nat} (w : World) (n : Nat) (hR : Rd n₀ B w N) : Ints (w.heap.size + 1) ((w.alloc (.cells (madeCells #[.int .i64 0] n) 3)).setRow B #[]) (some ⟨w.heap.size, 0, none⟩) (List.replicate n 0) := by
  have hB := hR.lt
  refine fun _ => ⟨w.heap.size, 0, rfl, by omega, fun j hj => ?_⟩
  rw [List.length_replicate] at hj
  have h := (World.rowIs_made w (.int .i64 0) n 3).cell hj
  have hs := setRow_other (w.alloc (.cells (madeCells #[.int .i64 0] n) 3)) B w.heap.size #[] (by omega)
  rw [World.cell?_of_block (a := ⟨w.heap.size, 0 + j, none⟩) hs, Nat.zero_add, h]
  simp [hj]

/-- THREE GRAPHS, or what are none, AND TWO LISTS ARE DRAWN. -/
def DrawnMMMLL (m : Nat) (w : World) (e : Ending) (w' : World) : Prop :=
  ∃ (a : Option Addr) (c : Nat) (xss : List (List Int)) (a' : Option Addr) (c' : Nat) (yss : List (List Int)) (a'' : Option Addr) (c'' : Nat) (zss : List (List Int)) (a3 : Option Addr) (c3 : Nat) (f : List Int) (a4 : Option Addr) (c4 : Nat) (g : List Int),
    e = .returned (.tuple #[.slice a xss.length c, .slice a' yss.length c', .slice a'' zss.length c'', .slice a3 f.length c3, .slice a4 g.length c4]) ∧
    (Fit xss ∧ Mat w'.heap.size w' a xss ∧ xss.length ≤ m) ∧ (Fit yss ∧ Mat w'.heap.size w' a' yss ∧ yss.length ≤ m) ∧ (Fit zss ∧ Mat w'.heap.size w' a'' zss ∧ zss.length ≤ m) ∧ (f.length ≤ 1048576 ∧ Ints w'.heap.size w' a3 f) ∧ (g.length ≤ 1048576 ∧ Ints w'.heap.size w' a4 g) ∧ Below w.heap.size w w'

end Go.Proofs.Ytldkgkpiceamhaa
