/-
  Several texts in one.
  impl.coredOk, impl.StaysOk, impl.ImageOf, impl.RigidOk.
  impl.fewestKept and its closure: the best so far.
  impl.CoreOk, impl.TurnsOf.
  impl.fewestThatStay, impl.StaysOf.
  impl.StaysOf, impl.CoreOf.
-/
import Derived.Test.YtkkifphpogfjfaaWR
import Derived.Test.YtkkifphpogfjfaaZV
import Derived.Test.YtkkifphpogfjfaaW0
import Derived.Test.YtkkifphpogfjfaaM7
import Derived.Test.YtkkifphpogfjfaaZQ
import Derived.Test.YtkkifphpogfjfaaZI
import Derived.Test.YtkkifphpogfjfaaM11a
import Derived.Test.YtkkifphpogfjfaaZX
import Derived.WalkMore
import Derived.Test.YtkkifphpogfjfaaM11
import Derived.Test.YtkkifphpogfjfaaMB
import Derived.Test.YtkkifphpogfjfaaPJ
namespace Go.Proofs.Ytkkifphpogfjfaa
open Go.RowKit Go.Shelf Go.Deep

set_option maxRecDepth 100000 in
set_option maxHeartbeats 1000000 in
theorem coredP (a : Option Addr) (c : Nat) (G : List (List Int)) (w : World) (hM : Mat w.heap.size w a G) (hF : Fit G) :
    Calls Try.prog 66 #[.slice a G.length c] w (Ans (.bool (g5 G)) w) := by
  have HOk := Lib.hid (implOk a c G w hM hF)
  have hl := hF.1
  obtain ⟨n, hn⟩ : ∃ n, G.length = n := ⟨_, rfl⟩
  have e : g5 G = (gOk G && decide (n ≤ 5)) := by unfold g5; rw [hn]
  rw [e]
  rw [hn] at HOk hl ⊢
  obtain ⟨y, hy⟩ : ∃ y, gOk G = y := ⟨_, rfl⟩
  rw [hy] at HOk ⊢
  clear hn hy hM hF e
  go_enter Try.func66, Try.ntmps66
  go_wp2_with fail
  refine HOk.out.mono ?_
  rintro e w1 ⟨rfl, hB1⟩
  cases y with
  | false =>
    go_wp2_with fail
    go_ret
    exact ⟨rfl, hB1⟩
  | true =>
    go_wp2_with fail
    go_ret
    exact ⟨ret_bool (by rw [Bool.eq_iff_iff]; simp; omega), hB1⟩

set_option maxRecDepth 100000 in
set_option maxHeartbeats 1000000 in
theorem implRigid (a : Option Addr) (c : Nat) (G : List (List Int)) (w : World) (hM : Mat w.heap.size w a G) (hF : Fit G) :
    Calls Try.prog 25 #[.slice a G.length c] w (Ans (.bool (rigI G)) w) := by
  have HOk := Lib.hid (coredP a c G w hM hF)
  have HF := Lib.hid hF
  obtain ⟨y, hy⟩ : ∃ y, g5 G = y := ⟨_, rfl⟩
  obtain ⟨k, hk⟩ : ∃ k, countI G G = k := ⟨_, rfl⟩
  have HK := Lib.hid hk
  have e : rigI G = (y && decide (k = 1)) := by unfold rigI; rw [hy, hk]
  rw [e]
  rw [hy] at HOk
  have hk0 : -1 ≤ k := by rw [← hk]; unfold countI; split <;> omega
  have hk1 : k ≤ 7000 := by
    rw [← hk]
    unfold countI
    split
    · have := mapsL_le G G; omega
    · omega
  clear hy hk hF e
  go_enter Try.func25, Try.ntmps25
  go_wp2_with fail
  refine HOk.out.mono ?_
  rintro e w1 ⟨rfl, hB1⟩
  have hz1 := hB1.size
  have hM1 := (hM.below hB1).more hz1
  clear hM
  cases y with
  | false =>
    go_wp2_with fail
    go_ret
    exact ⟨rfl, hB1⟩
  | true =>
    have HC := Lib.hid (implCount a c a c G G w1 hM1 hM1 HF.out HF.out)
    rw [HK.out] at HC
    go_wp2_with fail
    refine HC.out.mono ?_
    rintro e w2 ⟨rfl, hB2⟩
    go_wp2_with fail
    go_ret
    exact ⟨ret_bool (by rw [Bool.eq_iff_iff]; simp), hB1.trans (hB2.mono hz1)⟩

end Go.Proofs.Ytkkifphpogfjfaa

namespace Go.Proofs.Ytkkifphpogfjfaa
open Go.RowKit Go.Shelf Go.Deep

attribute [local go_sem] Oper.semAt_some

/-- Two boxes may turn, and nothing else that was there. -/
structure Kept2 (F B : Nat) (w w' : World) : Prop where
  os : w'.os = w.os
  tape : w'.tape = w.tape
  output : w'.output = w.output
  size : w.heap.size ≤ w'.heap.size
  block : ∀ k, k < w.heap.size → k ≠ F → k ≠ B → w'.heap[k]? = w.heap[k]?
theorem Kept2.of_below {F B : Nat} {w w' : World} (h : Below w.heap.size w w') : Kept2 F B w w' := ⟨h.os, h.tape, h.output, h.size, fun k hk _ _ => h.block k hk⟩
theorem Kept2.trans {F B : Nat} {x y z : World} (h : Kept2 F B x y) (k : Kept2 F B y z) : Kept2 F B x z :=
  ⟨k.os.trans h.os, k.tape.trans h.tape, k.output.trans h.output, Nat.le_trans h.size k.size, fun j hj h1 h2 => (k.block j (Nat.lt_of_lt_of_le hj h.size) h1 h2).trans (h.block j hj h1 h2)⟩
theorem Kept2.setF {F B : Nat} (w : World) (j : Nat) (v : Value) : Kept2 F B w (w.setCell ⟨F, j, none⟩ v) := ⟨rfl, rfl, rfl, by simp, fun k _ h1 _ => Below.heap_setCell w ⟨F, j, none⟩ v k h1⟩
theorem Kept2.setB {F B : Nat} (w : World) (j : Nat) (v : Value) : Kept2 F B w (w.setCell ⟨B, j, none⟩ v) := ⟨rfl, rfl, rfl, by simp, fun k _ _ h2 => Below.heap_setCell w ⟨B, j, none⟩ v k h2⟩
theorem Kept2.box {F B : Nat} {w w' : World} (h : Kept2 F B w w') {k : Nat} {t : TypeId} {v : Value} (b : Boxed w k t v) (h1 : k ≠ F) (h2 : k ≠ B) : Boxed w' k t v := (h.block k b.lt h1 h2).trans b
theorem Kept2.below {F B n : Nat} {w w' : World} (h : Kept2 F B w w') (h1 : n ≤ F) (h2 : n ≤ B) (hn : n ≤ w.heap.size) : Below n w w' := ⟨h.os, h.tape, h.output, h.size, fun k hk => h.block k (by omega) (by omega) (by omega)⟩

theorem grownBy_setQ6 (W : World) (b j : Nat) (x : Value) : W.grownBy (W.setCell ⟨b, j, none⟩ x) (some b) :=
  ⟨rfl, rfl, rfl, by simp, fun k _ hk => Below.heap_setCell W ⟨b, j, none⟩ x k (fun e => hk (by rw [show k = b from e]))⟩
/-- What the closure does with a row. -/
def KeepOut (F B N : Nat) (v : Value) (fw : Nat) (m : Nat) (x : List Int) (w : World) (e : Ending) (w' : World) : Prop :=
  ∃ v', e = .returned v' ∧ Kept2 F B w w' ∧ Boxed w' B 36 v' ∧ ((m < fw ∧ Boxed w' F 3 (.int .i64 m) ∧ w'.ownsRow w.heap.size 3 1 v' N (x.map (Value.int .i64))) ∨ (¬ m < fw ∧ Boxed w' F 3 (.int .i64 fw) ∧ v' = v))

end Go.Proofs.Ytkkifphpogfjfaa

namespace Go.Proofs.Ytkkifphpogfjfaa
open Go.RowKit Go.Shelf Go.Deep

attribute [local go_sem] Oper.semAt_some

theorem maps_tells {G : List (List Int)} (h5 : g5 G = true) {x : List Int} (hx : x ∈ mapsFrom G G G.length []) : Tells G.length G.length x := by
  obtain ⟨hg, h5'⟩ := g5_iff.1 h5
  have hf := few5 hg hg h5' h5'
  rw [← mapsL_yes hf] at hx
  exact ((mapsL_mem hf x).1 hx).1
theorem few_maps5 {G : List (List Int)} (h5 : g5 G = true) : (mapsFrom G G G.length []).length ≤ 7000 := by
  obtain ⟨hg, h5'⟩ := g5_iff.1 h5
  exact few_maps (few5 hg hg h5' h5')
theorem corOk_yes {G : List (List Int)} (h5 : g5 G = true) : corOkI G = (mapsFrom G G G.length []).all fun x => decide ((imgL G.length x).length = G.length) := by
  obtain ⟨hg, h5'⟩ := g5_iff.1 h5
  unfold corOkI
  rw [h5, mapsL_yes (few5 hg hg h5' h5'), Bool.true_and]
  refine List.all_congr rfl fun x => ?_
  rw [Bool.eq_iff_iff, decide_eq_true_eq, decide_eq_true_eq]
  have := imgL_le (m := G.length) x
  omega
theorem corOk_no {G : List (List Int)} (h5 : g5 G = false) : corOkI G = false := by unfold corOkI; rw [h5]; rfl

theorem filter_snoc {α : Type} (p : α → Bool) (l : List α) (x : α) : ((l ++ [x]).filter p).length = (l.filter p).length + (if p x = true then 1 else 0) := by
  rw [List.filter_append, List.length_append]
  by_cases h : p x = true <;> simp [h]

end Go.Proofs.Ytkkifphpogfjfaa

namespace Go.Proofs.Ytkkifphpogfjfaa
open Go.RowKit Go.Shelf Go.Deep

attribute [local go_sem] Oper.semAt_some

theorem own_keptS {W W' : World} {base e n : Nat} {v : Value} {xs : List Value} {row : Option Nat} (h : W.ownsRow base e 1 v n xs) (hg : W.grownBy W' row) (hr : ∀ r, row = some r → r < base ∨ ∃ o : Obj, W.heap[r]? = some o ∧ o.isCells = false) : W'.ownsRow base e 1 v n xs := by
  refine h.kept hg ?_
  rcases h.2 with ⟨rfl, _⟩ | ⟨g, cap, cur, rfl, hb, hgg, _⟩
  · exact .inl rfl
  · refine .inr fun e' => ?_
    rcases hr g (by rw [← e']; rfl) with hlt | ⟨o, ho', hc⟩
    · omega
    · rw [hgg] at ho'; cases ho'; cases hc
/-- The least image so far: 10 where there is none. -/
def fewN (N : Nat) (st : List Int) : Nat := if st.length = 0 then 10 else (imgL N st).length
theorem fewN_le {N : Nat} (h9 : N ≤ 9) (st : List Int) : fewN N st ≤ 10 := by
  unfold fewN
  have := imgL_le (m := N) st
  split <;> omega
theorem betQ_yes {G : List (List Int)} {st x : List Int} (hs : stysI G x = true) (hlt : (imgL G.length x).length < fewN G.length st) : betF G st x = x := by
  unfold betF
  refine if_pos ⟨hs, ?_⟩
  unfold fewN at hlt
  by_cases h0 : st.length = 0
  · exact .inl h0
  · rw [if_neg h0] at hlt; exact .inr hlt
theorem betQ_no {G : List (List Int)} {st x : List Int} (h9 : G.length ≤ 9) (hlt : ¬ (imgL G.length x).length < fewN G.length st) : betF G st x = st := by
  unfold betF
  refine if_neg fun h => ?_
  unfold fewN at hlt
  have := imgL_le (m := G.length) x
  by_cases h0 : st.length = 0
  · rw [if_pos h0] at hlt; omega
  · rw [if_neg h0] at hlt
    rcases h.2 with h1 | h1
    · exact h0 h1
    · exact hlt h1
theorem betQ_not {G : List (List Int)} {st x : List Int} (hs : stysI G x = false) : betF G st x = st := if_neg fun h => by rw [hs] at h; cases h.1
theorem fewN_x {N : Nat} {x : List Int} (h : x.length = N) (h1 : 1 ≤ N) : fewN N x = (imgL N x).length := if_neg (by omega)

theorem store_fn5 {P : Program} (w : World) (a : Addr) (m : Mode) (fn : Fn) (first captured : Array Value) : (store a (.func fn first captured) m).run P w = stored P w a (.func fn first captured) m := run_store P w a _ m rfl
attribute [local go_sem] store_fn5

end Go.Proofs.Ytkkifphpogfjfaa

namespace Go.Proofs.Ytkkifphpogfjfaa
open Go.RowKit Go.Shelf Go.Deep

theorem own_cap {W : World} {base e n c : Nat} {a : Option Addr} {xs : List Value} (h : W.ownsRow base e 1 (.slice a n c) n xs) : n ≤ c := by
  rcases h.2 with ⟨e0, h0⟩ | ⟨g, cap, cur, e0, _, _, hn, _⟩
  · omega
  · cases e0; exact hn

end Go.Proofs.Ytkkifphpogfjfaa
