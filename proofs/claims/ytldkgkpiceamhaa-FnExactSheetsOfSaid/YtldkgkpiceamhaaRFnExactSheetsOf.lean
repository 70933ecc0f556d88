/-
  Proved: the exact law of SheetsOf answers true for every two slices of rows of integers and every list of integers, and leaves them as they were. Conditions: none beyond the row's own.
-/
import Derived.Test.YtldkgkpiceamhaaRows
import Derived.Test.YtldkgkpiceamhaaR0
import Derived.Test.YtldkgkpiceamhaaU44
import Derived.Test.YtldkgkpiceamhaaR3
namespace Go.Proofs.Ytldkgkpiceamhaa
open Go.ChangeShapes Go.WideShapes Go.ChangeAt Go.RowKit Go.Deep

set_option maxRecDepth 100000 in
set_option maxHeartbeats 800000 in
theorem fnExactSheetsOf_lifted (os : Os) (started : os.Started) (H : Type) (enc : TypeId × Value → H) :
    ReturnsInHanded {} Try.checked os 12 .any (Rows.fnExactSheetsOfSpec.pre6 enc Try.prog Try.f12 Rows.fnExactSheetsOfRow.domain false) (Rows.fnExactSheetsOfSpec.post enc Try.prog Try.f12 false true false false) := by
  refine returnsInHanded_of_change (C := Try.checked) own started (by kernel_rfl) Try.func12
    (ChangeSpec.witness6 (enc := enc) (C := Try.checked) false ⟨#[], #[.slice none 0 0, .slice none 0 0, .slice none 0 0], []⟩ 8 (by kernel_rfl) (by kernel_rfl) (by kernel_rfl) (by kernel_rfl)) ?_
  intro W base args ds gs before hval0 hW _ _
  have hval : ∀ (j : Nat) t v, Try.f12.params[j]? = some t → args[j]? = some v → Value.okWide Try.prog W .any base t v := hval0
  have hW' := hW
  obtain ⟨p, q, hA0, hV, rfl, _, _⟩ := hW
  have hA : DataW.TrodAll enc Try.prog W 0 (fun _ => true) true Try.f12.params.toList args.toList ds p := hA0
  rw [Try.params12] at hA hval
  obtain ⟨v0, v1, v2, d0, d1, d2, p0, p1, p2, rfl, rfl, rfl, h0, h1, h2⟩ := trodAll_three hA
  obtain ⟨rfl, rfl⟩ := trodVars_none hV
  clear hA0 hval0
  simp only [List.append_nil, List.append_assoc] at hW'
  have hlt0 : ∀ x ∈ p0, x.block < W.heap.size := fun x hx => hW'.lt x (by simp [hx])
  have harg0 : ∀ (W' : World), Below W.heap.size W W' → DataW.Trod enc Try.prog W' 0 (fun b => decide (b < W.heap.size)) true 23 v0 d0 p0 :=
    fun W' hn => Below.trod laidOut (by kernel_rfl) (of_decide_eq_true (by kernel_rfl)) h0 hn hlt0
  have hlt1 : ∀ x ∈ p1, x.block < W.heap.size := fun x hx => hW'.lt x (by simp [hx])
  have harg1 : ∀ (W' : World), Below W.heap.size W W' → DataW.Trod enc Try.prog W' 0 (fun b => decide (b < W.heap.size)) true 23 v1 d1 p1 :=
    fun W' hn => Below.trod laidOut (by kernel_rfl) (of_decide_eq_true (by kernel_rfl)) h1 hn hlt1
  have hlt2 : ∀ x ∈ p2, x.block < W.heap.size := fun x hx => hW'.lt x (by simp [hx])
  have harg2 : ∀ (W' : World), Below W.heap.size W W' → DataW.Trod enc Try.prog W' 0 (fun b => decide (b < W.heap.size)) true 24 v2 d2 p2 :=
    fun W' hn => Below.trod laidOut (by kernel_rfl) (of_decide_eq_true (by kernel_rfl)) h2 hn hlt2
  have fin : ∀ (W' : World), Below W.heap.size W W' → Rows.fnExactSheetsOfSpec.post enc Try.checked.prog Try.f12 false true false false W #[v0, v1, v2] (.bool true) W' := fun W' hnx =>
    ⟨_, _, _, [], p0 ++ (p1 ++ (p2)), [], hW', trodAll_mk1 (shut_bool Try.underlying4 true), trodAll_mk3 (harg0 _ hnx) (harg1 _ hnx) (harg2 _ hnx), rfl, hnx.frame _, fun h => by cases h⟩
  obtain ⟨a0, c0, xss0, rfl, hM0, hl0, hr0⟩ := open_mat (hval 0 23 v0 rfl rfl) h0
  obtain ⟨a1, c1, xss1, rfl, hM1, hl1, hr1⟩ := open_mat (hval 1 23 v1 rfl rfl) h1
  obtain ⟨a2, c2, xs2, rfl, hI2, hl2⟩ := open_ints1 (hval 2 24 v2 rfl rfl) h2
  refine (exSheetsOf_any a0 c0 xss0 a1 c1 xss1 a2 c2 xs2 W hM0 hl0 hr0 hM1 hl1 hr1 hI2 hl2).mono fun e W' ⟨he, hnx⟩ => ?_
  subst he
  exact ⟨_, rfl, fin W' hnx⟩

theorem fnExactSheetsOf_holds : Rows.FnExactSheetsOfSaid :=
  OpenClaim.holds_of_wide_leaving 12 Try.f12 rfl rfl rfl rfl rfl rfl rfl ⟨rfl, rfl, rfl, rfl, rfl⟩ rfl rfl rfl rfl rfl (by kernel_rfl) Try.func12 (by kernel_rfl)
    (of_decide_eq_true (by kernel_rfl)) (by unfold Func.isWrapper; rw [if_neg (of_decide_eq_false (by kernel_rfl))]; exact ⟨rfl, rfl⟩)
    (fun os started H enc _ => leaving_of_handed (fnExactSheetsOf_lifted os started H enc))

end Go.Proofs.Ytldkgkpiceamhaa
