/-
  impl.BesideOf, walked.
-/
import Derived.Test.YtmohmecdhabapabJ1
import Derived.Deep.RegionHeld3
namespace Go.Proofs.Ytmohmecdhabapab
open Go.RowKit Go.Shelf Go.Deep

theorem nodesC (a : Option Addr) (m c : Nat) (w : World) : Calls Try.prog 46 #[.agg #[.slice a m c]] w fun e w' => e = .returned (.int .i64 m) ∧ w' = w.alloc (.cells #[.slice a m c] 51) :=
  callsIn_wide.1 (nodes_in Fence.wide 0 (fun _ => trivial) rfl a m c w)

/-- NEW ROWS, beside a yes or no. -/
def MadeB (zss : List (List Int)) (yes : Bool) (w : World) (e : Ending) (w' : World) : Prop := ∃ (a : Option Addr) (c : Nat), (e = .returned (.tuple #[.slice a zss.length c, .bool yes]) ∧ Below w.heap.size w w') ∧ OwnR w.heap.size w' a c zss

/-- New rows, seen from an elder world. -/
def MadeV (V : World) (m : Nat) (p : Nat → Nat → Bool) (e : Ending) (w' : World) : Prop :=
  ∃ (b : Nat) (G : Nat → Nat), e = .returned (.slice (some ⟨b, 0, none⟩) m m) ∧ Below V.heap.size V w' ∧ OwnM w' b G (rowsP m p) ∧ V.heap.size ≤ b ∧ (∀ i, i < m → V.heap.size ≤ G i) ∧ ∀ i j, G i = G j → i = j
theorem MadeM.seen {V W w' : World} {m : Nat} {p : Nat → Nat → Bool} {e : Ending} (h : MadeM W m p e w') (hb : Below V.heap.size V W) : MadeV V m p e w' := by
  obtain ⟨he, hB, hO⟩ := h
  have hs := hb.size
  exact ⟨W.heap.size + 1, fun i => W.heap.size + 3 + i, he, hb.trans (hB.mono hs), hO, by omega, fun i _ => by show V.heap.size ≤ W.heap.size + 3 + i; omega, fun i j h => by have h' : W.heap.size + 3 + i = W.heap.size + 3 + j := h; omega⟩

set_option maxRecDepth 100000 in
set_option maxHeartbeats 2000000 in
theorem implBeside (a a' : Option Addr) (c c' : Nat) (xss yss : List (List Int)) (w : World) (hM : Mat w.heap.size w a xss) (hM' : Mat w.heap.size w a' yss) (hf : Fit xss) (hf' : Fit yss) :
    Calls Try.prog 27 #[.slice a xss.length c, .slice a' yss.length c'] w (MadeB (besL xss yss) (besOk xss yss) w) := by
  have HF := Lib.hid hf
  have HF' := Lib.hid hf'
  have hl := hf.1
  have hl' := hf'.1
  clear hf hf'
  by_cases hg : gOk xss = true
  · by_cases hg' : gOk yss = true
    · by_cases h9 : xss.length + yss.length ≤ 9
      · have HG := Lib.hid (good_of hg)
        have HG' := Lib.hid (good_of hg')
        have hok : besOk xss yss = true := by unfold besOk; rw [hg, hg', decide_eq_true h9]; rfl
        rw [besL_yes hok, hok]
        clear hok
        go_enter Try.func27, Try.ntmps27
        go_wp2_with fail
        refine (implOk _ _ _ _ hM HF.out).mono ?_
        rintro e w1 ⟨rfl, hB1⟩
        have hz1 := hB1.size
        have hM1 := hM.below hB1
        have hM1' := hM'.below hB1
        clear hM hM'
        go_wp2_with fail
        refine (implOk _ _ _ _ (hM1'.more hz1) HF'.out).mono ?_
        rintro e w2 ⟨rfl, hB2⟩
        have hM2 := hM1.below (hB2.mono hz1)
        have hM2' := hM1'.below (hB2.mono hz1)
        have hB02 := hB1.trans (hB2.mono hz1)
        have hz02 := hB02.size
        clear hM1 hM1' hB1 hB2 hz1
        go_wp2_with fail
        refine (nodesC _ _ _ _).mono ?_
        rintro e w3 ⟨rfl, rfl⟩
        go_wp2_with fail
        have bB := (((Boxed.new w2 51 (.slice a xss.length c)).alloc (.cells #[.slice a' yss.length c'] 51)).alloc (.cells #[.slice a xss.length c] 51)).alloc (.cells #[.int .i64 xss.length] 3)
        have bB' := ((Boxed.new (w2.alloc (.cells #[.slice a xss.length c] 51)) 51 (.slice a' yss.length c')).alloc (.cells #[.slice a xss.length c] 51)).alloc (.cells #[.int .i64 xss.length] 3)
        have bE := Boxed.new (((w2.alloc (.cells #[.slice a xss.length c] 51)).alloc (.cells #[.slice a' yss.length c'] 51)).alloc (.cells #[.slice a xss.length c] 51)) 3 (.int .i64 xss.length)
        have hBV := (((hB02.alloc hz02 (.cells #[.slice a xss.length c] 51)).alloc (by simp; omega) (.cells #[.slice a' yss.length c'] 51)).alloc (by simp; omega) (.cells #[.slice a xss.length c] 51)).alloc (by simp; omega) (.cells #[.int .i64 xss.length] 3)
        have es : ∀ (W : World) (o : Obj), (W.alloc o).heap.size = W.heap.size + 1 := fun W o => by simp
        rw [es] at bB'
        rw [es, es, es] at bE
        have h2V : Below w2.heap.size w2 ((((w2.alloc (.cells #[.slice a xss.length c] 51)).alloc (.cells #[.slice a' yss.length c'] 51)).alloc (.cells #[.slice a xss.length c] 51)).alloc (.cells #[.int .i64 xss.length] 3)) :=
          ((((Below.refl _ w2).alloc (Nat.le_refl _) _).alloc (by rw [es]; omega) _).alloc (by rw [es, es]; omega) _).alloc (by rw [es, es, es]; omega) _
        have hM3 := hM2.below (h2V.mono hz02)
        have hM3' := hM2'.below (h2V.mono hz02)
        obtain ⟨V, hV⟩ : ∃ V, (((w2.alloc (.cells #[.slice a xss.length c] 51)).alloc (.cells #[.slice a' yss.length c'] 51)).alloc (.cells #[.slice a xss.length c] 51)).alloc (.cells #[.int .i64 xss.length] 3) = V := ⟨_, rfl⟩
        rw [hV] at bB bB' bE hBV hM3 hM3' ⊢
        clear hV h2V hM2 hM2' hB02 es
        have hzV := hBV.size
        obtain ⟨p, hp⟩ : ∃ p, p = w2.heap.size := ⟨_, rfl⟩
        rw [← hp] at bB bB' bE ⊢
        clear hp hz02
        have HRB : Hid (∀ W', Below V.heap.size V W' → Calls Try.prog 45 #[.int .i64 (IntKind.i64.wrap ((xss.length : Int) + (yss.length : Int))), .func (.func 53) #[] #[.pointer (some ⟨p + 1 + 1 + 1, 0, none⟩), .pointer (some ⟨p, 0, none⟩), .pointer (some ⟨p + 1, 0, none⟩)]] W' (MadeV V (xss.length + yss.length) (besP xss yss))) := by
          refine Lib.hid fun W' hW' => ?_
          have hzW := hW'.size
          have h := callsIn_wide.1 (rowsBy_in Fence.wide rfl (fun _ => trivial) rfl 53 #[.pointer (some ⟨p + 1 + 1 + 1, 0, none⟩), .pointer (some ⟨p, 0, none⟩), .pointer (some ⟨p + 1, 0, none⟩)] (besP xss yss) (xss.length + yss.length) h9 W' (enters_of Try.func53 (by kernel_rfl) rfl)
            (fun W'' i j hb hi hj => by
              have hb2 := hW'.trans (hb.mono hzW)
              exact callsIn_wide.2 (beside1 w.heap.size _ _ _ a a' c c' xss yss W'' (hM3.below (hb2.mono hzV)) (hM3'.below (hb2.mono hzV)) (Nat.le_trans hzV hb2.size) ((hb2.block _ bE.lt).trans bE) ((hb2.block _ bB.lt).trans bB) ((hb2.block _ bB'.lt).trans bB') HG.out HG'.out i j hi hj)))
          have e1 : ((xss.length + yss.length : Nat) : Int) = IntKind.i64.wrap ((xss.length : Int) + (yss.length : Int)) := by simp [IntKind.wrap, IntKind.bits, IntKind.signed]; omega
          rw [e1] at h
          exact h.mono fun e w' hm => hm.seen hW'
        have cE := bE.cell
        have ltE : p + 1 + 1 + 1 < V.heap.size := bE.lt
        have ltB : p + 1 < V.heap.size := bB'.lt
        have cB' := bB'.cell
        have HBV := Lib.hid hBV
        clear bB bB' bE hM3 hM3' hBV
        go_region_held3 (fun w' => w'.cell? ⟨p + 1 + 1 + 1, 0, none⟩ = some (.int .i64 xss.length) ∧ w'.cell? ⟨p + 1, 0, none⟩ = some (.slice a' yss.length c'))
          (first | go_keep | exact ⟨(hB3.cell (p := ⟨p + 1 + 1 + 1, 0, none⟩) ltE).trans cE, (hB3.cell (p := ⟨p + 1, 0, none⟩) ltB).trans cB'⟩)
          (first
            | (go_at_call 46; refine (nodesC _ _ _ _).mono ?_; rintro e w' ⟨rfl, rfl⟩)
            | (go_at_call 45; refine (HRB.out _ ?_).mono ?_; (first | exact ((Below.refl _ _).alloc (Nat.le_refl _) _).drew | exact (Below.refl _ _).drew.alloc (Nat.le_refl _) _); rintro e w' ⟨b, G, rfl, hB3, hO, hb3, hG3, hi3⟩))
        all_goals
          go_wp2
          go_ret2
          exact ⟨_, _, ⟨by rw [rowsP_length]; rfl, HBV.out.trans (hB3.mono hzV)⟩, .inr ⟨b, G, rfl, (rowsP_length _ _).symm, hO, by omega, fun i hi => by rw [rowsP_length] at hi; have := hG3 i hi; omega, hi3⟩⟩
      · have hok : besOk xss yss = false := by unfold besOk; rw [hg, hg', decide_eq_false h9]; rfl
        rw [besL_no hok, hok]
        clear hok
        go_enter Try.func27, Try.ntmps27
        go_wp2_with fail
        refine (implOk _ _ _ _ hM HF.out).mono ?_
        rintro e w1 ⟨rfl, hB1⟩
        have hz1 := hB1.size
        go_wp2_with fail
        refine (implOk _ _ _ _ ((hM'.below hB1).more hz1) HF'.out).mono ?_
        rintro e w2 ⟨rfl, hB2⟩
        go_wp2_with fail
        go_ret2
        exact ⟨none, 0, ⟨rfl, hB1.trans (hB2.mono hz1)⟩, .inl ⟨rfl, rfl, rfl⟩⟩
    · have hgn : gOk yss = false := by simpa using hg'
      have hok : besOk xss yss = false := by unfold besOk; rw [hg, hgn]; rfl
      rw [besL_no hok, hok]
      clear hok hg'
      go_enter Try.func27, Try.ntmps27
      go_wp2_with fail
      refine (implOk _ _ _ _ hM HF.out).mono ?_
      rintro e w1 ⟨rfl, hB1⟩
      have hz1 := hB1.size
      go_wp2_with fail
      refine (implOk _ _ _ _ ((hM'.below hB1).more hz1) HF'.out).mono ?_
      rintro e w2 ⟨rfl, hB2⟩
      go_wp2_with fail
      go_ret2
      exact ⟨none, 0, ⟨rfl, hB1.trans (hB2.mono hz1)⟩, .inl ⟨rfl, rfl, rfl⟩⟩
  · have hgn : gOk xss = false := by simpa using hg
    have hok : besOk xss yss = false := by unfold besOk; rw [hgn]; rfl
    rw [besL_no hok, hok]
    clear hok hg
    go_enter Try.func27, Try.ntmps27
    go_wp2_with fail
    refine (implOk _ _ _ _ hM HF.out).mono ?_
    rintro e w1 ⟨rfl, hB1⟩
    go_wp2_with fail
    go_ret2
    exact ⟨none, 0, ⟨rfl, hB1⟩, .inl ⟨rfl, rfl, rfl⟩⟩

end Go.Proofs.Ytmohmecdhabapab
