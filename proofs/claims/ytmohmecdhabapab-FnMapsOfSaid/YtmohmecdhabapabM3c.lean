/-
  impl.MapOk and its model.
-/
import Derived.Test.YtmohmecdhabapabM3b
import Derived.BigQuiet
namespace Go.Proofs.Ytmohmecdhabapab
open Go.RowKit Go.Shelf Go.Deep

theorem leadsAllP (n₀ : Nat) (a a' a'' : Option Addr) (c c' c'' : Nat) (G H : List (List Int)) (f : List Int) (w : World) (hM : Mat n₀ w a G) (hM' : Mat n₀ w a' H) (hI : Ints n₀ w a'' f) (hn : n₀ ≤ w.heap.size) (hG : Good G) (hG' : Good H) (hT : Tells G.length H.length f) :
    Calls Try.prog 44 #[.agg #[.slice a G.length c], .agg #[.slice a' H.length c'], .slice a'' f.length c''] w (Ans (.bool (leadsI G H f)) w) :=
  callsIn_wide.1 (leadsAll_in n₀ a a' a'' c c' c'' G H f w hM hM' hI hn hG hG' hT)

set_option maxRecDepth 100000 in
set_option maxHeartbeats 1000000 in
theorem implMapOk (a : Option Addr) (c : Nat) (a' : Option Addr) (c' : Nat) (a'' : Option Addr) (c'' : Nat) (G H : List (List Int)) (f : List Int) (w : World) (hM : Mat w.heap.size w a G) (hM' : Mat w.heap.size w a' H) (hI : Ints w.heap.size w a'' f) (hf : Fit G) (hf' : Fit H) (hl : f.length ≤ 1048576) :
    Calls Try.prog 16 #[.slice a G.length c, .slice a' H.length c', .slice a'' f.length c''] w (Ans (.bool (mapOkI G H f)) w) := by
  have HF := Lib.hid hf
  have HF' := Lib.hid hf'
  have hlf := hf.1
  have hlf' := hf'.1
  clear hf hf'
  obtain ⟨z, HZ⟩ : ∃ z, Hid (mapOkI G H f = z) := ⟨_, rfl⟩
  rw [HZ.out]
  by_cases hg : gOk G = true
  · by_cases hg' : gOk H = true
    · have HG := Lib.hid (good_of hg)
      have HG' := Lib.hid (good_of hg')
      have h9' := HG'.out.2.1
      go_enter Try.func16, Try.ntmps16
      go_wp2_with fail
      refine (implOk _ _ _ _ hM HF.out).mono ?_
      rintro e w1 ⟨rfl, hB1⟩
      have hz1 := hB1.size
      have hM1 := hM.below hB1
      have hM1' := hM'.below hB1
      have hI1 := hI.below hB1
      clear hM hM' hI
      rw [hg]
      go_wp2_with fail
      refine (implOk _ _ _ _ (hM1'.more hz1) HF'.out).mono ?_
      rintro e w2 ⟨rfl, hB2⟩
      have hB02 := hB1.trans (hB2.mono hz1)
      have hM2 := hM1.below (hB2.mono hz1)
      have hM2' := hM1'.below (hB2.mono hz1)
      have hI2 := hI1.below (hB2.mono hz1)
      have hz2 := hB02.size
      clear hM1 hM1' hI1 hB1 hB2 hz1
      rw [hg']
      go_wp2_with fail
      have bG := ((Boxed.new w2 51 (.slice a G.length c)).alloc (.cells #[.slice a' H.length c'] 51))
      have bH := Boxed.new (w2.alloc (.cells #[.slice a G.length c] 51)) 51 (.slice a' H.length c')
      have hB2V : Below w2.heap.size w2 ((w2.alloc (.cells #[.slice a G.length c] 51)).alloc (.cells #[.slice a' H.length c'] 51)) := (((Below.refl _ w2).alloc (Nat.le_refl _) _).alloc (by simp) _)
      have es : ∀ (W : World) (o : Obj), (W.alloc o).heap.size = W.heap.size + 1 := fun W o => by simp
      rw [es] at bH
      obtain ⟨V, hV⟩ : ∃ V, (w2.alloc (.cells #[.slice a G.length c] 51)).alloc (.cells #[.slice a' H.length c'] 51) = V := ⟨_, rfl⟩
      rw [hV] at bG bH hB2V ⊢
      clear hV es
      have hB3 := hB02.trans (hB2V.mono hz2)
      have hM3 := hM2.below (hB2V.mono hz2)
      have hM3' := hM2'.below (hB2V.mono hz2)
      have hI3 := hI2.below (hB2V.mono hz2)
      have hz3 := hB3.size
      have cG := bG.cell
      have cH := bH.cell
      clear hM2 hM2' hI2 hB02 hB2V
      go_wp2_with fail
      refine (tellsP _ _ _ _ _ _ _ _ _ _ _ hI3 hz3 hl).mono ?_
      rintro e w4 ⟨rfl, hB4⟩
      have bG4 := (hB4.block _ bG.lt).trans bG
      have bH4 := (hB4.block _ bH.lt).trans bH
      have hB4' := hB3.trans (hB4.mono hz3)
      have hM4 := hM3.below (hB4.mono hz3)
      have hM4' := hM3'.below (hB4.mono hz3)
      have hI4 := hI3.below (hB4.mono hz3)
      have hz4 := hB4'.size
      have cG4 := Boxed.cell bG4
      have cH4 := Boxed.cell bH4
      clear hM3 hM3' hI3 hB3 hB4 cG cH bG bH bG4 bH4
      by_cases ht : tellsI G.length H.length f = true
      · have HT := Lib.hid ((tells_iff _ _ _).1 ht)
        have HL : Hid (z = leadsI G H f) := Lib.hid (HZ.out.symm.trans (mapOk_yes hg hg' ht))
        rw [ht]
        go_wp2_with fail
        refine (leadsAllP _ _ _ _ _ _ _ _ _ _ _ hM4 hM4' hI4 hz4 HG.out HG'.out HT.out).mono ?_
        rintro e w5 ⟨rfl, hB5⟩
        go_wp2_with fail
        go_ret
        exact ⟨ret_bool HL.out.symm, hB4'.trans (hB5.mono hz4)⟩
      · have hn : tellsI G.length H.length f = false := by simpa using ht
        have HL : Hid (z = false) := Lib.hid (HZ.out.symm.trans (mapOk_no3 hn))
        rw [hn]
        go_wp2_with fail
        go_ret
        exact ⟨ret_bool HL.out.symm, hB4'⟩
    · have hn : gOk H = false := by simpa using hg'
      have HL : Hid (z = false) := Lib.hid (HZ.out.symm.trans (mapOk_no2 hn))
      clear hg'
      go_enter Try.func16, Try.ntmps16
      go_wp2_with fail
      refine (implOk _ _ _ _ hM HF.out).mono ?_
      rintro e w1 ⟨rfl, hB1⟩
      have hz1 := hB1.size
      have hM1' := hM'.below hB1
      clear hM hM' hI
      rw [hg]
      go_wp2_with fail
      refine (implOk _ _ _ _ (hM1'.more hz1) HF'.out).mono ?_
      rintro e w2 ⟨rfl, hB2⟩
      have hB02 := hB1.trans (hB2.mono hz1)
      clear hM1' hB1 hB2
      rw [hn]
      go_wp2_with fail
      go_ret
      exact ⟨ret_bool HL.out.symm, hB02⟩
  · have hn : gOk G = false := by simpa using hg
    have HL : Hid (z = false) := Lib.hid (HZ.out.symm.trans (mapOk_no1 hn))
    clear hg
    go_enter Try.func16, Try.ntmps16
    go_wp2_with fail
    refine (implOk _ _ _ _ hM HF.out).mono ?_
    rintro e w1 ⟨rfl, hB1⟩
    clear hM hM' hI
    rw [hn]
    go_wp2_with fail
    go_ret
    exact ⟨ret_bool HL.out.symm, hB1⟩

end Go.Proofs.Ytmohmecdhabapab
