/-
  spec.JoinedOf, walked.
-/
import Derived.Test.YtimjijbjadkfnabZT
import Derived.Test.YtimjijbjadkfnabT5
import Derived.Test.YtimjijbjadkfnabJ5
import Derived.Test.YtimjijbjadkfnabZN
import Derived.Test.YtimjijbjadkfnabZI
namespace Go.Proofs.Ytimjijbjadkfnab
open Go.RowKit Go.Shelf Go.Deep

/-- THE MAP MADE OF TWO, from two graphs side by side; nothing for others. -/
def joiI (G H K : List (List Int)) (f e : List Int) : List Int := if besOk G H = true ∧ mapOkI G K f = true ∧ mapOkI H K e = true then f ++ e else []
theorem joiI_yes {G H K : List (List Int)} {f e : List Int} (h : besOk G H = true ∧ mapOkI G K f = true ∧ mapOkI H K e = true) : joiI G H K f e = f ++ e := if_pos h
theorem joiI_no {G H K : List (List Int)} {f e : List Int} (h : ¬ (besOk G H = true ∧ mapOkI G K f = true ∧ mapOkI H K e = true)) : joiI G H K f e = [] := if_neg h
theorem joi_small {G H K : List (List Int)} {f e : List Int} (h : besOk G H = true ∧ mapOkI G K f = true ∧ mapOkI H K e = true) : 1 ≤ f.length ∧ 1 ≤ e.length ∧ f.length + e.length ≤ 9 := by
  obtain ⟨hG, hH, h9⟩ := besOk_of h.1
  have h1 := (mapOk_iff.1 h.2.1).2.1.1
  have h2 := (mapOk_iff.1 h.2.2).2.1.1
  have := hG.1
  have := hH.1
  omega
theorem joiI_le {G H K : List (List Int)} {f e : List Int} (_hl : f.length ≤ 1048576) (_hl' : e.length ≤ 1048576) : (joiI G H K f e).length ≤ 1048576 := by
  by_cases h : besOk G H = true ∧ mapOkI G K f = true ∧ mapOkI H K e = true
  · rw [joiI_yes h, List.length_append]; have := joi_small h; omega
  · rw [joiI_no h]; simp

theorem own_pos {W : World} {base : Nat} {t : TypeId} {size n : Nat} {v : Value} {xs : List Value} (h : W.ownsRow base t size v n xs) (hn : 0 < n) : ∃ g cap, v = .slice (some ⟨g, 0, none⟩) n cap := by
  rcases h.2 with ⟨_, h0⟩ | ⟨g, cap, _, rfl, _⟩
  · omega
  · exact ⟨g, cap, rfl⟩

set_option maxRecDepth 100000 in
set_option maxHeartbeats 4000000 in
theorem specJoined (a a' a'' a3 a4 : Option Addr) (c c' c'' c3 c4 : Nat) (G H K : List (List Int)) (f e : List Int) (n₀ : Nat) (w : World) (hM : Mat n₀ w a G) (hM' : Mat n₀ w a' H) (hM'' : Mat n₀ w a'' K) (hI : Ints n₀ w a3 f) (hI' : Ints n₀ w a4 e) (hn : n₀ ≤ w.heap.size)
    (hf : Fit G) (hf' : Fit H) (hf'' : Fit K) (hl : f.length ≤ 1048576) (hl' : e.length ≤ 1048576) :
    Calls Try.prog 12 #[.slice a G.length c, .slice a' H.length c', .slice a'' K.length c'', .slice a3 f.length c3, .slice a4 e.length c4] w (ReadI (joiI G H K f e) w) := by
  obtain ⟨i1, hj, hy0, hy1, hy2⟩ := info_parts infoInt
  have hBes := specBeside a a' c c' G H n₀ w hM hM' hn hf hf'
  have HF := Lib.hid hf
  have HF' := Lib.hid hf'
  have HF'' := Lib.hid hf''
  obtain ⟨o, ho⟩ : ∃ o, besOk G H = o := ⟨_, rfl⟩
  obtain ⟨x, hx⟩ : ∃ x, mapOkI G K f = x := ⟨_, rfl⟩
  obtain ⟨y, hy⟩ : ∃ y, mapOkI H K e = y := ⟨_, rfl⟩
  have HO := Lib.hid ho
  have HX := Lib.hid hx
  have HY := Lib.hid hy
  obtain ⟨zs, HZ⟩ : ∃ zs, Hid (joiI G H K f e = zs) := ⟨_, rfl⟩
  rw [ho] at hBes
  rw [HZ.out]
  have HBes := Lib.hid hBes
  clear hx hy hBes ho hf hf' hf''
  go_enter Try.func12, Try.ntmps12
  go_wp2_with fail
  refine HBes.out.mono ?_
  rintro ee w1 ⟨b1, d1, ⟨rfl, hB1⟩, -⟩
  have hz1 := hB1.size
  have hM1 := hM.below (hB1.mono hn)
  have hM1' := hM'.below (hB1.mono hn)
  have hM1'' := hM''.below (hB1.mono hn)
  have hI1 := hI.below (hB1.mono hn)
  have hI1' := hI'.below (hB1.mono hn)
  clear hM hM' hM'' hI hI'
  cases o with
  | false =>
    have h0 : zs = [] := HZ.out.symm.trans (joiI_no fun h => by have h1 := h.1; rw [HO.out] at h1; cases h1)
    subst h0
    go_wp2_with fail
    go_ret
    exact ⟨_, _, ⟨rfl, hB1.alloc hz1 _⟩, fun h => absurd rfl h⟩
  | true =>
    go_wp2_with fail
    refine (specMapOk _ _ _ _ _ _ _ _ _ _ _ hM1 hM1'' hI1 HF.out HF''.out hl).mono ?_
    rw [HX.out]
    rintro ee w2 h2
    obtain ⟨rfl, hB2⟩ := h2.below
    have hB02 := hB1.trans (hB2.mono hz1)
    have hM2' := hM1'.below (hB2.mono (by omega))
    have hM2'' := hM1''.below (hB2.mono (by omega))
    have hI2 := hI1.below (hB2.mono (by omega))
    have hI2' := hI1'.below (hB2.mono (by omega))
    have hz2 := hB02.size
    clear hM1 hM1' hM1'' hI1 hI1' hB2 h2
    cases x with
    | false =>
      have h0 : zs = [] := HZ.out.symm.trans (joiI_no fun h => by have h1 := h.2.1; rw [HX.out] at h1; cases h1)
      subst h0
      go_wp2_with fail
      go_ret
      exact ⟨_, _, ⟨rfl, hB02.alloc hz2 _⟩, fun h => absurd rfl h⟩
    | true =>
      go_wp2_with fail
      refine (specMapOk _ _ _ _ _ _ _ _ _ _ _ hM2' hM2'' hI2' HF'.out HF''.out hl').mono ?_
      rw [HY.out]
      rintro ee w3 h3
      obtain ⟨rfl, hB3⟩ := h3.below
      have hB03 := hB02.trans (hB3.mono hz2)
      have hI3 := hI2.below (hB3.mono (by omega))
      have hI3' := hI2'.below (hB3.mono (by omega))
      have hz3 := hB03.size
      clear hM2' hM2'' hI2 hI2' hB3 h3
      cases y with
      | false =>
        have h0 : zs = [] := HZ.out.symm.trans (joiI_no fun h => by have h1 := h.2.2; rw [HY.out] at h1; cases h1)
        subst h0
        go_wp2_with fail
        go_ret
        exact ⟨_, _, ⟨rfl, hB03.alloc hz3 _⟩, fun h => absurd rfl h⟩
      | true =>
        have hsm := joi_small ⟨HO.out, HX.out, HY.out⟩
        have hzs : zs = f ++ e := HZ.out.symm.trans (joiI_yes ⟨HO.out, HX.out, HY.out⟩)
        have HZS := Lib.hid hzs
        clear hzs
        obtain ⟨hf1, he1, h9⟩ := hsm
        obtain ⟨b3, o3, _, rfl, hb3, -, -⟩ := hI3.at_ (k := 0) (by omega)
        obtain ⟨b4, o4, _, rfl, hb4, -, -⟩ := hI3'.at_ (k := 0) (by omega)
        have hIa := hI3.below ((Below.refl n₀ w3).alloc (by omega) (.cells #[] 3))
        have hIb := hI3'.below ((Below.refl n₀ w3).alloc (by omega) (.cells #[] 3))
        have hown0 : (w3.alloc (.cells #[] 3)).ownsRow w3.heap.size 3 1 (.slice (some ⟨w3.heap.size, 0, none⟩) 0 0) 0 [] := World.ownsRow_lit (size := 1) w3 #[] 0 (Nat.le_refl _) (Nat.zero_le _) rfl
        have hone : ∀ (zs : List Int), ∀ u ∈ zs.map (Value.int .i64), u.oneCell' = true := fun zs u hu => by obtain ⟨x, _, rfl⟩ := List.mem_map.1 hu; rfl
        have HONE := Lib.hid hone
        clear hone
        go_wp2_with (first
          | (at_builtin; refine wpList_append_own _ rfl _ _ 24 rfl w3.heap.size 3 i1 (.int .i64 0) 1 8 Try.underlying24 hj hy0 hy1 hy2 rfl (by decide) (.slice (some ⟨w3.heap.size, 0, none⟩) 0 0) 0 [] rfl hown0 ⟨b3, o3, none⟩ f.length c3 (f.map (Value.int .i64)) rfl (by simp) (ints_news hIa) (HONE.out f) (by unfold maxLen; omega) (by omega) (by simp) ?_; intro v4 w4 hown4 hgrow4 _; rw [Nat.zero_add, List.nil_append] at hown4; obtain ⟨g4, cap4, rfl⟩ := own_pos hown4 hf1; have hB4 : Below w3.heap.size w3 w4 := ((Below.refl _ w3).alloc (Nat.le_refl _) _).grown hgrow4 (by simp) (fun r e => by have e' : some w3.heap.size = some r := e; cases e'; exact Nat.le_refl _); have hIc := hI3'.below (hB4.mono (by omega)); have hlg4 := (hown4.lt g4 rfl).1; have hz4 := hB4.size; clear hgrow4 hown0)
          | (at_builtin; refine wpList_append_own _ rfl _ _ 24 rfl w3.heap.size 3 i1 (.int .i64 0) 1 8 Try.underlying24 hj hy0 hy1 hy2 rfl (by decide) (.slice (some ⟨g4, 0, none⟩) f.length cap4) f.length (f.map (Value.int .i64)) rfl hown4 ⟨b4, o4, none⟩ e.length c4 (e.map (Value.int .i64)) rfl (by simp) (ints_news hIc) (HONE.out e) (by unfold maxLen; omega) (by omega) (by omega) ?_; intro v5 w5 hown5 hgrow5 _; obtain ⟨g5, cap5, rfl⟩ := own_pos hown5 (by omega); have hB5 : Below w3.heap.size w3 w5 := hB4.grown hgrow5 hz4 (fun r e => by have e' : some g4 = some r := e; cases e'; exact hlg4); have HO5 := Lib.hid hown5; clear hgrow5 hown4 hown5))
        go_ret
        have h5 := HO5.out
        rw [← List.map_append] at h5
        refine ⟨_, _, ⟨by rw [HZS.out, List.length_append]; rfl, hB03.trans (hB5.mono hz3)⟩, ?_⟩
        rw [HZS.out]
        exact own_intsT (by rw [List.length_append]) h5

end Go.Proofs.Ytimjijbjadkfnab
