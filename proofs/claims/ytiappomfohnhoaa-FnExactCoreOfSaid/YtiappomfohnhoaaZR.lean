/-
  Several texts in one.
  A row sorted, with what is equal left out, is its image: pure facts.
  impl.imageOf, impl.apart, impl.coredOk, impl.StaysOk, impl.ImageOf, impl.RigidOk.
  impl.fewestKept and its closure: the best so far.
  impl.CoreOk, impl.TurnsOf.
  impl.fewestThatStay, impl.StaysOf.
  impl.StaysOf, impl.CoreOf.
-/
import Derived.Lib.SlicesCompact
import Derived.Test.YtiappomfohnhoaaZU
import Derived.Lib.OwnBridge
import Derived.Sort.OwnSortedInts
import Derived.Test.YtiappomfohnhoaaZV
import Derived.Test.YtiappomfohnhoaaW0
import Derived.Test.YtiappomfohnhoaaM7
import Derived.Test.YtiappomfohnhoaaZQ
import Derived.Test.YtiappomfohnhoaaZI
import Derived.Test.YtiappomfohnhoaaM11a
import Derived.Test.YtiappomfohnhoaaSh3
import Derived.Test.YtiappomfohnhoaaZX
import Derived.WalkMore
import Derived.Test.YtiappomfohnhoaaM11
namespace Go.Proofs.Ytiappomfohnhoaa
open Go.RowKit Go.Shelf Go.Deep

theorem inc_ext : ∀ {l m : List Int}, l.Pairwise (· < ·) → m.Pairwise (· < ·) → (∀ x, x ∈ l ↔ x ∈ m) → l = m
  | [], [], _, _, _ => rfl
  | [], y :: m, _, _, h => absurd ((h y).2 (by simp)) (by simp)
  | x :: l, [], _, _, h => absurd ((h x).1 (by simp)) (by simp)
  | x :: l, y :: m, hl, hm, h => by
    obtain ⟨h1, h2⟩ := List.pairwise_cons.1 hl
    obtain ⟨h3, h4⟩ := List.pairwise_cons.1 hm
    have e : x = y := by
      rcases List.mem_cons.1 ((h x).1 (by simp)) with e | hx
      · exact e
      · rcases List.mem_cons.1 ((h y).2 (by simp)) with e | hy
        · exact e.symm
        · have := h1 y hy; have := h3 x hx; omega
    subst e
    congr 1
    refine inc_ext h2 h4 fun z => ⟨fun hz => ?_, fun hz => ?_⟩
    · rcases List.mem_cons.1 ((h z).1 (List.mem_cons_of_mem _ hz)) with e | hz'
      · have := h1 z hz; omega
      · exact hz'
    · rcases List.mem_cons.1 ((h z).2 (List.mem_cons_of_mem _ hz)) with e | hz'
      · have := h3 z hz; omega
      · exact hz'
theorem imgL_inc (m : Nat) (f : List Int) : (imgL m f).Pairwise (· < ·) := by
  unfold imgL imgN
  refine List.pairwise_map.2 ((List.pairwise_lt_range.filter _).imp fun h => ?_)
  omega
theorem compact_upto (d : Array Int) (hs : ∀ i j, i ≤ j → j < d.size → d[i]! ≤ d[j]!) : ∀ m, m ≤ d.size → (Lib.compactUpTo d m).Pairwise (· < ·) ∧ (∀ x ∈ Lib.compactUpTo d m, ∃ j, j < m ∧ d[j]! = x) ∧ ∀ j, j < m → d[j]! ∈ Lib.compactUpTo d m
  | 0, _ => by simp [Lib.compactUpTo]
  | m + 1, hm => by
    obtain ⟨h1, h2, h3⟩ := compact_upto d hs m (by omega)
    rw [Lib.compactUpTo_succ]
    by_cases hk : Lib.keeps d m = true
    · rw [if_pos hk]
      refine ⟨List.pairwise_append.2 ⟨h1, List.pairwise_singleton _ _, fun x hx y hy => ?_⟩, fun x hx => ?_, fun j hj => ?_⟩
      · obtain ⟨j, hj, rfl⟩ := h2 x hx
        rw [List.mem_singleton.1 hy]
        have hne : d[m]! ≠ d[m - 1]! := by
          simp [Lib.keeps] at hk
          rcases hk with h0 | h0
          · omega
          · exact h0
        have a1 := hs j (m - 1) (by omega) (by omega)
        have a2 := hs (m - 1) m (by omega) (by omega)
        omega
      · rcases List.mem_append.1 hx with hx | hx
        · obtain ⟨j, hj, e⟩ := h2 x hx
          exact ⟨j, by omega, e⟩
        · exact ⟨m, by omega, (List.mem_singleton.1 hx).symm⟩
      · by_cases hjm : j < m
        · exact List.mem_append.2 (.inl (h3 j hjm))
        · have : j = m := by omega
          subst this
          simp
    · rw [if_neg hk, List.append_nil]
      refine ⟨h1, fun x hx => ?_, fun j hj => ?_⟩
      · obtain ⟨j, hj, e⟩ := h2 x hx
        exact ⟨j, by omega, e⟩
      · by_cases hjm : j < m
        · exact h3 j hjm
        · have : j = m := by omega
          subst this
          simp [Lib.keeps] at hk
          rw [hk.2]
          exact h3 (j - 1) (by omega)
/-- WHAT imageOf TELLS. -/
theorem compact_img {m : Nat} {f : List Int} (ht : ∀ y ∈ f, 0 ≤ y ∧ y < (m : Int)) : Lib.compact (f.mergeSort fun x y => decide (x ≤ y)) = imgL m f := by
  obtain ⟨s, hs⟩ : ∃ s, f.mergeSort (fun x y => decide (x ≤ y)) = s := ⟨_, rfl⟩
  have hp : s.Pairwise fun x y => decide (x ≤ y) = true := by
    rw [← hs]
    exact List.pairwise_mergeSort (fun a b c h1 h2 => by simp at h1 h2 ⊢; omega) (fun a b => by simp; omega) f
  have hmem : ∀ x, x ∈ s ↔ x ∈ f := fun x => by rw [← hs]; exact List.mem_mergeSort
  rw [hs]
  have hg : ∀ (j : Nat) (h : j < s.length), s.toArray[j]! = s[j] := fun j h => by simp [getElem!_pos, h]
  obtain ⟨h1, h2, h3⟩ := compact_upto s.toArray (fun i j hij hj => by
    have hj' : j < s.length := by simpa using hj
    rw [hg j hj', hg i (by omega)]
    rcases Nat.lt_or_ge i j with hlt | hge
    · simpa using (List.pairwise_iff_getElem.1 hp) i j (by omega) hj' hlt
    · have : i = j := by omega
      subst this
      exact Int.le_refl _) s.length (by simp)
  refine inc_ext h1 (imgL_inc m f) fun x => ⟨fun hx => ?_, fun hx => ?_⟩
  · obtain ⟨j, hj, e⟩ := h2 x hx
    rw [hg j hj] at e
    have hxf : x ∈ f := (hmem x).1 (e ▸ List.getElem_mem hj)
    exact imgL_mem.2 ⟨ht x hxf, hxf⟩
  · obtain ⟨j, hj, e⟩ := List.mem_iff_getElem.1 ((hmem x).2 (imgL_mem.1 hx).2)
    have := h3 j hj
    rw [hg j hj, e] at this
    exact this

end Go.Proofs.Ytiappomfohnhoaa

namespace Go.Proofs.Ytiappomfohnhoaa
open Go.RowKit Go.Shelf Go.Deep

theorem sorted_compact {w w1 : World} {g cap n nn q : Nat} {os : Array Obj} {ss : List Int} (hown : w1.ownsRow w.heap.size 3 1 (.slice (some ⟨g, 0, none⟩) n cap) n (ss.map (Value.int .i64))) (hbel : Below w.heap.size w w1) (hbg : w.heap.size ≤ g) (hlen : ss.length = n) :
    (Sort.putRow (Value.int .i64) (Sort.ahead (Sort.grow (Sort.putRow (Value.int .i64) (Sort.ahead w1 nn) g 0 (ss.mergeSort fun x y => decide (x ≤ y)).toArray) os) q) g 0 (Lib.compact (ss.mergeSort fun x y => decide (x ≤ y)) ++ List.replicate (n - (Lib.compact (ss.mergeSort fun x y => decide (x ≤ y))).length) 0).toArray).ownsRow w.heap.size 3 1 (.slice (some ⟨g, 0, none⟩) (Lib.compact (ss.mergeSort fun x y => decide (x ≤ y))).length cap) (Lib.compact (ss.mergeSort fun x y => decide (x ≤ y))).length ((Lib.compact (ss.mergeSort fun x y => decide (x ≤ y))).map (Value.int .i64)) ∧
    Below w.heap.size w (Sort.putRow (Value.int .i64) (Sort.ahead (Sort.grow (Sort.putRow (Value.int .i64) (Sort.ahead w1 nn) g 0 (ss.mergeSort fun x y => decide (x ≤ y)).toArray) os) q) g 0 (Lib.compact (ss.mergeSort fun x y => decide (x ≤ y)) ++ List.replicate (n - (Lib.compact (ss.mergeSort fun x y => decide (x ≤ y))).length) 0).toArray) := by
  have hl2 : (ss.mergeSort fun x y => decide (x ≤ y)).length = ss.length := List.length_mergeSort ss
  have hle := Lib.compact_length_le (ss.mergeSort fun x y => decide (x ≤ y))
  subst hlen
  rcases hown.2 with ⟨h0, _⟩ | ⟨g', cap', cur, hv, hbase, hb, h1, h2, h3, h4⟩
  · cases h0
  cases hv
  have hs := Go.ownsRow_sortedI (n := nn) (os := os) (ts := ss.mergeSort fun x y => decide (x ≤ y)) hl2 hbase hb h1 h2 h3
  have hc := Lib.ownsRow_putRow (q := q) (k := (Lib.compact (ss.mergeSort fun x y => decide (x ≤ y))).length) (ys := Lib.compact (ss.mergeSort fun x y => decide (x ≤ y)) ++ List.replicate (ss.length - (Lib.compact (ss.mergeSort fun x y => decide (x ≤ y))).length) 0) hs (by simp; omega) (by omega)
  rw [List.take_left] at hc
  exact ⟨hc, Lib.below_putRow (hbel.grown (Go.grownBy_sortedI _) hbel.size (fun j hj => by cases hj; exact hbase)) hbg⟩

set_option maxRecDepth 100000 in
set_option maxHeartbeats 2000000 in
/-- impl.imageOf: a row's numbers, ascending. -/
theorem imageP (a : Option Addr) (c m : Nat) (f : List Int) (w : World) (hI : Ints w.heap.size w a f) (h1 : 1 ≤ f.length) (hl : f.length ≤ 1048576) (ht : ∀ y ∈ f, 0 ≤ y ∧ y < (m : Int)) :
    Calls Try.prog 63 #[.slice a f.length c] w (MadeOwn (imgL m f) w) := by
  obtain ⟨b, o, rfl, _, hc⟩ := hI (fun e => by simp [e] at h1)
  have hCl := slices_Clone_int b o f.length c f w (Nat.le_refl _) (by omega) (fun j hj => by rw [hc j hj]; simp [List.getD])
  rw [List.take_length] at hCl
  have HCl := Lib.hid hCl
  have HE := Lib.hid (compact_img ht)
  obtain ⟨n, hn⟩ : ∃ n, f.length = n := ⟨_, rfl⟩
  have HN := Lib.hid hn
  rw [hn] at HCl hl h1 ⊢
  clear hCl hc hI ht hn
  go_enter Try.func63, Try.ntmps63
  go_wp2_with fail
  refine HCl.out.mono ?_
  rintro e w1 ⟨v1, rfl, hown, hnn, hbel⟩
  obtain ⟨g, cap, rfl, hbg, hgl, hncap, hcm, _, hH⟩ := Lib.holds_of_ownsRow hown hnn
  have hsort := slices_Sort_int g 0 cap f w1 hH hgl (by rw [HN.out]; omega)
  rw [HN.out] at hsort
  have HS := Lib.hid hsort
  have HX := Lib.hid (And.intro hown (And.intro hbel (And.intro hbg hgl)))
  have HH := Lib.hid hH
  clear hown hbel hnn hH hsort
  go_wp2_with fail
  refine HS.out.mono ?_
  rintro e w2 ⟨rfl, nn, os, rfl⟩
  have hl2 : (f.mergeSort fun x y => decide (x ≤ y)).length = n := by rw [List.length_mergeSort]; exact HN.out
  have hH2 : Sort.Holds (Value.int .i64) (Sort.grow (Sort.putRow (Value.int .i64) (Sort.ahead w1 nn) g 0 (f.mergeSort fun x y => decide (x ≤ y)).toArray) os) g 0 (f.mergeSort fun x y => decide (x ≤ y)).toArray :=
    Sort.holds_grow (Value.int .i64) _ os g 0 _ (by simpa [Sort.putRow, Sort.mapBlock, Sort.ahead] using hgl) (Sort.holds_putRow (Value.int .i64) _ g 0 _ _ (Sort.holds_ahead (Value.int .i64) w1 nn g 0 _ HH.out) (by simp))
  have hcomp := slices_Compact_int g 0 cap (f.mergeSort fun x y => decide (x ≤ y)) _ hH2 (by omega) (by omega)
  rw [hl2] at hcomp
  have HC := Lib.hid hcomp
  obtain ⟨W2, hW2⟩ : ∃ W2, Sort.grow (Sort.putRow (Value.int .i64) (Sort.ahead w1 nn) g 0 (f.mergeSort fun x y => decide (x ≤ y)).toArray) os = W2 := ⟨_, rfl⟩
  rw [hW2] at HC ⊢
  have HW := Lib.hid hW2
  clear hH2 hcomp hW2 hl2
  go_wp2_with fail
  refine HC.out.mono ?_
  rintro e w3 ⟨rfl, q, rfl⟩
  go_wp2_with fail
  go_ret
  have hfin := sorted_compact (nn := nn) (os := os) (q := q) HX.out.1 HX.out.2.1 HX.out.2.2.1 HN.out
  rw [HW.out, HE.out] at hfin
  rw [HE.out]
  exact ⟨_, cap, ⟨rfl, hfin.2⟩, hfin.1⟩

set_option maxRecDepth 100000 in
set_option maxHeartbeats 1000000 in
theorem apartP (a : Option Addr) (c m : Nat) (f : List Int) (w : World) (hI : Ints w.heap.size w a f) (h1 : 1 ≤ f.length) (hl : f.length ≤ 1048576) (ht : ∀ y ∈ f, 0 ≤ y ∧ y < (m : Int)) (hm : m ≤ 1048576) :
    Calls Try.prog 72 #[.slice a f.length c] w (Ans (.bool (decide ((imgL m f).length = f.length))) w) := by
  have hIm := imageP a c m f w hI h1 hl ht
  have hle : (imgL m f).length ≤ 1048576 := Nat.le_trans (imgL_le f) hm
  obtain ⟨z, hz⟩ : ∃ z, imgL m f = z := ⟨_, rfl⟩
  rw [hz] at hIm hle ⊢
  have HIm := Lib.hid hIm
  clear hIm hz ht hI
  go_enter Try.func72, Try.ntmps72
  go_wp2_with fail
  refine HIm.out.mono ?_
  rintro e w1 ⟨a1, c1, ⟨rfl, hB1⟩, hO1⟩
  clear hO1
  go_wp2_with fail
  go_ret
  exact ⟨ret_bool (by rw [Bool.eq_iff_iff]; simp; omega), hB1⟩

set_option maxRecDepth 100000 in
set_option maxHeartbeats 1000000 in
theorem coredP (a : Option Addr) (c : Nat) (G : List (List Int)) (w : World) (hM : Mat w.heap.size w a G) (hF : Fit G) :
    Calls Try.prog 70 #[.slice a G.length c] w (Ans (.bool (g5 G)) w) := by
  have HOk := Lib.hid (implOk a c G w hM hF)
  have hl := hF.1
  obtain ⟨n, hn⟩ : ∃ n, G.length = n := ⟨_, rfl⟩
  have e : g5 G = (gOk G && decide (n ≤ 5)) := by unfold g5; rw [hn]
  rw [e]
  rw [hn] at HOk hl ⊢
  obtain ⟨y, hy⟩ : ∃ y, gOk G = y := ⟨_, rfl⟩
  rw [hy] at HOk ⊢
  clear hn hy hM hF e
  go_enter Try.func70, Try.ntmps70
  go_wp2_with fail
  refine HOk.out.mono ?_
  rintro e w1 ⟨rfl, hB1⟩
  cases y with
  | false =>
    go_wp2_with fail
    go_ret
    exact ⟨rfl, hB1⟩
  | true =>
    go_wp2_with fail
    go_ret
    exact ⟨ret_bool (by rw [Bool.eq_iff_iff]; simp; omega), hB1⟩

set_option maxRecDepth 100000 in
set_option maxHeartbeats 1000000 in
theorem implStays (a a' : Option Addr) (c c' : Nat) (G : List (List Int)) (f : List Int) (w : World) (hM : Mat w.heap.size w a G) (hI : Ints w.heap.size w a' f) (hF : Fit G) (hl : f.length ≤ 1048576) :
    Calls Try.prog 45 #[.slice a G.length c, .slice a' f.length c'] w (Ans (.bool (stysI G f)) w) := by
  have HMap := Lib.hid (implMapOk a c a c a' c' G G f w hM hM hI hF hF hl)
  have HF := Lib.hid hF
  clear hF
  by_cases hm : mapOkI G G f = true
  · rw [hm] at HMap
    have HE := Lib.hid (stys_beh hm)
    have HB := Lib.hid (behI_yes hm hm)
    have h1 : 1 ≤ f.length := by
      have h2 := mapOk_iff.1 hm
      rw [h2.2.1.1]
      exact (good_of h2.1.1).1
    have hlz := behL_length f f
    obtain ⟨z, hz⟩ : ∃ z, behL f f = z := ⟨_, rfl⟩
    rw [hz] at HE HB hlz
    obtain ⟨b3, o3, rfl, _, _⟩ := hI (fun e => by simp [e] at h1)
    have HBe : Hid (∀ w1 : World, Below w.heap.size w w1 → Calls Try.prog 59 #[.slice a G.length c, .slice a G.length c, .slice a G.length c, .slice (some ⟨b3, o3, none⟩) f.length c', .slice (some ⟨b3, o3, none⟩) f.length c'] w1 (MadeI z w1)) := Lib.hid fun w1 hB1 => by
      have hM1 := (hM.below hB1).more hB1.size
      have hI1 := (hI.below hB1).more hB1.size
      have := implBehind a a a (some ⟨b3, o3, none⟩) (some ⟨b3, o3, none⟩) c c c c' c' G G G f f w1 hM1 hM1 hM1 hI1 hI1 HF.out HF.out HF.out hl hl
      rw [HB.out] at this
      exact this
    have HI := Lib.hid hI
    have HLZ := Lib.hid hlz
    clear hm hz hM hI HB hlz
    go_enter Try.func45, Try.ntmps45
    go_wp2_with fail
    refine HMap.out.mono ?_
    rintro e w1 ⟨rfl, hB1⟩
    go_wp2_with fail
    refine (HBe.out w1 hB1).mono ?_
    rintro e w2 ⟨a2, c2, ⟨he, hB2⟩, hO2⟩
    rw [HLZ.out] at he
    subst he
    have hz1 := hB1.size
    have hz2 := hB2.size
    have hB2w := hB1.trans (hB2.mono hz1)
    obtain ⟨b2, o2, rfl, _, hc2⟩ := hO2.ints (fun e => by have := HLZ.out; rw [e] at this; simp at this; omega)
    obtain ⟨b4, o4, e4, _, hc4⟩ := (HI.out.below hB2w) (fun e => by simp [e] at h1)
    cases e4
    have hEq := slices_Equal_int b2 o2 f.length c2 b3 o3 f.length c' z f w2 (by rw [HLZ.out]; exact Nat.le_refl _) (Nat.le_refl _) (by omega) (by omega) (fun j hj => by rw [hc2 j hj]; simp [List.getD]) (fun j hj => by rw [hc4 j hj]; simp [List.getD])
    have HEq := Lib.hid hEq
    clear hEq hc2 hc4 hO2
    go_wp2_with fail
    refine HEq.out.mono ?_
    rintro e w3 ⟨rfl, q, rfl⟩
    go_wp2_with fail
    go_ret
    refine ⟨ret_bool ?_, hB2w.os, hB2w.tape, hB2w.output, hB2w.size, hB2w.block⟩
    have e2 : z.take f.length = z := by rw [← HLZ.out]; exact List.take_length
    rw [HE.out, e2, Bool.eq_iff_iff]
    simp
  · have hn : mapOkI G G f = false := by simpa using hm
    rw [hn] at HMap
    have HE : Hid (stysI G f = false) := Lib.hid (by unfold stysI; rw [hn]; rfl)
    clear hm hn hM hI
    go_enter Try.func45, Try.ntmps45
    go_wp2_with fail
    refine HMap.out.mono ?_
    rintro e w1 ⟨rfl, hB1⟩
    go_wp2_with fail
    go_ret
    exact ⟨ret_bool HE.out.symm, hB1⟩

set_option maxRecDepth 100000 in
set_option maxHeartbeats 1000000 in
theorem implImage (a a' a'' : Option Addr) (c c' c'' : Nat) (G H : List (List Int)) (f : List Int) (w : World) (hM : Mat w.heap.size w a G) (hM' : Mat w.heap.size w a' H) (hI : Ints w.heap.size w a'' f) (hF : Fit G) (hF' : Fit H) (hl : f.length ≤ 1048576) :
    Calls Try.prog 36 #[.slice a G.length c, .slice a' H.length c', .slice a'' f.length c''] w (MadeOwn (imaI G H f) w) := by
  have HMap := Lib.hid (implMapOk a c a' c' a'' c'' G H f w hM hM' hI hF hF' hl)
  obtain ⟨z, hz⟩ : ∃ z, imaI G H f = z := ⟨_, rfl⟩
  have HZ := Lib.hid hz
  rw [hz]
  clear hz hF hF' hM hM'
  by_cases hm : mapOkI G H f = true
  · rw [hm] at HMap
    have h2 := mapOk_iff.1 hm
    have h1 : 1 ≤ f.length := by
      rw [h2.2.1.1]
      exact (good_of h2.1.1).1
    have ht := Lib.hid (fun y (hy : y ∈ f) => tells_mem h2.2.1 hy)
    have HE : Hid (imgL H.length f = z) := Lib.hid (by rw [← HZ.out]; unfold imaI; rw [if_pos hm])
    clear hm h2 HZ
    go_enter Try.func36, Try.ntmps36
    go_wp2_with fail
    refine HMap.out.mono ?_
    rintro e w1 ⟨rfl, hB1⟩
    have hz1 := hB1.size
    have HIm := Lib.hid (imageP a'' c'' H.length f w1 ((hI.below hB1).more hz1) h1 hl ht.out)
    rw [HE.out] at HIm
    clear hI
    go_wp2_with fail
    refine HIm.out.mono ?_
    rintro e w2 ⟨a2, c2, ⟨rfl, hB2⟩, hO2⟩
    have HO := Lib.hid (Joins.ownsRow_le hO2 hz1)
    clear hO2
    go_wp2_with fail
    go_ret
    exact ⟨a2, c2, ⟨rfl, hB1.trans (hB2.mono hz1)⟩, HO.out⟩
  · have hn : mapOkI G H f = false := by simpa using hm
    rw [hn] at HMap
    have h0 : z = [] := by rw [← HZ.out]; unfold imaI; rw [if_neg hm]
    subst h0
    clear hm hn hI HZ
    go_enter Try.func36, Try.ntmps36
    go_wp2_with fail
    refine HMap.out.mono ?_
    rintro e w1 ⟨rfl, hB1⟩
    go_wp2_with fail
    go_ret
    exact ⟨none, 0, ⟨rfl, hB1⟩, World.ownsRow_nil _ _ _ 1⟩

set_option maxRecDepth 100000 in
set_option maxHeartbeats 1000000 in
theorem implRigid (a : Option Addr) (c : Nat) (G : List (List Int)) (w : World) (hM : Mat w.heap.size w a G) (hF : Fit G) :
    Calls Try.prog 41 #[.slice a G.length c] w (Ans (.bool (rigI G)) w) := by
  have HOk := Lib.hid (coredP a c G w hM hF)
  have HF := Lib.hid hF
  obtain ⟨y, hy⟩ : ∃ y, g5 G = y := ⟨_, rfl⟩
  obtain ⟨k, hk⟩ : ∃ k, countI G G = k := ⟨_, rfl⟩
  have HK := Lib.hid hk
  have e : rigI G = (y && decide (k = 1)) := by unfold rigI; rw [hy, hk]
  rw [e]
  rw [hy] at HOk
  have hk0 : -1 ≤ k := by rw [← hk]; unfold countI; split <;> omega
  have hk1 : k ≤ 7000 := by
    rw [← hk]
    unfold countI
    split
    · have := mapsL_le G G; omega
    · omega
  clear hy hk hF e
  go_enter Try.func41, Try.ntmps41
  go_wp2_with fail
  refine HOk.out.mono ?_
  rintro e w1 ⟨rfl, hB1⟩
  have hz1 := hB1.size
  have hM1 := (hM.below hB1).more hz1
  clear hM
  cases y with
  | false =>
    go_wp2_with fail
    go_ret
    exact ⟨rfl, hB1⟩
  | true =>
    have HC := Lib.hid (implCount a c a c G G w1 hM1 hM1 HF.out HF.out)
    rw [HK.out] at HC
    go_wp2_with fail
    refine HC.out.mono ?_
    rintro e w2 ⟨rfl, hB2⟩
    go_wp2_with fail
    go_ret
    exact ⟨ret_bool (by rw [Bool.eq_iff_iff]; simp), hB1.trans (hB2.mono hz1)⟩

end Go.Proofs.Ytiappomfohnhoaa

namespace Go.Proofs.Ytiappomfohnhoaa
open Go.RowKit Go.Shelf Go.Deep

attribute [local go_sem] Oper.semAt_some

/-- Two boxes may turn, and nothing else that was there. -/
structure Kept2 (F B : Nat) (w w' : World) : Prop where
  os : w'.os = w.os
  tape : w'.tape = w.tape
  output : w'.output = w.output
  size : w.heap.size ≤ w'.heap.size
  block : ∀ k, k < w.heap.size → k ≠ F → k ≠ B → w'.heap[k]? = w.heap[k]?
theorem Kept2.of_below {F B : Nat} {w w' : World} (h : Below w.heap.size w w') : Kept2 F B w w' := ⟨h.os, h.tape, h.output, h.size, fun k hk _ _ => h.block k hk⟩
theorem Kept2.trans {F B : Nat} {x y z : World} (h : Kept2 F B x y) (k : Kept2 F B y z) : Kept2 F B x z :=
  ⟨k.os.trans h.os, k.tape.trans h.tape, k.output.trans h.output, Nat.le_trans h.size k.size, fun j hj h1 h2 => (k.block j (Nat.lt_of_lt_of_le hj h.size) h1 h2).trans (h.block j hj h1 h2)⟩
theorem Kept2.setF {F B : Nat} (w : World) (j : Nat) (v : Value) : Kept2 F B w (w.setCell ⟨F, j, none⟩ v) := ⟨rfl, rfl, rfl, by simp, fun k _ h1 _ => Below.heap_setCell w ⟨F, j, none⟩ v k h1⟩
theorem Kept2.setB {F B : Nat} (w : World) (j : Nat) (v : Value) : Kept2 F B w (w.setCell ⟨B, j, none⟩ v) := ⟨rfl, rfl, rfl, by simp, fun k _ _ h2 => Below.heap_setCell w ⟨B, j, none⟩ v k h2⟩
theorem Kept2.box {F B : Nat} {w w' : World} (h : Kept2 F B w w') {k : Nat} {t : TypeId} {v : Value} (b : Boxed w k t v) (h1 : k ≠ F) (h2 : k ≠ B) : Boxed w' k t v := (h.block k b.lt h1 h2).trans b
theorem Kept2.below {F B n : Nat} {w w' : World} (h : Kept2 F B w w') (h1 : n ≤ F) (h2 : n ≤ B) (hn : n ≤ w.heap.size) : Below n w w' := ⟨h.os, h.tape, h.output, h.size, fun k hk => h.block k (by omega) (by omega) (by omega)⟩

theorem grownBy_setQ6 (W : World) (b j : Nat) (x : Value) : W.grownBy (W.setCell ⟨b, j, none⟩ x) (some b) :=
  ⟨rfl, rfl, rfl, by simp, fun k _ hk => Below.heap_setCell W ⟨b, j, none⟩ x k (fun e => hk (by rw [show k = b from e]))⟩
/-- What the closure does with a row. -/
def KeepOut (F B N : Nat) (v : Value) (fw : Nat) (m : Nat) (x : List Int) (w : World) (e : Ending) (w' : World) : Prop :=
  ∃ v', e = .returned v' ∧ Kept2 F B w w' ∧ Boxed w' B 29 v' ∧ ((m < fw ∧ Boxed w' F 3 (.int .i64 m) ∧ w'.ownsRow w.heap.size 3 1 v' N (x.map (Value.int .i64))) ∨ (¬ m < fw ∧ Boxed w' F 3 (.int .i64 fw) ∧ v' = v))

set_option maxRecDepth 100000 in
set_option maxHeartbeats 2000000 in
theorem keepP (F B b N : Nat) (v : Value) (fw : Nat) (x : List Int) (w : World) (hFB : F ≠ B) (bF : Boxed w F 3 (.int .i64 fw)) (bB : Boxed w B 29 v) (hI : Ints w.heap.size w (some ⟨b, 0, none⟩) x) (hx : x.length = N) (h1 : 1 ≤ N) (h9 : N ≤ 9) (ht : ∀ y ∈ x, 0 ≤ y ∧ y < (N : Int)) :
    Calls Try.prog 117 #[.slice (some ⟨b, 0, none⟩) N N, .pointer (some ⟨F, 0, none⟩), .pointer (some ⟨B, 0, none⟩)] w (KeepOut F B N v fw (imgL N x).length x w) := by
  have hIm := imageP (some ⟨b, 0, none⟩) N N x w hI (by omega) (by omega) ht
  have hm9 : (imgL N x).length ≤ N := imgL_le x
  obtain ⟨z, hz⟩ : ∃ z, imgL N x = z := ⟨_, rfl⟩
  rw [hz] at hIm hm9 ⊢
  rw [hx] at hIm
  have HIm := Lib.hid hIm
  obtain ⟨m, hm⟩ : ∃ m, z.length = m := ⟨_, rfl⟩
  have HM := Lib.hid hm
  rw [hm] at hm9 ⊢
  have HX := Lib.hid hx
  have HCl : Hid (∀ w1 : World, Below w.heap.size w w1 → Calls Try.prog 69 #[.slice (some ⟨b, 0, none⟩) N N] w1 fun e w' => ∃ g cap, e = .returned (.slice (some ⟨g, 0, none⟩) N cap) ∧ Below w1.heap.size w1 w' ∧ w'.ownsRow w1.heap.size 3 1 (.slice (some ⟨g, 0, none⟩) N cap) N (x.map (Value.int .i64))) := Lib.hid fun w1 hB => by
    have := cloneRow b N x w1 ((hI.below hB).more hB.size) (by omega) (by omega)
    rw [HX.out] at this
    exact this
  clear hIm hz hm hI hx ht
  go_enter Try.func117, Try.ntmps117
  go_wp2_with fail
  refine HIm.out.mono ?_
  rintro e w1 ⟨a1, c1, ⟨he, hB1⟩, hO1⟩
  rw [HM.out] at he
  subst he
  clear hO1
  have hz1 := hB1.size
  have bF1 : Boxed w1 F 3 (.int .i64 fw) := (hB1.block _ bF.lt).trans bF
  have bB1 : Boxed w1 B 29 v := (hB1.block _ bB.lt).trans bB
  have cF := bF1.cell
  have cB := bB1.cell
  by_cases hlt : m < fw
  · go_wp2_with fail
    refine (HCl.out w1 hB1).mono ?_
    rintro e w2 ⟨g, cap, rfl, hB2, hown⟩
    have bF2 : Boxed w2 F 3 (.int .i64 fw) := (hB2.block _ bF1.lt).trans bF1
    have bB2 : Boxed w2 B 29 v := (hB2.block _ bB1.lt).trans bB1
    have bB3 := bB2.set (.slice (some ⟨g, 0, none⟩) N cap)
    have bF3 : Boxed (w2.setCell ⟨B, 0, none⟩ (.slice (some ⟨g, 0, none⟩) N cap)) F 3 (.int .i64 fw) := (Below.heap_setCell w2 ⟨B, 0, none⟩ _ F hFB).trans bF2
    have bF4 := bF3.set (.int .i64 m)
    have bB4 : Boxed ((w2.setCell ⟨B, 0, none⟩ (.slice (some ⟨g, 0, none⟩) N cap)).setCell ⟨F, 0, none⟩ (.int .i64 m)) B 29 (.slice (some ⟨g, 0, none⟩) N cap) := (Below.heap_setCell _ ⟨F, 0, none⟩ _ B hFB.symm).trans bB3
    have cB2 := bB2.cell
    have fB2 := bB2.frozen
    have cF3 := bF3.cell
    have fF3 := bF3.frozen
    have cB4 := bB4.cell
    have hK2 : Kept2 F B w ((w2.setCell ⟨B, 0, none⟩ (.slice (some ⟨g, 0, none⟩) N cap)).setCell ⟨F, 0, none⟩ (.int .i64 m)) :=
      (Kept2.of_below (hB1.trans (hB2.mono hz1))).trans ((Kept2.setB w2 0 _).trans (Kept2.setF _ 0 _))
    have hg := (hown.lt g rfl).1
    have hown4 := (((Joins.ownsRow_le hown hz1).kept (grownBy_setQ6 w2 B 0 (.slice (some ⟨g, 0, none⟩) N cap)) (.inr fun e => by have e' : g = B := Option.some.inj e; have := bB1.lt; omega)).kept (grownBy_setQ6 _ F 0 (.int .i64 m)) (.inr fun e => by have e' : g = F := Option.some.inj e; have := bF1.lt; omega))
    have HFin := Lib.hid (And.intro hK2 (And.intro bB4 (And.intro bF4 hown4)))
    clear hK2 bB4 bF4 hown4 hown bF3 bB3 bF2 bB2 bF1 bB1 bF bB
    go_wp2_with fail
    go_ret
    exact ⟨_, rfl, HFin.out.1, HFin.out.2.1, .inl ⟨hlt, HFin.out.2.2.1, HFin.out.2.2.2⟩⟩
  · go_wp2_with fail
    go_ret
    exact ⟨_, rfl, Kept2.of_below hB1, bB1, .inr ⟨hlt, bF1, rfl⟩⟩

end Go.Proofs.Ytiappomfohnhoaa

namespace Go.Proofs.Ytiappomfohnhoaa
open Go.RowKit Go.Shelf Go.Deep

attribute [local go_sem] Oper.semAt_some

theorem maps_tells {G : List (List Int)} (h5 : g5 G = true) {x : List Int} (hx : x ∈ mapsFrom G G G.length []) : Tells G.length G.length x := by
  obtain ⟨hg, h5'⟩ := g5_iff.1 h5
  have hf := few5 hg hg h5' h5'
  rw [← mapsL_yes hf] at hx
  exact ((mapsL_mem hf x).1 hx).1
theorem few_maps5 {G : List (List Int)} (h5 : g5 G = true) : (mapsFrom G G G.length []).length ≤ 7000 := by
  obtain ⟨hg, h5'⟩ := g5_iff.1 h5
  exact few_maps (few5 hg hg h5' h5')
theorem corOk_yes {G : List (List Int)} (h5 : g5 G = true) : corOkI G = (mapsFrom G G G.length []).all fun x => decide ((imgL G.length x).length = G.length) := by
  obtain ⟨hg, h5'⟩ := g5_iff.1 h5
  unfold corOkI
  rw [h5, mapsL_yes (few5 hg hg h5' h5'), Bool.true_and]
  refine List.all_congr rfl fun x => ?_
  rw [Bool.eq_iff_iff, decide_eq_true_eq, decide_eq_true_eq]
  have := imgL_le (m := G.length) x
  omega
theorem corOk_no {G : List (List Int)} (h5 : g5 G = false) : corOkI G = false := by unfold corOkI; rw [h5]; rfl

set_option maxRecDepth 100000 in
set_option maxHeartbeats 4000000 in
theorem implCoreOk (a : Option Addr) (c : Nat) (G : List (List Int)) (w : World) (hM : Mat w.heap.size w a G) (hF : Fit G) :
    Calls Try.prog 24 #[.slice a G.length c] w (Ans (.bool (corOkI G)) w) := by
  have h1 : Fence.wide.fn 70 := trivial
  have h2 : Fence.wide.fn 71 := trivial
  have h3 : Fence.wide.fn 72 := trivial
  have hdd : ∀ k : Nat, (Fence.wide.depth.isSome = true → 1 ≤ k) := fun k h => by cases h
  have es : ∀ (W : World) (o : Obj), (W.alloc o).heap.size = W.heap.size + 1 := fun W o => by simp
  have hB00 : Below w.heap.size w (w.alloc (.cells #[.bool false] 4)) := (Below.refl _ _).alloc (Nat.le_refl _) _
  have hFew := coredP a c G (w.alloc (.cells #[.bool false] 4)) ((hM.below hB00).more hB00.size) hF
  obtain ⟨z, HZ⟩ : ∃ z, Hid (corOkI G = z) := ⟨_, rfl⟩
  rw [HZ.out]
  refine (callsIn_wide (n := 20)).1 ?_
  by_cases hg : g5 G = true
  · rw [hg] at hFew
    have HFew := Lib.hid hFew
    have HG := Lib.hid (good_of (g5_iff.1 hg).1)
    have HN := Lib.hid (few_maps5 hg)
    have HT : Hid (∀ x ∈ mapsFrom G G G.length [], Tells G.length G.length x) := Lib.hid fun x hx => maps_tells hg hx
    have hN9 : G.length ≤ 9 := HG.out.2.1
    have hN1 : 1 ≤ G.length := HG.out.1
    obtain ⟨p, HPP⟩ : ∃ p : List Int → Bool, Hid ((fun x => decide ((imgL G.length x).length = G.length)) = p) := ⟨_, rfl⟩
    have HAp : Hid (∀ (W : World) (x : List Int) (b : Nat), x.length = G.length → Tells G.length G.length x → Ints W.heap.size W (some ⟨b, 0, none⟩) x → Calls Try.prog 72 #[.slice (some ⟨b, 0, none⟩) G.length G.length] W (Ans (.bool (p x)) W)) := Lib.hid fun W x b hx hT hI => by
      have := apartP (some ⟨b, 0, none⟩) G.length G.length x W hI (by omega) (by omega) (fun y hy => tells_mem hT hy) (by omega)
      rw [hx] at this
      rw [← HPP.out]
      exact this
    have HZ2 : Hid (z = (mapsFrom G G G.length []).all p) := Lib.hid (by rw [← HZ.out, corOk_yes hg, HPP.out])
    clear hFew hF hg HPP
    refine callsIn_of_wp_marks Try.func24 rfl trivial ?_ rfl
    simp only [Try.ntmps24, List.size_toArray, List.length_cons, List.length_nil, Nat.reduceAdd, Nat.reduceSub, Array.replicate_succ, Array.replicate_zero, List.push_toArray, List.append_toArray, List.nil_append, List.cons_append]
    have hFewR : Calls Try.prog 70 #[.slice a G.length c] (w.alloc (.cells #[.bool false] 4)) (Ans (.bool true) (w.alloc (.cells #[.bool false] 4))) := HFew.out
    have HFR := Lib.hid hFewR
    clear hFewR
    gi_wp2_with (first | ((try refine ⟨hdd _, ?_⟩); gi_at_call 70; refine (callsIn_wide.2 HFR.out).mono ?_; rintro e w1 ⟨rfl, hB1⟩) | ((try refine ⟨hdd _, ?_⟩); gi_at_call 71; refine (mapsTo_in _ _ _ _ _ _ _ _).mono ?_; rintro e w' ⟨rfl, rfl⟩))
    have bR0 : Boxed w1 w.heap.size 4 (.bool false) := (hB1.block _ (by simp)).trans (Boxed.new w 4 (.bool false))
    have hB0 : Below w.heap.size w w1 := ((Below.refl w.heap.size w).alloc (Nat.le_refl _) (.cells #[.bool false] 4)).trans (hB1.mono (by simp))
    have bC := (bR0.alloc (.cells #[.slice a G.length c] 59)).alloc (.cells #[.slice a G.length c] 59)
    have bG := (Boxed.new w1 59 (.slice a G.length c)).alloc (.cells #[.slice a G.length c] 59)
    have bH := Boxed.new (w1.alloc (.cells #[.slice a G.length c] 59)) 59 (.slice a G.length c)
    rw [es] at bH
    have hB2 := (hB0.alloc hB0.size (.cells #[.slice a G.length c] 59)).alloc (by simp; have := hB0.size; omega) (.cells #[.slice a G.length c] 59)
    have hws : w.heap.size < w1.heap.size := bR0.lt
    have hsz : ((w1.alloc (.cells #[.slice a G.length c] 59)).alloc (.cells #[.slice a G.length c] 59)).heap.size = w1.heap.size + 2 := by simp
    obtain ⟨V, hV⟩ : ∃ V, (w1.alloc (.cells #[.slice a G.length c] 59)).alloc (.cells #[.slice a G.length c] 59) = V := ⟨_, rfl⟩
    rw [hV] at bC bG bH hB2 hsz ⊢
    have hMV := hM.below hB2
    have hsz1 : w1.heap.size + 2 ≤ V.heap.size := by omega
    have hsz2 : V.heap.size ≤ w1.heap.size + 2 := by omega
    clear hV hB1 hM bR0 hB0 hsz
    have hseq := mapsTo_Y w.heap.size (V.heap.size + 2) w1.heap.size a a c c G G HG.out HG.out (fun B => B = w.heap.size) V bG bH hMV hMV (fun B s => by omega) (by omega) (by omega)
    refine range_lawY rfl rfl (fun _ => trivial) (gf := 100) (lb := #[.pointer (some ⟨w1.heap.size, 0, none⟩), .pointer (some ⟨w1.heap.size + 1, 0, none⟩)]) rfl (enters_of Try.func100 (by kernel_rfl) rfl)
      hseq (.inr (by omega)) (OwnFrom.and (ownFrom_pure _ _) (Own.from (hold_own _ _ _) _)) (fun h k => KeepC.trans h k) (fun W' o o' h hc => KeepC.putObj _ (by omega) W' o o' h hc) (Below.refl _ _) (fun _ => rfl)
      (fun pre W' => (Hid (∀ x ∈ pre, p x = true) ∧ Boxed W' w.heap.size 4 (.bool false)) ∧ Below w.heap.size w W')
      (fun c₁ pre W' => ((c₁ = .ret ∧ Hid (∃ x ∈ pre, p x = false)) ∧ Boxed W' w.heap.size 4 (.bool false)) ∧ Below w.heap.size w W')
      ⟨OwnFrom.and (OwnFrom.and (ownFrom_pure _ _) (Own.from (boxed_own _ _ _) _)) (ownFrom_below (Nat.le_refl _) (by omega)), fun s A C hs hgr _ => ⟨⟨hs.1.1, hs.1.2.kept hgr (fun e => by have e' := Option.some.inj e; omega)⟩, hs.2.grown hgr hs.2.size (fun r e => by cases e; omega)⟩⟩
      (fun _ => ⟨OwnFrom.and (OwnFrom.and (ownFrom_pure _ _) (Own.from (boxed_own _ _ _) _)) (ownFrom_below (Nat.le_refl _) (by omega)), fun s A C hs hgr _ => ⟨⟨hs.1.1, hs.1.2.kept hgr (fun e => by have e' := Option.some.inj e; omega)⟩, hs.2.grown hgr hs.2.size (fun r e => by cases e; omega)⟩⟩)
      ⟨⟨fun x hx => absurd hx (by simp), bC⟩, hB2⟩ ?a1 ?assign ?body ?done ?stop
    case assign =>
      intro l2 x W' K hK
      gi_wp2
      exact hK
    case body =>
      rintro l2 pre x W' ⟨⟨HP, bC'⟩, hB'⟩ hsp ⟨hxN, hHx⟩
      have HTx := Lib.hid (HT.out x (hsp.subset (by simp)))
      have hIx : Ints W'.heap.size W' (some ⟨V.heap.size + 2 + 1, 0, none⟩) x := hHx.ints
      have HA := Lib.hid (HAp.out W' x _ hxN HTx.out hIx)
      clear hseq hIx hsp
      gi_wp2_with fail
      (try refine ⟨hdd _, ?_⟩)
      gi_at_call 72
      refine (CallsIn.inRound l2 (callsIn_wide.2 HA.out)).mono ?_
      rintro e w4 ⟨rfl, hB4⟩
      have hz4 := hB4.size
      have bC4 : Boxed w4 w.heap.size 4 (.bool false) := (hB4.block _ bC'.lt).trans bC'
      have hB4w : Below w.heap.size w w4 := hB'.trans (hB4.mono hB'.size)
      have cC := bC4.cell
      have fC := bC4.frozen
      by_cases hp : p x = true
      · rw [hp]
        have HX := Lib.hid hp
        clear hp HA
        gi_wp2_with fail
        exact ⟨keepsFrom_below hB4 _, KeepC.of_below hB4, ⟨fun y hy => (List.mem_append.1 hy).elim (fun h => HP.out y h) (fun h => by rw [List.mem_singleton.1 h]; exact HX.out), bC4⟩, hB4w⟩
      · have hpf : p x = false := by simpa using hp
        rw [hpf]
        have HX := Lib.hid hpf
        clear hp hpf HA
        gi_wp2_with fail
        exact ⟨(keepsFrom_below hB4 _).trans ((KeepsOthers.setCell _ _ _).from _), ⟨⟨rfl, x, by simp, HX.out⟩, bC4.set _⟩, hB4w.setCell (p := ⟨w.heap.size, 0, none⟩) (Nat.le_refl _) _⟩
    case done =>
      rintro D ys W' hD rfl ⟨⟨HP, bC'⟩, hB'⟩ hK
      have cC := bC'.cell
      have fC := bC'.frozen
      have HA : Hid ((mapsFrom G G G.length []).all p = true) := Lib.hid (List.all_eq_true.2 HP.out)
      clear hseq
      gi_wp2
      have hK' := (KeepsOthers.setCell W' ⟨w.heap.size, 0, none⟩ (.bool true)).same D _ hK rfl
      refine ⟨by simp, .inl ⟨_, _, rfl, run_takeDeferred hK', ?_⟩⟩
      have hc5 := cell_kept (bC'.set (.bool true)).cell (grownBy_putObj' _ D (.deferred none)) (fun r e => by cases e; exact ⟨_, hK', rfl⟩)
      refine ⟨.bool true, ?_, ret_bool (by rw [HZ2.out, HA.out]), (hB'.setCell (p := ⟨w.heap.size, 0, none⟩) (Nat.le_refl _) _).trans (belowK_b (w := w) (Nat.le_refl _) _ D _ _ (by omega) hK' rfl rfl)⟩
      simp [results, Try.f24, go_sem, hc5]
    case stop =>
      rintro D c₁ pre W' hD hpre ⟨⟨⟨rfl, hne⟩, bC'⟩, hB'⟩ hK
      clear hseq
      gi_wp2
      refine ⟨by simp, .inl ⟨_, _, rfl, run_takeDeferred hK, ?_⟩⟩
      have hc5 := cell_kept bC'.cell (grownBy_putObj' _ D (.deferred none)) (fun r e => by cases e; exact ⟨_, hK, rfl⟩)
      have hall : (mapsFrom G G G.length []).all p = false := by
        obtain ⟨x, hx, hpx⟩ := hne.out
        refine List.all_eq_false.2 ⟨x, hpre.subset hx, by rw [hpx]; decide⟩
      refine ⟨.bool false, ?_, ret_bool (by rw [HZ2.out, hall]), hB'.trans (belowK_b (w := w) (Nat.le_refl _) W' D _ _ (by omega) hK rfl rfl)⟩
      simp [results, Try.f24, go_sem, hc5]
  · have hg' : g5 G = false := by simpa using hg
    rw [hg'] at hFew
    have HFew := Lib.hid hFew
    have HZ2 : Hid (z = false) := Lib.hid (by rw [← HZ.out, corOk_no hg'])
    clear hFew hg hM hF hg'
    refine callsIn_of_wp_marks Try.func24 rfl trivial ?_ rfl
    simp only [Try.ntmps24, List.size_toArray, List.length_cons, List.length_nil, Nat.reduceAdd, Nat.reduceSub, Array.replicate_succ, Array.replicate_zero, List.push_toArray, List.append_toArray, List.nil_append, List.cons_append]
    gi_wp2_with ((try refine ⟨hdd _, ?_⟩); gi_at_call 70; refine (callsIn_wide.2 HFew.out).mono ?_; rintro e w1 ⟨rfl, hB1⟩; have bR0 : Boxed w1 w.heap.size 4 (.bool false) := (hB1.block _ (by simp)).trans (Boxed.new w 4 (.bool false)); have cR := bR0.cell; have fR := bR0.frozen)
    have hB0 : Below w.heap.size w w1 := hB00.trans (hB1.mono (by simp))
    have hc5 := (bR0.set (.bool false)).cell
    refine ⟨.bool false, by simp [results, Try.f24, go_sem, hc5], ret_bool HZ2.out.symm, hB0.setCell (p := ⟨w.heap.size, 0, none⟩) (Nat.le_refl _) _⟩

theorem filter_snoc {α : Type} (p : α → Bool) (l : List α) (x : α) : ((l ++ [x]).filter p).length = (l.filter p).length + (if p x = true then 1 else 0) := by
  rw [List.filter_append, List.length_append]
  by_cases h : p x = true <;> simp [h]

set_option maxRecDepth 100000 in
set_option maxHeartbeats 4000000 in
theorem implTurns (a : Option Addr) (c : Nat) (G : List (List Int)) (w : World) (hM : Mat w.heap.size w a G) (hF : Fit G) :
    Calls Try.prog 28 #[.slice a G.length c] w (Ans (.int .i64 (turI G)) w) := by
  have hdd : ∀ k : Nat, (Fence.wide.depth.isSome = true → 1 ≤ k) := fun k h => by cases h
  have h1 : Fence.wide.fn 70 := trivial
  have h2 : Fence.wide.fn 67 := trivial
  have h3 : Fence.wide.fn 66 := trivial
  have h4 : Fence.wide.fn 68 := trivial
  have es : ∀ (W : World) (o : Obj), (W.alloc o).heap.size = W.heap.size + 1 := fun W o => by simp
  have hOk := coredP a c G w hM hF
  obtain ⟨z, HZ⟩ : ∃ z, Hid (turI G = z) := ⟨_, rfl⟩
  rw [HZ.out]
  by_cases hg5 : g5 G = true
  · rw [hg5] at hOk
    obtain ⟨hg, h5⟩ := g5_iff.1 hg5
    obtain ⟨N, hGN⟩ : ∃ N, G.length = N := ⟨_, rfl⟩
    rw [hGN] at hOk h5 ⊢
    have HOk := Lib.hid hOk
    have HMK : Hid (∀ (W : World) (x : List Int) (a'' : Option Addr) (c'' : Nat), x.length = N → Tells N N x → Ints W.heap.size W a'' x → Below w.heap.size w W → CallsIn Fence.wide 20 Try.prog 68 #[.agg #[.slice a N c], .agg #[.slice a N c], .slice a'' N c''] W (Ans (.bool (sameBy G G x)) W)) := Lib.hid fun W x a'' c'' hx hT hI hB => by
      have := makes_in W.heap.size a a a'' c c c'' G G x W ((hM.below hB).more hB.size) ((hM.below hB).more hB.size) hI (Nat.le_refl _) (good_of hg) (good_of hg) (by rw [hGN]; exact hT)
      rw [hGN, hx] at this; exact this
    have hN1 : 1 ≤ N := by rw [← hGN]; exact (good_of hg).1
    have HL : Hid ((olvl N N).length ≤ 120) := Lib.hid (by
      rw [olvl_count]
      have : N = 1 ∨ N = 2 ∨ N = 3 ∨ N = 4 ∨ N = 5 := by omega
      rcases this with rfl | rfl | rfl | rfl | rfl <;> decide)
    obtain ⟨p, HPP⟩ : ∃ p, Hid (sameBy G G = p) := ⟨_, rfl⟩
    have HZ2 : Hid (z = (((olvl N N).filter p).length : Int)) := Lib.hid (by rw [← HZ.out, turI_yes hg5]; unfold turA; rw [hGN, HPP.out])
    rw [HPP.out] at HMK
    clear hM hg hGN HPP hOk hF hg5
    refine (callsIn_wide (n := 20)).1 ?_
    refine callsIn_of_wp_marks Try.func28 rfl trivial ?_ rfl
    simp only [Try.ntmps28, List.size_toArray, List.length_cons, List.length_nil, Nat.reduceAdd, Nat.reduceSub, Array.replicate_succ, Array.replicate_zero, List.push_toArray, List.append_toArray, List.nil_append, List.cons_append]
    gi_wp2_with fail
    (try refine ⟨hdd _, ?_⟩)
    gi_at_call 70
    refine (callsIn_wide.2 HOk.out).mono ?_
    rintro e w2 ⟨rfl, hBw2⟩
    gi_wp2_with (first | ((try refine ⟨hdd _, ?_⟩); gi_at_call 67; refine (nodes_in Fence.wide _ (fun _ => trivial) rfl _ _ _ _).mono ?_; rintro e w' ⟨rfl, rfl⟩) | ((try refine ⟨hdd _, ?_⟩); gi_at_call 66; refine (orders_in _ _ _).mono ?_; rintro e w' ⟨rfl, rfl⟩))
    have bG := (((Boxed.new w2 59 (.slice a N c)).alloc (.cells #[.int .i64 0] 3)).alloc (.cells #[.slice a N c] 59)).alloc (.cells #[.int .i64 N] 3)
    have bC := ((Boxed.new (w2.alloc (.cells #[.slice a N c] 59)) 3 (.int .i64 0)).alloc (.cells #[.slice a N c] 59)).alloc (.cells #[.int .i64 N] 3)
    have bN := Boxed.new (((w2.alloc (.cells #[.slice a N c] 59)).alloc (.cells #[.int .i64 0] 3)).alloc (.cells #[.slice a N c] 59)) 3 (.int .i64 N)
    rw [es] at bC
    rw [es, es, es] at bN
    have hB3 := ((((hBw2.alloc hBw2.size (.cells #[.slice a N c] 59)).alloc (by have := hBw2.size; simp; omega) (.cells #[.int .i64 0] 3)).alloc (by have := hBw2.size; simp; omega) (.cells #[.slice a N c] 59)).alloc (by have := hBw2.size; simp; omega) (.cells #[.int .i64 N] 3))
    have hws := hBw2.size
    have hsz : ((((w2.alloc (.cells #[.slice a N c] 59)).alloc (.cells #[.int .i64 0] 3)).alloc (.cells #[.slice a N c] 59)).alloc (.cells #[.int .i64 N] 3)).heap.size = w2.heap.size + 4 := by simp
    obtain ⟨V, hV⟩ : ∃ V, ((((w2.alloc (.cells #[.slice a N c] 59)).alloc (.cells #[.int .i64 0] 3)).alloc (.cells #[.slice a N c] 59)).alloc (.cells #[.int .i64 N] 3)) = V := ⟨_, rfl⟩
    rw [hV] at bG bC bN hB3 hsz ⊢
    have hsz1 : w2.heap.size + 4 ≤ V.heap.size := by omega
    have hsz2 : V.heap.size ≤ w2.heap.size + 4 := by omega
    clear hV hsz hBw2
    refine range_lawY rfl rfl (fun _ => trivial) (gf := 97) (lb := #[.pointer (some ⟨w2.heap.size + 1 + 1 + 1, 0, none⟩)]) rfl (enters_of Try.func97 (by kernel_rfl) rfl)
      (orders_Y (V.heap.size + 2) (w2.heap.size + 1 + 1 + 1) N (by omega) (fun B => B = w2.heap.size + 1) V bN (fun B s => by omega) (by omega)) (.inr (Nat.le_refl _)) (OwnFrom.and (ownFrom_pure _ _) (Own.from (hold_own _ _ _) _)) (fun h k => KeepC.trans h k) (fun W' o o' h hc => KeepC.putObj _ (by omega) W' o o' h hc) (Below.refl _ _) (fun _ => rfl)
      (fun pre W' => (Boxed W' w2.heap.size 59 (.slice a N c) ∧ Boxed W' (w2.heap.size + 1) 3 (.int .i64 ((pre.filter p).length : Int))) ∧ Below w.heap.size w W')
      (fun _ _ _ => False)
      ⟨OwnFrom.and (OwnFrom.and (Own.from (boxed_own _ _ _) _) (Own.from (boxed_own _ _ _) _)) (ownFrom_below (Nat.le_refl _) (by omega)), fun s A C hs hgr _ => ⟨⟨hs.1.1.kept hgr (fun e => by have e' := Option.some.inj e; omega), hs.1.2.kept hgr (fun e => by have e' := Option.some.inj e; omega)⟩, hs.2.grown hgr hs.2.size (fun r e => by cases e; omega)⟩⟩
      (fun _ => ⟨fun _ _ _ _ hs _ _ => hs, fun _ _ _ hs _ _ => hs⟩)
      ⟨⟨bG, bC⟩, hB3⟩ ?a1 ?assign ?body ?done ?stop
    case assign =>
      intro l2 x W' K hK
      gi_wp2
      exact hK
    case body =>
      rintro l2 pre x W' ⟨⟨bG', bC'⟩, hB'⟩ hsp ⟨hxN, hHx⟩
      have hws' := hB'.size
      have cG := bG'.cell
      have hT : Tells N N x := by
        have hx : x ∈ olvl N N := by rw [← ord_olvl]; exact hsp.subset (by simp)
        exact nodes_tells hxN (olvl_nodes hx)
      have hlx := hHx.lt
      have hIx : Ints W'.heap.size W' (some ⟨V.heap.size + 2, 0, none⟩) x := hHx.ints
      have HMk := Lib.hid (HMK.out W' x _ N hxN hT hIx hB')
      have HMd := Lib.hid (HMK.out W'.drew x _ N hxN hT hIx hB'.drew)
      have HFS := Lib.hid (filter_snoc p pre x)
      have hcnt : ((pre ++ [x]).filter p).length ≤ 120 := by
        have h := (hsp.filter p).length_le
        rw [ord_olvl] at h
        have h2 := List.length_filter_le p (olvl N N)
        have := HL.out
        omega
      clear hsp
      gi_wp2_with fail
      refine (CallsIn.inRound l2 (CallsIn_any rfl HMk.out)).mono ?_
      rintro e w4 ⟨rfl, hB4⟩
      have hz4 := hB4.size
      have bG4 : Boxed w4 w2.heap.size 59 (.slice a N c) := (hB4.block _ bG'.lt).trans bG'
      have bC4 : Boxed w4 (w2.heap.size + 1) 3 (.int .i64 ((pre.filter p).length : Int)) := (hB4.block _ bC'.lt).trans bC'
      have hB4w : Below w.heap.size w w4 := hB'.trans (hB4.mono hB'.size)
      have cC := bC4.cell
      have fC := bC4.frozen
      by_cases hp : p x = true
      · rw [hp]
        rw [if_pos hp] at HFS
        have hlen2 : (pre.filter p).length ≤ 119 := by have := HFS.out; omega
        clear hp cG hT hIx HMk HMd hcnt
        gi_wp2_with fail
        have hb := bC4.set (.int .i64 (((pre.filter p).length : Int) + 1))
        refine ⟨(keepsFrom_below hB4 _).trans ((KeepsOthers.setCell _ _ _).from _), (KeepC.of_below hB4).trans (KeepC.setCell (S := fun B => B = w2.heap.size + 1) _ w4 rfl 0 _), ⟨?_, ?_⟩, hB4w.setCell (p := ⟨w2.heap.size + 1, 0, none⟩) (by show w.heap.size ≤ w2.heap.size + 1; omega) _⟩
        · exact (Below.heap_setCell w4 ⟨w2.heap.size + 1, 0, none⟩ _ w2.heap.size (by simp)).trans bG4
        · rw [HFS.out]; exact hb
      · have hpf : p x = false := by simpa using hp
        rw [hpf]
        rw [if_neg hp] at HFS
        clear hp hpf cG hT hIx HMk HMd hcnt
        gi_wp2_with fail
        exact ⟨keepsFrom_below hB4 _, KeepC.of_below hB4, ⟨bG4, by rw [HFS.out]; exact bC4⟩, hB4w⟩
    case done =>
      rintro D ys W' hD rfl ⟨⟨bG', bC'⟩, hB'⟩ hK
      have cC := bC'.cell
      gi_wp2
      refine ⟨by simp, .inl ⟨_, _, rfl, run_takeDeferred hK, ?_⟩⟩
      refine ⟨_, results_tmp rfl _ _ _, ?_, hB'.trans (belowK_b (w := w) (Nat.le_refl _) W' D _ _ (by omega) hK rfl rfl)⟩
      rw [HZ2.out, ← ord_olvl]
      rfl
    case stop =>
      rintro D c' pre W' _ _ hx _
      exact hx.elim
  · have hg' : g5 G = false := by simpa using hg5
    rw [hg'] at hOk
    have HOk := Lib.hid hOk
    have HZ2 : Hid (z = -1) := Lib.hid (by rw [← HZ.out, turI_no hg'])
    clear hOk hg5 hM hF hg'
    refine (callsIn_wide (n := 20)).1 ?_
    refine callsIn_of_wp_marks Try.func28 rfl trivial ?_ rfl
    simp only [Try.ntmps28, List.size_toArray, List.length_cons, List.length_nil, Nat.reduceAdd, Nat.reduceSub, Array.replicate_succ, Array.replicate_zero, List.push_toArray, List.append_toArray, List.nil_append, List.cons_append]
    gi_wp2_with ((try refine ⟨hdd _, ?_⟩); gi_at_call 70; refine (callsIn_wide.2 HOk.out).mono ?_; rintro e w1 ⟨rfl, hB1⟩)
    refine ⟨_, results_tmp rfl _ _ _, ?_, hB1⟩
    rw [HZ2.out]
    rfl

end Go.Proofs.Ytiappomfohnhoaa

namespace Go.Proofs.Ytiappomfohnhoaa
open Go.RowKit Go.Shelf Go.Deep

attribute [local go_sem] Oper.semAt_some

theorem own_keptS {W W' : World} {base e n : Nat} {v : Value} {xs : List Value} {row : Option Nat} (h : W.ownsRow base e 1 v n xs) (hg : W.grownBy W' row) (hr : ∀ r, row = some r → r < base ∨ ∃ o : Obj, W.heap[r]? = some o ∧ o.isCells = false) : W'.ownsRow base e 1 v n xs := by
  refine h.kept hg ?_
  rcases h.2 with ⟨rfl, _⟩ | ⟨g, cap, cur, rfl, hb, hgg, _⟩
  · exact .inl rfl
  · refine .inr fun e' => ?_
    rcases hr g (by rw [← e']; rfl) with hlt | ⟨o, ho', hc⟩
    · omega
    · rw [hgg] at ho'; cases ho'; cases hc
/-- The least image so far: 10 where there is none. -/
def fewN (N : Nat) (st : List Int) : Nat := if st.length = 0 then 10 else (imgL N st).length
theorem fewN_le {N : Nat} (h9 : N ≤ 9) (st : List Int) : fewN N st ≤ 10 := by
  unfold fewN
  have := imgL_le (m := N) st
  split <;> omega
theorem betQ_yes {G : List (List Int)} {st x : List Int} (hs : stysI G x = true) (hlt : (imgL G.length x).length < fewN G.length st) : betF G st x = x := by
  unfold betF
  refine if_pos ⟨hs, ?_⟩
  unfold fewN at hlt
  by_cases h0 : st.length = 0
  · exact .inl h0
  · rw [if_neg h0] at hlt; exact .inr hlt
theorem betQ_no {G : List (List Int)} {st x : List Int} (h9 : G.length ≤ 9) (hlt : ¬ (imgL G.length x).length < fewN G.length st) : betF G st x = st := by
  unfold betF
  refine if_neg fun h => ?_
  unfold fewN at hlt
  have := imgL_le (m := G.length) x
  by_cases h0 : st.length = 0
  · rw [if_pos h0] at hlt; omega
  · rw [if_neg h0] at hlt
    rcases h.2 with h1 | h1
    · exact h0 h1
    · exact hlt h1
theorem betQ_not {G : List (List Int)} {st x : List Int} (hs : stysI G x = false) : betF G st x = st := if_neg fun h => by rw [hs] at h; cases h.1
theorem fewN_x {N : Nat} {x : List Int} (h : x.length = N) (h1 : 1 ≤ N) : fewN N x = (imgL N x).length := if_neg (by omega)

theorem store_fn5 {P : Program} (w : World) (a : Addr) (m : Mode) (fn : Fn) (first captured : Array Value) : (store a (.func fn first captured) m).run P w = stored P w a (.func fn first captured) m := run_store P w a _ m rfl
attribute [local go_sem] store_fn5

set_option maxHeartbeats 1000000 in
theorem fewestKept_in (n : Nat) (w : World) :
    CallsIn Fence.wide n Try.prog 107 #[] w fun e w' =>
      e = .returned (.func (.func 117) #[] #[.pointer (some ⟨w.heap.size + 1, 0, none⟩), .pointer (some ⟨w.heap.size, 0, none⟩)]) ∧
      w' = (w.alloc (.cells #[.slice none 0 0] 29)).alloc (.cells #[.int .i64 10] 3) := by
  refine callsIn_of_wp Try.func107 rfl trivial ?_ rfl
  simp only [Try.ntmps107, List.size_toArray, List.length_nil, Nat.reduceSub, Array.replicate_succ, Array.replicate_zero, List.push_toArray, List.append_toArray, List.nil_append, List.cons_append]
  gi_wp2
  go_ret
  exact ⟨rfl, rfl⟩

set_option maxRecDepth 100000 in
set_option maxHeartbeats 4000000 in
theorem fewestP (a : Option Addr) (c : Nat) (G : List (List Int)) (w : World) (hM : Mat w.heap.size w a G) (hg : g5 G = true) :
    Calls Try.prog 80 #[.agg #[.slice a G.length c]] w (MadeOwn (staL G) w) := by
  have h1 : Fence.wide.fn 107 := trivial
  have h2 : Fence.wide.fn 71 := trivial
  have h3 : Fence.wide.fn 117 := trivial
  have hdd : ∀ k : Nat, (Fence.wide.depth.isSome = true → 1 ≤ k) := fun k h => by cases h
  have es : ∀ (W : World) (o : Obj), (W.alloc o).heap.size = W.heap.size + 1 := fun W o => by simp
  have HG := Lib.hid (good_of (g5_iff.1 hg).1)
  have HT : Hid (∀ x ∈ mapsFrom G G G.length [], IsMap G G x) := Lib.hid fun x hx => by
    obtain ⟨hgk, h5'⟩ := g5_iff.1 hg
    have hf := few5 hgk hgk h5' h5'
    rw [← mapsL_yes hf] at hx
    exact (mapsL_mem hf x).1 hx
  have HST : Hid (∀ x, IsMap G G x → (stysI G x = true ↔ ∀ k, k < x.length → nd x (nd x k) = nd x k)) := Lib.hid fun x hx => by
    obtain ⟨hgk, h5'⟩ := g5_iff.1 hg
    rw [stys_iff]
    exact ⟨fun h => h.2, fun h => ⟨mapOk_iff.2 ⟨⟨hgk, hgk⟩, hx⟩, h⟩⟩
  have hN9 : G.length ≤ 9 := HG.out.2.1
  have hN1 : 1 ≤ G.length := HG.out.1
  obtain ⟨z, HZ⟩ : ∃ z, Hid (staL G = z) := ⟨_, rfl⟩
  have HZ2 : Hid (z = (mapsFrom G G G.length []).foldl (betF G) []) := Lib.hid (by
    obtain ⟨hgk, h5'⟩ := g5_iff.1 hg
    rw [← HZ.out, staL_yes hg, mapsL_yes (few5 hgk hgk h5' h5')])
  rw [HZ.out]
  clear hg HZ
  refine (callsIn_wide (n := 20)).1 ?_
  refine callsIn_of_wp_marks Try.func80 rfl trivial ?_ rfl
  simp only [Try.ntmps80, List.size_toArray, List.length_cons, List.length_nil, Nat.reduceAdd, Nat.reduceSub, Array.replicate_succ, Array.replicate_zero, List.push_toArray, List.append_toArray, List.nil_append, List.cons_append]
  gi_wp2_with fail
  refine wpIn_wide.2 ?_
  refine wp_scope_straight ?_
  refine (wpIn_wide (n := 20)).1 ?_
  gi_wp2_with ((try refine ⟨hdd _, ?_⟩); gi_at_call 107; refine (fewestKept_in _ _).mono ?_; rintro e w' ⟨rfl, rfl⟩)
  refine wpIn_label ?_
  gi_wp2_with ((try refine ⟨hdd _, ?_⟩); gi_at_call 71; refine (mapsTo_in _ _ _ _ _ _ _ _).mono ?_; rintro e w' ⟨rfl, rfl⟩)
  have bK := ((Boxed.new ((((w.alloc (.cells #[.slice a G.length c] 59)).alloc (.cells #[.slice none 0 0] 29)).alloc (.cells #[.slice none 0 0] 29)).alloc (.cells #[.int .i64 10] 3)) 40 (.func (.func 117) #[] #[.pointer (some ⟨w.heap.size + 1 + 1 + 1, 0, none⟩), .pointer (some ⟨w.heap.size + 1 + 1, 0, none⟩)])).alloc (.cells #[.slice a G.length c] 59)).alloc (.cells #[.slice a G.length c] 59)
  have bF := (((Boxed.new (((w.alloc (.cells #[.slice a G.length c] 59)).alloc (.cells #[.slice none 0 0] 29)).alloc (.cells #[.slice none 0 0] 29)) 3 (.int .i64 10)).alloc (.cells #[.func (.func 117) #[] #[.pointer (some ⟨w.heap.size + 1 + 1 + 1, 0, none⟩), .pointer (some ⟨w.heap.size + 1 + 1, 0, none⟩)]] 40)).alloc (.cells #[.slice a G.length c] 59)).alloc (.cells #[.slice a G.length c] 59)
  have bB := ((((Boxed.new ((w.alloc (.cells #[.slice a G.length c] 59)).alloc (.cells #[.slice none 0 0] 29)) 29 (.slice none 0 0)).alloc (.cells #[.int .i64 10] 3)).alloc (.cells #[.func (.func 117) #[] #[.pointer (some ⟨w.heap.size + 1 + 1 + 1, 0, none⟩), .pointer (some ⟨w.heap.size + 1 + 1, 0, none⟩)]] 40)).alloc (.cells #[.slice a G.length c] 59)).alloc (.cells #[.slice a G.length c] 59)
  have bT := (((((Boxed.new (w.alloc (.cells #[.slice a G.length c] 59)) 29 (.slice none 0 0)).alloc (.cells #[.slice none 0 0] 29)).alloc (.cells #[.int .i64 10] 3)).alloc (.cells #[.func (.func 117) #[] #[.pointer (some ⟨w.heap.size + 1 + 1 + 1, 0, none⟩), .pointer (some ⟨w.heap.size + 1 + 1, 0, none⟩)]] 40)).alloc (.cells #[.slice a G.length c] 59)).alloc (.cells #[.slice a G.length c] 59)
  have hB1 : Below w.heap.size w (((((w.alloc (.cells #[.slice a G.length c] 59)).alloc (.cells #[.slice none 0 0] 29)).alloc (.cells #[.slice none 0 0] 29)).alloc (.cells #[.int .i64 10] 3)).alloc (.cells #[.func (.func 117) #[] #[.pointer (some ⟨w.heap.size + 1 + 1 + 1, 0, none⟩), .pointer (some ⟨w.heap.size + 1 + 1, 0, none⟩)]] 40)) :=
    (((((Below.refl _ w).alloc (Nat.le_refl _) _).alloc (by simp) _).alloc (by simp; omega) _).alloc (by simp; omega) _).alloc (by simp; omega) _
  obtain ⟨w1, hw1⟩ : ∃ w1, ((((w.alloc (.cells #[.slice a G.length c] 59)).alloc (.cells #[.slice none 0 0] 29)).alloc (.cells #[.slice none 0 0] 29)).alloc (.cells #[.int .i64 10] 3)).alloc (.cells #[.func (.func 117) #[] #[.pointer (some ⟨w.heap.size + 1 + 1 + 1, 0, none⟩), .pointer (some ⟨w.heap.size + 1 + 1, 0, none⟩)]] 40) = w1 := ⟨_, rfl⟩
  have hz1 : w1.heap.size = w.heap.size + 5 := by rw [← hw1]; simp
  rw [hw1] at bK bF bB bT hB1 ⊢
  simp only [es] at bK bF bB bT
  have bG := (Boxed.new w1 59 (.slice a G.length c)).alloc (.cells #[.slice a G.length c] 59)
  have bH := Boxed.new (w1.alloc (.cells #[.slice a G.length c] 59)) 59 (.slice a G.length c)
  rw [es] at bH
  have hB2 := (hB1.alloc hB1.size (.cells #[.slice a G.length c] 59)).alloc (by simp; omega) (.cells #[.slice a G.length c] 59)
  have hsz : ((w1.alloc (.cells #[.slice a G.length c] 59)).alloc (.cells #[.slice a G.length c] 59)).heap.size = w1.heap.size + 2 := by simp
  obtain ⟨V, hV⟩ : ∃ V, (w1.alloc (.cells #[.slice a G.length c] 59)).alloc (.cells #[.slice a G.length c] 59) = V := ⟨_, rfl⟩
  rw [hV] at bK bF bB bT bG bH hB2 hsz ⊢
  have hz1' : w1.heap.size = w.heap.size + 1 + 1 + 1 + 1 + 1 := hz1
  rw [hz1'] at bG bH
  have hMV := hM.below hB2
  have hsz1 : w.heap.size + 7 ≤ V.heap.size := by omega
  have hsz2 : V.heap.size ≤ w.heap.size + 7 := by omega
  clear hV hw1 hB1 hM hsz hz1 hz1'
  have hseq := mapsTo_Y w.heap.size (V.heap.size + 2) (w.heap.size + 1 + 1 + 1 + 1 + 1) a a c c G G HG.out HG.out (fun B => B = w.heap.size + 1 ∨ B = w.heap.size + 1 + 1 ∨ B = w.heap.size + 1 + 1 + 1) V bG bH hMV hMV (fun B s => by rcases s with h | h | h <;> omega) (by omega) (by omega)
  refine range_lawY rfl rfl (fun _ => trivial) (gf := 100) (lb := #[.pointer (some ⟨w.heap.size + 1 + 1 + 1 + 1 + 1, 0, none⟩), .pointer (some ⟨w.heap.size + 1 + 1 + 1 + 1 + 1 + 1, 0, none⟩)]) rfl (enters_of Try.func100 (by kernel_rfl) rfl)
    hseq (.inr (by omega)) (OwnFrom.and (ownFrom_pure _ _) (Own.from (hold_own _ _ _) _)) (fun h k => KeepC.trans h k) (fun W' o o' h hc => KeepC.putObj _ (by omega) W' o o' h hc) (Below.refl _ _) (fun _ => rfl)
    (fun pre W' => (Boxed W' (w.heap.size + 1 + 1 + 1 + 1) 40 (.func (.func 117) #[] #[.pointer (some ⟨w.heap.size + 1 + 1 + 1, 0, none⟩), .pointer (some ⟨w.heap.size + 1 + 1, 0, none⟩)]) ∧ ∃ v, Boxed W' (w.heap.size + 1) 29 v ∧ Boxed W' (w.heap.size + 1 + 1) 29 v ∧ Boxed W' (w.heap.size + 1 + 1 + 1) 3 (.int .i64 (fewN G.length (pre.foldl (betF G) []) : Int)) ∧ W'.ownsRow (V.heap.size + 4) 3 1 v (pre.foldl (betF G) []).length ((pre.foldl (betF G) []).map (Value.int .i64))) ∧ Below w.heap.size w W')
    (fun _ _ _ => False)
    ?oI (fun _ => ⟨fun _ _ _ _ hs _ _ => hs, fun _ _ _ hs _ _ => hs⟩)
    ⟨⟨bK, .slice none 0 0, bT, bB, bF, World.ownsRow_nil _ _ _ 1⟩, hB2⟩ ?a1 ?assign ?body ?done ?stop
  case oI =>
    exact ⟨fun s A C row ⟨⟨k1, v, k2, k3, k4, k5⟩, k6⟩ hgr hr => ⟨⟨k1.kept hgr (fun e => by have := (hr _ e.symm).1; omega), v, k2.kept hgr (fun e => by have := (hr _ e.symm).1; omega), k3.kept hgr (fun e => by have := (hr _ e.symm).1; omega), k4.kept hgr (fun e => by have := (hr _ e.symm).1; omega), own_keptS k5 hgr (fun r e => .inr (hr r e).2)⟩, k6.grown hgr k6.size (fun r e => by have := (hr r e).1; omega)⟩,
      fun s A C ⟨⟨k1, v, k2, k3, k4, k5⟩, k6⟩ hgr _ => ⟨⟨k1.kept hgr (fun e => by have e' := Option.some.inj e; omega), v, k2.kept hgr (fun e => by have e' := Option.some.inj e; omega), k3.kept hgr (fun e => by have e' := Option.some.inj e; omega), k4.kept hgr (fun e => by have e' := Option.some.inj e; omega), own_keptS k5 hgr (fun r e => .inl (by cases e; omega))⟩, k6.grown hgr k6.size (fun r e => by cases e; omega)⟩⟩
  case assign =>
    intro l2 x W' K hK
    gi_wp2
    exact hK
  case body =>
    rintro l2 pre x W' ⟨⟨bK', v, bT', bB', bF', hO⟩, hB'⟩ hsp ⟨hxN, hHx⟩
    obtain ⟨st, hst⟩ : ∃ st, pre.foldl (betF G) [] = st := ⟨_, rfl⟩
    have HFo : Hid ((pre ++ [x]).foldl (betF G) [] = betF G st x) := Lib.hid (by rw [List.foldl_append, hst]; rfl)
    rw [hst] at bF' hO
    obtain ⟨av, cv, rfl⟩ := own_form hO
    have HMp := Lib.hid (HT.out x (hsp.subset (by simp)))
    have HTx := Lib.hid HMp.out.1
    have HSx := Lib.hid (HST.out x HMp.out)
    have hbx : V.heap.size + 2 + 1 < W'.heap.size := hHx.lt
    have hIx : Ints W'.heap.size W' (some ⟨V.heap.size + 2 + 1, 0, none⟩) x := hHx.ints
    have HC : Hid (∀ j y, x[j]? = some y → W'.cell? ⟨V.heap.size + 2 + 1, j, none⟩ = some (.int .i64 y)) := Lib.hid fun j y hj => by
      have hjl := (List.getElem?_eq_some_iff.1 hj).1
      obtain ⟨b, o, y', e, _, hc, hy⟩ := hIx.at_ hjl
      cases e
      have e2 := hy.out
      rw [hj] at e2
      cases e2
      rw [Nat.zero_add] at hc
      exact hc
    have hf10 := fewN_le hN9 st
    have HKp := Lib.hid (keepP (w.heap.size + 1 + 1 + 1) (w.heap.size + 1 + 1) (V.heap.size + 2 + 1) G.length (.slice av st.length cv) (fewN G.length st) x W' (by omega) bF' bB' hIx hxN hN1 hN9 (fun y hy => tells_mem HTx.out hy))
    have cK := bK'.cell
    have cT := bT'.cell
    have fT := bT'.frozen
    clear hseq hsp hst hIx
    gi_wp2
    gi_loop [15] (fun i => ∃ k : Nat, k ≤ G.length ∧ i = .int .i64 k ∧ Hid (∀ j, j < k → nd x (nd x j) = nd x j)) (fun i => G.length - (intOf i).toNat)
    case atStart => exact ⟨0, Nat.zero_le _, rfl, fun j hj => absurd hj (Nat.not_lt_zero _)⟩
    case round =>
      obtain ⟨k, hk, rfl, HR⟩ := hrel
      by_cases hlt : k < G.length
      · obtain ⟨p, hp, enp, hpN⟩ := tells_at HTx.out hlt
        obtain ⟨q, hq, enq, hqN⟩ := tells_at HTx.out hpN
        have c1 := HC.out k _ hp
        have c2 := HC.out p _ hq
        have HP := Lib.hid enp
        have HQ := Lib.hid enq
        clear hp hq enp enq
        by_cases hs : q = p
        · subst hs
          gi_wp2
          go_round
          case rel => exact ⟨k + 1, by omega, by go_num, fun j hj => by
            by_cases e : j = k
            · subst e
              rw [HP.out, HQ.out]
            · exact HR.out j (by omega)⟩
          case measure => simp [intOf]; omega
        · have hne : ((q : Int) != (p : Int)) = true := by simp; omega
          have HNo : Hid (stysI G x = false) := Lib.hid (by
            rw [Bool.eq_false_iff]
            intro h
            have h2 := HSx.out.1 h k (by rw [hxN]; exact hlt)
            rw [HP.out, HQ.out] at h2
            exact hs h2)
          gi_wp2
          refine ⟨keepsFrom_below (Below.refl _ _) _, KeepC.refl _ _ _, ⟨bK', .slice av st.length cv, bT', bB', ?_, ?_⟩, hB'⟩
          · rw [HFo.out, betQ_not HNo.out]; exact bF'
          · rw [HFo.out, betQ_not HNo.out]; exact hO
      · obtain rfl : k = G.length := by omega
        have HYes : Hid (stysI G x = true) := Lib.hid (HSx.out.2 fun j hj => HR.out j (by rw [hxN] at hj; exact hj))
        gi_wp2_with fail
        (try refine ⟨hdd _, ?_⟩)
        gi_at_call 117
        refine (CallsIn.inRound l2 (callsIn_wide.2 HKp.out)).mono ?_
        rintro e w4 ⟨v', rfl, hK2, bB4, hor⟩
        obtain ⟨a2, n2, c2, rfl⟩ : ∃ a2 n2 c2, v' = .slice a2 n2 c2 := by
          rcases hor with ⟨_, _, ho⟩ | ⟨_, _, ho⟩
          · obtain ⟨a2, c2, e⟩ := own_form ho
            exact ⟨a2, _, c2, e⟩
          · exact ⟨_, _, _, ho⟩
        have hz4 := hK2.size
        have bT4 := hK2.box bT' (by omega) (by omega)
        have bK4 := hK2.box bK' (by omega) (by omega)
        have cT4 := bT4.cell
        have fT4 := bT4.frozen
        have HOr := Lib.hid hor
        clear hor cT fT cK
        gi_wp2_with fail
        have hgr := grownBy_setQ6 w4 (w.heap.size + 1) 0 (.slice a2 n2 c2)
        have hKF : KeepsFrom V.heap.size W' (w4.setCell ⟨w.heap.size + 1, 0, none⟩ (.slice a2 n2 c2)) := ⟨by simp; omega, fun k o hk ho _ => (Below.heap_setCell w4 ⟨w.heap.size + 1, 0, none⟩ (.slice a2 n2 c2) k (by show k ≠ w.heap.size + 1; omega)).trans ((hK2.block k (Array.getElem?_eq_some_iff.1 ho).1 (by omega) (by omega)).trans ho)⟩
        have hKC : KeepC (fun B => B = w.heap.size + 1 ∨ B = w.heap.size + 1 + 1 ∨ B = w.heap.size + 1 + 1 + 1) (V.heap.size + 2) W' (w4.setCell ⟨w.heap.size + 1, 0, none⟩ (.slice a2 n2 c2)) := ⟨by simp; omega, fun B o hS hB _ => (Below.heap_setCell w4 ⟨w.heap.size + 1, 0, none⟩ (.slice a2 n2 c2) B (fun e => hS (.inl e))).trans ((hK2.block B (Array.getElem?_eq_some_iff.1 hB).1 (fun e => hS (.inr (.inr e))) (fun e => hS (.inr (.inl e)))).trans hB)⟩
        have hB5 : Below w.heap.size w (w4.setCell ⟨w.heap.size + 1, 0, none⟩ (.slice a2 n2 c2)) := (hB'.trans (hK2.below (by omega) (by omega) hB'.size)).setCell (p := ⟨w.heap.size + 1, 0, none⟩) (by show w.heap.size ≤ w.heap.size + 1; omega) _
        have bK5 := (Below.heap_setCell w4 ⟨w.heap.size + 1, 0, none⟩ (.slice a2 n2 c2) (w.heap.size + 1 + 1 + 1 + 1) (by show w.heap.size + 1 + 1 + 1 + 1 ≠ w.heap.size + 1; omega)).trans bK4
        have bB5 := (Below.heap_setCell w4 ⟨w.heap.size + 1, 0, none⟩ (.slice a2 n2 c2) (w.heap.size + 1 + 1) (by show w.heap.size + 1 + 1 ≠ w.heap.size + 1; omega)).trans bB4
        rcases HOr.out with ⟨hlt2, bF4, hown4⟩ | ⟨hnlt, bF4, e'⟩
        · refine ⟨hKF, hKC, ⟨bK5, .slice a2 n2 c2, bT4.set _, bB5, ?_, ?_⟩, hB5⟩
          · rw [HFo.out, betQ_yes HYes.out hlt2, fewN_x hxN hN1]
            exact (Below.heap_setCell w4 ⟨w.heap.size + 1, 0, none⟩ (.slice a2 n2 c2) (w.heap.size + 1 + 1 + 1) (by show w.heap.size + 1 + 1 + 1 ≠ w.heap.size + 1; omega)).trans bF4
          · rw [HFo.out, betQ_yes HYes.out hlt2, hxN]
            exact own_keptS (Joins.ownsRow_le hown4 (by omega)) hgr (fun r e => .inl (by cases e; omega))
        · cases e'
          refine ⟨hKF, hKC, ⟨bK5, _, bT4.set _, bB5, ?_, ?_⟩, hB5⟩
          · rw [HFo.out, betQ_no hN9 hnlt]
            exact (Below.heap_setCell w4 ⟨w.heap.size + 1, 0, none⟩ _ (w.heap.size + 1 + 1 + 1) (by show w.heap.size + 1 + 1 + 1 ≠ w.heap.size + 1; omega)).trans bF4
          · rw [HFo.out, betQ_no hN9 hnlt]
            exact own_keptS (own_blockQ hO fun g hg => by have h := hO.lt g hg; exact hK2.block g h.2 (by omega) (by omega)) hgr (fun r e => .inl (by cases e; omega))
  case done =>
    rintro D ys W' hD rfl ⟨⟨bK', v, bT', bB', bF', hO⟩, hB'⟩ hK
    have cT := bT'.cell
    clear hseq
    gi_wp2
    rw [Exit.noGoto_ret]
    refine ⟨by simp, .inl ⟨_, _, rfl, run_takeDeferred hK, ?_⟩⟩
    rw [← HZ2.out] at hO
    obtain ⟨av, cv, rfl⟩ := own_form hO
    refine ⟨_, results_tmp rfl _ _ _, av, cv, ⟨rfl, hB'.trans (belowK_b (w := w) (Nat.le_refl _) W' D _ _ (by omega) hK rfl rfl)⟩, ?_⟩
    exact Joins.ownsRow_le (own_keptS hO (grownBy_putObj' W' D _) (fun r e => .inr ⟨_, by cases e; exact hK, rfl⟩)) (by omega)
  case stop =>
    rintro D c' pre W' _ _ hx _
    exact hx.elim

end Go.Proofs.Ytiappomfohnhoaa

namespace Go.Proofs.Ytiappomfohnhoaa
open Go.RowKit Go.Shelf Go.Deep

/-- A new list, and whether there is one. -/
def MadeLB (zs : List Int) (yes : Bool) (w : World) (e : Ending) (w' : World) : Prop := ∃ (a : Option Addr) (c : Nat), (e = .returned (.tuple #[.slice a zs.length c, .bool yes]) ∧ Below w.heap.size w w') ∧ w'.ownsRow w.heap.size 3 1 (.slice a zs.length c) zs.length (zs.map (Value.int .i64))

theorem ownR_mono6 {base base' : Nat} {W : World} {a : Option Addr} {c : Nat} {xss : List (List Int)} (h : OwnR base W a c xss) (hb : base' ≤ base) : OwnR base' W a c xss := by
  rcases h with h | ⟨b, G, h1, h2, h3, h4, h5, h6⟩
  · exact .inl h
  · exact .inr ⟨b, G, h1, h2, h3, by omega, fun i hi => by have := h5 i hi; omega, h6⟩
theorem own_cap {W : World} {base e n c : Nat} {a : Option Addr} {xs : List Value} (h : W.ownsRow base e 1 (.slice a n c) n xs) : n ≤ c := by
  rcases h.2 with ⟨e0, h0⟩ | ⟨g, cap, cur, e0, _, _, hn, _⟩
  · omega
  · cases e0; exact hn

set_option maxRecDepth 100000 in
set_option maxHeartbeats 1000000 in
theorem implStaysOf (a : Option Addr) (c : Nat) (G : List (List Int)) (w : World) (hM : Mat w.heap.size w a G) (hF : Fit G) :
    Calls Try.prog 43 #[.slice a G.length c] w (MadeLB (staL G) (g5 G) w) := by
  have HOk := Lib.hid (coredP a c G w hM hF)
  obtain ⟨z, hz⟩ : ∃ z, staL G = z := ⟨_, rfl⟩
  rw [hz]
  by_cases hg : g5 G = true
  · rw [hg] at HOk ⊢
    have HFw : Hid (∀ w1 : World, Below w.heap.size w w1 → Calls Try.prog 80 #[.agg #[.slice a G.length c]] w1 (MadeOwn z w1)) := Lib.hid fun w1 hB1 => by
      have := fewestP a c G w1 ((hM.below hB1).more hB1.size) hg
      rw [hz] at this; exact this
    clear hz hg hM hF
    go_enter Try.func43, Try.ntmps43
    go_wp2_with fail
    refine HOk.out.mono ?_
    rintro e w1 ⟨rfl, hB1⟩
    have hz1 := hB1.size
    go_wp2_with fail
    refine (HFw.out w1 hB1).mono ?_
    rintro e w2 ⟨a2, c2, ⟨rfl, hB2⟩, hO2⟩
    have HO := Lib.hid (Joins.ownsRow_le hO2 hz1)
    clear hO2
    go_wp2_with fail
    go_ret2
    exact ⟨a2, c2, ⟨rfl, hB1.trans (hB2.mono hz1)⟩, HO.out⟩
  · have hn : g5 G = false := by simpa using hg
    rw [hn] at HOk ⊢
    have h0 : z = [] := by rw [← hz, staL_no hn]
    subst h0
    clear hz hg hn hM hF
    go_enter Try.func43, Try.ntmps43
    go_wp2_with fail
    refine HOk.out.mono ?_
    rintro e w1 ⟨rfl, hB1⟩
    go_wp2_with fail
    go_ret2
    exact ⟨none, 0, ⟨rfl, hB1⟩, World.ownsRow_nil _ _ _ 1⟩

set_option maxRecDepth 100000 in
set_option maxHeartbeats 1000000 in
theorem implCoreOf (a : Option Addr) (c : Nat) (G : List (List Int)) (w : World) (hM : Mat w.heap.size w a G) (hF : Fit G) :
    Calls Try.prog 18 #[.slice a G.length c] w (MadeB (corL G) (g5 G) w) := by
  have HSt := Lib.hid (implStaysOf a c G w hM hF)
  obtain ⟨zs, hzs⟩ : ∃ zs, corL G = zs := ⟨_, rfl⟩
  rw [hzs]
  by_cases hg : g5 G = true
  · have hT := (sta_map hg).1
    have hlz := hT.1
    have hN1 := (good_of (g5_iff.1 hg).1).1
    have hN9 := (good_of (g5_iff.1 hg).1).2.1
    have hil := imgL_le (m := G.length) (staL G)
    have HE : Hid (partL G (imgL G.length (staL G)) = zs) := Lib.hid (by rw [← corL_yes hg, hzs])
    rw [hg] at HSt ⊢
    have HTm := Lib.hid (fun y (hy : y ∈ staL G) => tells_mem hT hy)
    obtain ⟨z, hz⟩ : ∃ z, staL G = z := ⟨_, rfl⟩
    rw [hz] at HSt HE hlz hil HTm
    obtain ⟨q, hq⟩ : ∃ q, imgL G.length z = q := ⟨_, rfl⟩
    have HQ := Lib.hid hq
    rw [hq] at HE hil
    have HM := Lib.hid hM
    have HF := Lib.hid hF
    have HLZ := Lib.hid hlz
    clear hz hq hT hM hF hg hzs hlz
    go_enter Try.func18, Try.ntmps18
    go_wp2_with fail
    refine HSt.out.mono ?_
    rintro e w1 ⟨a1, c1, ⟨rfl, hB1⟩, hO1⟩
    have hz1 := hB1.size
    have hIm := imageP a1 c1 G.length z w1 (own_intsQ hO1) (by rw [HLZ.out]; exact hN1) (by rw [HLZ.out]; omega) HTm.out
    rw [HQ.out] at hIm
    have HIm := Lib.hid hIm
    clear hIm hO1
    go_wp2_with fail
    refine HIm.out.mono ?_
    rintro e w2 ⟨a2, c2, ⟨rfl, hB2⟩, hO2⟩
    have hz2 := hB2.size
    have hB2w := hB1.trans (hB2.mono hz1)
    have hPt := implPart a a2 c c2 G q w2 ((HM.out.below hB2w).more hB2w.size) (own_intsQ hO2) (own_cap hO2) (by omega) HF.out
    rw [HE.out] at hPt
    have HPt := Lib.hid hPt
    clear hPt hO2
    go_wp2_with fail
    refine HPt.out.mono ?_
    rintro e w3 ⟨a3, c3, ⟨rfl, hB3⟩, hR3⟩
    have HR := Lib.hid hR3
    clear hR3
    go_wp2_with fail
    go_ret2
    exact ⟨a3, c3, ⟨rfl, hB2w.trans (hB3.mono hB2w.size)⟩, ownR_mono6 HR.out hB2w.size⟩
  · have hn : g5 G = false := by simpa using hg
    rw [hn] at HSt ⊢
    have h0 : zs = [] := by rw [← hzs, corL_no hn]
    subst h0
    clear hzs hg hn hM hF
    go_enter Try.func18, Try.ntmps18
    go_wp2_with fail
    refine HSt.out.mono ?_
    rintro e w1 ⟨a1, c1, ⟨rfl, hB1⟩, _⟩
    go_wp2_with fail
    go_ret2
    exact ⟨none, 0, ⟨rfl, hB1⟩, (.inl ⟨rfl, rfl, rfl⟩)⟩

end Go.Proofs.Ytiappomfohnhoaa
