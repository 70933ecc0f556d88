/-
  Several texts in one.
  Orders, and the graphs that they make: what holds of the lists alone.
  impl.SameGraph.
  impl.SameGraph: the search.
  The model's SameGraph: are two graphs of as many nodes the same (spec.l1Same)?
  The model's SameGraph.
  A list of one's own, built by append, is marked; SameGraph's two contracts.
  The same both ways: what holds of SameGraph's answer (P4), lists alone.
-/
import Derived.Test.YtofpjepndhpciaaWV
import Derived.Test.YtofpjepndhpciaaZY
import Derived.Stop.RegionWithIn
import Derived.ArgAppend
import Derived.OwnWalk
import Derived.Lib.SliceRun
import Derived.Test.YtofpjepndhpciaaZE
import Derived.Test.YtofpjepndhpciaaWI
import Derived.Test.YtofpjepndhpciaaZB
import Derived.Test.YtofpjepndhpciaaW0
namespace Go.Proofs.Ytofpjepndhpciaa
open Go.RowKit Go.Shelf Go.Deep

theorem olvl_ord (n k : Nat) : ∀ m, (olvl n k).flatMap (ordL n m) = ordL n (k + m) [] := by
  induction k with
  | zero => intro m; simp [olvl]
  | succ k ih =>
    intro m
    rw [olvl, List.flatMap_assoc, show k + 1 + m = k + (m + 1) by omega, ← ih (m + 1)]
    rfl
theorem ord_olvl (n : Nat) : ordL n n [] = olvl n n := by
  have h := olvl_ord n n 0
  rw [Nat.add_zero] at h
  rw [← h]
  have e : ordL n 0 = fun p => [p] := rfl
  rw [e, List.flatMap_singleton']
theorem Nodes.more {m : Nat} {ys : List Int} {x : Nat} (h : Nodes m ys) (hx : x < m) (hc : ys.contains (x : Int) = false) : Nodes m (ys ++ [(x : Int)]) := by
  have key : ∀ k (t : Int), (ys ++ [(x : Int)])[k]? = some t → (k < ys.length ∧ ys[k]? = some t) ∨ (k = ys.length ∧ t = x) := fun k t ht => by
    by_cases hk : k < ys.length
    · exact .inl ⟨hk, by rwa [List.getElem?_append_left hk] at ht⟩
    · refine .inr ?_
      rw [List.getElem?_append_right (by omega)] at ht
      have h0 : k - ys.length = 0 := by have := (List.getElem?_eq_some_iff.1 ht).1; simp at this; omega
      rw [h0] at ht
      exact ⟨by omega, by simpa using ht.symm⟩
  refine ⟨fun j y hy => ?_, fun i j y hij hy e => ?_⟩
  · rcases key j y hy with ⟨_, h2⟩ | ⟨_, rfl⟩
    · exact h.1 j y h2
    · omega
  · rcases key i y hy with ⟨h1, h2⟩ | ⟨h1, rfl⟩ <;> rcases key j _ e with ⟨h3, h4⟩ | ⟨h3, h4⟩
    · exact h.2 i j y hij h2 h4
    · subst h4
      have := List.contains_iff_mem.2 (List.mem_of_getElem? h2)
      rw [hc] at this; cases this
    · omega
    · omega
theorem olvl_nodes {n : Nat} : ∀ {k : Nat} {p : List Int}, p ∈ olvl n k → Nodes n p
  | 0, p, h => by
    rw [olvl, List.mem_singleton] at h
    subst h
    exact ⟨fun j y hy => by simp at hy, fun i j y _ hy => by simp at hy⟩
  | k + 1, p, h => by
    rw [olvl, List.mem_flatMap] at h
    obtain ⟨q, hq, hp⟩ := h
    unfold oexts at hp
    obtain ⟨x, hx, rfl⟩ := List.mem_map.1 hp
    obtain ⟨hx1, hx2⟩ := List.mem_filter.1 hx
    exact (olvl_nodes hq).more (List.mem_range.1 hx1) (by simpa using hx2)
theorem nodes_tells {m n : Nat} {p : List Int} (hl : p.length = m) (h : Nodes n p) : Tells m n p := ⟨hl, h.1⟩
/-- The order makes the second graph of the first one: the part in that order is the second graph. -/
theorem same_part {G H : List (List Int)} {f : List Int} (hG : gOk G = true) (hH : gOk H = true) (hl : f.length = H.length) (hN : Nodes G.length f) : sameBy G H f = true ↔ partL G f = H := by
  have hg := good_of hH
  have hY := partL_yes hG (show 1 ≤ f.length by rw [hl]; exact hg.1) hN
  unfold sameBy
  rw [List.all_eq_true]
  constructor
  · intro h
    rw [hY, hl]
    conv => rhs; rw [good_rowsP hg]
    refine rowsP_congr fun i j hi hj => ?_
    have := h (⟨i, hi⟩, ⟨j, hj⟩) (PL_all _)
    simpa using this
  · intro h x _
    have e : arw (partL G f) x.1 x.2 = arw G (nd f x.1) (nd f x.2) := by rw [hY, hl]; exact arw_rowsP x.1.2 x.2.2
    rw [h] at e
    rw [e]
    simp
/-- The first order in which the nodes of a graph make another one. -/
def sameGI (G H : List (List Int)) : Option (List Int) := if gOk G && gOk H && G.length == H.length && decide (G.length ≤ 5) then (olvl G.length G.length).find? (sameBy G H) else none

end Go.Proofs.Ytofpjepndhpciaa

namespace Go.Proofs.Ytofpjepndhpciaa
open Go.RowKit Go.Shelf Go.Deep

attribute [local go_sem] Oper.semAt_some

/-- The list that is returned, in memory of its own, and whether there is one. -/
def SameOut (o : Option (List Int)) (w : World) (e : Ending) (w' : World) : Prop :=
  ∃ (a : Option Addr) (c : Nat), (e = .returned (.tuple #[.slice a (o.getD []).length c, .bool o.isSome]) ∧ Below w.heap.size w w') ∧ w'.ownsRow w.heap.size 3 1 (.slice a (o.getD []).length c) (o.getD []).length ((o.getD []).map (Value.int .i64))

end Go.Proofs.Ytofpjepndhpciaa

namespace Go.Proofs.Ytofpjepndhpciaa
open Go.RowKit Go.Shelf Go.Deep

attribute [local go_sem] Oper.semAt_some

theorem find_at {α : Type} {p : α → Bool} {L pre : List α} {x : α} (hpre : pre ++ [x] <+: L) (hn : ∀ y ∈ pre, p y = false) (hx : p x = true) : L.find? p = some x := by
  obtain ⟨r, rfl⟩ := hpre
  have h0 : pre.find? p = none := List.find?_eq_none.2 fun y hy => by rw [hn y hy]; simp
  simp [List.find?_append, h0, hx]
theorem find_not {α : Type} {p : α → Bool} {L : List α} (hn : ∀ y ∈ L, p y = false) : L.find? p = none := List.find?_eq_none.2 fun y hy => by rw [hn y hy]; simp

theorem grownBy_setQ (W : World) (b j : Nat) (x : Value) : W.grownBy (W.setCell ⟨b, j, none⟩ x) (some b) :=
  ⟨rfl, rfl, rfl, by simp, fun k _ hk => Below.heap_setCell W ⟨b, j, none⟩ x k (fun e => hk (by rw [show k = b from e]))⟩

end Go.Proofs.Ytofpjepndhpciaa

namespace Go.Proofs.Ytofpjepndhpciaa
open Go.RowKit Go.Shelf Go.Deep

theorem drewN_twoQ (w : World) (n m : Nat) : (w.drewN n).drewN m = w.drewN (n + m) := by simp [World.drewN, Nat.add_assoc]
theorem ent_ext {xss yss : List (List Int)} (h : Good xss) (h' : Good yss) (hl : yss.length = xss.length) (he : ∀ i j, i < xss.length → j < xss.length → ent xss i j = ent yss i j) : xss = yss := by
  have e1 := good_rowsP h
  have e2 := good_rowsP h'
  rw [hl] at e2
  rw [e1, e2]
  refine rowsP_congr fun i j hi hj => ?_
  unfold arw
  rw [he i j hi hj]
def StillQ (v : Value) (w : World) (e : Ending) (w' : World) : Prop := e = .returned v ∧ ∃ n, w' = w.drewN n

set_option maxHeartbeats 2000000 in
theorem sameG_yes (a a' : Option Addr) (c c' N : Nat) (xss yss : List (List Int)) (n₀ : Nat) (w : World) (hM : Mat n₀ w a xss) (hM' : Mat n₀ w a' yss) (h : Good xss) (h' : Good yss) (hx : xss.length = N) (hy : yss.length = N) (b : Bool) (hb : b = decide (xss = yss)) :
    Calls Try.prog 57 #[.slice a N c, .slice a' N c'] w (StillQ (.bool b) w) := by
  have HX1 := Lib.hid hx
  have HY1 := Lib.hid hy
  have HG := Lib.hid h
  have HG' := Lib.hid h'
  have hN9 : N ≤ 9 := by rw [← hx]; exact h.2.1
  have HB := Lib.hid hb
  clear hx hy h h' hb
  go_enter Try.func57, Try.ntmps57
  go_wp2
  go_loopw [5] (fun i wr => ∃ (k n : Nat), k ≤ N ∧ i = .int .i64 k ∧ wr = w.drewN n ∧ Hid (∀ i j, i < k → j < N → ent xss i j = ent yss i j)) (fun i _ => N - (intOf i).toNat)
  case atStart => exact ⟨0, 0, Nat.zero_le _, rfl, rfl, Lib.hid fun i j hi => absurd hi (Nat.not_lt_zero _)⟩
  case round =>
    obtain ⟨k, n, hk, rfl, rfl, HK⟩ := hrel
    by_cases hlt : k < N
    · obtain ⟨b0, o, r, d, xs, rfl, hb0, hc, hI, HX⟩ := hM.at_ (k := k) (by rw [HX1.out]; exact hlt)
      obtain ⟨b0', o', r', d', ys, rfl, hb0', hc', hI', HY⟩ := hM'.at_ (k := k) (by rw [HY1.out]; exact hlt)
      have HE := Lib.hid (show xs.length = N by rw [← HX1.out]; exact HG.out.len HX.out)
      have HE' := Lib.hid (show ys.length = N by rw [← HY1.out]; exact HG'.out.len HY.out)
      rw [HE.out] at hc
      rw [HE'.out] at hc'
      go_wp2
      go_loopw [6] (fun i wr => ∃ (j m : Nat), j ≤ N ∧ i = .int .i64 j ∧ wr = w.drewN m ∧ Hid (∀ l, l < j → ent xss k l = ent yss k l)) (fun i _ => N - (intOf i).toNat)
      case atStart => exact ⟨0, n, Nat.zero_le _, rfl, rfl, Lib.hid fun l hl => absurd hl (Nat.not_lt_zero _)⟩
      case round =>
        obtain ⟨j, m, hj, rfl, rfl, HJ⟩ := hrel
        by_cases hlj : j < N
        · obtain ⟨b1, o1, v, rfl, hb1, hc1, HV⟩ := hI.at_ (k := j) (by rw [HE.out]; exact hlj)
          obtain ⟨b1', o1', v', rfl, hb1', hc1', HV'⟩ := hI'.at_ (k := j) (by rw [HE'.out]; exact hlj)
          have HU := Lib.hid (ent_eq HX.out HV.out)
          have HU' := Lib.hid (ent_eq HY.out HV'.out)
          by_cases e : v = v'
          · subst e
            have HJ2 : Hid (∀ l, l < j + 1 → ent xss k l = ent yss k l) := Lib.hid fun l hl => by
              by_cases e : l = j
              · subst e; rw [HU.out, HU'.out]
              · exact HJ.out l (by omega)
            go_wp2
            go_quiet (fail)
            go_wp2
            go_roundw
            case rel => exact ⟨j + 1, _, by omega, by go_num, rfl, HJ2⟩
            case measure => simp [intOf]; omega
          · have hvv : (v != v') = true := by simpa using e
            have hbf : b = false := by
              rw [HB.out]
              refine decide_eq_false fun e2 => e ?_
              rw [← HU.out, ← HU'.out, e2]
            go_wp2
            go_quiet (fail)
            go_wp2
            go_ret
            exact ⟨by rw [hbf]; rfl, _, drewN_twoQ _ _ _⟩
        · obtain rfl : j = N := by omega
          have HK2 : Hid (∀ i l, i < k + 1 → l < j → ent xss i l = ent yss i l) := Lib.hid fun i l hi hl => by
            by_cases e : i = k
            · subst e; exact HJ.out l hl
            · exact HK.out i l (by omega) hl
          go_wp2
          go_roundw
          case rel => exact ⟨k + 1, _, by omega, by go_num, rfl, HK2⟩
          case measure => simp [intOf]; omega
    · obtain rfl : k = N := by omega
      have hbt : b = true := by
        rw [HB.out]
        exact decide_eq_true (ent_ext HG.out HG'.out (by rw [HX1.out, HY1.out]) (fun i j hi hj => HK.out i j (by rw [← HX1.out]; exact hi) (by rw [← HX1.out]; exact hj)))
      go_wp2
      go_ret
      exact ⟨by rw [hbt]; rfl, n, rfl⟩

end Go.Proofs.Ytofpjepndhpciaa

namespace Go.Proofs.Ytofpjepndhpciaa
open Go.RowKit Go.Shelf Go.Deep

/-- The list that is returned, to be read, and whether there is one. -/
def SpecOut (o : Option (List Int)) (w : World) (e : Ending) (w' : World) : Prop :=
  ∃ (a : Option Addr) (c : Nat), (e = .returned (.tuple #[.slice a (o.getD []).length c, .bool o.isSome]) ∧ Below w.heap.size w w') ∧ Ints w'.heap.size w' a (o.getD [])
theorem ints_none (n₀ : Nat) (W : World) (a : Option Addr) : Ints n₀ W a [] := fun h => by simp at h

theorem same_dec {G H : List (List Int)} {f : List Int} (hG : gOk G = true) (hH : gOk H = true) (hl : f.length = H.length) (hN : Nodes G.length f) : sameBy G H f = decide (partL G f = H) := by
  rw [Bool.eq_iff_iff, decide_eq_true_iff]
  exact same_part hG hH hl hN
theorem part_len {xss : List (List Int)} {ys : List Int} (h : gOk xss = true) (h1 : 1 ≤ ys.length) (hN : Nodes xss.length ys) : (partL xss ys).length = ys.length := by
  rw [partL_yes h h1 hN]; exact rowsP_length _ _

end Go.Proofs.Ytofpjepndhpciaa

namespace Go.Proofs.Ytofpjepndhpciaa
open Go.RowKit Go.Shelf Go.Deep

theorem sameGI_le (G H : List (List Int)) : ((sameGI G H).getD []).length ≤ 1048576 := by
  unfold sameGI
  split
  · rename_i h
    simp only [Bool.and_eq_true, decide_eq_true_eq] at h
    cases hf : (olvl G.length G.length).find? (sameBy G H) with
    | none => simp
    | some x => simp only [Option.getD_some]; rw [olvl_len (List.mem_of_find?_eq_some hf)]; omega
  · simp
theorem sameGI_yes {G H : List (List Int)} (h : gOk G = true ∧ gOk H = true ∧ G.length = H.length ∧ G.length ≤ 5) : sameGI G H = (olvl H.length H.length).find? (sameBy G H) := by
  obtain ⟨h1, h2, h3, h4⟩ := h
  unfold sameGI
  rw [if_pos (by simp [h1, h2, h3]; omega), h3]
theorem sameGI_no {G H : List (List Int)} (h : ¬ (gOk G = true ∧ gOk H = true ∧ G.length = H.length ∧ G.length ≤ 5)) : sameGI G H = none := by
  unfold sameGI
  refine if_neg fun e => h ?_
  simpa [and_assoc] using e
end Go.Proofs.Ytofpjepndhpciaa

namespace Go.Proofs.Ytofpjepndhpciaa
open Go.RowKit Go.Shelf Go.Deep

theorem Nodes.less {m : Nat} {ys : List Int} {x : Int} (h : Nodes m (ys ++ [x])) : Nodes m ys ∧ (0 ≤ x ∧ x < m) ∧ ys.contains x = false := by
  have hx : (ys ++ [x])[ys.length]? = some x := by simp
  have low : ∀ (j : Nat) (y : Int), ys[j]? = some y → (ys ++ [x])[j]? = some y := fun j y hy => by
    rw [List.getElem?_append_left (List.getElem?_eq_some_iff.1 hy).1]; exact hy
  refine ⟨⟨fun j y hy => h.1 j y (low j y hy), fun i j y hij hy hy2 => h.2 i j y hij (low i y hy) (low j y hy2)⟩, h.1 _ _ hx, ?_⟩
  refine Bool.eq_false_iff.2 fun hc => ?_
  obtain ⟨i, hi, e⟩ := List.mem_iff_getElem.1 (List.contains_iff_mem.1 hc)
  exact h.2 i ys.length x hi (low i x (by rw [List.getElem?_eq_getElem hi, e])) hx
theorem nodes_olvl {n : Nat} : ∀ (k : Nat) (p : List Int), p.length = k → Nodes n p → p ∈ olvl n k
  | 0, p, hl, _ => by rw [List.length_eq_zero_iff.1 hl, olvl]; simp
  | k + 1, p, hl, h => by
    have hne : p ≠ [] := fun e => by rw [e] at hl; simp at hl
    have e := List.dropLast_concat_getLast hne
    rw [← e] at h
    obtain ⟨h1, ⟨h2, h3⟩, h4⟩ := h.less
    have hq := nodes_olvl k p.dropLast (by rw [List.length_dropLast]; omega) h1
    rw [olvl, List.mem_flatMap]
    refine ⟨p.dropLast, hq, ?_⟩
    unfold oexts
    have hx : ((p.getLast hne).toNat : Int) = p.getLast hne := Int.toNat_of_nonneg h2
    refine List.mem_map.2 ⟨(p.getLast hne).toNat, List.mem_filter.2 ⟨List.mem_range.2 (by omega), ?_⟩, ?_⟩
    · rw [hx, h4]; rfl
    · rw [hx]; exact e
theorem nodes_onto {n : Nat} {f : List Int} (hl : f.length = n) (h : Nodes n f) {j : Nat} (hj : j < n) : ∃ i, i < n ∧ nd f i = j := by
  by_cases hc : f.contains (j : Int) = true
  · obtain ⟨i, hi, e⟩ := List.mem_iff_getElem.1 (List.contains_iff_mem.1 hc)
    refine ⟨i, by omega, ?_⟩
    have := (nodes_nd h hi).1
    rw [List.getElem?_eq_getElem hi, e] at this
    have := Option.some.inj this
    omega
  · have := nodes_le (h.more hj (by simpa using hc))
    rw [List.length_append, List.length_singleton] at this
    omega
/-- The order that undoes one. -/
theorem nodes_undo {n : Nat} {f : List Int} (hl : f.length = n) (h : Nodes n f) : ∃ g : List Int, g.length = n ∧ Nodes n g ∧ ∀ i, i < n → nd f (nd g i) = i := by
  obtain ⟨F, hF⟩ : ∃ F : Nat → Nat, ∀ j, j < n → F j < n ∧ nd f (F j) = j := by
    refine ⟨fun j => if hj : j < n then Classical.choose (nodes_onto hl h hj) else 0, fun j hj => ?_⟩
    simp only [dif_pos hj]
    exact Classical.choose_spec (nodes_onto hl h hj)
  have get : ∀ j, j < n → ((List.range n).map fun j => ((F j : Nat) : Int))[j]? = some (F j : Int) := fun j hj => by simp [hj]
  have hlen : ((List.range n).map fun j => ((F j : Nat) : Int)).length = n := by simp
  have lt : ∀ (j : Nat) (y : Int), ((List.range n).map fun j => ((F j : Nat) : Int))[j]? = some y → j < n ∧ y = F j := fun j y hy => by
    have hj : j < n := by have := (List.getElem?_eq_some_iff.1 hy).1; rw [hlen] at this; exact this
    rw [get j hj] at hy
    exact ⟨hj, (Option.some.inj hy).symm⟩
  refine ⟨_, hlen, ⟨fun j y hy => ?_, fun i j y hij hy hy2 => ?_⟩, fun i hi => ?_⟩
  · obtain ⟨hj, rfl⟩ := lt j y hy
    have := (hF j hj).1
    omega
  · obtain ⟨hi, e1⟩ := lt i y hy
    obtain ⟨hj, e2⟩ := lt j y hy2
    have e : F i = F j := by omega
    have h1 := (hF i hi).2
    rw [e, (hF j hj).2] at h1
    omega
  · have e : nd ((List.range n).map fun j => ((F j : Nat) : Int)) i = F i := by unfold nd; rw [get i hi]; simp
    rw [e]; exact (hF i hi).2
theorem same_iff {G H : List (List Int)} {f : List Int} : sameBy G H f = true ↔ ∀ i j, i < H.length → j < H.length → arw G (nd f i) (nd f j) = arw H i j := by
  unfold sameBy
  rw [List.all_eq_true]
  exact ⟨fun h i j hi hj => by simpa using h (⟨i, hi⟩, ⟨j, hj⟩) (PL_all _), fun h x _ => by rw [h x.1 x.2 x.1.2 x.2.2]; simp⟩
theorem same_undo {G H : List (List Int)} {f g : List Int} {n : Nat} (hG : G.length = n) (hH : H.length = n) (hlg : g.length = n) (hg : Nodes n g) (h : ∀ i, i < n → nd f (nd g i) = i) (hs : sameBy G H f = true) : sameBy H G g = true := by
  rw [same_iff] at hs ⊢
  intro i j hi hj
  have := hs (nd g i) (nd g j) (by rw [hH]; exact (nodes_nd hg (by omega)).2) (by rw [hH]; exact (nodes_nd hg (by omega)).2)
  rw [h i (by omega), h j (by omega)] at this
  exact this.symm
theorem same_some {G H : List (List Int)} : (sameGI G H).isSome = true ↔ (gOk G = true ∧ gOk H = true ∧ G.length = H.length ∧ G.length ≤ 5) ∧ ∃ f, f.length = H.length ∧ Nodes H.length f ∧ sameBy G H f = true := by
  by_cases h : gOk G = true ∧ gOk H = true ∧ G.length = H.length ∧ G.length ≤ 5
  · rw [sameGI_yes h, List.find?_isSome]
    exact ⟨fun ⟨f, hf, hs⟩ => ⟨h, f, olvl_len hf, olvl_nodes hf, hs⟩, fun ⟨_, f, hl, hN, hs⟩ => ⟨f, nodes_olvl _ f hl hN, hs⟩⟩
  · rw [sameGI_no h]
    exact ⟨fun e => (by cases e), fun e => absurd e.1 h⟩
/-- It is told for both exchanged exactly if it is. -/
theorem same_back (G H : List (List Int)) : (sameGI H G).isSome = (sameGI G H).isSome := by
  have key : ∀ G H : List (List Int), (sameGI G H).isSome = true → (sameGI H G).isSome = true := fun G H h => by
    obtain ⟨⟨h1, h2, h3, h4⟩, f, hl, hN, hs⟩ := same_some.1 h
    obtain ⟨g, hg1, hg2, hg3⟩ := nodes_undo hl hN
    exact same_some.2 ⟨⟨h2, h1, h3.symm, by omega⟩, g, by omega, by rw [h3]; exact hg2, same_undo h3 rfl hg1 hg2 hg3 hs⟩
  exact Bool.eq_iff_iff.2 ⟨key H G, key G H⟩
theorem find_congr {α : Type} {p q : α → Bool} : ∀ {l : List α}, (∀ x ∈ l, p x = q x) → l.find? p = l.find? q
  | [], _ => rfl
  | a :: l, h => by
    rw [List.find?_cons, List.find?_cons, h a (by simp), find_congr fun x hx => h x (by simp [hx])]
theorem same_turned {G H : List (List Int)} {f : List Int} (hG : gOk G = true) (hH : gOk H = true) (hN : Nodes G.length f) (hl : f.length = H.length) : sameBy (turnedL G) (turnedL H) f = sameBy G H f := by
  have lH : (turnedL H).length = H.length := by rw [turnedL_yes hH]; exact rowsP_length _ _
  have eG : ∀ i j, i < H.length → j < H.length → arw (turnedL G) (nd f i) (nd f j) = arw G (nd f j) (nd f i) := fun i j hi hj => by
    rw [turnedL_yes hG]; exact arw_rowsP (nodes_nd hN (by omega)).2 (nodes_nd hN (by omega)).2
  have eH : ∀ i j, i < H.length → j < H.length → arw (turnedL H) i j = arw H j i := fun i j hi hj => by
    rw [turnedL_yes hH]; exact arw_rowsP hi hj
  rw [Bool.eq_iff_iff, same_iff, same_iff, lH]
  exact ⟨fun h i j hi hj => by have := h j i hj hi; rw [eG j i hj hi, eH j i hj hi] at this; exact this, fun h i j hi hj => by rw [eG i j hi hj, eH i j hi hj]; exact h j i hj hi⟩
/-- Of both turned round it is the same order. -/
theorem sameGI_turned {G H : List (List Int)} (h : (sameGI G H).isSome = true) : sameGI (turnedL G) (turnedL H) = sameGI G H := by
  obtain ⟨⟨h1, h2, h3, h4⟩, _⟩ := same_some.1 h
  have lG : (turnedL G).length = G.length := by rw [turnedL_yes h1]; exact rowsP_length _ _
  have lH : (turnedL H).length = H.length := by rw [turnedL_yes h2]; exact rowsP_length _ _
  have o1 : gOk (turnedL G) = true := by rw [turnedL_yes h1]; exact gOk_true (rowsP_good _ (good_of h1).1 (good_of h1).2.1)
  have o2 : gOk (turnedL H) = true := by rw [turnedL_yes h2]; exact gOk_true (rowsP_good _ (good_of h2).1 (good_of h2).2.1)
  rw [sameGI_yes ⟨h1, h2, h3, h4⟩, sameGI_yes ⟨o1, o2, by rw [lG, lH, h3], by rw [lG]; exact h4⟩, lH]
  exact find_congr fun f hf => same_turned h1 h2 (by rw [h3]; exact olvl_nodes hf) (olvl_len hf)
theorem sameGI_found {G H : List (List Int)} {f : List Int} (h : sameGI G H = some f) : partL G f = H := by
  obtain ⟨⟨h1, h2, h3, h4⟩, _⟩ := same_some.1 (by rw [h]; rfl)
  rw [sameGI_yes ⟨h1, h2, h3, h4⟩] at h
  have hf := List.mem_of_find?_eq_some h
  exact (same_part h1 h2 (olvl_len hf) (by rw [h3]; exact olvl_nodes hf)).1 (List.find?_some h)

end Go.Proofs.Ytofpjepndhpciaa
