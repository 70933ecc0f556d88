/-
  Marks of rows that lie apart, each with room to spare.
-/
import Derived.Test.YtldkgkpiceamhaaZB
import Derived.Test.YtldkgkpiceamhaaM9
import Derived.Test.YtldkgkpiceamhaaZC
namespace Go.Proofs.Ytldkgkpiceamhaa
open Go.RowKit Go.Shelf

theorem own_block {W W' : World} {base e n : Nat} {v : Value} {xs : List Value} (h : W.ownsRow base e 1 v n xs) (hk : ∀ g, v.ownBlock = some g → W'.heap[g]? = W.heap[g]?) : W'.ownsRow base e 1 v n xs := by
  obtain ⟨h1, h2⟩ := h
  refine ⟨h1, ?_⟩
  rcases h2 with h0 | ⟨g, cap, cur, rfl, hb, hg, hr⟩
  · exact .inl h0
  · exact .inr ⟨g, cap, cur, rfl, hb, (hk g rfl).trans hg, hr⟩
theorem Touch.ownSep {base n : Nat} {S : Nat → Prop} {W W' : World} {v : Value} {xss : List (List Int)} (ht : Touch S W W') (h : OwnSep base W v xss) (hS : ∀ B, S B → B < n) (hn : n ≤ base) : OwnSep base W' v xss := by
  obtain ⟨vs, h1, h2, h3⟩ := h
  have key : ∀ (e m : Nat) (u : Value) (zs : List Value), W.ownsRow base e 1 u m zs → W'.ownsRow base e 1 u m zs := fun e m u zs ho => own_block ho fun g hg => ht.block g fun s => by have := hS g s; have := (ho.lt g hg).1; omega
  exact ⟨vs, key _ _ _ _ h1, fun i x xs hx hxs => key _ _ _ _ (h2 i x xs hx hxs), h3⟩
/-- One row turns. -/
theorem OwnSep.turn {base : Nat} {W W' : World} {v x : Value} {xss : List (List Int)} {vs : List Value} {ys : List Int} {j : Nat} (h1 : W.ownsRow base 24 1 v xss.length vs)
    (h2 : ∀ (i : Nat) (x : Value) (xs : List Int), vs[i]? = some x → xss[i]? = some xs → W.ownsRow base 3 1 x xs.length (xs.map (Value.int .i64))) (h3 : Sep vs) (hx : vs[j]? = some x) (ht : Touch (fun B => x.ownBlock = some B) W W') (hy : W'.ownsRow base 3 1 x ys.length (ys.map (Value.int .i64))) : OwnSep base W' v (xss.set j ys) := by
  have hvl : vs.length = xss.length := by simpa using h1.1
  have hj : j < xss.length := by have := (List.getElem?_eq_some_iff.1 hx).1; omega
  have hrow := h2 j x _ hx (List.getElem?_eq_getElem hj)
  refine ⟨vs, ?_, fun i u xs hu hxs => ?_, h3⟩
  · rw [List.length_set]
    refine own_block h1 fun g hg => ht.block g fun s => ?_
    rcases own_ne_own h1 hrow with h | h
    · rw [h] at s; cases s
    · exact h (s.trans hg.symm)
  · by_cases e : i = j
    · subst e
      rw [hx] at hu; cases hu
      rw [List.getElem?_set_self hj] at hxs; cases hxs
      exact hy
    · rw [List.getElem?_set_ne (fun h => e h.symm)] at hxs
      exact own_block (h2 i u xs hu hxs) fun g hg => ht.block g fun s => h3 j i x u g (fun h => e h.symm) hx hu s hg

/-- A ROW IS MARKED from k on. -/
def MarkO (base : Nat) (x : Value) (k m : Nat) (w : World) (e : Ending) (w' : World) : Prop := e = .returned (.int .i64 ((k + m : Nat) : Int)) ∧ w'.ownsRow base 3 1 x m ((seqL k m).map (Value.int .i64)) ∧ Touch (fun B => x.ownBlock = some B) w w'
theorem seqL_more (k m : Nat) : seqL k (m + 1) = seqL k m ++ [((k + m : Nat) : Int)] := by simp [seqL, List.range_succ]
theorem set_mark (k j : Nat) (xs : List Int) (hj : j < xs.length) : ((seqL k j ++ xs.drop j).map (Value.int .i64)).set j (.int .i64 ((k + j : Nat) : Int)) = (seqL k (j + 1) ++ xs.drop (j + 1)).map (Value.int .i64) := by
  rw [seqL_more, List.drop_eq_getElem_cons hj, ← List.map_set]
  congr 1
  rw [List.set_append_right _ _ (by rw [seqL_length]; exact Nat.le_refl _), seqL_length, Nat.sub_self, List.set_cons_zero, List.append_assoc]
  rfl
set_option maxHeartbeats 1000000 in
theorem markO_any (base : Nat) (x : Value) (k : Nat) (xs : List Int) (w : World) (hR : w.ownsRow base 3 1 x xs.length (xs.map (Value.int .i64))) (hl : xs.length ≤ 1048576) (hk : k ≤ 4000000000000) :
    Calls Try.prog 51 #[x, .int .i64 k] w (MarkO base x k xs.length w) := by
  rcases hR.2 with ⟨rfl, h0⟩ | ⟨g, cap, cur, rfl, _⟩
  · have hxs : xs = [] := List.eq_nil_of_length_eq_zero h0
    subst hxs
    go_enter Try.func51, Try.ntmps51
    go_wp2
    go_loopw [1, 5] (fun t i wr => i = .int .i64 0 ∧ t = .int .i64 (k : Int) ∧ wr = w) (fun _ _ _ => 0)
    case atStart => exact ⟨rfl, rfl, rfl⟩
    case round =>
      obtain ⟨rfl, rfl, rfl⟩ := hrel
      go_wp2
      go_ret
      exact ⟨rfl, World.ownsRow_nil _ _ _ _, Touch.refl _ _⟩
  · have HR0 : Hid (w.ownsRow base 3 1 (.slice (some ⟨g, 0, none⟩) xs.length cap) xs.length ((seqL k 0 ++ xs.drop 0).map (Value.int .i64))) := Lib.hid (by simpa [seqL] using hR)
    clear hR
    go_enter Try.func51, Try.ntmps51
    go_wp2
    go_loopw [1, 5] (fun t i wr => ∃ j : Nat, j ≤ xs.length ∧ i = .int .i64 j ∧ t = .int .i64 ((k + j : Nat) : Int) ∧ Hid (wr.ownsRow base 3 1 (.slice (some ⟨g, 0, none⟩) xs.length cap) xs.length ((seqL k j ++ xs.drop j).map (Value.int .i64))) ∧ Hid (Touch (fun B => some g = some B) w wr))
      (fun _ i _ => xs.length - (intOf i).toNat)
    case atStart => exact ⟨0, Nat.zero_le _, rfl, rfl, HR0, Touch.refl _ _⟩
    case round =>
      obtain ⟨j, hj, rfl, rfl, HR, HT⟩ := hrel
      clear HR0
      by_cases hlt : j < xs.length
      · have hc : wr.cell? ⟨g, j, none⟩ = some (.int .i64 (xs[j]'hlt)) := by
          rw [HR.out.cellAt j (by omega), List.getElem?_map, List.getElem?_append_right (by rw [seqL_length]; exact Nat.le_refl _), seqL_length, Nat.sub_self, List.getElem?_drop, Nat.add_zero, List.getElem?_eq_getElem hlt]; rfl
        have hf := HR.out.frozenAt j
        have HS := Lib.hid (HR.out.stored j (.int .i64 ((k + j : Nat) : Int))).1
        have e1 : ((k + j : Nat) : Int) = (k : Int) + j := by omega
        rw [set_mark k j xs hlt, e1] at HS
        rw [e1]
        go_wp2
        go_roundw
        case rel => exact ⟨j + 1, by omega, by go_num, by rw [show ((k + (j + 1) : Nat) : Int) = (k : Int) + j + 1 by omega], HS, Lib.hid (HT.out.trans (Touch.set (S := fun B => some g = some B) _ rfl j _))⟩
        case measure => simp [intOf]; omega
      · obtain rfl : j = xs.length := by omega
        go_wp2
        go_ret
        refine ⟨rfl, ?_, HT.out⟩
        have h := HR.out
        rw [List.drop_length, List.append_nil] at h
        exact h

/-- The first j rows are marked. -/
def mixL (k : Nat) (xss : List (List Int)) (j : Nat) : List (List Int) := (List.range xss.length).map fun i => if i < j then seqL (k + tot (xss.take i)) (xss[i]?.getD []).length else xss[i]?.getD []
theorem mixL_length (k : Nat) (xss : List (List Int)) (j : Nat) : (mixL k xss j).length = xss.length := by simp [mixL]
theorem mixL_zero (k : Nat) (xss : List (List Int)) : mixL k xss 0 = xss := by
  apply List.ext_getElem
  · exact mixL_length _ _ _
  · intro i h1 h2
    simp [mixL, h2]
theorem mixL_all (k : Nat) (xss : List (List Int)) : mixL k xss xss.length = markL k xss := by
  unfold mixL markL
  exact List.map_congr_left fun i hi => if_pos (List.mem_range.1 hi)
theorem mixL_get {k j : Nat} {xss : List (List Int)} {xs : List Int} (h : xss[j]? = some xs) : (mixL k xss j)[j]? = some xs := by
  have hj := (List.getElem?_eq_some_iff.1 h).1
  simp only [mixL, List.getElem?_map, List.getElem?_range hj, Option.map_some, Nat.lt_irrefl, if_false, h, Option.getD_some]
theorem mixL_succ {k j : Nat} {xss : List (List Int)} {xs : List Int} (h : xss[j]? = some xs) : (mixL k xss j).set j (seqL (k + tot (xss.take j)) xs.length) = mixL k xss (j + 1) := by
  have hj := (List.getElem?_eq_some_iff.1 h).1
  apply List.ext_getElem
  · simp [mixL]
  · intro i h1 h2
    rw [List.getElem_set]
    by_cases e : j = i
    · subst e
      simp [mixL, h]
    · rw [if_neg e]
      have : i < j ↔ i < j + 1 := by omega
      simp only [mixL, List.getElem_map, List.getElem_range, this]

/-- ALL ROWS ARE MARKED from k on. -/
def MarkSep (base : Nat) (a : Option Addr) (c k : Nat) (xss : List (List Int)) (w : World) (e : Ending) (w' : World) : Prop :=
  e = .returned (.int .i64 ((k + tot xss : Nat) : Int)) ∧ OwnSep base w' (.slice a (markL k xss).length c) (markL k xss) ∧ Touch (fun B => base ≤ B) w w'
set_option maxRecDepth 100000 in
set_option maxHeartbeats 1000000 in
theorem markSep_any (base : Nat) (a : Option Addr) (c k : Nat) (xss : List (List Int)) (w : World) (hO : OwnSep base w (.slice a xss.length c) xss) (hF : Fit xss) (hk : k ≤ 1000) :
    Calls Try.prog 50 #[.slice a xss.length c, .int .i64 k] w (MarkSep base a c k xss w) := by
  have HF := Lib.hid hF
  have hl := hF.1
  have HO0 : Hid (OwnSep base w (.slice a xss.length c) (mixL k xss 0)) := Lib.hid (by rw [mixL_zero]; exact hO)
  clear hF hO
  go_enter Try.func50, Try.ntmps50
  go_wp2
  go_loopw [1, 5] (fun t i wr => ∃ j q : Nat, j ≤ xss.length ∧ i = .int .i64 j ∧ t = .int .i64 (q : Int) ∧ Hid (q = k + tot (xss.take j)) ∧ Hid (OwnSep base wr (.slice a xss.length c) (mixL k xss j)) ∧ Hid (Touch (fun B => base ≤ B) w wr)) (fun _ i _ => xss.length - (intOf i).toNat)
  case atStart => exact ⟨0, k, Nat.zero_le _, rfl, rfl, Lib.hid (by simp [tot]), HO0, Touch.refl _ _⟩
  case round =>
    obtain ⟨j, q, hj, rfl, rfl, HQ, HO, HT⟩ := hrel
    clear HO0
    by_cases hlt : j < xss.length
    · obtain ⟨xs, hxs⟩ : ∃ xs, xss[j]? = some xs := ⟨_, List.getElem?_eq_getElem hlt⟩
      obtain ⟨vs, h1, h2, h3⟩ := HO.out
      have hvl : vs.length = xss.length := by have := h1.1; rw [mixL_length] at this; simpa using this
      obtain ⟨x, hx⟩ : ∃ x, vs[j]? = some x := ⟨_, List.getElem?_eq_getElem (by omega)⟩
      have hrow := h2 j x xs hx (mixL_get hxs)
      rw [mixL_length] at h1
      obtain ⟨g, cap, e⟩ := Joins.ownsRow_form h1 (by omega)
      simp only [Value.slice.injEq] at e
      obtain ⟨rfl, _, rfl⟩ := e
      have hcell : wr.cell? ⟨g, j, none⟩ = some x := by rw [h1.cellAt j (by omega), hx]
      have hxl := HF.out.at_ hxs
      have htl := tot_le HF.out j hj
      have hq : q ≤ 4000000000000 := by
        have := HQ.out
        have h5 : j * 1048576 ≤ 1048576 * 1048576 := Nat.mul_le_mul (by omega) (Nat.le_refl _)
        omega
      have HC := Lib.hid (markO_any base x q xs wr hrow hxl hq)
      have HH : Hid (∀ w', Touch (fun B => x.ownBlock = some B) wr w' → w'.ownsRow base 3 1 x xs.length ((seqL q xs.length).map (Value.int .i64)) → OwnSep base w' (.slice (some ⟨g, 0, none⟩) xss.length c) (mixL k xss (j + 1))) := Lib.hid fun w' ht ho => by
        rw [← mixL_succ hxs, ← HQ.out]
        exact OwnSep.turn (by rw [mixL_length]; exact h1) h2 h3 hx ht (by rw [seqL_length]; exact ho)
      have HSb : Hid (∀ B, x.ownBlock = some B → base ≤ B) := Lib.hid fun B hB => (hrow.lt B hB).1
      have HXS := Lib.hid hxs
      clear h1 h2 h3 hrow hx hvl hxs htl
      go_wp2_with fail
      refine HC.out.mono ?_
      rintro e w1 ⟨rfl, ho1, ht1⟩
      have HO1 := Lib.hid (HH.out w1 ht1 ho1)
      have HT1 := Lib.hid (HT.out.trans (ht1.more HSb.out))
      obtain ⟨q', hq'⟩ : ∃ q', Hid (q' = q + xs.length) := ⟨_, rfl⟩
      rw [← hq'.out]
      have HQ' : Hid (q' = k + tot (xss.take (j + 1))) := Lib.hid (by rw [tot_succ HXS.out, hq'.out, HQ.out]; omega)
      clear ho1 ht1 HO HT HC HH HQ hq hcell
      go_wp2_with fail
      go_roundw
      case rel => exact ⟨j + 1, q', by omega, by go_num, rfl, HQ', HO1, HT1⟩
      case measure => simp [intOf]; omega
    · obtain rfl : j = xss.length := by omega
      go_wp2_with fail
      go_ret
      refine ⟨?_, ?_, HT.out⟩
      · rw [HQ.out, tot_all]; rfl
      · have h := HO.out
        rw [mixL_all] at h
        rw [markL_length]; exact h

end Go.Proofs.Ytldkgkpiceamhaa
