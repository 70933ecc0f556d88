/-
  The model's maps, node by node: spec.l2Maps.
-/
import Derived.Test.YtofpjepndhpciaaZM
import Derived.Test.YtofpjepndhpciaaZN
import Derived.Test.YtofpjepndhpciaaZF
namespace Go.Proofs.Ytofpjepndhpciaa
open Go.RowKit Go.Shelf Go.Deep

/-- What the model asks of node j of a row that x is put behind. -/
def okJ (G H : List (List Int)) (p : List Int) (x j : Nat) : Bool := (!arw G j p.length || arw H (nd p j) x) && (!arw G p.length j || arw H x (nd p j))
def goodB (G H : List (List Int)) (p : List Int) (x j : Nat) : Bool := (!arw G p.length p.length || arw H x x) && (List.range j).all (okJ G H p x)
theorem goodB_zero (G H : List (List Int)) (p : List Int) (x : Nat) : goodB G H p x 0 = (!arw G p.length p.length || arw H x x) := by simp [goodB]
theorem goodB_succ (G H : List (List Int)) (p : List Int) (x j : Nat) : goodB G H p x (j + 1) = (goodB G H p x j && okJ G H p x j) := by
  unfold goodB; rw [List.range_succ, List.all_append, Bool.and_assoc]; simp
theorem nd_snoc_lt {p : List Int} {y : Int} {j : Nat} (h : j < p.length) : nd (p ++ [y]) j = nd p j := by unfold nd; rw [List.getElem?_append_left h]
theorem nd_snoc_last (p : List Int) (x : Nat) : nd (p ++ [(x : Int)]) p.length = x := by unfold nd; rw [List.getElem?_append_right (Nat.le_refl _)]; simp
theorem lead_snoc (G H : List (List Int)) (p : List Int) (x : Nat) : lead G H (p ++ [(x : Int)]) = goodB G H p x p.length := by
  unfold lead goodB
  rw [List.length_append, List.length_singleton, List.range_succ, List.all_append, Nat.add_sub_cancel, nd_snoc_last]
  have e : (List.range p.length).all (fun j => (!arw G j p.length || arw H (nd (p ++ [(x : Int)]) j) x) && (!arw G p.length j || arw H x (nd (p ++ [(x : Int)]) j))) = (List.range p.length).all (okJ G H p x) := by
    rw [Bool.eq_iff_iff, List.all_eq_true, List.all_eq_true]
    refine forall_congr' fun j => imp_congr_right fun hj => ?_
    rw [nd_snoc_lt (List.mem_range.1 hj)]; rfl
  rw [e]
  simp only [List.all_cons, List.all_nil, nd_snoc_last, Bool.and_true, Bool.and_self]
  rw [Bool.and_comm]

theorem lvl_le {G H : List (List Int)} (h : fewI G H = true) {k : Nat} (hk : k ≤ G.length) : (lvl G H k).length ≤ 7000 := by
  rw [lvl_eq]
  have h1 := (good_of (fewI_iff.1 h).2.1).1
  exact Nat.le_trans (mapsFrom_length k []) (Nat.le_trans (Nat.pow_le_pow_right h1 hk) (fewI_iff.1 h).2.2)
theorem lvl_len {G H : List (List Int)} {k i : Nat} {p : List Int} (h : (lvl G H k)[i]? = some p) : p.length = k := by
  have h1 := List.mem_of_getElem? h
  rw [lvl_eq] at h1
  have := mapsFrom_len k [] p h1
  simpa using this
theorem mapsFrom_tells {G H : List (List Int)} (n : Nat) : ∀ (p r : List Int), Tells p.length H.length p → r ∈ mapsFrom G H n p → Tells r.length H.length r := by
  induction n with
  | zero => intro p r hp h; rw [mapsFrom, List.mem_singleton] at h; rw [h]; exact hp
  | succ n ih =>
    intro p r hp h
    rw [mapsFrom, List.mem_flatMap] at h
    obtain ⟨q, hq, hr⟩ := h
    unfold exts at hq
    obtain ⟨x, hx, rfl⟩ := List.mem_map.1 (List.mem_filter.1 hq).1
    refine ih _ r ⟨rfl, fun j y hy => ?_⟩ hr
    by_cases hj : j < p.length
    · rw [List.getElem?_append_left hj] at hy; exact hp.2 j y hy
    · rw [List.getElem?_append_right (by omega)] at hy
      have e : j - p.length = 0 := by have := (List.getElem?_eq_some_iff.1 hy).1; simp at this; omega
      rw [e] at hy
      simp at hy
      have := List.mem_range.1 hx
      omega
theorem lvl_tells {G H : List (List Int)} {k i : Nat} {p : List Int} (h : (lvl G H k)[i]? = some p) : Tells k H.length p := by
  have h1 := List.mem_of_getElem? h
  rw [lvl_eq] at h1
  have h2 := mapsFrom_tells k [] p ⟨rfl, fun j y hy => by simp at hy⟩ h1
  rw [lvl_len h] at h2
  exact h2
/-- The next rows, as far as row i. -/
def nxt (G H : List (List Int)) (L : List (List Int)) (i : Nat) : List (List Int) := (L.take i).flatMap fun p => exts G H p H.length
theorem nxt_succ {G H L : List (List Int)} {i : Nat} {p : List Int} (h : L[i]? = some p) : nxt G H L (i + 1) = nxt G H L i ++ exts G H p H.length := by
  unfold nxt
  have hi := (List.getElem?_eq_some_iff.1 h)
  rw [List.take_add_one, List.flatMap_append, h]; simp
theorem nxt_all (G H L : List (List Int)) : nxt G H L L.length = L.flatMap fun p => exts G H p H.length := by unfold nxt; rw [List.take_of_length_le (Nat.le_refl _)]
theorem exts_mono (G H : List (List Int)) (p : List Int) {x m : Nat} (h : x ≤ m) : (exts G H p x).length ≤ (exts G H p m).length := by
  induction h with
  | refl => exact Nat.le_refl _
  | step _ ih => exact Nat.le_trans ih (by
      unfold exts
      rw [List.range_succ, List.map_append, List.filter_append, List.length_append]
      omega)
theorem nxt_prefix {G H L : List (List Int)} {i : Nat} {p : List Int} (h : L[i]? = some p) {x : Nat} (hx : x ≤ H.length) : (nxt G H L i ++ exts G H p x).length ≤ (L.flatMap fun p => exts G H p H.length).length := by
  have h1 : nxt G H L (i + 1) <+: nxt G H L L.length := by
    unfold nxt
    have hi := (List.getElem?_eq_some_iff.1 h).1
    have : L.take (i + 1) <+: L.take L.length := List.take_prefix_take_left (by omega)
    obtain ⟨t, ht⟩ := this
    rw [← ht, List.flatMap_append]
    exact List.prefix_append _ _
  have h2 := h1.length_le
  rw [nxt_succ h, nxt_all] at h2
  have h3 : (exts G H p x).length ≤ (exts G H p H.length).length := exts_mono G H p hx
  rw [List.length_append] at h2 ⊢
  omega

theorem ints_news8 {n₀ : Nat} {W : World} {b o : Nat} {xs : List Int} (h : Ints n₀ W (some ⟨b, o, none⟩) xs) : ∀ j u, (xs.map (Value.int .i64))[j]? = some u → W.cell? ((⟨b, o, none⟩ : Addr).add j) = some u := fun j u hu => by
  rw [List.getElem?_map] at hu
  have hj : j < xs.length := by
    rcases Nat.lt_or_ge j xs.length with h | h
    · exact h
    · rw [List.getElem?_eq_none h] at hu; cases hu
  obtain ⟨b', o', x, e, _, hc, HX⟩ := h.at_ hj
  cases e
  rw [HX.out] at hu
  cases hu
  rw [Addr.add_lit]
  exact hc

end Go.Proofs.Ytofpjepndhpciaa
