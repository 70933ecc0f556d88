/-
  What is told is what is a map.
-/
import Derived.Test.YtmohmecdhabapabM5
import Derived.Test.YtmohmecdhabapabM8a
namespace Go.Proofs.Ytmohmecdhabapab
open Go.RowKit Go.Shelf

/-- A MAP. -/
def IsMap (G H : List (List Int)) (f : List Int) : Prop := Tells G.length H.length f ∧ ∀ i j, i < G.length → j < G.length → arw G i j = true → arw H (nd f i) (nd f j) = true
theorem nd_take {f : List Int} {m j : Nat} (h : j < m) : nd (f.take m) j = nd f j := by unfold nd; rw [List.getElem?_take_of_lt h]
theorem map_told {G H : List (List Int)} {f : List Int} (hf : IsMap G H f) : ∀ (n : Nat) (m : Nat), m + n = G.length → f ∈ mapsFrom G H n (f.take m) := by
  intro n
  induction n with
  | zero =>
    intro m hm
    rw [mapsFrom, List.mem_singleton, List.take_of_length_le (by rw [hf.1.1]; omega)]
  | succ n ih =>
    intro m hm
    rw [mapsFrom, List.mem_flatMap]
    obtain ⟨x, hx, _, hxH⟩ := tells_at hf.1 (j := m) (by omega)
    have e : f.take (m + 1) = f.take m ++ [(x : Int)] := by rw [List.take_add_one, hx]; rfl
    have hl : (f.take (m + 1)).length = m + 1 := by rw [List.length_take, hf.1.1]; omega
    refine ⟨f.take (m + 1), ?_, ih (m + 1) (by omega)⟩
    unfold exts
    refine List.mem_filter.2 ⟨List.mem_map.2 ⟨x, List.mem_range.2 hxH, e.symm⟩, lead_all fun j hj => ?_⟩
    rw [hl] at hj
    unfold leadAt
    rw [hl, Nat.add_sub_cancel, nd_take hj, nd_take (Nat.lt_succ_self m)]
    have h1 := hf.2 j m (by omega) (by omega)
    have h2 := hf.2 m j (by omega) (by omega)
    cases ha : arw G j m <;> cases hb : arw G m j <;> simp_all
theorem told_map {G H : List (List Int)} : ∀ (n : Nat) (p r : List Int), r ∈ mapsFrom G H n p → (∀ i j, i < p.length → j < p.length → arw G i j = true → arw H (nd p i) (nd p j) = true) →
    ∀ i j, i < r.length → j < r.length → arw G i j = true → arw H (nd r i) (nd r j) = true := by
  intro n
  induction n with
  | zero => intro p r h hp; rw [mapsFrom, List.mem_singleton] at h; rw [h]; exact hp
  | succ n ih =>
    intro p r h hp
    rw [mapsFrom, List.mem_flatMap] at h
    obtain ⟨q, hq, hr⟩ := h
    unfold exts at hq
    obtain ⟨hq1, hq2⟩ := List.mem_filter.1 hq
    obtain ⟨x, _, rfl⟩ := List.mem_map.1 hq1
    refine ih _ r hr fun i j hi hj ha => ?_
    rw [List.length_append, List.length_singleton] at hi hj
    have hlead : ∀ j, j < p.length + 1 → leadAt G H (p ++ [(x : Int)]) j = true := fun j hj => List.all_eq_true.1 hq2 j (List.mem_range.2 (by rw [List.length_append, List.length_singleton]; exact hj))
    unfold leadAt at hlead
    rw [List.length_append, List.length_singleton, Nat.add_sub_cancel] at hlead
    by_cases hi2 : i < p.length
    · by_cases hj2 : j < p.length
      · rw [nd_snoc_lt hi2, nd_snoc_lt hj2]; exact hp i j hi2 hj2 ha
      · obtain rfl : j = p.length := by omega
        have h1 := hlead i hi
        simp only [Bool.and_eq_true, ha, Bool.not_true, Bool.false_or] at h1
        exact h1.1
    · obtain rfl : i = p.length := by omega
      have h1 := hlead j hj
      simp only [Bool.and_eq_true, ha, Bool.not_true, Bool.false_or] at h1
      exact h1.2
theorem mapsL_mem {G H : List (List Int)} (h : fewI G H = true) (f : List Int) : f ∈ mapsL G H ↔ IsMap G H f := by
  rw [mapsL_yes h]
  refine ⟨fun hf => ?_, fun hf => by have := map_told hf G.length 0 (by omega); rwa [List.take_zero] at this⟩
  have h1 := mapsFrom_len _ _ _ hf
  rw [List.length_nil, Nat.zero_add] at h1
  have h2 := mapsFrom_tells G.length [] f ⟨rfl, fun j y hy => by simp at hy⟩ hf
  rw [h1] at h2
  have h3 := told_map G.length [] f hf (fun i j hi => absurd hi (Nat.not_lt_zero _))
  rw [h1] at h3
  exact ⟨h2, h3⟩
theorem below_iff {G H : List (List Int)} (h : fewI G H = true) : belowI G H = true ↔ ∃ f, IsMap G H f := by
  unfold belowI
  rw [decide_eq_true_eq, List.length_pos_iff_exists_mem]
  exact ⟨fun ⟨f, hf⟩ => ⟨f, (mapsL_mem h f).1 hf⟩, fun ⟨f, hf⟩ => ⟨f, (mapsL_mem h f).2 hf⟩⟩

/-- The map of each node to itself. -/
def ownL (m : Nat) : List Int := (List.range m).map fun i : Nat => (i : Int)
theorem ownL_nd {m j : Nat} (h : j < m) : nd (ownL m) j = j := by unfold nd ownL; simp [h]
theorem ownL_tells (m : Nat) : Tells m m (ownL m) := ⟨by simp [ownL], fun j y hy => by
  have hj : j < m := by have := (List.getElem?_eq_some_iff.1 hy).1; simpa [ownL] using this
  rw [show (ownL m)[j]? = some (j : Int) by simp [ownL, hj]] at hy
  cases hy
  omega⟩
theorem own_map (G : List (List Int)) : IsMap G G (ownL G.length) := ⟨ownL_tells _, fun i j hi hj ha => by rw [ownL_nd hi, ownL_nd hj]; exact ha⟩
/-- The map behind a map. -/
def behL (f e : List Int) : List Int := f.map fun y => e[y.toNat]?.getD 0
theorem behL_nd {f e : List Int} {j : Nat} (h : j < f.length) : nd (behL f e) j = nd e (nd f j) := by unfold nd behL; simp [h]
theorem beh_map {G H K : List (List Int)} {f e : List Int} (hf : IsMap G H f) (he : IsMap H K e) : IsMap G K (behL f e) := by
  have hfl := hf.1.1
  refine ⟨⟨by simp [behL, hfl], fun j y hy => ?_⟩, fun i j hi hj ha => ?_⟩
  · have hj := (List.getElem?_eq_some_iff.1 hy).1
    have hj' : j < G.length := by simpa [behL, hfl] using hj
    obtain ⟨p, hp, _, hpH⟩ := tells_at hf.1 hj'
    obtain ⟨q, hq, _, hqK⟩ := tells_at he.1 hpH
    have : y = (q : Int) := by
      unfold behL at hy
      rw [List.getElem?_map, hp] at hy
      simp [hq] at hy
      exact hy.symm
    omega
  · rw [behL_nd (by omega), behL_nd (by omega)]
    obtain ⟨p, _, ep, hpH⟩ := tells_at hf.1 hi
    obtain ⟨q, _, eq, hqH⟩ := tells_at hf.1 hj
    exact he.2 _ _ (by rw [ep]; exact hpH) (by rw [eq]; exact hqH) (hf.2 i j hi hj ha)

end Go.Proofs.Ytmohmecdhabapab
