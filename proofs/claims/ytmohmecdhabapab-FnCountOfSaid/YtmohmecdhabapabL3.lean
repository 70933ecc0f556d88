/-
  Below is an order; turned graphs; one node.
-/
import Derived.Test.YtmohmecdhabapabC2
import Derived.Test.YtmohmecdhabapabG1
import Derived.Test.YtmohmecdhabapabL2
import Derived.Test.YtmohmecdhabapabM7
namespace Go.Proofs.Ytmohmecdhabapab
open Go.RowKit Go.Shelf

theorem few_of4 {G H : List (List Int)} (h : gOk G = true) (h' : gOk H = true) (h4 : G.length ≤ 4) (h4' : H.length ≤ 4) : fewI G H = true :=
  fewI_iff.2 ⟨h, h', Nat.le_trans (Nat.pow_le_pow_left h4' _) (Nat.le_trans (Nat.pow_le_pow_right (by decide) h4) (by decide))⟩
theorem few_first {x : Int} {H : List (List Int)} (hx : x = 0 ∨ x = 1) (h' : gOk H = true) : fewI [[x]] H = true :=
  fewI_iff.2 ⟨gOk_lit hx, h', by have := (good_of h').2.1; simp; omega⟩
theorem few_last {x : Int} {G : List (List Int)} (hx : x = 0 ∨ x = 1) (h' : gOk G = true) : fewI G [[x]] = true :=
  fewI_iff.2 ⟨h', gOk_lit hx, by simp⟩
theorem nd_tells {m m' : Nat} {f : List Int} (h : Tells m m' f) {j : Nat} (hj : j < m) : nd f j < m' := by
  obtain ⟨p, _, e, hp⟩ := tells_at h hj
  rw [e]; exact hp
theorem belowI_no {G H : List (List Int)} (h : fewI G H = false) : belowI G H = false := by
  unfold belowI; rw [mapsL_no h]; rfl
theorem map_turned {G H : List (List Int)} {f : List Int} (hG : Good G) (hH : Good H) (h : IsMap G H f) : IsMap (turnedL G) (turnedL H) f := by
  refine ⟨by rw [turned_length hG, turned_length hH]; exact h.1, fun i j hi hj ha => ?_⟩
  rw [turned_length hG] at hi hj
  rw [turnedL_yes (gOk_true hG), arw_rowsP hi hj] at ha
  have := h.2 j i hj hi ha
  rw [turnedL_yes (gOk_true hH), arw_rowsP (nd_tells h.1 hi) (nd_tells h.1 hj)]
  exact this
theorem map_turned_iff {G H : List (List Int)} {f : List Int} (hG : Good G) (hH : Good H) : IsMap (turnedL G) (turnedL H) f ↔ IsMap G H f := by
  refine ⟨fun h => ?_, map_turned hG hH⟩
  have := map_turned (turned_good hG) (turned_good hH) h
  rwa [turned_turned hG, turned_turned hH] at this
theorem few_turned {G H : List (List Int)} (hG : Good G) (hH : Good H) : fewI (turnedL G) (turnedL H) = fewI G H := by
  unfold fewI
  rw [gOk_true hG, gOk_true hH, gOk_true (turned_good hG), gOk_true (turned_good hH), turned_length hG, turned_length hH]
theorem below_turned {G H : List (List Int)} (hG : Good G) (hH : Good H) : belowI (turnedL G) (turnedL H) = belowI G H := by
  by_cases hf : fewI G H = true
  · have hf' : fewI (turnedL G) (turnedL H) = true := by rw [few_turned hG hH]; exact hf
    rw [Bool.eq_iff_iff, below_iff hf, below_iff hf']
    exact ⟨fun ⟨f, h⟩ => ⟨f, (map_turned_iff hG hH).1 h⟩, fun ⟨f, h⟩ => ⟨f, (map_turned_iff hG hH).2 h⟩⟩
  · have hn : fewI G H = false := by simpa using hf
    rw [belowI_no hn, belowI_no (by rw [few_turned hG hH]; exact hn)]
theorem level_comm (G H : List (List Int)) : levelI H G = levelI G H := by unfold levelI; exact Bool.and_comm _ _
theorem level_turned {G H : List (List Int)} (hG : Good G) (hH : Good H) : levelI (turnedL G) (turnedL H) = levelI G H := by
  unfold levelI; rw [below_turned hG hH, below_turned hH hG]
theorem below_self {G : List (List Int)} (h : gOk G = true) (h4 : G.length ≤ 4) : belowI G G = true :=
  (below_iff (few_of4 h h h4 h4)).2 ⟨_, own_map G⟩
theorem level_self {G : List (List Int)} (h : gOk G = true) (h4 : G.length ≤ 4) : levelI G G = true := by unfold levelI; rw [below_self h h4]; rfl
theorem level_no1 {G H : List (List Int)} (h : gOk G = false) : levelI G H = false := by unfold levelI; rw [belowI_no (few_no1 h)]; rfl
theorem level_no2 {G H : List (List Int)} (h : gOk H = false) : levelI G H = false := by unfold levelI; rw [belowI_no (few_no2 h)]; rfl
theorem below_trans {G H K : List (List Int)} (h1 : fewI G H = true) (h2 : fewI H K = true) (h3 : fewI G K = true) (b1 : belowI G H = true) (b2 : belowI H K = true) : belowI G K = true := by
  obtain ⟨f, hf⟩ := (below_iff h1).1 b1
  obtain ⟨e, he⟩ := (below_iff h2).1 b2
  exact (below_iff h3).2 ⟨_, beh_map hf he⟩
theorem below_node {H : List (List Int)} (h : gOk H = true) : belowI [[0]] H = true := by
  refine (below_iff (few_first (.inl rfl) h)).2 ⟨[0], ⟨rfl, fun j y hj => ?_⟩, fun i j hi hj ha => ?_⟩
  · obtain ⟨hj1, rfl⟩ := List.getElem?_eq_some_iff.1 hj
    have : j = 0 := by simp at hj1; omega
    subst this
    have := (good_of h).1
    simp; omega
  · have e1 : i = 0 := by simp at hi; omega
    have e2 : j = 0 := by simp at hj; omega
    subst e1; subst e2
    simp [arw, ent] at ha
theorem below_loop {G : List (List Int)} (h : gOk G = true) : belowI G [[1]] = true := by
  refine (below_iff (few_last (.inr rfl) h)).2 ⟨List.replicate G.length 0, ⟨by simp, fun j y hj => ?_⟩, fun i j hi hj ha => ?_⟩
  · have := List.getElem?_eq_some_iff.1 hj
    obtain ⟨_, h2⟩ := this
    simp at h2
    subst h2; simp
  · simp [nd, arw, ent, hi, hj]

end Go.Proofs.Ytmohmecdhabapab
