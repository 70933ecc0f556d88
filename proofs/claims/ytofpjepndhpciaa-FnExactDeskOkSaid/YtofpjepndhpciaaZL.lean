/-
  Several texts in one.
  Below is an order; turned graphs; one node.
  How many maps there are: from two graphs side by side, from one node, from one arrow, into one node with an arrow to itself.
-/
import Derived.Test.YtofpjepndhpciaaC2
import Derived.Test.YtofpjepndhpciaaZB
import Derived.Test.YtofpjepndhpciaaZQ
import Derived.Test.YtofpjepndhpciaaM7
import Derived.Test.YtofpjepndhpciaaWV
namespace Go.Proofs.Ytofpjepndhpciaa
open Go.RowKit Go.Shelf

theorem few_of4 {G H : List (List Int)} (h : gOk G = true) (h' : gOk H = true) (h4 : G.length ≤ 4) (h4' : H.length ≤ 4) : fewI G H = true :=
  fewI_iff.2 ⟨h, h', Nat.le_trans (Nat.pow_le_pow_left h4' _) (Nat.le_trans (Nat.pow_le_pow_right (by decide) h4) (by decide))⟩
theorem few_first {x : Int} {H : List (List Int)} (hx : x = 0 ∨ x = 1) (h' : gOk H = true) : fewI [[x]] H = true :=
  fewI_iff.2 ⟨gOk_lit hx, h', by have := (good_of h').2.1; simp; omega⟩
theorem few_last {x : Int} {G : List (List Int)} (hx : x = 0 ∨ x = 1) (h' : gOk G = true) : fewI G [[x]] = true :=
  fewI_iff.2 ⟨h', gOk_lit hx, by simp⟩
theorem nd_tells {m m' : Nat} {f : List Int} (h : Tells m m' f) {j : Nat} (hj : j < m) : nd f j < m' := by
  obtain ⟨p, _, e, hp⟩ := tells_at h hj
  rw [e]; exact hp
theorem belowI_no {G H : List (List Int)} (h : fewI G H = false) : belowI G H = false := by
  unfold belowI; rw [mapsL_no h]; rfl
theorem map_turned {G H : List (List Int)} {f : List Int} (hG : Good G) (hH : Good H) (h : IsMap G H f) : IsMap (turnedL G) (turnedL H) f := by
  refine ⟨by rw [turned_length hG, turned_length hH]; exact h.1, fun i j hi hj ha => ?_⟩
  rw [turned_length hG] at hi hj
  rw [turnedL_yes (gOk_true hG), arw_rowsP hi hj] at ha
  have := h.2 j i hj hi ha
  rw [turnedL_yes (gOk_true hH), arw_rowsP (nd_tells h.1 hi) (nd_tells h.1 hj)]
  exact this
theorem map_turned_iff {G H : List (List Int)} {f : List Int} (hG : Good G) (hH : Good H) : IsMap (turnedL G) (turnedL H) f ↔ IsMap G H f := by
  refine ⟨fun h => ?_, map_turned hG hH⟩
  have := map_turned (turned_good hG) (turned_good hH) h
  rwa [turned_turned hG, turned_turned hH] at this
theorem few_turned {G H : List (List Int)} (hG : Good G) (hH : Good H) : fewI (turnedL G) (turnedL H) = fewI G H := by
  unfold fewI
  rw [gOk_true hG, gOk_true hH, gOk_true (turned_good hG), gOk_true (turned_good hH), turned_length hG, turned_length hH]
theorem below_turned {G H : List (List Int)} (hG : Good G) (hH : Good H) : belowI (turnedL G) (turnedL H) = belowI G H := by
  by_cases hf : fewI G H = true
  · have hf' : fewI (turnedL G) (turnedL H) = true := by rw [few_turned hG hH]; exact hf
    rw [Bool.eq_iff_iff, below_iff hf, below_iff hf']
    exact ⟨fun ⟨f, h⟩ => ⟨f, (map_turned_iff hG hH).1 h⟩, fun ⟨f, h⟩ => ⟨f, (map_turned_iff hG hH).2 h⟩⟩
  · have hn : fewI G H = false := by simpa using hf
    rw [belowI_no hn, belowI_no (by rw [few_turned hG hH]; exact hn)]
theorem level_comm (G H : List (List Int)) : levelI H G = levelI G H := by unfold levelI; exact Bool.and_comm _ _
theorem level_turned {G H : List (List Int)} (hG : Good G) (hH : Good H) : levelI (turnedL G) (turnedL H) = levelI G H := by
  unfold levelI; rw [below_turned hG hH, below_turned hH hG]
theorem below_self {G : List (List Int)} (h : gOk G = true) (h4 : G.length ≤ 4) : belowI G G = true :=
  (below_iff (few_of4 h h h4 h4)).2 ⟨_, own_map G⟩
theorem level_self {G : List (List Int)} (h : gOk G = true) (h4 : G.length ≤ 4) : levelI G G = true := by unfold levelI; rw [below_self h h4]; rfl
theorem level_no1 {G H : List (List Int)} (h : gOk G = false) : levelI G H = false := by unfold levelI; rw [belowI_no (few_no1 h)]; rfl
theorem level_no2 {G H : List (List Int)} (h : gOk H = false) : levelI G H = false := by unfold levelI; rw [belowI_no (few_no2 h)]; rfl
theorem below_trans {G H K : List (List Int)} (h1 : fewI G H = true) (h2 : fewI H K = true) (h3 : fewI G K = true) (b1 : belowI G H = true) (b2 : belowI H K = true) : belowI G K = true := by
  obtain ⟨f, hf⟩ := (below_iff h1).1 b1
  obtain ⟨e, he⟩ := (below_iff h2).1 b2
  exact (below_iff h3).2 ⟨_, beh_map hf he⟩
theorem below_node {H : List (List Int)} (h : gOk H = true) : belowI [[0]] H = true := by
  refine (below_iff (few_first (.inl rfl) h)).2 ⟨[0], ⟨rfl, fun j y hj => ?_⟩, fun i j hi hj ha => ?_⟩
  · obtain ⟨hj1, rfl⟩ := List.getElem?_eq_some_iff.1 hj
    have : j = 0 := by simp at hj1; omega
    subst this
    have := (good_of h).1
    simp; omega
  · have e1 : i = 0 := by simp at hi; omega
    have e2 : j = 0 := by simp at hj; omega
    subst e1; subst e2
    simp [arw, ent] at ha
theorem below_loop {G : List (List Int)} (h : gOk G = true) : belowI G [[1]] = true := by
  refine (below_iff (few_last (.inr rfl) h)).2 ⟨List.replicate G.length 0, ⟨by simp, fun j y hj => ?_⟩, fun i j hi hj ha => ?_⟩
  · have := List.getElem?_eq_some_iff.1 hj
    obtain ⟨_, h2⟩ := this
    simp at h2
    subst h2; simp
  · simp [nd, arw, ent, hi, hj]

end Go.Proofs.Ytofpjepndhpciaa

namespace Go.Proofs.Ytofpjepndhpciaa
open Go.RowKit Go.Shelf

theorem lead_iff {G H : List (List Int)} {r : List Int} : lead G H r = true ↔ ∀ j, j < r.length → leadAt G H r j = true := by
  unfold lead leadAt
  rw [List.all_eq_true]
  exact ⟨fun h j hj => h j (List.mem_range.2 hj), fun h j hj => h j (List.mem_range.1 hj)⟩
theorem flatMap_same {α β : Type} {f g : α → List β} : ∀ {l : List α}, (∀ a ∈ l, f a = g a) → l.flatMap f = l.flatMap g
  | [], _ => rfl
  | a :: l, h => by
    rw [List.flatMap_cons, List.flatMap_cons, h a (by simp), flatMap_same fun b hb => h b (by simp [hb])]
theorem flatMap_const {α β : Type} {f : α → List β} {c : Nat} : ∀ {l : List α}, (∀ a ∈ l, (f a).length = c) → (l.flatMap f).length = l.length * c
  | [], _ => by simp
  | a :: l, h => by
    rw [List.flatMap_cons, List.length_append, h a (by simp), flatMap_const fun b hb => h b (by simp [hb]), List.length_cons, Nat.succ_mul]; omega
theorem flatMap_range {β : Type} (f : Nat → List β) (n : Nat) : ((List.range n).flatMap f).length = sumN n fun k => (f k).length := by
  induction n with
  | zero => rfl
  | succ n ih => rw [List.range_succ, List.flatMap_append, List.length_append, ih]; simp [sumN]
theorem filter_range (p : Nat → Bool) (n : Nat) : ((List.range n).filter p).length = sumN n fun k => bN (p k) := by
  induction n with
  | zero => rfl
  | succ n ih =>
    rw [List.range_succ, List.filter_append, List.length_append, ih]
    simp only [sumN, List.filter_cons, List.filter_nil, bN]
    cases p n <;> simp
theorem nd_last_part (q r : List Int) (j : Nat) : nd (q ++ r) (q.length + j) = nd r j := by
  unfold nd; rw [List.getElem?_append_right (by omega), Nat.add_sub_cancel_left]

theorem lead_bes_first {xss yss H : List (List Int)} (h : besOk xss yss = true) {r : List Int} (hr : r.length ≤ xss.length) : lead (besL xss yss) H r = lead xss H r := by
  have key : ∀ j, j < r.length → leadAt (besL xss yss) H r j = leadAt xss H r j := fun j hj => by
    unfold leadAt
    rw [besL_yes h, arw_rowsP (by omega) (by omega), arw_rowsP (by omega) (by omega), besP_first (by omega) (by omega), besP_first (by omega) (by omega)]
  rw [Bool.eq_iff_iff, lead_iff, lead_iff]
  exact ⟨fun hh j hj => (key j hj).symm.trans (hh j hj), fun hh j hj => (key j hj).trans (hh j hj)⟩
theorem mapsFrom_bes_first {xss yss H : List (List Int)} (h : besOk xss yss = true) : ∀ (n : Nat) (p : List Int), p.length + n ≤ xss.length → mapsFrom (besL xss yss) H n p = mapsFrom xss H n p := by
  intro n
  induction n with
  | zero => intro p _; rfl
  | succ n ih =>
    intro p hp
    have e : exts (besL xss yss) H p H.length = exts xss H p H.length := by
      unfold exts
      refine List.filter_congr fun r hr => ?_
      obtain ⟨x, _, rfl⟩ := List.mem_map.1 hr
      exact lead_bes_first h (by simp; omega)
    rw [mapsFrom, mapsFrom, e]
    refine flatMap_same fun r hr => ih r ?_
    unfold exts at hr
    obtain ⟨x, _, rfl⟩ := List.mem_map.1 (List.mem_filter.1 hr).1
    simp; omega
theorem lead_bes_last {xss yss H : List (List Int)} (h : besOk xss yss = true) {q r : List Int} (hq : q.length = xss.length) (h1 : 1 ≤ r.length) (hr : r.length ≤ yss.length) : lead (besL xss yss) H (q ++ r) = lead yss H r := by
  have el : (q ++ r).length - 1 = xss.length + (r.length - 1) := by rw [List.length_append]; omega
  have key : ∀ j, j < r.length → leadAt (besL xss yss) H (q ++ r) (xss.length + j) = leadAt yss H r j := fun j hj => by
    unfold leadAt
    rw [el, besL_yes h, arw_rowsP (by omega) (by omega), arw_rowsP (by omega) (by omega), besP_last, besP_last, ← hq, nd_last_part, nd_last_part]
  have none : ∀ j, j < xss.length → leadAt (besL xss yss) H (q ++ r) j = true := fun j hj => by
    unfold leadAt
    rw [el, besL_yes h, arw_rowsP (by omega) (by omega), arw_rowsP (by omega) (by omega), besP_no1 _ hj, besP_no2 _ hj]
    rfl
  rw [Bool.eq_iff_iff, lead_iff, lead_iff]
  refine ⟨fun hh j hj => (key j hj).symm.trans (hh _ (by rw [List.length_append]; omega)), fun hh j hj => ?_⟩
  by_cases hjx : j < xss.length
  · exact none j hjx
  · have := key (j - xss.length) (by rw [List.length_append] at hj; omega)
    rw [show xss.length + (j - xss.length) = j by omega] at this
    exact this.trans (hh _ (by rw [List.length_append] at hj; omega))
theorem mapsFrom_bes_last {xss yss H : List (List Int)} (h : besOk xss yss = true) {q : List Int} (hq : q.length = xss.length) : ∀ (n : Nat) (r : List Int), r.length + n ≤ yss.length → mapsFrom (besL xss yss) H n (q ++ r) = (mapsFrom yss H n r).map (q ++ ·) := by
  intro n
  induction n with
  | zero => intro r _; rfl
  | succ n ih =>
    intro r hr
    have e : exts (besL xss yss) H (q ++ r) H.length = (exts yss H r H.length).map (q ++ ·) := by
      unfold exts
      rw [List.filter_map, List.filter_map, List.map_map]
      have e2 : (List.range H.length).filter (lead (besL xss yss) H ∘ fun x : Nat => (q ++ r) ++ [(x : Int)]) = (List.range H.length).filter (lead yss H ∘ fun x : Nat => r ++ [(x : Int)]) :=
        List.filter_congr fun x _ => by
          show lead _ _ ((q ++ r) ++ [(x : Int)]) = lead _ _ (r ++ [(x : Int)])
          rw [List.append_assoc]
          exact lead_bes_last h hq (by simp) (by simp; omega)
      rw [e2]
      exact List.map_congr_left fun x _ => by show _ = q ++ (r ++ [(x : Int)]); rw [List.append_assoc]
    rw [mapsFrom, mapsFrom, e, List.flatMap_map, List.map_flatMap]
    refine flatMap_same fun s hs => ih s ?_
    unfold exts at hs
    obtain ⟨x, _, rfl⟩ := List.mem_map.1 (List.mem_filter.1 hs).1
    simp; omega
theorem count_bes {xss yss H : List (List Int)} (h : besOk xss yss = true) : (mapsFrom (besL xss yss) H (xss.length + yss.length) []).length = (mapsFrom xss H xss.length []).length * (mapsFrom yss H yss.length []).length := by
  rw [← lvl_maps (besL xss yss) H xss.length yss.length, lvl_eq, mapsFrom_bes_first h xss.length [] (by simp)]
  refine flatMap_const fun p hp => ?_
  have hl := mapsFrom_len _ _ _ hp
  have := mapsFrom_bes_last (H := H) h (q := p) (by simpa using hl) yss.length [] (by simp)
  rw [List.append_nil] at this
  rw [this, List.length_map]
theorem countI_bes {xss yss H : List (List Int)} (h : besOk xss yss = true) (h0 : fewI (besL xss yss) H = true) (h1 : fewI xss H = true) (h2 : fewI yss H = true) : countI (besL xss yss) H = countI xss H * countI yss H := by
  rw [countI_yes h0, countI_yes h1, countI_yes h2, mapsL_yes h0, mapsL_yes h1, mapsL_yes h2, bes_length h, count_bes h, Int.natCast_mul]

theorem mapsFrom_last (G H : List (List Int)) (p : List Int) : mapsFrom G H 1 p = exts G H p H.length := by
  have e : mapsFrom G H 0 = fun p => [p] := rfl
  rw [mapsFrom, e, List.flatMap_singleton']
theorem count_node {H : List (List Int)} (h : gOk H = true) : countI [[0]] H = (H.length : Int) := by
  have hf := few_first (.inl rfl) h
  rw [countI_yes hf, mapsL_yes hf, show ([[0]] : List (List Int)).length = 1 from rfl, mapsFrom_last]
  unfold exts
  rw [List.filter_eq_self.2 fun r hr => ?_]
  · simp
  · obtain ⟨x, _, rfl⟩ := List.mem_map.1 hr
    rfl
/-- The graph of two nodes with one arrow. -/
def smallG : List (List Int) := [[0, 1], [0, 0]]
theorem small_few {H : List (List Int)} (h : gOk H = true) (h4 : H.length ≤ 4) : fewI smallG H = true :=
  few_of4 (by decide) h (by decide) h4
theorem count_small {H : List (List Int)} (h : gOk H = true) (h4 : H.length ≤ 4) : countI smallG H = arrowsI H := by
  have hf := small_few h h4
  rw [countI_yes hf, mapsL_yes hf, arrowsI_yes h, AL_cnt, cnt_sum]
  have e0 : exts smallG H [] H.length = (List.range H.length).map fun x : Nat => [(x : Int)] := by
    unfold exts
    rw [List.filter_eq_self.2 fun r hr => ?_]
    · rfl
    · obtain ⟨x, _, rfl⟩ := List.mem_map.1 hr
      rfl
  have e1 : mapsFrom smallG H smallG.length [] = (List.range H.length).flatMap fun x : Nat => exts smallG H [(x : Int)] H.length := by
    rw [show smallG.length = 1 + 1 from rfl, mapsFrom, e0, List.flatMap_map]
    exact flatMap_same fun x _ => mapsFrom_last _ _ _
  rw [e1, flatMap_range]
  congr 1
  refine sumN_congr fun x _ => ?_
  unfold exts
  rw [List.filter_map, List.length_map, filter_range]
  refine sumN_congr fun y _ => ?_
  congr 1
  show lead smallG H [(x : Int), (y : Int)] = arw H x y
  have a01 : arw smallG 0 1 = true := rfl
  have a10 : arw smallG 1 0 = false := rfl
  have a11 : arw smallG 1 1 = false := rfl
  simp [lead, List.range_succ, a01, a10, a11, nd]
theorem lead_loop (G : List (List Int)) (k : Nat) : lead G [[1]] (List.replicate k 0) = true := by
  rw [lead_iff]
  intro j hj
  have hz : ∀ i, nd (List.replicate k 0) i = 0 := fun i => by
    unfold nd
    rcases Nat.lt_or_ge i k with hi | hi
    · simp [hi]
    · simp [hi]
  unfold leadAt
  rw [hz, hz]
  simp [arw, ent]
theorem maps_loop (G : List (List Int)) : ∀ (n k : Nat), mapsFrom G [[1]] n (List.replicate k 0) = [List.replicate (k + n) 0] := by
  intro n
  induction n with
  | zero => intro k; rfl
  | succ n ih =>
    intro k
    have e : exts G [[1]] (List.replicate k 0) ([[1]] : List (List Int)).length = [List.replicate (k + 1) 0] := by
      unfold exts
      have : ((List.range ([[1]] : List (List Int)).length).map fun x : Nat => List.replicate k (0 : Int) ++ [(x : Int)]) = [List.replicate (k + 1) 0] := by
        simp [List.range_succ, List.replicate_succ']
      rw [this]
      simp [lead_loop]
    rw [mapsFrom, e]
    simp only [List.flatMap_cons, List.flatMap_nil, List.append_nil]
    rw [ih (k + 1), show k + 1 + n = k + (n + 1) by omega]
theorem count_loop {G : List (List Int)} (h : gOk G = true) : countI G [[1]] = 1 := by
  have hf := few_last (.inr rfl) h
  rw [countI_yes hf, mapsL_yes hf]
  have := maps_loop G G.length 0
  rw [show List.replicate 0 (0 : Int) = [] from rfl] at this
  rw [this]; rfl

end Go.Proofs.Ytofpjepndhpciaa
