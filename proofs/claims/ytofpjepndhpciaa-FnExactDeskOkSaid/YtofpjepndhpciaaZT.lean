/-
  Several texts in one.
  Numbers of pairs.
  Products of graphs, in plain words: their arrows, how many there are, and maps into them and from them, as lists alone.
-/
import Derived.Test.YtofpjepndhpciaaZA
import Derived.Test.YtofpjepndhpciaaZQ
import Derived.Test.YtofpjepndhpciaaZL
namespace Go.Proofs.Ytofpjepndhpciaa

theorem mul_pos1 {n m : Nat} (hn : 1 ≤ n) (hm : 1 ≤ m) : 1 ≤ n * m := Nat.mul_pos hn hm
theorem le_div {n m i : Nat} (hm : 1 ≤ m) (h : n * m ≤ i) : n ≤ i / m := (Nat.le_div_iff_mul_le hm).2 h
theorem div_lt {n m i : Nat} (h : i < n * m) : i / m < n := Nat.div_lt_of_lt_mul (by rw [Nat.mul_comm]; exact h)
theorem pair_div {m i j : Nat} (hj : j < m) : (i * m + j) / m = i := by
  rw [Nat.mul_comm, Nat.mul_add_div (by omega), Nat.div_eq_of_lt hj]; omega
theorem pair_mod {m i j : Nat} (hj : j < m) : (i * m + j) % m = j := by
  rw [Nat.mul_comm, Nat.mul_add_mod, Nat.mod_eq_of_lt hj]
theorem pair_lt {n m i j : Nat} (hi : i < n) (hj : j < m) : i * m + j < n * m := by
  have h1 : i * m + m ≤ n * m := by rw [← Nat.succ_mul]; exact Nat.mul_le_mul_right _ hi
  omega

end Go.Proofs.Ytofpjepndhpciaa

namespace Go.Proofs.Ytofpjepndhpciaa
open Go.RowKit Go.Shelf

def timOk (xss yss : List (List Int)) : Bool := gOk xss && gOk yss && decide (xss.length * yss.length ≤ 9)
def timP (xss yss : List (List Int)) (i j : Nat) : Bool := arw xss (i / yss.length) (j / yss.length) && arw yss (i % yss.length) (j % yss.length)
/-- THE PRODUCT; nothing where there is none. -/
def timL (xss yss : List (List Int)) : List (List Int) := if timOk xss yss = true then rowsP (xss.length * yss.length) (timP xss yss) else []
theorem timL_yes {xss yss : List (List Int)} (h : timOk xss yss = true) : timL xss yss = rowsP (xss.length * yss.length) (timP xss yss) := if_pos h
theorem timL_no {xss yss : List (List Int)} (h : timOk xss yss = false) : timL xss yss = [] := if_neg (by rw [h]; decide)
theorem timOk_of {xss yss : List (List Int)} (h : timOk xss yss = true) : Good xss ∧ Good yss ∧ xss.length * yss.length ≤ 9 := by
  unfold timOk at h
  simp only [Bool.and_eq_true, decide_eq_true_eq] at h
  exact ⟨good_of h.1.1, good_of h.1.2, h.2⟩
theorem timOk_yes {xss yss : List (List Int)} (h : gOk xss = true) (h' : gOk yss = true) (h9 : xss.length * yss.length ≤ 9) : timOk xss yss = true := by
  unfold timOk; rw [h, h', decide_eq_true h9]; rfl
theorem timOk_no1 {xss yss : List (List Int)} (h : gOk xss = false) : timOk xss yss = false := by unfold timOk; rw [h]; rfl
theorem timOk_no2 {xss yss : List (List Int)} (h : gOk yss = false) : timOk xss yss = false := by unfold timOk; rw [h]; simp
theorem timOk_no3 {xss yss : List (List Int)} (h : ¬ xss.length * yss.length ≤ 9) : timOk xss yss = false := by unfold timOk; rw [decide_eq_false h]; simp
theorem tim_good {xss yss : List (List Int)} (h : timOk xss yss = true) : Good (timL xss yss) := by
  obtain ⟨hG, hH, h9⟩ := timOk_of h
  rw [timL_yes h]
  exact rowsP_good _ (mul_pos1 hG.1 hH.1) h9
theorem tim_length {xss yss : List (List Int)} (h : timOk xss yss = true) : (timL xss yss).length = xss.length * yss.length := by rw [timL_yes h, rowsP_length]
theorem tim_fit {xss yss : List (List Int)} : Fit (timL xss yss) := by
  cases h : timOk xss yss with
  | true => exact (tim_good h).fit
  | false => rw [timL_no h]; exact ⟨by simp, fun xs hx => by cases hx⟩
/-- Beyond the nodes there is no arrow. -/
theorem arw_far1 {xss : List (List Int)} {i j : Nat} (h : xss.length ≤ i) : arw xss i j = false := by
  unfold arw ent; rw [List.getElem?_eq_none h]; rfl
theorem arw_far2 {xss : List (List Int)} (hG : Good xss) {i j : Nat} (h : xss.length ≤ j) : arw xss i j = false := by
  unfold arw ent
  rcases Nat.lt_or_ge i xss.length with hi | hi
  · have e1 := List.getElem?_eq_getElem hi
    rw [e1, Option.getD_some, List.getElem?_eq_none (by rw [hG.len e1]; exact h)]; rfl
  · rw [List.getElem?_eq_none hi]; rfl
theorem arw_tim {xss yss : List (List Int)} (h : timOk xss yss = true) (i j : Nat) : arw (timL xss yss) i j = timP xss yss i j := by
  obtain ⟨hG, hH, h9⟩ := timOk_of h
  rcases Nat.lt_or_ge i (xss.length * yss.length) with hi | hi
  · rcases Nat.lt_or_ge j (xss.length * yss.length) with hj | hj
    · rw [timL_yes h, arw_rowsP hi hj]
    · rw [arw_far2 (tim_good h) (by rw [tim_length h]; exact hj)]
      unfold timP
      rw [arw_far2 hG (le_div hH.1 hj)]; rfl
  · rw [arw_far1 (by rw [tim_length h]; exact hi)]
    unfold timP
    rw [arw_far1 (le_div hH.1 hi)]; rfl


theorem bN_and (a b : Bool) : bN (a && b) = bN a * bN b := by cases a <;> cases b <;> rfl
theorem sumN_mulL (c : Nat) (f : Nat → Nat) : ∀ n, sumN n (fun i => c * f i) = c * sumN n f
  | 0 => rfl
  | n + 1 => by simp only [sumN]; rw [sumN_mulL c f n, Nat.mul_add]
theorem sumN_mulR (c : Nat) (f : Nat → Nat) : ∀ n, sumN n (fun i => f i * c) = sumN n f * c
  | 0 => by simp [sumN]
  | n + 1 => by simp only [sumN]; rw [sumN_mulR c f n, Nat.add_mul]
theorem sumN_prod (f g : Nat → Nat) (n m : Nat) : sumN (n * m) (fun z => f (z / m) * g (z % m)) = sumN n f * sumN m g := by
  rw [sumN_mul m _ n, ← sumN_mulR]
  refine sumN_congr fun t _ => ?_
  rw [← sumN_mulL]
  refine sumN_congr fun x hx => ?_
  have e1 : (x + m * t) / m = t := by rw [Nat.add_comm, Nat.mul_comm]; exact pair_div hx
  have e2 : (x + m * t) % m = x := by rw [Nat.add_comm, Nat.mul_comm]; exact pair_mod hx
  rw [e1, e2]
theorem arrows_tim {xss yss : List (List Int)} (h : timOk xss yss = true) : arrowsI (timL xss yss) = arrowsI xss * arrowsI yss := by
  obtain ⟨hG, hH, h9⟩ := timOk_of h
  rw [arrowsI_yes (gOk_true (tim_good h)), arrowsI_yes (gOk_true hG), arrowsI_yes (gOk_true hH), AL_cnt, AL_cnt, AL_cnt, ← Int.natCast_mul]
  congr 1
  rw [cnt_congr (q := timP xss yss) (fun i j _ _ => arw_tim h i j), tim_length h, cnt_sum, cnt_sum, cnt_sum, ← sumN_prod]
  refine sumN_congr fun i _ => ?_
  rw [← sumN_prod]
  refine sumN_congr fun j _ => ?_
  unfold timP
  exact bN_and _ _

/-- The first nodes, and the second ones, of pairs. -/
def fstL (m : Nat) (p : List Int) : List Int := p.map fun z => ((z.toNat / m : Nat) : Int)
def sndL (m : Nat) (p : List Int) : List Int := p.map fun z => ((z.toNat % m : Nat) : Int)
theorem fstL_length (m : Nat) (p : List Int) : (fstL m p).length = p.length := by simp [fstL]
theorem sndL_length (m : Nat) (p : List Int) : (sndL m p).length = p.length := by simp [sndL]
theorem nd_map {p : List Int} (f : Nat → Nat) (h0 : f 0 = 0) (j : Nat) : nd (p.map fun z => ((f z.toNat : Nat) : Int)) j = f (nd p j) := by
  unfold nd
  rw [List.getElem?_map]
  cases p[j]? <;> simp [h0]
theorem nd_fst (m : Nat) (p : List Int) (j : Nat) : nd (fstL m p) j = nd p j / m := nd_map (fun z => z / m) (Nat.zero_div _) j
theorem nd_snd (m : Nat) (p : List Int) (j : Nat) : nd (sndL m p) j = nd p j % m := nd_map (fun z => z % m) (Nat.zero_mod _) j
theorem all_and {α : Type} (p q : α → Bool) : ∀ l : List α, (l.all fun x => p x && q x) = (l.all p && l.all q)
  | [] => rfl
  | a :: l => by
    simp only [List.all_cons, all_and p q l]
    cases p a <;> cases q a <;> cases l.all p <;> cases l.all q <;> rfl
theorem lead_tim {K xss yss : List (List Int)} (h : timOk xss yss = true) (r : List Int) : lead K (timL xss yss) r = (lead K xss (fstL yss.length r) && lead K yss (sndL yss.length r)) := by
  unfold lead
  rw [fstL_length, sndL_length, ← all_and]
  congr 1
  funext j
  rw [arw_tim h, arw_tim h, nd_fst, nd_fst, nd_snd, nd_snd]
  unfold timP
  cases arw K j (r.length - 1) <;> cases arw K (r.length - 1) j <;> simp
  generalize arw xss _ _ = u1
  generalize arw yss _ _ = u2
  generalize arw xss _ _ = u3
  generalize arw yss _ _ = u4
  cases u1 <;> cases u2 <;> cases u3 <;> cases u4 <;> rfl
theorem fstL_snoc (m : Nat) (p : List Int) (z : Nat) : fstL m (p ++ [(z : Int)]) = fstL m p ++ [((z / m : Nat) : Int)] := by simp [fstL]
theorem sndL_snoc (m : Nat) (p : List Int) (z : Nat) : sndL m (p ++ [(z : Int)]) = sndL m p ++ [((z % m : Nat) : Int)] := by simp [sndL]
theorem maps_step (G H : List (List Int)) (n : Nat) (p : List Int) : (mapsFrom G H (n + 1) p).length = sumN H.length fun x => bN (lead G H (p ++ [(x : Int)])) * (mapsFrom G H n (p ++ [(x : Int)])).length := by
  rw [← mapsTill_all]
  generalize H.length = m
  induction m with
  | zero => rfl
  | succ m ih =>
    simp only [sumN]
    rw [← ih]
    cases hc : lead G H (p ++ [(m : Int)]) with
    | true => rw [mapsTill_yes hc, List.length_append]; simp [bN]
    | false => rw [mapsTill_no hc]; simp [bN]
theorem maps_tim {K xss yss : List (List Int)} (h : timOk xss yss = true) : ∀ (n : Nat) (p : List Int), (mapsFrom K (timL xss yss) n p).length = (mapsFrom K xss n (fstL yss.length p)).length * (mapsFrom K yss n (sndL yss.length p)).length := by
  intro n
  induction n with
  | zero => intro p; rfl
  | succ n ih =>
    intro p
    rw [maps_step, maps_step, maps_step, tim_length h, ← sumN_prod]
    refine sumN_congr fun z _ => ?_
    rw [lead_tim h, ih, fstL_snoc, sndL_snoc, bN_and]
    generalize bN _ = a
    generalize bN _ = b
    generalize List.length _ = c
    generalize List.length _ = d
    rw [Nat.mul_mul_mul_comm]
theorem count_tim {K xss yss : List (List Int)} (h : timOk xss yss = true) (h0 : fewI K (timL xss yss) = true) (h1 : fewI K xss = true) (h2 : fewI K yss = true) : countI K (timL xss yss) = countI K xss * countI K yss := by
  rw [countI_yes h0, countI_yes h1, countI_yes h2, mapsL_yes h0, mapsL_yes h1, mapsL_yes h2, maps_tim h, Int.natCast_mul]
  rfl

/-- THE SIDES OF A PRODUCT. -/
def sideF (m : Nat) (s : Bool) (z : Nat) : Nat := if s then z % m else z / m
def sideL (n m : Nat) (s : Bool) : List Int := (List.range (n * m)).map fun z => ((sideF m s z : Nat) : Int)
theorem sideL_length (n m : Nat) (s : Bool) : (sideL n m s).length = n * m := by simp [sideL]
theorem sideL_nd {n m : Nat} {s : Bool} {z : Nat} (hz : z < n * m) : nd (sideL n m s) z = sideF m s z := by
  unfold nd sideL; simp [hz]
theorem sideL_get {n m : Nat} {s : Bool} {z : Nat} (hz : z < n * m) : (sideL n m s)[z]? = some ((sideF m s z : Nat) : Int) := by simp [sideL, hz]
theorem side_map1 {G H : List (List Int)} (h : timOk G H = true) : IsMap (timL G H) G (sideL G.length H.length false) := by
  obtain ⟨hG, hH, h9⟩ := timOk_of h
  have hl := tim_length h
  refine ⟨⟨by rw [sideL_length, hl], fun j y hy => ?_⟩, fun i j hi hj ha => ?_⟩
  · have hj : j < G.length * H.length := by have := (List.getElem?_eq_some_iff.1 hy).1; rwa [sideL_length] at this
    rw [sideL_get hj] at hy
    cases hy
    have := div_lt hj
    exact ⟨Int.natCast_nonneg _, by show ((j / H.length : Nat) : Int) < _; omega⟩
  · rw [hl] at hi hj
    rw [sideL_nd hi, sideL_nd hj]
    rw [arw_tim h, timP, Bool.and_eq_true] at ha
    exact ha.1
theorem side_map2 {G H : List (List Int)} (h : timOk G H = true) : IsMap (timL G H) H (sideL G.length H.length true) := by
  obtain ⟨hG, hH, h9⟩ := timOk_of h
  have hl := tim_length h
  refine ⟨⟨by rw [sideL_length, hl], fun j y hy => ?_⟩, fun i j hi hj ha => ?_⟩
  · have hj : j < G.length * H.length := by have := (List.getElem?_eq_some_iff.1 hy).1; rwa [sideL_length] at this
    rw [sideL_get hj] at hy
    cases hy
    have := Nat.mod_lt j hH.1
    exact ⟨Int.natCast_nonneg _, by show ((j % H.length : Nat) : Int) < _; omega⟩
  · rw [hl] at hi hj
    rw [sideL_nd hi, sideL_nd hj]
    rw [arw_tim h, timP, Bool.and_eq_true] at ha
    exact ha.2

/-- THE MAP MADE OF TWO. -/
def paiL (m : Nat) (f e : List Int) : List Int := (List.range f.length).map fun j => ((nd f j * m + nd e j : Nat) : Int)
theorem paiL_length (m : Nat) (f e : List Int) : (paiL m f e).length = f.length := by simp [paiL]
theorem paiL_get {m : Nat} {f e : List Int} {j : Nat} (hj : j < f.length) : (paiL m f e)[j]? = some ((nd f j * m + nd e j : Nat) : Int) := by simp [paiL, hj]
theorem paiL_nd {m : Nat} {f e : List Int} {j : Nat} (hj : j < f.length) : nd (paiL m f e) j = nd f j * m + nd e j := by
  rw [nd_eq (paiL_get hj)]; exact Int.toNat_natCast _
theorem pai_map {K G H : List (List Int)} {f e : List Int} (h : timOk G H = true) (hf : IsMap K G f) (he : IsMap K H e) : IsMap K (timL G H) (paiL H.length f e) := by
  have hl := tim_length h
  have hlf := hf.1.1
  refine ⟨⟨by rw [paiL_length, hlf], fun j y hy => ?_⟩, fun i j hi hj ha => ?_⟩
  · have hj : j < f.length := by have := (List.getElem?_eq_some_iff.1 hy).1; rwa [paiL_length] at this
    rw [paiL_get hj] at hy
    cases hy
    have := pair_lt (nd_tells hf.1 (by omega : j < K.length)) (nd_tells he.1 (by omega : j < K.length))
    rw [hl]
    exact ⟨Int.natCast_nonneg _, by omega⟩
  · have h1 := nd_tells he.1 hi
    have h2 := nd_tells he.1 hj
    rw [paiL_nd (by omega), paiL_nd (by omega), arw_tim h, timP, pair_div h1, pair_div h2, pair_mod h1, pair_mod h2, hf.2 i j hi hj ha, he.2 i j hi hj ha]
    rfl
theorem tells_ext {m m' m'' : Nat} {f e : List Int} (hf : Tells m m' f) (he : Tells m m'' e) (h : ∀ j, j < m → nd f j = nd e j) : f = e := by
  apply List.ext_getElem?
  intro j
  rcases Nat.lt_or_ge j m with hj | hj
  · obtain ⟨p, h1, h2, _⟩ := tells_at hf hj
    obtain ⟨q, h3, h4, _⟩ := tells_at he hj
    rw [h1, h3, ← h2, ← h4, h j hj]
  · rw [List.getElem?_eq_none (by rw [hf.1]; exact hj), List.getElem?_eq_none (by rw [he.1]; exact hj)]
theorem pai_side1 {K G H : List (List Int)} {f e : List Int} (h : timOk G H = true) (hf : IsMap K G f) (he : IsMap K H e) : behL (paiL H.length f e) (sideL G.length H.length false) = f := by
  have hlf := hf.1.1
  refine tells_ext (beh_map (pai_map h hf he) (side_map1 h)).1 hf.1 fun j hj => ?_
  have h1 := nd_tells he.1 hj
  have h2 := nd_tells hf.1 hj
  rw [behL_nd (by rw [paiL_length]; omega), paiL_nd (by omega), sideL_nd (pair_lt h2 h1)]
  exact pair_div h1
theorem pai_side2 {K G H : List (List Int)} {f e : List Int} (h : timOk G H = true) (hf : IsMap K G f) (he : IsMap K H e) : behL (paiL H.length f e) (sideL G.length H.length true) = e := by
  have hlf := hf.1.1
  refine tells_ext (beh_map (pai_map h hf he) (side_map2 h)).1 he.1 fun j hj => ?_
  have h1 := nd_tells he.1 hj
  have h2 := nd_tells hf.1 hj
  rw [behL_nd (by rw [paiL_length]; omega), paiL_nd (by omega), sideL_nd (pair_lt h2 h1)]
  exact pair_mod h1

/-- THE PAIRS OF A NODE AND ITSELF. -/
def diaL (n : Nat) : List Int := (List.range n).map fun k => ((k * n + k : Nat) : Int)
theorem diaL_length (n : Nat) : (diaL n).length = n := by simp [diaL]
theorem dia_pai (n : Nat) : diaL n = paiL n (ownL n) (ownL n) := by
  unfold diaL paiL
  have e : (ownL n).length = n := by simp [ownL]
  rw [e]
  refine List.map_congr_left fun k hk => ?_
  rw [ownL_nd (List.mem_range.1 hk)]
theorem dia_map {G : List (List Int)} (h : timOk G G = true) : IsMap G (timL G G) (diaL G.length) := by
  rw [dia_pai]; exact pai_map h (own_map G) (own_map G)

/-- FROM TWO GRAPHS SIDE BY SIDE. -/
theorem nd_app1 {f e : List Int} {j : Nat} (hj : j < f.length) : nd (f ++ e) j = nd f j := by unfold nd; rw [List.getElem?_append_left hj]
theorem nd_app2 {f e : List Int} {j : Nat} (hj : f.length ≤ j) : nd (f ++ e) j = nd e (j - f.length) := by unfold nd; rw [List.getElem?_append_right hj]
theorem joi_map {G H K : List (List Int)} {f e : List Int} (h : besOk G H = true) (hf : IsMap G K f) (he : IsMap H K e) : IsMap (besL G H) K (f ++ e) := by
  have hl := bes_length h
  have hlf := hf.1.1
  have hle := he.1.1
  refine ⟨⟨by rw [List.length_append, hlf, hle, hl], fun j y hy => ?_⟩, fun i j hi hj ha => ?_⟩
  · rcases Nat.lt_or_ge j f.length with hj | hj
    · rw [List.getElem?_append_left hj] at hy; exact hf.1.2 j y hy
    · rw [List.getElem?_append_right hj] at hy; exact he.1.2 _ y hy
  · rw [hl] at hi hj
    rw [besL_yes h, arw_rowsP hi hj] at ha
    rcases Nat.lt_or_ge i G.length with hi1 | hi1 <;> rcases Nat.lt_or_ge j G.length with hj1 | hj1
    · rw [besP_first hi1 hj1] at ha
      rw [nd_app1 (by omega), nd_app1 (by omega)]; exact hf.2 i j hi1 hj1 ha
    · obtain ⟨j', rfl⟩ : ∃ j', j = G.length + j' := ⟨j - G.length, by omega⟩
      rw [besP_no1 _ hi1] at ha; cases ha
    · obtain ⟨i', rfl⟩ : ∃ i', i = G.length + i' := ⟨i - G.length, by omega⟩
      rw [besP_no2 _ hj1] at ha; cases ha
    · obtain ⟨i', rfl⟩ : ∃ i', i = G.length + i' := ⟨i - G.length, by omega⟩
      obtain ⟨j', rfl⟩ : ∃ j', j = G.length + j' := ⟨j - G.length, by omega⟩
      rw [besP_last] at ha
      rw [nd_app2 (by omega), nd_app2 (by omega), hlf, Nat.add_sub_cancel_left, Nat.add_sub_cancel_left]
      exact he.2 i' j' (by omega) (by omega) ha
theorem joi_parts {G H K : List (List Int)} {p : List Int} (h : besOk G H = true) (hp : IsMap (besL G H) K p) : IsMap G K (p.take G.length) ∧ IsMap H K (p.drop G.length) := by
  have hl := bes_length h
  have hlp := hp.1.1
  rw [hl] at hlp
  have n1 : ∀ j, j < G.length → nd (p.take G.length) j = nd p j := fun j hj => nd_take hj
  have n2 : ∀ j, nd (p.drop G.length) j = nd p (G.length + j) := fun j => by unfold nd; rw [List.getElem?_drop]
  refine ⟨⟨⟨by rw [List.length_take]; omega, fun j y hy => ?_⟩, fun i j hi hj ha => ?_⟩, ⟨⟨by rw [List.length_drop]; omega, fun j y hy => ?_⟩, fun i j hi hj ha => ?_⟩⟩
  · have hj : j < G.length := by have := (List.getElem?_eq_some_iff.1 hy).1; rw [List.length_take] at this; omega
    rw [List.getElem?_take_of_lt hj] at hy; exact hp.1.2 j y hy
  · rw [n1 i hi, n1 j hj]
    refine hp.2 i j (by omega) (by omega) ?_
    rw [besL_yes h, arw_rowsP (by omega) (by omega), besP_first hi hj]; exact ha
  · rw [List.getElem?_drop] at hy; exact hp.1.2 _ y hy
  · rw [n2, n2]
    refine hp.2 _ _ (by omega) (by omega) ?_
    rw [besL_yes h, arw_rowsP (by omega) (by omega), besP_last]; exact ha
theorem few_bes {G H K : List (List Int)} (h : besOk G H = true) (hf : fewI (besL G H) K = true) : fewI G K = true ∧ fewI H K = true := by
  obtain ⟨hG, hH, _⟩ := besOk_of h
  obtain ⟨_, hK, h7⟩ := fewI_iff.1 hf
  rw [bes_length h] at h7
  have hk1 := (good_of hK).1
  exact ⟨fewI_iff.2 ⟨gOk_true hG, hK, Nat.le_trans (Nat.pow_le_pow_right hk1 (by omega)) h7⟩, fewI_iff.2 ⟨gOk_true hH, hK, Nat.le_trans (Nat.pow_le_pow_right hk1 (by omega)) h7⟩⟩
theorem below_bes {G H K : List (List Int)} (h : besOk G H = true) (hf : fewI (besL G H) K = true) : belowI (besL G H) K = (belowI G K && belowI H K) := by
  obtain ⟨h1, h2⟩ := few_bes h hf
  rw [Bool.eq_iff_iff, Bool.and_eq_true, below_iff hf, below_iff h1, below_iff h2]
  exact ⟨fun ⟨p, hp⟩ => ⟨⟨_, (joi_parts h hp).1⟩, ⟨_, (joi_parts h hp).2⟩⟩, fun ⟨⟨f, hf⟩, ⟨e, he⟩⟩ => ⟨_, joi_map h hf he⟩⟩

end Go.Proofs.Ytofpjepndhpciaa
