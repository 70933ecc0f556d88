/-
  Several texts in one.
  What is told is what is a map.
  impl.BehindOf and its model.
  All rows by their numbers; there are as many maps as rows that are maps; none is told twice.
-/
import Derived.Test.YtofpjepndhpciaaZO
import Derived.Test.YtofpjepndhpciaaM8a
import Derived.Test.YtofpjepndhpciaaZB
namespace Go.Proofs.Ytofpjepndhpciaa
open Go.RowKit Go.Shelf

/-- A MAP. -/
def IsMap (G H : List (List Int)) (f : List Int) : Prop := Tells G.length H.length f ∧ ∀ i j, i < G.length → j < G.length → arw G i j = true → arw H (nd f i) (nd f j) = true
theorem nd_take {f : List Int} {m j : Nat} (h : j < m) : nd (f.take m) j = nd f j := by unfold nd; rw [List.getElem?_take_of_lt h]
theorem map_told {G H : List (List Int)} {f : List Int} (hf : IsMap G H f) : ∀ (n : Nat) (m : Nat), m + n = G.length → f ∈ mapsFrom G H n (f.take m) := by
  intro n
  induction n with
  | zero =>
    intro m hm
    rw [mapsFrom, List.mem_singleton, List.take_of_length_le (by rw [hf.1.1]; omega)]
  | succ n ih =>
    intro m hm
    rw [mapsFrom, List.mem_flatMap]
    obtain ⟨x, hx, _, hxH⟩ := tells_at hf.1 (j := m) (by omega)
    have e : f.take (m + 1) = f.take m ++ [(x : Int)] := by rw [List.take_add_one, hx]; rfl
    have hl : (f.take (m + 1)).length = m + 1 := by rw [List.length_take, hf.1.1]; omega
    refine ⟨f.take (m + 1), ?_, ih (m + 1) (by omega)⟩
    unfold exts
    refine List.mem_filter.2 ⟨List.mem_map.2 ⟨x, List.mem_range.2 hxH, e.symm⟩, lead_all fun j hj => ?_⟩
    rw [hl] at hj
    unfold leadAt
    rw [hl, Nat.add_sub_cancel, nd_take hj, nd_take (Nat.lt_succ_self m)]
    have h1 := hf.2 j m (by omega) (by omega)
    have h2 := hf.2 m j (by omega) (by omega)
    cases ha : arw G j m <;> cases hb : arw G m j <;> simp_all
theorem told_map {G H : List (List Int)} : ∀ (n : Nat) (p r : List Int), r ∈ mapsFrom G H n p → (∀ i j, i < p.length → j < p.length → arw G i j = true → arw H (nd p i) (nd p j) = true) →
    ∀ i j, i < r.length → j < r.length → arw G i j = true → arw H (nd r i) (nd r j) = true := by
  intro n
  induction n with
  | zero => intro p r h hp; rw [mapsFrom, List.mem_singleton] at h; rw [h]; exact hp
  | succ n ih =>
    intro p r h hp
    rw [mapsFrom, List.mem_flatMap] at h
    obtain ⟨q, hq, hr⟩ := h
    unfold exts at hq
    obtain ⟨hq1, hq2⟩ := List.mem_filter.1 hq
    obtain ⟨x, _, rfl⟩ := List.mem_map.1 hq1
    refine ih _ r hr fun i j hi hj ha => ?_
    rw [List.length_append, List.length_singleton] at hi hj
    have hlead : ∀ j, j < p.length + 1 → leadAt G H (p ++ [(x : Int)]) j = true := fun j hj => List.all_eq_true.1 hq2 j (List.mem_range.2 (by rw [List.length_append, List.length_singleton]; exact hj))
    unfold leadAt at hlead
    rw [List.length_append, List.length_singleton, Nat.add_sub_cancel] at hlead
    by_cases hi2 : i < p.length
    · by_cases hj2 : j < p.length
      · rw [nd_snoc_lt hi2, nd_snoc_lt hj2]; exact hp i j hi2 hj2 ha
      · obtain rfl : j = p.length := by omega
        have h1 := hlead i hi
        simp only [Bool.and_eq_true, ha, Bool.not_true, Bool.false_or] at h1
        exact h1.1
    · obtain rfl : i = p.length := by omega
      have h1 := hlead j hj
      simp only [Bool.and_eq_true, ha, Bool.not_true, Bool.false_or] at h1
      exact h1.2
theorem mapsL_mem {G H : List (List Int)} (h : fewI G H = true) (f : List Int) : f ∈ mapsL G H ↔ IsMap G H f := by
  rw [mapsL_yes h]
  refine ⟨fun hf => ?_, fun hf => by have := map_told hf G.length 0 (by omega); rwa [List.take_zero] at this⟩
  have h1 := mapsFrom_len _ _ _ hf
  rw [List.length_nil, Nat.zero_add] at h1
  have h2 := mapsFrom_tells G.length [] f ⟨rfl, fun j y hy => by simp at hy⟩ hf
  rw [h1] at h2
  have h3 := told_map G.length [] f hf (fun i j hi => absurd hi (Nat.not_lt_zero _))
  rw [h1] at h3
  exact ⟨h2, h3⟩
theorem below_iff {G H : List (List Int)} (h : fewI G H = true) : belowI G H = true ↔ ∃ f, IsMap G H f := by
  unfold belowI
  rw [decide_eq_true_eq, List.length_pos_iff_exists_mem]
  exact ⟨fun ⟨f, hf⟩ => ⟨f, (mapsL_mem h f).1 hf⟩, fun ⟨f, hf⟩ => ⟨f, (mapsL_mem h f).2 hf⟩⟩

/-- The map of each node to itself. -/
def ownL (m : Nat) : List Int := (List.range m).map fun i : Nat => (i : Int)
theorem ownL_nd {m j : Nat} (h : j < m) : nd (ownL m) j = j := by unfold nd ownL; simp [h]
theorem ownL_tells (m : Nat) : Tells m m (ownL m) := ⟨by simp [ownL], fun j y hy => by
  have hj : j < m := by have := (List.getElem?_eq_some_iff.1 hy).1; simpa [ownL] using this
  rw [show (ownL m)[j]? = some (j : Int) by simp [ownL, hj]] at hy
  cases hy
  omega⟩
theorem own_map (G : List (List Int)) : IsMap G G (ownL G.length) := ⟨ownL_tells _, fun i j hi hj ha => by rw [ownL_nd hi, ownL_nd hj]; exact ha⟩
/-- The map behind a map. -/
def behL (f e : List Int) : List Int := f.map fun y => e[y.toNat]?.getD 0
theorem behL_nd {f e : List Int} {j : Nat} (h : j < f.length) : nd (behL f e) j = nd e (nd f j) := by unfold nd behL; simp [h]
theorem beh_map {G H K : List (List Int)} {f e : List Int} (hf : IsMap G H f) (he : IsMap H K e) : IsMap G K (behL f e) := by
  have hfl := hf.1.1
  refine ⟨⟨by simp [behL, hfl], fun j y hy => ?_⟩, fun i j hi hj ha => ?_⟩
  · have hj := (List.getElem?_eq_some_iff.1 hy).1
    have hj' : j < G.length := by simpa [behL, hfl] using hj
    obtain ⟨p, hp, _, hpH⟩ := tells_at hf.1 hj'
    obtain ⟨q, hq, _, hqK⟩ := tells_at he.1 hpH
    have : y = (q : Int) := by
      unfold behL at hy
      rw [List.getElem?_map, hp] at hy
      simp [hq] at hy
      exact hy.symm
    omega
  · rw [behL_nd (by omega), behL_nd (by omega)]
    obtain ⟨p, _, ep, hpH⟩ := tells_at hf.1 hi
    obtain ⟨q, _, eq, hqH⟩ := tells_at hf.1 hj
    exact he.2 _ _ (by rw [ep]; exact hpH) (by rw [eq]; exact hqH) (hf.2 i j hi hj ha)

end Go.Proofs.Ytofpjepndhpciaa

namespace Go.Proofs.Ytofpjepndhpciaa
open Go.RowKit Go.Shelf Go.Deep

/-- THE MAP BEHIND A MAP; nothing for others. -/
def behI (G H K : List (List Int)) (f e : List Int) : List Int := if mapOkI G H f = true ∧ mapOkI H K e = true then behL f e else []
theorem behI_yes {G H K : List (List Int)} {f e : List Int} (h : mapOkI G H f = true) (h' : mapOkI H K e = true) : behI G H K f e = behL f e := if_pos ⟨h, h'⟩
theorem behI_no {G H K : List (List Int)} {f e : List Int} (h : ¬ (mapOkI G H f = true ∧ mapOkI H K e = true)) : behI G H K f e = [] := if_neg h
theorem mapOk_iff {G H : List (List Int)} {f : List Int} : mapOkI G H f = true ↔ (gOk G = true ∧ gOk H = true) ∧ IsMap G H f := by
  unfold mapOkI IsMap
  simp only [Bool.and_eq_true, tells_iff]
  refine ⟨fun ⟨⟨h1, h2⟩, h3⟩ => ⟨h1, h2, fun i j hi hj ha => List.all_eq_true.1 h3 (⟨i, hi⟩, ⟨j, hj⟩) (by unfold AL; exact List.mem_filter.2 ⟨PL_all _, ha⟩)⟩, fun ⟨h1, h2, h3⟩ => ⟨⟨h1, h2⟩, List.all_eq_true.2 fun x hx => h3 x.1.1 x.2.1 x.1.2 x.2.2 (by unfold AL at hx; exact (List.mem_filter.1 hx).2)⟩⟩
theorem behL_length (f e : List Int) : (behL f e).length = f.length := by simp [behL]
/-- A NEW LIST IN A BLOCK OF ITS OWN (nil where there is none). -/
def OwnI (base : Nat) (W : World) (a : Option Addr) (c : Nat) (xs : List Int) : Prop :=
  (xs = [] ∧ a = none ∧ c = 0) ∨ ∃ b : Nat, a = some ⟨b, 0, none⟩ ∧ c = xs.length ∧ RowI W b xs ∧ base ≤ b
def MadeI (xs : List Int) (w : World) (e : Ending) (w' : World) : Prop := ∃ (a : Option Addr) (c : Nat), (e = .returned (.slice a xs.length c) ∧ Below w.heap.size w w') ∧ OwnI w.heap.size w' a c xs

end Go.Proofs.Ytofpjepndhpciaa

namespace Go.Proofs.Ytofpjepndhpciaa
open Go.RowKit Go.Shelf

/-- THE ROW OF A NUMBER: its digits, the least first. -/
def dig (h : Nat) : Nat → Nat → List Int
  | 0, _ => []
  | k + 1, t => ((t % h : Nat) : Int) :: dig h k (t / h)
theorem dig_length (h : Nat) : ∀ k t, (dig h k t).length = k
  | 0, _ => rfl
  | k + 1, t => by rw [dig, List.length_cons, dig_length h k]
theorem dig_get (h : Nat) : ∀ (k t i : Nat), i < k → (dig h k t)[i]? = some ((t / h ^ i % h : Nat) : Int)
  | 0, _, _, hi => absurd hi (Nat.not_lt_zero _)
  | k + 1, t, 0, _ => by simp [dig]
  | k + 1, t, i + 1, hi => by
    rw [dig, List.getElem?_cons_succ, dig_get h k (t / h) i (by omega), Nat.div_div_eq_div_mul, Nat.pow_succ, Nat.mul_comm (h ^ i) h]
theorem maps_prefix {G H : List (List Int)} : ∀ (n : Nat) (q r : List Int), r ∈ mapsFrom G H n q → q <+: r := by
  intro n
  induction n with
  | zero => intro q r h; rw [mapsFrom, List.mem_singleton] at h; rw [h]; exact List.prefix_refl _
  | succ n ih =>
    intro q r h
    rw [mapsFrom, List.mem_flatMap] at h
    obtain ⟨s, hs, hr⟩ := h
    unfold exts at hs
    obtain ⟨x, _, rfl⟩ := List.mem_map.1 (List.mem_filter.1 hs).1
    exact List.IsPrefix.trans (List.prefix_append _ _) (ih _ _ hr)
/-- Is the row that p begins and t goes on with a map, as far as it is asked behind p? -/
def Qd (G H : List (List Int)) : Nat → List Int → Nat → Bool
  | 0, _, _ => true
  | k + 1, p, t => lead G H (p ++ [((t % H.length : Nat) : Int)]) && Qd G H k (p ++ [((t % H.length : Nat) : Int)]) (t / H.length)
theorem Qd_mem {G H : List (List Int)} (hH : 0 < H.length) : ∀ (k : Nat) (p : List Int) (t : Nat), Qd G H k p t = true ↔ p ++ dig H.length k t ∈ mapsFrom G H k p := by
  intro k
  induction k with
  | zero => intro p t; simp [Qd, dig, mapsFrom]
  | succ k ih =>
    intro p t
    have hx : t % H.length < H.length := Nat.mod_lt _ hH
    rw [Qd, Bool.and_eq_true, ih, dig, mapsFrom, List.mem_flatMap, List.append_assoc]
    constructor
    · rintro ⟨h1, h2⟩
      refine ⟨_, ?_, h2⟩
      unfold exts
      exact List.mem_filter.2 ⟨List.mem_map.2 ⟨_, List.mem_range.2 hx, rfl⟩, h1⟩
    · rintro ⟨q, hq, hr⟩
      unfold exts at hq
      obtain ⟨hq1, hq2⟩ := List.mem_filter.1 hq
      obtain ⟨y, _, rfl⟩ := List.mem_map.1 hq1
      have hp := maps_prefix _ _ _ hr
      have e : (y : Int) = ((t % H.length : Nat) : Int) := by
        have h2 : [(y : Int)] <+: [((t % H.length : Nat) : Int)] ++ dig H.length k (t / H.length) := (List.prefix_append_right_inj p).1 hp
        obtain ⟨z, hz⟩ := h2
        simp at hz
        exact_mod_cast hz.1
      rw [e] at hq2 hr
      exact ⟨hq2, hr⟩
theorem sumN_mul (h : Nat) (F : Nat → Nat) : ∀ n, sumN (n * h) F = sumN n fun t => sumN h fun x => F (x + h * t) := by
  intro n
  induction n with
  | zero => simp [sumN]
  | succ n ih =>
    rw [Nat.succ_mul]
    have split : ∀ (m : Nat) (f : Nat → Nat) (k : Nat), sumN (m + k) f = sumN m f + sumN k (fun i => f (m + i)) := by
      intro m f k
      induction k with
      | zero => rfl
      | succ k ihk => rw [← Nat.add_assoc]; simp only [sumN]; rw [ihk]; omega
    rw [split, ih]
    simp only [sumN]
    congr 1
    exact sumN_congr fun i _ => by rw [Nat.mul_comm n h, Nat.add_comm]
theorem maps_sum {G H : List (List Int)} (hH : 0 < H.length) : ∀ (k : Nat) (p : List Int), (mapsFrom G H k p).length = sumN (H.length ^ k) fun t => bN (Qd G H k p t) := by
  intro k
  induction k with
  | zero => intro p; simp [mapsFrom, sumN, Qd, bN]
  | succ k ih =>
    intro p
    have e1 : (mapsFrom G H (k + 1) p).length = sumN H.length fun x => if lead G H (p ++ [(x : Int)]) = true then (mapsFrom G H k (p ++ [(x : Int)])).length else 0 := by
      rw [mapsFrom]
      have key : ∀ m, ((exts G H p m).flatMap (mapsFrom G H k)).length = sumN m fun x => if lead G H (p ++ [(x : Int)]) = true then (mapsFrom G H k (p ++ [(x : Int)])).length else 0 := by
        intro m
        induction m with
        | zero => rfl
        | succ m ihm =>
          simp only [sumN]
          cases hl : lead G H (p ++ [(m : Int)]) with
          | true => rw [exts_yes hl, List.flatMap_append, List.length_append, ihm]; simp
          | false => rw [exts_no hl, ihm]; simp
      exact key _
    rw [e1, Nat.pow_succ, sumN_mul, sumN_swap]
    refine sumN_congr fun x hx => ?_
    have e2 : ∀ t, (x + H.length * t) % H.length = x := fun t => by rw [Nat.add_mul_mod_self_left, Nat.mod_eq_of_lt hx]
    have e3 : ∀ t, (x + H.length * t) / H.length = t := fun t => by rw [Nat.add_mul_div_left _ _ hH, Nat.div_eq_of_lt hx, Nat.zero_add]
    cases hl : lead G H (p ++ [(x : Int)]) with
    | true =>
      rw [if_pos rfl, ih]
      refine sumN_congr fun t _ => ?_
      rw [Qd, e2, e3, hl, Bool.true_and]
    | false =>
      rw [if_neg (by decide)]
      symm
      rw [← sumN_zero (H.length ^ k)]
      refine sumN_congr fun t _ => ?_
      rw [Qd, e2, hl, Bool.false_and]; rfl
theorem mapOk_mem {G H : List (List Int)} (h : fewI G H = true) (f : List Int) : mapOkI G H f = true ↔ f ∈ mapsL G H := by
  rw [mapsL_mem h, mapOk_iff]
  obtain ⟨h1, h2, _⟩ := fewI_iff.1 h
  exact ⟨fun h => h.2, fun h => ⟨⟨h1, h2⟩, h⟩⟩
/-- THE COUNT of all rows that are maps. -/
theorem maps_count {G H : List (List Int)} (h : fewI G H = true) : sumN (H.length ^ G.length) (fun t => bN (mapOkI G H (dig H.length G.length t))) = (mapsL G H).length := by
  have hH : 0 < H.length := (good_of (fewI_iff.1 h).2.1).1
  rw [mapsL_yes h, maps_sum hH]
  refine sumN_congr fun t _ => ?_
  congr 1
  rw [Bool.eq_iff_iff, mapOk_mem h, mapsL_yes h, Qd_mem hH, List.nil_append]
theorem maps_nodup (G H : List (List Int)) : ∀ (k : Nat) (p : List Int), (mapsFrom G H k p).Nodup := by
  intro k
  induction k with
  | zero => intro p; rw [mapsFrom]; exact List.nodup_cons.2 ⟨by simp, List.nodup_nil⟩
  | succ k ih =>
    intro p
    rw [mapsFrom]
    refine List.pairwise_flatMap.2 ⟨fun q _ => ih q, ?_⟩
    unfold exts
    refine List.Pairwise.filter _ (List.pairwise_map.2 ?_)
    refine (List.nodup_range (n := H.length)).imp fun {x y} hxy r hr s hs e => hxy ?_
    subst e
    have h1 := maps_prefix _ _ _ hr
    have h2 := maps_prefix _ _ _ hs
    have h3 := List.prefix_of_prefix_length_le h1 h2 (by simp)
    have h4 := (List.prefix_append_right_inj p).1 h3
    obtain ⟨z, hz⟩ := h4
    simp at hz
    exact_mod_cast hz.1
theorem maps_next {G H : List (List Int)} {k : Nat} {x y : List Int} (hx : (mapsL G H)[k]? = some x) (hy : (mapsL G H)[k + 1]? = some y) : y ≠ x := by
  have hn : (mapsL G H).Nodup := by
    by_cases h : fewI G H = true
    · rw [mapsL_yes h]; exact maps_nodup G H _ _
    · rw [mapsL_no (by simpa using h)]; exact List.nodup_nil
  obtain ⟨h1, rfl⟩ := List.getElem?_eq_some_iff.1 hx
  obtain ⟨h2, rfl⟩ := List.getElem?_eq_some_iff.1 hy
  intro e
  exact (List.pairwise_iff_getElem.1 hn) k (k + 1) h1 h2 (by omega) e.symm

theorem drewN_two (w : World) (n m : Nat) : (w.drewN n).drewN m = w.drewN (n + m) := by simp [World.drewN, Nat.add_assoc]
set_option maxHeartbeats 400000 in
/-- sameInts of two lists that are as long and not the same. -/
theorem sameS_diff (a a' : Option Addr) (c c' : Nat) (xs ys : List Int) (n₀ : Nat) (w : World) (hI : Ints n₀ w a xs) (hI' : Ints n₀ w a' ys) (hl : xs.length ≤ 1048576) (he : ys.length = xs.length) (hne : xs ≠ ys) :
    Calls Try.prog 34 #[.slice a xs.length c, .slice a' xs.length c'] w (Still (.bool false) w) := by
  have HE := Lib.hid he
  have HN := Lib.hid hne
  clear he hne
  go_enter Try.func34, Try.ntmps34
  go_wp2
  go_loopw [5] (fun i wr => ∃ (k n : Nat), k ≤ xs.length ∧ i = .int .i64 k ∧ wr = w.drewN n ∧ Hid (∀ j, j < k → xs[j]? = ys[j]?)) (fun i _ => xs.length - (intOf i).toNat)
  case atStart => exact ⟨0, 0, Nat.zero_le _, rfl, rfl, Lib.hid fun j hj => absurd hj (Nat.not_lt_zero _)⟩
  case round =>
    obtain ⟨k, n, hk, rfl, rfl, HK⟩ := hrel
    by_cases hlt : k < xs.length
    · obtain ⟨b, o, x, rfl, hb, hc, HX⟩ := hI.at_ hlt
      obtain ⟨b', o', x', rfl, hb', hc', HX'⟩ := hI'.at_ (k := k) (by rw [HE.out]; exact hlt)
      by_cases e : x = x'
      · subst e
        have HK2 : Hid (∀ j, j < k + 1 → xs[j]? = ys[j]?) := Lib.hid fun j hj => by
          by_cases e : j = k
          · subst e; rw [HX.out, HX'.out]
          · exact HK.out j (by omega)
        go_wp2
        go_quiet (fail)
        go_wp2
        go_roundw
        case rel => exact ⟨k + 1, _, by omega, by go_num, rfl, HK2⟩
        case measure => simp [intOf]; omega
      · have hxx : (x != x') = true := by simpa using e
        go_wp2
        go_quiet (fail)
        go_wp2
        go_ret
        exact ⟨rfl, _, drewN_two _ _ _⟩
    · exfalso
      refine HN.out (List.ext_getElem? fun j => ?_)
      by_cases hj : j < xs.length
      · exact HK.out j (by omega)
      · rw [List.getElem?_eq_none (by omega), List.getElem?_eq_none (by rw [HE.out]; omega)]

end Go.Proofs.Ytofpjepndhpciaa
