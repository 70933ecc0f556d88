/-
  All rows by their numbers; there are as many maps as rows that are maps; none is told twice.
-/
import Derived.Test.YtmohmecdhabapabG1
import Derived.Test.YtmohmecdhabapabL2
import Derived.Test.YtmohmecdhabapabM10
namespace Go.Proofs.Ytmohmecdhabapab
open Go.RowKit Go.Shelf

/-- THE ROW OF A NUMBER: its digits, the least first. -/
def dig (h : Nat) : Nat → Nat → List Int
  | 0, _ => []
  | k + 1, t => ((t % h : Nat) : Int) :: dig h k (t / h)
theorem dig_length (h : Nat) : ∀ k t, (dig h k t).length = k
  | 0, _ => rfl
  | k + 1, t => by rw [dig, List.length_cons, dig_length h k]
theorem dig_get (h : Nat) : ∀ (k t i : Nat), i < k → (dig h k t)[i]? = some ((t / h ^ i % h : Nat) : Int)
  | 0, _, _, hi => absurd hi (Nat.not_lt_zero _)
  | k + 1, t, 0, _ => by simp [dig]
  | k + 1, t, i + 1, hi => by
    rw [dig, List.getElem?_cons_succ, dig_get h k (t / h) i (by omega), Nat.div_div_eq_div_mul, Nat.pow_succ, Nat.mul_comm (h ^ i) h]
theorem maps_prefix {G H : List (List Int)} : ∀ (n : Nat) (q r : List Int), r ∈ mapsFrom G H n q → q <+: r := by
  intro n
  induction n with
  | zero => intro q r h; rw [mapsFrom, List.mem_singleton] at h; rw [h]; exact List.prefix_refl _
  | succ n ih =>
    intro q r h
    rw [mapsFrom, List.mem_flatMap] at h
    obtain ⟨s, hs, hr⟩ := h
    unfold exts at hs
    obtain ⟨x, _, rfl⟩ := List.mem_map.1 (List.mem_filter.1 hs).1
    exact List.IsPrefix.trans (List.prefix_append _ _) (ih _ _ hr)
/-- Is the row that p begins and t goes on with a map, as far as it is asked behind p? -/
def Qd (G H : List (List Int)) : Nat → List Int → Nat → Bool
  | 0, _, _ => true
  | k + 1, p, t => lead G H (p ++ [((t % H.length : Nat) : Int)]) && Qd G H k (p ++ [((t % H.length : Nat) : Int)]) (t / H.length)
theorem Qd_mem {G H : List (List Int)} (hH : 0 < H.length) : ∀ (k : Nat) (p : List Int) (t : Nat), Qd G H k p t = true ↔ p ++ dig H.length k t ∈ mapsFrom G H k p := by
  intro k
  induction k with
  | zero => intro p t; simp [Qd, dig, mapsFrom]
  | succ k ih =>
    intro p t
    have hx : t % H.length < H.length := Nat.mod_lt _ hH
    rw [Qd, Bool.and_eq_true, ih, dig, mapsFrom, List.mem_flatMap, List.append_assoc]
    constructor
    · rintro ⟨h1, h2⟩
      refine ⟨_, ?_, h2⟩
      unfold exts
      exact List.mem_filter.2 ⟨List.mem_map.2 ⟨_, List.mem_range.2 hx, rfl⟩, h1⟩
    · rintro ⟨q, hq, hr⟩
      unfold exts at hq
      obtain ⟨hq1, hq2⟩ := List.mem_filter.1 hq
      obtain ⟨y, _, rfl⟩ := List.mem_map.1 hq1
      have hp := maps_prefix _ _ _ hr
      have e : (y : Int) = ((t % H.length : Nat) : Int) := by
        have h2 : [(y : Int)] <+: [((t % H.length : Nat) : Int)] ++ dig H.length k (t / H.length) := (List.prefix_append_right_inj p).1 hp
        obtain ⟨z, hz⟩ := h2
        simp at hz
        exact_mod_cast hz.1
      rw [e] at hq2 hr
      exact ⟨hq2, hr⟩
theorem sumN_mul (h : Nat) (F : Nat → Nat) : ∀ n, sumN (n * h) F = sumN n fun t => sumN h fun x => F (x + h * t) := by
  intro n
  induction n with
  | zero => simp [sumN]
  | succ n ih =>
    rw [Nat.succ_mul]
    have split : ∀ (m : Nat) (f : Nat → Nat) (k : Nat), sumN (m + k) f = sumN m f + sumN k (fun i => f (m + i)) := by
      intro m f k
      induction k with
      | zero => rfl
      | succ k ihk => rw [← Nat.add_assoc]; simp only [sumN]; rw [ihk]; omega
    rw [split, ih]
    simp only [sumN]
    congr 1
    exact sumN_congr fun i _ => by rw [Nat.mul_comm n h, Nat.add_comm]
theorem maps_sum {G H : List (List Int)} (hH : 0 < H.length) : ∀ (k : Nat) (p : List Int), (mapsFrom G H k p).length = sumN (H.length ^ k) fun t => bN (Qd G H k p t) := by
  intro k
  induction k with
  | zero => intro p; simp [mapsFrom, sumN, Qd, bN]
  | succ k ih =>
    intro p
    have e1 : (mapsFrom G H (k + 1) p).length = sumN H.length fun x => if lead G H (p ++ [(x : Int)]) = true then (mapsFrom G H k (p ++ [(x : Int)])).length else 0 := by
      rw [mapsFrom]
      have key : ∀ m, ((exts G H p m).flatMap (mapsFrom G H k)).length = sumN m fun x => if lead G H (p ++ [(x : Int)]) = true then (mapsFrom G H k (p ++ [(x : Int)])).length else 0 := by
        intro m
        induction m with
        | zero => rfl
        | succ m ihm =>
          simp only [sumN]
          cases hl : lead G H (p ++ [(m : Int)]) with
          | true => rw [exts_yes hl, List.flatMap_append, List.length_append, ihm]; simp
          | false => rw [exts_no hl, ihm]; simp
      exact key _
    rw [e1, Nat.pow_succ, sumN_mul, sumN_swap]
    refine sumN_congr fun x hx => ?_
    have e2 : ∀ t, (x + H.length * t) % H.length = x := fun t => by rw [Nat.add_mul_mod_self_left, Nat.mod_eq_of_lt hx]
    have e3 : ∀ t, (x + H.length * t) / H.length = t := fun t => by rw [Nat.add_mul_div_left _ _ hH, Nat.div_eq_of_lt hx, Nat.zero_add]
    cases hl : lead G H (p ++ [(x : Int)]) with
    | true =>
      rw [if_pos rfl, ih]
      refine sumN_congr fun t _ => ?_
      rw [Qd, e2, e3, hl, Bool.true_and]
    | false =>
      rw [if_neg (by decide)]
      symm
      rw [← sumN_zero (H.length ^ k)]
      refine sumN_congr fun t _ => ?_
      rw [Qd, e2, hl, Bool.false_and]; rfl
theorem mapOk_mem {G H : List (List Int)} (h : fewI G H = true) (f : List Int) : mapOkI G H f = true ↔ f ∈ mapsL G H := by
  rw [mapsL_mem h, mapOk_iff]
  obtain ⟨h1, h2, _⟩ := fewI_iff.1 h
  exact ⟨fun h => h.2, fun h => ⟨⟨h1, h2⟩, h⟩⟩
/-- THE COUNT of all rows that are maps. -/
theorem maps_count {G H : List (List Int)} (h : fewI G H = true) : sumN (H.length ^ G.length) (fun t => bN (mapOkI G H (dig H.length G.length t))) = (mapsL G H).length := by
  have hH : 0 < H.length := (good_of (fewI_iff.1 h).2.1).1
  rw [mapsL_yes h, maps_sum hH]
  refine sumN_congr fun t _ => ?_
  congr 1
  rw [Bool.eq_iff_iff, mapOk_mem h, mapsL_yes h, Qd_mem hH, List.nil_append]
theorem maps_nodup (G H : List (List Int)) : ∀ (k : Nat) (p : List Int), (mapsFrom G H k p).Nodup := by
  intro k
  induction k with
  | zero => intro p; rw [mapsFrom]; exact List.nodup_cons.2 ⟨by simp, List.nodup_nil⟩
  | succ k ih =>
    intro p
    rw [mapsFrom]
    refine List.pairwise_flatMap.2 ⟨fun q _ => ih q, ?_⟩
    unfold exts
    refine List.Pairwise.filter _ (List.pairwise_map.2 ?_)
    refine (List.nodup_range (n := H.length)).imp fun {x y} hxy r hr s hs e => hxy ?_
    subst e
    have h1 := maps_prefix _ _ _ hr
    have h2 := maps_prefix _ _ _ hs
    have h3 := List.prefix_of_prefix_length_le h1 h2 (by simp)
    have h4 := (List.prefix_append_right_inj p).1 h3
    obtain ⟨z, hz⟩ := h4
    simp at hz
    exact_mod_cast hz.1
theorem maps_next {G H : List (List Int)} {k : Nat} {x y : List Int} (hx : (mapsL G H)[k]? = some x) (hy : (mapsL G H)[k + 1]? = some y) : y ≠ x := by
  have hn : (mapsL G H).Nodup := by
    by_cases h : fewI G H = true
    · rw [mapsL_yes h]; exact maps_nodup G H _ _
    · rw [mapsL_no (by simpa using h)]; exact List.nodup_nil
  obtain ⟨h1, rfl⟩ := List.getElem?_eq_some_iff.1 hx
  obtain ⟨h2, rfl⟩ := List.getElem?_eq_some_iff.1 hy
  intro e
  exact (List.pairwise_iff_getElem.1 hn) k (k + 1) h1 h2 (by omega) e.symm

theorem drewN_two (w : World) (n m : Nat) : (w.drewN n).drewN m = w.drewN (n + m) := by simp [World.drewN, Nat.add_assoc]
set_option maxHeartbeats 400000 in
/-- sameInts of two lists that are as long and not the same. -/
theorem sameS_diff (a a' : Option Addr) (c c' : Nat) (xs ys : List Int) (n₀ : Nat) (w : World) (hI : Ints n₀ w a xs) (hI' : Ints n₀ w a' ys) (hl : xs.length ≤ 1048576) (he : ys.length = xs.length) (hne : xs ≠ ys) :
    Calls Try.prog 23 #[.slice a xs.length c, .slice a' xs.length c'] w (Still (.bool false) w) := by
  have HE := Lib.hid he
  have HN := Lib.hid hne
  clear he hne
  go_enter Try.func23, Try.ntmps23
  go_wp2
  go_loopw [5] (fun i wr => ∃ (k n : Nat), k ≤ xs.length ∧ i = .int .i64 k ∧ wr = w.drewN n ∧ Hid (∀ j, j < k → xs[j]? = ys[j]?)) (fun i _ => xs.length - (intOf i).toNat)
  case atStart => exact ⟨0, 0, Nat.zero_le _, rfl, rfl, Lib.hid fun j hj => absurd hj (Nat.not_lt_zero _)⟩
  case round =>
    obtain ⟨k, n, hk, rfl, rfl, HK⟩ := hrel
    by_cases hlt : k < xs.length
    · obtain ⟨b, o, x, rfl, hb, hc, HX⟩ := hI.at_ hlt
      obtain ⟨b', o', x', rfl, hb', hc', HX'⟩ := hI'.at_ (k := k) (by rw [HE.out]; exact hlt)
      by_cases e : x = x'
      · subst e
        have HK2 : Hid (∀ j, j < k + 1 → xs[j]? = ys[j]?) := Lib.hid fun j hj => by
          by_cases e : j = k
          · subst e; rw [HX.out, HX'.out]
          · exact HK.out j (by omega)
        go_wp2
        go_quiet (fail)
        go_wp2
        go_roundw
        case rel => exact ⟨k + 1, _, by omega, by go_num, rfl, HK2⟩
        case measure => simp [intOf]; omega
      · have hxx : (x != x') = true := by simpa using e
        go_wp2
        go_quiet (fail)
        go_wp2
        go_ret
        exact ⟨rfl, _, drewN_two _ _ _⟩
    · exfalso
      refine HN.out (List.ext_getElem? fun j => ?_)
      by_cases hj : j < xs.length
      · exact HK.out j (by omega)
      · rw [List.getElem?_eq_none (by omega), List.getElem?_eq_none (by rw [HE.out]; omega)]

end Go.Proofs.Ytmohmecdhabapab
