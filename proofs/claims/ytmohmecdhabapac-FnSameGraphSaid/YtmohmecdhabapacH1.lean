/-
  slices.Contains over a list of numbers; impl.someNodes.
-/
import Derived.Test.YtmohmecdhabapacG1
namespace Go.Proofs.Ytmohmecdhabapac
open Go.RowKit Go.Shelf

/-- THE FIRST PLACE of v, or a number below 0. -/
def IdxPost (xs : List Int) (v : Int) (w : World) (e : Ending) (w' : World) : Prop := ∃ r : Int, (e = .returned (.int .i64 r) ∧ w = w') ∧ (0 ≤ r ↔ v ∈ xs)

set_option maxHeartbeats 400000 in
theorem index_any (a : Option Addr) (c n₀ : Nat) (xs : List Int) (v : Int) (w : World) (hI : Ints n₀ w a xs) (hl : xs.length ≤ 1048576) :
    Calls Try.prog 61 #[.slice a xs.length c, .int .i64 v] w (IdxPost xs v w) := by
  go_enter Try.func61, Try.ntmps61
  go_wp2
  go_loop [8] (fun i => ∃ k : Nat, k ≤ xs.length ∧ i = .int .i64 k ∧ Hid (∀ j, j < k → xs[j]? ≠ some v)) (fun i => xs.length - (intOf i).toNat)
  case atStart => exact ⟨0, Nat.zero_le _, rfl, fun j h => absurd h (Nat.not_lt_zero _)⟩
  case round =>
    obtain ⟨k, hk, rfl, HR⟩ := hrel
    by_cases hlt : k < xs.length
    · obtain ⟨b, o, x, rfl, hb, hc, HX⟩ := hI.at_ hlt
      by_cases hx : v = x
      · have hxb : (v == x) = true := beq_iff_eq.2 hx
        have hmem : v ∈ xs := by rw [hx]; exact List.mem_of_getElem? HX.out
        have HM := Lib.hid hmem
        clear hx hmem
        go_wp2
        go_ret
        exact ⟨k, ⟨rfl, rfl⟩, fun _ => HM.out, fun _ => by omega⟩
      · have hxb : (v == x) = false := beq_eq_false_iff_ne.2 hx
        have HN := Lib.hid hx
        clear hx
        go_wp2
        go_round
        case rel => exact ⟨k + 1, by omega, by go_num, Lib.hid fun j hj e => by
          by_cases h : j = k
          · subst h; rw [HX.out] at e; exact HN.out (Option.some.inj e).symm
          · exact HR.out j (by omega) e⟩
        case measure => simp [intOf]; omega
    · obtain rfl : k = xs.length := by omega
      go_wp2
      go_ret
      refine ⟨-1, ⟨rfl, rfl⟩, fun h => absurd h (by omega), fun h => ?_⟩
      obtain ⟨j, hj, e⟩ := List.mem_iff_getElem.1 h
      exact absurd (by rw [List.getElem?_eq_getElem hj, e]) (HR.out j hj)

theorem contains_any (a : Option Addr) (c n₀ : Nat) (xs : List Int) (v : Int) (w : World) (hI : Ints n₀ w a xs) (hl : xs.length ≤ 1048576) :
    Calls Try.prog 53 #[.slice a xs.length c, .int .i64 v] w fun e w' => e = .returned (.bool (decide (v ∈ xs))) ∧ w = w' := by
  go_enter Try.func53, Try.ntmps53
  go_wp2_with fail
  refine (index_any a c n₀ xs v w hI hl).mono ?_
  rintro e w' ⟨r, ⟨rfl, rfl⟩, hr⟩
  have HR := Lib.hid hr
  clear hr
  go_wp2_with fail
  go_ret
  refine ⟨ret_bool ?_, rfl⟩
  by_cases h : v ∈ xs
  · rw [decide_eq_true (HR.out.2 h), decide_eq_true h]
  · rw [decide_eq_false fun h' => h (HR.out.1 h'), decide_eq_false h]

/-- NODES OF m, each once. -/
def Nodes (m : Nat) (ys : List Int) : Prop := (∀ (j : Nat) (y : Int), ys[j]? = some y → 0 ≤ y ∧ y < m) ∧ ∀ (i j : Nat) (y : Int), i < j → ys[i]? = some y → ys[j]? ≠ some y
/-- The first k are so. -/
def NodesTo (m : Nat) (ys : List Int) (k : Nat) : Prop := (∀ (j : Nat) (y : Int), j < k → ys[j]? = some y → 0 ≤ y ∧ y < m) ∧ ∀ (i j : Nat) (y : Int), i < j → j < k → ys[i]? = some y → ys[j]? ≠ some y
theorem nodesTo_zero (m : Nat) (ys : List Int) : NodesTo m ys 0 := ⟨fun _ _ h => absurd h (Nat.not_lt_zero _), fun _ _ _ _ h => absurd h (Nat.not_lt_zero _)⟩
theorem nodesTo_succ {m : Nat} {ys : List Int} {k : Nat} {y : Int} (h : NodesTo m ys k) (hy : ys[k]? = some y) (h0 : 0 ≤ y) (h1 : y < m) (hn : y ∉ ys.take k) : NodesTo m ys (k + 1) := by
  refine ⟨fun j x hj hx => ?_, fun i j x hij hj hi hx => ?_⟩
  · by_cases e : j = k
    · subst e; rw [hy] at hx; cases hx; exact ⟨h0, h1⟩
    · exact h.1 j x (by omega) hx
  · by_cases e : j = k
    · subst e
      rw [hy] at hx; cases hx
      exact hn (List.mem_of_getElem? (by rw [List.getElem?_take, if_pos hij]; exact hi))
    · exact h.2 i j x hij (by omega) hi hx
theorem nodes_all {m : Nat} {ys : List Int} (h : NodesTo m ys ys.length) : Nodes m ys :=
  ⟨fun j y hy => h.1 j y (List.getElem?_eq_some_iff.1 hy).1 hy, fun i j y hij hi hj => h.2 i j y hij (List.getElem?_eq_some_iff.1 hj).1 hi hj⟩
theorem not_nodes_range {m : Nat} {ys : List Int} {k : Nat} {y : Int} (hy : ys[k]? = some y) (h : ¬ (0 ≤ y ∧ y < m)) : ¬ Nodes m ys := fun hN => h (hN.1 k y hy)
theorem not_nodes_twice {m : Nat} {ys : List Int} {k : Nat} {y : Int} (hy : ys[k]? = some y) (h : y ∈ ys.take k) : ¬ Nodes m ys := fun hN => by
  obtain ⟨i, hi, e⟩ := List.mem_iff_getElem.1 h
  have hik : i < k := by rw [List.length_take] at hi; omega
  refine hN.2 i k y hik ?_ hy
  rw [List.getElem_take] at e
  rw [← e]; exact List.getElem?_eq_getElem _
/-- Not more than there are. -/
theorem nodes_le : ∀ {m : Nat} {ys : List Int}, Nodes m ys → ys.length ≤ m
  | 0, [], _ => by simp
  | 0, y :: ys, h => by have := h.1 0 y rfl; omega
  | m + 1, ys, h => by
    by_cases hm : (m : Int) ∈ ys
    · obtain ⟨i, hi, e⟩ := List.mem_iff_getElem.1 hm
      have h2 : Nodes m (ys.eraseIdx i) := by
        have key : ∀ (j : Nat) (y : Int), (ys.eraseIdx i)[j]? = some y → ∃ j', j' ≠ i ∧ ys[j']? = some y ∧ j' = if j < i then j else j + 1 := fun j y hy => by
          rw [List.getElem?_eraseIdx] at hy
          by_cases hj : j < i
          · rw [if_pos hj] at hy; exact ⟨j, by omega, hy, by rw [if_pos hj]⟩
          · rw [if_neg hj] at hy; exact ⟨j + 1, by omega, hy, by rw [if_neg hj]⟩
        have ei : ys[i]? = some (m : Int) := by rw [List.getElem?_eq_getElem hi, e]
        refine ⟨fun j y hy => ?_, fun a b y hab ha hb => ?_⟩
        · obtain ⟨j', hne, hj', _⟩ := key j y hy
          have hr := h.1 j' y hj'
          have : y ≠ m := fun e => by
            subst e
            rcases Nat.lt_or_gt_of_ne hne with hl | hl
            · exact h.2 j' i _ hl hj' ei
            · exact h.2 i j' _ hl ei hj'
          omega
        · obtain ⟨a', _, ha', ea⟩ := key a y ha
          obtain ⟨b', _, hb', eb⟩ := key b y hb
          refine h.2 a' b' y ?_ ha' hb'
          by_cases h1 : a < i <;> by_cases h2 : b < i <;> simp only [h1, h2, if_true, if_false] at ea eb <;> omega
      have := nodes_le h2
      rw [List.length_eraseIdx_of_lt hi] at this
      omega
    · have h2 : Nodes m ys := ⟨fun j y hy => by
        have hr := h.1 j y hy
        have : y ≠ m := fun e => hm (e ▸ List.mem_of_getElem? hy)
        omega, h.2⟩
      have := nodes_le h2
      omega

theorem Ints.take {n₀ : Nat} {W : World} {a : Option Addr} {xs : List Int} (h : Ints n₀ W a xs) (k : Nat) : Ints n₀ W a (xs.take k) := fun hne => by
  obtain ⟨b, o, e, hb, hc⟩ := h fun e => hne (by rw [e]; simp)
  refine ⟨b, o, e, hb, fun j hj => ?_⟩
  rw [List.length_take] at hj
  rw [hc j (by omega), List.getElem?_take, if_pos (by omega)]
theorem contains_take (a : Option Addr) (c n₀ : Nat) (xs : List Int) (k : Nat) (v : Int) (w : World) (hI : Ints n₀ w a xs) (hl : xs.length ≤ 1048576) (hk : k ≤ xs.length) :
    Calls Try.prog 53 #[.slice a k c, .int .i64 v] w fun e w' => e = .returned (.bool (decide (v ∈ xs.take k))) ∧ w = w' := by
  have h := contains_any a c n₀ (xs.take k) v w (hI.take k) (by rw [List.length_take]; omega)
  rw [List.length_take_of_le hk] at h
  exact h

set_option maxHeartbeats 1000000 in
theorem someNodes_yes (a : Option Addr) (c n₀ m : Nat) (ys : List Int) (w : World) (hI : Ints n₀ w a ys) (hc : ys.length ≤ c) (hm : m ≤ 9) (h1 : 1 ≤ ys.length) (hN : Nodes m ys) :
    Calls Try.prog 32 #[.slice a ys.length c, .int .i64 m] w fun e w' => e = .returned (.bool true) ∧ w = w' := by
  have hle := nodes_le hN
  have h2 : ¬ m < ys.length := by omega
  have h1' : ¬ ys.length < 1 := by omega
  have hl : ys.length ≤ 1048576 := by omega
  have HN := Lib.hid hN
  clear hN hle h1
  go_enter Try.func32, Try.ntmps32
  go_wp2_with fail
  go_loop [18] (fun i => ∃ k : Nat, k ≤ ys.length ∧ i = .int .i64 k ∧ Hid (NodesTo m ys k)) (fun i => ys.length - (intOf i).toNat)
  case atStart => exact ⟨0, Nat.zero_le _, rfl, nodesTo_zero _ _⟩
  case round =>
    obtain ⟨k, hk, rfl, -⟩ := hrel
    by_cases hlt : k < ys.length
    · obtain ⟨b, o, y, rfl, hb, hcl, HY⟩ := hI.at_ hlt
      obtain ⟨hy0, hy1⟩ := HN.out.1 k y HY.out
      have hmem : y ∉ ys.take k := fun h => not_nodes_twice HY.out h HN.out
      have hd : decide (y ∈ ys.take k) = false := decide_eq_false hmem
      have hct := contains_take (some ⟨b, o, none⟩) c n₀ ys k y w hI hl hk
      rw [hd] at hct
      have HCT := Lib.hid hct
      clear hmem hd hct
      go_wp2_with (go_at_call 53; refine (HCT.out).mono ?_; rintro e w' ⟨rfl, rfl⟩)
      go_round
      case rel => exact ⟨k + 1, by omega, by go_num, Lib.hid ⟨fun j y _ hy => HN.out.1 j y hy, fun i j y hij _ hi hj => HN.out.2 i j y hij hi hj⟩⟩
      case measure => simp [intOf]; omega
    · obtain rfl : k = ys.length := by omega
      go_wp2_with fail
      go_ret
      exact ⟨rfl, rfl⟩

set_option maxHeartbeats 2000000 in
theorem someNodes_no (a : Option Addr) (c n₀ m : Nat) (ys : List Int) (w : World) (hI : Ints n₀ w a ys) (hc : ys.length ≤ c) (hl : ys.length ≤ 1048576) (_hm : m ≤ 9) (hN : ¬ Nodes m ys) :
    Calls Try.prog 32 #[.slice a ys.length c, .int .i64 m] w fun e w' => e = .returned (.bool false) ∧ w = w' := by
  have HN := Lib.hid hN
  clear hN
  by_cases h1 : ys.length < 1
  · go_enter Try.func32, Try.ntmps32
    go_wp2_with fail
    go_ret
    exact ⟨rfl, rfl⟩
  by_cases h2 : m < ys.length
  · go_enter Try.func32, Try.ntmps32
    go_wp2_with fail
    go_ret
    exact ⟨rfl, rfl⟩
  go_enter Try.func32, Try.ntmps32
  go_wp2_with fail
  go_loop [18] (fun i => ∃ k : Nat, k ≤ ys.length ∧ i = .int .i64 k ∧ Hid (NodesTo m ys k)) (fun i => ys.length - (intOf i).toNat)
  case atStart => exact ⟨0, Nat.zero_le _, rfl, nodesTo_zero _ _⟩
  case round =>
    obtain ⟨k, hk, rfl, HK⟩ := hrel
    by_cases hlt : k < ys.length
    · obtain ⟨b, o, y, rfl, hb, hcl, HY⟩ := hI.at_ hlt
      by_cases hy0 : y < 0
      · go_wp2_with fail
        go_ret
        exact ⟨rfl, rfl⟩
      by_cases hy1 : (m : Int) ≤ y
      · go_wp2_with fail
        go_ret
        exact ⟨rfl, rfl⟩
      have hct := contains_take (some ⟨b, o, none⟩) c n₀ ys k y w hI hl hk
      by_cases hmem : y ∈ ys.take k
      · have hd : decide (y ∈ ys.take k) = true := decide_eq_true hmem
        rw [hd] at hct
        have HCT := Lib.hid hct
        clear hmem hd hct
        go_wp2_with (go_at_call 53; refine (HCT.out).mono ?_; rintro e w' ⟨rfl, rfl⟩)
        go_ret
        exact ⟨rfl, rfl⟩
      · have hd : decide (y ∈ ys.take k) = false := decide_eq_false hmem
        rw [hd] at hct
        have HCT := Lib.hid hct
        have HM := Lib.hid hmem
        clear hmem hd hct
        go_wp2_with (go_at_call 53; refine (HCT.out).mono ?_; rintro e w' ⟨rfl, rfl⟩)
        go_round
        case rel => exact ⟨k + 1, by omega, by go_num, Lib.hid (nodesTo_succ HK.out HY.out (by omega) (by omega) HM.out)⟩
        case measure => simp [intOf]; omega
    · obtain rfl : k = ys.length := by omega
      exact absurd (nodes_all HK.out) HN.out

end Go.Proofs.Ytmohmecdhabapac
