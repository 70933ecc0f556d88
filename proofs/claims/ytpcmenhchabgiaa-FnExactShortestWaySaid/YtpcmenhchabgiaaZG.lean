/-
  Several texts in one.
  slices.Contains over a list of numbers; impl.someNodes.
  impl.PartOf.
-/
import Derived.Test.YtpcmenhchabgiaaZB
import Derived.Test.YtpcmenhchabgiaaZF
import Derived.StillTailTactics
namespace Go.Proofs.Ytpcmenhchabgiaa
open Go.RowKit Go.Shelf

/-- THE FIRST PLACE of v, or a number below 0. -/
def IdxPost (xs : List Int) (v : Int) (w : World) (e : Ending) (w' : World) : Prop := ∃ r : Int, (e = .returned (.int .i64 r) ∧ w = w') ∧ (0 ≤ r ↔ v ∈ xs)

set_option maxHeartbeats 400000 in
theorem index_any (a : Option Addr) (c n₀ : Nat) (xs : List Int) (v : Int) (w : World) (hI : Ints n₀ w a xs) (hl : xs.length ≤ 1048576) :
    Calls Try.prog 119 #[.slice a xs.length c, .int .i64 v] w (IdxPost xs v w) := by
  go_enter Try.func119, Try.ntmps119
  go_wp2
  go_loop [8] (fun i => ∃ k : Nat, k ≤ xs.length ∧ i = .int .i64 k ∧ Hid (∀ j, j < k → xs[j]? ≠ some v)) (fun i => xs.length - (intOf i).toNat)
  case atStart => exact ⟨0, Nat.zero_le _, rfl, fun j h => absurd h (Nat.not_lt_zero _)⟩
  case round =>
    obtain ⟨k, hk, rfl, HR⟩ := hrel
    by_cases hlt : k < xs.length
    · obtain ⟨b, o, x, rfl, hb, hc, HX⟩ := hI.at_ hlt
      by_cases hx : v = x
      · have hxb : (v == x) = true := beq_iff_eq.2 hx
        have hmem : v ∈ xs := by rw [hx]; exact List.mem_of_getElem? HX.out
        have HM := Lib.hid hmem
        clear hx hmem
        go_wp2
        go_ret
        exact ⟨k, ⟨rfl, rfl⟩, fun _ => HM.out, fun _ => by omega⟩
      · have hxb : (v == x) = false := beq_eq_false_iff_ne.2 hx
        have HN := Lib.hid hx
        clear hx
        go_wp2
        go_round
        case rel => exact ⟨k + 1, by omega, by go_num, Lib.hid fun j hj e => by
          by_cases h : j = k
          · subst h; rw [HX.out] at e; exact HN.out (Option.some.inj e).symm
          · exact HR.out j (by omega) e⟩
        case measure => simp [intOf]; omega
    · obtain rfl : k = xs.length := by omega
      go_wp2
      go_ret
      refine ⟨-1, ⟨rfl, rfl⟩, fun h => absurd h (by omega), fun h => ?_⟩
      obtain ⟨j, hj, e⟩ := List.mem_iff_getElem.1 h
      exact absurd (by rw [List.getElem?_eq_getElem hj, e]) (HR.out j hj)

theorem contains_any (a : Option Addr) (c n₀ : Nat) (xs : List Int) (v : Int) (w : World) (hI : Ints n₀ w a xs) (hl : xs.length ≤ 1048576) :
    Calls Try.prog 111 #[.slice a xs.length c, .int .i64 v] w fun e w' => e = .returned (.bool (decide (v ∈ xs))) ∧ w = w' := by
  go_enter Try.func111, Try.ntmps111
  go_wp2_with fail
  refine (index_any a c n₀ xs v w hI hl).mono ?_
  rintro e w' ⟨r, ⟨rfl, rfl⟩, hr⟩
  have HR := Lib.hid hr
  clear hr
  go_wp2_with fail
  go_ret
  refine ⟨ret_bool ?_, rfl⟩
  by_cases h : v ∈ xs
  · rw [decide_eq_true (HR.out.2 h), decide_eq_true h]
  · rw [decide_eq_false fun h' => h (HR.out.1 h'), decide_eq_false h]

/-- NODES OF m, each once. -/
def Nodes (m : Nat) (ys : List Int) : Prop := (∀ (j : Nat) (y : Int), ys[j]? = some y → 0 ≤ y ∧ y < m) ∧ ∀ (i j : Nat) (y : Int), i < j → ys[i]? = some y → ys[j]? ≠ some y
/-- The first k are so. -/
def NodesTo (m : Nat) (ys : List Int) (k : Nat) : Prop := (∀ (j : Nat) (y : Int), j < k → ys[j]? = some y → 0 ≤ y ∧ y < m) ∧ ∀ (i j : Nat) (y : Int), i < j → j < k → ys[i]? = some y → ys[j]? ≠ some y
theorem nodesTo_zero (m : Nat) (ys : List Int) : NodesTo m ys 0 := ⟨fun _ _ h => absurd h (Nat.not_lt_zero _), fun _ _ _ _ h => absurd h (Nat.not_lt_zero _)⟩
theorem nodesTo_succ {m : Nat} {ys : List Int} {k : Nat} {y : Int} (h : NodesTo m ys k) (hy : ys[k]? = some y) (h0 : 0 ≤ y) (h1 : y < m) (hn : y ∉ ys.take k) : NodesTo m ys (k + 1) := by
  refine ⟨fun j x hj hx => ?_, fun i j x hij hj hi hx => ?_⟩
  · by_cases e : j = k
    · subst e; rw [hy] at hx; cases hx; exact ⟨h0, h1⟩
    · exact h.1 j x (by omega) hx
  · by_cases e : j = k
    · subst e
      rw [hy] at hx; cases hx
      exact hn (List.mem_of_getElem? (by rw [List.getElem?_take, if_pos hij]; exact hi))
    · exact h.2 i j x hij (by omega) hi hx
theorem nodes_all {m : Nat} {ys : List Int} (h : NodesTo m ys ys.length) : Nodes m ys :=
  ⟨fun j y hy => h.1 j y (List.getElem?_eq_some_iff.1 hy).1 hy, fun i j y hij hi hj => h.2 i j y hij (List.getElem?_eq_some_iff.1 hj).1 hi hj⟩
theorem not_nodes_range {m : Nat} {ys : List Int} {k : Nat} {y : Int} (hy : ys[k]? = some y) (h : ¬ (0 ≤ y ∧ y < m)) : ¬ Nodes m ys := fun hN => h (hN.1 k y hy)
theorem not_nodes_twice {m : Nat} {ys : List Int} {k : Nat} {y : Int} (hy : ys[k]? = some y) (h : y ∈ ys.take k) : ¬ Nodes m ys := fun hN => by
  obtain ⟨i, hi, e⟩ := List.mem_iff_getElem.1 h
  have hik : i < k := by rw [List.length_take] at hi; omega
  refine hN.2 i k y hik ?_ hy
  rw [List.getElem_take] at e
  rw [← e]; exact List.getElem?_eq_getElem _
/-- Not more than there are. -/
theorem nodes_le : ∀ {m : Nat} {ys : List Int}, Nodes m ys → ys.length ≤ m
  | 0, [], _ => by simp
  | 0, y :: ys, h => by have := h.1 0 y rfl; omega
  | m + 1, ys, h => by
    by_cases hm : (m : Int) ∈ ys
    · obtain ⟨i, hi, e⟩ := List.mem_iff_getElem.1 hm
      have h2 : Nodes m (ys.eraseIdx i) := by
        have key : ∀ (j : Nat) (y : Int), (ys.eraseIdx i)[j]? = some y → ∃ j', j' ≠ i ∧ ys[j']? = some y ∧ j' = if j < i then j else j + 1 := fun j y hy => by
          rw [List.getElem?_eraseIdx] at hy
          by_cases hj : j < i
          · rw [if_pos hj] at hy; exact ⟨j, by omega, hy, by rw [if_pos hj]⟩
          · rw [if_neg hj] at hy; exact ⟨j + 1, by omega, hy, by rw [if_neg hj]⟩
        have ei : ys[i]? = some (m : Int) := by rw [List.getElem?_eq_getElem hi, e]
        refine ⟨fun j y hy => ?_, fun a b y hab ha hb => ?_⟩
        · obtain ⟨j', hne, hj', _⟩ := key j y hy
          have hr := h.1 j' y hj'
          have : y ≠ m := fun e => by
            subst e
            rcases Nat.lt_or_gt_of_ne hne with hl | hl
            · exact h.2 j' i _ hl hj' ei
            · exact h.2 i j' _ hl ei hj'
          omega
        · obtain ⟨a', _, ha', ea⟩ := key a y ha
          obtain ⟨b', _, hb', eb⟩ := key b y hb
          refine h.2 a' b' y ?_ ha' hb'
          by_cases h1 : a < i <;> by_cases h2 : b < i <;> simp only [h1, h2, if_true, if_false] at ea eb <;> omega
      have := nodes_le h2
      rw [List.length_eraseIdx_of_lt hi] at this
      omega
    · have h2 : Nodes m ys := ⟨fun j y hy => by
        have hr := h.1 j y hy
        have : y ≠ m := fun e => hm (e ▸ List.mem_of_getElem? hy)
        omega, h.2⟩
      have := nodes_le h2
      omega

theorem Ints.take {n₀ : Nat} {W : World} {a : Option Addr} {xs : List Int} (h : Ints n₀ W a xs) (k : Nat) : Ints n₀ W a (xs.take k) := fun hne => by
  obtain ⟨b, o, e, hb, hc⟩ := h fun e => hne (by rw [e]; simp)
  refine ⟨b, o, e, hb, fun j hj => ?_⟩
  rw [List.length_take] at hj
  rw [hc j (by omega), List.getElem?_take, if_pos (by omega)]
theorem contains_take (a : Option Addr) (c n₀ : Nat) (xs : List Int) (k : Nat) (v : Int) (w : World) (hI : Ints n₀ w a xs) (hl : xs.length ≤ 1048576) (hk : k ≤ xs.length) :
    Calls Try.prog 111 #[.slice a k c, .int .i64 v] w fun e w' => e = .returned (.bool (decide (v ∈ xs.take k))) ∧ w = w' := by
  have h := contains_any a c n₀ (xs.take k) v w (hI.take k) (by rw [List.length_take]; omega)
  rw [List.length_take_of_le hk] at h
  exact h

set_option maxHeartbeats 1000000 in
theorem someNodes_yes (a : Option Addr) (c n₀ m : Nat) (ys : List Int) (w : World) (hI : Ints n₀ w a ys) (hc : ys.length ≤ c) (hm : m ≤ 9) (h1 : 1 ≤ ys.length) (hN : Nodes m ys) :
    Calls Try.prog 98 #[.slice a ys.length c, .int .i64 m] w fun e w' => e = .returned (.bool true) ∧ w = w' := by
  have hle := nodes_le hN
  have h2 : ¬ m < ys.length := by omega
  have h1' : ¬ ys.length < 1 := by omega
  have hl : ys.length ≤ 1048576 := by omega
  have HN := Lib.hid hN
  clear hN hle h1
  go_enter Try.func98, Try.ntmps98
  go_wp2_with fail
  go_loop [18] (fun i => ∃ k : Nat, k ≤ ys.length ∧ i = .int .i64 k ∧ Hid (NodesTo m ys k)) (fun i => ys.length - (intOf i).toNat)
  case atStart => exact ⟨0, Nat.zero_le _, rfl, nodesTo_zero _ _⟩
  case round =>
    obtain ⟨k, hk, rfl, -⟩ := hrel
    by_cases hlt : k < ys.length
    · obtain ⟨b, o, y, rfl, hb, hcl, HY⟩ := hI.at_ hlt
      obtain ⟨hy0, hy1⟩ := HN.out.1 k y HY.out
      have hmem : y ∉ ys.take k := fun h => not_nodes_twice HY.out h HN.out
      have hd : decide (y ∈ ys.take k) = false := decide_eq_false hmem
      have hct := contains_take (some ⟨b, o, none⟩) c n₀ ys k y w hI hl hk
      rw [hd] at hct
      have HCT := Lib.hid hct
      clear hmem hd hct
      go_wp2_with (go_at_call 111; refine (HCT.out).mono ?_; rintro e w' ⟨rfl, rfl⟩)
      go_round
      case rel => exact ⟨k + 1, by omega, by go_num, Lib.hid ⟨fun j y _ hy => HN.out.1 j y hy, fun i j y hij _ hi hj => HN.out.2 i j y hij hi hj⟩⟩
      case measure => simp [intOf]; omega
    · obtain rfl : k = ys.length := by omega
      go_wp2_with fail
      go_ret
      exact ⟨rfl, rfl⟩

set_option maxHeartbeats 2000000 in
theorem someNodes_no (a : Option Addr) (c n₀ m : Nat) (ys : List Int) (w : World) (hI : Ints n₀ w a ys) (hc : ys.length ≤ c) (hl : ys.length ≤ 1048576) (_hm : m ≤ 9) (hN : ¬ Nodes m ys) :
    Calls Try.prog 98 #[.slice a ys.length c, .int .i64 m] w fun e w' => e = .returned (.bool false) ∧ w = w' := by
  have HN := Lib.hid hN
  clear hN
  by_cases h1 : ys.length < 1
  · go_enter Try.func98, Try.ntmps98
    go_wp2_with fail
    go_ret
    exact ⟨rfl, rfl⟩
  by_cases h2 : m < ys.length
  · go_enter Try.func98, Try.ntmps98
    go_wp2_with fail
    go_ret
    exact ⟨rfl, rfl⟩
  go_enter Try.func98, Try.ntmps98
  go_wp2_with fail
  go_loop [18] (fun i => ∃ k : Nat, k ≤ ys.length ∧ i = .int .i64 k ∧ Hid (NodesTo m ys k)) (fun i => ys.length - (intOf i).toNat)
  case atStart => exact ⟨0, Nat.zero_le _, rfl, nodesTo_zero _ _⟩
  case round =>
    obtain ⟨k, hk, rfl, HK⟩ := hrel
    by_cases hlt : k < ys.length
    · obtain ⟨b, o, y, rfl, hb, hcl, HY⟩ := hI.at_ hlt
      by_cases hy0 : y < 0
      · go_wp2_with fail
        go_ret
        exact ⟨rfl, rfl⟩
      by_cases hy1 : (m : Int) ≤ y
      · go_wp2_with fail
        go_ret
        exact ⟨rfl, rfl⟩
      have hct := contains_take (some ⟨b, o, none⟩) c n₀ ys k y w hI hl hk
      by_cases hmem : y ∈ ys.take k
      · have hd : decide (y ∈ ys.take k) = true := decide_eq_true hmem
        rw [hd] at hct
        have HCT := Lib.hid hct
        clear hmem hd hct
        go_wp2_with (go_at_call 111; refine (HCT.out).mono ?_; rintro e w' ⟨rfl, rfl⟩)
        go_ret
        exact ⟨rfl, rfl⟩
      · have hd : decide (y ∈ ys.take k) = false := decide_eq_false hmem
        rw [hd] at hct
        have HCT := Lib.hid hct
        have HM := Lib.hid hmem
        clear hmem hd hct
        go_wp2_with (go_at_call 111; refine (HCT.out).mono ?_; rintro e w' ⟨rfl, rfl⟩)
        go_round
        case rel => exact ⟨k + 1, by omega, by go_num, Lib.hid (nodesTo_succ HK.out HY.out (by omega) (by omega) HM.out)⟩
        case measure => simp [intOf]; omega
    · obtain rfl : k = ys.length := by omega
      exact absurd (nodes_all HK.out) HN.out

end Go.Proofs.Ytpcmenhchabgiaa

namespace Go.Proofs.Ytpcmenhchabgiaa
open Go.RowKit Go.Shelf Go.Deep

/-- The node told at place i. -/
def nd (ys : List Int) (i : Nat) : Nat := (ys[i]?.getD 0).toNat
theorem nd_eq {ys : List Int} {i : Nat} {y : Int} (h : ys[i]? = some y) : nd ys i = y.toNat := by simp [nd, h]
open Classical in
/-- THE GRAPH OF SOME NODES; nothing for others. -/
noncomputable def partL (xss : List (List Int)) (ys : List Int) : List (List Int) :=
  if gOk xss = true ∧ 1 ≤ ys.length ∧ Nodes xss.length ys then rowsP ys.length (fun i j => arw xss (nd ys i) (nd ys j)) else []
theorem partL_yes {xss : List (List Int)} {ys : List Int} (h : gOk xss = true) (h1 : 1 ≤ ys.length) (hN : Nodes xss.length ys) : partL xss ys = rowsP ys.length (fun i j => arw xss (nd ys i) (nd ys j)) := if_pos ⟨h, h1, hN⟩
theorem partL_no {xss : List (List Int)} {ys : List Int} (h : ¬ (gOk xss = true ∧ 1 ≤ ys.length ∧ Nodes xss.length ys)) : partL xss ys = [] := if_neg h

theorem arrowC (n₀ : Nat) (a : Option Addr) (c : Nat) (xss : List (List Int)) (w : World) (hM : Mat n₀ w a xss) (hn : n₀ ≤ w.heap.size) (hG : Good xss) (i j : Nat) (hi : i < xss.length) (hj : j < xss.length) :
    Calls Try.prog 72 #[.agg #[.slice a xss.length c], .int .i64 i, .int .i64 j] w fun e w' => e = .returned (.bool (arw xss i j)) ∧ w' = w.alloc (.cells #[.slice a xss.length c] 58) :=
  callsIn_wide.1 (arrow_in Fence.wide 0 (fun _ => trivial) rfl n₀ a c xss w hM hn hG i j hi hj)

set_option maxRecDepth 100000 in
set_option maxHeartbeats 1000000 in
theorem part1 (n₀ B B' : Nat) (a a' : Option Addr) (c c' : Nat) (xss : List (List Int)) (ys : List Int) (w : World) (hM : Mat n₀ w a xss) (hI : Ints n₀ w a' ys) (hn : n₀ ≤ w.heap.size) (hB : Boxed w B 58 (.slice a xss.length c)) (hB' : Boxed w B' 33 (.slice a' ys.length c')) (hG : Good xss) (hN : Nodes xss.length ys) (i j : Nat) (hi : i < ys.length) (hj : j < ys.length) :
    Calls Try.prog 99 #[.int .i64 i, .int .i64 j, .pointer (some ⟨B, 0, none⟩), .pointer (some ⟨B', 0, none⟩)] w (Ans (.bool (arw xss (nd ys i) (nd ys j))) w) := by
  have hle := nodes_le hN
  have hl9 := hG.2.1
  obtain ⟨b, o, y, rfl, hb, hcl, HY⟩ := hI.at_ hi
  obtain ⟨b2, o2, y2, e2, hb2, hcl2, HY2⟩ := hI.at_ hj
  cases e2
  obtain ⟨hy0, hy1⟩ := hN.1 i y HY.out
  obtain ⟨hz0, hz1⟩ := hN.1 j y2 HY2.out
  obtain ⟨p, rfl⟩ := Int.eq_ofNat_of_zero_le hy0
  obtain ⟨q, rfl⟩ := Int.eq_ofNat_of_zero_le hz0
  have ep : nd ys i = p := by rw [nd_eq HY.out]; simp
  have eq : nd ys j = q := by rw [nd_eq HY2.out]; simp
  rw [ep, eq]
  have hp : p < xss.length := by omega
  have hq : q < xss.length := by omega
  have HM := Lib.hid hM
  have HG := Lib.hid hG
  have cB := hB.cell
  have cB' := hB'.cell
  clear hM hG hB hB' hN HY HY2 hI ep eq hy0 hy1 hz0 hz1
  go_enter Try.func99, Try.ntmps99
  go_wp2_with fail
  go_still_tail 9, (by kernel_rfl)
  change wpList _ _ _ _ _ w.drew
  have hM2 : Mat n₀ w.drew a xss := HM.out
  have hn2 : n₀ ≤ w.drew.heap.size := hn
  have hb3 : Below w.heap.size w w.drew := (Below.refl _ _).drew
  have hs : w.drew.heap.size = w.heap.size := rfl
  obtain ⟨V, hV⟩ : ∃ V, w.drew = V := ⟨_, rfl⟩
  rw [hV] at hM2 hn2 hb3 hs ⊢
  clear hV cB cB' hcl hcl2
  go_wp2_with (go_at_call 72; refine (arrowC n₀ _ _ _ _ hM2 hn2 HG.out p q hp hq).mono ?_; rintro e w' ⟨rfl, rfl⟩)
  go_ret
  exact ⟨rfl, hb3.alloc (by omega) _⟩

theorem someNodes_zero (a : Option Addr) (c m : Nat) (ys : List Int) (w : World) (h1 : ys.length < 1) :
    Calls Try.prog 98 #[.slice a ys.length c, .int .i64 m] w fun e w' => e = .returned (.bool false) ∧ w = w' := by
  go_enter Try.func98, Try.ntmps98
  go_wp2_with fail
  go_ret
  exact ⟨rfl, rfl⟩

set_option maxRecDepth 100000 in
set_option maxHeartbeats 2000000 in
theorem implPart (a a' : Option Addr) (c c' : Nat) (xss : List (List Int)) (ys : List Int) (w : World) (hM : Mat w.heap.size w a xss) (hI : Ints w.heap.size w a' ys) (hc : ys.length ≤ c') (hl : ys.length ≤ 1048576) (hf : Fit xss) :
    Calls Try.prog 76 #[.slice a xss.length c, .slice a' ys.length c'] w (MadeR (partL xss ys) w) := by
  have HF := Lib.hid hf
  clear hf
  by_cases hg : gOk xss = true
  · have HG := Lib.hid (good_of hg)
    have hl9 := HG.out.2.1
    by_cases hN : 1 ≤ ys.length ∧ Nodes xss.length ys
    · rw [partL_yes hg hN.1 hN.2]
      obtain ⟨h1, hN⟩ := hN
      have hle := nodes_le hN
      have HN := Lib.hid hN
      clear hN
      go_enter Try.func76, Try.ntmps76
      go_wp2_with fail
      have bL := Boxed.new w 33 (.slice a' ys.length c')
      have hB0 : Below w.heap.size w (w.alloc (.cells #[.slice a' ys.length c'] 33)) := (Below.refl _ _).alloc (Nat.le_refl _) _
      have hs0 := hB0.size
      refine (implOk _ _ _ _ ((hM.below hB0).more hs0) HF.out).mono ?_
      rintro e w1 ⟨rfl, hB1⟩
      have bL1 : Boxed w1 w.heap.size 33 (.slice a' ys.length c') := (hB1.block _ bL.lt).trans bL
      have hB2 := hB0.trans (hB1.mono hs0)
      have hws := hB2.size
      have cL := bL1.cell
      clear hB0 hB1 hs0 bL
      have cL2 : ∀ o, (w1.alloc o).cell? ⟨w.heap.size, 0, none⟩ = some (.slice a' ys.length c') := fun o => (bL1.alloc o).cell
      go_wp2_with fail
      refine (someNodes_yes a' c' w.heap.size xss.length ys w1 (hI.below hB2) hc hl9 h1 HN.out).mono ?_
      rintro e w2 ⟨rfl, rfl⟩
      go_wp2_with fail
      have hB3 := hB2.alloc hws (.cells #[.slice a xss.length c] 58)
      have bG := Boxed.new w1 58 (.slice a xss.length c)
      have bL3 := bL1.alloc (.cells #[.slice a xss.length c] 58)
      have hM2 := hM.below hB3
      have hI2 := hI.below hB3
      have hws3 := hB3.size
      clear cL cL2 bL1 hM hI hB2
      obtain ⟨V, hV⟩ : ∃ V, w1.alloc (.cells #[.slice a xss.length c] 58) = V := ⟨_, rfl⟩
      rw [hV] at hB3 bG bL3 hM2 hI2 hws3 ⊢
      clear hV
      refine (callsIn_wide.1 (rowsBy_in Fence.wide rfl (fun _ => trivial) rfl 99 #[.pointer (some ⟨w1.heap.size, 0, none⟩), .pointer (some ⟨w.heap.size, 0, none⟩)] (fun i j => arw xss (nd ys i) (nd ys j)) ys.length (by omega) V (enters_of Try.func99 (by kernel_rfl) rfl)
        (fun W' i j hb hi hj => callsIn_wide.2 (part1 w.heap.size w1.heap.size w.heap.size a a' c c' xss ys W' (hM2.below (hb.mono hws3)) (hI2.below (hb.mono hws3)) (Nat.le_trans hws3 hb.size) ((hb.block _ bG.lt).trans bG) ((hb.block _ bL3.lt).trans bL3) HG.out HN.out i j hi hj)))).mono ?_
      rintro e w2 ⟨rfl, hB4, hO⟩
      have HB := Lib.hid (hB3.trans (hB4.mono hws3))
      have HO := Lib.hid hO
      clear hB4 hO hB3
      go_wp2
      go_ret
      refine ⟨_, _, ⟨?_, HB.out⟩, .inr ⟨V.heap.size + 1, fun i => V.heap.size + 3 + i, rfl, rfl, HO.out, by omega, fun i _ => by show w.heap.size ≤ V.heap.size + 3 + i; omega, fun i j h => by have h' : V.heap.size + 3 + i = V.heap.size + 3 + j := h; omega⟩⟩
      rw [rowsP_length]
      rfl
    · rw [partL_no (by intro h; exact hN ⟨h.2.1, h.2.2⟩)]
      by_cases h1 : ys.length < 1
      · clear hN
        go_enter Try.func76, Try.ntmps76
        go_wp2_with fail
        have bL := Boxed.new w 33 (.slice a' ys.length c')
        have hB0 : Below w.heap.size w (w.alloc (.cells #[.slice a' ys.length c'] 33)) := (Below.refl _ _).alloc (Nat.le_refl _) _
        have hs0 := hB0.size
        refine (implOk _ _ _ _ ((hM.below hB0).more hs0) HF.out).mono ?_
        rintro e w1 ⟨rfl, hB1⟩
        have bL1 : Boxed w1 w.heap.size 33 (.slice a' ys.length c') := (hB1.block _ bL.lt).trans bL
        have hB2 := hB0.trans (hB1.mono hs0)
        have hws := hB2.size
        have cL := bL1.cell
        clear hB0 hB1 hs0 bL
        go_wp2_with fail
        refine (someNodes_zero a' c' xss.length ys w1 (by omega)).mono ?_
        rintro e w2 ⟨rfl, rfl⟩
        go_wp2_with fail
        go_ret
        exact ⟨none, 0, ⟨rfl, hB2⟩, .inl ⟨rfl, rfl, rfl⟩⟩
      · have HN : Hid (¬ Nodes xss.length ys) := Lib.hid fun h => hN ⟨by omega, h⟩
        clear hN
        go_enter Try.func76, Try.ntmps76
        go_wp2_with fail
        have bL := Boxed.new w 33 (.slice a' ys.length c')
        have hB0 : Below w.heap.size w (w.alloc (.cells #[.slice a' ys.length c'] 33)) := (Below.refl _ _).alloc (Nat.le_refl _) _
        have hs0 := hB0.size
        refine (implOk _ _ _ _ ((hM.below hB0).more hs0) HF.out).mono ?_
        rintro e w1 ⟨rfl, hB1⟩
        have bL1 : Boxed w1 w.heap.size 33 (.slice a' ys.length c') := (hB1.block _ bL.lt).trans bL
        have hB2 := hB0.trans (hB1.mono hs0)
        have hws := hB2.size
        have cL := bL1.cell
        clear hB0 hB1 hs0 bL
        go_wp2_with fail
        refine (someNodes_no a' c' w.heap.size xss.length ys w1 (hI.below hB2) hc hl hl9 HN.out).mono ?_
        rintro e w2 ⟨rfl, rfl⟩
        go_wp2_with fail
        go_ret
        exact ⟨none, 0, ⟨rfl, hB2⟩, .inl ⟨rfl, rfl, rfl⟩⟩
  · have hg' : gOk xss = false := by simpa using hg
    rw [partL_no (by intro h; exact hg h.1)]
    clear hg
    go_enter Try.func76, Try.ntmps76
    go_wp2_with fail
    have bL := Boxed.new w 33 (.slice a' ys.length c')
    have hB0 : Below w.heap.size w (w.alloc (.cells #[.slice a' ys.length c'] 33)) := (Below.refl _ _).alloc (Nat.le_refl _) _
    have hs0 := hB0.size
    refine (implOk _ _ _ _ ((hM.below hB0).more hs0) HF.out).mono ?_
    rintro e w1 ⟨rfl, hB1⟩
    have bL1 : Boxed w1 w.heap.size 33 (.slice a' ys.length c') := (hB1.block _ bL.lt).trans bL
    have hB2 := hB0.trans (hB1.mono hs0)
    have hws := hB2.size
    have cL := bL1.cell
    clear hB0 hB1 hs0 bL
    go_wp2_with fail
    go_ret
    exact ⟨none, 0, ⟨rfl, hB2⟩, .inl ⟨rfl, rfl, rfl⟩⟩

end Go.Proofs.Ytpcmenhchabgiaa
