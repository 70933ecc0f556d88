/-
  Several texts in one.
  spec.PartOf: bits that are seen, rows.
  spec.PartOf, walked.
-/
import Derived.Test.YtofpjepndhpciaaZG
import Derived.Laws.BitsAllLaws
import Derived.Deep.RegionHeld3
import Derived.Deep.AppendLies
namespace Go.Proofs.Ytofpjepndhpciaa
open Go.RowKit Go.Shelf Go.Deep

theorem i64_or_nat (a b : Nat) (ha : a < 512) (hb : b < 512) : bits .or .i64 (a : Int) (b : Int) = ((a ||| b : Nat) : Int) := by
  have hx : a ||| b < 2 ^ 9 := Nat.or_lt_two_pow (by omega) (by omega)
  have e1 : (BitVec.ofInt 64 (a : Int)).toNat = a := by rw [BitVec.ofInt_natCast, BitVec.toNat_ofNat]; exact Nat.mod_eq_of_lt (by omega)
  have e2 : (BitVec.ofInt 64 (b : Int)).toNat = b := by rw [BitVec.ofInt_natCast, BitVec.toNat_ofNat]; exact Nat.mod_eq_of_lt (by omega)
  show IntKind.i64.wrap ((BitVec.ofInt 64 (a : Int) ||| BitVec.ofInt 64 (b : Int)).toNat : Int) = _
  rw [BitVec.toNat_or, e1, e2]
  simp [IntKind.wrap, IntKind.bits, IntKind.signed]
  omega

/-- THE BITS of the first k. -/
def Seen (ys : List Int) (k s : Nat) : Prop := s < 512 ∧ ∀ v : Nat, s.testBit v = true ↔ (v : Int) ∈ ys.take k
theorem seen_zero (ys : List Int) : Seen ys 0 0 := ⟨by decide, fun v => by simp⟩
theorem seen_step {ys : List Int} {k s p : Nat} (h : Seen ys k s) (hp : p < 9) (hy : ys[k]? = some (p : Int)) : Seen ys (k + 1) (s ||| 2 ^ p) := by
  refine ⟨?_, fun v => ?_⟩
  · have : (2:Nat) ^ p < 2 ^ 9 := Nat.pow_lt_pow_right (by decide) hp
    exact Nat.or_lt_two_pow (n := 9) h.1 this
  · rw [Nat.testBit_or, Nat.testBit_two_pow, List.take_add_one, hy]
    simp only [Bool.or_eq_true, decide_eq_true_eq, List.mem_append, Option.toList, List.mem_singleton, h.2 v]
    constructor
    · rintro (h | h)
      · exact .inl h
      · exact .inr (by omega)
    · rintro (h | h)
      · exact .inl h
      · exact .inr (by omega)
theorem seen_test {ys : List Int} {k s p : Nat} (h : Seen ys k s) : (s / 2 ^ p) % 2 = 1 ↔ (p : Int) ∈ ys.take k := by
  rw [← h.2 p, Nat.testBit_eq_decide_div_mod_eq, decide_eq_true_eq]

theorem wrap_pow {p : Nat} (hp : p < 9) : wrap64 ((2 : Int) ^ p) = ((2 ^ p : Nat) : Int) := by
  have h : (2:Nat) ^ p < 2 ^ 9 := Nat.pow_lt_pow_right (by decide) hp
  have e : ((2 : Int) ^ p) = ((2 ^ p : Nat) : Int) := by simp
  rw [e]
  obtain ⟨t, ht⟩ : ∃ t, 2 ^ p = t := ⟨_, rfl⟩
  rw [ht] at h ⊢
  unfold wrap64; omega
theorem seen_or {ys : List Int} {k s p : Nat} (h : Seen ys k s) (hp : p < 9) : bits .or .i64 (s : Int) (wrap64 ((2 : Int) ^ p)) = ((s ||| 2 ^ p : Nat) : Int) := by
  have : (2:Nat) ^ p < 2 ^ 9 := Nat.pow_lt_pow_right (by decide) hp
  rw [wrap_pow hp, i64_or_nat _ _ h.1 this]
theorem seen_mod {ys : List Int} {k s p : Nat} (h : Seen ys k s) : ((s : Int) / 2 ^ p).tmod 2 = if (p : Int) ∈ ys.take k then 1 else 0 := by
  have e : ((s : Int) / 2 ^ p) = ((s / 2 ^ p : Nat) : Int) := by simp
  rw [e]
  have e2 : (((s / 2 ^ p : Nat) : Int)).tmod 2 = ((s / 2 ^ p % 2 : Nat) : Int) := rfl
  rw [e2]
  by_cases hm : (p : Int) ∈ ys.take k
  · rw [if_pos hm, (seen_test h).2 hm]; rfl
  · have : s / 2 ^ p % 2 ≠ 1 := fun e => hm ((seen_test h).1 e)
    rw [if_neg hm]; omega

/-- Row i, as far as j: the numbers that are nodes. -/
def pRow (xss : List (List Int)) (ys : List Int) (i j : Nat) : List Int := ((ys.take j).filter fun v : Int => decide (0 ≤ v ∧ v < (xss.length : Int))).map fun v : Int => ent xss (nd ys i) v.toNat
theorem pRow_yes {xss : List (List Int)} {ys : List Int} {i j q : Nat} (hy : ys[j]? = some (q : Int)) (hq : q < xss.length) : pRow xss ys i (j + 1) = pRow xss ys i j ++ [ent xss (nd ys i) q] := by
  have h : decide (0 ≤ (q : Int) ∧ (q : Int) < (xss.length : Int)) = true := decide_eq_true ⟨by omega, by omega⟩
  simp only [pRow, List.take_add_one, hy, List.filter_append, List.map_append, Option.toList, List.filter_cons, h, List.filter_nil, if_true, List.map_cons, List.map_nil, Int.toNat_natCast]
theorem pRow_no {xss : List (List Int)} {ys : List Int} {i j : Nat} {y : Int} (hy : ys[j]? = some y) (hn : ¬ (0 ≤ y ∧ y < xss.length)) : pRow xss ys i (j + 1) = pRow xss ys i j := by
  have h : decide (0 ≤ y ∧ y < (xss.length : Int)) = false := decide_eq_false hn
  simp only [pRow, List.take_add_one, hy, List.filter_append, Option.toList, List.filter_cons, h, List.filter_nil, Bool.false_eq_true, if_false, List.append_nil]
theorem pRow_le (xss : List (List Int)) (ys : List Int) (i j : Nat) : (pRow xss ys i j).length ≤ j := by
  unfold pRow
  rw [List.length_map]
  exact Nat.le_trans (List.length_filter_le _ _) (by rw [List.length_take]; exact Nat.min_le_left _ _)
def pRows (xss : List (List Int)) (ys : List Int) (k : Nat) : List (List Int) := (List.range k).map fun i => pRow xss ys i ys.length
theorem pRows_succ (xss : List (List Int)) (ys : List Int) (k : Nat) : pRows xss ys (k + 1) = pRows xss ys k ++ [pRow xss ys k ys.length] := by simp [pRows, List.range_succ]
theorem pRows_length (xss : List (List Int)) (ys : List Int) (k : Nat) : (pRows xss ys k).length = k := by simp [pRows]
theorem pRows_all {xss : List (List Int)} {ys : List Int} (hG : Good xss) (hN : Nodes xss.length ys) : pRows xss ys ys.length = rowsP ys.length (fun i j => arw xss (nd ys i) (nd ys j)) := by
  unfold pRows rowsP
  refine List.map_congr_left fun i hi => ?_
  have hi' := List.mem_range.1 hi
  unfold pRow
  have hall : ∀ v ∈ ys, decide (0 ≤ v ∧ v < (xss.length : Int)) = true := fun v hv => by
    obtain ⟨j, hj, e⟩ := List.mem_iff_getElem.1 hv
    exact decide_eq_true (hN.1 j v (by rw [List.getElem?_eq_getElem hj, e]))
  rw [List.take_length, List.filter_eq_self.2 hall]
  apply List.ext_getElem?
  intro j
  rw [List.getElem?_map, List.getElem?_map]
  by_cases hj : j < ys.length
  · rw [List.getElem?_eq_getElem hj, List.getElem?_range hj]
    have hjj : ys[j]? = some ys[j] := List.getElem?_eq_getElem hj
    have hii : ys[i]? = some ys[i] := List.getElem?_eq_getElem hi'
    obtain ⟨a0, a1⟩ := hN.1 j _ hjj
    obtain ⟨b0, b1⟩ := hN.1 i _ hii
    have h := (good_iff_ent hG.1 hG.2.1 (fun i xs h => hG.len h)).1 hG (⟨nd ys i, by rw [nd_eq hii]; omega⟩, ⟨nd ys j, by rw [nd_eq hjj]; omega⟩)
    simp only [nd_eq hjj] at h
    simp only [Option.map_some, nd_eq hjj]
    unfold arw
    rcases h with e | e <;> simp [e]
  · rw [List.getElem?_eq_none (by omega), List.getElem?_eq_none (by simp; omega)]
    rfl

end Go.Proofs.Ytofpjepndhpciaa

namespace Go.Proofs.Ytofpjepndhpciaa
open Go.RowKit Go.Shelf Go.Deep

set_option maxRecDepth 100000 in
set_option maxHeartbeats 2000000 in
theorem specPart (a a' : Option Addr) (c c' : Nat) (xss : List (List Int)) (ys : List Int) (n₀ : Nat) (w : World) (hM : Mat n₀ w a xss) (hI : Ints n₀ w a' ys) (hn₀ : n₀ ≤ w.heap.size) (hl : ys.length ≤ 1048576) (hF : Fit xss) :
    Calls Try.prog 60 #[.slice a xss.length c, .slice a' ys.length c'] w (ReadM (partL xss ys) w) := by
  have HF := Lib.hid hF
  have hlf := hF.1
  clear hF
  obtain ⟨i0, hi, hz0, hz1, hz2⟩ := info_parts infoInts
  obtain ⟨i1, hj, hy0, hy1, hy2⟩ := info_parts infoInt
  by_cases hg : gOk xss = true
  · have HG := Lib.hid (good_of hg)
    have hl9 := HG.out.2.1
    have hl1 := HG.out.1
    go_enter Try.func60, Try.ntmps60
    go_wp2_with fail
    go_loopw [5, 6, 7] (fun v s i wr => ∃ (k g cap sn : Nat), k ≤ ys.length ∧ i = .int .i64 k ∧ s = .int .i64 sn ∧ v = .slice (some ⟨g, 0, none⟩) k cap ∧ Hid (Seen ys k sn) ∧ Hid (NodesTo xss.length ys k) ∧ Hid (OwnMat w.heap.size wr (.slice (some ⟨g, 0, none⟩) k cap) (pRows xss ys k)) ∧ Below w.heap.size w wr)
      (fun _ _ i _ => ys.length - (intOf i).toNat)
    case atStart => exact ⟨0, _, _, 0, Nat.zero_le _, rfl, rfl, rfl, seen_zero ys, nodesTo_zero _ _, OwnMat.start w (Nat.le_refl _), (Below.refl _ _).alloc (Nat.le_refl _) _⟩
    case round =>
      obtain ⟨k, g, cap, sn, hk, rfl, rfl, rfl, HS, HN, HO, hB⟩ := hrel
      have hMr : Mat n₀ wr a xss := hM.below (hB.mono hn₀)
      have hIr : Ints n₀ wr a' ys := hI.below (hB.mono hn₀)
      have hws := hB.size
      by_cases hlt : k < ys.length
      · obtain ⟨b, o, y, rfl, hb, hcl, HY⟩ := hIr.at_ hlt
        by_cases hr : 0 ≤ y ∧ y < xss.length
        · obtain ⟨hr0, hr1⟩ := hr
          obtain ⟨p, rfl⟩ := Int.eq_ofNat_of_zero_le hr0
          have hp : p < xss.length := by omega
          have hx : decide (0 ≤ (p : Int) ∧ (p : Int) ≤ (xss.length : Int) - 1) = true := decide_eq_true ⟨by omega, by omega⟩
          by_cases hmem : (p : Int) ∈ ys.take k
          · have hd := seen_mod (p := p) HS.out
            rw [if_pos hmem] at hd
            have HMem := Lib.hid hmem
            clear hmem
            go_wp2_with (first | (go_at_call 29; refine (specOk_any _ _ _ _ _ hMr HF.out).mono ?_; rintro e w' ⟨rfl, rfl⟩) | (go_at_call 49; refine (in_any _ _ _ _).mono ?_; rw [hx]; rintro e w' ⟨rfl, rfl⟩))
            go_ret
            rw [partL_no fun h => not_nodes_twice HY.out HMem.out h.2.2]
            exact ⟨_, _, ⟨rfl, hB.alloc hws _⟩, fun h => absurd rfl h⟩
          · have hd := seen_mod (p := p) HS.out
            rw [if_neg hmem] at hd
            have HN2 := Lib.hid (nodesTo_succ HN.out HY.out hr0 hr1 hmem)
            have hor := seen_or (p := p) HS.out (by omega)
            have HS2 := Lib.hid (seen_step HS.out (by omega) HY.out)
            obtain ⟨s2, hs2⟩ : ∃ s2, sn ||| 2 ^ p = s2 := ⟨_, rfl⟩
            rw [hs2] at hor HS2
            clear hmem hs2
            have hk1 : nd ys k = p := by rw [nd_eq HY.out]; simp
            have HK := Lib.hid hk1
            clear hk1
            obtain ⟨wo, rfl⟩ : ∃ wo : World, wo = wr := ⟨_, rfl⟩
            go_wp2_with (first | (go_at_call 29; refine (specOk_any _ _ _ _ _ hMr HF.out).mono ?_; rintro e w' ⟨rfl, rfl⟩) | (go_at_call 49; refine (in_any _ _ _ _).mono ?_; rw [hx]; rintro e w' ⟨rfl, rfl⟩))
            clear hd hor hcl
            go_loopw [8, 9] (fun v i wi => ∃ (j g' cap' L : Nat), j ≤ ys.length ∧ i = .int .i64 j ∧ v = .slice (some ⟨g', 0, none⟩) L cap' ∧ L ≤ j ∧ Hid ((pRow xss ys k j).length = L) ∧ Hid (wi.ownsRow wo.heap.size 3 1 (.slice (some ⟨g', 0, none⟩) L cap') L ((pRow xss ys k j).map (Value.int .i64))) ∧ Below wo.heap.size wo wi)
              (fun _ i _ => ys.length - (intOf i).toNat)
            case atStart => exact ⟨0, _, _, 0, Nat.zero_le _, rfl, rfl, Nat.le_refl _, Lib.hid rfl, World.ownsRow_lit (size := 1) wo #[] 0 (Nat.le_refl _) (Nat.zero_le _) rfl, (Below.refl _ _).alloc (Nat.le_refl _) _⟩
            case round =>
              obtain ⟨j, g', cap', L, hj', rfl, rfl, hL, HL, HR, hB2⟩ := hrel
              have hMi : Mat n₀ wr a xss := hMr.below (hB2.mono (Nat.le_trans hn₀ hws))
              have hIi : Ints n₀ wr (some ⟨b, o, none⟩) ys := hIr.below (hB2.mono (Nat.le_trans hn₀ hws))
              by_cases hltj : j < ys.length
              · obtain ⟨b2, o2, y2, e2, hb2, hcl2, HZ⟩ := hIi.at_ hltj
                cases e2
                by_cases hr2 : 0 ≤ y2 ∧ y2 < xss.length
                · obtain ⟨q, rfl⟩ := Int.eq_ofNat_of_zero_le hr2.1
                  have hq : q < xss.length := by omega
                  have hx2 : decide (0 ≤ (q : Int) ∧ (q : Int) ≤ (xss.length : Int) - 1) = true := decide_eq_true ⟨by omega, by omega⟩
                  clear hr2
                  go_wp2_with (go_at_call 49; refine (in_any _ _ _ _).mono ?_; rw [hx2]; rintro e w' ⟨rfl, rfl⟩)
                  obtain ⟨b3, o3, a3, c3, xs, rfl, hb3, hc3, hI3, HX⟩ := hMi.at_ hp
                  have HE := Lib.hid (HG.out.len HX.out)
                  have hqx : q < xs.length := by rw [HE.out]; exact hq
                  obtain ⟨b4, o4, v, rfl, hb4, hc4, HY4⟩ := hI3.at_ hqx
                  have HV := Lib.hid (ent_eq HX.out HY4.out)
                  obtain ⟨b5, o5, y5, e5, hb5, hcl5, HZ5⟩ := hIi.at_ hlt
                  cases e5
                  obtain rfl : (p : Int) = y5 := by have := HY.out.symm.trans HZ5.out; exact Option.some.inj this
                  have hown := HR.out
                  have hBs := hB2.size
                  have hlg := hown.lt g' (by simp [Value.ownBlock])
                  have hag : ∀ B : Nat, B < n₀ → some B ≠ (Value.slice (some ⟨g', 0, none⟩) L cap').ownBlock := fun B hB e => by
                    have e' : some B = some g' := e
                    cases e'
                    omega
                  have ag1 := hag b hb
                  have ag2 := hag b3 hb3
                  have ag3 := hag b4 hb4
                  have ik0 : (0 : Int) ≤ (k : Int) := Int.natCast_nonneg _
                  have ik1 : (k : Int) < (ys.length : Int) := by omega
                  have ij0 : (0 : Int) ≤ (j : Int) := Int.natCast_nonneg _
                  have ij1 : (j : Int) < (ys.length : Int) := by omega
                  have ip0 : (0 : Int) ≤ (p : Int) := Int.natCast_nonneg _
                  have ip1 : (p : Int) < (xss.length : Int) := by omega
                  have iq0 : (0 : Int) ≤ (q : Int) := Int.natCast_nonneg _
                  have iq1 : (q : Int) < (xs.length : Int) := by omega
                  have HRow : Hid (pRow xss ys k (j + 1) = pRow xss ys k j ++ [v]) := Lib.hid (by rw [pRow_yes HZ.out hq, HK.out, HV.out])
                  go_region_held3 (fun w' => w'.cell? ⟨b, o + k, none⟩ = some (.int .i64 p) ∧ w'.cell? ⟨b3, o3 + p, none⟩ = some (.slice (some ⟨b4, o4, none⟩) xs.length c3) ∧
                      w'.cell? ⟨b, o + j, none⟩ = some (.int .i64 q) ∧ w'.cell? ⟨b4, o4 + q, none⟩ = some (.int .i64 v))
                    (first
                      | go_keep
                      | (go_split_ands
                         refine ⟨?_, ?_, ?_, ?_⟩
                         · (rw [hgrow.cell_far _ (by simp; omega) ag1]; assumption)
                         · (rw [hgrow.cell_far _ (by simp; omega) ag2]; assumption)
                         · (rw [hgrow.cell_far _ (by simp; omega) ag1]; assumption)
                         · (rw [hgrow.cell_far _ (by simp; omega) ag3]; assumption)))
                    ((refine step_append_lies _ (by rfl) _ _ _ (by rfl) wo.heap.size 3 i1 _ 1 8 Try.underlying47 hj hy0 hy1 hy2 rfl (by omega) (.slice (some ⟨g', 0, none⟩) L cap') L ((pRow xss ys k j).map (Value.int .i64)) (by rfl) ((hown.alloc _).drew)
                        ⟨wr.heap.size, 0, none⟩ 1 1 [.int .i64 v] (by rfl) (by rfl) (World.news_of_block (cs := #[.int .i64 v]) (t := 3) (fr := (0, 0)) (heap_alloc_new wr _)) (by simp [Value.oneCell'])
                        (by omega) (by unfold maxLen; omega) (by omega) (by simp; omega) (wr.heap.size + 1) (by simp) ?_; intro gg cap2 w4 hown4 hgrow hat hlt4))
                  have hB4 : Below wo.heap.size wo w4 := ((hB2.alloc hBs _).drew).grown hgrow (by simp; omega) (fun r e => by have e' : some g' = some r := e; cases e'; exact hlg.1)
                  have HO4 := Lib.hid hown4
                  clear hown4 hgrow hat hlt4
                  go_wp2
                  go_roundw
                  case rel => exact ⟨j + 1, gg, cap2, L + 1, by omega, by go_num, rfl, by omega, Lib.hid (by rw [HRow.out, List.length_append, HL.out]; rfl), Lib.hid (by rw [HRow.out, List.map_append]; exact HO4.out), hB4⟩
                  case measure => simp [intOf]; omega
                · have hx2 : decide (0 ≤ y2 ∧ y2 ≤ (xss.length : Int) - 1) = false := decide_eq_false fun h => hr2 ⟨h.1, by omega⟩
                  have HRow := Lib.hid (pRow_no (i := k) HZ.out hr2)
                  clear hr2
                  go_wp2_with (go_at_call 49; refine (in_any _ _ _ _).mono ?_; rw [hx2]; rintro e w' ⟨rfl, rfl⟩)
                  go_roundw
                  case rel => exact ⟨j + 1, g', cap', L, by omega, by go_num, rfl, by omega, Lib.hid (by rw [HRow.out]; exact HL.out), Lib.hid (by rw [HRow.out]; exact HR.out), hB2⟩
                  case measure => simp [intOf]; omega
              · obtain rfl : j = ys.length := by omega
                have HO2 := HO.out.below hB2
                obtain ⟨vs, hown, hrows⟩ := HO2
                rw [pRows_length] at hown
                have HW := Lib.hid hrows
                clear hrows
                have hBs := hB2.size
                have hlg := hown.lt g (by simp [Value.ownBlock])
                have HR2 : Hid (wr.ownsRow w.heap.size 3 1 (.slice (some ⟨g', 0, none⟩) L cap') (pRow xss ys k ys.length).length ((pRow xss ys k ys.length).map (Value.int .i64))) := by
                  rw [HL.out]; exact Joins.ownsRow_le HR.out hws
                have hBr : Below w.heap.size w wr := hB.trans (hB2.mono hws)
                go_wp2_with (at_builtin; go_must (refine wpList_append_own _ rfl _ _ 23 rfl w.heap.size 47 i0 (.slice none 0 0) 1 24 Try.underlying23 hi hz0 hz1 hz2 rfl (by decide) _ _ _ rfl (hown.alloc _) ⟨wr.heap.size, 0, none⟩ 1 1 [.slice (some ⟨g', 0, none⟩) L cap'] rfl rfl (cell_one_new _ _ _) (by simp [Value.oneCell']) (by unfold maxLen; omega) (by omega) (by simp; omega) ?_); go_must (intro v' w4 hown' hgrow _; obtain ⟨g2, cap2, rfl⟩ := ownsRow_succ hown'); go_must (have HO4 := Lib.hid (OwnMat.appended (by rw [pRows_length]; exact hown) HW.out HR2.out (by rw [pRows_length]; exact hown') hgrow)); go_must (have hB4 : Below w.heap.size w w4 := (hBr.alloc (by omega) _).grown hgrow (by simp; omega) (fun r e => by have e' : some g = some r := e; cases e'; exact hlg.1)); clear hown' hgrow)
                go_roundw
                case rel => exact ⟨k + 1, g2, cap2, s2, by omega, by go_num, rfl, rfl, HS2, HN2, Lib.hid (by rw [pRows_succ]; exact HO4.out), hB4⟩
                case measure => simp [intOf]; omega
        · have hx : decide (0 ≤ y ∧ y ≤ (xss.length : Int) - 1) = false := decide_eq_false fun h => hr ⟨h.1, by omega⟩
          have HR := Lib.hid hr
          clear hr
          go_wp2_with (first | (go_at_call 29; refine (specOk_any _ _ _ _ _ hMr HF.out).mono ?_; rintro e w' ⟨rfl, rfl⟩) | (go_at_call 49; refine (in_any _ _ _ _).mono ?_; rw [hx]; rintro e w' ⟨rfl, rfl⟩))
          go_ret
          rw [partL_no fun h => not_nodes_range HY.out HR.out h.2.2]
          exact ⟨_, _, ⟨rfl, hB.alloc hws _⟩, fun h => absurd rfl h⟩
      · obtain rfl : k = ys.length := by omega
        go_wp2_with fail
        go_ret
        have e1 := pRows_all HG.out (nodes_all HN.out)
        have hm := HO.out
        rw [e1] at hm
        by_cases h1 : 1 ≤ ys.length
        · rw [partL_yes hg h1 (nodes_all HN.out)]
          refine ⟨some ⟨g, 0, none⟩, cap, ⟨?_, hB⟩, OwnMat.mat (by rw [rowsP_length]; exact hm)⟩
          rw [rowsP_length]
          rfl
        · rw [partL_no fun h => h1 h.2.1]
          have h0 : ys.length = 0 := by omega
          refine ⟨some ⟨g, 0, none⟩, cap, ⟨?_, hB⟩, fun h => absurd rfl h⟩
          rw [h0]
          rfl
  · have hg' : gOk xss = false := by simpa using hg
    rw [partL_no fun h => hg h.1]
    clear hg
    go_enter Try.func60, Try.ntmps60
    go_wp2_with fail
    go_loopw [5, 7] (fun v i wr => i = .int .i64 0 ∧ v = .slice (some ⟨w.heap.size, 0, none⟩) 0 0 ∧ wr = w.alloc (.cells #[] 47)) (fun _ _ _ => 0)
    case atStart => exact ⟨rfl, rfl, rfl⟩
    case round =>
      obtain ⟨rfl, rfl, rfl⟩ := hrel
      by_cases h0 : 0 < ys.length
      · go_wp2_with (go_at_call 29; refine (specOk_any _ _ _ _ _ (hM.below ((Below.refl _ w).alloc hn₀ _)) HF.out).mono ?_; rintro e w' ⟨rfl, rfl⟩)
        go_ret
        exact ⟨_, _, ⟨rfl, ((Below.refl _ w).alloc (Nat.le_refl _) _).alloc (by simp) _⟩, fun h => absurd rfl h⟩
      · go_wp2_with fail
        go_ret
        exact ⟨_, _, ⟨rfl, (Below.refl _ w).alloc (Nat.le_refl _) _⟩, fun h => absurd rfl h⟩

end Go.Proofs.Ytofpjepndhpciaa
