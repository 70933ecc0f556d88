/-
  The walk of the law of P42 (ColoursOk).
-/
import Derived.Test.YtpcmenhchabgiaaWX
import Derived.Test.YtpcmenhchabgiaaZA
import Derived.Test.YtpcmenhchabgiaaZE
import Derived.Test.YtpcmenhchabgiaaWT
import Derived.Test.YtpcmenhchabgiaaZB
import Derived.Test.YtpcmenhchabgiaaVA
import Derived.BigQuiet
namespace Go.Proofs.Ytpcmenhchabgiaa
open Go.RowKit Go.Shelf

def NE1 (v y u : Int) : Prop := v = 1 → y ≠ u
def Says (b : Bool) (P : Prop) : Prop := b = true ↔ P
theorem says {b : Bool} {P : Prop} (h : b = true ↔ P) : Says b P := h
theorem Says.i {b : Bool} {P : Prop} (h : Says b P) : b = true ↔ P := h
/-- The colours are in their range and no arrow leads between the same ones, as far as the first k rows. -/
def EOK (G : List (List Int)) (f : List Int) (i j : Nat) : Prop := arw G i j = true → f[i]? ≠ f[j]?
def COK (z : Int) (f : List Int) (i : Nat) : Prop := ∃ y, f[i]? = some y ∧ 0 ≤ y ∧ y < z
def ROK (G : List (List Int)) (z : Int) (f : List Int) (k : Nat) : Prop := ∀ i, i < k → COK z f i ∧ ∀ j, j < G.length → EOK G f i j
theorem rok_all {G : List (List Int)} {z : Int} {f : List Int} (hg : gOk G = true) (h1 : 1 ≤ z) (h9 : z ≤ 9) (hl : f.length = G.length) : colOkI G z f = true ↔ ROK G z f G.length := by
  rw [col_iff, col_map]
  have hz : ((z.toNat : Nat) : Int) = z := by omega
  constructor
  · rintro ⟨_, _, hT, h⟩ i hi
    refine ⟨?_, fun j hj ha e => ?_⟩
    · have hy : f[i]? = some f[i] := List.getElem?_eq_getElem (by omega)
      have := hT.2 i _ hy
      exact ⟨_, hy, this.1, by omega⟩
    · refine h i j hi hj ha ?_
      unfold nd; rw [e]
  · intro h
    refine ⟨hg, ⟨h1, h9⟩, ⟨hl, fun j y hy => ?_⟩, fun i j hi hj ha e => ?_⟩
    · have hj : j < G.length := by rw [← hl]; exact (List.getElem?_eq_some_iff.1 hy).1
      obtain ⟨⟨x, hx, h0, h2⟩, _⟩ := h j hj
      rw [hx] at hy
      cases hy
      exact ⟨h0, by omega⟩
    · obtain ⟨⟨x, hx, hx0, _⟩, he⟩ := h i hi
      obtain ⟨⟨y, hy, hy0, _⟩, _⟩ := h j hj
      refine he j hj ha ?_
      rw [hx, hy]
      unfold nd at e
      rw [hx, hy] at e
      simp at e
      congr 1
      omega
theorem rok_succ {G : List (List Int)} {z : Int} {f : List Int} {k : Nat} : ROK G z f (k + 1) ↔ ROK G z f k ∧ COK z f k ∧ ∀ j, j < G.length → EOK G f k j := by
  constructor
  · intro h
    exact ⟨fun i hi => h i (by omega), (h k (by omega)).1, (h k (by omega)).2⟩
  · rintro ⟨h1, h2, h3⟩ i hi
    by_cases e : i = k
    · subst e; exact ⟨h2, h3⟩
    · exact h1 i (by omega)
theorem eok_succ {G : List (List Int)} {f : List Int} {k j : Nat} : (∀ i, i < j + 1 → EOK G f k i) ↔ (∀ i, i < j → EOK G f k i) ∧ EOK G f k j := by
  constructor
  · intro h
    exact ⟨fun i hi => h i (by omega), h j (by omega)⟩
  · rintro ⟨h1, h2⟩ i hi
    by_cases e : i = j
    · subst e; exact h2
    · exact h1 i (by omega)

set_option maxRecDepth 100000 in
set_option maxHeartbeats 8000000 in
theorem coloursOk_any (a : Option Addr) (n c : Nat) (w : World) (hc : n ≤ c) (hl : n ≤ 9223372036854775807) (hy : Bytes w.heap.size w a n) :
    Calls Try.prog 4 #[.slice a n c] w (Ans (.bool true) w) := by
  by_cases hbign : 1048576 < n
  · go_enter Try.func4, Try.ntmps4
    go_wp2_with fail
    go_ret
    exact ⟨rfl, Below.refl _ _⟩
  go_enter Try.func4, Try.ntmps4
  go_wp2_with fail
  refine (drawColoursOk_any a n c w (by omega) hc hy).mono ?_
  rintro e w1 ⟨aG, cG, G, z, aF, cF, f, rfl, ⟨hF, x1, hx4⟩, ⟨z0, z4⟩, ⟨hlf, f1⟩, hB⟩
  have HB1 := Lib.hid hB
  have HF := Lib.hid hF
  have HLF := Lib.hid hlf
  obtain ⟨t, HT⟩ : ∃ t, Hid (colOkI G z f = t) := ⟨_, rfl⟩
  obtain ⟨m, HM⟩ : ∃ m, Hid (gOk G = m) := ⟨_, rfl⟩
  have htt : (t != t) = false := by simp
  clear hB hF hy
  go_wp2_with fail
  refine (implCol _ _ _ _ _ _ _ _ x1 f1 HF.out HLF.out).mono ?_
  rw [HT.out]
  rintro e w2 ⟨rfl, hB2⟩
  have hz2 := hB2.size
  have x2 := (x1.below hB2).more hz2
  have f2 := (f1.below hB2).more hz2
  have HB2 := Lib.hid (HB1.out.trans (hB2.mono HB1.out.size))
  clear hB2 hz2 x1 f1
  go_wp2_with fail
  refine (specCol _ _ _ _ _ _ _ _ _ x2 f2 (Nat.le_refl _) HF.out HLF.out).mono ?_
  rw [HT.out]
  rintro e w3 ⟨rfl, hB3⟩
  have hz3 := hB3.size
  have x3 := (x2.below hB3).more hz3
  have f3 := (f2.below hB3).more hz3
  have HB3 := Lib.hid (HB2.out.trans (hB3.mono HB2.out.size))
  clear hB3 hz3 x2 f2
  go_wp2_with fail
  refine (specOk_any _ _ _ _ _ x3 HF.out).mono ?_
  rw [HM.out]
  rintro e wq ⟨rfl, rfl⟩
  have hz9 : ¬ (9 : Int) < z := by omega
  cases m with
  | false =>
    obtain rfl : t = false := by
      rw [← HT.out, Bool.eq_false_iff]
      intro h
      have := (col_iff.1 h).1
      rw [HM.out] at this; cases this
    clear x3 f3
    go_wp2_with fail
    refine (alive_any _).mono ?_
    rintro e w4 ⟨rfl, hB4⟩
    have hz4 := hB4.size
    have HB4 := Lib.hid (HB3.out.trans (hB4.mono HB3.out.size))
    clear hB4 hz4 
    go_wp2_with fail
    go_ret
    exact ⟨rfl, HB4.out⟩
  | true =>
    by_cases hz1 : z < 1
    · obtain rfl : t = false := by
        rw [← HT.out, Bool.eq_false_iff]
        intro h
        have := (col_iff.1 h).2.1
        omega
      clear x3 f3
      go_wp2_with fail
      refine (alive_any _).mono ?_
      rintro e w4 ⟨rfl, hB4⟩
      have hz4 := hB4.size
      have HB4 := Lib.hid (HB3.out.trans (hB4.mono HB3.out.size))
      clear hB4 hz4 
      go_wp2_with fail
      go_ret
      exact ⟨rfl, HB4.out⟩
    · by_cases hlen : f.length = G.length
      · have hlen2 : ((f.length : Int) != (G.length : Int)) = false := by simp; omega
        have hfle : f.length ≤ G.length := by omega
        have hgle : G.length ≤ f.length := by omega
        have HALL : Hid (t = true ↔ ROK G z f G.length) := Lib.hid (by rw [← HT.out]; exact rok_all HM.out (by omega) (by omega) hlen)
        have HGD := Lib.hid (good_of HM.out)
        have HBW : Hid (t = true → colOkI (bwL G) z f = true) := Lib.hid fun h => by
          obtain ⟨_, h2, h3⟩ := col_iff.1 (HT.out.trans h)
          exact col_iff.2 ⟨gOk_true (bw_good HM.out), h2, (col_bw HM.out).2 h3⟩
        clear htt hlen
        go_wp2_with fail
        go_loopw [7, 8] (fun u i wr => ∃ (k : Nat) (b : Bool), k ≤ G.length ∧ i = .int .i64 k ∧ u = .bool b ∧ Hid (Says b (ROK G z f k)) ∧ Below w3.heap.size w3 wr) (fun _ i _ => G.length - (intOf i).toNat)
        case atStart => exact ⟨0, true, Nat.zero_le _, rfl, rfl, Lib.hid (says ⟨fun _ i hi => absurd hi (Nat.not_lt_zero _), fun _ => rfl⟩), Below.refl _ _⟩
        case round =>
          obtain ⟨k, b, hk, rfl, rfl, HB, hB⟩ := hrel
          by_cases hlt : k < G.length
          · obtain ⟨b3, o3, y, rfl, hb3, hc3, HY⟩ := (f3.below hB).at_ (show k < f.length by omega)
            have hkf : k < f.length := by omega
            obtain ⟨c, HC⟩ : ∃ c : Bool, Hid (Says c (ROK G z f k ∧ COK z f k)) ∧ (b = true → 0 ≤ y → y < z → c = true) ∧ (b = false → c = false) ∧ (y < 0 → c = false) ∧ (z ≤ y → c = false) := by
              have hcy : COK z f k ↔ 0 ≤ y ∧ y < z := ⟨fun ⟨x, hx, h⟩ => by rw [HY.out] at hx; cases hx; exact h, fun h => ⟨y, HY.out, h⟩⟩
              refine ⟨b && decide (0 ≤ y ∧ y < z), ?_, fun h1 h2 h3 => ?_, fun h => ?_, fun h => ?_, fun h => ?_⟩
              · unfold Hid Says; rw [Bool.and_eq_true, decide_eq_true_eq, HB.out.i, hcy]
              · rw [h1, decide_eq_true ⟨h2, h3⟩]; rfl
              · rw [h]; rfl
              · rw [decide_eq_false (by omega)]; simp
              · rw [decide_eq_false (by omega)]; simp
            obtain ⟨HCI, hct, hc1, hc2, hc4⟩ := HC
            have INNER : Hid True := trivial
            cases b with
            | false =>
              obtain rfl : c = false := hc1 rfl
              clear hct hc1 hc2 hc4
              go_wp2_with fail
              go_loopw [7, 9] (fun u i wr => ∃ (j : Nat) (d : Bool), j ≤ G.length ∧ i = .int .i64 j ∧ u = .bool d ∧ Hid (Says d ((ROK G z f k ∧ COK z f k) ∧ ∀ i, i < j → EOK G f k i)) ∧ Below w3.heap.size w3 wr) (fun _ i _ => G.length - (intOf i).toNat)
              case atStart => exact ⟨0, false, Nat.zero_le _, rfl, rfl, Lib.hid (says ⟨fun h => ⟨HCI.out.i.1 h, fun i hi => absurd hi (Nat.not_lt_zero _)⟩, fun h => HCI.out.i.2 h.1⟩), hB⟩
              case round =>
                clear hB hc3
                obtain ⟨j, d, hj, rfl, rfl, HD, hB⟩ := hrel
                by_cases hlj : j < G.length
                · obtain ⟨b1, o1, a1, c1, xs, rfl, hb1, hq1, hI1, HX1⟩ := (x3.below hB).at_ hlt
                  have HE1 := Lib.hid (HGD.out.len HX1.out)
                  have hjx : j < xs.length := by rw [HE1.out]; exact hlj
                  obtain ⟨b2, o2, v, rfl, hb2, hq2, HV⟩ := hI1.at_ hjx
                  have hjf : j < f.length := by omega
                  obtain ⟨b5, o5, y5, e5, _, hq5, HY5⟩ := (f3.below hB).at_ hkf
                  obtain ⟨b6, o6, u, e6, _, hq6, HU⟩ := (f3.below hB).at_ hjf
                  cases e5
                  cases e6
                  obtain rfl : y5 = y := by have := HY5.out; rw [HY.out] at this; exact (Option.some.inj this).symm
                  have hv01 : v = 0 ∨ v = 1 := (HGD.out.2.2 xs (List.mem_of_getElem? HX1.out)).2 v (List.mem_of_getElem? HV.out)
                  have HST : Hid ((∀ i, i < j + 1 → EOK G f k i) ↔ (∀ i, i < j → EOK G f k i) ∧ NE1 v y5 u) := Lib.hid (by
                    rw [eok_succ]
                    have : EOK G f k j ↔ NE1 v y5 u := by
                      unfold EOK arw NE1
                      rw [ent_eq HX1.out HV.out, HY.out, HU.out]
                      simp
                    rw [this])
                  clear hI1
                  cases d with
                  | false =>
                    go_wp2_with fail
                    go_quiet (fail)
                    go_wp2_with fail
                    go_roundw
                    case rel => exact ⟨j + 1, false, by omega, by go_num, rfl, Lib.hid (says ⟨fun h => (by cases h), fun h => HD.out.i.2 ⟨h.1, (HST.out.1 h.2).1⟩⟩), below_drewN hB _⟩
                    case measure => simp [intOf]; omega
                  | true =>
                    rcases hv01 with rfl | rfl
                    · go_wp2_with fail
                      go_quiet (fail)
                      go_wp2_with fail
                      go_roundw
                      case rel => exact ⟨j + 1, true, by omega, by go_num, rfl, Lib.hid (says ⟨fun _ => ⟨(HD.out.i.1 rfl).1, HST.out.2 ⟨(HD.out.i.1 rfl).2, fun h => (by cases h)⟩⟩, fun _ => rfl⟩), below_drewN hB _⟩
                      case measure => simp [intOf]; omega
                    · by_cases hyu : y5 = u
                      · subst hyu
                        go_wp2_with fail
                        go_quiet (fail)
                        go_wp2_with fail
                        go_roundw
                        case rel => exact ⟨j + 1, false, by omega, by go_num, rfl, Lib.hid (says ⟨fun h => (by cases h), fun h => absurd rfl ((HST.out.1 h.2).2 rfl)⟩), below_drewN hB _⟩
                        case measure => simp [intOf]; omega
                      · have hne : (y5 != u) = true := by simp; exact hyu
                        go_wp2_with fail
                        go_quiet (fail)
                        go_wp2_with fail
                        go_roundw
                        case rel => exact ⟨j + 1, true, by omega, by go_num, by simp, Lib.hid (says ⟨fun _ => ⟨(HD.out.i.1 rfl).1, HST.out.2 ⟨(HD.out.i.1 rfl).2, fun _ => hyu⟩⟩, fun _ => rfl⟩), below_drewN hB _⟩
                        case measure => simp [intOf]; omega
                · obtain rfl : j = G.length := by omega
                  go_wp2_with fail
                  go_roundw
                  case rel => exact ⟨k + 1, d, by omega, by go_num, rfl, Lib.hid (says (HD.out.i.trans (by rw [rok_succ, and_assoc]))), hB⟩
                  case measure => simp [intOf]; omega
            | true =>
              by_cases hy0 : y < 0
              · obtain rfl : c = false := hc2 hy0
                clear hct hc1 hc2 hc4
                go_wp2_with fail
                go_loopw [7, 9] (fun u i wr => ∃ (j : Nat) (d : Bool), j ≤ G.length ∧ i = .int .i64 j ∧ u = .bool d ∧ Hid (Says d ((ROK G z f k ∧ COK z f k) ∧ ∀ i, i < j → EOK G f k i)) ∧ Below w3.heap.size w3 wr) (fun _ i _ => G.length - (intOf i).toNat)
                case atStart => exact ⟨0, false, Nat.zero_le _, rfl, rfl, Lib.hid (says ⟨fun h => ⟨HCI.out.i.1 h, fun i hi => absurd hi (Nat.not_lt_zero _)⟩, fun h => HCI.out.i.2 h.1⟩), hB⟩
                case round =>
                  clear hB hc3
                  obtain ⟨j, d, hj, rfl, rfl, HD, hB⟩ := hrel
                  by_cases hlj : j < G.length
                  · obtain ⟨b1, o1, a1, c1, xs, rfl, hb1, hq1, hI1, HX1⟩ := (x3.below hB).at_ hlt
                    have HE1 := Lib.hid (HGD.out.len HX1.out)
                    have hjx : j < xs.length := by rw [HE1.out]; exact hlj
                    obtain ⟨b2, o2, v, rfl, hb2, hq2, HV⟩ := hI1.at_ hjx
                    have hjf : j < f.length := by omega
                    obtain ⟨b5, o5, y5, e5, _, hq5, HY5⟩ := (f3.below hB).at_ hkf
                    obtain ⟨b6, o6, u, e6, _, hq6, HU⟩ := (f3.below hB).at_ hjf
                    cases e5
                    cases e6
                    obtain rfl : y5 = y := by have := HY5.out; rw [HY.out] at this; exact (Option.some.inj this).symm
                    have hv01 : v = 0 ∨ v = 1 := (HGD.out.2.2 xs (List.mem_of_getElem? HX1.out)).2 v (List.mem_of_getElem? HV.out)
                    have HST : Hid ((∀ i, i < j + 1 → EOK G f k i) ↔ (∀ i, i < j → EOK G f k i) ∧ NE1 v y5 u) := Lib.hid (by
                      rw [eok_succ]
                      have : EOK G f k j ↔ NE1 v y5 u := by
                        unfold EOK arw NE1
                        rw [ent_eq HX1.out HV.out, HY.out, HU.out]
                        simp
                      rw [this])
                    clear hI1
                    cases d with
                    | false =>
                      go_wp2_with fail
                      go_quiet (fail)
                      go_wp2_with fail
                      go_roundw
                      case rel => exact ⟨j + 1, false, by omega, by go_num, rfl, Lib.hid (says ⟨fun h => (by cases h), fun h => HD.out.i.2 ⟨h.1, (HST.out.1 h.2).1⟩⟩), below_drewN hB _⟩
                      case measure => simp [intOf]; omega
                    | true =>
                      rcases hv01 with rfl | rfl
                      · go_wp2_with fail
                        go_quiet (fail)
                        go_wp2_with fail
                        go_roundw
                        case rel => exact ⟨j + 1, true, by omega, by go_num, rfl, Lib.hid (says ⟨fun _ => ⟨(HD.out.i.1 rfl).1, HST.out.2 ⟨(HD.out.i.1 rfl).2, fun h => (by cases h)⟩⟩, fun _ => rfl⟩), below_drewN hB _⟩
                        case measure => simp [intOf]; omega
                      · by_cases hyu : y5 = u
                        · subst hyu
                          go_wp2_with fail
                          go_quiet (fail)
                          go_wp2_with fail
                          go_roundw
                          case rel => exact ⟨j + 1, false, by omega, by go_num, rfl, Lib.hid (says ⟨fun h => (by cases h), fun h => absurd rfl ((HST.out.1 h.2).2 rfl)⟩), below_drewN hB _⟩
                          case measure => simp [intOf]; omega
                        · have hne : (y5 != u) = true := by simp; exact hyu
                          go_wp2_with fail
                          go_quiet (fail)
                          go_wp2_with fail
                          go_roundw
                          case rel => exact ⟨j + 1, true, by omega, by go_num, by simp, Lib.hid (says ⟨fun _ => ⟨(HD.out.i.1 rfl).1, HST.out.2 ⟨(HD.out.i.1 rfl).2, fun _ => hyu⟩⟩, fun _ => rfl⟩), below_drewN hB _⟩
                          case measure => simp [intOf]; omega
                  · obtain rfl : j = G.length := by omega
                    go_wp2_with fail
                    go_roundw
                    case rel => exact ⟨k + 1, d, by omega, by go_num, rfl, Lib.hid (says (HD.out.i.trans (by rw [rok_succ, and_assoc]))), hB⟩
                    case measure => simp [intOf]; omega
              · by_cases hyz : y < z
                · obtain rfl : c = true := hct rfl (by omega) hyz
                  have hy00 : 0 ≤ y := by omega
                  clear hct hc1 hc2 hc4
                  go_wp2_with fail
                  go_loopw [7, 9] (fun u i wr => ∃ (j : Nat) (d : Bool), j ≤ G.length ∧ i = .int .i64 j ∧ u = .bool d ∧ Hid (Says d ((ROK G z f k ∧ COK z f k) ∧ ∀ i, i < j → EOK G f k i)) ∧ Below w3.heap.size w3 wr) (fun _ i _ => G.length - (intOf i).toNat)
                  case atStart => exact ⟨0, true, Nat.zero_le _, rfl, rfl, Lib.hid (says ⟨fun h => ⟨HCI.out.i.1 h, fun i hi => absurd hi (Nat.not_lt_zero _)⟩, fun h => HCI.out.i.2 h.1⟩), hB⟩
                  case round =>
                    clear hB hc3
                    obtain ⟨j, d, hj, rfl, rfl, HD, hB⟩ := hrel
                    by_cases hlj : j < G.length
                    · obtain ⟨b1, o1, a1, c1, xs, rfl, hb1, hq1, hI1, HX1⟩ := (x3.below hB).at_ hlt
                      have HE1 := Lib.hid (HGD.out.len HX1.out)
                      have hjx : j < xs.length := by rw [HE1.out]; exact hlj
                      obtain ⟨b2, o2, v, rfl, hb2, hq2, HV⟩ := hI1.at_ hjx
                      have hjf : j < f.length := by omega
                      obtain ⟨b5, o5, y5, e5, _, hq5, HY5⟩ := (f3.below hB).at_ hkf
                      obtain ⟨b6, o6, u, e6, _, hq6, HU⟩ := (f3.below hB).at_ hjf
                      cases e5
                      cases e6
                      obtain rfl : y5 = y := by have := HY5.out; rw [HY.out] at this; exact (Option.some.inj this).symm
                      have hv01 : v = 0 ∨ v = 1 := (HGD.out.2.2 xs (List.mem_of_getElem? HX1.out)).2 v (List.mem_of_getElem? HV.out)
                      have HST : Hid ((∀ i, i < j + 1 → EOK G f k i) ↔ (∀ i, i < j → EOK G f k i) ∧ NE1 v y5 u) := Lib.hid (by
                        rw [eok_succ]
                        have : EOK G f k j ↔ NE1 v y5 u := by
                          unfold EOK arw NE1
                          rw [ent_eq HX1.out HV.out, HY.out, HU.out]
                          simp
                        rw [this])
                      clear hI1
                      cases d with
                      | false =>
                        go_wp2_with fail
                        go_quiet (fail)
                        go_wp2_with fail
                        go_roundw
                        case rel => exact ⟨j + 1, false, by omega, by go_num, rfl, Lib.hid (says ⟨fun h => (by cases h), fun h => HD.out.i.2 ⟨h.1, (HST.out.1 h.2).1⟩⟩), below_drewN hB _⟩
                        case measure => simp [intOf]; omega
                      | true =>
                        rcases hv01 with rfl | rfl
                        · go_wp2_with fail
                          go_quiet (fail)
                          go_wp2_with fail
                          go_roundw
                          case rel => exact ⟨j + 1, true, by omega, by go_num, rfl, Lib.hid (says ⟨fun _ => ⟨(HD.out.i.1 rfl).1, HST.out.2 ⟨(HD.out.i.1 rfl).2, fun h => (by cases h)⟩⟩, fun _ => rfl⟩), below_drewN hB _⟩
                          case measure => simp [intOf]; omega
                        · by_cases hyu : y5 = u
                          · subst hyu
                            go_wp2_with fail
                            go_quiet (fail)
                            go_wp2_with fail
                            go_roundw
                            case rel => exact ⟨j + 1, false, by omega, by go_num, rfl, Lib.hid (says ⟨fun h => (by cases h), fun h => absurd rfl ((HST.out.1 h.2).2 rfl)⟩), below_drewN hB _⟩
                            case measure => simp [intOf]; omega
                          · have hne : (y5 != u) = true := by simp; exact hyu
                            go_wp2_with fail
                            go_quiet (fail)
                            go_wp2_with fail
                            go_roundw
                            case rel => exact ⟨j + 1, true, by omega, by go_num, by simp, Lib.hid (says ⟨fun _ => ⟨(HD.out.i.1 rfl).1, HST.out.2 ⟨(HD.out.i.1 rfl).2, fun _ => hyu⟩⟩, fun _ => rfl⟩), below_drewN hB _⟩
                            case measure => simp [intOf]; omega
                    · obtain rfl : j = G.length := by omega
                      go_wp2_with fail
                      go_roundw
                      case rel => exact ⟨k + 1, d, by omega, by go_num, rfl, Lib.hid (says (HD.out.i.trans (by rw [rok_succ, and_assoc]))), hB⟩
                      case measure => simp [intOf]; omega
                · obtain rfl : c = false := hc4 (by omega)
                  have hy00 : 0 ≤ y := by omega
                  clear hct hc1 hc2 hc4
                  go_wp2_with fail
                  go_loopw [7, 9] (fun u i wr => ∃ (j : Nat) (d : Bool), j ≤ G.length ∧ i = .int .i64 j ∧ u = .bool d ∧ Hid (Says d ((ROK G z f k ∧ COK z f k) ∧ ∀ i, i < j → EOK G f k i)) ∧ Below w3.heap.size w3 wr) (fun _ i _ => G.length - (intOf i).toNat)
                  case atStart => exact ⟨0, false, Nat.zero_le _, rfl, rfl, Lib.hid (says ⟨fun h => ⟨HCI.out.i.1 h, fun i hi => absurd hi (Nat.not_lt_zero _)⟩, fun h => HCI.out.i.2 h.1⟩), hB⟩
                  case round =>
                    clear hB hc3
                    obtain ⟨j, d, hj, rfl, rfl, HD, hB⟩ := hrel
                    by_cases hlj : j < G.length
                    · obtain ⟨b1, o1, a1, c1, xs, rfl, hb1, hq1, hI1, HX1⟩ := (x3.below hB).at_ hlt
                      have HE1 := Lib.hid (HGD.out.len HX1.out)
                      have hjx : j < xs.length := by rw [HE1.out]; exact hlj
                      obtain ⟨b2, o2, v, rfl, hb2, hq2, HV⟩ := hI1.at_ hjx
                      have hjf : j < f.length := by omega
                      obtain ⟨b5, o5, y5, e5, _, hq5, HY5⟩ := (f3.below hB).at_ hkf
                      obtain ⟨b6, o6, u, e6, _, hq6, HU⟩ := (f3.below hB).at_ hjf
                      cases e5
                      cases e6
                      obtain rfl : y5 = y := by have := HY5.out; rw [HY.out] at this; exact (Option.some.inj this).symm
                      have hv01 : v = 0 ∨ v = 1 := (HGD.out.2.2 xs (List.mem_of_getElem? HX1.out)).2 v (List.mem_of_getElem? HV.out)
                      have HST : Hid ((∀ i, i < j + 1 → EOK G f k i) ↔ (∀ i, i < j → EOK G f k i) ∧ NE1 v y5 u) := Lib.hid (by
                        rw [eok_succ]
                        have : EOK G f k j ↔ NE1 v y5 u := by
                          unfold EOK arw NE1
                          rw [ent_eq HX1.out HV.out, HY.out, HU.out]
                          simp
                        rw [this])
                      clear hI1
                      cases d with
                      | false =>
                        go_wp2_with fail
                        go_quiet (fail)
                        go_wp2_with fail
                        go_roundw
                        case rel => exact ⟨j + 1, false, by omega, by go_num, rfl, Lib.hid (says ⟨fun h => (by cases h), fun h => HD.out.i.2 ⟨h.1, (HST.out.1 h.2).1⟩⟩), below_drewN hB _⟩
                        case measure => simp [intOf]; omega
                      | true =>
                        rcases hv01 with rfl | rfl
                        · go_wp2_with fail
                          go_quiet (fail)
                          go_wp2_with fail
                          go_roundw
                          case rel => exact ⟨j + 1, true, by omega, by go_num, rfl, Lib.hid (says ⟨fun _ => ⟨(HD.out.i.1 rfl).1, HST.out.2 ⟨(HD.out.i.1 rfl).2, fun h => (by cases h)⟩⟩, fun _ => rfl⟩), below_drewN hB _⟩
                          case measure => simp [intOf]; omega
                        · by_cases hyu : y5 = u
                          · subst hyu
                            go_wp2_with fail
                            go_quiet (fail)
                            go_wp2_with fail
                            go_roundw
                            case rel => exact ⟨j + 1, false, by omega, by go_num, rfl, Lib.hid (says ⟨fun h => (by cases h), fun h => absurd rfl ((HST.out.1 h.2).2 rfl)⟩), below_drewN hB _⟩
                            case measure => simp [intOf]; omega
                          · have hne : (y5 != u) = true := by simp; exact hyu
                            go_wp2_with fail
                            go_quiet (fail)
                            go_wp2_with fail
                            go_roundw
                            case rel => exact ⟨j + 1, true, by omega, by go_num, by simp, Lib.hid (says ⟨fun _ => ⟨(HD.out.i.1 rfl).1, HST.out.2 ⟨(HD.out.i.1 rfl).2, fun _ => hyu⟩⟩, fun _ => rfl⟩), below_drewN hB _⟩
                            case measure => simp [intOf]; omega
                    · obtain rfl : j = G.length := by omega
                      go_wp2_with fail
                      go_roundw
                      case rel => exact ⟨k + 1, d, by omega, by go_num, rfl, Lib.hid (says (HD.out.i.trans (by rw [rok_succ, and_assoc]))), hB⟩
                      case measure => simp [intOf]; omega
          · obtain rfl : k = G.length := by omega
            have htb : t = b := by
              rw [Bool.eq_iff_iff, HALL.out, HB.out.i]
            subst htb
            have hws := hB.size
            have x4' := (x3.below hB).more hws
            have f4' := (f3.below hB).more hws
            have HB4 := Lib.hid (HB3.out.trans (hB.mono HB3.out.size))
            obtain ⟨w4, rfl⟩ : ∃ w4 : World, w4 = wr := ⟨_, rfl⟩
            clear x3 f3 hB hws HB hlt
            have x4 := x4'
            have f4 := f4'
            clear x4' f4'
            cases t with
            | false =>
              clear x4 f4
              go_wp2_with fail
              go_ret
              exact ⟨rfl, HB4.out⟩
            | true =>
              have HCB := Lib.hid (HBW.out rfl)
              obtain ⟨P, HP, HPF⟩ : ∃ P, Hid (bwL G = P) ∧ Hid (Fit P) := ⟨_, rfl, bw_fit⟩
              rw [HP.out] at HCB
              go_wp2_with fail
              refine (implBw _ _ _ _ x4 HF.out).mono ?_
              rw [HP.out]
              rintro e w5 ⟨b5, c5, ⟨rfl, hB5⟩, hO5⟩
              have y5 := hO5.mat.mat
              clear hO5
              have hz5 := hB5.size
              have x5 := (x4.below hB5).more hz5
              have f5 := (f4.below hB5).more hz5
              have HB5 := Lib.hid (HB4.out.trans (hB5.mono HB4.out.size))
              clear hB5 hz5 x4 f4
              go_wp2_with fail
              refine (implCol _ _ _ _ _ _ _ _ y5 f5 HPF.out HLF.out).mono ?_
              rw [HCB.out]
              rintro e w6 ⟨rfl, hB6⟩
              have hz6 := hB6.size
              have x6 := (x5.below hB6).more hz6
              have f6 := (f5.below hB6).more hz6
              have y6 := (y5.below hB6).more hz6
              have HB6 := Lib.hid (HB5.out.trans (hB6.mono HB5.out.size))
              clear hB6 hz6 x5 f5 y5
              clear x6 f6 y6
              go_wp2_with fail
              go_ret
              exact ⟨rfl, HB6.out⟩
      · obtain rfl : t = false := by
          rw [← HT.out, Bool.eq_false_iff]
          intro h
          exact hlen (col_map.1 (col_iff.1 h).2.2).1.1
        have hlen2 : ((f.length : Int) != (G.length : Int)) = true := by simp; omega
        clear x3 f3
        go_wp2_with fail
        refine (alive_any _).mono ?_
        rintro e w4 ⟨rfl, hB4⟩
        have hz4 := hB4.size
        have HB4 := Lib.hid (HB3.out.trans (hB4.mono HB3.out.size))
        clear hB4 hz4 
        go_wp2_with fail
        go_ret
        exact ⟨rfl, HB4.out⟩

end Go.Proofs.Ytpcmenhchabgiaa
