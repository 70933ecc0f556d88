/-
  The model's GraphText.
-/
import Derived.Test.YtnehbpihljbjdabDoorS1
import Derived.Test.YtnehbpihljbjdabDoorZE
namespace Go.Proofs.YtnehbpihljbjdabDoor
open Go.RowKit Go.Shelf

/-- What stands behind the text s once the arrows of node k to the nodes below m are told. -/
def rowB (G : List (List Int)) (k : Nat) (s : ByteArray) : Nat → ByteArray
  | 0 => s
  | m + 1 => if arw G k m = true then rowB G k s m ++ digB m else rowB G k s m
theorem rowB_yes {G : List (List Int)} {k m : Nat} {s : ByteArray} (h : arw G k m = true) : rowB G k s (m + 1) = rowB G k s m ++ digB m := by
  conv => lhs; unfold rowB
  exact if_pos h
theorem rowB_no {G : List (List Int)} {k m : Nat} {s : ByteArray} (h : arw G k m = false) : rowB G k s (m + 1) = rowB G k s m := by
  conv => lhs; unfold rowB
  exact if_neg (by rw [h]; decide)
/-- The text of the nodes below k. -/
def textB (G : List (List Int)) : Nat → ByteArray
  | 0 => ⟨#[]⟩
  | k + 1 => rowB G k (if 0 < k then textB G k ++ ⟨#[47]⟩ else textB G k) G.length
def gTextB (G : List (List Int)) : ByteArray := if gOk G = true then textB G G.length else ⟨#[]⟩

set_option maxRecDepth 100000 in
set_option maxHeartbeats 2000000 in
theorem specText (a : Option Addr) (c : Nat) (xss : List (List Int)) (n₀ : Nat) (w : World) (hM : Mat n₀ w a xss) (hn : n₀ ≤ w.heap.size) (hF : Fit xss) :
    Calls Tryd.prog 8 #[.slice a xss.length c] w (Ans (.string (gTextB xss)) w) := by
  have HF := Lib.hid hF
  have hlx := hF.1
  clear hF
  by_cases hg : gOk xss = true
  · have HG := Lib.hid (good_of hg)
    have hl9 := HG.out.2.1
    have hl1 := HG.out.1
    obtain ⟨z, HZ⟩ : ∃ z, Hid (gTextB xss = z) := ⟨_, rfl⟩
    have HZ2 : Hid (textB xss xss.length = z) := Lib.hid (by rw [← HZ.out]; unfold gTextB; rw [if_pos hg])
    rw [HZ.out]
    go_enter Tryd.func8, Tryd.ntmps8
    go_wp2_with fail
    go_loopw [3, 4] (fun s i wr => ∃ (k : Nat) (b : ByteArray), k ≤ xss.length ∧ i = .int .i64 k ∧ s = .string b ∧ b.size ≤ 20 * k ∧ Hid (b = textB xss k) ∧ Below w.heap.size w wr) (fun _ i _ => xss.length - (intOf i).toNat)
    case atStart => exact ⟨0, _, Nat.zero_le _, rfl, rfl, Nat.le_refl _, Lib.hid rfl, Below.refl _ _⟩
    case round =>
      obtain ⟨k, b, hk, rfl, rfl, hbs, HB, hBw⟩ := hrel
      by_cases hlt : k < xss.length
      · have hMr := (hM.below (hBw.mono hn))
        obtain ⟨b0, o, r, d, xs, rfl, hb0, hc, hI, HX⟩ := hMr.at_ hlt
        have HE := Lib.hid (HG.out.len HX.out)
        have hwr := hBw.size
        go_wp2_with fail
        refine (specOk_any _ _ _ _ _ hMr HF.out).mono ?_
        rw [hg]
        rintro e wq ⟨rfl, rfl⟩
        obtain ⟨s0, HS0⟩ : ∃ s0, Hid (s0 = if 0 < k then textB xss k ++ ⟨#[47]⟩ else textB xss k) := ⟨_, Lib.hid rfl⟩
        have HT0 : Hid (rowB xss k s0 xss.length = textB xss (k + 1)) := Lib.hid (by rw [HS0.out]; rfl)
        have h01 : k = 0 ∨ 0 < k := by omega
        rcases h01 with h0 | h0
        · have HS1 : Hid (b = s0) := Lib.hid (by rw [HS0.out, if_neg (by omega), HB.out])
          have hbs0 : b.size ≤ 20 * k + 1 := by omega
          have hk0 : ¬ (0 < (k : Int)) := by omega
          clear HS0 HB hbs h0
          go_wp2_with fail
          clear hk0
          generalize decide (0 < k) = bb
          go_loopw [3, 5] (fun s j wt => ∃ (m : Nat) (t : ByteArray), m ≤ xss.length ∧ j = .int .i64 m ∧ s = .string t ∧ t.size ≤ 20 * k + 1 + m ∧ Hid (t = rowB xss k s0 m) ∧ Below w.heap.size w wt) (fun _ j _ => xss.length - (intOf j).toNat)
          case atStart => exact ⟨0, _, Nat.zero_le _, rfl, rfl, hbs0, HS1, hBw⟩
          case round =>
            obtain ⟨m, t, hm, rfl, rfl, hts, HT, hBt⟩ := hrel
            clear hc hI hMr hb0 hbs0 HS1
            have hwt := hBt.size
            by_cases hltm : m < xss.length
            · obtain ⟨b1, o1, r1, d1, xs1, e1, hb1, hc1, hI1, HX1⟩ := (hM.below (hBt.mono hn)).at_ hlt
              cases e1
              have HE1 := Lib.hid (HG.out.len HX1.out)
              obtain ⟨b2, o2, v, rfl, hb2, hc2, HV⟩ := hI1.at_ (k := m) (by rw [HE1.out]; exact hltm)
              have HU := Lib.hid (ent_eq HX1.out HV.out)
              have hmx : m < xs1.length := by rw [HE1.out]; exact hltm
              have hxl : xs1.length ≤ 9 := by rw [HE1.out]; exact hl9
              by_cases hv : v = 1
              · have HT2 : Hid (t ++ digB m = rowB xss k s0 (m + 1)) := Lib.hid (by rw [HT.out]; exact (rowB_yes (by unfold arw; rw [HU.out, hv]; rfl)).symm)
                have hdz : (digB m).size = 1 := rfl
                have hts2 : (t ++ digB m).size ≤ 20 * k + 1 + (m + 1) := by rw [ByteArray.size_append, hdz]; omega
                have hts1 : t.size ≤ 300 := by omega
                have hvb : (v == 1) = true := by simp [hv]
                subst hv
                go_wp2_with fail
                refine (number_any m (by omega) _).mono ?_
                rintro e w5 ⟨rfl, hB5⟩
                have hB6 : Below w.heap.size w w5 := hBt.trans (hB5.mono hwt)
                clear hB5
                go_wp2_with fail
                generalize t ++ digB m = t2 at hts2 HT2 ⊢
                go_roundw
                case rel => exact ⟨m + 1, t2, by omega, by go_num, rfl, hts2, HT2, hB6⟩
                case measure => simp [intOf]; omega
              · have HT2 : Hid (t = rowB xss k s0 (m + 1)) := Lib.hid (by rw [HT.out]; exact (rowB_no (by unfold arw; rw [HU.out]; simpa using hv)).symm)
                have hvb : (v == 1) = false := by simpa using hv
                go_wp2_with fail
                go_roundw
                case rel => exact ⟨m + 1, t, by omega, by go_num, rfl, by omega, HT2, hBt⟩
                case measure => simp [intOf]; omega
            · obtain rfl : m = xss.length := by omega
              go_wp2_with fail
              go_roundw
              case rel => exact ⟨k + 1, t, by omega, by go_num, rfl, by omega, Lib.hid (by rw [HT.out, HT0.out]), hBt⟩
              case measure => simp [intOf]; omega
        · have HS1 : Hid (b ++ ⟨#[47]⟩ = s0) := Lib.hid (by rw [HS0.out, if_pos h0, HB.out])
          have hsl : (ByteArray.mk #[47]).size = 1 := rfl
          have hbs0 : (b ++ (⟨#[47]⟩ : ByteArray)).size ≤ 20 * k + 1 := by rw [ByteArray.size_append, hsl]; omega
          have hbs1 : b.size ≤ 180 := by omega
          have hbs2 : b.size + 1 ≤ 181 := by omega
          clear HS0 HB hbs
          go_wp2_with fail
          go_loopw [3, 5] (fun s j wt => ∃ (m : Nat) (t : ByteArray), m ≤ xss.length ∧ j = .int .i64 m ∧ s = .string t ∧ t.size ≤ 20 * k + 1 + m ∧ Hid (t = rowB xss k s0 m) ∧ Below w.heap.size w wt) (fun _ j _ => xss.length - (intOf j).toNat)
          case atStart => exact ⟨0, _, Nat.zero_le _, rfl, rfl, hbs0, HS1, hBw⟩
          case round =>
            obtain ⟨m, t, hm, rfl, rfl, hts, HT, hBt⟩ := hrel
            clear hc hI hMr hb0 hbs0 HS1
            have hwt := hBt.size
            by_cases hltm : m < xss.length
            · obtain ⟨b1, o1, r1, d1, xs1, e1, hb1, hc1, hI1, HX1⟩ := (hM.below (hBt.mono hn)).at_ hlt
              cases e1
              have HE1 := Lib.hid (HG.out.len HX1.out)
              obtain ⟨b2, o2, v, rfl, hb2, hc2, HV⟩ := hI1.at_ (k := m) (by rw [HE1.out]; exact hltm)
              have HU := Lib.hid (ent_eq HX1.out HV.out)
              have hmx : m < xs1.length := by rw [HE1.out]; exact hltm
              have hxl : xs1.length ≤ 9 := by rw [HE1.out]; exact hl9
              by_cases hv : v = 1
              · have HT2 : Hid (t ++ digB m = rowB xss k s0 (m + 1)) := Lib.hid (by rw [HT.out]; exact (rowB_yes (by unfold arw; rw [HU.out, hv]; rfl)).symm)
                have hdz : (digB m).size = 1 := rfl
                have hts2 : (t ++ digB m).size ≤ 20 * k + 1 + (m + 1) := by rw [ByteArray.size_append, hdz]; omega
                have hts1 : t.size ≤ 300 := by omega
                have hvb : (v == 1) = true := by simp [hv]
                subst hv
                go_wp2_with fail
                refine (number_any m (by omega) _).mono ?_
                rintro e w5 ⟨rfl, hB5⟩
                have hB6 : Below w.heap.size w w5 := hBt.trans (hB5.mono hwt)
                clear hB5
                go_wp2_with fail
                generalize t ++ digB m = t2 at hts2 HT2 ⊢
                go_roundw
                case rel => exact ⟨m + 1, t2, by omega, by go_num, rfl, hts2, HT2, hB6⟩
                case measure => simp [intOf]; omega
              · have HT2 : Hid (t = rowB xss k s0 (m + 1)) := Lib.hid (by rw [HT.out]; exact (rowB_no (by unfold arw; rw [HU.out]; simpa using hv)).symm)
                have hvb : (v == 1) = false := by simpa using hv
                go_wp2_with fail
                go_roundw
                case rel => exact ⟨m + 1, t, by omega, by go_num, rfl, by omega, HT2, hBt⟩
                case measure => simp [intOf]; omega
            · obtain rfl : m = xss.length := by omega
              go_wp2_with fail
              go_roundw
              case rel => exact ⟨k + 1, t, by omega, by go_num, rfl, by omega, Lib.hid (by rw [HT.out, HT0.out]), hBt⟩
              case measure => simp [intOf]; omega
      · obtain rfl : k = xss.length := by omega
        go_wp2_with fail
        go_ret
        exact ⟨by rw [HB.out, HZ2.out]; rfl, hBw⟩
  · have hn' : gOk xss = false := by simpa using hg
    have HZ2 : Hid (gTextB xss = ⟨#[]⟩) := Lib.hid (by unfold gTextB; rw [if_neg hg])
    rw [HZ2.out]
    go_enter Tryd.func8, Tryd.ntmps8
    go_wp2_with fail
    go_loopw [3, 4] (fun s i wr => i = .int .i64 0 ∧ s = .string ⟨#[]⟩ ∧ wr = w) (fun _ i _ => 0)
    case atStart => exact ⟨rfl, rfl, rfl⟩
    case round =>
      obtain ⟨rfl, rfl, rfl⟩ := hrel
      by_cases h0 : 0 < xss.length
      · go_wp2_with fail
        refine (specOk_any _ _ _ _ _ hM HF.out).mono ?_
        rw [hn']
        rintro e wq ⟨rfl, rfl⟩
        go_wp2_with fail
        go_ret
        exact ⟨rfl, Below.refl _ _⟩
      · go_wp2_with fail
        go_ret
        exact ⟨rfl, Below.refl _ _⟩

end Go.Proofs.YtnehbpihljbjdabDoor
