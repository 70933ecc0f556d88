/-
  Several texts in one.
  sameRows of rows that are not the same.
  Sets of nodes as bits: pure facts for spec.OnePartOk.
  spec.OnePartOk, walked.
  spec.CoverOk, walked.
  spec.SheetsOf, walked (spec.OnePartOk by its contract).
  spec.SheetsOf with spec.OnePartOk's own contract.
  spec.WalkOk, walked.
-/
import Derived.Test.YtldkgkpiceamhaaZQ
import Derived.Deep.RegionHeld3
import Derived.Test.YtldkgkpiceamhaaXA
import Derived.Test.YtldkgkpiceamhaaZA
import Derived.Test.YtldkgkpiceamhaaZN
import Derived.BigQuiet
namespace Go.Proofs.Ytldkgkpiceamhaa
open Go.RowKit Go.Shelf

set_option maxHeartbeats 400000 in
theorem sameS_unlike (a a' : Option Addr) (c c' : Nat) (xs ys : List Int) (n₀ : Nat) (w : World) (hI : Ints n₀ w a xs) (hI' : Ints n₀ w a' ys) (hl : xs.length ≤ 1048576) (hne : xs ≠ ys) :
    Calls Try.prog 28 #[.slice a xs.length c, .slice a' ys.length c'] w (Still (.bool false) w) := by
  by_cases he : ys.length = xs.length
  · have := sameS_diff a a' c c' xs ys n₀ w hI hI' hl he hne
    rwa [← he] at this ⊢
  · have hn : ((xs.length : Int) != (ys.length : Int)) = true := by rw [bne_iff_ne]; omega
    clear he hne
    go_enter Try.func28, Try.ntmps28
    go_wp2
    go_ret
    exact ⟨rfl, 0, rfl⟩
set_option maxHeartbeats 1000000 in
theorem sameSS_unlike (a a' : Option Addr) (c c' : Nat) (xss yss : List (List Int)) (n₀ : Nat) (w : World) (hM : Mat n₀ w a xss) (hM' : Mat n₀ w a' yss) (hF : Fit xss) (hF' : Fit yss) (hne : xss ≠ yss) :
    Calls Try.prog 35 #[.slice a xss.length c, .slice a' yss.length c'] w (Still (.bool false) w) := by
  have HF := Lib.hid hF
  have HF' := Lib.hid hF'
  have HN := Lib.hid hne
  have hl := hF.1
  have hl' := hF'.1
  clear hF hF' hne
  by_cases he : yss.length = xss.length
  · obtain ⟨m, hm⟩ : ∃ m, yss.length = m := ⟨_, rfl⟩
    have HY := Lib.hid hm
    have HX : Hid (xss.length = m) := Lib.hid (by rw [← he]; exact hm)
    have hml : m ≤ 1048576 := by omega
    rw [HX.out, HY.out]
    clear he hl hl' hm
    go_enter Try.func35, Try.ntmps35
    go_wp2
    go_loopw [5] (fun i wr => ∃ (k n : Nat), k ≤ m ∧ i = .int .i64 k ∧ wr = w.drewN n ∧ Hid (∀ j, j < k → xss[j]? = yss[j]?)) (fun i _ => m - (intOf i).toNat)
    case atStart => exact ⟨0, 0, Nat.zero_le _, rfl, rfl, Lib.hid fun j hj => absurd hj (Nat.not_lt_zero _)⟩
    case round =>
      obtain ⟨k, n, hk, rfl, rfl, HK⟩ := hrel
      by_cases hlt : k < m
      · obtain ⟨b, o, d, e, xs, rfl, hb, hc, hI, HXX⟩ := hM.at_ (show k < xss.length by rw [HX.out]; exact hlt)
        obtain ⟨b', o', d', e', ys, rfl, hb', hc', hI', HYY⟩ := hM'.at_ (show k < yss.length by rw [HY.out]; exact hlt)
        have hx1 := HF.out.at_ HXX.out
        by_cases e9 : xs = ys
        · subst e9
          have HK2 : Hid (∀ j, j < k + 1 → xss[j]? = yss[j]?) := Lib.hid fun j hj => by
            by_cases e : j = k
            · subst e; rw [HXX.out, HYY.out]
            · exact HK.out j (by omega)
          go_wp2
          go_quiet ((go_at_call 28; exact Calls_quiet_add (sameS_same d d' e e' xs n₀ _ (hI.drewN _) (hI'.drewN _) hx1)))
          go_wp2
          go_roundw
          case rel => exact ⟨k + 1, _, by omega, by go_num, rfl, HK2⟩
          case measure => simp [intOf]; omega
        · have HNE := Lib.hid e9
          clear e9
          go_wp2
          go_quiet ((go_at_call 28; exact Calls_quiet_add (sameS_unlike d d' e e' xs ys n₀ _ (hI.drewN _) (hI'.drewN _) hx1 HNE.out)))
          go_wp2
          go_ret
          exact ⟨rfl, _, drewN_two _ _ _⟩
      · exfalso
        refine HN.out (List.ext_getElem? fun j => ?_)
        by_cases hj : j < m
        · exact HK.out j (by omega)
        · rw [List.getElem?_eq_none (by rw [HX.out]; omega), List.getElem?_eq_none (by rw [HY.out]; omega)]
  · have hn : ((xss.length : Int) != (yss.length : Int)) = true := by rw [bne_iff_ne]; omega
    clear he
    go_enter Try.func35, Try.ntmps35
    go_wp2
    go_ret
    exact ⟨rfl, 0, rfl⟩

end Go.Proofs.Ytldkgkpiceamhaa

namespace Go.Proofs.Ytldkgkpiceamhaa
open Go.RowKit Go.Shelf Go.Deep

def bitA (s i : Nat) : Bool := s / 2 ^ i % 2 == 1
def setA (s j : Nat) : Nat := if bitA s j = true then s else s + 2 ^ j
set_option maxRecDepth 100000 in
theorem setA_bits : ∀ j, j < 9 → ∀ s, s < 512 → setA s j < 512 ∧ ∀ i, i < 9 → bitA (setA s j) i = (i == j || bitA s i) := by decide +kernel
set_option maxRecDepth 100000 in
theorem allA : ∀ n, n ≤ 9 → ∀ s, s < 512 → (∀ i, i < 9 → n ≤ i → bitA s i = false) → (s = 2 ^ n - 1 ↔ ∀ i, i < n → bitA s i = true) := by decide +kernel
/-- What is known of the bits in round t, before the pair k, j. -/
structure SeenSt (n : Nat) (A : Nat → Nat → Bool) (t k j s : Nat) : Prop where
  lt : s < 512
  out : ∀ i, i < 9 → n ≤ i → bitA s i = false
  sound : ∀ S : Nat → Bool, S 0 = true → Shut n A S → ∀ i, i < n → bitA s i = true → S i = true
  old : ∀ i, i < n → seenN n A t i = true → bitA s i = true
  new : ∀ a b, a < n → b < n → (a < k ∨ (a = k ∧ b < j)) → A a b = true → seenN n A t a = true → bitA s b = true
theorem seen_start (n : Nat) (A : Nat → Nat → Bool) (h1 : 1 ≤ n) : SeenSt n A 0 0 0 1 := by
  have h0 : ∀ i, i < 9 → bitA 1 i = (i == 0) := by decide
  refine ⟨by decide, fun i hi h => ?_, fun S hS _ i hi hb => ?_, fun i _ hs => ?_, fun a b ha hb h => ?_⟩
  · rw [h0 i hi]; simp; omega
  · have hi9 : i < 9 ∨ 9 ≤ i := by omega
    rcases hi9 with hi9 | hi9
    · rw [h0 i hi9] at hb
      simp only [beq_iff_eq] at hb
      subst hb; exact hS
    · exfalso
      have : 1 / 2 ^ i = 0 := Nat.div_eq_of_lt (Nat.one_lt_two_pow (by omega))
      unfold bitA at hb
      rw [this] at hb
      cases hb
  · simp only [seenN, beq_iff_eq] at hs
    subst hs; rfl
  · omega
theorem seen_skip {n : Nat} {A : Nat → Nat → Bool} {t k j s : Nat} (h : SeenSt n A t k j s) (hn : A k j = false ∨ bitA s k = false) (hk : k < n) : SeenSt n A t k (j + 1) s := by
  refine ⟨h.lt, h.out, h.sound, h.old, fun a b ha hb hab hA hs => ?_⟩
  by_cases e : a = k ∧ b = j
  · obtain ⟨rfl, rfl⟩ := e
    rcases hn with hn | hn
    · rw [hn] at hA; cases hA
    · rw [h.old a hk hs] at hn; cases hn
  · exact h.new a b ha hb (by omega) hA hs
theorem seen_set {n : Nat} {A : Nat → Nat → Bool} {t k j s : Nat} (h : SeenSt n A t k j s) (h9 : n ≤ 9) (hk : k < n) (hj : j < n) (hA : A k j = true) (hb : bitA s k = true) : SeenSt n A t k (j + 1) (setA s j) := by
  obtain ⟨h1, h2⟩ := setA_bits j (by omega) s h.lt
  have mono : ∀ i, i < n → bitA s i = true → bitA (setA s j) i = true := fun i hi hs => by rw [h2 i (by omega), hs, Bool.or_true]
  refine ⟨h1, fun i hi hni => ?_, fun S hS hc i hi hb2 => ?_, fun i hi hs => mono i hi (h.old i hi hs), fun a b ha hb2 hab hA2 hs => ?_⟩
  · rw [h2 i hi, h.out i hi hni, Bool.or_false, beq_eq_false_iff_ne]; omega
  · rw [h2 i (by omega), Bool.or_eq_true, beq_iff_eq] at hb2
    rcases hb2 with rfl | hb2
    · exact hc k i hk hi hA (h.sound S hS hc k hk hb)
    · exact h.sound S hS hc i hi hb2
  · by_cases e : b = j
    · subst e
      rw [h2 b (by omega)]; simp
    · exact mono b hb2 (h.new a b ha hb2 (by omega) hA2 hs)
theorem seen_row {n : Nat} {A : Nat → Nat → Bool} {t k s : Nat} (h : SeenSt n A t k n s) : SeenSt n A t (k + 1) 0 s :=
  ⟨h.lt, h.out, h.sound, h.old, fun a b ha hb hab hA hs => h.new a b ha hb (by omega) hA hs⟩
theorem seen_round {n : Nat} {A : Nat → Nat → Bool} {t s : Nat} (h : SeenSt n A t n 0 s) : SeenSt n A (t + 1) 0 0 s := by
  refine ⟨h.lt, h.out, h.sound, fun i hi hs => ?_, fun a b ha hb hab => by omega⟩
  simp only [seenN, Bool.or_eq_true, List.any_eq_true, Bool.and_eq_true] at hs
  rcases hs with hs | ⟨j, hj, hs, ha⟩
  · exact h.old i hi hs
  · have hjn : j < n := by simpa using hj
    exact h.new j i hjn hi (.inl hjn) ha hs
theorem seen_end {n : Nat} {A : Nat → Nat → Bool} {s : Nat} (h1 : 1 ≤ n) (h9 : n ≤ 9) (h : SeenSt n A n 0 0 s) : s = 2 ^ n - 1 ↔ OneP n A := by
  rw [allA n h9 s h.lt h.out]
  constructor
  · intro ha S hS hc i hi
    exact h.sound S hS hc i hi (ha i hi)
  · intro hp i hi
    exact h.old i hi ((oneP_iff h1).1 hp i hi)

end Go.Proofs.Ytldkgkpiceamhaa

namespace Go.Proofs.Ytldkgkpiceamhaa
open Go.RowKit Go.Shelf Go.Deep

theorem bit_int (s k : Nat) : Int.tmod ((s : Int) / (2 : Int) ^ k) 2 = ((s / 2 ^ k % 2 : Nat) : Int) := by
  have : ((s : Int) / (2 : Int) ^ k) = ((s / 2 ^ k : Nat) : Int) := by simp
  rw [this]; rfl
theorem or_set : ∀ j : Nat, j < 9 → ∀ s : Nat, s < 512 → bits .or .i64 (s : Int) (wrap64 ((2 : Int) ^ j)) = ((setA s j : Nat) : Int) := by decide +kernel
theorem pow_less : ∀ n : Nat, n < 10 → wrap64 (wrap64 ((2 : Int) ^ n) - 1) = ((2 ^ n - 1 : Nat) : Int) := by decide +kernel
set_option maxRecDepth 100000 in
set_option maxHeartbeats 8000000 in
theorem specOne (a : Option Addr) (c : Nat) (G : List (List Int)) (n₀ : Nat) (w : World) (hM : Mat n₀ w a G) (hF : Fit G) :
    Calls Try.prog 71 #[.slice a G.length c] w (Still (.bool (oneI G)) w) := by
  have hlG := hF.1
  obtain ⟨m, HM⟩ : ∃ m, Hid (gOk G = m) := ⟨_, rfl⟩
  have HOK := Lib.hid (specOk_any a c G n₀ w hM hF)
  rw [HM.out] at HOK
  clear hF
  cases m with
  | false =>
    rw [one_no HM.out]
    go_enter Try.func71, Try.ntmps71
    go_wp2_with fail
    refine HOK.out.mono ?_
    rintro e w2 ⟨rfl, rfl⟩
    go_wp2_with fail
    go_ret
    exact ⟨rfl, 0, rfl⟩
  | true =>
    have HGD := Lib.hid (good_of HM.out)
    have hG1 := HGD.out.1
    have hG9 := HGD.out.2.1
    obtain ⟨z, HZ⟩ : ∃ z, Hid (oneI G = z) := ⟨_, rfl⟩
    rw [HZ.out]
    have HEND : Hid (∀ s, SeenSt G.length (bwP G) G.length 0 0 s → (z = true ↔ s = 2 ^ G.length - 1)) := Lib.hid fun s hs => by
      rw [seen_end hG1 hG9 hs, ← HZ.out, one_iff]
      exact ⟨fun h => h.2, fun h => ⟨HM.out, h⟩⟩
    have HST := Lib.hid (seen_start G.length (bwP G) hG1)
    go_enter Try.func71, Try.ntmps71
    go_wp2_with fail
    refine HOK.out.mono ?_
    rintro e w2 ⟨rfl, rfl⟩
    go_wp2_with fail
    go_loopw [3, 4] (fun v i wr => ∃ t s n : Nat, t ≤ G.length ∧ i = .int .i64 t ∧ v = .int .i64 s ∧ wr = w.drewN n ∧ Hid (SeenSt G.length (bwP G) t 0 0 s)) (fun _ i _ => G.length - (intOf i).toNat)
    case atStart => exact ⟨0, 1, 0, Nat.zero_le _, rfl, rfl, rfl, HST⟩
    case round =>
      obtain ⟨t, s, n, ht, rfl, rfl, rfl, HS⟩ := hrel
      by_cases htl : t < G.length
      · go_wp2_with fail
        go_loopw [3, 5] (fun v i wr => ∃ k s n : Nat, k ≤ G.length ∧ i = .int .i64 k ∧ v = .int .i64 s ∧ wr = w.drewN n ∧ Hid (SeenSt G.length (bwP G) t k 0 s)) (fun _ i _ => G.length - (intOf i).toNat)
        case atStart => exact ⟨0, s, n, Nat.zero_le _, rfl, rfl, rfl, HS⟩
        case round =>
          clear HS
          obtain ⟨k, s, n, hk, rfl, rfl, rfl, HS⟩ := hrel
          by_cases hlt : k < G.length
          · go_wp2_with fail
            go_loopw [3, 6] (fun v i wr => ∃ j s n : Nat, j ≤ G.length ∧ i = .int .i64 j ∧ v = .int .i64 s ∧ wr = w.drewN n ∧ Hid (SeenSt G.length (bwP G) t k j s)) (fun _ i _ => G.length - (intOf i).toNat)
            case atStart => exact ⟨0, s, n, Nat.zero_le _, rfl, rfl, rfl, HS⟩
            case round =>
              clear HS
              obtain ⟨j, s, n, hj, rfl, rfl, rfl, HS⟩ := hrel
              by_cases hlj : j < G.length
              · obtain ⟨b1, o1, a4, c4, xs, e1, hb1, hd1, hI1, HX1⟩ := hM.at_ hlt
                obtain ⟨b2, o2, a5, c5, ys, e2, hb2, hd2, hI2, HX2⟩ := hM.at_ hlj
                subst e1
                cases e2
                have hjx : j < xs.length := by rw [HGD.out.len HX1.out]; exact hlj
                have hky : k < ys.length := by rw [HGD.out.len HX2.out]; exact hlt
                obtain ⟨b6, o6, v1, rfl, hb6, hd6, HV1⟩ := hI1.at_ hjx
                obtain ⟨b7, o7, v2, rfl, hb7, hd7, HV2⟩ := hI2.at_ hky
                have h1 : v1 = 0 ∨ v1 = 1 := (HGD.out.2.2 xs (List.mem_of_getElem? HX1.out)).2 v1 (List.mem_of_getElem? HV1.out)
                have h2 : v2 = 0 ∨ v2 = 1 := (HGD.out.2.2 ys (List.mem_of_getElem? HX2.out)).2 v2 (List.mem_of_getElem? HV2.out)
                have hA : bwP G k j = (v1 == 1 || v2 == 1) := by unfold bwP arw; rw [ent_eq HX1.out HV1.out, ent_eq HX2.out HV2.out]
                have hs512 := HS.out.lt
                clear hI1 hI2
                by_cases hp : v1 = 0 ∧ v2 = 0
                · obtain ⟨rfl, rfl⟩ := hp
                  have HS2 := Lib.hid (seen_skip HS.out (.inl hA) hlt)
                  clear hA h1 h2
                  go_wp2_with fail
                  go_quiet (fail)
                  go_wp2_with fail
                  go_roundw
                  case rel => exact ⟨j + 1, s, _, by omega, by go_num, rfl, by first | rfl | exact drewN_two _ _ _, HS2⟩
                  case measure => simp [intOf]; omega
                · have hA2 : bwP G k j = true := by
                    rw [hA]
                    rcases h1 with rfl | rfl <;> rcases h2 with rfl | rfl <;> first | rfl | exact absurd ⟨rfl, rfl⟩ hp
                  have hgt : (0 : Int) < v1 + v2 := by omega
                  have hv1 : 0 ≤ v1 ∧ v1 ≤ 1 := by omega
                  have hv2 : 0 ≤ v2 ∧ v2 ≤ 1 := by omega
                  obtain ⟨hv10, hv11⟩ := hv1
                  obtain ⟨hv20, hv21⟩ := hv2
                  have hk64 : (k : Int) ≤ 64 := by omega
                  have hj64 : (j : Int) ≤ 64 := by omega
                  clear hA h1 h2 hp
                  cases hb : bitA s k with
                  | false =>
                    have hbz : s / 2 ^ k % 2 = 0 := by
                      unfold bitA at hb
                      have := Nat.mod_lt (s / 2 ^ k) (show 2 > 0 by omega)
                      simp at hb
                      omega
                    have hbj : Int.tmod ((s : Int) / (2 : Int) ^ k) 2 = 0 := by rw [bit_int, hbz]; rfl
                    have HS2 := Lib.hid (seen_skip HS.out (.inr hb) hlt)
                    clear hb hbz
                    go_wp2_with fail
                    go_quiet (fail)
                    go_wp2_with fail
                    go_roundw
                    case rel => exact ⟨j + 1, s, _, by omega, by go_num, rfl, by first | rfl | exact drewN_two _ _ _, HS2⟩
                    case measure => simp [intOf]; omega
                  | true =>
                    have hbz : s / 2 ^ k % 2 = 1 := by
                      unfold bitA at hb
                      simpa using hb
                    have hbj : Int.tmod ((s : Int) / (2 : Int) ^ k) 2 = 1 := by rw [bit_int, hbz]; rfl
                    have HS2 := Lib.hid (seen_set HS.out hG9 hlt hlj hA2 hb)
                    obtain ⟨s2, hs2⟩ : ∃ s2, setA s j = s2 := ⟨_, rfl⟩
                    rw [hs2] at HS2
                    have HOR := Lib.hid (or_set j (by omega) s hs512)
                    rw [hs2] at HOR
                    clear hb hbz
                    go_wp2_with fail
                    go_quiet (fail)
                    go_wp2_with fail
                    go_roundw
                    case rel => exact ⟨j + 1, s2, _, by omega, by go_num, by rw [HOR.out], by first | rfl | exact drewN_two _ _ _, HS2⟩
                    case measure => simp [intOf]; omega
              · obtain rfl : j = G.length := by omega
                go_wp2_with fail
                go_roundw
                case rel => exact ⟨k + 1, s, n, by omega, by go_num, rfl, rfl, Lib.hid (seen_row HS.out)⟩
                case measure => simp [intOf]; omega
          · obtain rfl : k = G.length := by omega
            go_wp2_with fail
            go_roundw
            case rel => exact ⟨t + 1, s, n, by omega, by go_num, rfl, rfl, Lib.hid (seen_round HS.out)⟩
            case measure => simp [intOf]; omega
      · obtain rfl : t = G.length := by omega
        have hzs := HEND.out s HS.out
        have HPW := Lib.hid (pow_less G.length (by omega))
        have HZS := Lib.hid hzs
        clear hzs
        go_wp2_with fail
        go_ret
        exact ⟨ret_bool (by rw [HPW.out, Bool.eq_iff_iff, beq_iff_eq, Int.natCast_inj, HZS.out]), n, rfl⟩

end Go.Proofs.Ytldkgkpiceamhaa

namespace Go.Proofs.Ytldkgkpiceamhaa
open Go.RowKit Go.Shelf Go.Deep

def outJ (G : List (List Int)) (f : List Int) (k y j : Nat) : Nat := sumN j fun i => bN (nd f i == y && arw G k i)
def inJ (G : List (List Int)) (f : List Int) (k y j : Nat) : Nat := sumN j fun i => bN (nd f i == y && arw G i k)
theorem outJ_no {G : List (List Int)} {f : List Int} {k y j : Nat} (h : nd f j ≠ y) : outJ G f k y (j + 1) = outJ G f k y j ∧ inJ G f k y (j + 1) = inJ G f k y j := by
  have e : (nd f j == y) = false := by simp; exact h
  unfold outJ inJ
  simp only [sumN]
  rw [e]; exact ⟨rfl, rfl⟩
theorem outJ_yes {G : List (List Int)} {f : List Int} {k y j : Nat} (h : nd f j = y) : outJ G f k y (j + 1) = outJ G f k y j + bN (arw G k j) ∧ inJ G f k y (j + 1) = inJ G f k y j + bN (arw G j k) := by
  have e : (nd f j == y) = true := by simp; exact h
  unfold outJ inJ
  simp only [sumN]
  rw [e]; exact ⟨rfl, rfl⟩
theorem outJ_le (G : List (List Int)) (f : List Int) (k y : Nat) : ∀ j, outJ G f k y j ≤ j ∧ inJ G f k y j ≤ j
  | 0 => ⟨Nat.le_refl _, Nat.le_refl _⟩
  | j + 1 => by
    have ih := outJ_le G f k y j
    by_cases h : nd f j = y
    · rw [(outJ_yes h).1, (outJ_yes h).2]
      have h1 := bN_le1 (arw G k j)
      have h2 := bN_le1 (arw G j k)
      omega
    · rw [(outJ_no h).1, (outJ_no h).2]; omega
def CovTo (G H : List (List Int)) (f : List Int) (k y : Nat) : Prop := ∀ x, x < y → outN G f k x = bN (arw H (nd f k) x) ∧ inN G f k x = bN (arw H x (nd f k))
def CovRows (G H : List (List Int)) (f : List Int) (k : Nat) : Prop := ∀ i, i < k → CovTo G H f i H.length
theorem covTo_succ {G H : List (List Int)} {f : List Int} {k y : Nat} (h : CovTo G H f k y) (h1 : outN G f k y = bN (arw H (nd f k) y)) (h2 : inN G f k y = bN (arw H y (nd f k))) : CovTo G H f k (y + 1) := fun x hx => by
  by_cases e : x = y
  · subst e; exact ⟨h1, h2⟩
  · exact h x (by omega)
theorem covRows_succ {G H : List (List Int)} {f : List Int} {k : Nat} (h : CovRows G H f k) (h1 : CovTo G H f k H.length) : CovRows G H f (k + 1) := fun i hi => by
  by_cases e : i = k
  · subst e; exact h1
  · exact h i (by omega)
theorem ent_bN {xss : List (List Int)} (hG : Good xss) {i j : Nat} (hi : i < xss.length) (hj : j < xss.length) : ent xss i j = ((bN (arw xss i j) : Nat) : Int) := by
  rw [good_ent hG hi hj]; cases arw xss i j <;> rfl

set_option maxRecDepth 100000 in
set_option maxHeartbeats 8000000 in
theorem specCov (a1 : Option Addr) (c1 : Nat) (a2 : Option Addr) (c2 : Nat) (a3 : Option Addr) (c3 : Nat) (G H : List (List Int)) (f : List Int) (n₀ : Nat) (w : World) (hM : Mat n₀ w a1 G) (hM' : Mat n₀ w a2 H) (hI : Ints n₀ w a3 f) (hF : Fit G) (hF' : Fit H) (hl : f.length ≤ 1048576) :
    Calls Try.prog 17 #[.slice a1 G.length c1, .slice a2 H.length c2, .slice a3 f.length c3] w (Still (.bool (covI G H f)) w) := by
  have hlG := hF.1
  have hlH := hF'.1
  obtain ⟨z, HZ⟩ : ∃ z, Hid (covI G H f = z) := ⟨_, rfl⟩
  rw [HZ.out]
  obtain ⟨m, HM⟩ : ∃ m, Hid (mapOkI G H f = m) := ⟨_, rfl⟩
  have HMC := Lib.hid (specMapOk a1 c1 a2 c2 a3 c3 G H f n₀ w hM hM' hI hF hF' hl)
  rw [HM.out] at HMC
  clear hF hF'
  cases m with
  | false =>
    obtain rfl : z = false := HZ.out.symm.trans (cov_no HM.out)
    go_enter Try.func17, Try.ntmps17
    go_wp2_with fail
    refine HMC.out.mono ?_
    rintro e w2 ⟨rfl, n, rfl⟩
    go_wp2_with fail
    go_ret
    exact ⟨rfl, n, rfl⟩
  | true =>
    have hmo := mapOk_iff.1 HM.out
    have HGG := Lib.hid (good_of hmo.1.1)
    have HGH := Lib.hid (good_of hmo.1.2)
    have HT := Lib.hid hmo.2.1
    have hG9 := HGG.out.2.1
    have hH9 := HGH.out.2.1
    have hfl1 : G.length ≤ f.length := by rw [HT.out.1]; exact Nat.le_refl _
    have HNO : Hid (∀ k, k < G.length → ∀ y, y < H.length → ¬ (outN G f k y = bN (arw H (nd f k) y) ∧ inN G f k y = bN (arw H y (nd f k))) → z = false) := Lib.hid fun k hk y hy hn => by
      rw [← HZ.out, Bool.eq_false_iff]
      exact fun h => hn ((cov_iff.1 h).2 k hk y hy)
    have HYES : Hid (CovRows G H f G.length → z = true) := Lib.hid fun h => by
      rw [← HZ.out]
      exact cov_iff.2 ⟨HM.out, fun k hk y hy => h k hk y hy⟩
    clear hmo
    go_enter Try.func17, Try.ntmps17
    go_wp2_with fail
    refine HMC.out.mono ?_
    rintro e w2 ⟨rfl, n2, rfl⟩
    go_wp2_with fail
    go_loopw [7] (fun i wr => ∃ k n : Nat, k ≤ G.length ∧ i = .int .i64 k ∧ wr = w.drewN n ∧ Hid (CovRows G H f k)) (fun i _ => G.length - (intOf i).toNat)
    case atStart => exact ⟨0, n2, Nat.zero_le _, rfl, rfl, Lib.hid fun i hi => absurd hi (Nat.not_lt_zero _)⟩
    case round =>
      obtain ⟨k, n, hk, rfl, rfl, HR⟩ := hrel
      by_cases hlt : k < G.length
      · obtain ⟨xk, hxk, hxe, hxm⟩ := tells_at HT.out hlt
        have HXK := Lib.hid hxk
        have HXE := Lib.hid hxe
        clear hxk hxe
        go_wp2_with fail
        go_loopw [8] (fun i wr => ∃ y n : Nat, y ≤ H.length ∧ i = .int .i64 y ∧ wr = w.drewN n ∧ Hid (CovTo G H f k y)) (fun i _ => H.length - (intOf i).toNat)
        case atStart => exact ⟨0, n, Nat.zero_le _, rfl, rfl, Lib.hid fun i hi => absurd hi (Nat.not_lt_zero _)⟩
        case round =>
          obtain ⟨y, n, hy, rfl, rfl, HC⟩ := hrel
          by_cases hly : y < H.length
          · go_wp2_with fail
            go_loopw [9, 10, 11] (fun u v i wr => ∃ j p q n : Nat, j ≤ G.length ∧ i = .int .i64 j ∧ u = .int .i64 p ∧ v = .int .i64 q ∧ wr = w.drewN n ∧ Hid (outJ G f k y j = p ∧ inJ G f k y j = q)) (fun _ _ i _ => G.length - (intOf i).toNat)
            case atStart => exact ⟨0, 0, 0, n, Nat.zero_le _, rfl, rfl, rfl, rfl, Lib.hid ⟨rfl, rfl⟩⟩
            case round =>
              obtain ⟨j, p, q, n, hj, rfl, rfl, rfl, rfl, HS⟩ := hrel
              have hle := outJ_le G f k y j
              rw [HS.out.1, HS.out.2] at hle
              have hp9 : p ≤ 9 := by omega
              have hq9 : q ≤ 9 := by omega
              clear hle
              by_cases hlj : j < G.length
              · obtain ⟨xj, hxj, hxje, hxjm⟩ := tells_at HT.out hlj
                obtain ⟨b3, o3, v, e3, hb3, hc3, HV⟩ := hI.at_ (show j < f.length by omega)
                obtain rfl : v = (xj : Int) := by have := HV.out; rw [hxj] at this; exact (Option.some.inj this).symm
                subst e3
                have hjf : j < f.length := by omega
                clear hxj
                by_cases e : xj = y
                · have HST := Lib.hid (outJ_yes (G := G) (k := k) (hxje.trans e))
                  clear hxje
                  subst e
                  obtain ⟨b1, o1, a4, c4, xs, e1, hb1, hd1, hI1, HX1⟩ := hM.at_ hlt
                  obtain ⟨b2, o2, a5, c5, ys, e2, hb2, hd2, hI2, HX2⟩ := hM.at_ hlj
                  subst e1
                  cases e2
                  have hjx : j < xs.length := by rw [HGG.out.len HX1.out]; exact hlj
                  have hky : k < ys.length := by rw [HGG.out.len HX2.out]; exact hlt
                  obtain ⟨b6, o6, v1, rfl, hb6, hd6, HV1⟩ := hI1.at_ hjx
                  obtain ⟨b7, o7, v2, rfl, hb7, hd7, HV2⟩ := hI2.at_ hky
                  obtain ⟨s, hs⟩ : ∃ s, bN (arw G k j) = s := ⟨_, rfl⟩
                  obtain ⟨t, ht⟩ : ∃ t, bN (arw G j k) = t := ⟨_, rfl⟩
                  have hs1 : s ≤ 1 := by rw [← hs]; exact bN_le1 _
                  have ht1 : t ≤ 1 := by rw [← ht]; exact bN_le1 _
                  obtain rfl : v1 = (s : Int) := by rw [← ent_eq HX1.out HV1.out, ent_bN HGG.out hlt hlj, hs]
                  obtain rfl : v2 = (t : Int) := by rw [← ent_eq HX2.out HV2.out, ent_bN HGG.out hlj hlt, ht]
                  have HST2 : Hid (outJ G f k xj (j + 1) = p + s ∧ inJ G f k xj (j + 1) = q + t) := Lib.hid (by rw [HST.out.1, HST.out.2, HS.out.1, HS.out.2, hs, ht]; exact ⟨rfl, rfl⟩)
                  clear hs ht hI1 hI2
                  go_wp2_with fail
                  go_roundw
                  case rel => exact ⟨j + 1, p + s, q + t, _, by omega, by go_num, by go_num, by go_num, rfl, HST2⟩
                  case measure => simp [intOf]; omega
                · have HST := Lib.hid (outJ_no (G := G) (k := k) (fun e2 => e (hxje.symm.trans e2)))
                  have hne : ((xj : Int) == (y : Int)) = false := by rw [beq_eq_false_iff_ne]; omega
                  have HST2 : Hid (outJ G f k y (j + 1) = p ∧ inJ G f k y (j + 1) = q) := Lib.hid (by rw [HST.out.1, HST.out.2]; exact HS.out)
                  clear hxje e
                  go_wp2_with fail
                  go_roundw
                  case rel => exact ⟨j + 1, p, q, _, by omega, by go_num, rfl, rfl, rfl, HST2⟩
                  case measure => simp [intOf]; omega
              · obtain rfl : j = G.length := by omega
                have HS1 : Hid (outN G f k y = p) := Lib.hid HS.out.1
                have HS2 : Hid (inN G f k y = q) := Lib.hid HS.out.2
                have hkf : k < f.length := by omega
                obtain ⟨b3, o3, v, e3, hb3, hc3, HV⟩ := hI.at_ hkf
                obtain rfl : v = (xk : Int) := by have := HV.out; rw [HXK.out] at this; exact (Option.some.inj this).symm
                subst e3
                obtain ⟨b1, o1, a4, c4, xs, e1, hb1, hd1, hI1, HX1⟩ := hM'.at_ hxm
                obtain ⟨b2, o2, a5, c5, ys, e2, hb2, hd2, hI2, HX2⟩ := hM'.at_ hly
                subst e1
                cases e2
                have hyx : y < xs.length := by rw [HGH.out.len HX1.out]; exact hly
                have hky : xk < ys.length := by rw [HGH.out.len HX2.out]; exact hxm
                obtain ⟨b6, o6, v1, rfl, hb6, hd6, HV1⟩ := hI1.at_ hyx
                obtain ⟨b7, o7, v2, rfl, hb7, hd7, HV2⟩ := hI2.at_ hky
                obtain ⟨s, hs⟩ : ∃ s, bN (arw H xk y) = s := ⟨_, rfl⟩
                obtain ⟨t, ht⟩ : ∃ t, bN (arw H y xk) = t := ⟨_, rfl⟩
                obtain rfl : v1 = (s : Int) := by rw [← ent_eq HX1.out HV1.out, ent_bN HGH.out hxm hly, hs]
                obtain rfl : v2 = (t : Int) := by rw [← ent_eq HX2.out HV2.out, ent_bN HGH.out hly hxm, ht]
                have HN2 := Lib.hid (HNO.out k hlt y hly)
                rw [HS1.out, HS2.out, HXE.out, hs, ht] at HN2
                have HTO : Hid (p = s → q = t → CovTo G H f k (y + 1)) := Lib.hid fun h1 h2 => covTo_succ HC.out (by rw [HS1.out, HXE.out, hs]; exact h1) (by rw [HS2.out, HXE.out, ht]; exact h2)
                clear hs ht hI1 hI2
                by_cases hps : p = s
                · have hpe : ((p : Int) != (s : Int)) = false := by rw [bne_eq_false_iff_eq]; omega
                  by_cases hqt : q = t
                  · have hqe : ((q : Int) != (t : Int)) = false := by rw [bne_eq_false_iff_eq]; omega
                    have HT2 := Lib.hid (HTO.out hps hqt)
                    clear hps hqt
                    go_wp2_with fail
                    go_quiet (fail)
                    go_wp2_with fail
                    go_roundw
                    case rel => exact ⟨y + 1, _, by omega, by go_num, by first | rfl | exact drewN_two _ _ _, HT2⟩
                    case measure => simp [intOf]; omega
                  · have hqe : ((q : Int) != (t : Int)) = true := by rw [bne_iff_ne]; omega
                    obtain rfl : z = false := HN2.out fun h => hqt h.2
                    clear hps hqt
                    go_wp2_with fail
                    go_quiet (fail)
                    go_wp2_with fail
                    go_ret
                    exact ⟨rfl, _, by first | rfl | exact drewN_two _ _ _⟩
                · have hpe : ((p : Int) != (s : Int)) = true := by rw [bne_iff_ne]; omega
                  obtain rfl : z = false := HN2.out fun h => hps h.1
                  clear hps
                  go_wp2_with fail
                  go_quiet (fail)
                  go_wp2_with fail
                  go_ret
                  exact ⟨rfl, _, by first | rfl | exact drewN_two _ _ _⟩
          · obtain rfl : y = H.length := by omega
            go_wp2_with fail
            go_roundw
            case rel => exact ⟨k + 1, n, by omega, by go_num, rfl, Lib.hid (covRows_succ HR.out HC.out)⟩
            case measure => simp [intOf]; omega
      · obtain rfl : k = G.length := by omega
        obtain rfl : z = true := HYES.out HR.out
        go_wp2_with fail
        go_ret
        exact ⟨rfl, n, rfl⟩

end Go.Proofs.Ytldkgkpiceamhaa

namespace Go.Proofs.Ytldkgkpiceamhaa
open Go.RowKit Go.Shelf Go.Deep

def fibJ (f : List Int) (k : Nat) : Nat := sumN k fun j => bN (nd f j == 0)
theorem fibJ_le (f : List Int) : ∀ k, fibJ f k ≤ k
  | 0 => Nat.le_refl _
  | k + 1 => by
    have := fibJ_le f k
    have := bN_le1 (nd f k == 0)
    unfold fibJ at *
    simp only [sumN]; omega
theorem fibJ_succ (f : List Int) (k : Nat) : fibJ f (k + 1) = fibJ f k + bN (nd f k == 0) := rfl

set_option maxRecDepth 100000 in
set_option maxHeartbeats 4000000 in
theorem specShe_of (a1 : Option Addr) (c1 : Nat) (a2 : Option Addr) (c2 : Nat) (a3 : Option Addr) (c3 : Nat) (G H : List (List Int)) (f : List Int) (n₀ : Nat) (w : World) (hM : Mat n₀ w a1 G) (hM' : Mat n₀ w a2 H) (hI : Ints n₀ w a3 f) (hF : Fit G) (hF' : Fit H) (hl : f.length ≤ 1048576)
    (hOne : ∀ n, Calls Try.prog 71 #[.slice a2 H.length c2] (w.drewN n) (Still (.bool (oneI H)) (w.drewN n))) :
    Calls Try.prog 31 #[.slice a1 G.length c1, .slice a2 H.length c2, .slice a3 f.length c3] w (Still (.int .i64 (sheI G H f)) w) := by
  obtain ⟨z, HZ⟩ : ∃ z, Hid (covI G H f = z) := ⟨_, rfl⟩
  obtain ⟨o, HO⟩ : ∃ o, Hid (oneI H = o) := ⟨_, rfl⟩
  have HC := Lib.hid (specCov a1 c1 a2 c2 a3 c3 G H f n₀ w hM hM' hI hF hF' hl)
  rw [HZ.out] at HC
  have HN := Lib.hid hOne
  rw [HO.out] at HN
  clear hOne
  cases z with
  | false =>
    rw [she_no (by rw [HZ.out]; rfl)]
    go_enter Try.func31, Try.ntmps31
    go_wp2_with fail
    refine HC.out.mono ?_
    rintro e w2 ⟨rfl, n, rfl⟩
    go_wp2_with fail
    go_ret
    exact ⟨rfl, n, rfl⟩
  | true =>
    cases o with
    | false =>
      rw [she_no (by rw [HZ.out, HO.out]; rfl)]
      go_enter Try.func31, Try.ntmps31
      go_wp2_with fail
      refine HC.out.mono ?_
      rintro e w2 ⟨rfl, n, rfl⟩
      go_wp2_with fail
      refine (HN.out n).mono ?_
      rintro e w2 ⟨rfl, n2, rfl⟩
      go_wp2_with fail
      go_ret
      exact ⟨rfl, _, rfl⟩
    | true =>
      have hT := (mapOk_iff.1 (cov_iff.1 HZ.out).1).2.1
      have HT := Lib.hid hT
      have hfl := hT.1
      have HFI : Hid (fibN G f 0 = fibJ f f.length) := Lib.hid (by unfold fibN fibJ; rw [hfl])
      rw [she_yes HZ.out HO.out]
      obtain ⟨s, hs⟩ : ∃ s, fibN G f 0 = s := ⟨_, rfl⟩
      have HS : Hid (fibJ f f.length = s) := Lib.hid (by rw [← HFI.out]; exact hs)
      rw [hs]
      clear hs hT hfl
      go_enter Try.func31, Try.ntmps31
      go_wp2_with fail
      refine HC.out.mono ?_
      rintro e w2 ⟨rfl, n, rfl⟩
      go_wp2_with fail
      refine (HN.out n).mono ?_
      rintro e w2 ⟨rfl, n2, rfl⟩
      go_wp2_with fail
      go_loopw [7, 8] (fun v i wr => ∃ k p : Nat, k ≤ f.length ∧ i = .int .i64 k ∧ v = .int .i64 p ∧ w.drewN (n + n2) = wr ∧ Hid (fibJ f k = p)) (fun _ i _ => f.length - (intOf i).toNat)
      case atStart => exact ⟨0, 0, Nat.zero_le _, rfl, rfl, rfl, rfl⟩
      case round =>
        obtain ⟨k, p, hk, rfl, rfl, rfl, HP⟩ := hrel
        by_cases hlt : k < f.length
        · obtain ⟨b3, o3, v, e3, hb3, hc3, HV⟩ := hI.at_ hlt
          have hv0 : 0 ≤ v := (HT.out.2 k v HV.out).1
          obtain ⟨x, rfl⟩ : ∃ x : Nat, v = (x : Int) := ⟨v.toNat, by omega⟩
          have hnd : nd f k = x := by rw [nd_eq HV.out]; exact Int.toNat_natCast _
          have hp : p ≤ k := by rw [← HP.out]; exact fibJ_le f k
          have hpl : (p : Int) ≤ 1048576 := by omega
          have hp0 : (0 : Int) ≤ (p : Int) := Int.natCast_nonneg _
          subst e3
          by_cases hx : x = 0
          · subst hx
            have HQ : Hid (fibJ f (k + 1) = p + 1) := Lib.hid (by rw [fibJ_succ, HP.out, hnd]; rfl)
            clear hnd
            go_wp2_with fail
            go_roundw
            case rel => exact ⟨k + 1, p + 1, by omega, by go_num, by go_num, by first | rfl | trivial, HQ⟩
            case measure => simp [intOf]; omega
          · have HQ : Hid (fibJ f (k + 1) = p) := Lib.hid (by rw [fibJ_succ, HP.out, hnd, beq_eq_false_iff_ne.2 hx]; rfl)
            have hx0 : ((x : Int) == 0) = false := by rw [beq_eq_false_iff_ne]; omega
            clear hnd hx
            go_wp2_with fail
            go_roundw
            case rel => exact ⟨k + 1, p, by omega, by go_num, rfl, by first | rfl | trivial, HQ⟩
            case measure => simp [intOf]; omega
        · obtain rfl : k = f.length := by omega
          obtain rfl : p = s := HP.out.symm.trans HS.out
          go_wp2_with fail
          go_ret
          exact ⟨rfl, _, rfl⟩

end Go.Proofs.Ytldkgkpiceamhaa

namespace Go.Proofs.Ytldkgkpiceamhaa
open Go.RowKit Go.Shelf Go.Deep

theorem specShe (a1 : Option Addr) (c1 : Nat) (a2 : Option Addr) (c2 : Nat) (a3 : Option Addr) (c3 : Nat) (G H : List (List Int)) (f : List Int) (n₀ : Nat) (w : World) (hM : Mat n₀ w a1 G) (hM' : Mat n₀ w a2 H) (hI : Ints n₀ w a3 f) (hF : Fit G) (hF' : Fit H) (hl : f.length ≤ 1048576) :
    Calls Try.prog 31 #[.slice a1 G.length c1, .slice a2 H.length c2, .slice a3 f.length c3] w (Still (.int .i64 (sheI G H f)) w) :=
  specShe_of a1 c1 a2 c2 a3 c3 G H f n₀ w hM hM' hI hF hF' hl (fun n => specOne a2 c2 H n₀ (w.drewN n) hM' hF')

end Go.Proofs.Ytldkgkpiceamhaa

namespace Go.Proofs.Ytldkgkpiceamhaa
open Go.RowKit Go.Shelf Go.Deep

theorem in_still (x lo hi : Int) (w : World) {b : Bool} (h : decide (lo ≤ x ∧ x ≤ hi) = b) :
    Calls Try.prog 59 #[.int .i64 x, .int .i64 lo, .int .i64 hi] w (Still (.bool b) w) := by
  subst h
  exact (in_any x lo hi w).mono fun e w' ⟨he, hw⟩ => ⟨he, 0, hw.symm⟩
/-- The first k nodes are ones, each joined to the next one. -/
def WalkTo (G : List (List Int)) (f : List Int) (k : Nat) : Prop := (∀ (j : Nat) (y : Int), j < k → f[j]? = some y → 0 ≤ y ∧ y < G.length) ∧ ∀ j, j + 1 < k → arw G (nd f j) (nd f (j + 1)) = true
theorem walkTo_succ {G : List (List Int)} {f : List Int} {k : Nat} {v : Int} (h : WalkTo G f k) (hv : f[k]? = some v) (h0 : 0 ≤ v ∧ v < G.length) (ha : 0 < k → arw G (nd f (k - 1)) (nd f k) = true) : WalkTo G f (k + 1) := by
  refine ⟨fun j y hj hy => ?_, fun j hj => ?_⟩
  · by_cases e : j = k
    · subst e; rw [hv] at hy; cases hy; exact h0
    · exact h.1 j y (by omega) hy
  · by_cases e : j + 1 = k
    · have := ha (by omega)
      rw [show k - 1 = j by omega, ← e] at this
      exact this
    · exact h.2 j (by omega)

set_option maxRecDepth 100000 in
set_option maxHeartbeats 8000000 in
theorem specWalk (a : Option Addr) (c : Nat) (a' : Option Addr) (c' : Nat) (G : List (List Int)) (f : List Int) (n₀ : Nat) (w : World) (hM : Mat n₀ w a G) (hI : Ints n₀ w a' f) (hF : Fit G) (hl : f.length ≤ 1048576) :
    Calls Try.prog 23 #[.slice a G.length c, .slice a' f.length c'] w (Still (.bool (walkI G f)) w) := by
  have hlG := hF.1
  obtain ⟨z, HZ⟩ : ∃ z, Hid (walkI G f = z) := ⟨_, rfl⟩
  rw [HZ.out]
  obtain ⟨m, HM⟩ : ∃ m, Hid (gOk G = m) := ⟨_, rfl⟩
  have HOK := Lib.hid (specOk_any a c G n₀ w hM hF)
  rw [HM.out] at HOK
  clear hF
  cases m with
  | false =>
    obtain rfl : z = false := HZ.out.symm.trans (by unfold walkI; rw [HM.out]; rfl)
    go_enter Try.func23, Try.ntmps23
    go_wp2_with fail
    refine HOK.out.mono ?_
    rintro e w2 ⟨rfl, rfl⟩
    go_wp2_with fail
    go_ret
    exact ⟨rfl, 0, rfl⟩
  | true =>
    have HGD := Lib.hid (good_of HM.out)
    have hG9 := HGD.out.2.1
    by_cases hlen : 1 ≤ f.length ∧ f.length ≤ 13
    · have hd1 : decide ((1 : Int) ≤ (f.length : Int) ∧ (f.length : Int) ≤ 13) = true := decide_eq_true (by omega)
      have HNO : Hid (¬ WalkTo G f f.length → z = false) := Lib.hid fun hn => by
        rw [← HZ.out, Bool.eq_false_iff]
        intro h
        obtain ⟨_, _, hT, ha⟩ := walk_iff.1 h
        exact hn ⟨fun j y _ hy => hT.2 j y hy, ha⟩
      have HYES : Hid (WalkTo G f f.length → z = true) := Lib.hid fun h => by
        rw [← HZ.out]
        exact walk_iff.2 ⟨HM.out, hlen, ⟨rfl, fun j y hy => h.1 j y (List.getElem?_eq_some_iff.1 hy).1 hy⟩, h.2⟩
      have HIN := Lib.hid (in_any (f.length : Int) 1 13 w)
      rw [hd1] at HIN
      obtain ⟨hlen1, hlen2⟩ := hlen
      clear hd1
      go_enter Try.func23, Try.ntmps23
      go_wp2_with fail
      refine HOK.out.mono ?_
      rintro e w2 ⟨rfl, rfl⟩
      go_wp2_with fail
      refine HIN.out.mono ?_
      rintro e w2 ⟨rfl, rfl⟩
      go_wp2_with fail
      go_loopw [5] (fun i wr => ∃ k n : Nat, k ≤ f.length ∧ i = .int .i64 k ∧ wr = w.drewN n ∧ Hid (WalkTo G f k)) (fun i _ => f.length - (intOf i).toNat)
      case atStart => exact ⟨0, 0, Nat.zero_le _, rfl, rfl, Lib.hid ⟨fun j y hj => absurd hj (Nat.not_lt_zero _), fun j hj => absurd hj (Nat.not_lt_zero _)⟩⟩
      case round =>
        obtain ⟨k, n, hk, rfl, rfl, HR⟩ := hrel
        by_cases hlt : k < f.length
        · obtain ⟨b3, o3, v, e3, hb3, hc3, HV⟩ := hI.at_ hlt
          by_cases hv : 0 ≤ v ∧ v < (G.length : Int)
          · obtain ⟨x, rfl⟩ : ∃ x : Nat, v = (x : Int) := ⟨v.toNat, by omega⟩
            have hx : x < G.length := by omega
            have HND : Hid (nd f k = x) := Lib.hid (by rw [nd_eq HV.out]; exact Int.toNat_natCast _)
            have HD : Hid (∀ W, Calls Try.prog 59 #[.int .i64 (x : Int), .int .i64 0, .int .i64 ((G.length : Int) - 1)] W (Still (.bool true) W)) := Lib.hid fun W => in_still _ _ _ W (decide_eq_true (by omega))
            by_cases hk0 : k = 0
            · have hkn : decide ((0 : Int) < (k : Int)) = false := decide_eq_false (by omega)
              have hkn2 : decide (0 < k) = false := decide_eq_false (by omega)
              have HW2 : Hid (WalkTo G f (k + 1)) := Lib.hid (walkTo_succ HR.out HV.out hv fun h => by omega)
              clear hk0
              subst e3
              go_wp2_with fail
              go_quiet ((go_at_call 59; exact Calls_quiet_add (HD.out _)))
              go_wp2_with fail
              go_roundw
              case rel => exact ⟨k + 1, _, by omega, by go_num, by first | rfl | exact drewN_two _ _ _, HW2⟩
              case measure => simp [intOf]; omega
            · have hkp : (0 : Int) < (k : Int) := by omega
              have hkp2 : 0 < k := by omega
              have hk1 : k - 1 < f.length := by omega
              obtain ⟨b4, o4, v4, e4, hb4, hc4, HV4⟩ := hI.at_ hk1
              have hv4 := HR.out.1 (k - 1) v4 (by omega) HV4.out
              obtain ⟨y, rfl⟩ : ∃ y : Nat, v4 = (y : Int) := ⟨v4.toNat, by omega⟩
              have hy : y < G.length := by omega
              have HND4 : Hid (nd f (k - 1) = y) := Lib.hid (by rw [nd_eq HV4.out]; exact Int.toNat_natCast _)
              obtain ⟨b1, o1, a4, c4, xs, e1, hb1, hd1, hI1, HX1⟩ := hM.at_ hy
              have hxx : x < xs.length := by rw [HGD.out.len HX1.out]; exact hx
              obtain ⟨b6, o6, v1, e6, hb6, hd6, HV1⟩ := hI1.at_ hxx
              subst e3
              cases e4
              subst e1
              subst e6
              have hoff : o3 + (k - 1) = o3 + (k - 1) := rfl
              have hki : (k : Int) - 1 = ((k - 1 : Nat) : Int) := by omega
              have hki0 : (0 : Int) ≤ (k : Int) - 1 := by omega
              have hki1 : (k : Int) - 1 < (f.length : Int) := by omega
              clear hI1 hoff
              have he01 : v1 = 0 ∨ v1 = 1 := (HGD.out.2.2 xs (List.mem_of_getElem? HX1.out)).2 v1 (List.mem_of_getElem? HV1.out)
              rcases he01 with rfl | rfl
              · have ha : arw G (nd f (k - 1)) (nd f k) = false := by rw [HND4.out, HND.out]; unfold arw; rw [ent_eq HX1.out HV1.out]; rfl
                obtain rfl : z = false := HNO.out fun h => by
                  have := h.2 (k - 1) (by omega)
                  rw [show k - 1 + 1 = k by omega, ha] at this
                  cases this
                clear ha
                go_wp2_with fail
                go_quiet ((go_at_call 59; exact Calls_quiet_add (HD.out _)))
                go_wp2_with fail
                go_ret
                exact ⟨rfl, _, by first | rfl | exact drewN_two _ _ _⟩
              · have HW2 : Hid (WalkTo G f (k + 1)) := Lib.hid (walkTo_succ HR.out HV.out hv fun _ => by rw [HND4.out, HND.out]; unfold arw; rw [ent_eq HX1.out HV1.out]; rfl)
                go_wp2_with fail
                go_quiet ((go_at_call 59; exact Calls_quiet_add (HD.out _)))
                go_wp2_with fail
                go_roundw
                case rel => exact ⟨k + 1, _, by omega, by go_num, by first | rfl | exact drewN_two _ _ _, HW2⟩
                case measure => simp [intOf]; omega
          · have HD : Hid (∀ W, Calls Try.prog 59 #[.int .i64 v, .int .i64 0, .int .i64 ((G.length : Int) - 1)] W (Still (.bool false) W)) := Lib.hid fun W => in_still _ _ _ W (decide_eq_false (by omega))
            obtain rfl : z = false := HNO.out fun h => hv (h.1 k v hlt HV.out)
            subst e3
            clear hv
            go_wp2_with fail
            go_quiet ((go_at_call 59; exact Calls_quiet_add (HD.out _)))
            go_wp2_with fail
            go_ret
            exact ⟨rfl, _, by first | rfl | exact drewN_two _ _ _⟩
        · obtain rfl : k = f.length := by omega
          obtain rfl : z = true := HYES.out HR.out
          go_wp2_with fail
          go_ret
          exact ⟨rfl, n, rfl⟩
    · have hd1 : decide ((1 : Int) ≤ (f.length : Int) ∧ (f.length : Int) ≤ 13) = false := decide_eq_false (by omega)
      have HIN := Lib.hid (in_any (f.length : Int) 1 13 w)
      rw [hd1] at HIN
      obtain rfl : z = false := by
        rw [← HZ.out, Bool.eq_false_iff]
        exact fun h => hlen (walk_iff.1 h).2.1
      clear hd1 hlen
      go_enter Try.func23, Try.ntmps23
      go_wp2_with fail
      refine HOK.out.mono ?_
      rintro e w2 ⟨rfl, rfl⟩
      go_wp2_with fail
      refine HIN.out.mono ?_
      rintro e w2 ⟨rfl, rfl⟩
      go_wp2_with fail
      go_ret
      exact ⟨rfl, 0, rfl⟩

end Go.Proofs.Ytldkgkpiceamhaa
