/-
  Several texts in one.
  impl.MapOk: a row tells nodes, and leads arrows to arrows.
  The model's MapOk.
-/
import Derived.Test.YtofpjepndhpciaaL1
import Derived.Test.YtofpjepndhpciaaZE
import Derived.BigQuiet
namespace Go.Proofs.Ytofpjepndhpciaa
open Go.RowKit Go.Shelf Go.Deep

/-- A ROW TELLS a node below m' for each of m nodes. -/
def Tells (m m' : Nat) (f : List Int) : Prop := f.length = m ∧ ∀ (j : Nat) (y : Int), f[j]? = some y → 0 ≤ y ∧ y < m'
def tellsI (m m' : Nat) (f : List Int) : Bool := decide (f.length = m) && f.all fun y => decide (0 ≤ y ∧ y < (m' : Int))
theorem tells_iff (m m' : Nat) (f : List Int) : tellsI m m' f = true ↔ Tells m m' f := by
  unfold tellsI Tells
  simp only [Bool.and_eq_true, decide_eq_true_eq, List.all_eq_true]
  refine and_congr_right fun _ => ⟨fun h j y hy => h y (List.mem_of_getElem? hy), fun h y hy => ?_⟩
  obtain ⟨j, hj⟩ := List.getElem?_of_mem hy
  exact h j y hj
theorem tells_yes {m m' : Nat} {f : List Int} (h : Tells m m' f) : tellsI m m' f = true := (tells_iff m m' f).2 h
theorem tells_no {m m' : Nat} {f : List Int} (h : ¬ Tells m m' f) : tellsI m m' f = false := Bool.eq_false_iff.2 fun e => h ((tells_iff m m' f).1 e)
/-- A ROW LEADS each arrow to an arrow. -/
def leadsI (G H : List (List Int)) (f : List Int) : Bool := (AL G).all fun x => arw H (nd f x.1.1) (nd f x.2.1)
/-- A MAP. -/
def mapOkI (G H : List (List Int)) (f : List Int) : Bool := gOk G && gOk H && tellsI G.length H.length f && leadsI G H f
theorem mapOk_no1 {G H : List (List Int)} {f : List Int} (h : gOk G = false) : mapOkI G H f = false := by unfold mapOkI; rw [h]; rfl
theorem mapOk_no2 {G H : List (List Int)} {f : List Int} (h : gOk H = false) : mapOkI G H f = false := by unfold mapOkI; rw [h]; simp
theorem mapOk_no3 {G H : List (List Int)} {f : List Int} (h : tellsI G.length H.length f = false) : mapOkI G H f = false := by unfold mapOkI; rw [h]; simp
theorem mapOk_yes {G H : List (List Int)} {f : List Int} (h : gOk G = true) (h' : gOk H = true) (h'' : tellsI G.length H.length f = true) : mapOkI G H f = leadsI G H f := by unfold mapOkI; rw [h, h', h'']; rfl

theorem nodesP (a : Option Addr) (m c : Nat) (w : World) :
    Calls Try.prog 52 #[.agg #[.slice a m c]] w fun e w' => e = .returned (.int .i64 m) ∧ w' = w.alloc (.cells #[.slice a m c] 51) :=
  callsIn_wide.1 (nodes_in Fence.wide 0 (fun _ => trivial) rfl a m c w)

/-- The node that a row tells. -/
theorem tells_at {m m' : Nat} {f : List Int} (h : Tells m m' f) {j : Nat} (hj : j < m) : ∃ p : Nat, f[j]? = some (p : Int) ∧ nd f j = p ∧ p < m' := by
  have hj' : j < f.length := by rw [h.1]; exact hj
  obtain ⟨h0, h1⟩ := h.2 j f[j] (List.getElem?_eq_getElem hj')
  refine ⟨f[j].toNat, ?_, nd_eq (List.getElem?_eq_getElem hj'), by omega⟩
  rw [List.getElem?_eq_getElem hj', Int.toNat_of_nonneg h0]

end Go.Proofs.Ytofpjepndhpciaa

namespace Go.Proofs.Ytofpjepndhpciaa
open Go.RowKit Go.Shelf Go.Deep

theorem AL_mem {xss : List (List Int)} (x : Fin xss.length × Fin xss.length) : x ∈ AL xss ↔ arw xss x.1.1 x.2.1 = true := by
  unfold AL
  rw [List.mem_filter]
  exact ⟨fun h => h.2, fun h => ⟨PL_all x, h⟩⟩
theorem leadsI_iff {G H : List (List Int)} {f : List Int} : leadsI G H f = true ↔ ∀ i j, i < G.length → j < G.length → arw G i j = true → arw H (nd f i) (nd f j) = true := by
  unfold leadsI
  rw [List.all_eq_true]
  exact ⟨fun h i j hi hj ha => h (⟨i, hi⟩, ⟨j, hj⟩) ((AL_mem _).2 ha), fun h x hx => h x.1.1 x.2.1 x.1.2 x.2.2 ((AL_mem x).1 hx)⟩
theorem arw_ent {xss : List (List Int)} {i j : Nat} : arw xss i j = true ↔ ent xss i j = 1 := by unfold arw; simp

set_option maxRecDepth 100000 in
set_option maxHeartbeats 4000000 in
theorem specMapOk (a : Option Addr) (c : Nat) (a' : Option Addr) (c' : Nat) (a'' : Option Addr) (c'' : Nat) (G H : List (List Int)) (f : List Int) (n₀ : Nat) (w : World) (hM : Mat n₀ w a G) (hM' : Mat n₀ w a' H) (hI : Ints n₀ w a'' f) (hf : Fit G) (hf' : Fit H) (hl : f.length ≤ 1048576) :
    Calls Try.prog 67 #[.slice a G.length c, .slice a' H.length c', .slice a'' f.length c''] w (Still (.bool (mapOkI G H f)) w) := by
  have HF := Lib.hid hf
  have HF' := Lib.hid hf'
  have hlf := hf.1
  have hlf' := hf'.1
  clear hf hf'
  obtain ⟨z, HZ⟩ : ∃ z, Hid (mapOkI G H f = z) := ⟨_, rfl⟩
  rw [HZ.out]
  by_cases hg : gOk G = true
  · by_cases hg' : gOk H = true
    · by_cases hfl : f.length = G.length
      · have HG := Lib.hid (good_of hg)
        have HG' := Lib.hid (good_of hg')
        have h1' := HG'.out.1
        have h9 := HG.out.2.1
        have h9' := HG'.out.2.1
        have HL := Lib.hid hfl
        have hfne : ((f.length : Int) != (G.length : Int)) = false := by simp; omega
        clear hfl
        go_enter Try.func67, Try.ntmps67
        go_wp2_with fail
        refine (specOk_any _ _ _ _ _ hM HF.out).mono ?_
        rintro e w' ⟨rfl, rfl⟩
        rw [hg]
        go_wp2_with fail
        refine (specOk_any _ _ _ _ _ hM' HF'.out).mono ?_
        rintro e w' ⟨rfl, rfl⟩
        rw [hg']
        go_wp2_with fail
        go_loop [7] (fun i => ∃ k : Nat, k ≤ f.length ∧ i = .int .i64 k ∧ Hid (∀ (j : Nat) (y : Int), j < k → f[j]? = some y → 0 ≤ y ∧ y < H.length)) (fun i => f.length - (intOf i).toNat)
        case atStart => exact ⟨0, Nat.zero_le _, rfl, fun j y h => absurd h (Nat.not_lt_zero _)⟩
        case round =>
          obtain ⟨k, hk, rfl, HR⟩ := hrel
          by_cases hlt : k < f.length
          · obtain ⟨b, o, y, rfl, hb, hc, HY⟩ := hI.at_ hlt
            by_cases hy0 : y < 0
            · have HN : Hid (z = false) := Lib.hid (HZ.out.symm.trans (mapOk_no3 (tells_no fun h => by have := (h.2 k y HY.out).1; omega)))
              go_wp2_with fail
              refine (in_lo _ _ _ _ hy0).mono ?_
              rintro e w' ⟨rfl, rfl⟩
              go_wp2_with fail
              go_ret
              exact ⟨ret_bool HN.out.symm, 0, rfl⟩
            by_cases hy1 : (H.length : Int) ≤ y
            · have HN : Hid (z = false) := Lib.hid (HZ.out.symm.trans (mapOk_no3 (tells_no fun h => by have := (h.2 k y HY.out).2; omega)))
              go_wp2_with fail
              refine (in_hi _ _ _ _ (by omega) (by omega)).mono ?_
              rintro e w' ⟨rfl, rfl⟩
              go_wp2_with fail
              go_ret
              exact ⟨ret_bool HN.out.symm, 0, rfl⟩
            go_wp2_with fail
            refine (in_yes _ _ _ _ (by omega) (by omega)).mono ?_
            rintro e w' ⟨rfl, rfl⟩
            go_wp2_with fail
            go_round
            case rel => exact ⟨k + 1, by omega, by go_num, fun j x hj hx => by
              by_cases e : j = k
              · subst e; rw [HY.out] at hx; cases hx; omega
              · exact HR.out j x (by omega) hx⟩
            case measure => simp [intOf]; omega
          · obtain rfl : k = f.length := by omega
            have HT : Hid (Tells G.length H.length f) := ⟨HL.out, fun j y hy => HR.out j y (List.getElem?_eq_some_iff.1 hy).1 hy⟩
            have HZ2 : Hid (leadsI G H f = z) := Lib.hid ((mapOk_yes hg hg' (tells_yes HT.out)).symm.trans HZ.out)
            clear HR HZ hlt hk
            go_wp2_with fail
            go_loopw [8] (fun i wr => ∃ (k q : Nat), k ≤ G.length ∧ i = .int .i64 k ∧ wr = w.drewN q ∧ Hid (∀ i j, i < k → j < G.length → arw G i j = true → arw H (nd f i) (nd f j) = true)) (fun i _ => G.length - (intOf i).toNat)
            case atStart => exact ⟨0, 0, Nat.zero_le _, rfl, rfl, fun i j h => absurd h (Nat.not_lt_zero _)⟩
            case round =>
              obtain ⟨k, q, hk, rfl, rfl, HR⟩ := hrel
              by_cases hlt : k < G.length
              · obtain ⟨b, o, a1, c1, xs, rfl, hb, hc, hX, HX⟩ := hM.at_ hlt
                have HE := Lib.hid (HG.out.len HX.out)
                obtain ⟨p, hp, enp, hpH⟩ := tells_at HT.out hlt
                obtain ⟨b2, o2, y, rfl, hb2, hc2, HY⟩ := hI.at_ (k := k) (by rw [HL.out]; exact hlt)
                have ey : y = (p : Int) := by have := HY.out; rw [hp] at this; cases this; rfl
                subst ey
                obtain ⟨b3, o3, a3, c3, ys, rfl, hb3, hc3, hYs, HYs⟩ := hM'.at_ hpH
                have HE3 := Lib.hid (HG'.out.len HYs.out)
                have HP := Lib.hid enp
                have hkf : k < f.length := by rw [HL.out]; exact hlt
                clear hp enp HY
                go_wp2_with fail
                go_loopw [9] (fun i wr => ∃ (j q : Nat), j ≤ G.length ∧ i = .int .i64 j ∧ wr = w.drewN q ∧ Hid (∀ l, l < j → arw G k l = true → arw H (nd f k) (nd f l) = true)) (fun i _ => G.length - (intOf i).toNat)
                case atStart => exact ⟨0, q, Nat.zero_le _, rfl, rfl, fun l h => absurd h (Nat.not_lt_zero _)⟩
                case round =>
                  obtain ⟨j, q2, hj, rfl, rfl, HRj⟩ := hrel
                  by_cases hltj : j < G.length
                  · obtain ⟨b4, o4, v, rfl, hb4, hc4, HV⟩ := hX.at_ (k := j) (by rw [HE.out]; exact hltj)
                    obtain ⟨r, hr, enr, hrH⟩ := tells_at HT.out hltj
                    obtain ⟨b5, o5, y5, e5, hb5, hc5, HY5⟩ := hI.at_ (k := j) (by rw [HL.out]; exact hltj)
                    cases e5
                    have ey5 : y5 = (r : Int) := by have := HY5.out; rw [hr] at this; cases this; rfl
                    subst ey5
                    obtain ⟨b6, o6, u, rfl, hb6, hc6, HU⟩ := hYs.at_ (k := r) (by rw [HE3.out]; exact hrH)
                    have hv : v = 0 ∨ v = 1 := by
                      have := (good_iff_ent HG.out.1 HG.out.2.1 (fun i xs h => HG.out.len h)).1 HG.out (⟨k, hlt⟩, ⟨j, hltj⟩)
                      rw [ent_eq HX.out HV.out] at this; exact this
                    have hu : u = 0 ∨ u = 1 := by
                      have := (good_iff_ent HG'.out.1 HG'.out.2.1 (fun i xs h => HG'.out.len h)).1 HG'.out (⟨p, hpH⟩, ⟨r, hrH⟩)
                      rw [ent_eq HYs.out HU.out] at this; exact this
                    have hx1 : j < xs.length := by rw [HE.out]; exact hltj
                    have hx2 : r < ys.length := by rw [HE3.out]; exact hrH
                    have hx9 : xs.length ≤ 9 := by rw [HE.out]; exact h9
                    have hy9 : ys.length ≤ 9 := by rw [HE3.out]; exact h9'
                    have hjf : j < f.length := by rw [HL.out]; exact hltj
                    have HAu : Hid (arw H (nd f k) (nd f j) = (u == 1)) := Lib.hid (by rw [HP.out, enr]; unfold arw; rw [ent_eq HYs.out HU.out])
                    have HAv : Hid (arw G k j = (v == 1)) := Lib.hid (by unfold arw; rw [ent_eq HX.out HV.out])
                    clear hr enr HY5 HV HU
                    rcases hv with rfl | rfl
                    · go_wp2_with fail
                      go_quiet (fail)
                      go_wp2_with fail
                      go_roundw
                      case rel => exact ⟨j + 1, _, by omega, by go_num, rfl, fun l hl ha => by
                        by_cases e : l = j
                        · subst e; rw [HAv.out] at ha; cases ha
                        · exact HRj.out l (by omega) ha⟩
                      case measure => simp [intOf]; omega
                    · rcases hu with rfl | rfl
                      · have HN : Hid (z = false) := Lib.hid (HZ2.out.symm.trans (Bool.eq_false_iff.2 fun h => by
                          have := leadsI_iff.1 h k j hlt hltj HAv.out
                          rw [HAu.out] at this; cases this))
                        go_wp2_with fail
                        go_quiet (fail)
                        go_wp2_with fail
                        go_ret
                        exact ⟨ret_bool HN.out.symm, _, World.drewN_drewN _ _ _⟩
                      · go_wp2_with fail
                        go_quiet (fail)
                        go_wp2_with fail
                        go_roundw
                        case rel => exact ⟨j + 1, _, by omega, by go_num, rfl, fun l hl ha => by
                          by_cases e : l = j
                          · subst e; exact HAu.out
                          · exact HRj.out l (by omega) ha⟩
                        case measure => simp [intOf]; omega
                  · obtain rfl : j = G.length := by omega
                    go_wp2_with fail
                    go_roundw
                    case rel => exact ⟨k + 1, q2, by omega, by go_num, rfl, fun i l hi hl ha => by
                      by_cases e : i = k
                      · subst e; exact HRj.out l hl ha
                      · exact HR.out i l (by omega) hl ha⟩
                    case measure => simp [intOf]; omega
              · obtain rfl : k = G.length := by omega
                have HN : Hid (z = true) := Lib.hid (HZ2.out.symm.trans (leadsI_iff.2 fun i j hi hj ha => HR.out i j hi hj ha))
                go_wp2_with fail
                go_ret
                exact ⟨ret_bool HN.out.symm, _, rfl⟩
      · have HL : Hid (z = false) := Lib.hid (HZ.out.symm.trans (mapOk_no3 (tells_no fun h => hfl h.1)))
        have hfne : ((f.length : Int) != (G.length : Int)) = true := by simp; omega
        clear hfl
        go_enter Try.func67, Try.ntmps67
        go_wp2_with fail
        refine (specOk_any _ _ _ _ _ hM HF.out).mono ?_
        rintro e w' ⟨rfl, rfl⟩
        rw [hg]
        go_wp2_with fail
        refine (specOk_any _ _ _ _ _ hM' HF'.out).mono ?_
        rintro e w' ⟨rfl, rfl⟩
        rw [hg']
        go_wp2_with fail
        go_ret
        exact ⟨ret_bool HL.out.symm, 0, rfl⟩
    · have hn : gOk H = false := by simpa using hg'
      have HL : Hid (z = false) := Lib.hid (HZ.out.symm.trans (mapOk_no2 hn))
      clear hg'
      go_enter Try.func67, Try.ntmps67
      go_wp2_with fail
      refine (specOk_any _ _ _ _ _ hM HF.out).mono ?_
      rintro e w' ⟨rfl, rfl⟩
      rw [hg]
      go_wp2_with fail
      refine (specOk_any _ _ _ _ _ hM' HF'.out).mono ?_
      rintro e w' ⟨rfl, rfl⟩
      rw [hn]
      go_wp2_with fail
      go_ret
      exact ⟨ret_bool HL.out.symm, 0, rfl⟩
  · have hn : gOk G = false := by simpa using hg
    have HL : Hid (z = false) := Lib.hid (HZ.out.symm.trans (mapOk_no1 hn))
    clear hg
    go_enter Try.func67, Try.ntmps67
    go_wp2_with fail
    refine (specOk_any _ _ _ _ _ hM HF.out).mono ?_
    rintro e w' ⟨rfl, rfl⟩
    rw [hn]
    go_wp2_with fail
    go_ret
    exact ⟨ret_bool HL.out.symm, 0, rfl⟩

end Go.Proofs.Ytofpjepndhpciaa
