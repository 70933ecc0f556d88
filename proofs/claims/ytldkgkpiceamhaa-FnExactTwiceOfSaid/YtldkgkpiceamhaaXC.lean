/-
  Several texts in one.
  spec.TwiceOf, walked.
  spec.LiftedWalk, walked.
  spec.CoversOf, walked.
-/
import Derived.Test.YtldkgkpiceamhaaXA
import Derived.Test.YtldkgkpiceamhaaM8
import Derived.Test.YtldkgkpiceamhaaZA
import Derived.BigQuiet
import Derived.Test.YtldkgkpiceamhaaXB
import Derived.Test.YtldkgkpiceamhaaZV
import Derived.Test.YtldkgkpiceamhaaM9
import Derived.Test.YtldkgkpiceamhaaYU
namespace Go.Proofs.Ytldkgkpiceamhaa
open Go.RowKit Go.Shelf Go.Deep

def twR (G : List (List Int)) (k j : Nat) : List Int := (List.range j).map fun i => if twP G k i = true then (1 : Int) else 0
theorem twR_succ (G : List (List Int)) (k j : Nat) : twR G k (j + 1) = twR G k j ++ [if twP G k j = true then 1 else 0] := by simp [twR, List.range_succ]
theorem twR_len (G : List (List Int)) (k j : Nat) : (twR G k j).length = j := by simp [twR]
theorem tw_row {G : List (List Int)} (h : g4 G = true) {k : Nat} (hk : k < 2 * G.length) : (twL G)[k]? = some (twR G k (2 * G.length)) := by
  rw [tw_yes h, rowsP_get hk]; rfl

set_option maxRecDepth 100000 in
set_option maxHeartbeats 8000000 in
theorem specTwO (a : Option Addr) (c : Nat) (G : List (List Int)) (n₀ : Nat) (w : World) (hM : Mat n₀ w a G) (hn : n₀ ≤ w.heap.size) (hF : Fit G) :
    Calls Try.prog 40 #[.slice a G.length c] w (MadeO (twL G) w) := by
  have HF := Lib.hid hF
  have hlf := hF.1
  clear hF
  obtain ⟨i0, hi, hz0, hz1, hz2⟩ := info_parts infoInts
  obtain ⟨i1, hj, hy0, hy1, hy2⟩ := info_parts infoInt
  by_cases hg4 : g4 G = true
  · have hg := (g4_iff.1 hg4).1
    have hl4 := (g4_iff.1 hg4).2
    have HG := Lib.hid (good_of hg)
    have HOK := Lib.hid hg
    have hl1 := HG.out.1
    have HPL := Lib.hid (tw_len hg4)
    have HBR : Hid (∀ k, k < 2 * G.length → (twL G)[k]? = some (twR G k (2 * G.length))) := Lib.hid fun k hk => tw_row hg4 hk
    obtain ⟨m, hm⟩ : ∃ m, 2 * G.length = m := ⟨_, rfl⟩
    have HM2 := Lib.hid hm
    have hm8 : m ≤ 8 := by omega
    have hmi : 2 * (G.length : Int) = (m : Int) := by omega
    rw [hm] at HPL HBR
    have d4 : decide ((G.length : Int) ≤ 4) = true := decide_eq_true (by omega)
    clear hg hg4 hm
    go_enter Try.func40, Try.ntmps40
    go_wp2_with fail
    go_loopw [3, 5] (fun v i wr => ∃ (k g cap : Nat), k ≤ m ∧ i = .int .i64 k ∧ v = .slice (some ⟨g, 0, none⟩) k cap ∧ Hid (OwnMat w.heap.size wr (.slice (some ⟨g, 0, none⟩) k cap) ((twL G).take k)) ∧ Below w.heap.size w wr) (fun _ i _ => m - (intOf i).toNat)
    case atStart => exact ⟨0, _, _, Nat.zero_le _, rfl, rfl, Lib.hid (OwnMat.start w (Nat.le_refl _)), (Below.refl _ _).alloc (Nat.le_refl _) _⟩
    case round =>
      obtain ⟨k, g, cap, hk, rfl, rfl, HO, hB⟩ := hrel
      have hws := hB.size
      have hMr : Mat n₀ wr a G := hM.below (hB.mono hn)
      by_cases hlt : k < m
      · have hki : (k : Int) < (m : Int) := by omega
        have HTK : Hid ((twL G).take (k + 1) = (twL G).take k ++ [twR G k m]) := Lib.hid (take_at (HBR.out k hlt))
        have HTL : Hid (((twL G).take k).length = k) := Lib.hid (by rw [List.length_take, HPL.out]; omega)
        have HRL := Lib.hid (twR_len G k m)
        have HOkr := Lib.hid (specOk_any a c G n₀ wr hMr HF.out)
        rw [HOK.out] at HOkr
        obtain ⟨wx, rfl⟩ : ∃ wx : World, wx = wr := ⟨_, rfl⟩
        obtain ⟨kq, hkq⟩ : ∃ q, k / G.length = q := ⟨_, rfl⟩
        obtain ⟨kr, hkr⟩ : ∃ q, k % G.length = q := ⟨_, rfl⟩
        have hkrl : kr < G.length := by rw [← hkr]; exact Nat.mod_lt _ (by omega)
        have hkdq : Int.tdiv (k : Int) (G.length : Int) = (kq : Int) := by rw [← hkq]; rfl
        have hkdr : Int.tmod (k : Int) (G.length : Int) = (kr : Int) := by rw [← hkr]; rfl
        have hkql : kq ≤ k := by rw [← hkq]; exact Nat.div_le_self _ _
        have hkw : wrap64 (kq : Int) = (kq : Int) := by unfold wrap64; omega
        have HKQ := Lib.hid hkq
        have HKR := Lib.hid hkr
        have hn0 : ¬ (G.length : Int) = 0 := by omega
        have hnn0 : ¬ G.length = 0 := by omega
        clear hkq hkr hkql
        go_wp2_with fail
        refine HOkr.out.mono ?_
        rintro e wq ⟨rfl, rfl⟩
        go_wp2_with fail
        go_loopw [6, 7] (fun v i wr => ∃ (j g' cap' : Nat), j ≤ m ∧ i = .int .i64 j ∧ v = .slice (some ⟨g', 0, none⟩) j cap' ∧ Hid (wr.ownsRow wx.heap.size 3 1 (.slice (some ⟨g', 0, none⟩) j cap') j ((twR G k j).map (Value.int .i64))) ∧ Below wx.heap.size wx wr) (fun _ i _ => m - (intOf i).toNat)
        case atStart => exact ⟨0, _, _, Nat.zero_le _, rfl, rfl, Lib.hid (World.ownsRow_lit (size := 1) wx #[] 0 (Nat.le_refl _) (Nat.zero_le _) rfl), (Below.refl _ _).alloc (Nat.le_refl _) _⟩
        case round =>
          obtain ⟨j, g', cap', hj', rfl, rfl, HR, hB2⟩ := hrel
          have hBs := hB2.size
          have hMi : Mat n₀ wr a G := hMr.below (hB2.mono (Nat.le_trans hn hws))
          by_cases hltj : j < m
          · obtain ⟨jq, hjq⟩ : ∃ q, j / G.length = q := ⟨_, rfl⟩
            obtain ⟨jr, hjr⟩ : ∃ q, j % G.length = q := ⟨_, rfl⟩
            have hjrl : jr < G.length := by rw [← hjr]; exact Nat.mod_lt _ (by omega)
            have hjdq : Int.tdiv (j : Int) (G.length : Int) = (jq : Int) := by rw [← hjq]; rfl
            have hjdr : Int.tmod (j : Int) (G.length : Int) = (jr : Int) := by rw [← hjr]; rfl
            have HTW : Hid (twP G k j = ((kq != jq) && arw G kr jr)) := Lib.hid (by unfold twP; rw [HKQ.out, HKR.out, hjq, hjr])
            have hjql : jq ≤ j := by rw [← hjq]; exact Nat.div_le_self _ _
            have hjw : wrap64 (jq : Int) = (jq : Int) := by unfold wrap64; omega
            have hji : (j : Int) < (m : Int) := by omega
            clear hjq hjr hjql
            by_cases e : kq = jq
            · have hne : ((kq : Int) != (jq : Int)) = false := by rw [e]; exact bne_self_eq_false _
              have HRow : Hid (twR G k (j + 1) = twR G k j ++ [0]) := Lib.hid (by rw [twR_succ, HTW.out, e]; simp)
              clear e hMi
              go_wp2_with fail
              go_quiet (fail)
              have HR2 : Hid ((wr.drewN nq).ownsRow wx.heap.size 3 1 (.slice (some ⟨g', 0, none⟩) j cap') j ((twR G k j).map (Value.int .i64))) := Lib.hid HR.out
              have HB2 : Hid (Below wx.heap.size wx (wr.drewN nq)) := Lib.hid (below_drewN hB2 nq)
              have HBS : Hid (wx.heap.size ≤ (wr.drewN nq).heap.size) := Lib.hid hBs
              obtain ⟨WQ, hWQ⟩ : ∃ W, wr.drewN nq = W := ⟨_, rfl⟩
              rw [hWQ] at HR2 HB2 HBS ⊢
              clear hWQ HR hB2 hBs
              have hown2 : WQ.ownsRow wx.heap.size 3 1 (.slice (some ⟨g', 0, none⟩) j cap') j ((twR G k j).map (Value.int .i64)) := HR2.out
              have hlg := hown2.lt g' (by simp [Value.ownBlock])
              go_wp2_with (at_builtin; go_must (refine wpList_append_own _ rfl _ _ 24 rfl wx.heap.size 3 i1 (.int .i64 0) 1 8 Try.underlying24 hj hy0 hy1 hy2 rfl (by decide) _ _ _ rfl (hown2.alloc _) ⟨WQ.heap.size, 0, none⟩ 1 1 [.int .i64 0] rfl rfl (cell_one_new _ _ _) (by simp [Value.oneCell']) (by unfold maxLen; omega) (by omega) (by simp; omega) ?_); go_must (intro v' w4 hown' hgrow _; obtain ⟨g2, cap2, rfl⟩ := ownsRow_succ hown'); go_must (have hB4 : Below wx.heap.size wx w4 := (HB2.out.alloc HBS.out _).grown hgrow (by simp; have := HBS.out; omega) (fun r e => by have e' : some g' = some r := e; cases e'; exact hlg.1)); go_must (have HO4 := Lib.hid hown'); clear hown' hgrow)
              go_roundw
              case rel => exact ⟨j + 1, g2, cap2, by omega, by go_num, rfl, Lib.hid (by rw [HRow.out, List.map_append]; exact HO4.out), hB4⟩
              case measure => simp [intOf]; omega
            · have hne : ((kq : Int) != (jq : Int)) = true := bne_iff_ne.2 fun h => e (Int.ofNat_inj.1 h)
              obtain ⟨b3, o3, a3, c3, xs, rfl, hb3, hc3, hI3, HX⟩ := hMi.at_ hkrl
              have hjx : jr < xs.length := by rw [HG.out.len HX.out]; exact hjrl
              obtain ⟨b4, o4, v, rfl, hb4, hc4, HY⟩ := hI3.at_ hjx
              have hkri : (kr : Int) < (G.length : Int) := by omega
              have hjri : (jr : Int) < (xs.length : Int) := by omega
              have HRow : Hid (twR G k (j + 1) = twR G k j ++ [v]) := Lib.hid (by
                have hv01 := (HG.out.2.2 xs (List.mem_of_getElem? HX.out)).2 v (List.mem_of_getElem? HY.out)
                rw [twR_succ, HTW.out, bne_iff_ne.2 e]
                have ha : arw G kr jr = (v == 1) := by unfold arw; rw [ent_eq HX.out HY.out]
                rw [ha]
                rcases hv01 with rfl | rfl <;> rfl)
              clear e hMi hI3
              go_wp2_with fail
              go_quiet (fail)
              have hc3q : (wr.drewN nq).cell? ⟨b3, o3 + kr, none⟩ = some (.slice (some ⟨b4, o4, none⟩) xs.length c3) := hc3
              have hc4q : (wr.drewN nq).cell? ⟨b4, o4 + jr, none⟩ = some (.int .i64 v) := hc4
              have HR3 : Hid ((wr.drewN nq).ownsRow wx.heap.size 3 1 (.slice (some ⟨g', 0, none⟩) j cap') j ((twR G k j).map (Value.int .i64))) := Lib.hid HR.out
              have HB3 : Hid (Below wx.heap.size wx (wr.drewN nq)) := Lib.hid (below_drewN hB2 nq)
              have HBS3 : Hid (wx.heap.size ≤ (wr.drewN nq).heap.size) := Lib.hid hBs
              obtain ⟨W1, hW1⟩ : ∃ W, wr.drewN nq = W := ⟨_, rfl⟩
              rw [hW1] at hc3q hc4q HR3 HB3 HBS3 ⊢
              clear hW1 HR hB2 hBs hc3 hc4
              go_wp2_with fail
              go_quiet (fail)
              have HR2 : Hid ((W1.drewN nq).ownsRow wx.heap.size 3 1 (.slice (some ⟨g', 0, none⟩) j cap') j ((twR G k j).map (Value.int .i64))) := Lib.hid HR3.out
              have HB2 : Hid (Below wx.heap.size wx (W1.drewN nq)) := Lib.hid (below_drewN HB3.out nq)
              have HBS : Hid (wx.heap.size ≤ (W1.drewN nq).heap.size) := Lib.hid HBS3.out
              obtain ⟨WQ, hWQ⟩ : ∃ W, W1.drewN nq = W := ⟨_, rfl⟩
              rw [hWQ] at HR2 HB2 HBS ⊢
              clear hWQ HR3 HB3 HBS3 hc3q hc4q
              have hown2 : WQ.ownsRow wx.heap.size 3 1 (.slice (some ⟨g', 0, none⟩) j cap') j ((twR G k j).map (Value.int .i64)) := HR2.out
              have hlg := hown2.lt g' (by simp [Value.ownBlock])
              go_wp2_with (at_builtin; go_must (refine wpList_append_own _ rfl _ _ 24 rfl wx.heap.size 3 i1 (.int .i64 0) 1 8 Try.underlying24 hj hy0 hy1 hy2 rfl (by decide) _ _ _ rfl (hown2.alloc _) ⟨WQ.heap.size, 0, none⟩ 1 1 [.int .i64 v] rfl rfl (cell_one_new _ _ _) (by simp [Value.oneCell']) (by unfold maxLen; omega) (by omega) (by simp; omega) ?_); go_must (intro v' w4 hown' hgrow _; obtain ⟨g2, cap2, rfl⟩ := ownsRow_succ hown'); go_must (have hB4 : Below wx.heap.size wx w4 := (HB2.out.alloc HBS.out _).grown hgrow (by simp; have := HBS.out; omega) (fun r e => by have e' : some g' = some r := e; cases e'; exact hlg.1)); go_must (have HO4 := Lib.hid hown'); clear hown' hgrow)
              go_roundw
              case rel => exact ⟨j + 1, g2, cap2, by omega, by go_num, rfl, Lib.hid (by rw [HRow.out, List.map_append]; exact HO4.out), hB4⟩
              case measure => simp [intOf]; omega
          · obtain rfl : j = m := by omega
            have hO2 := HO.out.below hB2
            obtain ⟨vs, hown, hrows⟩ := hO2
            rw [HTL.out] at hown
            have HW := Lib.hid hrows
            clear hrows
            have hlg := hown.lt g (by simp [Value.ownBlock])
            have HR2 : Hid (wr.ownsRow w.heap.size 3 1 (.slice (some ⟨g', 0, none⟩) j cap') (twR G k j).length ((twR G k j).map (Value.int .i64))) := by
              rw [HRL.out]; exact Joins.ownsRow_le HR.out hws
            have hBr : Below w.heap.size w wr := hB.trans (hB2.mono hws)
            go_wp2_with (at_builtin; go_must (refine wpList_append_own _ rfl _ _ 23 rfl w.heap.size 24 i0 (.slice none 0 0) 1 24 Try.underlying23 hi hz0 hz1 hz2 rfl (by decide) _ _ _ rfl (hown.alloc _) ⟨wr.heap.size, 0, none⟩ 1 1 [.slice (some ⟨g', 0, none⟩) j cap'] rfl rfl (cell_one_new _ _ _) (by simp [Value.oneCell']) (by unfold maxLen; omega) (by omega) (by simp; omega) ?_); go_must (intro v' w4 hown' hgrow _; obtain ⟨g2, cap2, rfl⟩ := ownsRow_succ hown'); go_must (have HO4 := Lib.hid (OwnMat.appended (by rw [HTL.out]; exact hown) HW.out HR2.out (by rw [HTL.out]; exact hown') hgrow)); go_must (have hB4 : Below w.heap.size w w4 := (hBr.alloc (by omega) _).grown hgrow (by simp; omega) (fun r e => by have e' : some g = some r := e; cases e'; exact hlg.1)); clear hown' hgrow)
            go_roundw
            case rel => exact ⟨k + 1, g2, cap2, by omega, by go_num, rfl, Lib.hid (by rw [HTK.out]; exact HO4.out), hB4⟩
            case measure => simp [intOf]; omega
      · obtain rfl : k = m := by omega
        have HR2 : Hid (OwnMat w.heap.size wr (.slice (some ⟨g, 0, none⟩) k cap) (twL G)) := Lib.hid (by
          have h := HO.out
          rwa [List.take_of_length_le (by rw [HPL.out]; exact Nat.le_refl _)] at h)
        clear HO
        go_wp2_with fail
        go_ret
        exact ⟨_, cap, ⟨by rw [HPL.out]; rfl, hB⟩, by rw [HPL.out]; exact HR2.out⟩
  · have hg' : g4 G = false := by simpa using hg4
    rw [tw_no hg']
    have HNO : Hid (gOk G = true → ¬ G.length ≤ 4) := Lib.hid fun h h4 => hg4 (g4_iff.2 ⟨h, h4⟩)
    obtain ⟨m, HM⟩ : ∃ m, Hid (gOk G = m) := ⟨_, rfl⟩
    rw [HM.out] at HNO
    clear hg4 hg'
    go_enter Try.func40, Try.ntmps40
    go_wp2_with fail
    go_loopw [3, 5] (fun v i wr => i = .int .i64 0 ∧ v = .slice (some ⟨w.heap.size, 0, none⟩) 0 0 ∧ wr = w.alloc (.cells #[] 24)) (fun _ _ _ => 0)
    case atStart => exact ⟨rfl, rfl, rfl⟩
    case round =>
      obtain ⟨rfl, rfl, rfl⟩ := hrel
      have HOkr := Lib.hid (specOk_any a c G n₀ _ (hM.below ((Below.refl _ w).alloc hn (.cells #[] 24))) HF.out)
      rw [HM.out] at HOkr
      by_cases h0 : 0 < G.length
      · cases m with
        | false =>
          go_wp2_with fail
          refine HOkr.out.mono ?_
          rintro e wq ⟨rfl, rfl⟩
          go_wp2_with fail
          go_ret
          exact ⟨_, 0, ⟨rfl, (Below.refl _ w).alloc (Nat.le_refl _) _⟩, OwnMat.start w (Nat.le_refl _)⟩
        | true =>
          have h4 := HNO.out rfl
          have d4 : decide ((G.length : Int) ≤ 4) = false := decide_eq_false (by omega)
          go_wp2_with fail
          refine HOkr.out.mono ?_
          rintro e wq ⟨rfl, rfl⟩
          go_wp2_with fail
          go_ret
          exact ⟨_, 0, ⟨rfl, (Below.refl _ w).alloc (Nat.le_refl _) _⟩, OwnMat.start w (Nat.le_refl _)⟩
      · go_wp2_with fail
        go_ret
        exact ⟨_, 0, ⟨rfl, (Below.refl _ w).alloc (Nat.le_refl _) _⟩, OwnMat.start w (Nat.le_refl _)⟩

theorem specTwR (a : Option Addr) (c : Nat) (G : List (List Int)) (w : World) (hM : Mat w.heap.size w a G) (hF : Fit G) : Calls Try.prog 40 #[.slice a G.length c] w (ReadM (twL G) w) :=
  (specTwO a c G w.heap.size w hM (Nat.le_refl _) hF).mono fun _ _ h => by
    obtain ⟨a, c, h1, h2⟩ := h
    exact ⟨a, c, h1, h2.mat⟩

end Go.Proofs.Ytldkgkpiceamhaa

namespace Go.Proofs.Ytldkgkpiceamhaa
open Go.RowKit Go.Shelf Go.Deep

theorem cov_kids {G H : List (List Int)} {f wl : List Int} {z : Int} (h : lifK G H f wl z = true) {k : Nat} (h1 : 1 ≤ k) (hk : k < wl.length) :
    (lifL G f wl z.toNat (k - 1)).length = k ∧ Tells k G.length (lifL G f wl z.toNat (k - 1)) ∧ ∃ j, j < G.length ∧ arw G (nd (lifL G f wl z.toNat (k - 1)) (k - 1)) j = true ∧ nd f j = nd wl k ∧ lifL G f wl z.toNat k = lifL G f wl z.toNat (k - 1) ++ [(j : Int)] ∧
      ∀ i, i < G.length → arw G (nd (lifL G f wl z.toNat (k - 1)) (k - 1)) i = true → nd f i = nd wl k → i = j := by
  obtain ⟨hS, hN⟩ := lif_st h (k - 1) (by omega)
  obtain ⟨j, hj, hL⟩ := hN (by omega)
  rw [show k - 1 + 1 = k by omega] at hj hL
  obtain ⟨j1, j2, j3⟩ := kid_some hj
  have hlen : (lifL G f wl z.toNat (k - 1)).length = k := by rw [hS.len]; omega
  have hT : Tells k G.length (lifL G f wl z.toNat (k - 1)) := by have := hS.tells; rwa [show k - 1 + 1 = k by omega] at this
  obtain ⟨hc, hw, _, _⟩ := lifK_iff.1 h
  obtain ⟨_, _, hwT, _⟩ := walk_iff.1 hw
  have ha : nd (lifL G f wl z.toNat (k - 1)) (k - 1) < G.length := nd_tells hT (by omega)
  have hy : nd wl k < H.length := nd_tells hwT hk
  exact ⟨hlen, hT, j, j1, j2, j3, hL, fun i hi ai fi => kid_only hc ha hy hi j1 ai j2 fi j3⟩
theorem liwI_le {G H : List (List Int)} {f wl : List Int} {z : Int} : (liwI G H f wl z).length ≤ 1048576 := by
  cases h : lifK G H f wl z with
  | true =>
    rw [(lif_fin h).2.1]
    have := (walk_iff.1 (lifK_iff.1 h).2.1).2.1.2
    omega
  | false => rw [lif_no h]; simp
theorem lif_all {G H : List (List Int)} {f wl : List Int} {z : Int} (h : lifK G H f wl z = true) : (liwI G H f wl z).length = wl.length := (lif_fin h).2.1

theorem Calls_quiet0 {P : Program} {f : FuncId} {args : Array Value} {w : World} {n : Nat} {v : Value} (h : Calls P f args (w.drewN n) (Still v (w.drewN n))) :
    Calls P f args (w.drewN n) fun e w'' => e = .returned v ∧ ∃ m, w'' = w.drewN m :=
  h.mono fun _ _ ⟨he, m, hm⟩ => ⟨he, n + m, by rw [hm, World.drewN_drewN]⟩

set_option maxRecDepth 100000 in
set_option maxHeartbeats 8000000 in
theorem specLif (a1 : Option Addr) (c1 : Nat) (a2 : Option Addr) (c2 : Nat) (a3 : Option Addr) (c3 : Nat) (a4 : Option Addr) (c4 : Nat) (G H : List (List Int)) (f wl : List Int) (z : Int) (n₀ : Nat) (w : World) (hM : Mat n₀ w a1 G) (hM' : Mat n₀ w a2 H) (hI : Ints n₀ w a3 f) (hI' : Ints n₀ w a4 wl) (hn : n₀ ≤ w.heap.size) (hF : Fit G) (hF' : Fit H) (hl : f.length ≤ 1048576) (hl' : wl.length ≤ 1048576) :
    Calls Try.prog 27 #[.slice a1 G.length c1, .slice a2 H.length c2, .slice a3 f.length c3, .slice a4 wl.length c4, .int .i64 z] w (ReadLB (liwI G H f wl z) (lifK G H f wl z) w) := by
  obtain ⟨i1, hj, hy0, hy1, hy2⟩ := info_parts infoInt
  have hlG := hF.1
  obtain ⟨cv, HCV⟩ : ∃ b, Hid (covI G H f = b) := ⟨_, rfl⟩
  obtain ⟨wk, HWK⟩ : ∃ b, Hid (walkI H wl = b) := ⟨_, rfl⟩
  have HC : Hid (∀ n, Calls Try.prog 17 #[.slice a1 G.length c1, .slice a2 H.length c2, .slice a3 f.length c3] (w.drewN n) (Still (.bool cv) (w.drewN n))) := Lib.hid fun n => by
    have := specCov a1 c1 a2 c2 a3 c3 G H f n₀ (w.drewN n) hM hM' hI hF hF' hl
    rwa [HCV.out] at this
  have HW : Hid (∀ n, Calls Try.prog 23 #[.slice a2 H.length c2, .slice a4 wl.length c4] (w.drewN n) (Still (.bool wk) (w.drewN n))) := Lib.hid fun n => by
    have := specWalk a2 c2 a4 c4 H wl n₀ (w.drewN n) hM' hI' hF' hl'
    rwa [HWK.out] at this
  cases cv with
  | false =>
    have hk : lifK G H f wl z = false := by unfold lifK; rw [HCV.out]; rfl
    rw [hk, lif_no hk]
    clear hk
    go_enter Try.func27, Try.ntmps27
    go_wp2_with fail
    go_quiet ((first | (go_at_call 17; exact Calls_quiet0 (HC.out _))))
    go_wp2_with fail
    go_ret2
    exact ⟨_, 0, ⟨rfl, (below_drewN (Below.refl _ _) _).alloc (Nat.le_refl _) _⟩, fun h => absurd rfl h⟩
  | true =>
    cases wk with
    | false =>
      have hk : lifK G H f wl z = false := by unfold lifK; rw [HWK.out]; simp
      rw [hk, lif_no hk]
      clear hk
      go_enter Try.func27, Try.ntmps27
      go_wp2_with fail
      go_quiet ((first | (go_at_call 17; exact Calls_quiet0 (HC.out _)) | (go_at_call 23; exact Calls_quiet0 (HW.out _))))
      go_wp2_with fail
      go_ret2
      exact ⟨_, 0, ⟨rfl, (below_drewN (Below.refl _ _) _).alloc (Nat.le_refl _) _⟩, fun h => absurd rfl h⟩
    | true =>
      obtain ⟨hwg, hw13, hwT, hwa⟩ := walk_iff.1 HWK.out
      have hmp := (cov_iff.1 HCV.out).1
      obtain ⟨⟨hgG, hgH⟩, hfm⟩ := mapOk_iff.1 hmp
      have HGD := Lib.hid (good_of hgG)
      have hG9 := HGD.out.2.1
      have HfT := Lib.hid hfm.1
      have HwT := Lib.hid hwT
      have hfl : f.length = G.length := hfm.1.1
      have HFL := Lib.hid hfl
      have hfl1 : f.length ≤ G.length := by omega
      have hfl2 : G.length ≤ f.length := by omega
      clear hfl
      have hw1 : 1 ≤ wl.length := hw13.1
      have hw2 : wl.length ≤ 13 := hw13.2
      clear hwg hwa hgG hgH hfm hmp hwT hw13
      by_cases hz : 0 ≤ z ∧ z < (G.length : Int)
      · obtain ⟨s, rfl⟩ : ∃ s : Nat, z = (s : Int) := ⟨z.toNat, by omega⟩
        have hs : s < G.length := by omega
        have hsf : s < f.length := by omega
        obtain ⟨b3, o3, v3, rfl, hb3, hc3, HV3⟩ := hI.at_ hsf
        obtain ⟨b4, o4, v4, rfl, hb4, hc4, HV4⟩ := hI'.at_ (k := 0) hw1
        have HL : Hid (∀ n, Calls Try.prog 59 #[.int .i64 (s : Int), .int .i64 0, .int .i64 ((G.length : Int) - 1)] (w.drewN n) (Still (.bool true) (w.drewN n))) := Lib.hid fun n => in_still _ _ _ _ (decide_eq_true (by omega))
        have hv3 := HfT.out.2 s v3 HV3.out
        have hv4 := HwT.out.2 0 v4 HV4.out
        have HN3 : Hid (nd f s = v3.toNat) := Lib.hid (nd_eq HV3.out)
        have HN4 : Hid (nd wl 0 = v4.toNat) := Lib.hid (nd_eq HV4.out)
        have hsi : (s : Int) < (G.length : Int) := by omega
        have hsi2 : (s : Int) < (f.length : Int) := by omega
        have hw0 : (0 : Int) < (wl.length : Int) := by omega
        replace hc4 : w.cell? ⟨b4, o4, none⟩ = some (.int .i64 v4) := hc4
        by_cases he : v3 = v4
        · have hne : (v3 != v4) = false := by rw [he]; exact bne_self_eq_false _
          have HK : Hid (lifK G H f wl (s : Int) = true) := Lib.hid (lifK_iff.2 ⟨HCV.out, HWK.out, hz, by rw [Int.toNat_natCast, HN3.out, HN4.out, he]⟩)
          rw [HK.out, lif_yes HK.out]
          have HKD : Hid (∀ k, 1 ≤ k → k < wl.length → (lifL G f wl s (k - 1)).length = k ∧ Tells k G.length (lifL G f wl s (k - 1)) ∧ ∃ j, j < G.length ∧ arw G (nd (lifL G f wl s (k - 1)) (k - 1)) j = true ∧ nd f j = nd wl k ∧ lifL G f wl s k = lifL G f wl s (k - 1) ++ [(j : Int)] ∧
              ∀ i, i < G.length → arw G (nd (lifL G f wl s (k - 1)) (k - 1)) i = true → nd f i = nd wl k → i = j) := Lib.hid fun k h1 h2 => by
            have := cov_kids HK.out h1 h2
            rwa [Int.toNat_natCast] at this
          have HAll : Hid ((lifL G f wl s (wl.length - 1)).length = wl.length) := Lib.hid (by
            have := lif_all HK.out
            rwa [lif_yes HK.out, Int.toNat_natCast] at this)
          rw [Int.toNat_natCast]
          clear he hz hv3 hv4 HN3 HN4
          go_enter Try.func27, Try.ntmps27
          go_wp2_with fail
          go_quiet ((first | (go_at_call 17; exact Calls_quiet0 (HC.out _)) | (go_at_call 23; exact Calls_quiet0 (HW.out _)) | (go_at_call 59; exact Calls_quiet0 (HL.out _))))
          go_wp2_with fail
          have hB0 : Below w.heap.size w ((w.drewN nq).alloc (.cells #[.int .i64 (s : Int)] 3)) := (below_drewN (Below.refl _ _) nq).alloc (Nat.le_refl _) _
          have hO0 : ((w.drewN nq).alloc (.cells #[.int .i64 (s : Int)] 3)).ownsRow w.heap.size 3 1 (.slice (some ⟨w.heap.size, 0, none⟩) 1 1) 1 [.int .i64 (s : Int)] := World.ownsRow_lit (size := 1) (w.drewN nq) #[.int .i64 (s : Int)] 1 (Nat.le_refl _) (by decide) rfl
          go_loopw [12, 13] (fun v i wr => ∃ (k g cap : Nat), 1 ≤ k ∧ k ≤ wl.length ∧ i = .int .i64 k ∧ v = .slice (some ⟨g, 0, none⟩) k cap ∧ Hid (wr.ownsRow w.heap.size 3 1 (.slice (some ⟨g, 0, none⟩) k cap) k ((lifL G f wl s (k - 1)).map (Value.int .i64))) ∧ Below w.heap.size w wr) (fun _ i _ => wl.length - (intOf i).toNat)
          case atStart => exact ⟨1, _, _, by omega, hw1, rfl, rfl, Lib.hid hO0, hB0⟩
          case round =>
            obtain ⟨k, g, cap, hk1, hk, rfl, rfl, HO, hB⟩ := hrel
            clear hB0 hO0 hc3 hc4
            have hws := hB.size
            by_cases hlt : k < wl.length
            · obtain ⟨hlen, hT, j0, hj0, ha0, hf0, hL, honly⟩ := HKD.out k hk1 hlt
              obtain ⟨y, hy⟩ : ∃ y, (lifL G f wl s (k - 1))[k - 1]? = some y := ⟨_, List.getElem?_eq_getElem (by omega)⟩
              obtain ⟨hy0, hy1⟩ := hT.2 (k - 1) y hy
              obtain ⟨a, rfl⟩ : ∃ a : Nat, y = (a : Int) := ⟨y.toNat, by omega⟩
              have ha : a < G.length := by omega
              have HA : Hid (nd (lifL G f wl s (k - 1)) (k - 1) = a) := Lib.hid (by rw [nd_eq hy]; exact Int.toNat_natCast _)
              have hcg : wr.cell? ⟨g, k - 1, none⟩ = some (.int .i64 (a : Int)) := by
                rw [HO.out.cellAt (k - 1) (by omega), List.getElem?_map, hy]; rfl
              have hMr : Mat n₀ wr a1 G := hM.below (hB.mono hn)
              have hIr := hI.below (hB.mono hn)
              have hIr' := hI'.below (hB.mono hn)
              obtain ⟨b1, o1, a5, c5, rs, rfl, hb1, hc1, hI1, HRS⟩ := hMr.at_ ha
              obtain ⟨b6, o6, u, e6, hb6, hc6, HU⟩ := hIr'.at_ hlt
              cases e6
              have HRL := Lib.hid (HGD.out.len HRS.out)
              have HJ0 : Hid (arw G a j0 = true ∧ nd f j0 = nd wl k) := Lib.hid ⟨by rw [← HA.out]; exact ha0, hf0⟩
              have HON : Hid (∀ i, i < G.length → arw G a i = true → nd f i = nd wl k → i = j0) := Lib.hid fun i h1 h2 h3 => honly i h1 (by rw [HA.out]; exact h2) h3
              have HLL := Lib.hid hL
              have HNK : Hid (nd wl k = u.toNat) := Lib.hid (nd_eq HU.out)
              have hu := HwT.out.2 k u HU.out
              have hki : (k : Int) - 1 = ((k - 1 : Nat) : Int) := by omega
              have hki0 : (0 : Int) ≤ (k : Int) - 1 := by omega
              have hki1 : (k : Int) - 1 < (k : Int) := by omega
              have hkli : (k : Int) < (wl.length : Int) := by omega
              have hai : (a : Int) < (G.length : Int) := by omega
              obtain ⟨wx, rfl⟩ : ∃ wx : World, wx = wr := ⟨_, rfl⟩
              clear hlen hT hy ha0 hf0 hL honly hy0 hy1 hMr hIr'
              go_wp2_with fail
              go_loopw [12, 14] (fun v i wr => ∃ (j n : Nat), j ≤ j0 ∧ i = .int .i64 j ∧ v = .slice (some ⟨g, 0, none⟩) k cap ∧ wr = wx.drewN n) (fun _ i _ => G.length - (intOf i).toNat)
              case atStart => exact ⟨0, 0, Nat.zero_le _, rfl, rfl, rfl⟩
              case round =>
                obtain ⟨j, n, hjj, rfl, rfl, rfl⟩ := hrel
                have hjl : j < G.length := by omega
                have hjr : j < rs.length := by rw [HRL.out]; exact hjl
                have hjf : j < f.length := by omega
                obtain ⟨b7, o7, v7, e7, hb7, hc7, HV7⟩ := hI1.at_ hjr
                subst e7
                obtain ⟨b8, o8, v8, e8, hb8, hc8, HV8⟩ := hIr.at_ hjf
                cases e8
                have hji : (j : Int) < (G.length : Int) := by omega
                have hji2 : (j : Int) < (rs.length : Int) := by omega
                have hji3 : (j : Int) < (f.length : Int) := by omega
                have hv8 := HfT.out.2 j v8 HV8.out
                have HN8 : Hid (nd f j = v8.toNat) := Lib.hid (nd_eq HV8.out)
                have HAJ : Hid (arw G a j = (v7 == 1)) := Lib.hid (by unfold arw; rw [ent_eq HRS.out HV7.out])
                have hv01 := (HGD.out.2.2 rs (List.mem_of_getElem? HRS.out)).2 v7 (List.mem_of_getElem? HV7.out)
                by_cases ej : j = j0
                · have h7 : v7 = 1 := by
                    have := HJ0.out.1
                    rw [← ej, HAJ.out] at this
                    exact eq_of_beq this
                  have h8 : v8 = u := by
                    have := HJ0.out.2
                    rw [← ej, HN8.out, HNK.out] at this
                    omega
                  have hbe : (v8 == u) = true := by rw [h8]; exact beq_self_eq_true _
                  subst h7
                  have HLJ : Hid (lifL G f wl s k = lifL G f wl s (k - 1) ++ [(j : Int)]) := Lib.hid (by rw [ej]; exact HLL.out)
                  clear h8 hv01 ej hjj hv8 hu hI1
                  go_wp2_with fail
                  go_quiet (fail)
                  have hOq : ((wx.drewN n).drewN nq).ownsRow w.heap.size 3 1 (.slice (some ⟨g, 0, none⟩) k cap) k ((lifL G f wl s (k - 1)).map (Value.int .i64)) := HO.out
                  have hBq : Below w.heap.size w ((wx.drewN n).drewN nq) := below_drewN (below_drewN hB n) nq
                  have hsq : w.heap.size ≤ ((wx.drewN n).drewN nq).heap.size := hws
                  obtain ⟨WQ, hWQ⟩ : ∃ W, (wx.drewN n).drewN nq = W := ⟨_, rfl⟩
                  rw [hWQ] at hOq hBq hsq ⊢
                  have hlg := hOq.lt g (by simp [Value.ownBlock])
                  clear hWQ HO hB hws hcg hc1 hc6 hc7 hc8 hIr
                  go_wp2_with (at_builtin; go_must (refine wpList_append_own _ rfl _ _ 24 rfl w.heap.size 3 i1 (.int .i64 0) 1 8 Try.underlying24 hj hy0 hy1 hy2 rfl (by decide) _ _ _ rfl (hOq.alloc _) ⟨WQ.heap.size, 0, none⟩ 1 1 [.int .i64 (j : Int)] rfl rfl (cell_one_new _ _ _) (by simp [Value.oneCell']) (by unfold maxLen; omega) (by omega) (by simp; omega) ?_); go_must (intro v' w4 hown' hgrow _; obtain ⟨g2, cap2, rfl⟩ := ownsRow_succ hown'); go_must (have hB4 : Below w.heap.size w w4 := (hBq.alloc hsq _).grown hgrow (by simp; omega) (fun r e => by have e' : some g = some r := e; cases e'; exact hlg.1)); go_must (have HO4 := Lib.hid hown'); clear hown' hgrow)
                  go_roundw
                  case rel => exact ⟨k + 1, g2, cap2, by omega, by omega, by go_num, rfl, Lib.hid (by rw [show k + 1 - 1 = k by omega, HLJ.out, List.map_append]; exact HO4.out), hB4⟩
                  case measure => simp [intOf]; omega
                · have hno : v7 = 0 ∨ (v7 = 1 ∧ (v8 == u) = false) := by
                    rcases hv01 with h | h
                    · exact .inl h
                    · refine .inr ⟨h, beq_eq_false_iff_ne.2 fun e => ej ?_⟩
                      refine HON.out j hjl (by rw [HAJ.out, h]; rfl) ?_
                      rw [HN8.out, HNK.out, e]
                  have hjj2 : j + 1 ≤ j0 := by omega
                  clear hv01 ej hjj hv8 hu
                  rcases hno with h7 | ⟨h7, h8⟩
                  · subst h7
                    go_wp2_with fail
                    go_quiet (fail)
                    go_wp2_with fail
                    go_roundw
                    case rel => exact ⟨j + 1, _, hjj2, by go_num, rfl, by first | rfl | exact drewN_two _ _ _⟩
                    case measure => simp [intOf]; omega
                  · subst h7
                    go_wp2_with fail
                    go_quiet (fail)
                    go_wp2_with fail
                    go_roundw
                    case rel => exact ⟨j + 1, _, hjj2, by go_num, rfl, by first | rfl | exact drewN_two _ _ _⟩
                    case measure => simp [intOf]; omega
            · obtain rfl : k = wl.length := by omega
              go_wp2_with fail
              go_ret2
              exact ⟨_, cap, ⟨by rw [HAll.out]; rfl, hB⟩, by have := own_intsQ (xs := lifL G f wl s (wl.length - 1)) (by rw [HAll.out]; exact HO.out); exact this⟩
        · have hne : (v3 != v4) = true := bne_iff_ne.2 he
          have hk : lifK G H f wl (s : Int) = false := by
            rw [Bool.eq_false_iff]; intro h
            have h2 := (lifK_iff.1 h).2.2.2
            rw [Int.toNat_natCast, HN3.out, HN4.out] at h2
            exact he (by omega)
          rw [hk, lif_no hk]
          clear he hk hz hv3 hv4
          go_enter Try.func27, Try.ntmps27
          go_wp2_with fail
          go_quiet ((first | (go_at_call 17; exact Calls_quiet0 (HC.out _)) | (go_at_call 23; exact Calls_quiet0 (HW.out _)) | (go_at_call 59; exact Calls_quiet0 (HL.out _))))
          go_wp2_with fail
          go_ret2
          exact ⟨_, 0, ⟨rfl, (below_drewN (Below.refl _ _) _).alloc (Nat.le_refl _) _⟩, fun h => absurd rfl h⟩
      · have HL : Hid (∀ n, Calls Try.prog 59 #[.int .i64 z, .int .i64 0, .int .i64 ((G.length : Int) - 1)] (w.drewN n) (Still (.bool false) (w.drewN n))) := Lib.hid fun n => in_still _ _ _ _ (decide_eq_false (by omega))
        have hk : lifK G H f wl z = false := by
          rw [Bool.eq_false_iff]; intro h
          exact hz (lifK_iff.1 h).2.2.1
        rw [hk, lif_no hk]
        clear hk hz
        go_enter Try.func27, Try.ntmps27
        go_wp2_with fail
        go_quiet ((first | (go_at_call 17; exact Calls_quiet0 (HC.out _)) | (go_at_call 23; exact Calls_quiet0 (HW.out _)) | (go_at_call 59; exact Calls_quiet0 (HL.out _))))
        go_wp2_with fail
        go_ret2
        exact ⟨_, 0, ⟨rfl, (below_drewN (Below.refl _ _) _).alloc (Nat.le_refl _) _⟩, fun h => absurd rfl h⟩

end Go.Proofs.Ytldkgkpiceamhaa

namespace Go.Proofs.Ytldkgkpiceamhaa
open Go.RowKit Go.Shelf Go.Deep

/-- ALL COVERS, in the order of rows. -/
def cvsL (G H : List (List Int)) : List (List Int) := (mapsL G H).filter fun f => covI G H f
theorem cvs_fit {G H : List (List Int)} : Fit (cvsL G H) := by
  have h := mapsL_fit G H
  exact ⟨Nat.le_trans (List.length_filter_le _ _) h.1, fun xs hx => h.2 xs (List.mem_filter.1 hx).1⟩
def cvsZ (G H : List (List Int)) (vs : List Value) (k : Nat) : List (Value × List Int) := ((vs.zip (mapsL G H)).take k).filter fun p => covI G H p.2
theorem cvsZ_yes {G H : List (List Int)} {vs : List Value} {k : Nat} {v : Value} {xs : List Int} (hv : vs[k]? = some v) (hx : (mapsL G H)[k]? = some xs) (h : covI G H xs = true) : cvsZ G H vs (k + 1) = cvsZ G H vs k ++ [(v, xs)] := by
  have hz : (vs.zip (mapsL G H))[k]? = some (v, xs) := by rw [List.getElem?_zip_eq_some]; exact ⟨hv, hx⟩
  unfold cvsZ
  rw [take_at hz, List.filter_append]
  simp [h]
theorem cvsZ_no {G H : List (List Int)} {vs : List Value} {k : Nat} {v : Value} {xs : List Int} (hv : vs[k]? = some v) (hx : (mapsL G H)[k]? = some xs) (h : covI G H xs = false) : cvsZ G H vs (k + 1) = cvsZ G H vs k := by
  have hz : (vs.zip (mapsL G H))[k]? = some (v, xs) := by rw [List.getElem?_zip_eq_some]; exact ⟨hv, hx⟩
  unfold cvsZ
  rw [take_at hz, List.filter_append]
  simp [h]
theorem cvsZ_le {G H : List (List Int)} {vs : List Value} {k : Nat} : (cvsZ G H vs k).length ≤ k := by
  unfold cvsZ
  refine Nat.le_trans (List.length_filter_le _ _) ?_
  rw [List.length_take]; omega
theorem cvsZ_all {G H : List (List Int)} {vs : List Value} (h : vs.length = (mapsL G H).length) : (cvsZ G H vs (mapsL G H).length).map Prod.snd = cvsL G H := by
  unfold cvsZ cvsL
  rw [List.take_of_length_le (by rw [List.length_zip]; omega)]
  have e : (vs.zip (mapsL G H)).map Prod.snd = mapsL G H := List.map_snd_zip (by omega)
  conv => rhs; rw [← e]
  rw [List.filter_map]; rfl
theorem cvsZ_mem {G H : List (List Int)} {vs : List Value} {k i : Nat} {x : Value} {xs : List Int} (hx : ((cvsZ G H vs k).map Prod.fst)[i]? = some x) (hxs : ((cvsZ G H vs k).map Prod.snd)[i]? = some xs) : ∃ j : Nat, vs[j]? = some x ∧ (mapsL G H)[j]? = some xs := by
  rw [List.getElem?_map] at hx hxs
  cases hz : (cvsZ G H vs k)[i]? with
  | none => rw [hz] at hx; cases hx
  | some p =>
    rw [hz] at hx hxs
    have h1 := List.mem_of_mem_take (List.mem_filter.1 (List.mem_of_getElem? hz)).1
    obtain ⟨j, hj⟩ := List.mem_iff_getElem?.1 h1
    rw [List.getElem?_zip_eq_some] at hj
    have e1 : p.1 = x := by simpa using hx
    have e2 : p.2 = xs := by simpa using hxs
    exact ⟨j, by rw [← e1]; exact hj.1, by rw [← e2]; exact hj.2⟩

set_option maxRecDepth 100000 in
set_option maxHeartbeats 8000000 in
theorem specCvsO (a : Option Addr) (c : Nat) (a' : Option Addr) (c' : Nat) (G H : List (List Int)) (w : World) (hM : Mat w.heap.size w a G) (hM' : Mat w.heap.size w a' H) (hF : Fit G) (hF' : Fit H) :
    Calls Try.prog 36 #[.slice a G.length c, .slice a' H.length c'] w (MadeO (cvsL G H) w) := by
  obtain ⟨i0, hi, hz0, hz1, hz2⟩ := info_parts infoInts
  have HF := Lib.hid hF
  have HF' := Lib.hid hF'
  have HFL := Lib.hid (mapsL_fit G H)
  have hlf := hF.1
  have hlf' := hF'.1
  have hll := HFL.out.1
  have hB0 := (Below.refl w.heap.size w).alloc (Nat.le_refl _) (.cells #[] 24)
  have hown0 : (w.alloc (.cells #[] 24)).ownsRow w.heap.size 24 1 (.slice (some ⟨w.heap.size, 0, none⟩) 0 0) 0 [] := World.ownsRow_lit (size := 1) w #[] 0 (Nat.le_refl _) (Nat.zero_le _) rfl
  have hs1 : (w.alloc (.cells #[] 24)).heap.size = w.heap.size + 1 := by simp
  obtain ⟨w1, hw1⟩ : ∃ w1, w.alloc (.cells #[] 24) = w1 := ⟨_, rfl⟩
  rw [hw1] at hB0 hown0 hs1
  have HMp := Lib.hid (specMapsOfO a c a' c' G H w.heap.size w1 (hM.below hB0) (hM'.below hB0) hB0.size hF hF')
  have hsz1 : w.heap.size + 1 ≤ w1.heap.size := by omega
  have hsz2 : w1.heap.size ≤ w.heap.size + 1 := by omega
  clear hF hF' hs1
  go_enter Try.func36, Try.ntmps36
  go_wp2_with fail
  refine HMp.out.mono ?_
  rintro e w2 ⟨aL, cL, ⟨rfl, hB2⟩, vs, hownL, hrowL⟩
  have hz12 := hB2.size
  have hBw : Below w.heap.size w w2 := hB0.trans (hB2.mono (by omega))
  have hOut : w2.ownsRow w.heap.size 24 1 (.slice (some ⟨w.heap.size, 0, none⟩) 0 0) 0 [] := ownsRow_below hown0 hB2
  have HML := Lib.hid (OwnMat.mat (c := cL) ⟨vs, hownL, hrowL⟩)
  have HRow := Lib.hid hrowL
  have HVL : Hid (vs.length = (mapsL G H).length) := Lib.hid (by simpa using hownL.1)
  have HOL := Lib.hid hownL
  have hz2w : w.heap.size ≤ w2.heap.size := hBw.size
  clear hB2 hownL hrowL hB0 hown0 hw1 HMp
  go_wp2_with fail
  go_loopw [5, 7] (fun v i wr => ∃ (k s g cap : Nat), k ≤ (mapsL G H).length ∧ i = .int .i64 k ∧ v = .slice (some ⟨g, 0, none⟩) s cap ∧ Hid ((cvsZ G H vs k).length = s) ∧ Hid (wr.ownsRow w.heap.size 24 1 (.slice (some ⟨g, 0, none⟩) s cap) s ((cvsZ G H vs k).map Prod.fst)) ∧ Hid (w2.heap.size ≤ g ∨ cap ≤ s) ∧ Below w2.heap.size w2 wr) (fun _ i _ => (mapsL G H).length - (intOf i).toNat)
  case atStart => exact ⟨0, 0, _, _, Nat.zero_le _, rfl, rfl, Lib.hid rfl, Lib.hid hOut, Lib.hid (.inr (Nat.le_refl _)), Below.refl _ _⟩
  case round =>
    obtain ⟨k, s, g, cap, hk, rfl, rfl, HS, HO, HG, hB⟩ := hrel
    have hws := hB.size
    by_cases hlt : k < (mapsL G H).length
    · have hBwr : Below w.heap.size w wr := hBw.trans (hB.mono hz2w)
      obtain ⟨gL, cL', eL⟩ := Joins.ownsRow_form HOL.out (by omega)
      simp only [Value.slice.injEq] at eL
      obtain ⟨rfl, -, -⟩ := eL
      have hgL := (HOL.out.lt gL (by simp [Value.ownBlock])).2
      obtain ⟨x, hvx⟩ : ∃ x, vs[k]? = some x := ⟨_, List.getElem?_eq_getElem (by rw [HVL.out]; exact hlt)⟩
      obtain ⟨xs, hxs⟩ : ∃ xs, (mapsL G H)[k]? = some xs := ⟨_, List.getElem?_eq_getElem hlt⟩
      obtain ⟨a5, c5, rfl, hI5⟩ := own_ints (HRow.out k x xs hvx hxs)
      have hcx : wr.cell? ⟨gL, k, none⟩ = some (.slice a5 xs.length c5) := by
        rw [← hvx, ← HOL.out.cellAt k (by omega)]
        exact hB.cell (p := ⟨gL, k, none⟩) hgL
      have hxl := HFL.out.2 xs (List.mem_of_getElem? hxs)
      obtain ⟨b, hb⟩ : ∃ b, covI G H xs = b := ⟨_, rfl⟩
      have HCv := Lib.hid (specCov a c a' c' a5 c5 G H xs w2.heap.size wr ((hM.below hBwr).more hz2w) ((hM'.below hBwr).more hz2w) (hI5.below hB) HF.out HF'.out hxl)
      rw [hb] at HCv
      have hki : (k : Int) < ((mapsL G H).length : Int) := by omega
      have hoff : 0 + k = k := by omega
      have hsk : s ≤ k := by rw [← HS.out]; exact cvsZ_le
      cases b with
      | false =>
        have HZ := Lib.hid (cvsZ_no hvx hxs hb)
        clear hvx hxs hb hI5
        go_wp2_with fail
        refine HCv.out.mono ?_
        rintro e wq ⟨rfl, n, rfl⟩
        go_wp2_with fail
        go_roundw
        case rel => exact ⟨k + 1, s, g, cap, by omega, by go_num, rfl, Lib.hid (by rw [HZ.out]; exact HS.out), Lib.hid (by rw [HZ.out]; exact HO.out), HG, below_drewN hB n⟩
        case measure => simp [intOf]; omega
      | true =>
        have HZ := Lib.hid (cvsZ_yes hvx hxs hb)
        clear hvx hxs hb hI5
        go_wp2_with fail
        refine HCv.out.mono ?_
        rintro e wq ⟨rfl, n, rfl⟩
        have hOq : (wr.drewN n).ownsRow w.heap.size 24 1 (.slice (some ⟨g, 0, none⟩) s cap) s ((cvsZ G H vs k).map Prod.fst) := HO.out
        have hBq := below_drewN hB n
        have hcq : (wr.drewN n).cell? ⟨gL, k, none⟩ = some (.slice a5 xs.length c5) := hcx
        obtain ⟨WQ, hWQ⟩ : ∃ W, wr.drewN n = W := ⟨_, rfl⟩
        rw [hWQ] at hOq hBq hcq ⊢
        have hzq := hBq.size
        clear hWQ hcx HO hB HCv hBwr hws
        go_wp2_with (at_builtin; go_must (refine wpList_append_up rfl _ _ 23 rfl w.heap.size w2.heap.size 24 i0 (.slice none 0 0) 1 24 Try.underlying23 hi hz0 hz1 hz2 rfl (by decide) g s cap _ rfl (hOq.alloc _) HG.out hz2w (by simp; omega) ⟨WQ.heap.size, 0, none⟩ 1 1 [.slice a5 xs.length c5] rfl rfl (cell_one_new _ _ _) (by simp [Value.oneCell']) (by unfold maxLen; omega) (by omega) (by decide) ?_); go_must (intro g2 cap2 wz hown' hg2 hbz; have HO4 := Lib.hid hown'; have hB4 : Below w2.heap.size w2 wz := (hBq.alloc hzq _).trans hbz; clear hown' hbz))
        go_roundw
        case rel => exact ⟨k + 1, s + 1, g2, cap2, by omega, by go_num, rfl, Lib.hid (by rw [HZ.out, List.length_append, HS.out]; rfl), Lib.hid (by rw [HZ.out, List.map_append]; exact HO4.out), Lib.hid (.inl hg2), hB4⟩
        case measure => simp [intOf]; omega
    · obtain rfl : k = (mapsL G H).length := by omega
      have HAll := Lib.hid (cvsZ_all (G := G) (H := H) HVL.out)
      have hlen : (cvsL G H).length = s := by rw [← HAll.out, List.length_map]; exact HS.out
      have hfin : OwnMat w.heap.size wr (.slice (some ⟨g, 0, none⟩) s cap) (cvsL G H) := by
        refine ⟨_, by rw [hlen]; exact HO.out, fun i x xs hx hxs => ?_⟩
        rw [← HAll.out] at hxs
        obtain ⟨j, h1, h2⟩ := cvsZ_mem hx hxs
        have h3 := HRow.out j x xs h1 h2
        exact ownsRow_below (Joins.ownsRow_le (base' := w.heap.size) h3 (by omega)) hB
      have HFin := Lib.hid hfin
      have hBw9 : Below w.heap.size w wr := hBw.trans (hB.mono hz2w)
      clear hfin
      go_wp2_with fail
      go_ret
      exact ⟨_, cap, ⟨by rw [hlen]; rfl, hBw9⟩, by rw [hlen]; exact HFin.out⟩

theorem specCvsR (a : Option Addr) (c : Nat) (a' : Option Addr) (c' : Nat) (G H : List (List Int)) (w : World) (hM : Mat w.heap.size w a G) (hM' : Mat w.heap.size w a' H) (hF : Fit G) (hF' : Fit H) :
    Calls Try.prog 36 #[.slice a G.length c, .slice a' H.length c'] w (ReadM (cvsL G H) w) :=
  (specCvsO a c a' c' G H w hM hM' hF hF').mono fun _ _ h => by
    obtain ⟨a, c, h1, h2⟩ := h
    exact ⟨a, c, h1, h2.mat⟩

end Go.Proofs.Ytldkgkpiceamhaa
