/-
  Several texts in one.
  spec.StaysOk, spec.ImageOf, walked.
  spec.StaysOf, spec.CoreOf, spec.CoreOk, spec.RigidOk, walked.
  spec.TurnsOf, walked.
-/
import Derived.Test.YtofpjepndhpciaaZU
import Derived.Test.YtofpjepndhpciaaZN
import Derived.Test.YtofpjepndhpciaaZI
import Derived.Test.YtofpjepndhpciaaWI
import Derived.Test.YtofpjepndhpciaaM9
import Derived.Test.YtofpjepndhpciaaWV
import Derived.Test.YtofpjepndhpciaaZY
import Derived.Test.YtofpjepndhpciaaZX
namespace Go.Proofs.Ytofpjepndhpciaa
open Go.RowKit Go.Shelf Go.Deep

/-- THE IMAGE OF A MAP; nothing for others. -/
def imaI (G H : List (List Int)) (f : List Int) : List Int := if mapOkI G H f = true then imgL H.length f else []
theorem imaI_yes {G H : List (List Int)} {f : List Int} (h : mapOkI G H f = true) : imaI G H f = imgL H.length f := if_pos h
theorem imaI_no {G H : List (List Int)} {f : List Int} (h : mapOkI G H f = false) : imaI G H f = [] := if_neg (by rw [h]; decide)
theorem imaI_le {G H : List (List Int)} {f : List Int} : (imaI G H f).length ≤ 1048576 := by
  cases h : mapOkI G H f with
  | true => rw [imaI_yes h]; have := imgL_le (m := H.length) f; have := (good_of (mapOk_iff.1 h).1.2).2.1; omega
  | false => rw [imaI_no h]; simp
theorem imgL_yes {k : Nat} {f : List Int} (h : (k : Int) ∈ f) : imgL (k + 1) f = imgL k f ++ [(k : Int)] := by
  unfold imgL imgN
  rw [List.range_succ, List.filter_append, List.map_append, show [k].filter (fun x : Nat => f.contains (x : Int)) = [k] from by simp [h]]
  rfl
theorem imgL_no {k : Nat} {f : List Int} (h : (k : Int) ∉ f) : imgL (k + 1) f = imgL k f := by
  unfold imgL imgN
  rw [List.range_succ, List.filter_append, List.map_append, show [k].filter (fun x : Nat => f.contains (x : Int)) = [] from by simp [h]]
  simp
theorem drewN_twoP (w : World) (n m : Nat) : (w.drewN n).drewN m = w.drewN (n + m) := by simp [World.drewN, Nat.add_assoc]

set_option maxRecDepth 100000 in
set_option maxHeartbeats 2000000 in
theorem specStays (a a' : Option Addr) (c c' : Nat) (G : List (List Int)) (f : List Int) (n₀ : Nat) (w : World) (hM : Mat n₀ w a G) (hI : Ints n₀ w a' f) (hF : Fit G) (hl : f.length ≤ 1048576) :
    Calls Try.prog 66 #[.slice a G.length c, .slice a' f.length c'] w (Still (.bool (stysI G f)) w) := by
  obtain ⟨z, HZ⟩ : ∃ z, Hid (stysI G f = z) := ⟨_, rfl⟩
  rw [HZ.out]
  have HF := Lib.hid hF
  have HMap := Lib.hid fun W n (hW : W = w.drewN n) => specMapOk a c a c a' c' G G f n₀ W (by rw [hW]; exact hM.drewN n) (by rw [hW]; exact hM.drewN n) (by rw [hW]; exact hI.drewN n) hF hF hl
  obtain ⟨x, hx⟩ : ∃ x, mapOkI G G f = x := ⟨_, rfl⟩
  have HX := Lib.hid hx
  rw [hx] at HMap
  clear hF hx
  cases x with
  | false =>
    have HN : Hid (z = false) := Lib.hid (by rw [← HZ.out]; unfold stysI; rw [HX.out]; rfl)
    go_enter Try.func66, Try.ntmps66
    go_wp2_with fail
    go_loopw [5] (fun i wr => ∃ n : Nat, i = .int .i64 0 ∧ wr = w.drewN n) (fun _ _ => 0)
    case atStart => exact ⟨0, rfl, rfl⟩
    case round =>
      obtain ⟨n, rfl, rfl⟩ := hrel
      by_cases h0 : 0 < f.length
      · go_wp2_with fail
        go_quiet ((go_at_call 67; exact Calls_quiet_add (HMap.out _ _ rfl)))
        go_wp2_with fail
        go_ret
        exact ⟨ret_bool HN.out.symm, _, by first | rfl | exact drewN_twoP _ _ _⟩
      · go_wp2_with fail
        refine (HMap.out _ n rfl).mono ?_
        rintro e w' ⟨rfl, m, rfl⟩
        go_wp2_with fail
        go_ret
        exact ⟨ret_bool HN.out.symm, _, by first | rfl | exact drewN_twoP _ _ _⟩
  | true =>
    obtain ⟨⟨hg, _⟩, hm⟩ := mapOk_iff.1 HX.out
    have HT := Lib.hid hm.1
    have hG9 := (good_of hg).2.1
    have hfl : f.length = G.length := hm.1.1
    have hf9 : f.length ≤ 9 := by omega
    have HFL := Lib.hid hfl
    clear hg hm hfl
    go_enter Try.func66, Try.ntmps66
    go_wp2_with fail
    go_loopw [5] (fun i wr => ∃ (k n : Nat), k ≤ f.length ∧ i = .int .i64 k ∧ wr = w.drewN n ∧ Hid (∀ j, j < k → nd f (nd f j) = nd f j)) (fun i _ => f.length - (intOf i).toNat)
    case atStart => exact ⟨0, 0, Nat.zero_le _, rfl, rfl, Lib.hid fun j h => absurd h (Nat.not_lt_zero _)⟩
    case round =>
      obtain ⟨k, n, hk, rfl, rfl, HR⟩ := hrel
      by_cases hlt : k < f.length
      · obtain ⟨p, hp, enp, hpG⟩ := tells_at HT.out (j := k) (by rw [← HFL.out]; exact hlt)
        obtain ⟨q, hq, enq, hqG⟩ := tells_at HT.out hpG
        have hpf : p < f.length := by rw [HFL.out]; exact hpG
        obtain ⟨b, o, y, rfl, hb, hc, HY⟩ := hI.at_ hlt
        have ey : y = (p : Int) := by have := HY.out; rw [hp] at this; cases this; rfl
        subst ey
        obtain ⟨b2, o2, y2, e2, hb2, hc2, HY2⟩ := hI.at_ hpf
        cases e2
        have ey2 : y2 = (q : Int) := by have := HY2.out; rw [hq] at this; cases this; rfl
        subst ey2
        have k1 : (p : Int) < (f.length : Int) := by omega
        have k3 : (0 : Int) ≤ (p : Int) := Int.natCast_nonneg _
        by_cases hqp : q = p
        · have HE : Hid (nd f (nd f k) = nd f k) := Lib.hid (by rw [enp, enq, hqp])
          have hne : ((q : Int) != (p : Int)) = false := by rw [hqp]; simp
          clear hp hq enp enq HY HY2 hqp
          go_wp2_with fail
          go_quiet ((go_at_call 67; exact Calls_quiet_add (HMap.out _ _ rfl)))
          go_wp2_with fail
          go_roundw
          case rel => exact ⟨k + 1, _, by omega, by go_num, by first | rfl | exact drewN_twoP _ _ _, Lib.hid fun j hj => by
            by_cases e : j = k
            · subst e; exact HE.out
            · exact HR.out j (by omega)⟩
          case measure => simp [intOf]; omega
        · have HN : Hid (z = false) := Lib.hid (by
            rw [← HZ.out]
            refine Bool.eq_false_iff.2 fun h => ?_
            have := (stys_iff.1 h).2 k hlt
            rw [enp, enq] at this
            exact hqp this)
          have hne : ((q : Int) != (p : Int)) = true := by simp; omega
          clear hp hq enp enq HY HY2 hqp
          go_wp2_with fail
          go_quiet ((go_at_call 67; exact Calls_quiet_add (HMap.out _ _ rfl)))
          go_wp2_with fail
          go_ret
          exact ⟨ret_bool HN.out.symm, _, by first | rfl | exact drewN_twoP _ _ _⟩
      · have HN : Hid (z = true) := Lib.hid (by
          rw [← HZ.out]
          exact stys_iff.2 ⟨HX.out, fun j hj => HR.out j (by omega)⟩)
        go_wp2_with fail
        refine (HMap.out _ n rfl).mono ?_
        rintro e w' ⟨rfl, m, rfl⟩
        go_wp2_with fail
        go_ret
        exact ⟨ret_bool HN.out.symm, _, by first | rfl | exact drewN_twoP _ _ _⟩

set_option maxRecDepth 100000 in
set_option maxHeartbeats 2000000 in
theorem specImage (a a' a'' : Option Addr) (c c' c'' : Nat) (G H : List (List Int)) (f : List Int) (n₀ : Nat) (w : World) (hM : Mat n₀ w a G) (hM' : Mat n₀ w a' H) (hI : Ints n₀ w a'' f) (hn : n₀ ≤ w.heap.size) (hF : Fit G) (hF' : Fit H) (hl : f.length ≤ 1048576) :
    Calls Try.prog 64 #[.slice a G.length c, .slice a' H.length c', .slice a'' f.length c''] w (ReadI (imaI G H f) w) := by
  obtain ⟨i1, hj, hy0, hy1, hy2⟩ := info_parts infoInt
  have HF := Lib.hid hF
  have HF' := Lib.hid hF'
  have hlH := hF'.1
  clear hF hF'
  obtain ⟨x, hx⟩ : ∃ x, mapOkI G H f = x := ⟨_, rfl⟩
  have HX := Lib.hid hx
  obtain ⟨zs, HZ⟩ : ∃ zs, Hid (imaI G H f = zs) := ⟨_, rfl⟩
  rw [HZ.out]
  have HZN : Hid (x = false → zs = []) := Lib.hid fun h => by rw [← HZ.out, imaI_no (hx.trans h)]
  have HZY : Hid (x = true → zs = imgL H.length f) := Lib.hid fun h => by rw [← HZ.out, imaI_yes (hx.trans h)]
  have HH1 : Hid (x = true → 1 ≤ H.length ∧ H.length ≤ 9 ∧ f.length ≤ 9) := Lib.hid fun h => by
    obtain ⟨⟨h1, h2⟩, h3⟩ := mapOk_iff.1 (hx.trans h)
    have := (good_of h1).2.1
    exact ⟨(good_of h2).1, (good_of h2).2.1, by rw [h3.1.1]; exact this⟩
  clear hx HZ
  go_enter Try.func64, Try.ntmps64
  go_wp2_with fail
  go_loopw [7, 8] (fun v i wr => ∃ (k s g cap : Nat), k ≤ H.length ∧ i = .int .i64 k ∧ v = .slice (some ⟨g, 0, none⟩) s cap ∧ Hid ((imgL k f).length = s) ∧ Hid (wr.ownsRow w.heap.size 3 1 (.slice (some ⟨g, 0, none⟩) s cap) s ((imgL k f).map (Value.int .i64))) ∧ Below w.heap.size w wr ∧ Hid (k = 0 ∨ x = true))
    (fun _ i _ => H.length - (intOf i).toNat)
  case atStart => exact ⟨0, 0, _, _, Nat.zero_le _, rfl, rfl, Lib.hid rfl, World.ownsRow_lit (size := 1) w #[] 0 (Nat.le_refl _) (Nat.zero_le _) rfl, (Below.refl _ _).alloc (Nat.le_refl _) _, Lib.hid (.inl rfl)⟩
  case round =>
    obtain ⟨k, s, g, cap, hk, rfl, rfl, HS, HO, hB, HK⟩ := hrel
    have hws := hB.size
    have hMr := hM.below (hB.mono hn)
    have hMr' := hM'.below (hB.mono hn)
    have hIr := hI.below (hB.mono hn)
    by_cases hlt : k < H.length
    · go_wp2_with fail
      refine (specMapOk _ _ _ _ _ _ _ _ _ _ _ hMr hMr' hIr HF.out HF'.out hl).mono ?_
      rw [HX.out]
      rintro ee w1 h1
      obtain ⟨rfl, hB1⟩ := h1.below
      have hBw := hB.trans (hB1.mono hws)
      have HO1 : Hid (w1.ownsRow w.heap.size 3 1 (.slice (some ⟨g, 0, none⟩) s cap) s ((imgL k f).map (Value.int .i64))) := Lib.hid (ownsRow_below HO.out hB1)
      have hI1 := hI.below (hBw.mono hn)
      clear h1 hB1 hMr hMr' hIr HO hB
      cases x with
      | false =>
        have hk0 : k = 0 := by rcases HK.out with h | h; exact h; cases h
        have hs0 : s = 0 := by rw [← HS.out, hk0]; rfl
        have h0 : zs = [] := HZN.out (by trivial)
        subst h0
        go_wp2_with fail
        go_ret
        exact ⟨some ⟨g, 0, none⟩, cap, ⟨by rfl, hBw⟩, fun h => absurd (by rfl) h⟩
      | true =>
        obtain ⟨h1', h9, hf9⟩ := HH1.out (by trivial)
        have hs9 : s ≤ 9 := by rw [← HS.out]; exact Nat.le_trans (imgL_le f) (by omega)
        have hown := HO1.out
        have hlg := hown.lt g (by simp [Value.ownBlock])
        have hsW := hBw.size
        go_wp2_with fail
        go_loopw [7, 9] (fun v i wq => ∃ j : Nat, j ≤ f.length ∧ i = .int .i64 j ∧ v = .slice (some ⟨g, 0, none⟩) s cap ∧ wq = w1 ∧ Hid ((k : Int) ∉ f.take j)) (fun _ i _ => f.length - (intOf i).toNat)
        case atStart => exact ⟨0, Nat.zero_le _, rfl, rfl, rfl, Lib.hid (by simp)⟩
        case round =>
          obtain ⟨j, hj', rfl, rfl, rfl, HJ⟩ := hrel
          by_cases hltj : j < f.length
          · obtain ⟨b, o, y, rfl, hb, hc, HY⟩ := hI1.at_ hltj
            by_cases hyk : y = (k : Int)
            · have HIN : Hid (imgL (k + 1) f = imgL k f ++ [(k : Int)]) := Lib.hid (imgL_yes (by rw [← hyk]; exact List.mem_of_getElem? HY.out))
              have hyb : (y == (k : Int)) = true := by simp [hyk]
              clear hyk
              go_wp2_with (at_builtin; go_must (refine wpList_append_own _ rfl _ _ 47 rfl w.heap.size 3 i1 (.int .i64 0) 1 8 Try.underlying47 hj hy0 hy1 hy2 rfl (by decide) _ _ _ rfl (hown.alloc _) ⟨wr.heap.size, 0, none⟩ 1 1 [.int .i64 (k : Int)] rfl rfl (cell_one_new _ _ _) (by simp [Value.oneCell']) (by unfold maxLen; omega) (by omega) (by simp; omega) ?_); go_must (intro v' wz hown' hgrow _; obtain ⟨g2, cap2, rfl⟩ := ownsRow_succ hown'); go_must (have HO4 := Lib.hid hown'); go_must (have hB4 : Below w.heap.size w wz := (hBw.alloc hsW _).grown hgrow (by simp; omega) (fun r e => by have e' : some g = some r := e; cases e'; exact hlg.1)); clear hown' hgrow)
              go_roundw
              case rel => exact ⟨k + 1, s + 1, g2, cap2, by omega, by go_num, rfl, Lib.hid (by rw [HIN.out, List.length_append, HS.out]; rfl), Lib.hid (by rw [HIN.out, List.map_append]; exact HO4.out), hB4, Lib.hid (.inr trivial)⟩
              case measure => simp [intOf]; omega
            · have HJ2 : Hid ((k : Int) ∉ f.take (j + 1)) := Lib.hid (by
                rw [List.take_add_one, HY.out]
                intro h
                rcases List.mem_append.1 h with h | h
                · exact HJ.out h
                · simp at h; exact hyk h.symm)
              have hyb : (y == (k : Int)) = false := by simp [hyk]
              clear hyk
              go_wp2_with fail
              go_roundw
              case rel => exact ⟨j + 1, by omega, by go_num, by first | rfl | trivial, by first | rfl | trivial, HJ2⟩
              case measure => simp [intOf]; omega
          · have HIN : Hid (imgL (k + 1) f = imgL k f) := Lib.hid (imgL_no (by have h := HJ.out; rwa [List.take_of_length_le (by omega)] at h))
            go_wp2_with fail
            go_roundw
            case rel => exact ⟨k + 1, s, g, cap, by omega, by go_num, rfl, Lib.hid (by rw [HIN.out, HS.out]), Lib.hid (by rw [HIN.out]; exact hown), hBw, Lib.hid (.inr trivial)⟩
            case measure => simp [intOf]; omega
    · obtain rfl : k = H.length := by omega
      have HL9 : Hid (zs = imgL H.length f) := Lib.hid (by
        cases x with
        | true => exact HZY.out rfl
        | false =>
          rcases HK.out with h | h
          · rw [HZN.out rfl, h]; rfl
          · cases h)
      go_wp2_with fail
      go_ret
      refine ⟨some ⟨g, 0, none⟩, cap, ⟨by rw [HL9.out, HS.out]; rfl, hB⟩, ?_⟩
      have h := HO.out
      rw [HL9.out]
      rw [← HS.out] at h
      obtain ⟨aa, cc, ee, hII⟩ := own_ints h
      cases ee
      exact hII

end Go.Proofs.Ytofpjepndhpciaa

namespace Go.Proofs.Ytofpjepndhpciaa
open Go.RowKit Go.Shelf Go.Deep

/-- A LIST, beside a yes or no. -/
def ReadLB (zs : List Int) (yes : Bool) (w : World) (e : Ending) (w' : World) : Prop := ∃ (a : Option Addr) (c : Nat), (e = .returned (.tuple #[.slice a zs.length c, .bool yes]) ∧ Below w.heap.size w w') ∧ Ints w'.heap.size w' a zs
theorem staL_le {G : List (List Int)} : (staL G).length ≤ 1048576 := by
  cases h : g5 G with
  | true => rw [(sta_map h).1.1]; have := (g5_iff.1 h).2; omega
  | false => rw [staL_no h]; simp
theorem g5_no1 {G : List (List Int)} (h : gOk G = false) : g5 G = false := by unfold g5; rw [h]; rfl
theorem g5_no2 {G : List (List Int)} (h : ¬ G.length ≤ 5) : g5 G = false := by unfold g5; rw [decide_eq_false h]; simp
theorem g5_yes {G : List (List Int)} (h : gOk G = true) (h5 : G.length ≤ 5) : g5 G = true := g5_iff.2 ⟨h, h5⟩
/-- The best of the first k rows is one of them that stays, or none. -/
theorem bestTo (G : List (List Int)) (k : Nat) : Best G ((mapsL G G).take k) (((mapsL G G).take k).foldl (betF G) []) := by
  have := best_fold G ((mapsL G G).take k) [] [] (.inl ⟨rfl, fun x hx => by cases hx⟩)
  rwa [List.nil_append] at this
theorem best_stys {G : List (List Int)} {l : List (List Int)} {b : List Int} (h : Best G l b) : b.length = 0 ∨ stysI G b = true := by
  rcases h with ⟨rfl, _⟩ | ⟨_, h2, _⟩
  · exact .inl rfl
  · exact .inr h2
theorem fold_next {G : List (List Int)} {ls : List (List Int)} {k : Nat} {x : List Int} (h : ls[k]? = some x) : (ls.take (k + 1)).foldl (betF G) [] = betF G ((ls.take k).foldl (betF G) []) x := by
  rw [List.take_add_one, h, List.foldl_append]; rfl
theorem bet_no {G : List (List Int)} {b x : List Int} (h : stysI G x = false) : betF G b x = b := if_neg fun hh => by rw [h] at hh; cases hh.1
theorem bet_first {G : List (List Int)} {b x : List Int} (h : stysI G x = true) (h0 : b.length = 0) : betF G b x = x := if_pos ⟨h, .inl h0⟩
theorem bet_less {G : List (List Int)} {b x : List Int} (h : stysI G x = true) (h0 : (imgL G.length x).length < (imgL G.length b).length) : betF G b x = x := if_pos ⟨h, .inr h0⟩
theorem bet_more {G : List (List Int)} {b x : List Int} (h0 : b.length ≠ 0) (h1 : ¬ (imgL G.length x).length < (imgL G.length b).length) : betF G b x = b := if_neg fun hh => hh.2.elim h0 h1

set_option maxRecDepth 100000 in
set_option maxHeartbeats 4000000 in
theorem specStaysOf (a : Option Addr) (c : Nat) (G : List (List Int)) (n₀ : Nat) (w : World) (hM : Mat n₀ w a G) (hn : n₀ ≤ w.heap.size) (hF : Fit G) :
    Calls Try.prog 63 #[.slice a G.length c] w (ReadLB (staL G) (g5 G) w) := by
  have HF := Lib.hid hF
  have hlG := hF.1
  clear hF
  by_cases hg : gOk G = true
  · by_cases h5 : G.length ≤ 5
    · have h5' := g5_yes hg h5
      have HG5 := Lib.hid h5'
      have HST := Lib.hid (staL_yes h5')
      rw [h5']
      have HBT := Lib.hid (bestTo G)
      have HML : Hid (∀ (k : Nat) (x : List Int), (mapsL G G)[k]? = some x → x.length = G.length ∧ G.length ≤ 9) := Lib.hid fun k x hx => ⟨((mapsL_mem (few5 hg hg h5 h5) x).1 (List.mem_of_getElem? hx)).1.1, (good_of hg).2.1⟩
      have hS2 : ∀ W, Below w.heap.size w W → Calls Try.prog 65 #[.slice a G.length c, .slice a G.length c] W (ReadM (mapsL G G) W) := fun W hW => specMapsOf a c a c G G n₀ W (hM.below (hW.mono hn)) (hM.below (hW.mono hn)) (Nat.le_trans hn hW.size) HF.out HF.out
      have hl7 := mapsL_le G G
      obtain ⟨ls, hls⟩ : ∃ ls, mapsL G G = ls := ⟨_, rfl⟩
      rw [hls] at HST HBT HML hS2 hl7
      have HS2 := Lib.hid hS2
      clear h5' hls hS2
      obtain ⟨zs, HZ⟩ : ∃ zs, Hid (staL G = zs) := ⟨_, rfl⟩
      rw [HZ.out] at HST ⊢
      go_enter Try.func63, Try.ntmps63
      go_wp2_with fail
      refine (specOk_any _ _ _ n₀ _ (hM.below ((Below.refl _ w).alloc hn _)) HF.out).mono ?_
      rintro e w' ⟨rfl, rfl⟩
      rw [hg]
      go_wp2_with fail
      refine (HS2.out _ ((Below.refl _ w).alloc (Nat.le_refl _) _)).mono ?_
      rintro e w2 ⟨aL, cL, ⟨rfl, hB2⟩, hL2⟩
      have HB2 := Lib.hid (((Below.refl w.heap.size w).alloc (Nat.le_refl _) (.cells #[] 3)).trans (hB2.mono (by simp)))
      have hz2 := HB2.out.size
      have hM2 := hM.below (HB2.out.mono hn)
      clear hB2 hM
      go_wp2_with fail
      go_loopw [4, 6] (fun v i wr => ∃ (k : Nat) (ab : Option Addr) (b : List Int) (cb : Nat), k ≤ ls.length ∧ i = .int .i64 k ∧ v = .slice ab b.length cb ∧ Hid ((ls.take k).foldl (betF G) [] = b) ∧ Below w2.heap.size w2 wr ∧ Ints w2.heap.size wr ab b ∧ b.length ≤ 9)
        (fun _ i _ => ls.length - (intOf i).toNat)
      case atStart => exact ⟨0, _, [], _, Nat.zero_le _, rfl, rfl, Lib.hid rfl, Below.refl _ _, (fun h => absurd rfl h), Nat.zero_le _⟩
      case round =>
        obtain ⟨k, ab, b, cb, hk, rfl, rfl, HBB, hB, hIb, hb9⟩ := hrel
        have hws := hB.size
        by_cases hlt : k < ls.length
        · obtain ⟨b1, o1, ar, cr, xs, rfl, hb1, hc1, hI1, HXS⟩ := (hL2.below hB).at_ hlt
          obtain ⟨hxl, hG9⟩ := HML.out k xs HXS.out
          have HNX := Lib.hid (fold_next (G := G) HXS.out)
          rw [HBB.out] at HNX
          have hxs9 : xs.length ≤ 9 := by rw [hxl]; exact hG9
          have hMr := hM2.below (hB.mono (Nat.le_trans hn hz2))
          obtain ⟨t, ht⟩ : ∃ t, stysI G xs = t := ⟨_, rfl⟩
          have HT := Lib.hid ht
          have HBS := Lib.hid (best_stys (HBT.out k))
          rw [HBB.out] at HBS
          clear ht hxl
          go_wp2_with fail
          refine (specStays a ar c cr G xs w2.heap.size wr (hMr.more (Nat.le_trans hn hz2)) hI1 HF.out (by omega)).mono ?_
          rw [HT.out]
          rintro e w3 h3
          obtain ⟨rfl, hB3⟩ := h3.below
          have hBX := hB.trans (hB3.mono hws)
          have hIb3 := hIb.below (hB3.mono hws)
          have hI3 := hI1.below (hB3.mono hws)
          have hc3 : w3.cell? ⟨b1, o1 + k, none⟩ = some (.slice ar xs.length cr) := (hB3.cell (p := ⟨b1, o1 + k, none⟩) (Nat.lt_of_lt_of_le hb1 hws)).trans hc1
          have hM3 := hM2.below (hBX.mono (Nat.le_trans hn hz2))
          clear h3 hB3 hMr hIb hI1 hc1 hB
          have hz3 := hBX.size
          cases t with
          | false =>
            have HNY := Lib.hid (HNX.out.trans (bet_no HT.out))
            go_wp2_with fail
            go_roundw
            case rel => exact ⟨k + 1, ab, b, cb, by omega, by go_num, rfl, HNY, hBX, hIb3, hb9⟩
            case measure => simp [intOf]; omega
          | true =>
            by_cases hb0 : b.length = 0
            · have HNY := Lib.hid (HNX.out.trans (bet_first HT.out hb0))
              have hbb : ((b.length : Int) == 0) = true := by simp; exact List.eq_nil_of_length_eq_zero hb0
              clear hb0
              go_wp2_with fail
              go_roundw
              case rel => exact ⟨k + 1, ar, xs, cr, by omega, by go_num, rfl, HNY, hBX, hI3, hxs9⟩
              case measure => simp [intOf]; omega
            · have hbs : stysI G b = true := by rcases HBS.out with h | h; exact absurd h hb0; exact h
              have HB0 := Lib.hid hb0
              have hbb : ((b.length : Int) == 0) = false := by simp; intro e; rw [e] at hb0; exact hb0 rfl
              have HI1 : Hid (imaI G G xs = imgL G.length xs) := Lib.hid (imaI_yes (stys_iff.1 HT.out).1)
              have HI2 : Hid (imaI G G b = imgL G.length b) := Lib.hid (imaI_yes (stys_iff.1 hbs).1)
              have u1 := imgL_le (m := G.length) xs
              have u2 := imgL_le (m := G.length) b
              obtain ⟨p, HP⟩ : ∃ p : Nat, Hid ((imgL G.length xs).length = p) := ⟨_, rfl⟩
              obtain ⟨q, HQ⟩ : ∃ q : Nat, Hid ((imgL G.length b).length = q) := ⟨_, rfl⟩
              rw [HP.out] at u1
              rw [HQ.out] at u2
              clear hb0 hbs
              go_wp2_with fail
              refine (specImage a a ar c c cr G G xs w2.heap.size w3 (hM3.more (Nat.le_trans hn hz2)) (hM3.more (Nat.le_trans hn hz2)) hI3 hz3 HF.out HF.out (by omega)).mono ?_
              rw [HI1.out]
              rintro e w4 ⟨a4, c4, ⟨rfl, hB4⟩, -⟩
              have hBY := hBX.trans (hB4.mono hz3)
              have hIb4 := hIb3.below (hB4.mono hz3)
              have hI4 := hI3.below (hB4.mono hz3)
              have hc4 : w4.cell? ⟨b1, o1 + k, none⟩ = some (.slice ar xs.length cr) := (hB4.cell (p := ⟨b1, o1 + k, none⟩) (Nat.lt_of_lt_of_le hb1 hz3)).trans hc3
              have hM4 := hM2.below (hBY.mono (Nat.le_trans hn hz2))
              rw [HP.out]
              clear hB4 hIb3 hI3 hc3 hM3 hBX hz3
              have hz4 := hBY.size
              go_wp2_with fail
              refine (specImage a a ab c c cb G G b w2.heap.size w4 (hM4.more (Nat.le_trans hn hz2)) (hM4.more (Nat.le_trans hn hz2)) hIb4 hz4 HF.out HF.out (by omega)).mono ?_
              rw [HI2.out]
              rintro e w5 ⟨a5, c5, ⟨rfl, hB5⟩, -⟩
              have hBZ := hBY.trans (hB5.mono hz4)
              have hIb5 := hIb4.below (hB5.mono hz4)
              have hI5 := hI4.below (hB5.mono hz4)
              have hc5 : w5.cell? ⟨b1, o1 + k, none⟩ = some (.slice ar xs.length cr) := (hB5.cell (p := ⟨b1, o1 + k, none⟩) (Nat.lt_of_lt_of_le hb1 hz4)).trans hc4
              rw [HQ.out]
              clear hB5 hIb4 hI4 hc4 hM4 hBY hz4
              by_cases hpq : p < q
              · have HNY := Lib.hid (HNX.out.trans (bet_less HT.out (by rw [HP.out, HQ.out]; exact hpq)))
                go_wp2_with fail
                go_roundw
                case rel => exact ⟨k + 1, ar, xs, cr, by omega, by go_num, rfl, HNY, hBZ, hI5, hxs9⟩
                case measure => simp [intOf]; omega
              · have HNY := Lib.hid (HNX.out.trans (bet_more HB0.out (by rw [HP.out, HQ.out]; exact hpq)))
                go_wp2_with fail
                go_roundw
                case rel => exact ⟨k + 1, ab, b, cb, by omega, by go_num, rfl, HNY, hBZ, hIb5, hb9⟩
                case measure => simp [intOf]; omega
        · have HE : Hid (b = zs) := Lib.hid (by rw [HST.out, ← HBB.out, List.take_of_length_le (by omega)])
          go_wp2_with fail
          go_ret2
          exact ⟨ab, cb, ⟨by rw [← HE.out]; rfl, HB2.out.trans (hB.mono hz2)⟩, by rw [← HE.out]; exact hIb.more hws⟩
    · have hok := g5_no2 h5
      rw [staL_no hok, hok]
      clear hok
      go_enter Try.func63, Try.ntmps63
      go_wp2_with fail
      refine (specOk_any _ _ _ n₀ _ (hM.below ((Below.refl _ w).alloc hn _)) HF.out).mono ?_
      rintro e w' ⟨rfl, rfl⟩
      rw [hg]
      go_wp2_with fail
      go_ret2
      exact ⟨_, _, ⟨rfl, (Below.refl _ w).alloc (Nat.le_refl _) _⟩, fun h => absurd rfl h⟩
  · have hgn : gOk G = false := by simpa using hg
    have hok := g5_no1 hgn
    rw [staL_no hok, hok]
    clear hok hg
    go_enter Try.func63, Try.ntmps63
    go_wp2_with fail
    refine (specOk_any _ _ _ n₀ _ (hM.below ((Below.refl _ w).alloc hn _)) HF.out).mono ?_
    rintro e w' ⟨rfl, rfl⟩
    rw [hgn]
    go_wp2_with fail
    go_ret2
    exact ⟨_, _, ⟨rfl, (Below.refl _ w).alloc (Nat.le_refl _) _⟩, fun h => absurd rfl h⟩

set_option maxRecDepth 100000 in
set_option maxHeartbeats 2000000 in
theorem specCoreOf (a : Option Addr) (c : Nat) (G : List (List Int)) (n₀ : Nat) (w : World) (hM : Mat n₀ w a G) (hn : n₀ ≤ w.heap.size) (hF : Fit G) :
    Calls Try.prog 61 #[.slice a G.length c] w (ReadB (corL G) (g5 G) w) := by
  have HF := Lib.hid hF
  have hS := specStaysOf a c G n₀ w hM hn hF
  have hlG := hF.1
  clear hF
  cases h5 : g5 G with
  | true =>
    have HSM := Lib.hid (sta_map h5)
    have HIM : Hid (imaI G G (staL G) = imgL G.length (staL G)) := Lib.hid (imaI_yes (stys_iff.1 (sta_best h5).2.1).1)
    have hl9 : (staL G).length ≤ 9 := by rw [(sta_map h5).1.1]; exact (good_of (g5_iff.1 h5).1).2.1
    have hi9 : (imgL G.length (staL G)).length ≤ 9 := Nat.le_trans (imgL_le _) (good_of (g5_iff.1 h5).1).2.1
    have HC : Hid (partL G (imgL G.length (staL G)) = corL G) := Lib.hid (corL_yes h5).symm
    rw [h5] at hS
    obtain ⟨f, hf⟩ : ∃ f, staL G = f := ⟨_, rfl⟩
    rw [hf] at hS HSM HIM hl9 HC hi9
    have HS := Lib.hid hS
    clear hS hf h5
    obtain ⟨T, hT⟩ : ∃ T, corL G = T := ⟨_, rfl⟩
    rw [hT] at HC ⊢
    clear hT
    go_enter Try.func61, Try.ntmps61
    go_wp2_with fail
    refine HS.out.mono ?_
    rintro e w1 ⟨a1, c1, ⟨rfl, hB1⟩, hI1⟩
    have hz1 := hB1.size
    have hM1 := (hM.below (hB1.mono hn)).more (Nat.le_trans hn hz1)
    clear hM
    go_wp2_with fail
    refine (specImage a a a1 c c c1 G G f w1.heap.size w1 hM1 hM1 hI1 (Nat.le_refl _) HF.out HF.out (by omega)).mono ?_
    rw [HIM.out]
    rintro e w2 ⟨a2, c2, ⟨rfl, hB2⟩, hI2⟩
    have hBX := hB1.trans (hB2.mono hz1)
    have hM2 := (hM1.below hB2).more hB2.size
    have hz2 := hBX.size
    clear hB1 hB2 hM1 hI1 hz1
    obtain ⟨ys, hys⟩ : ∃ ys, imgL G.length f = ys := ⟨_, rfl⟩
    rw [hys] at HC hI2 hi9 ⊢
    clear hys
    go_wp2_with fail
    refine (specPart a a2 c c2 G ys w2.heap.size w2 hM2 hI2 (Nat.le_refl _) (by omega) HF.out).mono ?_
    rw [HC.out]
    rintro e w3 ⟨a3, c3, ⟨rfl, hB3⟩, hM3⟩
    have HBY := Lib.hid (hBX.trans (hB3.mono hz2))
    have HM3 := Lib.hid hM3
    clear hB3 hBX hM3
    go_wp2_with fail
    go_ret2
    exact ⟨a3, c3, ⟨rfl, HBY.out⟩, HM3.out⟩
  | false =>
    rw [h5, staL_no h5] at hS
    rw [corL_no h5]
    have HS := Lib.hid hS
    clear hS h5
    go_enter Try.func61, Try.ntmps61
    go_wp2_with fail
    refine HS.out.mono ?_
    rintro e w1 ⟨a1, c1, ⟨rfl, hB1⟩, -⟩
    have hz1 := hB1.size
    go_wp2_with fail
    go_ret2
    exact ⟨_, _, ⟨rfl, hB1.alloc hz1 _⟩, fun h => absurd rfl h⟩

end Go.Proofs.Ytofpjepndhpciaa

namespace Go.Proofs.Ytofpjepndhpciaa
open Go.RowKit Go.Shelf Go.Deep

theorem turA_to (G : List (List Int)) {k : Nat} {p : List Int} (h : (olvl G.length G.length)[k]? = some p) : (((olvl G.length G.length).take (k + 1)).filter (sameBy G G)).length = (((olvl G.length G.length).take k).filter (sameBy G G)).length + if sameBy G G p = true then 1 else 0 := by
  rw [List.take_add_one, h, List.filter_append, List.length_append]
  by_cases hs : sameBy G G p = true <;> simp [hs]

end Go.Proofs.Ytofpjepndhpciaa
