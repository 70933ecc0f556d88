/-
  The model's SameGraph.
-/
import Derived.Test.YtmohmecdhabapacQ8
import Derived.Test.YtmohmecdhabapacI3
namespace Go.Proofs.Ytmohmecdhabapac
open Go.RowKit Go.Shelf Go.Deep

/-- The list that is returned, to be read, and whether there is one. -/
def SpecOut (o : Option (List Int)) (w : World) (e : Ending) (w' : World) : Prop :=
  ∃ (a : Option Addr) (c : Nat), (e = .returned (.tuple #[.slice a (o.getD []).length c, .bool o.isSome]) ∧ Below w.heap.size w w') ∧ Ints w'.heap.size w' a (o.getD [])
theorem ints_none (n₀ : Nat) (W : World) (a : Option Addr) : Ints n₀ W a [] := fun h => by simp at h

set_option maxRecDepth 100000 in
set_option maxHeartbeats 4000000 in
theorem specSameNo (a : Option Addr) (c : Nat) (a' : Option Addr) (c' : Nat) (G H : List (List Int)) (n₀ : Nat) (w : World) (hM : Mat n₀ w a G) (hM' : Mat n₀ w a' H) (hf : Fit G) (hf' : Fit H) (hno : ¬ (gOk G = true ∧ gOk H = true ∧ G.length = H.length ∧ G.length ≤ 5)) :
    Calls Try.prog 16 #[.slice a G.length c, .slice a' H.length c'] w (SpecOut none w) := by
  have HF := Lib.hid hf
  have HF' := Lib.hid hf'
  have hlG := hf.1
  have hlH := hf'.1
  clear hf hf'
  have HNO := Lib.hid hno
  clear hno
  go_enter Try.func16, Try.ntmps16
  go_wp2_with fail
  refine (specOk_any _ _ _ _ _ hM HF.out).mono ?_
  by_cases hg : gOk G = true
  · rw [hg]
    rintro e w1 ⟨rfl, rfl⟩
    go_wp2_with fail
    refine (specOk_any _ _ _ _ _ hM' HF'.out).mono ?_
    by_cases hg' : gOk H = true
    · rw [hg']
      rintro e w1 ⟨rfl, rfl⟩
      have HN2 := Lib.hid (fun h => HNO.out ⟨hg, hg', h⟩)
      clear hg hg' hM hM'
      by_cases hn : G.length = H.length
      · have h5 : 5 < G.length := Nat.lt_of_not_le fun h => HN2.out ⟨hn, h⟩
        go_wp2_with fail
        go_ret2
        exact ⟨_, _, ⟨rfl, (Below.refl _ w).alloc (Nat.le_refl _) _⟩, ints_none _ _ _⟩
      · go_wp2_with fail
        go_ret2
        exact ⟨_, _, ⟨rfl, (Below.refl _ w).alloc (Nat.le_refl _) _⟩, ints_none _ _ _⟩
    · have hn : gOk H = false := by simpa using hg'
      rw [hn]
      rintro e w1 ⟨rfl, rfl⟩
      clear hM hM'
      go_wp2_with fail
      go_ret2
      exact ⟨_, _, ⟨rfl, (Below.refl _ w).alloc (Nat.le_refl _) _⟩, ints_none _ _ _⟩
  · have hn : gOk G = false := by simpa using hg
    rw [hn]
    rintro e w1 ⟨rfl, rfl⟩
    clear hM hM'
    go_wp2_with fail
    go_ret2
    exact ⟨_, _, ⟨rfl, (Below.refl _ w).alloc (Nat.le_refl _) _⟩, ints_none _ _ _⟩

theorem same_dec {G H : List (List Int)} {f : List Int} (hG : gOk G = true) (hH : gOk H = true) (hl : f.length = H.length) (hN : Nodes G.length f) : sameBy G H f = decide (partL G f = H) := by
  rw [Bool.eq_iff_iff, decide_eq_true_iff]
  exact same_part hG hH hl hN
theorem part_len {xss : List (List Int)} {ys : List Int} (h : gOk xss = true) (h1 : 1 ≤ ys.length) (hN : Nodes xss.length ys) : (partL xss ys).length = ys.length := by
  rw [partL_yes h h1 hN]; exact rowsP_length _ _

set_option maxRecDepth 100000 in
set_option maxHeartbeats 4000000 in
theorem specSameYes (a : Option Addr) (c : Nat) (a' : Option Addr) (c' : Nat) (G H : List (List Int)) (N : Nat) (n₀ : Nat) (w : World) (hM : Mat n₀ w a G) (hM' : Mat n₀ w a' H) (hn : n₀ ≤ w.heap.size) (hg : gOk G = true) (hg' : gOk H = true) (hGN : G.length = N) (hHN : H.length = N) (h5 : N ≤ 5) :
    Calls Try.prog 16 #[.slice a N c, .slice a' N c'] w (SpecOut ((olvl N N).find? (sameBy G H)) w) := by
  have HOG : Hid (Calls Try.prog 36 #[.slice a N c] w fun e w' => e = .returned (.bool true) ∧ w = w') := Lib.hid (by
    have := specOk_any a c G n₀ w hM (Good.fit (good_of hg))
    rw [hGN, hg] at this; exact this)
  have HOH : Hid (Calls Try.prog 36 #[.slice a' N c'] w fun e w' => e = .returned (.bool true) ∧ w = w') := Lib.hid (by
    have := specOk_any a' c' H n₀ w hM' (Good.fit (good_of hg'))
    rw [hHN, hg'] at this; exact this)
  have hN1 : 1 ≤ N := by rw [← hGN]; exact (good_of hg).1
  have HPT : Hid (∀ (W : World) (x : List Int) (r : Option Addr) (d m : Nat), m ≤ W.heap.size → Below w.heap.size w W → x.length = N → Nodes N x → Ints m W r x →
      Calls Try.prog 10 #[.slice a N c, .slice r N d] W fun e W' => ∃ (a3 : Option Addr) (c3 : Nat), (e = .returned (.slice a3 N c3) ∧ Below W.heap.size W W') ∧
        Hid (Calls Try.prog 46 #[.slice a3 N c3, .slice a' N c'] W' (StillQ (.bool (sameBy G H x)) W'))) := Lib.hid fun W x r d m hm hB hx hNo hI => by
    have hNo' : Nodes G.length x := by rw [hGN]; exact hNo
    have h := specPart a r c d G x W.heap.size W (((hM.more hn).below hB).more hB.size) (hI.more hm) (Nat.le_refl _) (by omega) (Good.fit (good_of hg))
    rw [hGN, hx] at h
    refine h.mono ?_
    rintro e W' ⟨a3, c3, ⟨rfl, hB3⟩, hM3⟩
    have hl3 : (partL G x).length = N := by rw [part_len hg (by omega) hNo', hx]
    refine ⟨a3, c3, ⟨by rw [hl3], hB3⟩, ?_⟩
    have hBW : Below w.heap.size w W' := hB.trans (hB3.mono hB.size)
    exact Lib.hid (sameG_yes a3 a' c3 c' N (partL G x) H W'.heap.size W' hM3 (((hM'.more hn).below hBW).more hBW.size) (part_good hg (by omega) hNo') (good_of hg') hl3 hHN _ (same_dec hg hg' (by rw [hx, hHN]) hNo'))
  obtain ⟨p, HPP⟩ : ∃ p, Hid (sameBy G H = p) := ⟨_, rfl⟩
  rw [HPP.out] at HPT ⊢
  clear hM hM' hg hg' hGN hHN HPP hn
  obtain ⟨L, HL⟩ : ∃ L, Hid (olvl N N = L) := ⟨_, rfl⟩
  have hOr := specOrders N hN1 h5 w
  have hL7 : L.length ≤ 7000 := by rw [← HL.out]; exact olvl_small h5 (Nat.le_refl _)
  have HLN : Hid (∀ k x, L[k]? = some x → x.length = N ∧ Nodes N x) := Lib.hid fun k x hk => by
    have hx : x ∈ olvl N N := by rw [HL.out]; exact List.mem_of_getElem? hk
    exact ⟨olvl_len hx, olvl_nodes hx⟩
  rw [HL.out] at hOr ⊢
  have HOr := Lib.hid hOr
  clear hOr HL
  go_enter Try.func16, Try.ntmps16
  go_wp2_with fail
  refine HOG.out.mono ?_
  rintro e w0 ⟨rfl, rfl⟩
  go_wp2_with fail
  refine HOH.out.mono ?_
  rintro e w0 ⟨rfl, rfl⟩
  go_wp2_with fail
  refine HOr.out.mono ?_
  rintro e w1 ⟨a1, c1, ⟨rfl, hB1⟩, hO⟩
  have hMO := hO.mat
  have hz1 := hB1.size
  clear hO HOG HOH HOr
  go_wp2_with fail
  go_loopw [7] (fun i wr => ∃ k : Nat, k ≤ L.length ∧ i = .int .i64 k ∧ Below w.heap.size w wr ∧ Below w1.heap.size w1 wr ∧ Hid (∀ j x, j < k → L[j]? = some x → p x = false)) (fun i _ => L.length - (intOf i).toNat)
  case atStart => exact ⟨0, Nat.zero_le _, rfl, hB1, Below.refl _ _, Lib.hid fun j x hj => absurd hj (Nat.not_lt_zero _)⟩
  case round =>
    obtain ⟨k, hk, rfl, hBw, hBr, HK⟩ := hrel
    by_cases hlt : k < L.length
    · obtain ⟨b0, o, r, d, x, rfl, hb0, hc, hI, HX⟩ := (hMO.below hBr).at_ hlt
      obtain ⟨hxN, hNo⟩ := HLN.out k x HX.out
      rw [hxN] at hc
      have hzr := hBr.size
      have HCP := Lib.hid (HPT.out _ x r d w1.heap.size hzr hBw hxN hNo hI)
      clear hNo
      go_wp2_with fail
      refine HCP.out.mono ?_
      rintro e w3 ⟨a3, c3, ⟨rfl, hB3⟩, HS3⟩
      have hc3 : w3.cell? ⟨b0, o + k, none⟩ = some (.slice r N d) := (hB3.cell (p := ⟨b0, o + k, none⟩) (Nat.lt_of_lt_of_le hb0 hzr)).trans hc
      have hBw3 : Below w.heap.size w w3 := hBw.trans (hB3.mono hBw.size)
      have hBr3 : Below w1.heap.size w1 w3 := hBr.trans (hB3.mono hzr)
      have HI3 : Hid (Ints w1.heap.size w3 r x) := Lib.hid (hI.below (hB3.mono hzr))
      clear hc hI HCP hB3
      go_wp2_with fail
      refine HS3.out.mono ?_
      rintro e w4 ⟨rfl, n, rfl⟩
      have hBw4 : Below w.heap.size w (w3.drewN n) := ⟨hBw3.os, hBw3.tape, hBw3.output, hBw3.size, hBw3.block⟩
      have hBr4 : Below w1.heap.size w1 (w3.drewN n) := ⟨hBr3.os, hBr3.tape, hBr3.output, hBr3.size, hBr3.block⟩
      by_cases hp : p x = true
      · have hfx : L.find? p = some x := find_at (pre := L.take k) (by
          have e : L.take k ++ [x] = L.take (k + 1) := by rw [List.take_add_one, HX.out]; rfl
          rw [e]; exact List.take_prefix _ _) (fun y hy => by
            obtain ⟨j, hj, hjy⟩ := List.mem_iff_getElem.1 hy
            have hjk : j < k := by rw [List.length_take] at hj; omega
            exact HK.out j y hjk (by rw [← hjy, List.getElem_take, List.getElem?_eq_getElem])) hp
        have HFX := Lib.hid hfx
        rw [hp]
        clear hp hfx
        go_wp2_with fail
        go_ret2
        rw [HFX.out]
        exact ⟨r, d, ⟨by rw [Option.getD_some, hxN]; rfl, hBw4⟩, HI3.out.more (show w1.heap.size ≤ w3.heap.size from hBr3.size)⟩
      · have hpf : p x = false := by simpa using hp
        rw [hpf]
        have HK2 : Hid (∀ j y, j < k + 1 → L[j]? = some y → p y = false) := Lib.hid fun j y hj hy => by
          by_cases e : j = k
          · subst e; rw [HX.out] at hy; cases hy; exact hpf
          · exact HK.out j y (by omega) hy
        clear hp hpf
        go_wp2_with fail
        go_roundw
        case rel => exact ⟨k + 1, by omega, by go_num, hBw4, hBr4, HK2⟩
        case measure => simp [intOf]; omega
    · obtain rfl : k = L.length := by omega
      have hfn : L.find? p = none := find_not fun y hy => by
        obtain ⟨j, hj, hjy⟩ := List.mem_iff_getElem.1 hy
        exact HK.out j y hj (by rw [List.getElem?_eq_getElem hj, hjy])
      have HFN := Lib.hid hfn
      clear hfn
      go_wp2_with fail
      go_ret2
      rw [HFN.out]
      exact ⟨_, _, ⟨rfl, hBw.alloc hBw.size _⟩, ints_none _ _ _⟩

end Go.Proofs.Ytmohmecdhabapac
