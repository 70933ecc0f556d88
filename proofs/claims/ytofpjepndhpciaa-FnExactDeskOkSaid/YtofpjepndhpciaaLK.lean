/-
  Desks: what can be read of them; the model's DeskOk.
-/
import Derived.Test.YtofpjepndhpciaaLE
import Derived.Test.YtofpjepndhpciaaC2
namespace Go.Proofs.Ytofpjepndhpciaa
open Go.RowKit Go.Shelf Go.Deep

/-- GRAPHS (or what are none) IN A SLICE. -/
def Cube (n₀ : Nat) (W : World) (a : Option Addr) (P : List (List (List Int))) : Prop :=
  P ≠ [] → ∃ b o, a = some ⟨b, o, none⟩ ∧ b < n₀ ∧ ∀ (i : Nat) (G : List (List Int)), P[i]? = some G → ∃ (aG : Option Addr) (cG : Nat), W.cell? ⟨b, o + i, none⟩ = some (.slice aG G.length cG) ∧ Mat n₀ W aG G
theorem Cube.below {n₀ : Nat} {A B : World} {a : Option Addr} {P : List (List (List Int))} (h : Cube n₀ A a P) (hb : Below n₀ A B) : Cube n₀ B a P := fun hne => by
  obtain ⟨b, o, e, hlt, hc⟩ := h hne
  refine ⟨b, o, e, hlt, fun i G hG => ?_⟩
  obtain ⟨aG, cG, h1, h2⟩ := hc i G hG
  exact ⟨aG, cG, (hb.cell (p := ⟨b, o + i, none⟩) hlt).trans h1, h2.below hb⟩
theorem Cube.more {n₀ n₁ : Nat} {A : World} {a : Option Addr} {P : List (List (List Int))} (h : Cube n₀ A a P) (hn : n₀ ≤ n₁) : Cube n₁ A a P := fun hne => by
  obtain ⟨b, o, e, hlt, hc⟩ := h hne
  refine ⟨b, o, e, by omega, fun i G hG => ?_⟩
  obtain ⟨aG, cG, h1, h2⟩ := hc i G hG
  exact ⟨aG, cG, h1, h2.more hn⟩
theorem Cube.at_ {n₀ : Nat} {W : World} {a : Option Addr} {P : List (List (List Int))} (h : Cube n₀ W a P) {k : Nat} (hk : k < P.length) :
    ∃ b o G aG cG, a = some ⟨b, o, none⟩ ∧ b < n₀ ∧ Hid (P[k]? = some G) ∧ W.cell? ⟨b, o + k, none⟩ = some (.slice aG G.length cG) ∧ Mat n₀ W aG G := by
  obtain ⟨b, o, e, hb, hc⟩ := h (by intro e; simp [e] at hk)
  obtain ⟨aG, cG, h1, h2⟩ := hc k P[k] (List.getElem?_eq_getElem hk)
  exact ⟨b, o, P[k], aG, cG, e, hb, List.getElem?_eq_getElem hk, h1, h2⟩
/-- All graphs fit. -/
def FitC (P : List (List (List Int))) : Prop := P.length ≤ 1048576 ∧ ∀ G ∈ P, Fit G
theorem dok_false_past {d : Dk} {k : Nat} {G : List (List Int)} (h : d.past[k]? = some G) (hg : gOk G = false) : dokI d = false := by
  cases hd : dokI d with
  | false => rfl
  | true =>
    have := (dok_iff.1 hd).1 G (List.mem_of_getElem? h)
    rw [hg] at this; cases this
theorem dok_past {d : Dk} (h : ∀ (j : Nat) (G : List (List Int)), j < d.past.length → d.past[j]? = some G → gOk G = true) : dokI d = (gOk d.now && decide (d.past.length ≤ 8)) := by
  unfold dokI
  rw [show (d.past.all fun g => gOk g) = true from List.all_eq_true.2 fun G hG => by
    obtain ⟨j, hj⟩ := List.getElem?_of_mem hG
    exact h j G (List.getElem?_eq_some_iff.1 hj).1 hj]
  rfl

set_option maxRecDepth 100000 in
set_option maxHeartbeats 4000000 in
theorem specDok (n₀ : Nat) (aN : Option Addr) (cN : Nat) (G : List (List Int)) (aP : Option Addr) (cP : Nat) (P : List (List (List Int))) (w : World) (hM : Mat n₀ w aN G) (hC : Cube n₀ w aP P) (hn : n₀ ≤ w.heap.size) (hF : Fit G) (hFC : FitC P) :
    Calls Try.prog 9 #[.agg #[.slice aN G.length cN, .slice aP P.length cP]] w (Ans (.bool (dokI ⟨G, P⟩)) w) := by
  obtain ⟨z, HZ⟩ : ∃ z, Hid (dokI ⟨G, P⟩ = z) := ⟨_, rfl⟩
  rw [HZ.out]
  have hlP := hFC.1
  have HF := Lib.hid hF
  have HFC := Lib.hid hFC
  have hB0 : Below w.heap.size w (w.alloc (.cells #[.slice aN G.length cN, .slice aP P.length cP] 26)) := (Below.refl _ _).alloc (Nat.le_refl _) _
  have c0 : (w.alloc (.cells #[.slice aN G.length cN, .slice aP P.length cP] 26)).cell? ⟨w.heap.size, 0, none⟩ = some (.slice aN G.length cN) := by simp [go_sem]
  have c1 : (w.alloc (.cells #[.slice aN G.length cN, .slice aP P.length cP] 26)).cell? ⟨w.heap.size, 1, none⟩ = some (.slice aP P.length cP) := by simp [go_sem]
  have hM1 := hM.below (hB0.mono hn)
  have hC1 := hC.below (hB0.mono hn)
  clear hF hFC hM hC
  go_enter Try.func9, Try.ntmps9
  go_wp2_with fail
  obtain ⟨V, hV⟩ : ∃ V, w.alloc (.cells #[.slice aN G.length cN, .slice aP P.length cP] 26) = V := ⟨_, rfl⟩
  rw [hV] at hB0 c0 c1 hM1 hC1 ⊢
  clear hV
  have HB0 := Lib.hid hB0
  clear hB0
  go_loopw [3] (fun i wr => ∃ k : Nat, k ≤ P.length ∧ i = .int .i64 k ∧ wr = V ∧ Hid (∀ (j : Nat) (H : List (List Int)), j < k → P[j]? = some H → gOk H = true)) (fun i _ => P.length - (intOf i).toNat)
  case atStart => exact ⟨0, Nat.zero_le _, rfl, rfl, Lib.hid fun j H h => absurd h (Nat.not_lt_zero _)⟩
  case round =>
    obtain ⟨k, hk, rfl, rfl, HN⟩ := hrel
    by_cases hlt : k < P.length
    · obtain ⟨b, o, H, aH, cH, rfl, hb, HH, q1, hMH⟩ := hC1.at_ hlt
      have hFH := HFC.out.2 H (List.mem_of_getElem? HH.out)
      have hkl : (k : Int) < (P.length : Int) := by omega
      have hSO := specOk_any aH cH H _ wr hMH hFH
      cases hg : gOk H with
      | false =>
        have HZ2 : Hid (z = false) := Lib.hid (HZ.out.symm.trans (dok_false_past (d := ⟨G, P⟩) HH.out hg))
        rw [hg] at hSO
        have HSO := Lib.hid hSO
        clear hSO hg hMH hFH
        go_wp2_with fail
        refine HSO.out.mono ?_
        rintro e w3 ⟨rfl, rfl⟩
        go_wp2_with fail
        go_ret
        exact ⟨by rw [HZ2.out]; rfl, HB0.out⟩
      | true =>
        have HN2 : Hid (∀ (j : Nat) (X : List (List Int)), j < k + 1 → P[j]? = some X → gOk X = true) := Lib.hid fun j X hj hX => by
          by_cases e : j = k
          · subst e; rw [HH.out] at hX; cases hX; exact hg
          · exact HN.out j X (by omega) hX
        rw [hg] at hSO
        have HSO := Lib.hid hSO
        clear hSO hg hMH hFH
        go_wp2_with fail
        refine HSO.out.mono ?_
        rintro e w3 ⟨rfl, rfl⟩
        go_wp2_with fail
        go_roundw
        case rel => exact ⟨k + 1, by omega, by go_num, trivial, HN2⟩
        case measure => simp [intOf]; omega
    · have hkl : ¬ (k : Int) < (P.length : Int) := by omega
      have HZ2 : Hid (z = (gOk G && decide (P.length ≤ 8))) := Lib.hid (HZ.out.symm.trans (dok_past (d := ⟨G, P⟩) fun j H hj hH => HN.out j H (by have : j < P.length := hj; omega) hH))
      have hSO := specOk_any aN cN G _ wr hM1 HF.out
      cases hg : gOk G with
      | false =>
        rw [hg] at hSO
        have HZ3 : Hid (z = false) := Lib.hid (HZ2.out.trans (by rw [hg]; rfl))
        have HSO := Lib.hid hSO
        clear hSO hg
        go_wp2_with fail
        refine HSO.out.mono ?_
        rintro e w3 ⟨rfl, rfl⟩
        go_wp2_with fail
        go_ret
        exact ⟨by rw [HZ3.out]; rfl, HB0.out⟩
      | true =>
        rw [hg] at hSO
        have HSO := Lib.hid hSO
        by_cases h8 : P.length ≤ 8
        · have HZ3 : Hid (z = true) := Lib.hid (HZ2.out.trans (by rw [hg, decide_eq_true h8]; rfl))
          have h8i : (P.length : Int) ≤ 8 := by omega
          clear hSO hg
          go_wp2_with fail
          refine HSO.out.mono ?_
          rintro e w3 ⟨rfl, rfl⟩
          go_wp2_with fail
          go_ret
          exact ⟨by rw [HZ3.out]; rfl, HB0.out⟩
        · have HZ3 : Hid (z = false) := Lib.hid (HZ2.out.trans (by rw [hg, decide_eq_false h8]; rfl))
          have h8i : ¬ (P.length : Int) ≤ 8 := by omega
          clear hSO hg
          go_wp2_with fail
          refine HSO.out.mono ?_
          rintro e w3 ⟨rfl, rfl⟩
          go_wp2_with fail
          go_ret
          exact ⟨ret_bool (by rw [HZ3.out]; exact decide_eq_false (by omega)), HB0.out⟩

end Go.Proofs.Ytofpjepndhpciaa
