/-
  The model's l1Digits; lists of deeds in memory.
-/
import Derived.Test.YtofpjepndhpciaaDoorLC
import Derived.Test.YtofpjepndhpciaaDoorLD0
import Derived.Test.YtofpjepndhpciaaDoorZC
namespace Go.Proofs.YtofpjepndhpciaaDoor
open Go.RowKit Go.Shelf Go.Deep

theorem one_list {s : ByteArray} (h : s.size = 1) : ∃ b : UInt8, s.data.toList = [b] ∧ ∀ (h0 : 0 < s.size), s[0]'h0 = b := by
  obtain ⟨⟨l⟩⟩ := s
  match l, h with
  | [b], _ => exact ⟨b, rfl, fun _ => rfl⟩
set_option maxRecDepth 100000 in
set_option maxHeartbeats 1000000 in
theorem digits_any (s : ByteArray) (w : World) : Calls Tryd.prog 44 #[.string s] w fun e w' => e = .returned (.int .i64 (dgV s.data.toList)) ∧ w = w' := by
  obtain ⟨z, HZ⟩ : ∃ z, Hid (dgV s.data.toList = z) := ⟨_, rfl⟩
  rw [HZ.out]
  by_cases h1 : s.size = 1
  · obtain ⟨b, hb, h0⟩ := one_list h1
    have h2 := h0 (by omega)
    have hi0 : (0 : Int) < (s.size : Int) := by omega
    have hl1 : ((s.size : Int) != 1) = false := by simp; omega
    have HZ2 : Hid (z = if 48 ≤ b.toNat ∧ b.toNat ≤ 57 then ((b.toNat - 48 : Nat) : Int) else -1) := Lib.hid (by rw [← HZ.out, hb]; rfl)
    have hbl : b.toNat < 256 := b.toNat_lt
    have hj0 : 0 < s.size := by omega
    obtain ⟨n, hn⟩ : ∃ n, b.toNat = n := ⟨_, rfl⟩
    have h3 : (s[0]'hj0).toNat = n := by rw [h2, hn]
    rw [hn] at HZ2 hbl
    clear hb h0 h2 hn
    by_cases ha : n < 48
    · have HZ3 : Hid (z = -1) := Lib.hid (by rw [HZ2.out, if_neg (by omega)])
      go_enter Tryd.func44, Tryd.ntmps44
      go_wp2_with fail
      go_ret
      exact ⟨by rw [HZ3.out]; rfl, rfl⟩
    by_cases hc : 57 < n
    · have HZ3 : Hid (z = -1) := Lib.hid (by rw [HZ2.out, if_neg (by omega)])
      go_enter Tryd.func44, Tryd.ntmps44
      go_wp2_with fail
      go_ret
      exact ⟨by rw [HZ3.out]; rfl, rfl⟩
    have HZ3 : Hid (z = ((n - 48 : Nat) : Int)) := Lib.hid (by rw [HZ2.out, if_pos (by omega)])
    go_enter Tryd.func44, Tryd.ntmps44
    go_wp2_with fail
    go_ret
    exact ⟨by rw [HZ3.out]; go_num, rfl⟩
  · have hl1 : ((s.size : Int) != 1) = true := by simp; omega
    have HZ3 : Hid (z = -1) := Lib.hid (by
      rw [← HZ.out]
      have hl : s.data.toList.length ≠ 1 := by simpa using h1
      unfold dgV
      split
      · rename_i b hb; rw [hb] at hl; simp at hl
      · rfl)
    go_enter Tryd.func44, Tryd.ntmps44
    go_wp2_with fail
    go_ret
    exact ⟨by rw [HZ3.out]; rfl, rfl⟩

/-- DEEDS, cell by cell. -/
def ddC (l : List Dd) : List Value := l.flatMap fun d => [.int .i64 d.k, .int .i64 d.a, .int .i64 d.b]
theorem ddC_app (l r : List Dd) : ddC (l ++ r) = ddC l ++ ddC r := by simp [ddC]
theorem ddC_len : ∀ l : List Dd, (ddC l).length = l.length * 3
  | [] => rfl
  | d :: l => by
    have := ddC_len l
    simp only [ddC, List.flatMap_cons, List.length_append, List.length_cons, List.length_nil] at this ⊢
    omega
theorem ddC_get : ∀ {l : List Dd} {i : Nat} {d : Dd}, l[i]? = some d → (ddC l)[i * 3]? = some (.int .i64 d.k) ∧ (ddC l)[i * 3 + 1]? = some (.int .i64 d.a) ∧ (ddC l)[i * 3 + 2]? = some (.int .i64 d.b)
  | [], i, d, h => by simp at h
  | x :: l, 0, d, h => by
    simp at h; subst h
    exact ⟨rfl, rfl, rfl⟩
  | x :: l, i + 1, d, h => by
    have h2 : l[i]? = some d := by simpa using h
    obtain ⟨h3, h4, h5⟩ := ddC_get h2
    have e : ddC (x :: l) = [.int .i64 x.k, .int .i64 x.a, .int .i64 x.b] ++ ddC l := rfl
    refine ⟨?_, ?_, ?_⟩
    · rw [e, List.getElem?_append_right (by simp; omega)]; simpa [show (i + 1) * 3 - 3 = i * 3 by omega] using h3
    · rw [e, List.getElem?_append_right (by simp; omega)]; simpa [show (i + 1) * 3 + 1 - 3 = i * 3 + 1 by omega] using h4
    · rw [e, List.getElem?_append_right (by simp; omega)]; simpa [show (i + 1) * 3 + 2 - 3 = i * 3 + 2 by omega] using h5
/-- DEEDS OF ONE's OWN. -/
def OwnD (base : Nat) (W : World) (v : Value) (l : List Dd) : Prop := W.ownsRow base 24 3 v l.length (ddC l)
/-- DEEDS THAT CAN BE READ. -/
def Deeds (n₀ : Nat) (W : World) (a : Option Addr) (l : List Dd) : Prop :=
  l ≠ [] → ∃ b o, a = some ⟨b, o, none⟩ ∧ b < n₀ ∧ ∀ (i : Nat) (d : Dd), l[i]? = some d → W.cell? ⟨b, o + i * 3, none⟩ = some (.int .i64 d.k) ∧ W.cell? ⟨b, o + i * 3 + 1, none⟩ = some (.int .i64 d.a) ∧ W.cell? ⟨b, o + i * 3 + 2, none⟩ = some (.int .i64 d.b)
theorem Deeds.keep {n₀ : Nat} {A B : World} {a : Option Addr} {l : List Dd} (h : Deeds n₀ A a l) (hk : ∀ p : Addr, p.block < n₀ → B.cell? p = A.cell? p) : Deeds n₀ B a l := fun hne => by
  obtain ⟨b, o, e, hb, hc⟩ := h hne
  refine ⟨b, o, e, hb, fun i d hd => ?_⟩
  obtain ⟨h1, h2, h3⟩ := hc i d hd
  exact ⟨(hk ⟨b, o + i * 3, none⟩ hb).trans h1, (hk ⟨b, o + i * 3 + 1, none⟩ hb).trans h2, (hk ⟨b, o + i * 3 + 2, none⟩ hb).trans h3⟩
theorem Deeds.below {n₀ : Nat} {A B : World} {a : Option Addr} {l : List Dd} (h : Deeds n₀ A a l) (hb : Below n₀ A B) : Deeds n₀ B a l := h.keep fun _ hp => hb.cell hp
theorem Deeds.more {n₀ n₁ : Nat} {A : World} {a : Option Addr} {l : List Dd} (h : Deeds n₀ A a l) (hn : n₀ ≤ n₁) : Deeds n₁ A a l := fun hne => by
  obtain ⟨b, o, e, hb, hc⟩ := h hne
  exact ⟨b, o, e, by omega, hc⟩
theorem Deeds.at_ {n₀ : Nat} {W : World} {a : Option Addr} {l : List Dd} (h : Deeds n₀ W a l) {k : Nat} (hk : k < l.length) :
    ∃ b o d, a = some ⟨b, o, none⟩ ∧ b < n₀ ∧ Hid (l[k]? = some d) ∧ W.cell? ⟨b, o + k * 3, none⟩ = some (.int .i64 d.k) ∧ W.cell? ⟨b, o + k * 3 + 1, none⟩ = some (.int .i64 d.a) ∧ W.cell? ⟨b, o + k * 3 + 2, none⟩ = some (.int .i64 d.b) := by
  obtain ⟨b, o, e, hb, hc⟩ := h (by intro e; simp [e] at hk)
  exact ⟨b, o, l[k], e, hb, List.getElem?_eq_getElem hk, hc k _ (List.getElem?_eq_getElem hk)⟩
theorem OwnD.deeds {base : Nat} {W : World} {v : Value} {l : List Dd} (h : OwnD base W v l) : ∃ a c, v = .slice a l.length c ∧ Deeds W.heap.size W a l := by
  rcases h.2 with ⟨rfl, h0⟩ | ⟨g, cap, cur, rfl, hb, hg, hr⟩
  · exact ⟨none, 0, by rw [h0], fun hne => absurd (List.eq_nil_of_length_eq_zero h0) hne⟩
  · refine ⟨some ⟨g, 0, none⟩, cap, rfl, fun _ => ⟨g, 0, rfl, (Array.getElem?_eq_some_iff.1 hg).1, fun i d hd => ?_⟩⟩
    obtain ⟨h1, h2, h3⟩ := ddC_get hd
    have hc := World.ownsRow.cells h (g := g) rfl
    have e1 := hc _ _ h1
    have e2 := hc _ _ h2
    have e3 := hc _ _ h3
    rw [Addr.add_lit] at e1 e2 e3
    rw [Nat.zero_add] at e1 e2 e3 ⊢
    exact ⟨e1, e2, e3⟩

end Go.Proofs.YtofpjepndhpciaaDoor
