/-
  impl.DeedText.
-/
import Derived.Test.YtofpjepndhpciaaDoorP15a
import Derived.Test.YtofpjepndhpciaaDoorLD
import Derived.Test.YtofpjepndhpciaaDoorSh5
namespace Go.Proofs.YtofpjepndhpciaaDoor
open Go.RowKit Go.Shelf Go.Deep

/-- THE WORDS of deeds, by their kinds. -/
def wrdL : Nat → List UInt8
  | 0 => [97, 114, 114, 111, 119]
  | 1 => [110, 111, 100, 101]
  | 2 => [100, 114, 111, 112]
  | 3 => [99, 111, 114, 101]
  | 4 => [116, 117, 114, 110]
  | _ => [98, 97, 99, 107]
/-- The program's table of words holds them, and the library's MaxLen some number. -/
structure DWs (W : World) : Prop where
  lt : 0 < W.heap.size
  at_ : ∀ i, i < 6 → W.cell? ⟨0, i, none⟩ = some (.string (tB (wrdL i)))
  mlt : 1 < W.heap.size
  mx : ∃ m : Int, W.cell? ⟨1, 0, none⟩ = some (.int .i64 m)
theorem DWs.below {W W' : World} (h : DWs W) {n : Nat} (hb : Below n W W') (hn : 0 < n) (hn2 : 1 < n) : DWs W' :=
  ⟨Nat.lt_of_lt_of_le h.lt hb.size, fun i hi => (hb.cell (p := ⟨0, i, none⟩) hn).trans (h.at_ i hi), Nat.lt_of_lt_of_le h.mlt hb.size, let ⟨m, hm⟩ := h.mx; ⟨m, (hb.cell (p := ⟨1, 0, none⟩) hn2).trans hm⟩⟩
theorem DWs.kept {w W : World} (h : DWs w) (hb : Below w.heap.size w W) : DWs W := h.below hb h.lt h.mlt
theorem DWs.drewN {w : World} (h : DWs w) (n : Nat) : DWs (w.drewN n) := h.kept (below_drewN (Below.refl _ _) n)

/-- What stands behind a word: a space and a digit for each node. -/
def numT (l : List Int) : List UInt8 := l.flatMap fun x => [32, dgI x]
theorem numT_snoc {l : List Int} {k : Nat} {x : Int} (h : l[k]? = some x) : numT (l.take (k + 1)) = numT (l.take k) ++ [32, dgI x] := by
  unfold numT
  rw [List.take_add_one, h, List.flatMap_append]
  rfl
theorem nod_in {d : Dd} (h : ∀ x ∈ nodL d, 0 ≤ x ∧ x ≤ 9) : (d.k = 0 → (0 ≤ d.a ∧ d.a ≤ 9) ∧ (0 ≤ d.b ∧ d.b ≤ 9)) ∧ (d.k = 2 → 0 ≤ d.a ∧ d.a ≤ 9) := by
  refine ⟨fun hk => ?_, fun hk => ?_⟩
  · unfold nodL at h; rw [if_pos hk] at h
    exact ⟨h _ (by simp), h _ (by simp)⟩
  · unfold nodL at h; rw [if_neg (by omega), if_pos hk] at h
    exact h _ (by simp)
theorem nnm_iff {d : Dd} : nnmI d = true ↔ ∀ x ∈ othL d, x = 0 := by
  unfold nnmI
  simp only [List.all_eq_true, decide_eq_true_eq]
theorem ddT_named {d : Dd} {k : Nat} (hk : d.k = (k : Int)) (h6 : k < 6) (hn : nnmI d = true) (hx : ∀ x ∈ nodL d, 0 ≤ x ∧ x ≤ 9) : ddT d = wrdL k ++ numT (nodL d) := by
  obtain ⟨dk, a, b⟩ := d
  have hk' : dk = (k : Int) := hk
  subst hk'
  have ho := nnm_iff.1 hn
  obtain ⟨h0, h2⟩ := nod_in hx
  match k, h6 with
  | 0, _ =>
    obtain ⟨ha, hb⟩ := h0 rfl
    rw [ddT_arrow ⟨rfl, ha, hb⟩]; rfl
  | 1, _ =>
    have ha : a = 0 := ho _ (by simp [othL])
    have hb : b = 0 := ho _ (by simp [othL])
    subst ha; subst hb; rfl
  | 2, _ =>
    have hb : b = 0 := ho _ (by simp [othL])
    subst hb
    rw [ddT_drop ⟨rfl, h2 rfl, rfl⟩]; rfl
  | 3, _ =>
    have ha : a = 0 := ho _ (by simp [othL])
    have hb : b = 0 := ho _ (by simp [othL])
    subst ha; subst hb; rfl
  | 4, _ =>
    have ha : a = 0 := ho _ (by simp [othL])
    have hb : b = 0 := ho _ (by simp [othL])
    subst ha; subst hb; rfl
  | 5, _ =>
    have ha : a = 0 := ho _ (by simp [othL])
    have hb : b = 0 := ho _ (by simp [othL])
    subst ha; subst hb; rfl
theorem ddT_some_named {d : Dd} (h : ddT d ≠ []) : (0 ≤ d.k ∧ d.k < 6) ∧ nnmI d = true ∧ ∀ x ∈ nodL d, 0 ≤ x ∧ x ≤ 9 := by
  have hall : ∀ d ∈ ddAll, decide (0 ≤ d.k ∧ d.k < 6) && (nnmI d && (nodL d).all fun x => decide (0 ≤ x ∧ x ≤ 9)) = true := by decide +kernel
  have := hall d (ddT_all h)
  simp only [Bool.and_eq_true, decide_eq_true_eq, List.all_eq_true] at this
  exact ⟨this.1, this.2.1, this.2.2⟩
theorem ddT_nil_kind {d : Dd} (h : ¬ (0 ≤ d.k ∧ d.k < 6)) : ddT d = [] := Classical.byContradiction fun e => h (ddT_some_named e).1
theorem ddT_nil_nnm {d : Dd} (h : nnmI d = false) : ddT d = [] := Classical.byContradiction fun e => by rw [(ddT_some_named e).2.1] at h; cases h
theorem ddT_nil_nod {d : Dd} {x : Int} (hx : x ∈ nodL d) (h : ¬ (0 ≤ x ∧ x ≤ 9)) : ddT d = [] := Classical.byContradiction fun e => h ((ddT_some_named e).2.2 x hx)


theorem itoa_dig {X : Nat} (h : X < 10) : (⟨(Lib.decDigits X).toArray⟩ : ByteArray) = digB X := by
  have : ∀ i : Nat, i < 10 → ((Lib.decDigits i : List UInt8) = (digB i).data.toList) := by decide +kernel
  rw [this X h]
theorem wrd_size (K : Nat) : (tB (wrdL K)).size ≤ 5 + 2 * 0 := by
  unfold wrdL; split <;> decide
theorem join_word (t : ByteArray) (x : Nat) {l : List UInt8} (ht : t = tB l) : t ++ ((⟨#[32]⟩ : ByteArray) ++ digB x) = tB (l ++ [32, dgI (x : Int)]) := by
  subst ht
  refine tB_ext ?_
  simp only [ByteArray.data_append, Array.toList_append, dig_list]
  rfl

set_option maxRecDepth 100000 in
set_option maxHeartbeats 4000000 in
theorem implDdt (k a b : Int) (w : World) (hW : DWs w) : Calls Tryd.prog 11 #[.agg #[.int .i64 k, .int .i64 a, .int .i64 b]] w (TextOf ⟨k, a, b⟩ w) := by
  have HD := Lib.hid (DdBox.new k a b w)
  obtain ⟨T, HT⟩ : ∃ T, Hid (ddT ⟨k, a, b⟩ = T) := ⟨_, rfl⟩
  unfold TextOf
  rw [HT.out]
  have hWV := hW.kept (HD.out.low)
  have HWV := Lib.hid hWV
  have hck := HD.out.ck
  have hca := HD.out.ca
  have hcb := HD.out.cb
  have hld := HD.out.lt
  have HL := Lib.hid HD.out.low
  obtain ⟨V, hV⟩ : ∃ V, w.alloc (.cells #[.int .i64 k, .int .i64 a, .int .i64 b] 24) = V := ⟨_, rfl⟩
  have HV := Lib.hid hV
  by_cases hk : 0 ≤ k ∧ k < 6
  · obtain ⟨hk0, hk6⟩ := hk
    obtain ⟨K, rfl⟩ : ∃ K : Nat, k = (K : Int) := ⟨k.toNat, by omega⟩
    have hK6 : K < 6 := by omega
    have hcw := hWV.at_ K hK6
    rw [hV] at hcw hck hca hcb hld HL HWV HD
    have hNN := nnm_any (K : Int) a b V
    cases hn : nnmI ⟨(K : Int), a, b⟩ with
    | false =>
      have HT2 : Hid (T = []) := Lib.hid (HT.out.symm.trans (ddT_nil_nnm hn))
      rw [hn] at hNN
      have HNN := Lib.hid hNN
      clear hNN hn hV hWV hW HWV
      go_enter Tryd.func11, Tryd.ntmps11
      go_wp2_with fail
      rw [HV.out]
      refine HNN.out.mono ?_
      rintro e w2 ⟨rfl, hB2⟩
      go_wp2_with fail
      go_ret
      exact ⟨by rw [HT2.out]; rfl, HL.out.trans (hB2.mono HL.out.size)⟩
    | true =>
      rw [hn] at hNN
      have HNN := Lib.hid hNN
      have HNT := Lib.hid hn
      have HD2 := Lib.hid HD.out
      clear hNN hn hV hWV hW
      go_enter Tryd.func11, Tryd.ntmps11
      go_wp2_with fail
      rw [HV.out]
      refine HNN.out.mono ?_
      rintro e w2 ⟨rfl, hB2⟩
      have hld2 : w.heap.size < w2.heap.size := Nat.lt_of_lt_of_le hld hB2.size
      have hD3 := HD2.out.below hB2
      have hck3 := hD3.ck
      have hca3 := hD3.ca
      have hcb3 := hD3.cb
      have hcw3 := (HWV.out.kept hB2).at_ K hK6
      have HL3 := Lib.hid hD3.low
      have hz3 := hD3.low.size
      clear hck hca hcb hcw hD3 hB2 HD2 HNN HV HL
      go_wp2_with fail
      refine (named_any (K : Int) a b w2).mono ?_
      rintro e w3 ⟨an, ao, cn, co, ⟨rfl, hB3⟩, hN, hO⟩
      have HL4 := Lib.hid (HL3.out.trans (hB3.mono hz3))
      have hNl := nodL_len ⟨(K : Int), a, b⟩
      have HTT : Hid ((∀ x ∈ nodL ⟨(K : Int), a, b⟩, 0 ≤ x ∧ x ≤ 9) → T = wrdL K ++ numT (nodL ⟨(K : Int), a, b⟩)) := Lib.hid fun h => HT.out.symm.trans (ddT_named (k := K) rfl hK6 HNT.out h)
      have HTN : Hid (∀ x ∈ nodL ⟨(K : Int), a, b⟩, ¬ (0 ≤ x ∧ x ≤ 9) → T = []) := Lib.hid fun x hx h => HT.out.symm.trans (ddT_nil_nod hx h)
      obtain ⟨N, HN⟩ : ∃ N, Hid (nodL ⟨(K : Int), a, b⟩ = N) := ⟨_, rfl⟩
      rw [HN.out] at hN hNl HTT HTN ⊢
      clear hO hB3 hck3 hca3 hcb3 hcw3 HL3 hz3 HNT HT HN
      go_wp2_with fail
      go_loopw [3, 32] (fun t i wr => ∃ (j : Nat) (S : ByteArray), j ≤ N.length ∧ i = .int .i64 j ∧ t = .string S ∧ S.size ≤ 5 + 2 * j ∧ wr = w3 ∧ Hid (S = tB (wrdL K ++ numT (N.take j))) ∧ Hid (∀ (m : Nat) (x : Int), m < j → N[m]? = some x → 0 ≤ x ∧ x ≤ 9)) (fun _ i _ => N.length - (intOf i).toNat)
      case atStart => exact ⟨0, _, Nat.zero_le _, rfl, rfl, wrd_size K, rfl, Lib.hid (by rw [List.take_zero]; show tB (wrdL K) = tB (wrdL K ++ []); rw [List.append_nil]), Lib.hid fun m x h => absurd h (Nat.not_lt_zero _)⟩
      case round =>
        obtain ⟨j, S, hj, rfl, rfl, hS, rfl, HS, HA⟩ := hrel
        by_cases hlt : j < N.length
        · obtain ⟨b1, o1, x, rfl, hb1, hc1, HX⟩ := hN.at_ hlt
          have hji : (j : Int) < (N.length : Int) := by omega
          by_cases hx0 : x < 0
          · have HT2 : Hid (T = []) := Lib.hid (HTN.out x (List.mem_of_getElem? HX.out) (by omega))
            go_wp2_with fail
            go_ret
            exact ⟨by rw [HT2.out]; rfl, HL4.out⟩
          · by_cases hx9 : 9 < x
            · have HT2 : Hid (T = []) := Lib.hid (HTN.out x (List.mem_of_getElem? HX.out) (by omega))
              go_wp2_with fail
              go_ret
              exact ⟨by rw [HT2.out]; rfl, HL4.out⟩
            · obtain ⟨X, rfl⟩ : ∃ X : Nat, x = (X : Int) := ⟨x.toNat, by omega⟩
              have hX9 : X < 10 := by omega
              have HI := Lib.hid (strconv_Itoa_small X (by omega) wr)
              rw [itoa_dig hX9] at HI
              have hdz : (digB X).size = 1 := rfl
              have HS2 : Hid (S ++ ((⟨#[32]⟩ : ByteArray) ++ digB X) = tB (wrdL K ++ numT (N.take (j + 1)))) := Lib.hid (by rw [join_word S X HS.out, numT_snoc HX.out, List.append_assoc])
              have hsz : (S ++ ((⟨#[32]⟩ : ByteArray) ++ digB X)).size ≤ 5 + 2 * (j + 1) := by
                rw [ByteArray.size_append, ByteArray.size_append, hdz]
                have : (⟨#[32]⟩ : ByteArray).size = 1 := rfl
                omega
              have HA2 : Hid (∀ (m : Nat) (x : Int), m < j + 1 → N[m]? = some x → 0 ≤ x ∧ x ≤ 9) := Lib.hid fun m x hm hx => by
                by_cases e : m = j
                · subst e; rw [HX.out] at hx; cases hx; omega
                · exact HA.out m x (by omega) hx
              obtain ⟨Dg, hDg⟩ : ∃ D, digB X = D := ⟨_, rfl⟩
              rw [hDg] at HI HS2 hsz hdz
              clear hDg
              go_wp2_with fail
              refine HI.out.mono ?_
              rintro e w5 ⟨rfl, rfl⟩
              go_wp2_with fail
              go_roundw
              case rel => exact ⟨j + 1, _, by omega, by go_num, rfl, hsz, trivial, HS2, HA2⟩
              case measure => simp [intOf]; omega
        · obtain rfl : j = N.length := by omega
          have hT : T = wrdL K ++ numT N := HTT.out fun x hx => by
            obtain ⟨m, hm⟩ := List.getElem?_of_mem hx
            exact HA.out m x (List.getElem?_eq_some_iff.1 hm).1 hm
          have HT2 := Lib.hid hT
          clear hT
          go_wp2_with fail
          go_ret
          exact ⟨by rw [HT2.out, HS.out, List.take_length]; rfl, HL4.out⟩
  · have HT2 : Hid (T = []) := Lib.hid (HT.out.symm.trans (ddT_nil_kind hk))
    by_cases hk0 : k < 0
    · clear hV hWV hW HWV hk
      go_enter Tryd.func11, Tryd.ntmps11
      go_wp2_with fail
      go_ret
      exact ⟨by rw [HT2.out]; rfl, HL.out⟩
    · have hk6 : 6 ≤ k := by omega
      clear hV hWV hW HWV hk
      go_enter Tryd.func11, Tryd.ntmps11
      go_wp2_with fail
      go_ret
      exact ⟨by rw [HT2.out]; rfl, HL.out⟩

end Go.Proofs.YtofpjepndhpciaaDoor
