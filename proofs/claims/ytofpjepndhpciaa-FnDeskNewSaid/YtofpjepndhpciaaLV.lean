/-
  Desks marked, and held.
-/
import Derived.Test.YtofpjepndhpciaaLU
import Derived.Test.YtofpjepndhpciaaZI
namespace Go.Proofs.Ytofpjepndhpciaa
open Go.RowKit Go.Shelf Go.Deep

def totD (d : Dk) : Nat := tot d.now + totC d.past
def markCL (k : Nat) (P : List (List (List Int))) : List (List (List Int)) := (List.range P.length).map fun i => markL (k + totC (P.take i)) (P[i]?.getD [])
theorem markCL_length (k : Nat) (P : List (List (List Int))) : (markCL k P).length = P.length := by simp [markCL]
theorem markCL_get {k i : Nat} {P : List (List (List Int))} {G : List (List Int)} (h : P[i]? = some G) : (markCL k P)[i]? = some (markL (k + totC (P.take i)) G) := by
  obtain ⟨hi, rfl⟩ := List.getElem?_eq_some_iff.1 h
  simp [markCL, hi]
def markDL (k : Nat) (d : Dk) : Dk := ⟨markL k d.now, markCL (k + tot d.now) d.past⟩
theorem totC_le {P : List (List (List Int))} (k : Nat) : totC (P.take k) ≤ totC P := by
  unfold totC
  have h : P = P.take k ++ P.drop k := (List.take_append_drop k P).symm
  conv => rhs; rw [h, List.map_append, List.sum_append]
  omega
theorem totC_all (P : List (List (List Int))) : totC (P.take P.length) = totC P := by rw [List.take_length]

theorem tot_le9 {m : Nat} : ∀ {G : List (List Int)}, (∀ xs ∈ G, xs.length ≤ m) → tot G ≤ m * G.length
  | [], _ => by simp [tot]
  | x :: G, h => by
    have h1 := tot_le9 (G := G) fun xs hx => h xs (List.mem_cons_of_mem _ hx)
    have h2 := h x List.mem_cons_self
    unfold tot at h1 ⊢
    simp only [List.map_cons, List.sum_cons, List.length_cons, Nat.mul_add, Nat.mul_one]
    omega
/-- THE FIRST k GRAPHS ARE MARKED. -/
structure MarkC (lo hi b : Nat) (A T : Nat → Nat) (P : List (List (List Int))) (q : Nat) (w W : World) (k : Nat) : Prop where
  bw : lo ≤ b ∧ b < T 0
  mono : ∀ i, T i ≤ T (i + 1)
  top : T P.length ≤ hi
  row : W.rowIs b 23 P.length (fun i => .slice (some ⟨A i, 0, none⟩) (P[i]?.getD []).length (P[i]?.getD []).length)
  done : ∀ i G, i < k → P[i]? = some G → OwnG (T i) (T (i + 1)) W (some ⟨A i, 0, none⟩) G.length (markL (q + totC (P.take i)) G)
  rest : ∀ i G, k ≤ i → P[i]? = some G → OwnG (T i) (T (i + 1)) W (some ⟨A i, 0, none⟩) G.length G
  touch : Touch (fun B => lo ≤ B ∧ B < hi) w W
theorem MarkC.step {lo hi b : Nat} {A T : Nat → Nat} {P : List (List (List Int))} {q : Nat} {w W W' : World} {k : Nat} {G : List (List Int)} (h : MarkC lo hi b A T P q w W k) (hG : P[k]? = some G) (ht : Touch (fun B => T k ≤ B ∧ B < T (k + 1)) W W')
    (hO : OwnG (T k) (T (k + 1)) W' (some ⟨A k, 0, none⟩) G.length (markL (q + totC (P.take k)) G)) : MarkC lo hi b A T P q w W' (k + 1) := by
  have hk := (List.getElem?_eq_some_iff.1 hG).1
  have h0 : T 0 ≤ T k := mono_le h.mono (Nat.zero_le k)
  have h1 : T (k + 1) ≤ T P.length := mono_le h.mono hk
  have hbw := h.bw
  have htp := h.top
  have hap : ∀ i, i ≠ k → ∀ B, (T k ≤ B ∧ B < T (k + 1)) → B < T i ∨ T (i + 1) ≤ B := fun i hi B hB => by
    rcases Nat.lt_or_gt_of_ne hi with h2 | h2
    · have := mono_le h.mono (show i + 1 ≤ k from h2); omega
    · have := mono_le h.mono (show k + 1 ≤ i from h2); omega
  refine ⟨hbw, h.mono, htp, World.rowIs.of_block h.row (ht.block b fun s => by omega), fun i H hi hH => ?_, fun i H hi hH => (h.rest i H (by omega) hH).touch ht (hap i (by omega)), h.touch.trans (ht.more fun B s => by omega)⟩
  by_cases e : i = k
  · subst e; rw [hG] at hH; cases hH; exact hO
  · exact (h.done i H (by omega) hH).touch ht (hap i e)
def MarkedC (lo hi : Nat) (a : Option Addr) (P : List (List (List Int))) (q : Nat) (w : World) (e : Ending) (w' : World) : Prop := e = .returned (.int .i64 ((q + totC P : Nat) : Int)) ∧ OwnC lo hi w' a P.length (markCL q P) ∧ Touch (fun B => lo ≤ B ∧ B < hi) w w'
theorem markL_len {k : Nat} {G : List (List Int)} : (markL k G).length = G.length := markL_length k G

set_option maxHeartbeats 1000000 in
theorem markC_any (lo hi : Nat) (a : Option Addr) (P : List (List (List Int))) (q : Nat) (w : World) (hO : OwnC lo hi w a P.length P) (hF : FitC P) (hq : q + totC P ≤ 1200000000000) :
    Calls Try.prog 42 #[.slice a P.length P.length, .int .i64 q] w (MarkedC lo hi a P q w) := by
  obtain ⟨b, A, T, ⟨rfl, _⟩, hb, hm, htp, hr, hd⟩ := hO
  have HF := Lib.hid hF
  have hl := hF.1
  have HP0 : Hid (MarkC lo hi b A T P q w w 0) := ⟨hb, hm, htp, hr, fun i G h => absurd h (Nat.not_lt_zero _), fun i G _ hG => hd i G hG, Touch.refl _ _⟩
  have HQ := Lib.hid hq
  have hq0 : q ≤ 1200000000000 := by omega
  clear hF hb hm htp hr hd hq
  go_enter Try.func42, Try.ntmps42
  go_wp2_with fail
  go_loopw [1, 5] (fun t i wr => ∃ j r : Nat, j ≤ P.length ∧ i = .int .i64 j ∧ t = .int .i64 (r : Int) ∧ Hid (r = q + totC (P.take j)) ∧ r ≤ 1200000000000 ∧ Hid (MarkC lo hi b A T P q w wr j)) (fun _ i _ => P.length - (intOf i).toNat)
  case atStart => exact ⟨0, q, Nat.zero_le _, rfl, rfl, Lib.hid (by simp [totC]), hq0, HP0⟩
  case round =>
    obtain ⟨j, r, hj, rfl, rfl, HR, hr, HP⟩ := hrel
    clear HP0
    by_cases hlt : j < P.length
    · obtain ⟨G, HG⟩ : ∃ G, Hid (P[j]? = some G) := ⟨_, List.getElem?_eq_getElem hlt⟩
      have hc := HP.out.row.cell hlt
      rw [HG.out, Option.getD_some] at hc
      have hFG := HF.out.2 G (List.mem_of_getElem? HG.out)
      have HOG := Lib.hid (HP.out.rest j G (Nat.le_refl _) HG.out)
      obtain ⟨x, F, ⟨e1, _⟩, ho, hx, hFb, hFi⟩ := HOG.out
      have ex : A j = x := by injection e1 with e1; injection e1
      have HMK := Lib.hid (markSS_big x G.length r F G wr ho hFG hFi hr)
      rw [← ex] at HMK
      have HS := Lib.hid (And.intro hx (And.intro hFb hFi))
      have HEX := Lib.hid ex
      clear ho hFG hFi hFb hx e1 ex
      go_wp2_with fail
      refine HMK.out.mono ?_
      rintro e w1 ⟨he, ho1, ht1⟩
      have hrq : r + tot G = q + totC (P.take (j + 1)) := by rw [totC_at HG.out, HR.out]; omega
      have HP1 : Hid (MarkC lo hi b A T P q w w1 (j + 1)) := HP.out.step HG.out (ht1.more fun B s => by obtain ⟨i, hi, rfl⟩ := s; exact HS.out.2.1 i hi)
        ⟨x, F, ⟨by rw [HEX.out], markL_len.symm⟩, by rw [← HR.out, ← HEX.out]; exact ho1, HS.out.1, fun i hi => HS.out.2.1 i (by rw [markL_len] at hi; exact hi), HS.out.2.2⟩
      have hle := totC_le (P := P) (j + 1)
      have hqq := HQ.out
      obtain ⟨s, hs⟩ : ∃ s, s = r + tot G := ⟨_, rfl⟩
      rw [← hs] at he hrq
      subst he
      have HRQ := Lib.hid hrq
      have hs2 : s ≤ 1200000000000 := by omega
      clear ho1 ht1 hrq hs hle hqq HMK
      go_wp2_with fail
      go_roundw
      case rel => exact ⟨j + 1, s, by omega, by go_num, rfl, HRQ, hs2, HP1⟩
      case measure => simp [intOf]; omega
    · obtain rfl : j = P.length := by omega
      have hrr : r = q + totC P := by rw [HR.out, totC_all]
      have HRR := Lib.hid hrr
      clear hrr
      go_wp2_with fail
      go_ret
      refine ⟨by rw [← HRR.out]; rfl, ⟨b, A, T, ⟨rfl, (markCL_length _ _).symm⟩, HP.out.bw, HP.out.mono, by rw [markCL_length]; exact HP.out.top, ?_, fun i G hG => ?_⟩, HP.out.touch⟩
      · rw [markCL_length]
        refine HP.out.row.congr fun i hi => ?_
        rw [markCL_get (List.getElem?_eq_getElem hi), List.getElem?_eq_getElem hi, Option.getD_some, Option.getD_some, markL_len]
      · have hi : i < P.length := by have := (List.getElem?_eq_some_iff.1 hG).1; rwa [markCL_length] at this
        rw [markCL_get (List.getElem?_eq_getElem hi)] at hG
        cases hG
        rw [markL_len]
        exact HP.out.done i _ hi (List.getElem?_eq_getElem hi)

set_option maxHeartbeats 1000000 in
theorem heldC_any (a : Option Addr) (c q n₀ : Nat) (P : List (List (List Int))) (w : World) (hM : Cube n₀ w a (markCL q P)) (hF : FitC P) (hq : q + totC P ≤ 1000) :
    Calls Try.prog 44 #[.slice a P.length c, .int .i64 q] w fun e w' => e = .returned (.int .i64 ((q + totC P : Nat) : Int)) ∧ w = w' := by
  have HF := Lib.hid hF
  have hl := hF.1
  have HQ := Lib.hid hq
  have hq0 : q ≤ 1000 := by omega
  clear hF hq
  go_enter Try.func44, Try.ntmps44
  go_wp2_with fail
  go_loop [1, 5] (fun t i => ∃ j r : Nat, j ≤ P.length ∧ i = .int .i64 j ∧ t = .int .i64 (r : Int) ∧ Hid (r = q + totC (P.take j)) ∧ r ≤ 1000) (fun _ i => P.length - (intOf i).toNat)
  case atStart => exact ⟨0, q, Nat.zero_le _, rfl, rfl, Lib.hid (by simp [totC]), hq0⟩
  case round =>
    obtain ⟨j, r, hj, rfl, rfl, HR, hr⟩ := hrel
    by_cases hlt : j < P.length
    · obtain ⟨b, o, Y, aG, cG, rfl, hb, HY, hc, hMG⟩ := hM.at_ (k := j) (by rw [markCL_length]; exact hlt)
      obtain ⟨G, HG⟩ : ∃ G, Hid (P[j]? = some G) := ⟨_, List.getElem?_eq_getElem hlt⟩
      have hy := HY.out
      rw [markCL_get HG.out, ← HR.out] at hy
      obtain rfl : markL r G = Y := Option.some.inj hy
      rw [markL_len] at hc
      have hFG := HF.out.2 G (List.mem_of_getElem? HG.out)
      have HHD := Lib.hid (heldSS_any aG cG r n₀ G w hMG hFG hr)
      clear hy HY hMG hFG
      go_wp2_with fail
      refine HHD.out.mono ?_
      rintro e w1 ⟨he, rfl⟩
      have hrq : r + tot G = q + totC (P.take (j + 1)) := by rw [totC_at HG.out, HR.out]; omega
      have hle := totC_le (P := P) (j + 1)
      have hqq := HQ.out
      obtain ⟨s, hs⟩ : ∃ s, s = r + tot G := ⟨_, rfl⟩
      rw [← hs] at he hrq
      subst he
      have HRQ := Lib.hid hrq
      have hs2 : s ≤ 1000 := by omega
      clear hrq hs hle hqq HHD
      go_wp2_with fail
      go_round
      case rel => exact ⟨j + 1, s, by omega, by go_num, rfl, HRQ, hs2⟩
      case measure => simp [intOf]; omega
    · obtain rfl : j = P.length := by omega
      have hrr : r = q + totC P := by rw [HR.out, totC_all]
      have HRR := Lib.hid hrr
      clear hrr
      go_wp2_with fail
      go_ret
      exact ⟨by show Ending.returned _ = Ending.returned (.int .i64 ((q + totC P : Nat) : Int)); rw [← HRR.out]; rfl, rfl⟩

set_option maxHeartbeats 400000 in
theorem markCnil (q : Nat) (w : World) : Calls Try.prog 42 #[.slice none 0 0, .int .i64 q] w fun e w' => e = .returned (.int .i64 (q : Int)) ∧ w = w' := by
  go_enter Try.func42, Try.ntmps42
  go_wp2
  go_loop [1, 5] (fun t i => i = .int .i64 0 ∧ t = .int .i64 (q : Int)) (fun _ _ => 0)
  case atStart => exact ⟨rfl, rfl⟩
  case round =>
    obtain ⟨rfl, rfl⟩ := hrel
    go_wp2
    go_ret
    exact ⟨rfl, rfl⟩
/-- A DESK WHOSE ROWS LIE APART, or the zero value. -/
def ODk (lo hi : Nat) (W : World) (v : Value) (d : Dk) : Prop := OwnDk lo hi W v d ∨ (v = .agg #[.slice none 0 0, .slice none 0 0] ∧ d = ⟨[], []⟩)
theorem ODk.below {lo hi n : Nat} {W W' : World} {v : Value} {d : Dk} (h : ODk lo hi W v d) (hb : Below n W W') (hn : hi ≤ n) : ODk lo hi W' v d := h.imp (fun h => h.below hb hn) id
theorem ODk.touch {lo hi : Nat} {S : Nat → Prop} {W W' : World} {v : Value} {d : Dk} (h : ODk lo hi W v d) (ht : Touch S W W') (hS : ∀ B, S B → B < lo ∨ hi ≤ B) : ODk lo hi W' v d := h.imp (fun h => h.touch ht hS) id
theorem zero_read (W : World) : DeskR W.heap.size W (.agg #[.slice none 0 0, .slice none 0 0]) ⟨[], []⟩ := ⟨none, none, 0, 0, rfl, fun h => absurd rfl h, fun h => absurd rfl h⟩
theorem ODk.read {lo hi : Nat} {W : World} {v : Value} {d : Dk} (h : ODk lo hi W v d) : DeskR W.heap.size W v d := by
  rcases h with h | ⟨rfl, rfl⟩
  · exact h.read
  · exact zero_read W
def MarkedD (lo hi : Nat) (v : Value) (d : Dk) (q : Nat) (w : World) (e : Ending) (w' : World) : Prop := e = .returned (.int .i64 ((q + totD d : Nat) : Int)) ∧ ODk lo hi w' v (markDL q d) ∧ ∃ o, Touch (fun B => lo ≤ B ∧ B < hi) (w.alloc o) w'

set_option maxHeartbeats 1000000 in
theorem markDk_any (lo hi : Nat) (v : Value) (d : Dk) (q : Nat) (w : World) (hO : ODk lo hi w v d) (hhi : hi ≤ w.heap.size) (hF : FitK d) (hq : q + totD d ≤ 1200000000000) :
    Calls Try.prog 25 #[v, .int .i64 q] w (MarkedD lo hi v d q w) := by
  rcases hO with hO | ⟨rfl, rfl⟩
  · obtain ⟨aN, aP, n1, n2, p1, p2, rfl, hN, hP, h1, h2, h3⟩ := hO
    obtain ⟨b, F, ⟨rfl, _⟩, ho, hb, hFb, hFi⟩ := hN
    have hA : Below w.heap.size w (w.alloc (.cells #[.slice (some ⟨b, 0, none⟩) d.now.length d.now.length, .slice aP d.past.length d.past.length] 26)) := (Below.refl _ _).alloc (Nat.le_refl _) _
    have hX : (w.alloc (.cells #[.slice (some ⟨b, 0, none⟩) d.now.length d.now.length, .slice aP d.past.length d.past.length] 26)).heap[w.heap.size]? = some (.cells #[.slice (some ⟨b, 0, none⟩) d.now.length d.now.length, .slice aP d.past.length d.past.length] 26) := heap_alloc_new w _
    have ho2 := ho.below hA (by omega) (fun i hi => by have := hFb i hi; omega)
    have hP2 := hP.below hA (by omega)
    unfold totD at hq
    have hq1 : q ≤ 1200000000000 := by omega
    have HMK := Lib.hid (markSS_big b d.now.length q F d.now _ ho2 hF.1 hFi hq1)
    have HF := Lib.hid hF
    have HX := Lib.hid hX
    have HS := Lib.hid (And.intro hb (And.intro hFb (And.intro hFi (And.intro h1 (And.intro h2 h3)))))
    have HP2 := Lib.hid hP2
    have HQ := Lib.hid hq
    obtain ⟨c0, c1⟩ := (dk_cell hX).1
    clear ho ho2 hP hP2 hF hFi hA hX hq hb hFb h1 h2 h3
    go_enter Try.func25, Try.ntmps25
    go_wp2_with fail
    refine HMK.out.mono ?_
    rintro e w1 ⟨he, ho1, ht1⟩
    obtain ⟨hb, hFb, hFi, h1, h2, h3⟩ := HS.out
    have ht1' : Touch (fun B => n1 ≤ B ∧ B < n2) (w.alloc (.cells #[.slice (some ⟨b, 0, none⟩) d.now.length d.now.length, .slice aP d.past.length d.past.length] 26)) w1 := ht1.more fun B s => by obtain ⟨i, hi, rfl⟩ := s; exact hFb i hi
    obtain ⟨f0, f1⟩ := (dk_cell ((ht1'.block w.heap.size fun s => by omega).trans HX.out)).1
    have hP3 := HP2.out.touch ht1' fun B s => by omega
    obtain ⟨r, hr⟩ : ∃ r, r = q + tot d.now := ⟨_, rfl⟩
    have hqq := HQ.out
    rw [← hr] at he
    subst he
    have HMC := Lib.hid (markC_any p1 p2 aP d.past r w1 hP3 HF.out.2 (by omega))
    have HR := Lib.hid hr
    have HG1 : Hid (OwnG n1 n2 w1 (some ⟨b, 0, none⟩) d.now.length (markL q d.now)) := Lib.hid ⟨b, F, ⟨rfl, markL_len.symm⟩, ho1, hb, fun i hi => hFb i (by rw [markL_len] at hi; exact hi), hFi⟩
    have HT1 := Lib.hid ht1'
    clear ho1 ht1 ht1' hP3 hr hqq hb hFb hFi h1 h2 h3 c0 c1
    go_wp2_with fail
    refine HMC.out.mono ?_
    rintro e w2 ⟨he, hO2, ht2⟩
    obtain ⟨hb, hFb, hFi, h1, h2, h3⟩ := HS.out
    obtain ⟨s, hs⟩ : ∃ s, s = r + totC d.past := ⟨_, rfl⟩
    rw [← hs] at he
    subst he
    have hG2 := HG1.out.touch ht2 fun B s => by omega
    have hrr := HR.out
    have HFIN : Hid (s = q + totD d ∧ ODk lo hi w2 (.agg #[.slice (some ⟨b, 0, none⟩) d.now.length d.now.length, .slice aP d.past.length d.past.length]) (markDL q d) ∧ ∃ o, Touch (fun B => lo ≤ B ∧ B < hi) (w.alloc o) w2) := Lib.hid (by
      refine ⟨by unfold totD; omega, .inl ⟨some ⟨b, 0, none⟩, aP, n1, n2, p1, p2, ?_, ?_, ?_, h1, h2, h3⟩, _, (HT1.out.more fun B s => by omega).trans (ht2.more fun B s => by omega)⟩
      · show _ = Value.agg #[.slice _ (markL q d.now).length (markL q d.now).length, .slice _ (markCL (q + tot d.now) d.past).length (markCL (q + tot d.now) d.past).length]
        rw [markL_len, markCL_length]
      · show OwnG n1 n2 w2 _ (markL q d.now).length (markL q d.now)
        rw [markL_len]; exact hG2
      · show OwnC p1 p2 w2 _ (markCL (q + tot d.now) d.past).length (markCL (q + tot d.now) d.past)
        rw [markCL_length, ← hrr]; exact hO2)
    clear hO2 ht2 hG2 hs hrr hb hFb hFi h1 h2 h3 HMC HMK
    go_wp2_with fail
    go_ret
    exact ⟨by rw [← HFIN.out.1]; rfl, HFIN.out.2⟩
  · have HX : (w.alloc (.cells #[.slice none 0 0, .slice none 0 0] 26)).heap[w.heap.size]? = some (.cells #[.slice none 0 0, .slice none 0 0] 26) := heap_alloc_new w _
    obtain ⟨c0, c1⟩ := (dk_cell HX).1
    have hq1 : q ≤ 1200000000000 := by omega
    clear HX
    go_enter Try.func25, Try.ntmps25
    go_wp2_with fail
    refine (markNil q _).mono ?_
    rintro e w1 ⟨rfl, rfl⟩
    go_wp2_with fail
    refine (markCnil q _).mono ?_
    rintro e w1 ⟨rfl, rfl⟩
    go_wp2_with fail
    go_ret
    exact ⟨rfl, .inr ⟨rfl, rfl⟩, _, Touch.refl _ _⟩

set_option maxHeartbeats 1000000 in
theorem heldDk_any (v : Value) (d : Dk) (q n₀ : Nat) (w : World) (hR : DeskR n₀ w v (markDL q d)) (hn : n₀ ≤ w.heap.size) (hF : FitK d) (hq : q + totD d ≤ 1000) :
    Calls Try.prog 26 #[v, .int .i64 q] w fun e w' => e = .returned (.int .i64 ((q + totD d : Nat) : Int)) ∧ Below w.heap.size w w' := by
  obtain ⟨aN, aP, cN, cP, rfl, hM, hC⟩ := hR
  have hl1 : (markDL q d).now.length = d.now.length := markL_len
  have hl2 : (markDL q d).past.length = d.past.length := markCL_length _ _
  rw [hl1, hl2]
  have hA : Below w.heap.size w (w.alloc (.cells #[.slice aN d.now.length cN, .slice aP d.past.length cP] 26)) := (Below.refl _ _).alloc (Nat.le_refl _) _
  have hX : (w.alloc (.cells #[.slice aN d.now.length cN, .slice aP d.past.length cP] 26)).heap[w.heap.size]? = some (.cells #[.slice aN d.now.length cN, .slice aP d.past.length cP] 26) := heap_alloc_new w _
  obtain ⟨c0, c1⟩ := (dk_cell hX).1
  unfold totD at hq ⊢
  have HH := Lib.hid (heldSS_any aN cN q n₀ d.now _ (hM.below (hA.mono hn)) hF.1 (by omega))
  have HC := Lib.hid (heldC_any aP cP (q + tot d.now) n₀ d.past _ (hC.below (hA.mono hn)) hF.2 (by omega))
  have HA := Lib.hid hA
  obtain ⟨V, hV⟩ : ∃ V, w.alloc (.cells #[.slice aN d.now.length cN, .slice aP d.past.length cP] 26) = V := ⟨_, rfl⟩
  rw [hV] at HH HC HA c0 c1
  have HV := Lib.hid hV
  clear hF hA hX hV hM hC hl1 hl2
  go_enter Try.func26, Try.ntmps26
  go_wp2_with fail
  rw [HV.out]
  refine HH.out.mono ?_
  rintro e w1 ⟨rfl, rfl⟩
  go_wp2_with fail
  refine HC.out.mono ?_
  rintro e w1 ⟨rfl, rfl⟩
  go_wp2_with fail
  go_ret
  refine ⟨?_, HA.out⟩
  have h3 : ((q : Int) + (tot d.now : Int) + (totC d.past : Int)) = ((q + (tot d.now + totC d.past) : Nat) : Int) := by omega
  rw [← h3]
  rfl

end Go.Proofs.Ytofpjepndhpciaa
