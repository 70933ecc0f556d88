/-
  Several texts in one.
  impl.BesideOf.
  impl.BesideOf, walked.
  append(x, make([]int, m)...): the row grows by zeros.
  The rows of two graphs side by side.
-/
import Derived.Test.YtdaoifpmmgfpbaaZG
import Derived.Deep.RegionHeld3
namespace Go.Proofs.Ytdaoifpmmgfpbaa
open Go.RowKit Go.Shelf Go.Deep

/-- Two graphs side by side. -/
def besP (xss yss : List (List Int)) (i j : Nat) : Bool := if i < xss.length ∧ j < xss.length then arw xss i j else decide (xss.length ≤ i ∧ xss.length ≤ j) && arw yss (i - xss.length) (j - xss.length)
def besOk (xss yss : List (List Int)) : Bool := gOk xss && gOk yss && decide (xss.length + yss.length ≤ 9)
def besL (xss yss : List (List Int)) : List (List Int) := if besOk xss yss = true then rowsP (xss.length + yss.length) (besP xss yss) else []
theorem besL_yes {xss yss : List (List Int)} (h : besOk xss yss = true) : besL xss yss = rowsP (xss.length + yss.length) (besP xss yss) := if_pos h
theorem besL_no {xss yss : List (List Int)} (h : besOk xss yss = false) : besL xss yss = [] := if_neg (by rw [h]; decide)

theorem arrowI (n₀ : Nat) (a : Option Addr) (c : Nat) (xss : List (List Int)) (w : World) (hM : Mat n₀ w a xss) (hn : n₀ ≤ w.heap.size) (hG : Good xss) (i j : Nat) (hi : i < xss.length) (hj : j < xss.length) (x y : Int) (hx : x = (i : Int)) (hy : y = (j : Int)) :
    Calls Try.prog 60 #[.agg #[.slice a xss.length c], .int .i64 x, .int .i64 y] w fun e w' => e = .returned (.bool (arw xss i j)) ∧ w' = w.alloc (.cells #[.slice a xss.length c] 54) := by
  subst hx hy
  exact arrowC n₀ a c xss w hM hn hG i j hi hj

set_option maxHeartbeats 1000000 in
theorem beside1 (n₀ E B B' : Nat) (a a' : Option Addr) (c c' : Nat) (xss yss : List (List Int)) (w : World) (hM : Mat n₀ w a xss) (hM' : Mat n₀ w a' yss) (hn : n₀ ≤ w.heap.size) (hE : Boxed w E 3 (.int .i64 xss.length)) (hB : Boxed w B 54 (.slice a xss.length c)) (hB' : Boxed w B' 54 (.slice a' yss.length c')) (hG : Good xss) (hG' : Good yss) (i j : Nat) (hi : i < xss.length + yss.length) (hj : j < xss.length + yss.length) :
    Calls Try.prog 62 #[.int .i64 i, .int .i64 j, .pointer (some ⟨E, 0, none⟩), .pointer (some ⟨B, 0, none⟩), .pointer (some ⟨B', 0, none⟩)] w (Ans (.bool (besP xss yss i j)) w) := by
  have hl9 := hG.2.1
  have hl9' := hG'.2.1
  have cE := hE.cell
  have cB := hB.cell
  have cB' := hB'.cell
  have HG := Lib.hid hG
  have HG' := Lib.hid hG'
  have HM := Lib.hid hM
  have HM' := Lib.hid hM'
  clear hG hG' hM hM' hE hB hB'
  by_cases h1 : i < xss.length ∧ j < xss.length
  · rw [show besP xss yss i j = arw xss i j from if_pos h1]
    obtain ⟨h1, h2⟩ := h1
    go_enter Try.func62, Try.ntmps62
    go_wp2_with fail
    refine (arrowC n₀ a c xss w HM.out hn HG.out i j h1 h2).mono ?_
    rintro e w' ⟨rfl, rfl⟩
    go_wp2_with fail
    go_ret
    exact ⟨rfl, (Below.refl _ _).alloc (Nat.le_refl _) _⟩
  · by_cases h3 : xss.length ≤ i ∧ xss.length ≤ j
    · rw [show besP xss yss i j = arw yss (i - xss.length) (j - xss.length) by unfold besP; rw [if_neg h1, decide_eq_true h3]; rfl]
      obtain ⟨h3, h4⟩ := h3
      have h5 : ¬ i < xss.length := by omega
      have h6 : ¬ j < xss.length := by omega
      clear h1
      go_enter Try.func62, Try.ntmps62
      go_wp2_with fail
      refine (arrowI n₀ a' c' yss w HM'.out hn HG'.out (i - xss.length) (j - xss.length) (by omega) (by omega) _ _ (by omega) (by omega)).mono ?_
      rintro e w' ⟨rfl, rfl⟩
      go_wp2_with fail
      go_ret
      exact ⟨rfl, (Below.refl _ _).alloc (Nat.le_refl _) _⟩
    · rw [show besP xss yss i j = false by unfold besP; rw [if_neg h1, decide_eq_false h3]; rfl]
      go_enter Try.func62, Try.ntmps62
      by_cases h5 : i < xss.length
      · have h6 : ¬ j < xss.length := fun h => h1 ⟨h5, h⟩
        clear h1 h3
        go_wp2_with fail
        go_ret
        exact ⟨rfl, Below.refl _ _⟩
      · have h6 : j < xss.length := by have := fun h => h3 ⟨by omega, h⟩; omega
        clear h1 h3
        go_wp2_with fail
        go_ret
        exact ⟨rfl, Below.refl _ _⟩

end Go.Proofs.Ytdaoifpmmgfpbaa

namespace Go.Proofs.Ytdaoifpmmgfpbaa
open Go.RowKit Go.Shelf Go.Deep

theorem nodesC (a : Option Addr) (m c : Nat) (w : World) : Calls Try.prog 61 #[.agg #[.slice a m c]] w fun e w' => e = .returned (.int .i64 m) ∧ w' = w.alloc (.cells #[.slice a m c] 54) :=
  callsIn_wide.1 (nodes_in Fence.wide 0 (fun _ => trivial) rfl a m c w)

/-- NEW ROWS, beside a yes or no. -/
def MadeB (zss : List (List Int)) (yes : Bool) (w : World) (e : Ending) (w' : World) : Prop := ∃ (a : Option Addr) (c : Nat), (e = .returned (.tuple #[.slice a zss.length c, .bool yes]) ∧ Below w.heap.size w w') ∧ OwnR w.heap.size w' a c zss

/-- New rows, seen from an elder world. -/
def MadeV (V : World) (m : Nat) (p : Nat → Nat → Bool) (e : Ending) (w' : World) : Prop :=
  ∃ (b : Nat) (G : Nat → Nat), e = .returned (.slice (some ⟨b, 0, none⟩) m m) ∧ Below V.heap.size V w' ∧ OwnM w' b G (rowsP m p) ∧ V.heap.size ≤ b ∧ (∀ i, i < m → V.heap.size ≤ G i) ∧ ∀ i j, G i = G j → i = j
theorem MadeM.seen {V W w' : World} {m : Nat} {p : Nat → Nat → Bool} {e : Ending} (h : MadeM W m p e w') (hb : Below V.heap.size V W) : MadeV V m p e w' := by
  obtain ⟨he, hB, hO⟩ := h
  have hs := hb.size
  exact ⟨W.heap.size + 1, fun i => W.heap.size + 3 + i, he, hb.trans (hB.mono hs), hO, by omega, fun i _ => by show V.heap.size ≤ W.heap.size + 3 + i; omega, fun i j h => by have h' : W.heap.size + 3 + i = W.heap.size + 3 + j := h; omega⟩

set_option maxRecDepth 100000 in
set_option maxHeartbeats 2000000 in
theorem implBeside (a a' : Option Addr) (c c' : Nat) (xss yss : List (List Int)) (w : World) (hM : Mat w.heap.size w a xss) (hM' : Mat w.heap.size w a' yss) (hf : Fit xss) (hf' : Fit yss) :
    Calls Try.prog 25 #[.slice a xss.length c, .slice a' yss.length c'] w (MadeB (besL xss yss) (besOk xss yss) w) := by
  have HF := Lib.hid hf
  have HF' := Lib.hid hf'
  have hl := hf.1
  have hl' := hf'.1
  clear hf hf'
  by_cases hg : gOk xss = true
  · by_cases hg' : gOk yss = true
    · by_cases h9 : xss.length + yss.length ≤ 9
      · have HG := Lib.hid (good_of hg)
        have HG' := Lib.hid (good_of hg')
        have hok : besOk xss yss = true := by unfold besOk; rw [hg, hg', decide_eq_true h9]; rfl
        rw [besL_yes hok, hok]
        clear hok
        go_enter Try.func25, Try.ntmps25
        go_wp2_with fail
        refine (implOk _ _ _ _ hM HF.out).mono ?_
        rintro e w1 ⟨rfl, hB1⟩
        have hz1 := hB1.size
        have hM1 := hM.below hB1
        have hM1' := hM'.below hB1
        clear hM hM'
        go_wp2_with fail
        refine (implOk _ _ _ _ (hM1'.more hz1) HF'.out).mono ?_
        rintro e w2 ⟨rfl, hB2⟩
        have hM2 := hM1.below (hB2.mono hz1)
        have hM2' := hM1'.below (hB2.mono hz1)
        have hB02 := hB1.trans (hB2.mono hz1)
        have hz02 := hB02.size
        clear hM1 hM1' hB1 hB2 hz1
        go_wp2_with fail
        refine (nodesC _ _ _ _).mono ?_
        rintro e w3 ⟨rfl, rfl⟩
        go_wp2_with fail
        have bB := (((Boxed.new w2 54 (.slice a xss.length c)).alloc (.cells #[.slice a' yss.length c'] 54)).alloc (.cells #[.slice a xss.length c] 54)).alloc (.cells #[.int .i64 xss.length] 3)
        have bB' := ((Boxed.new (w2.alloc (.cells #[.slice a xss.length c] 54)) 54 (.slice a' yss.length c')).alloc (.cells #[.slice a xss.length c] 54)).alloc (.cells #[.int .i64 xss.length] 3)
        have bE := Boxed.new (((w2.alloc (.cells #[.slice a xss.length c] 54)).alloc (.cells #[.slice a' yss.length c'] 54)).alloc (.cells #[.slice a xss.length c] 54)) 3 (.int .i64 xss.length)
        have hBV := (((hB02.alloc hz02 (.cells #[.slice a xss.length c] 54)).alloc (by simp; omega) (.cells #[.slice a' yss.length c'] 54)).alloc (by simp; omega) (.cells #[.slice a xss.length c] 54)).alloc (by simp; omega) (.cells #[.int .i64 xss.length] 3)
        have es : ∀ (W : World) (o : Obj), (W.alloc o).heap.size = W.heap.size + 1 := fun W o => by simp
        rw [es] at bB'
        rw [es, es, es] at bE
        have h2V : Below w2.heap.size w2 ((((w2.alloc (.cells #[.slice a xss.length c] 54)).alloc (.cells #[.slice a' yss.length c'] 54)).alloc (.cells #[.slice a xss.length c] 54)).alloc (.cells #[.int .i64 xss.length] 3)) :=
          ((((Below.refl _ w2).alloc (Nat.le_refl _) _).alloc (by rw [es]; omega) _).alloc (by rw [es, es]; omega) _).alloc (by rw [es, es, es]; omega) _
        have hM3 := hM2.below (h2V.mono hz02)
        have hM3' := hM2'.below (h2V.mono hz02)
        obtain ⟨V, hV⟩ : ∃ V, (((w2.alloc (.cells #[.slice a xss.length c] 54)).alloc (.cells #[.slice a' yss.length c'] 54)).alloc (.cells #[.slice a xss.length c] 54)).alloc (.cells #[.int .i64 xss.length] 3) = V := ⟨_, rfl⟩
        rw [hV] at bB bB' bE hBV hM3 hM3' ⊢
        clear hV h2V hM2 hM2' hB02 es
        have hzV := hBV.size
        obtain ⟨p, hp⟩ : ∃ p, p = w2.heap.size := ⟨_, rfl⟩
        rw [← hp] at bB bB' bE ⊢
        clear hp hz02
        have HRB : Hid (∀ W', Below V.heap.size V W' → Calls Try.prog 58 #[.int .i64 (IntKind.i64.wrap ((xss.length : Int) + (yss.length : Int))), .func (.func 62) #[] #[.pointer (some ⟨p + 1 + 1 + 1, 0, none⟩), .pointer (some ⟨p, 0, none⟩), .pointer (some ⟨p + 1, 0, none⟩)]] W' (MadeV V (xss.length + yss.length) (besP xss yss))) := by
          refine Lib.hid fun W' hW' => ?_
          have hzW := hW'.size
          have h := callsIn_wide.1 (rowsBy_in Fence.wide rfl (fun _ => trivial) rfl 62 #[.pointer (some ⟨p + 1 + 1 + 1, 0, none⟩), .pointer (some ⟨p, 0, none⟩), .pointer (some ⟨p + 1, 0, none⟩)] (besP xss yss) (xss.length + yss.length) h9 W' (enters_of Try.func62 (by kernel_rfl) rfl)
            (fun W'' i j hb hi hj => by
              have hb2 := hW'.trans (hb.mono hzW)
              exact callsIn_wide.2 (beside1 w.heap.size _ _ _ a a' c c' xss yss W'' (hM3.below (hb2.mono hzV)) (hM3'.below (hb2.mono hzV)) (Nat.le_trans hzV hb2.size) ((hb2.block _ bE.lt).trans bE) ((hb2.block _ bB.lt).trans bB) ((hb2.block _ bB'.lt).trans bB') HG.out HG'.out i j hi hj)))
          have e1 : ((xss.length + yss.length : Nat) : Int) = IntKind.i64.wrap ((xss.length : Int) + (yss.length : Int)) := by simp [IntKind.wrap, IntKind.bits, IntKind.signed]; omega
          rw [e1] at h
          exact h.mono fun e w' hm => hm.seen hW'
        have cE := bE.cell
        have ltE : p + 1 + 1 + 1 < V.heap.size := bE.lt
        have ltB : p + 1 < V.heap.size := bB'.lt
        have cB' := bB'.cell
        have HBV := Lib.hid hBV
        clear bB bB' bE hM3 hM3' hBV
        go_region_held3 (fun w' => w'.cell? ⟨p + 1 + 1 + 1, 0, none⟩ = some (.int .i64 xss.length) ∧ w'.cell? ⟨p + 1, 0, none⟩ = some (.slice a' yss.length c'))
          (first | go_keep | exact ⟨(hB3.cell (p := ⟨p + 1 + 1 + 1, 0, none⟩) ltE).trans cE, (hB3.cell (p := ⟨p + 1, 0, none⟩) ltB).trans cB'⟩)
          (first
            | (go_at_call 61; refine (nodesC _ _ _ _).mono ?_; rintro e w' ⟨rfl, rfl⟩)
            | (go_at_call 58; refine (HRB.out _ ?_).mono ?_; (first | exact ((Below.refl _ _).alloc (Nat.le_refl _) _).drew | exact (Below.refl _ _).drew.alloc (Nat.le_refl _) _); rintro e w' ⟨b, G, rfl, hB3, hO, hb3, hG3, hi3⟩))
        all_goals
          go_wp2
          go_ret2
          exact ⟨_, _, ⟨by rw [rowsP_length]; rfl, HBV.out.trans (hB3.mono hzV)⟩, .inr ⟨b, G, rfl, (rowsP_length _ _).symm, hO, by omega, fun i hi => by rw [rowsP_length] at hi; have := hG3 i hi; omega, hi3⟩⟩
      · have hok : besOk xss yss = false := by unfold besOk; rw [hg, hg', decide_eq_false h9]; rfl
        rw [besL_no hok, hok]
        clear hok
        go_enter Try.func25, Try.ntmps25
        go_wp2_with fail
        refine (implOk _ _ _ _ hM HF.out).mono ?_
        rintro e w1 ⟨rfl, hB1⟩
        have hz1 := hB1.size
        go_wp2_with fail
        refine (implOk _ _ _ _ ((hM'.below hB1).more hz1) HF'.out).mono ?_
        rintro e w2 ⟨rfl, hB2⟩
        go_wp2_with fail
        go_ret2
        exact ⟨none, 0, ⟨rfl, hB1.trans (hB2.mono hz1)⟩, .inl ⟨rfl, rfl, rfl⟩⟩
    · have hgn : gOk yss = false := by simpa using hg'
      have hok : besOk xss yss = false := by unfold besOk; rw [hg, hgn]; rfl
      rw [besL_no hok, hok]
      clear hok hg'
      go_enter Try.func25, Try.ntmps25
      go_wp2_with fail
      refine (implOk _ _ _ _ hM HF.out).mono ?_
      rintro e w1 ⟨rfl, hB1⟩
      have hz1 := hB1.size
      go_wp2_with fail
      refine (implOk _ _ _ _ ((hM'.below hB1).more hz1) HF'.out).mono ?_
      rintro e w2 ⟨rfl, hB2⟩
      go_wp2_with fail
      go_ret2
      exact ⟨none, 0, ⟨rfl, hB1.trans (hB2.mono hz1)⟩, .inl ⟨rfl, rfl, rfl⟩⟩
  · have hgn : gOk xss = false := by simpa using hg
    have hok : besOk xss yss = false := by unfold besOk; rw [hgn]; rfl
    rw [besL_no hok, hok]
    clear hok hg
    go_enter Try.func25, Try.ntmps25
    go_wp2_with fail
    refine (implOk _ _ _ _ hM HF.out).mono ?_
    rintro e w1 ⟨rfl, hB1⟩
    go_wp2_with fail
    go_ret2
    exact ⟨none, 0, ⟨rfl, hB1⟩, .inl ⟨rfl, rfl, rfl⟩⟩

end Go.Proofs.Ytdaoifpmmgfpbaa

namespace Go.Proofs.Ytdaoifpmmgfpbaa
open Go.RowKit Go.Shelf Go.Deep

theorem zeroCells_int (m : Nat) : Builtin.zeroCells (Value.int .i64 0).cells m = (List.replicate m (Value.int .i64 0)).toArray := by
  apply Array.ext
  · simp [Builtin.zeroCells, Value.cells]
  · intro k h1 h2
    simp [Builtin.zeroCells, Value.cells, Nat.mod_one]

set_option maxRecDepth 100000 in
theorem run_append_zeros {P : Program} (w : World) (base : Nat) (t u ty e : TypeId) (i : TypeInfo) (bytes : Nat) (ht : P.underlying t = some (.slice e)) (hu : P.underlying u = some (.int .i64)) (hi : P.info? e = some i) (hz : i.zero = some (.int .i64 0))
    (hsize : i.size = 1) (hby : i.bytes = bytes) (g n cap : Nat) (xs : List Value) (hown : w.ownsRow base e 1 (.slice (some ⟨g, 0, none⟩) n cap) n xs)
    (m : Nat) (hm0 : 0 < m) (hm : m ≤ 1048576) (hn : n ≤ 1048576) (hb8 : bytes ≤ 8) (hbase : base ≤ w.heap.size) :
    ∃ g' cap' w', (Builtin.append_ #[t, u] ty #[.slice (some ⟨g, 0, none⟩) n cap, .int .i64 m]).run P w = .ok (.slice (some ⟨g', 0, none⟩) (n + m) cap') w' ∧
      w'.ownsRow base e 1 (.slice (some ⟨g', 0, none⟩) (n + m) cap') (n + m) (xs ++ List.replicate m (.int .i64 0)) ∧ w.grownBy w' (some g) := by
  subst hby
  have hl0 : xs.length = n := by simpa using hown.1
  have hlen : (xs ++ List.replicate m (Value.int .i64 0)).length = (n + m) * 1 := by rw [List.length_append, hl0, List.length_replicate]; omega
  have hw1 : IntKind.i64.wrap (m : Int) = (m : Int) := by simp [IntKind.wrap, IntKind.bits, IntKind.signed]; omega
  have hw2 : ¬ ((m : Int) < 0) := by omega
  have hw3 : ¬ ((281474976710656 : Int) < (m : Int) * (i.bytes : Int)) := by
    have h : m * i.bytes ≤ 1048576 * 8 := Nat.mul_le_mul hm hb8
    have h' : ((m * i.bytes : Nat) : Int) = (m : Int) * (i.bytes : Int) := Int.natCast_mul m i.bytes
    rw [← h']
    omega
  rcases hown.2 with ⟨h0, _⟩ | ⟨g0, cap0, cur, e0, hbg, hg, hnc, hcm, hcs, htake⟩
  · cases h0
  · cases e0
    have hcs' : cur.size = cap := by rw [hcs, Nat.mul_one]
    by_cases hroom : n + m ≤ cap
    · have hst := run_storeCells_at P g n e (List.replicate m (Value.int .i64 0)) 0 cur w hg (by rw [List.length_replicate, hcs']; omega) (fun v hv => by rw [List.eq_of_mem_replicate hv]; rfl)
      simp only [Nat.add_zero, List.length_replicate] at hst
      have hrun : (Builtin.append_ #[t, u] ty #[.slice (some ⟨g, 0, none⟩) n cap, .int .i64 m]).run P w = .ok (.slice (some ⟨g, 0, none⟩) (n + m) cap) (w.setRow g (cur.toList.take n ++ List.replicate m (Value.int .i64 0) ++ cur.toList.drop (n + m)).toArray) := by
        have h0 : m ≠ 0 := by omega
        simp [Builtin.append_, run_underlying ht, run_underlying hu, sizeOf, typeInfo, hi, hz, hsize, zeroValue, asInt, asIntOf, hw1, hw2, hw3, hroom, h0, zeroCells_int, Addr.add_lit, hst]
      refine ⟨g, cap, _, hrun, ⟨hlen, .inr ⟨g, cap, _, rfl, hbg, setRow_heap w g cur _ e _ hg, hroom, hcm, ?_, ?_⟩⟩, ⟨rfl, rfl, rfl, by simp, fun k _ hk => setRow_other w g k _ (fun e => hk (by rw [e]))⟩⟩
      · simp only [List.size_toArray, List.length_append, List.length_take, List.length_drop, Array.length_toList, List.length_replicate]
        omega
      · rw [Nat.mul_one] at htake
        rw [htake, ← hlen]
        exact List.take_left
    · have holds : ∀ j u, xs[j]? = some u → w.cell? ((⟨g, 0, none⟩ : Addr).add j) = some u := hown.cells (g := g) rfl
      have hge := grownCap_ge w (n + m) cap e
      have hcm2 : grownCap w (n + m) cap e ≤ maxLen := grownCap_le_maxLen w (n + m) cap e (by unfold maxLen; omega)
      have hrun : (Builtin.append_ #[t, u] ty #[.slice (some ⟨g, 0, none⟩) n cap, .int .i64 m]).run P w = .ok (.slice (some ⟨w.heap.size, 0, none⟩) (n + m) (grownCap w (n + m) cap e))
          (w.drew.alloc (.cells (xs.toArray ++ (List.replicate m (Value.int .i64 0)).toArray ++ Builtin.zeroCells (Value.int .i64 0).cells (grownCap w (n + m) cap e - (n + m))) e)) := by
        have h0 : m ≠ 0 := by omega
        have h63' : ¬ (9223372036854775807 < ((n : Int) + (m : Int))) := by omega
        have hfit : Builtin.nextslicecap (n + m) cap * i.bytes ≤ 281474976710656 := growslice_fits (by omega) (by
          have : (n + m) * i.bytes ≤ 2097152 * 8 := Nat.mul_le_mul (by omega) hb8
          omega)
        have h48' : ¬ (281474976710656 < Builtin.nextslicecap (n + m) cap * i.bytes) := by omega
        have hfo := run_firstCells_some (P := P) w.drew 1 n ⟨g, 0, none⟩ n cap xs (by rw [hl0, Nat.mul_one]) (by simpa using holds)
        simp [Builtin.append_, run_underlying ht, run_underlying hu, sizeOf, typeInfo, zeroValue, hi, hz, hsize, asInt, asIntOf, hw1, hw2, hw3, hroom, h0, h63', h48', Question.forced, hfo, newRow, grownCap, zeroCells_int]
      refine ⟨w.heap.size, _, _, hrun, ⟨hlen, .inr ⟨w.heap.size, _, _, rfl, hbase, heap_alloc_new w.drew _, hge, hcm2, ?_, ?_⟩⟩, ⟨rfl, rfl, rfl, by simp, fun k hk _ => heap_alloc_old w.drew _ k hk⟩⟩
      · simp only [Array.size_append, List.size_toArray, size_zeroCells, hl0, List.length_replicate, Value.cells]
        simp
        omega
      · simp only [Array.toList_append, List.append_assoc]
        rw [← List.append_assoc, ← hlen]
        exact List.take_left

end Go.Proofs.Ytdaoifpmmgfpbaa

namespace Go.Proofs.Ytdaoifpmmgfpbaa
open Go.RowKit Go.Shelf Go.Deep

theorem wpList_append_zeros {P : Program} (w : World) {ops : Array Oper} {rest : List Oper} {o : Oper} {a : Act} {Q : Exit → Act → World → Prop} (hgd : o.guard = none) (s x : Operand) (t u : TypeId)
    (hop : o.op = Op.call { callee := Callee.builtin Builtin.append, args := #[s, x], argTypes := #[t, u] })
    (base : Nat) (e : TypeId) (i : TypeInfo) (bytes : Nat) (ht : P.underlying t = some (.slice e)) (hu : P.underlying u = some (.int .i64)) (hi : P.info? e = some i) (hz : i.zero = some (.int .i64 0))
    (hsize : i.size = 1) (hby : i.bytes = bytes) (g n cap : Nat) (xs : List Value) (hs : a.eval s = .slice (some ⟨g, 0, none⟩) n cap) (hown : w.ownsRow base e 1 (.slice (some ⟨g, 0, none⟩) n cap) n xs)
    (m : Nat) (hx : a.eval x = .int .i64 m) (hm0 : 0 < m) (hm : m ≤ 1048576) (hn : n ≤ 1048576) (hb8 : bytes ≤ 8) (hbase : base ≤ w.heap.size)
    (hK : ∀ g' cap' w', w'.ownsRow base e 1 (.slice (some ⟨g', 0, none⟩) (n + m) cap') (n + m) (xs ++ List.replicate m (.int .i64 0)) → w.grownBy w' (some g) → wpList P ops Q rest (a.put o.dst (.slice (some ⟨g', 0, none⟩) (n + m) cap')) w') :
    wpList P ops Q (o :: rest) a w := by
  refine wpList_plain hgd fun K hK' => ?_
  obtain ⟨g', cap', w', hrun, r1, r2⟩ := run_append_zeros (P := P) w base t u o.type e i bytes ht hu hi hz hsize hby g n cap xs hown m hm0 hm hn hb8 hbase
  unfold Oper.wp
  simp [execOp, hop, resolve, invoke, builtin, hs, hx, hrun, Result.andThen]
  exact hK' _ _ (hK g' cap' w' r1 r2)

/-- The rows of the first graph, and of the second one. -/
def bRow1 (xss yss : List (List Int)) (k : Nat) : List Int := (xss[k]?.getD []) ++ List.replicate yss.length 0
def bRow2 (xss yss : List (List Int)) (k : Nat) : List Int := List.replicate xss.length 0 ++ (yss[k]?.getD [])
def bRows1 (xss yss : List (List Int)) (k : Nat) : List (List Int) := (List.range k).map (bRow1 xss yss)
def bRows2 (xss yss : List (List Int)) (k : Nat) : List (List Int) := bRows1 xss yss xss.length ++ (List.range k).map (bRow2 xss yss)
theorem bRows1_succ (xss yss : List (List Int)) (k : Nat) : bRows1 xss yss (k + 1) = bRows1 xss yss k ++ [bRow1 xss yss k] := by simp [bRows1, List.range_succ]
theorem bRows2_succ (xss yss : List (List Int)) (k : Nat) : bRows2 xss yss (k + 1) = bRows2 xss yss k ++ [bRow2 xss yss k] := by simp [bRows2, List.range_succ]
theorem bRows1_length (xss yss : List (List Int)) (k : Nat) : (bRows1 xss yss k).length = k := by simp [bRows1]
theorem bRows2_length (xss yss : List (List Int)) (k : Nat) : (bRows2 xss yss k).length = xss.length + k := by simp [bRows2, bRows1]
theorem bRows2_zero (xss yss : List (List Int)) : bRows2 xss yss 0 = bRows1 xss yss xss.length := by simp [bRows2]

theorem good_ent {xss : List (List Int)} (hG : Good xss) {i j : Nat} (hi : i < xss.length) (hj : j < xss.length) : ent xss i j = if arw xss i j = true then 1 else 0 := by
  have h := (good_iff_ent hG.1 hG.2.1 (fun i xs h => hG.len h)).1 hG (⟨i, hi⟩, ⟨j, hj⟩)
  simp only at h
  unfold arw
  rcases h with e | e <;> simp [e]
theorem good_at {xss : List (List Int)} (hG : Good xss) {i j : Nat} {xs : List Int} (hx : xss[i]? = some xs) (hj : j < xss.length) : xs[j]? = some (if arw xss i j = true then 1 else 0) := by
  have hi : i < xss.length := (List.getElem?_eq_some_iff.1 hx).1
  have hjl : j < xs.length := by rw [hG.len hx]; exact hj
  rw [← good_ent hG hi hj, ent_eq hx (List.getElem?_eq_getElem hjl)]
  exact List.getElem?_eq_getElem hjl

theorem bRows_all {xss yss : List (List Int)} (hG : Good xss) (hG' : Good yss) : bRows2 xss yss yss.length = rowsP (xss.length + yss.length) (besP xss yss) := by
  apply List.ext_getElem?
  intro i
  by_cases hi : i < xss.length + yss.length
  · rw [rowsP_get hi]
    by_cases h1 : i < xss.length
    · have e : (bRows2 xss yss yss.length)[i]? = some (bRow1 xss yss i) := by
        rw [bRows2, List.getElem?_append_left (by rw [bRows1_length]; exact h1)]
        simp [bRows1, h1]
      rw [e]
      congr 1
      have hX := List.getElem?_eq_getElem h1
      have hl := hG.len hX
      apply List.ext_getElem?
      intro j
      rw [bRow1, hX, Option.getD_some]
      by_cases hj : j < xss.length
      · rw [List.getElem?_append_left (by rw [hl]; exact hj), good_at hG hX hj]
        simp [besP, h1, hj, show j < xss.length + yss.length by omega]
      · by_cases hj2 : j < xss.length + yss.length
        · rw [List.getElem?_append_right (by rw [hl]; omega), List.getElem?_replicate, if_pos (by rw [hl]; omega)]
          simp [besP, h1, hj, hj2]
          intro h; omega
        · rw [List.getElem?_eq_none (by rw [List.length_append, hl, List.length_replicate]; omega), List.getElem?_eq_none (by simp; omega)]
    · have e : (bRows2 xss yss yss.length)[i]? = some (bRow2 xss yss (i - xss.length)) := by
        rw [bRows2, List.getElem?_append_right (by rw [bRows1_length]; omega), bRows1_length]
        simp [show i - xss.length < yss.length by omega]
      rw [e]
      congr 1
      have hX := List.getElem?_eq_getElem (show i - xss.length < yss.length by omega)
      have hl := hG'.len hX
      apply List.ext_getElem?
      intro j
      rw [bRow2, hX, Option.getD_some]
      by_cases hj : j < xss.length
      · rw [List.getElem?_append_left (by rw [List.length_replicate]; exact hj), List.getElem?_replicate, if_pos hj]
        simp [besP, h1, show j < xss.length + yss.length by omega]
        intro _ h; omega
      · by_cases hj2 : j < xss.length + yss.length
        · rw [List.getElem?_append_right (by rw [List.length_replicate]; omega), List.length_replicate, good_at hG' hX (by omega)]
          simp [besP, h1, hj2, show xss.length ≤ i by omega, show xss.length ≤ j by omega]
        · rw [List.getElem?_eq_none (by rw [List.length_append, hl, List.length_replicate]; omega), List.getElem?_eq_none (by simp; omega)]
  · rw [List.getElem?_eq_none (by rw [bRows2_length]; omega), List.getElem?_eq_none (by rw [rowsP_length]; omega)]

end Go.Proofs.Ytdaoifpmmgfpbaa
