/-
  Several texts in one.
  What was made is owned: a list by make as one by append, rows by make as rows by append.
  The program's chapter 6, pure facts: kinds by first appearances; all rows of kinds one after the other; the first place of a number.
  slices.Index tells the first place; impl.firstsOf, impl.kindsIn, walked.
  The iterator over all rows of kinds (impl.kindsOf, impl.kindsBegun), where the caller's rounds may also turn great slices of rows of their own; impl.AllKinds.
  impl.graph.joinsKinds: is there an arrow between two kinds; impl.GraphOfKinds.
  impl.KindsOk, impl.KindsBy, impl.FromKinds, impl.ApartOk, impl.CountApart.
-/
import Derived.Test.YtdolpkjighbohaaZA
import Derived.Test.YtdolpkjighbohaaZF
import Derived.Test.YtdolpkjighbohaaZQ
import Derived.Test.YtdolpkjighbohaaM11
import Derived.Test.YtdolpkjighbohaaW0
import Derived.Test.YtdolpkjighbohaaWH
import Derived.Test.YtdolpkjighbohaaZG
import Derived.StillTailTactics
import Derived.Deep.RegionHeld3
import Derived.Test.YtdolpkjighbohaaZE
import Derived.Test.YtdolpkjighbohaaWR
import Derived.Test.YtdolpkjighbohaaZN
import Derived.Test.YtdolpkjighbohaaM7
namespace Go.Proofs.Ytdolpkjighbohaa
open Go.RowKit Go.Shelf Go.Deep

theorem rowIs_owns6 {W : World} {base b N : Nat} {t : TypeId} {f : Nat → Value} (h : W.rowIs b t N f) (hb : base ≤ b) (hN : N ≤ maxLen) : W.ownsRow base t 1 (.slice (some ⟨b, 0, none⟩) N N) N ((List.range N).map f) := by
  obtain ⟨cs, h1, h2, h3⟩ := h
  refine ⟨by simp, .inr ⟨b, N, cs, rfl, hb, h1, Nat.le_refl _, hN, by omega, ?_⟩⟩
  refine List.ext_getElem? fun i => ?_
  rw [Nat.mul_one]
  by_cases hi : i < N
  · rw [List.getElem?_take_of_lt hi]
    simp [hi, h3 i hi]
  · rw [List.getElem?_eq_none (by simp; omega), List.getElem?_eq_none (by simp; omega)]
theorem rowI_owns {W : World} {base b : Nat} {xs : List Int} (h : RowI W b xs) (hb : base ≤ b) (hl : xs.length ≤ 1048576) : W.ownsRow base 3 1 (.slice (some ⟨b, 0, none⟩) xs.length xs.length) xs.length (xs.map (Value.int .i64)) := by
  have h1 := rowIs_owns6 h hb (by unfold maxLen; omega)
  have e : ((List.range xs.length).map fun j => Value.int .i64 (xs[j]?.getD 0)) = xs.map (Value.int .i64) := by
    refine List.ext_getElem (by simp) fun i hi hi' => ?_
    have hix : i < xs.length := by simpa using hi'
    simp [hix]
  rw [e] at h1
  exact h1
theorem OwnI.owns {base : Nat} {W : World} {a : Option Addr} {c : Nat} {xs : List Int} (h : OwnI base W a c xs) (hl : xs.length ≤ 1048576) : W.ownsRow base 3 1 (.slice a xs.length c) xs.length (xs.map (Value.int .i64)) := by
  rcases h with ⟨rfl, rfl, rfl⟩ | ⟨b, rfl, rfl, hr, hb⟩
  · exact World.ownsRow_nil _ _ _ 1
  · exact rowI_owns hr hb hl
theorem madeI_own {xs : List Int} {w w' : World} {e : Ending} (hl : xs.length ≤ 1048576) (h : MadeI xs w e w') : MadeOwn xs w e w' := by
  obtain ⟨a, c, h1, h2⟩ := h
  exact ⟨a, c, h1, h2.owns hl⟩
theorem OwnR.sep {base : Nat} {W : World} {a : Option Addr} {c : Nat} {xss : List (List Int)} (h : OwnR base W a c xss) (hF : Fit xss) : OwnSep base W (.slice a xss.length c) xss := by
  rcases h with ⟨rfl, rfl, rfl⟩ | ⟨b, G, rfl, rfl, ⟨h1, h2⟩, hb, hG, hinj⟩
  · exact OwnSep.nil _ _
  · have hl := hF.1
    have get : ∀ (i : Nat) (x : Value), ((List.range xss.length).map fun i => Value.slice (some ⟨G i, 0, none⟩) (xss[i]?.getD []).length (xss[i]?.getD []).length)[i]? = some x → i < xss.length ∧ x = .slice (some ⟨G i, 0, none⟩) (xss[i]?.getD []).length (xss[i]?.getD []).length := fun i x hx => by
      have hi : i < xss.length := by have := (List.getElem?_eq_some_iff.1 hx).1; simpa using this
      refine ⟨hi, ?_⟩
      rw [List.getElem?_map, List.getElem?_range hi] at hx
      exact (Option.some.inj hx).symm
    refine ⟨_, rowIs_owns6 h1 hb (by unfold maxLen; omega), fun i x xs hx hxs => ?_, fun i j x y g hij hx hy hg e => ?_⟩
    · obtain ⟨hi, rfl⟩ := get i x hx
      rw [hxs]
      exact rowI_owns (h2 i xs hxs) (hG i hi) (hF.at_ hxs)
    · obtain ⟨_, rfl⟩ := get i x hx
      obtain ⟨_, rfl⟩ := get j y hy
      have e1 : G i = g := Option.some.inj hg
      have e2 : G j = g := Option.some.inj e
      exact hij (hinj i j (by omega))
theorem madeR_sep {xss : List (List Int)} {w w' : World} {e : Ending} (hF : Fit xss) (h : MadeR xss w e w') : MadeS xss w e w' := by
  obtain ⟨a, c, h1, h2⟩ := h
  exact ⟨a, c, h1, h2.sep hF⟩

end Go.Proofs.Ytdolpkjighbohaa

namespace Go.Proofs.Ytdolpkjighbohaa
open Go.RowKit Go.Shelf Go.Deep

/-- Kinds are left as they are when they are numbered once more. -/
theorem kby_self {ks : List Int} : kbyL ks = ks ↔ kindOk ks = true := by
  constructor
  · intro h
    have h1 := (kby_kind ks).1
    rw [h] at h1; exact h1
  · intro h
    refine kind_ext (kby_kind ks).1 h (kby_length ks) fun i j hi hj => ?_
    rw [kby_length] at hi hj
    rw [kby_iff hi hj]
    have hT := kind_tells h
    obtain ⟨x, hx, ex, _⟩ := tells_at hT hi
    obtain ⟨y, hy, ey, _⟩ := tells_at hT hj
    rw [hx, hy, ex, ey]
    constructor
    · intro e; have := Option.some.inj e; omega
    · intro e; rw [e]
theorem kOk_self {G : List (List Int)} {ks : List Int} (hg : gOk G = true) (hl : ks.length = G.length) : kOkI G ks = decide (kbyL ks = ks) := by
  rw [Bool.eq_iff_iff, decide_eq_true_eq, kby_self, kOk_iff]
  exact ⟨fun h => h.2.2, fun h => ⟨hg, hl, h⟩⟩
theorem kby_get2 (f : List Int) {j : Nat} {y : Int} (h : f[j]? = some y) : (kbyL f)[j]? = some (((nubL f).idxOf y : Nat) : Int) := by
  unfold kbyL toPart
  rw [List.getElem?_map, h]; rfl
theorem kOk_len {G : List (List Int)} {ks : List Int} (hl : ¬ ks.length = G.length) : kOkI G ks = false := by unfold kOkI; rw [decide_eq_false hl]; simp
theorem nubS_mem {s : List Int} {y : Int} (h : s.contains y = true) : nubS s y = s := by unfold nubS; rw [if_pos h]
theorem nubS_new {s : List Int} {y : Int} (h : s.contains y = false) : nubS s y = s ++ [y] := by unfold nubS; rw [if_neg (by rw [h]; decide)]
theorem nub_take_le (f : List Int) (k : Nat) : (nubL (f.take k)).length ≤ f.length := Nat.le_trans (nub_le _) (by rw [List.length_take]; omega)
/-- Kinds have as many numbers as kinds. -/
theorem nub_top {ks : List Int} (h : kindOk ks = true) : (nubL ks).length = topK ks := by
  rw [← (kby_kind ks).2, kby_self.2 h]

theorem idxOf_first : ∀ (xs : List Int) (v : Int) (k : Nat), xs[k]? = some v → (∀ j, j < k → xs[j]? ≠ some v) → xs.idxOf v = k
  | [], v, k, h, _ => by simp at h
  | x :: xs, v, 0, h, _ => by simp at h; subst h; simp
  | x :: xs, v, k + 1, h, hn => by
    have hne : x ≠ v := fun e => hn 0 (by omega) (by simp [e])
    have ih := idxOf_first xs v k (by simpa using h) (fun j hj => by have := hn (j + 1) (by omega); simpa using this)
    rw [List.idxOf_cons, ih, show (x == v) = false from beq_eq_false_iff_ne.2 hne]
    rfl

/-- ALL ROWS OF KINDS that begin with p and have k nodes more. -/
def kndL : Nat → List Int → List (List Int)
  | 0, p => [p]
  | k + 1, p => (List.range (topK p + 1)).flatMap fun x : Nat => kndL k (p ++ [(x : Int)])
/-- Those of them whose next kind is below m. -/
def kndTill (k : Nat) (p : List Int) (m : Nat) : List (List Int) := (List.range m).flatMap fun x : Nat => kndL k (p ++ [(x : Int)])
theorem kndTill_zero (k : Nat) (p : List Int) : kndTill k p 0 = [] := rfl
theorem kndTill_succ (k : Nat) (p : List Int) (m : Nat) : kndTill k p (m + 1) = kndTill k p m ++ kndL k (p ++ [(m : Int)]) := by unfold kndTill; rw [List.range_succ, List.flatMap_append]; simp
theorem kndTill_all (k : Nat) (p : List Int) : kndTill k p (topK p + 1) = kndL (k + 1) p := rfl
theorem kndTill_mono (k : Nat) (p : List Int) {m m' : Nat} (h : m ≤ m') : kndTill k p m <+: kndTill k p m' := by
  induction h with
  | refl => exact List.prefix_refl _
  | @step m' h ih => exact ih.trans (by rw [kndTill_succ]; exact List.prefix_append _ _)
theorem kndTill_prefix (k : Nat) (p : List Int) {m : Nat} (h : m ≤ topK p + 1) : kndTill k p m <+: kndL (k + 1) p := by
  rw [← kndTill_all]; exact kndTill_mono k p h
theorem kLvl_flat (j : Nat) : ∀ k, (kLvl j).flatMap (kndL k) = kLvl (j + k)
  | 0 => by
    have : (kLvl j).flatMap (kndL 0) = (kLvl j).flatMap fun x => [x] := rfl
    rw [this, List.flatMap_singleton']; rfl
  | k + 1 => by
    have e : (kLvl j).flatMap (kndL (k + 1)) = (kLvl (j + 1)).flatMap (kndL k) := by
      rw [kLvl, List.flatMap_assoc]
      congr 1
      funext p
      rw [List.flatMap_map]; rfl
    rw [e, kLvl_flat (j + 1) k]
    congr 1
    omega
theorem kndL_all (N : Nat) : kndL N [] = kLvl N := by
  have h := kLvl_flat 0 N
  rw [Nat.zero_add] at h
  rw [← h]; simp [kLvl]
theorem kLvl_le52 {k : Nat} (h : k ≤ 5) : (kLvl k).length ≤ 52 := by
  obtain ⟨h1, h2, h3, h4, h5⟩ := bell
  have : k = 0 ∨ k = 1 ∨ k = 2 ∨ k = 3 ∨ k = 4 ∨ k = 5 := by omega
  rcases this with rfl | rfl | rfl | rfl | rfl | rfl
  · decide
  all_goals omega
theorem topK_snoc_nat (p : List Int) (x : Nat) : topK (p ++ [(x : Int)]) = max (topK p) (x + 1) := by rw [topK_snoc, Int.toNat_natCast]

end Go.Proofs.Ytdolpkjighbohaa

namespace Go.Proofs.Ytdolpkjighbohaa
open Go.RowKit Go.Shelf Go.Deep

set_option maxHeartbeats 400000 in
theorem index_at (a : Option Addr) (c n₀ : Nat) (xs : List Int) (v : Int) (w : World) (hI : Ints n₀ w a xs) (hl : xs.length ≤ 1048576) (hv : v ∈ xs) :
    Calls Try.prog 85 #[.slice a xs.length c, .int .i64 v] w fun e w' => e = .returned (.int .i64 ((xs.idxOf v : Nat) : Int)) ∧ w = w' := by
  have HV := Lib.hid hv
  clear hv
  go_enter Try.func85, Try.ntmps85
  go_wp2
  go_loop [8] (fun i => ∃ k : Nat, k ≤ xs.length ∧ i = .int .i64 k ∧ Hid (∀ j, j < k → xs[j]? ≠ some v)) (fun i => xs.length - (intOf i).toNat)
  case atStart => exact ⟨0, Nat.zero_le _, rfl, fun j h => absurd h (Nat.not_lt_zero _)⟩
  case round =>
    obtain ⟨k, hk, rfl, HR⟩ := hrel
    by_cases hlt : k < xs.length
    · obtain ⟨b, o, x, rfl, hb, hc, HX⟩ := hI.at_ hlt
      by_cases hx : v = x
      · have hxb : (v == x) = true := beq_iff_eq.2 hx
        have HM : Hid (xs.idxOf v = k) := Lib.hid (idxOf_first xs v k (by rw [hx]; exact HX.out) (fun j hj => HR.out j hj))
        clear hx
        go_wp2
        go_ret
        exact ⟨by rw [HM.out]; rfl, rfl⟩
      · have hxb : (v == x) = false := beq_eq_false_iff_ne.2 hx
        have HN := Lib.hid hx
        clear hx
        go_wp2
        go_round
        case rel => exact ⟨k + 1, by omega, by go_num, Lib.hid fun j hj e => by
          by_cases h : j = k
          · subst h; rw [HX.out] at e; exact HN.out (Option.some.inj e).symm
          · exact HR.out j (by omega) e⟩
        case measure => simp [intOf]; omega
    · obtain rfl : k = xs.length := by omega
      obtain ⟨j, hj, e⟩ := List.mem_iff_getElem.1 HV.out
      exact absurd (by rw [List.getElem?_eq_getElem hj, e]) (HR.out j hj)

theorem own_ints10 {W : World} {base c n : Nat} {a : Option Addr} {xs : List Int} (hn : xs.length = n) (h : W.ownsRow base 3 1 (.slice a n c) n (xs.map (Value.int .i64))) : Ints W.heap.size W a xs := by
  subst hn; exact own_intsQ h

set_option maxRecDepth 100000 in
set_option maxHeartbeats 2000000 in
/-- impl.firstsOf: the numbers of a row, each once, as they come first. -/
theorem firstsP (a : Option Addr) (c : Nat) (f : List Int) (w : World) (hI : Ints w.heap.size w a f) (hl : f.length ≤ 1048576) :
    Calls Try.prog 65 #[.slice a f.length c] w (MadeOwn (nubL f) w) := by
  obtain ⟨i1, hj, hy0, hy1, hy2⟩ := info_parts infoInt
  go_enter Try.func65, Try.ntmps65
  go_wp2_with fail
  go_loopw [3, 8] (fun v i wr => ∃ (k n cap : Nat) (g : Option Addr), k ≤ f.length ∧ n ≤ f.length ∧ i = .int .i64 k ∧ v = .slice g n cap ∧ Hid ((nubL (f.take k)).length = n) ∧ Hid (wr.ownsRow w.heap.size 3 1 (.slice g n cap) n ((nubL (f.take k)).map (Value.int .i64))) ∧ Below w.heap.size w wr)
    (fun _ i _ => f.length - (intOf i).toNat)
  case atStart => exact ⟨0, 0, 0, none, Nat.zero_le _, Nat.zero_le _, rfl, rfl, Lib.hid rfl, Lib.hid (World.ownsRow_nil _ _ _ 1), Below.refl _ _⟩
  case round =>
    obtain ⟨k, n, cap, g, hk, hn, rfl, rfl, HN, HO, hB⟩ := hrel
    have hws := hB.size
    by_cases hlt : k < f.length
    · obtain ⟨b, o, y, rfl, hb, hc, HY⟩ := (hI.below hB).at_ hlt
      have hC := contains_any g cap wr.heap.size (nubL (f.take k)) y wr (own_ints10 HN.out HO.out) (by rw [HN.out]; omega)
      rw [HN.out, ← List.contains_eq_mem] at hC
      have HC := Lib.hid hC
      clear hC
      cases hm : (nubL (f.take k)).contains y with
      | true =>
        rw [hm] at HC
        have HE : Hid (nubL (f.take (k + 1)) = nubL (f.take k)) := Lib.hid (by rw [nub_next HY.out, nubS_mem hm])
        clear hm
        go_wp2_with fail
        refine HC.out.mono ?_
        rintro e w' ⟨rfl, rfl⟩
        go_wp2_with fail
        go_roundw
        case rel => exact ⟨k + 1, n, cap, g, by omega, hn, by go_num, rfl, by rw [HE.out]; exact HN, by rw [HE.out]; exact HO, hB⟩
        case measure => simp [intOf]; omega
      | false =>
        rw [hm] at HC
        have HE : Hid (nubL (f.take (k + 1)) = nubL (f.take k) ++ [y]) := Lib.hid (by rw [nub_next HY.out, nubS_new hm])
        have hn2 : n + 1 ≤ f.length := by
          have h1 := nub_take_le f (k + 1)
          rw [HE.out, List.length_append, HN.out] at h1
          simpa using h1
        clear hm
        go_wp2_with fail
        refine HC.out.mono ?_
        rintro e w' ⟨rfl, rfl⟩
        have hown := HO.out
        go_wp2_with (at_builtin; go_must (refine wpList_append_own _ rfl _ _ 24 rfl w.heap.size 3 i1 (.int .i64 0) 1 8 Try.underlying24 hj hy0 hy1 hy2 rfl (by decide) _ _ _ rfl (hown.alloc _) ⟨wr.heap.size, 0, none⟩ 1 1 [.int .i64 y] rfl rfl (cell_one_new _ _ _) (by simp [Value.oneCell']) (by unfold maxLen; omega) (by omega) (by simp; omega) ?_); go_must (intro v' wz hown' hgrow _; obtain ⟨g2, cap2, rfl⟩ := ownsRow_succ hown'); go_must (have HO4 := Lib.hid hown'); go_must (have hB4 : Below w.heap.size w wz := (hB.alloc hws _).grown hgrow (by simp; omega) (fun r e => (hown.lt r e).1)); clear hown' hgrow)
        go_roundw
        case rel => exact ⟨k + 1, n + 1, cap2, some ⟨g2, 0, none⟩, by omega, hn2, by go_num, rfl, Lib.hid (by rw [HE.out, List.length_append, HN.out]; rfl), Lib.hid (by rw [HE.out, List.map_append]; exact HO4.out), hB4⟩
        case measure => simp [intOf]; omega
    · obtain rfl : k = f.length := by omega
      have HT : Hid (nubL (f.take f.length) = nubL f) := Lib.hid (by rw [List.take_length])
      rw [HT.out] at HN HO
      go_wp2_with fail
      go_ret
      exact ⟨g, cap, ⟨by rw [HN.out]; rfl, hB⟩, by rw [HN.out]; exact HO.out⟩

set_option maxRecDepth 100000 in
set_option maxHeartbeats 1000000 in
/-- A row made by a function value. -/
theorem rowLedK (gf : Nat) (lb : Array Value) (zs : List Int) (m : Nat) (w : World) (hl : zs.length = m) (hm : m ≤ 9) (he : ∀ args w, (callFunc gf args).run Try.prog w = .ok (.enter gf args) w)
    (hcl : ∀ (W' : World) (i : Nat) (z : Int), Below w.heap.size w W' → zs[i]? = some z → Calls Try.prog gf (#[.int .i64 (i : Int)] ++ lb) W' (Ans (.int .i64 z) W')) :
    Calls Try.prog 83 #[.int .i64 m, .func (.func gf) #[] lb] w fun e w' => e = .returned (.slice (some ⟨w.heap.size, 0, none⟩) m m) ∧ Below w.heap.size w w' ∧ RowI w' w.heap.size zs := by
  have HL := Lib.hid hl
  have HCL := Lib.hid hcl
  clear hcl hl
  have hmk := run_make_row' (P := Try.prog) 24 3 (.int .i64 0) 8 Try.underlying24 infoInt rfl .i64 .i64 m (by omega) (by omega)
  go_enter Try.func83, Try.ntmps83
  go_wp2_with fail
  clear hmk
  go_loopw [11] (fun i wr => ∃ k : Nat, k ≤ m ∧ i = .int .i64 k ∧ Below w.heap.size w wr ∧ Hid (wr.rowIs w.heap.size 3 zs.length (fun j => .int .i64 (if j < k then zs[j]?.getD 0 else 0))))
    (fun i _ => m - (intOf i).toNat)
  case atStart =>
    refine ⟨0, Nat.zero_le _, rfl, (Below.refl _ _).alloc (Nat.le_refl _) _, ?_⟩
    have h := copyS_start w zs
    rw [HL.out] at h ⊢
    exact h
  case round =>
    obtain ⟨k, hk, rfl, hB, HR⟩ := hrel
    have hws := hB.size
    by_cases hlt : k < m
    · obtain ⟨z, hz⟩ : ∃ z, zs[k]? = some z := ⟨_, List.getElem?_eq_getElem (by rw [HL.out]; exact hlt)⟩
      have HC := Lib.hid (HCL.out wr k z hB hz)
      have HZ := Lib.hid hz
      clear hz
      go_wp2_with fail
      refine HC.out.mono ?_
      rintro e w1 ⟨rfl, hB1⟩
      have hBX := hB.trans (hB1.mono hws)
      have hlw : w.heap.size < wr.heap.size := World.rowIs.lt HR.out
      have HR1 := World.rowIs.of_block HR.out (hB1.block w.heap.size hlw)
      have hc3 := HR1.cell (show k < zs.length by rw [HL.out]; exact hlt)
      have hf3 := HR1.frozen k
      have HR2 := Lib.hid (copyS_step HR1 HZ.out)
      clear hB1 HR1
      go_wp2_with fail
      go_roundw
      case rel => exact ⟨k + 1, by omega, by go_num, hBX.setCell (p := ⟨w.heap.size, k, none⟩) (Nat.le_refl _) _, HR2⟩
      case measure => simp [intOf]; omega
    · obtain rfl : k = m := by omega
      have HR2 : Hid (RowI wr w.heap.size zs) := Lib.hid (copyS_done (by have h := HR.out; rw [← HL.out] at h; exact h))
      go_wp2_with fail
      go_ret
      exact ⟨rfl, hB, HR2.out⟩

set_option maxRecDepth 100000 in
set_option maxHeartbeats 2000000 in
theorem kindsIn1 (Bf Br n₀ n₁ : Nat) (a a' : Option Addr) (c c' m : Nat) (f : List Int) (w : World) (hm : (nubL f).length = m) (bF : Boxed w Bf 24 (.slice a' m c')) (bR : Boxed w Br 24 (.slice a f.length c)) (hI : Ints n₀ w a f) (hI' : Ints n₁ w a' (nubL f)) (hl : f.length ≤ 1048576) (i : Nat) (z : Int) (hz : (kbyL f)[i]? = some z) :
    Calls Try.prog 84 #[.int .i64 (i : Int), .pointer (some ⟨Bf, 0, none⟩), .pointer (some ⟨Br, 0, none⟩)] w (Ans (.int .i64 z) w) := by
  have hi : i < f.length := by have := (List.getElem?_eq_some_iff.1 hz).1; rwa [kby_length] at this
  obtain ⟨b, o, y, rfl, hb, hc, HY⟩ := hI.at_ hi
  have ez : z = (((nubL f).idxOf y : Nat) : Int) := by rw [kby_get2 f HY.out] at hz; exact (Option.some.inj hz).symm
  have hmem : y ∈ nubL f := nub_mem.2 (List.mem_of_getElem? HY.out)
  have hle := nub_le f
  have hX := index_at a' c' n₁ (nubL f) y w.drew (show Ints n₁ w.drew a' (nubL f) from hI') (by omega) hmem
  rw [hm, ← ez] at hX
  have HX := Lib.hid hX
  have cF := bF.cell
  have cR := bR.cell
  have hm2 : m ≤ 1048576 := by omega
  have hb3 : Below w.heap.size w w.drew := (Below.refl _ _).drew
  clear hX bF bR hI hI' HY hz ez hmem hle hm
  go_enter Try.func84, Try.ntmps84
  go_wp2_with fail
  go_still_tail 5, (by kernel_rfl)
  change wpList _ _ _ _ _ w.drew
  obtain ⟨V, hV⟩ : ∃ V, w.drew = V := ⟨_, rfl⟩
  rw [hV] at HX hb3 ⊢
  clear hV cF cR hc
  go_wp2_with fail
  refine HX.out.mono ?_
  rintro e w' ⟨rfl, rfl⟩
  go_wp2_with fail
  go_ret
  exact ⟨rfl, hb3⟩

set_option maxRecDepth 100000 in
set_option maxHeartbeats 2000000 in
/-- impl.kindsIn: the kinds into which a row puts. -/
theorem kindsInP (a : Option Addr) (c : Nat) (f : List Int) (w : World) (hI : Ints w.heap.size w a f) (h9 : f.length ≤ 9) :
    Calls Try.prog 59 #[.slice a f.length c] w (MadeOwn (kbyL f) w) := by
  have es : ∀ (W : World) (o : Obj), (W.alloc o).heap.size = W.heap.size + 1 := fun W o => by simp
  have hB0 := (Below.refl w.heap.size w).alloc (Nat.le_refl _) (.cells #[.slice a f.length c] 24)
  have hI0 := (hI.below hB0).more hB0.size
  have HFi := Lib.hid (firstsP a c f _ hI0 (by omega))
  have bR0 := Boxed.new w 24 (.slice a f.length c)
  obtain ⟨V, hV⟩ : ∃ V, w.alloc (.cells #[.slice a f.length c] 24) = V := ⟨_, rfl⟩
  have hsV : V.heap.size = w.heap.size + 1 := by rw [← hV, es]
  rw [hV] at hB0 HFi bR0
  have cR0 := bR0.cell
  obtain ⟨m, hm⟩ : ∃ m, (nubL f).length = m := ⟨_, rfl⟩
  have HM := Lib.hid hm
  have hm9 : m ≤ 9 := by rw [← hm]; exact Nat.le_trans (nub_le f) h9
  clear hm hI0
  go_enter Try.func59, Try.ntmps59
  go_wp2_with fail
  refine HFi.out.mono ?_
  rintro e w1 ⟨a1, c1, ⟨rfl, hB1⟩, hO1⟩
  rw [HM.out] at hO1 ⊢
  have hz1 := hB1.size
  have hBw1 := hB0.trans (hB1.mono (by omega))
  have bR1 : Boxed w1 w.heap.size 24 (.slice a f.length c) := (hB1.block _ (by omega)).trans bR0
  have hI1 := own_ints10 HM.out hO1
  have bF2 := Boxed.new w1 24 (.slice a1 m c1)
  have bR2 := bR1.alloc (.cells #[.slice a1 m c1] 24)
  have hB2 := hBw1.alloc (by omega) (.cells #[.slice a1 m c1] 24)
  have hI2 := hI1.below ((Below.refl w1.heap.size w1).alloc (Nat.le_refl _) (.cells #[.slice a1 m c1] 24))
  have cR2 := bR2.cell
  have hs2 := es w1 (.cells #[.slice a1 m c1] 24)
  have HRL := Lib.hid (rowLedK 84 #[.pointer (some ⟨w1.heap.size, 0, none⟩), .pointer (some ⟨w.heap.size, 0, none⟩)] (kbyL f) f.length (w1.alloc (.cells #[.slice a1 m c1] 24)) (kby_length f) h9 (enters_of Try.func84 (by kernel_rfl) rfl)
    (fun W' i z hb hz => by
      have h1 := (hb.block w1.heap.size (by omega)).trans bF2
      have h2 := (hb.block w.heap.size (by omega)).trans bR2
      exact kindsIn1 w1.heap.size w.heap.size w.heap.size w1.heap.size a a1 c c1 m f W' HM.out h1 h2 (hI.below (hB2.trans (hb.mono (by omega)))) (hI2.below (hb.mono (by omega))) (by omega) i z hz))
  have HB2 := Lib.hid hB2
  clear hI1 hI2 bF2 bR2 bR1 hO1 hB1 hBw1 hB2 bR0 cR0 hI
  obtain ⟨U, hU⟩ : ∃ U, w1.alloc (.cells #[.slice a1 m c1] 24) = U := ⟨_, rfl⟩
  rw [hU] at HRL HB2 cR2 hs2
  go_wp2_with fail
  refine HRL.out.mono ?_
  rintro e w3 ⟨rfl, hB3, hR3⟩
  have hB4 := HB2.out.trans (hB3.mono (by omega))
  rw [hs2] at hR3
  have hO4 := rowI_owns hR3 (base := w.heap.size) (by omega) (by rw [kby_length]; omega)
  rw [kby_length] at hO4
  have HO4 := Lib.hid hO4
  clear hO4 hR3 hB3
  go_wp2_with fail
  go_ret
  exact ⟨some ⟨w1.heap.size + 1, 0, none⟩, f.length, ⟨by rw [kby_length]; rfl, hB4⟩, by rw [kby_length]; exact HO4.out⟩

end Go.Proofs.Ytdolpkjighbohaa

namespace Go.Proofs.Ytdolpkjighbohaa
open Go.RowKit Go.Shelf Go.Deep

attribute [local go_sem] Oper.semAt_some

/-- append as the one step that may come up, in a region that draws, where S is held. -/
theorem appendAnyH {P : Program} {fuel k : Nat} {ops : Array Oper} {Q : Exit → Act → World → Prop} {S : World → Prop} {listed : Array Bool} {a : Act} {w w' : World} {o : Oper} {s x : Operand} {t : TypeId} {v v' u : Value}
    (hr : Region.ready .any ops listed = [k]) (hk : ops[k]? = some o) (hg : o.guard = none) (hop : o.op = Op.call { callee := Callee.builtin Builtin.append, args := #[s, x], argTypes := #[t, t] })
    (hs : a.eval s = v) (hx : a.eval x = u) (hrun : (Builtin.append_ #[t, t] o.type #[v, u]).run P w = .ok v' w') (hS : S w') (h : S w' → wpAnyH P .any ops Q S fuel (listed.setIfInBounds k true) (a.put o.dst v') w') :
    wpAnyH P .any ops Q S (fuel + 1) listed a w := by
  refine ⟨fun e => (by rw [hr] at e; cases e), fun i hi => ?_⟩
  rw [hr] at hi
  obtain rfl := List.mem_singleton.1 hi
  have hw : Region.wanted o (yielded ops a.tmps) = true := by simp [Region.wanted, hg]
  unfold wpOp
  simp only [hk]
  rw [if_pos hw]
  refine .inl ?_
  unfold Oper.wp
  simp [execOp, hop, resolve, invoke, builtin, hs, hx, hrun, Result.andThen]
  exact ⟨hS, h hS⟩

set_option maxHeartbeats 1000000 in
theorem kindsBegun_in (n : Nat) (a : Option Addr) (m c : Nat) (x y : Int) (w : World) :
    CallsIn Fence.wide n Try.prog 87 #[.slice a m c, .int .i64 x, .int .i64 y] w fun e w' =>
      e = .returned (.func (.func 98) #[] #[.pointer (some ⟨w.heap.size, 0, none⟩), .pointer (some ⟨w.heap.size + 1 + 1, 0, none⟩), .pointer (some ⟨w.heap.size + 1, 0, none⟩)]) ∧
      w' = ((w.alloc (.cells #[.slice a m c] 24)).alloc (.cells #[.int .i64 x] 3)).alloc (.cells #[.int .i64 y] 3) := by
  refine callsIn_of_wp Try.func87 rfl trivial ?_ rfl
  simp only [Try.ntmps87, List.size_toArray, List.length_cons, List.length_nil, Nat.reduceAdd, Nat.reduceSub, Array.replicate_succ, Array.replicate_zero, List.push_toArray, List.append_toArray, List.nil_append, List.cons_append]
  gi_wp2
  go_ret
  exact ⟨by simp, rfl⟩
theorem kindsBegun_C (a : Option Addr) (m c : Nat) (x y : Int) (w : World) :
    Calls Try.prog 87 #[.slice a m c, .int .i64 x, .int .i64 y] w fun e w' =>
      e = .returned (.func (.func 98) #[] #[.pointer (some ⟨w.heap.size, 0, none⟩), .pointer (some ⟨w.heap.size + 1 + 1, 0, none⟩), .pointer (some ⟨w.heap.size + 1, 0, none⟩)]) ∧
      w' = ((w.alloc (.cells #[.slice a m c] 24)).alloc (.cells #[.int .i64 x] 3)).alloc (.cells #[.int .i64 y] 3) :=
  callsIn_wide.1 (kindsBegun_in 0 a m c x y w)

/-- WHERE THE ITERATOR's OWN BOXES LIE. -/
def KBeg (s b N t : Nat) (p : List Int) (W : World) : Prop :=
  Boxed W s 24 (.slice (some ⟨b, 0, none⟩) p.length N) ∧ Boxed W (s + 1) 3 (.int .i64 t) ∧ Boxed W (s + 1 + 1) 3 (.int .i64 N)
theorem KBeg.grown {s b N t : Nat} {p : List Int} {A C : World} {row : Option Nat} (h : KBeg s b N t p A) (hg : A.grownBy C row) (hr : ∀ r, row = some r → r = b ∨ ∃ o : Obj, A.heap[r]? = some o ∧ o.isCells = false) (hbs : b < s) : KBeg s b N t p C := by
  have key : ∀ (k : Nat) (ty : TypeId) (v : Value), s ≤ k → Boxed A k ty v → Boxed C k ty v := fun k ty v hk hB => (hg.block k hB.lt (fun e => by
    rcases hr k e.symm with h' | ⟨o, ho, hc⟩
    · omega
    · rw [show A.heap[k]? = _ from hB] at ho; cases ho; cases hc)).trans hB
  exact ⟨key _ _ _ (Nat.le_refl _) h.1, key _ _ _ (by omega) h.2.1, key _ _ _ (by omega) h.2.2⟩
theorem KBeg.keepD {s b N t T0 T : Nat} {S : Nat → Prop} {p : List Int} {A C : World} (h : KBeg s b N t p A) (hk : KeepD S T0 T A C) (hS : ∀ B, S B → B < s) : KBeg s b N t p C := by
  have ns : ∀ k, s ≤ k → ¬ S k := fun k hk' hs => by have := hS k hs; omega
  exact ⟨hk.boxed (ns _ (Nat.le_refl _)) h.1, hk.boxed (ns _ (by omega)) h.2.1, hk.boxed (ns _ (by omega)) h.2.2⟩

set_option maxRecDepth 100000 in
set_option maxHeartbeats 4000000 in
theorem kbeg_D (b N : Nat) (hN5 : N ≤ 5) (S : Nat → Prop) (T0 : Nat) (hSb : ¬ S b) : ∀ (n : Nat) (p : List Int) (t T s : Nat) (w : World),
    p.length + n = N → topK p = t → t ≤ p.length → KBeg s b N t p w → Hold b N p w → b < s → (∀ B, S B → B < s) → w.heap.size ≤ T →
    SeqY Fence.wide Try.prog 98 #[.pointer (some ⟨s, 0, none⟩), .pointer (some ⟨s + 1 + 1, 0, none⟩), .pointer (some ⟨s + 1, 0, none⟩)] (fun _ : List Int => #[.slice (some ⟨b, 0, none⟩) N N]) b (Hold b N p) (fun x W => x.length = N ∧ Hold b N x W) (KeepD S T0 T)
      (fun xs => xs = kndL n p) (fun pre => pre <+: kndL n p) T w := by
  have h103 : Fence.wide.fn 87 := trivial
  have hdd : ∀ k : Nat, (Fence.wide.depth.isSome = true → 1 ≤ k) := fun k h => by cases h
  have HSb := Lib.hid hSb
  obtain ⟨i1, hj, hy0, hy1, hy2⟩ := info_parts infoInt
  have es : ∀ (W : World) (o : Obj), (W.alloc o).heap.size = W.heap.size + 1 := fun W o => by simp
  clear hSb
  intro n
  induction n with
  | zero =>
    intro p t T s w hpn htp htl hBw hHw hbs hS hwT l J Jx W hT hW hJ hJx hY h0
    have hB0 := hBw.grown (grown_of_below hW) (fun r e => by cases e) hbs
    have hH0 := hHw.below hW hHw.lt
    have hpN : p.length = N := by omega
    have HJ := Lib.hid hJ
    have HY := Lib.hid hY
    have HJ1 := Lib.hid (OwnFrom.alloc HJ.out.1 (.cells #[.func (.yield l) #[] #[]] 66) h0)
    have hH1 := hH0.alloc (.cells #[.func (.yield l) #[] #[]] 66)
    have cP1 : ∀ o, (W.alloc o).cell? ⟨s, 0, none⟩ = some (.slice (some ⟨b, 0, none⟩) p.length N) := fun o => (hB0.1.alloc o).cell
    have cN1 : ∀ o, (W.alloc o).cell? ⟨s + 1 + 1, 0, none⟩ = some (.int .i64 N) := fun o => (hB0.2.2.alloc o).cell
    subst hpN
    obtain ⟨fn, tmps, assign, body, hy, hR⟩ := HY.out 0 [] p _ HJ1.out (by rw [List.nil_append]; exact List.prefix_refl _) ⟨rfl, hH1⟩
    clear hJ hJx hY h0 hS hBw hHw hT hB0 hH0 hH1 HJ1 HY
    refine callsIn_of_wp_marks Try.func98 rfl trivial ?_ rfl
    simp only [Try.ntmps98, List.size_toArray, List.length_cons, List.length_nil, Nat.reduceAdd, Nat.reduceSub, Array.replicate_succ, Array.replicate_zero, List.push_toArray, List.append_toArray, List.nil_append, List.cons_append]
    gi_wp2
    refine hR.mono ?_
    rintro e W3 (⟨rfl, hJ3, hk3⟩ | ⟨rfl, hJx3, hk3⟩)
    · have HJ3 := Lib.hid hJ3
      clear hJ3 hk3
      gi_wp2
      exact ⟨_, results_none rfl _ _ _, ⟨_, rfl⟩, .inl ⟨[p], rfl, HJ3.out⟩⟩
    · have HJ3 := Lib.hid hJx3
      clear hJx3 hk3
      gi_wp2
      exact ⟨_, results_none rfl _ _ _, ⟨_, rfl⟩, .inr ⟨[p], List.prefix_refl _, HJ3.out⟩⟩
  | succ n ih =>
    intro p t T s w hpn htp htl hBw hHw hbs hS hwT l J Jx W hT hW hJ hJx hY h0
    have hB0 := hBw.grown (grown_of_below hW) (fun r e => by cases e) hbs
    have hH0 := hHw.below hW hHw.lt
    have HJ := Lib.hid hJ
    have HJx := Lib.hid hJx
    have HY := Lib.hid hY
    have HS := Lib.hid hS
    have HT := Lib.hid hT
    have HTP := Lib.hid htp
    have HIH := Lib.hid ih
    have hlt3 := hB0.2.2.lt
    have hTW : T ≤ W.heap.size := by omega
    have hTW2 : W.heap.size ≤ T := by omega
    have ht5 : t ≤ 5 := by omega
    have hne : ((p.length : Int) == (N : Int)) = false := by simp; omega
    have bY1 := Boxed.new W 66 (.func (.yield l) #[] #[])
    have hB1 := hB0.grown (World.grownBy_alloc W (.cells #[.func (.yield l) #[] #[]] 66) none) (fun r e => by cases e) hbs
    have hH1 := hH0.alloc (.cells #[.func (.yield l) #[] #[]] 66)
    have HJ1 := Lib.hid (OwnFrom.alloc HJ.out.1 (.cells #[.func (.yield l) #[] #[]] 66) h0)
    have hs1 : W.heap.size ≤ (W.alloc (.cells #[.func (.yield l) #[] #[]] 66)).heap.size := by rw [es]; omega
    have cP1 : ∀ o, (W.alloc o).cell? ⟨s, 0, none⟩ = some (.slice (some ⟨b, 0, none⟩) p.length N) := fun o => (hB0.1.alloc o).cell
    have cT1 : ∀ o, (W.alloc o).cell? ⟨s + 1, 0, none⟩ = some (.int .i64 t) := fun o => (hB0.2.1.alloc o).cell
    have cN1 : ∀ o, (W.alloc o).cell? ⟨s + 1 + 1, 0, none⟩ = some (.int .i64 N) := fun o => (hB0.2.2.alloc o).cell
    clear hJ hJx hY h0 hS hBw hHw hT ih hB0 hH0 htp
    refine callsIn_of_wp_marks Try.func98 rfl trivial ?_ rfl
    simp only [Try.ntmps98, List.size_toArray, List.length_cons, List.length_nil, Nat.reduceAdd, Nat.reduceSub, Array.replicate_succ, Array.replicate_zero, List.push_toArray, List.append_toArray, List.nil_append, List.cons_append]
    gi_wp2
    refine wpIn_loop (fun a₁ W' => ∃ (k : Nat) (Ds : List Nat) (i u5 u6 u7 u8 u9 u10 u11 u12 u13 u14 u17 u18 u19 u20 u21 u22 u23 u24 u25 u26 u27 u28 u29 u30 u31 u32 u33 u34 : Value), k ≤ t + 1 ∧ i = .int .i64 k ∧ a₁ = { tmps := #[.func (.yield l) #[] #[], .pointer (some ⟨s, 0, none⟩), .pointer (some ⟨s + 1 + 1, 0, none⟩), .pointer (some ⟨s + 1, 0, none⟩), .pointer (some ⟨W.heap.size, 0, none⟩), u5, u6, u7, u8, u9, u10, u11, u12, u13, u14, .int .i64 ((t : Int) + 1), i, u17, u18, u19, u20, u21, u22, u23, u24, u25, u26, u27, u28, u29, u30, u31, u32, u33, u34], defers := marks Ds } ∧
      Hid (J (kndTill n p k) W') ∧ Boxed W' W.heap.size 66 (.func (.yield l) #[] #[]) ∧ KBeg s b N t p W' ∧ Hold b N p W' ∧ Hid (Marked T Ds W') ∧ W.heap.size ≤ W'.heap.size)
      (fun a₁ _ => t + 1 - (intOf (a₁.tmps.getD 16 undef)).toNat) ⟨0, [], _, _, _, _, _, _, _, _, _, _, _, _, _, _, _, _, _, _, _, _, _, _, _, _, _, _, _, _, _, Nat.zero_le _, rfl, rfl, HJ1, bY1, hB1, hH1, Marked.nil _ _, hs1⟩ ?_
    clear bY1 hB1 hH1 HJ1 hs1 cP1 cT1 cN1
    rintro _ V ⟨k, Ds, _, u5, u6, u7, u8, u9, u10, u11, u12, u13, u14, u17, u18, u19, u20, u21, u22, u23, u24, u25, u26, u27, u28, u29, u30, u31, u32, u33, u34, hk, rfl, rfl, HJV, bY, hBV, hHV, HMk, hsV⟩
    by_cases hlt : k < t + 1
    · have hbl := hHV.lt
      have hpN2 : p.length + 1 ≤ N := by omega
      gi_wp2
      -- the world behind the draw
      have gd : V.grownBy V.drew none := ⟨rfl, rfl, rfl, Nat.le_refl _, fun _ _ _ => rfl⟩
      have HJd := Lib.hid (HJ.out.1 _ _ _ none HJV.out gd (fun r e => by cases e))
      have bYd := bY.kept gd (by simp)
      have hBd := hBV.grown gd (fun r e => by cases e) hbs
      have hHd := hHV.kept gd (by simp)
      have HMd := Lib.hid (HMk.out.grown gd (fun r e => by cases e))
      have hsd : W.heap.size ≤ V.drew.heap.size := hsV
      refine wpIn_wide.2 (wp_region_noPanic (wp_region_held (S := fun X => X.cell? ⟨s, 0, none⟩ = some (.slice (some ⟨b, 0, none⟩) p.length N) ∧ X.cell? ⟨s + 1, 0, none⟩ = some (.int .i64 t) ∧ X.cell? ⟨s + 1 + 1, 0, none⟩ = some (.int .i64 N)) (by kernel_rfl) ?_))
      change wpAnyH _ _ _ _ _ _ _ _ (World.drew _)
      obtain ⟨V0, hV0⟩ : ∃ V0, V.drew = V0 := ⟨_, rfl⟩
      rw [hV0] at HJd bYd hBd hHd HMd hsd ⊢
      clear hV0 gd HJV bY hBV hHV HMk hsV hbl
      have hbl := hHd.lt
      -- behind buildSlice
      have g1 := World.grownBy_alloc V0 (.cells #[.int .i64 (k : Int)] 3) none
      have HJ1 := Lib.hid (HJ.out.1 _ _ _ none HJd.out g1 (fun r e => by cases e))
      have bY1 := bYd.kept g1 (by simp)
      have hB1 := hBd.grown g1 (fun r e => by cases e) hbs
      have hH1 := hHd.kept g1 (by simp)
      have HM1 := Lib.hid (HMd.out.grown g1 (fun r e => by cases e))
      obtain ⟨w5, hrun5, hown5, hgrow5⟩ := run_append_fits (P := Try.prog) (V0.alloc (.cells #[.int .i64 (k : Int)] 3)) b 24 24 3 i1 1 Try.underlying24 hj hy1 b p.length N (p.map (Value.int .i64)) hH1 ⟨V0.heap.size, 0, none⟩ 1 1 [.int .i64 (k : Int)] rfl (cell_one_new _ _ _) (by simp [Value.oneCell']) (by omega)
      have hH5 : Hold b N (p ++ [(k : Int)]) w5 := by unfold Hold; rw [List.length_append, List.length_singleton, List.map_append]; exact hown5
      have hYb : W.heap.size ≠ b := by omega
      have HJ5 := Lib.hid (HJ.out.2 _ _ _ HJ1.out hgrow5 hH5.trunc)
      have bY5 := bY1.kept hgrow5 (fun e => hYb (by cases e; rfl))
      have hB5 := hB1.grown hgrow5 (fun r e => .inl (by cases e; rfl)) hbs
      have HM5 := Lib.hid (HM1.out.row hH1 hgrow5)
      have hs5 : W.heap.size ≤ w5.heap.size := Nat.le_trans hsd (Nat.le_trans g1.size hgrow5.size)
      have HS0 := Lib.hid (show V0.cell? ⟨s, 0, none⟩ = some (.slice (some ⟨b, 0, none⟩) p.length N) ∧ V0.cell? ⟨s + 1, 0, none⟩ = some (.int .i64 t) ∧ V0.cell? ⟨s + 1 + 1, 0, none⟩ = some (.int .i64 N) from ⟨hBd.1.cell, hBd.2.1.cell, hBd.2.2.cell⟩)
      have HS1 := Lib.hid (show (V0.alloc (.cells #[.int .i64 (k : Int)] 3)).cell? ⟨s, 0, none⟩ = some (.slice (some ⟨b, 0, none⟩) p.length N) ∧ (V0.alloc (.cells #[.int .i64 (k : Int)] 3)).cell? ⟨s + 1, 0, none⟩ = some (.int .i64 t) ∧ (V0.alloc (.cells #[.int .i64 (k : Int)] 3)).cell? ⟨s + 1 + 1, 0, none⟩ = some (.int .i64 N) from ⟨hB1.1.cell, hB1.2.1.cell, hB1.2.2.cell⟩)
      have HS5 := Lib.hid (show w5.cell? ⟨s, 0, none⟩ = some (.slice (some ⟨b, 0, none⟩) p.length N) ∧ w5.cell? ⟨s + 1, 0, none⟩ = some (.int .i64 t) ∧ w5.cell? ⟨s + 1 + 1, 0, none⟩ = some (.int .i64 N) from ⟨hB5.1.cell, hB5.2.1.cell, hB5.2.2.cell⟩)
      have hDs : ∀ D ∈ Ds, D < w5.heap.size := fun D hD => (HM5.out.2 D hD).2.1
      -- behind kindsBegun
      obtain ⟨m5, hm5⟩ : ∃ m5, max t (k + 1) = m5 := ⟨_, rfl⟩
      have HM50 := Lib.hid hm5
      have hmx : (if (t : Int) < (k : Int) + 1 then (k : Int) + 1 else (t : Int)) = (m5 : Int) := by split <;> omega
      have hwr : IntKind.i64.wrap ((k : Int) + 1) = (k : Int) + 1 := by simp [IntKind.wrap, IntKind.bits, IntKind.signed]; omega
      have hm51 : m5 ≤ p.length + 1 := by omega
      have hmx2 : max (t : Int) ((k : Int) + 1) = (m5 : Int) := by omega
      clear hm5
      have g2 := World.grownBy_alloc w5 (.cells #[.slice (some ⟨b, 0, none⟩) (p.length + 1) N] 24) none
      have g3 := World.grownBy_alloc (w5.alloc (.cells #[.slice (some ⟨b, 0, none⟩) (p.length + 1) N] 24)) (.cells #[.int .i64 (m5 : Int)] 3) none
      have g4 := World.grownBy_alloc ((w5.alloc (.cells #[.slice (some ⟨b, 0, none⟩) (p.length + 1) N] 24)).alloc (.cells #[.int .i64 (m5 : Int)] 3)) (.cells #[.int .i64 (N : Int)] 3) none
      have HJ7 := Lib.hid (HJ.out.1 _ _ _ none (HJ.out.1 _ _ _ none (HJ.out.1 _ _ _ none HJ5.out g2 (fun r e => by cases e)) g3 (fun r e => by cases e)) g4 (fun r e => by cases e))
      have bY7 := ((bY5.kept g2 (by simp)).kept g3 (by simp)).kept g4 (by simp)
      have hB7 := ((hB5.grown g2 (fun r e => by cases e) hbs).grown g3 (fun r e => by cases e) hbs).grown g4 (fun r e => by cases e) hbs
      have hH7 := ((hH5.kept g2 (by simp)).kept g3 (by simp)).kept g4 (by simp)
      have HM7 := Lib.hid (((HM5.out.grown g2 (fun r e => by cases e)).grown g3 (fun r e => by cases e)).grown g4 (fun r e => by cases e))
      have q1 := (Boxed.new w5 24 (.slice (some ⟨b, 0, none⟩) (p.length + 1) N)).kept g3 (by simp) |>.kept g4 (by simp)
      have q2 := (Boxed.new (w5.alloc (.cells #[.slice (some ⟨b, 0, none⟩) (p.length + 1) N] 24)) 3 (.int .i64 (m5 : Int))).kept g4 (by simp)
      have q3 := Boxed.new ((w5.alloc (.cells #[.slice (some ⟨b, 0, none⟩) (p.length + 1) N] 24)).alloc (.cells #[.int .i64 (m5 : Int)] 3)) 3 (.int .i64 (N : Int))
      rw [es] at q2
      rw [es, es] at q3
      have hsX : (((w5.alloc (.cells #[.slice (some ⟨b, 0, none⟩) (p.length + 1) N] 24)).alloc (.cells #[.int .i64 (m5 : Int)] 3)).alloc (.cells #[.int .i64 (N : Int)] 3)).heap.size = w5.heap.size + 1 + 1 + 1 := by rw [es, es, es]
      have HS7 := Lib.hid (show (((w5.alloc (.cells #[.slice (some ⟨b, 0, none⟩) (p.length + 1) N] 24)).alloc (.cells #[.int .i64 (m5 : Int)] 3)).alloc (.cells #[.int .i64 (N : Int)] 3)).cell? ⟨s, 0, none⟩ = some (.slice (some ⟨b, 0, none⟩) p.length N) ∧ (((w5.alloc (.cells #[.slice (some ⟨b, 0, none⟩) (p.length + 1) N] 24)).alloc (.cells #[.int .i64 (m5 : Int)] 3)).alloc (.cells #[.int .i64 (N : Int)] 3)).cell? ⟨s + 1, 0, none⟩ = some (.int .i64 t) ∧ (((w5.alloc (.cells #[.slice (some ⟨b, 0, none⟩) (p.length + 1) N] 24)).alloc (.cells #[.int .i64 (m5 : Int)] 3)).alloc (.cells #[.int .i64 (N : Int)] 3)).cell? ⟨s + 1 + 1, 0, none⟩ = some (.int .i64 N) from ⟨hB7.1.cell, hB7.2.1.cell, hB7.2.2.cell⟩)
      obtain ⟨z5, hz5⟩ : ∃ z5, z5 = w5.heap.size := ⟨_, rfl⟩
      rw [← hz5] at q1 q2 q3 hDs hsX hs5
      have HZ5 := Lib.hid hz5
      obtain ⟨X, hX⟩ : ∃ X, ((w5.alloc (.cells #[.slice (some ⟨b, 0, none⟩) (p.length + 1) N] 24)).alloc (.cells #[.int .i64 (m5 : Int)] 3)).alloc (.cells #[.int .i64 (N : Int)] 3) = X := ⟨_, rfl⟩
      rw [hX] at HJ7 bY7 hB7 hH7 HM7 q1 q2 q3 hsX HS7
      have HX := Lib.hid hX
      have hlen : (p ++ [(k : Int)]).length = p.length + 1 := by simp
      have hsX1 : z5 < X.heap.size := by omega
      have hsX2 : X.heap.size ≤ z5 + 3 := by omega
      have hzb : b < z5 := by rw [hz5]; exact Nat.lt_of_lt_of_le hbl (Nat.le_trans g1.size hgrow5.size)
      have hbeg : KBeg z5 b N m5 (p ++ [(k : Int)]) X := ⟨by rw [hlen]; exact q1, q2, q3⟩
      have HSEQ := Lib.hid (HIH.out (p ++ [(k : Int)]) m5 (X.heap.size + 2) z5 X (by rw [hlen]; omega) (by rw [topK_snoc_nat, HTP.out, HM50.out]) (by rw [hlen]; omega) hbeg hH7 hzb (fun B hB => by have := HS.out B hB; omega) (by omega))
      clear hX hz5 g1 g2 g3 g4 HJ1 bY1 hB1 hH1 HM1 HJ5 bY5 hB5 hH5 HM5 HJd bYd hBd hHd HMd hsd hbeg q1 q2 q3 hown5 hgrow5 hsX hlen hbl hYb
      refine wpAnyH_take (i := 0) (v := ?_) rfl (by kernel_rfl) (by kernel_rfl) (by kernel_rfl) (fun _ _ _ h => h) (Or.inl ⟨by rfl, ?_⟩) HS0.out ?_
      case refine_2 => rintro w ⟨s1, s2, s3⟩; first | (go_simp; rfl) | go_simp
      simp only [Act.put, List.getElem_toArray, List.getElem_cons_zero, List.setIfInBounds_toArray, List.set_cons_zero, List.set_cons_succ]
      refine wpAnyH_take (i := 1) (v := ?_) rfl (by kernel_rfl) (by kernel_rfl) (by kernel_rfl) (fun _ _ _ h => h) (Or.inl ⟨by rfl, ?_⟩) HS0.out ?_
      case refine_2 => rintro w ⟨s1, s2, s3⟩; first | (go_simp; rfl) | go_simp
      simp only [Act.put, List.getElem_toArray, List.getElem_cons_succ, List.getElem_cons_zero, List.setIfInBounds_toArray, List.set_cons_zero, List.set_cons_succ]
      refine wpAnyH_take (i := 4) (v := ?_) rfl (by kernel_rfl) (by kernel_rfl) (by kernel_rfl) (fun _ _ _ h => h) (Or.inl ⟨by rfl, ?_⟩) HS0.out ?_
      case refine_2 => rintro w ⟨s1, s2, s3⟩; first | (go_simp; rfl) | go_simp
      simp only [Act.put, List.getElem_toArray, List.getElem_cons_succ, List.getElem_cons_zero, List.setIfInBounds_toArray, List.set_cons_zero, List.set_cons_succ]
      refine wpAnyH_take (i := 5) (v := ?_) rfl (by kernel_rfl) (by kernel_rfl) (by kernel_rfl) (fun _ _ _ h => h) (Or.inl ⟨by rfl, ?_⟩) HS0.out ?_
      case refine_2 => rintro w ⟨s1, s2, s3⟩; first | (go_simp; rfl) | go_simp
      simp only [Act.put, List.getElem_toArray, List.getElem_cons_succ, List.getElem_cons_zero, List.setIfInBounds_toArray, List.set_cons_zero, List.set_cons_succ]
      refine wpAnyH_take (i := 6) (v := ?_) rfl (by kernel_rfl) (by kernel_rfl) (by kernel_rfl) (fun _ _ _ h => h) (Or.inl ⟨by rfl, ?_⟩) HS0.out ?_
      case refine_2 => rintro w ⟨s1, s2, s3⟩; first | (go_simp; rfl) | go_simp
      simp only [Act.put, List.getElem_toArray, List.getElem_cons_succ, List.getElem_cons_zero, List.setIfInBounds_toArray, List.set_cons_zero, List.set_cons_succ]
      refine wpAnyH_take (i := 7) (v := ?_) rfl (by kernel_rfl) (by kernel_rfl) (by kernel_rfl) (fun _ _ _ h => h) (Or.inl ⟨by rfl, ?_⟩) HS0.out ?_
      case refine_2 => rintro w ⟨s1, s2, s3⟩; first | (go_simp; rfl) | go_simp
      simp only [Act.put, List.getElem_toArray, List.getElem_cons_succ, List.getElem_cons_zero, List.setIfInBounds_toArray, List.set_cons_zero, List.set_cons_succ]
      refine wpAnyH_take (i := 8) (v := ?_) rfl (by kernel_rfl) (by kernel_rfl) (by kernel_rfl) (fun _ _ _ h => h) (Or.inl ⟨by rfl, ?_⟩) HS0.out ?_
      case refine_2 => rintro w ⟨s1, s2, s3⟩; first | (go_simp; rfl) | go_simp
      simp only [Act.put, List.getElem_toArray, List.getElem_cons_succ, List.getElem_cons_zero, List.setIfInBounds_toArray, List.set_cons_zero, List.set_cons_succ]
      refine wpAnyH_ready (rs := [2]) (by kernel_rfl) (by simp) ?_
      refine AllReadyH.cons rfl (fun K hK => ?_) AllReadyH.nil
      go_simp
      refine hK.out _ _ HS1.out (fun hS1 => ?_)
      clear hK K
      refine appendAnyH (k := 3) (by kernel_rfl) rfl rfl rfl rfl rfl hrun5 HS5.out (fun hS5 => ?_)
      simp only [Act.put, List.getElem_toArray, List.getElem_cons_succ, List.getElem_cons_zero, List.setIfInBounds_toArray, List.set_cons_zero, List.set_cons_succ]
      refine wpAnyH_ready (rs := [9]) (by kernel_rfl) (by simp) ?_
      refine AllReadyH.cons rfl (fun K hK => ?_) AllReadyH.nil
      go_simp
      refine (kindsBegun_C _ _ _ _ _ _).mono ?_
      rintro e w7 ⟨rfl, rfl⟩
      (try rw [hwr])
      (try rw [hmx])
      (try rw [hmx2])
      rw [HX.out, ← HZ5.out]
      refine hK.out _ _ HS7.out (fun hS7 => ?_)
      clear hK K
      refine wpAnyH_done (by kernel_rfl) ?_ _
      refine NoPanic.normal ?_
      have hih := HSEQ.out
      clear HSEQ HX HZ5 HS0 HS1 HS5 HS7 hS1 hS5 hS7 hrun5 hmx hmx2 hwr
      gi_wp2
      refine range_lawY rfl rfl (fun _ => trivial) (gf := 98) (lb := #[.pointer (some ⟨z5, 0, none⟩), .pointer (some ⟨z5 + 1 + 1, 0, none⟩), .pointer (some ⟨z5 + 1, 0, none⟩)]) rfl (enters_of Try.func98 (by kernel_rfl) rfl)
        hih (.inl (by omega)) (OwnFrom.and (ownFrom_pure _ _) (Own.from (hold_own _ _ _) _)) (fun h k => KeepD.trans h k) (fun W' o o' h hc => KeepD.putObj S (by omega) W' o o' h hc) (Below.refl _ _) (fun _ => rfl)
        (fun pre W' => ((((Hid (J (kndTill n p k ++ pre) W') ∧ Boxed W' W.heap.size 66 (.func (.yield l) #[] #[])) ∧ KBeg s b N t p W') ∧ Hold b N p W') ∧ Hid (Marked T Ds W')) ∧ X.heap.size ≤ W'.heap.size)
        (fun c₁ pre W' => (c₁ = .ret ∧ Hid (Jx (kndTill n p k ++ pre) W')) ∧ Hid (Marked T Ds W'))
        ?hI ?hIx ?h0 ?a1 ?assign ?body ?done ?stop
      case hI =>
        refine ⟨?_, ?_⟩
        · intro pre A C row ⟨⟨⟨⟨⟨h1, h2⟩, h3⟩, h4⟩, h5⟩, h6⟩ hg hr
          have hr' : ∀ r, row = some r → ∃ o : Obj, A.heap[r]? = some o ∧ o.isCells = false := fun r e => (hr r e).2
          exact ⟨⟨⟨⟨⟨Lib.hid ((OwnFrom.far HJ.out.1 (by omega)) _ _ _ _ h1.out hg hr), h2.kept hg (fun e => by obtain ⟨o, ho, hc⟩ := hr' _ e.symm; rw [show A.heap[W.heap.size]? = _ from h2] at ho; cases ho; cases hc)⟩, h3.grown hg (fun r e => .inr (hr' r e)) hbs⟩, hold_own b N (fun _ : List (List Int) => p) pre _ _ _ h4 hg hr'⟩, Lib.hid (h5.out.from (fun D hD => Nat.lt_trans (hDs D hD) hsX1) hg (fun r e => (hr r e).1))⟩, Nat.le_trans h6 hg.size⟩
        · intro pre A C ⟨⟨⟨⟨⟨h1, h2⟩, h3⟩, h4⟩, h5⟩, h6⟩ hg hh
          exact ⟨⟨⟨⟨⟨Lib.hid (HJ.out.2 _ _ _ h1.out hg hh.trunc), h2.kept hg (fun e => by have e' := Option.some.inj e; omega)⟩, h3.grown hg (fun r e => .inl (by cases e; rfl)) hbs⟩, hh.trunc⟩, Lib.hid (h5.out.row h4 hg)⟩, Nat.le_trans h6 hg.size⟩
      case hIx =>
        intro c₁
        refine ⟨?_, ?_⟩
        · intro pre A C row ⟨⟨h1, h2⟩, h3⟩ hg hr
          exact ⟨⟨h1, Lib.hid ((OwnFrom.far HJx.out.1 (by omega)) _ _ _ _ h2.out hg hr)⟩, Lib.hid (h3.out.from (fun D hD => Nat.lt_trans (hDs D hD) hsX1) hg (fun r e => (hr r e).1))⟩
        · intro pre A C ⟨⟨h1, h2⟩, h3⟩ hg hh
          exact ⟨⟨h1, Lib.hid (HJx.out.2 _ _ _ h2.out hg hh.trunc)⟩, Lib.hid (h3.out.other (by omega) hg)⟩
      case h0 => exact ⟨⟨⟨⟨⟨by rw [List.append_nil]; exact HJ7, bY7⟩, hB7⟩, hH7.trunc⟩, HM7⟩, Nat.le_refl _⟩
      case assign =>
        intro l2 x W' K hK
        gi_wp2
        exact hK
      case body =>
        rintro l2 pre x W' ⟨⟨⟨⟨⟨h1, h2⟩, h3⟩, h4⟩, h5⟩, h6⟩ hsp ⟨hxN, hHx⟩
        clear hih HJ7 bY7 hB7 hH7 HM7
        have cY := h2.cell
        have hsp' : (kndTill n p k ++ pre) ++ [x] <+: kndL (n + 1) p := by
          rw [List.append_assoc]
          refine List.IsPrefix.trans ((List.prefix_append_right_inj _).2 hsp) ?_
          rw [← kndTill_succ]
          exact kndTill_prefix n p (by rw [HTP.out]; omega)
        obtain ⟨fn, tmps, assign, body, hy, hR⟩ := HY.out 0 _ x W' h1.out hsp' ⟨hxN, hHx⟩
        have hR' := Lib.hid (RoundIn_round (l' := l2) hR)
        clear hR hsp'
        gi_wp2_with ((try refine ⟨hdd _, ?_⟩); refine hR'.out.mono ?_; clear hR'; rintro e W3 (⟨rfl, hJ3, hk3⟩ | ⟨rfl, hJx3, hkf3⟩))
        · have HK3 := Lib.hid hk3
          have HJ3 := Lib.hid hJ3
          clear hk3 hJ3
          gi_wp2
          exact ⟨KeepD.from HK3.out (fun B hB => by have := HS.out B hB; omega) (by omega), KeepD.more HK3.out (by omega), ⟨⟨⟨⟨by rw [← List.append_assoc]; exact HJ3, KeepD.boxed HK3.out (fun hB => by have := HS.out _ hB; omega) h2⟩, h3.keepD HK3.out HS.out⟩, h4.keepD HK3.out HSb.out⟩, Lib.hid (h5.out.keepD HK3.out (fun B hB => by have := HS.out B hB; omega))⟩, Nat.le_trans h6 HK3.out.1⟩
        · have HK3 := Lib.hid hkf3
          have HJ3 := Lib.hid hJx3
          clear hkf3 hJx3
          gi_wp2
          exact ⟨⟨HK3.out.size, fun k o hk ho hc => HK3.out.same k o (by omega) ho hc⟩, ⟨rfl, by rw [← List.append_assoc]; exact HJ3⟩, Lib.hid (h5.out.keep HK3.out.size (fun D o hD ho hc => HK3.out.same D o hD ho hc))⟩
      case done =>
        rintro D ys W' hD rfl ⟨⟨⟨⟨⟨h1, h2⟩, h3⟩, h4⟩, h5⟩, h6⟩ hK
        clear hih HJ7 bY7 hB7 hH7 HM7
        have HJ9 : Hid (J (kndTill n p (k + 1)) W') := by rw [kndTill_succ]; exact h1
        have HM9 : Hid (Marked T (D :: Ds) W') := Lib.hid (h5.out.cons (by omega) hK (fun x hx => by have := hDs x hx; omega))
        clear h1 h5 hK
        gi_wp2
        refine ⟨⟨k + 1, D :: Ds, _, _, _, _, _, _, _, _, _, _, _, _, _, _, _, _, _, _, _, _, _, _, _, _, _, _, _, _, _, by omega, by go_num, rfl, HJ9, h2, h3, h4, HM9, by omega⟩, ?_⟩
        simp [intOf]; omega
      case stop =>
        rintro D c₁ pre W' hD hpre ⟨⟨rfl, h2⟩, h5⟩ hK
        clear hih HJ7 bY7 hB7 hH7 HM7
        have HM9 : Hid (Marked T (D :: Ds) W') := Lib.hid (h5.out.cons (by omega) hK (fun x hx => by have := hDs x hx; omega))
        have hp9 : kndTill n p k ++ pre <+: kndL (n + 1) p := by
          refine List.IsPrefix.trans ((List.prefix_append_right_inj _).2 hpre) ?_
          rw [← kndTill_succ]
          exact kndTill_prefix n p (by rw [HTP.out]; omega)
        have HP9 := Lib.hid hp9
        clear h5 hK hp9
        gi_wp2
        exact leaves_marks (T := T) (fun W' => Jx (kndTill n p k ++ pre) W') (fun W' D hD hk hz => HJx.out.1.putObj _ hz (by have := HT.out; omega) hk rfl) (fun W' hz => ⟨_, results_none rfl _ _ _, ⟨_, rfl⟩, .inr ⟨_, HP9.out, hz⟩⟩) (D :: Ds) W' HM9.out h2.out
    · obtain rfl : k = t + 1 := by omega
      have HJE : Hid (J (kndL (n + 1) p) V) := by rw [← kndTill_all, HTP.out]; exact HJV
      clear HJV
      gi_wp2
      refine leaves_marks (T := T) (fun W' => J (kndL (n + 1) p) W') (fun W' D hD hk hz => HJ.out.1.putObj _ hz (by have := HT.out; omega) hk rfl) (fun W' hz => ⟨_, results_none rfl _ _ _, ⟨_, rfl⟩, .inl ⟨_, rfl, hz⟩⟩) Ds V HMk.out HJE.out


set_option maxRecDepth 100000 in
set_option maxHeartbeats 4000000 in
theorem kinds_D (T s N : Nat) (hN5 : N ≤ 5) (S : Nat → Prop) (T0 : Nat) (w : World) (bN : Boxed w s 3 (.int .i64 N)) (hS : ∀ B, S B → B < w.heap.size) (hwT : w.heap.size ≤ T) :
    SeqY Fence.wide Try.prog 86 #[.pointer (some ⟨s, 0, none⟩)] (fun _ : List Int => #[.slice (some ⟨T, 0, none⟩) N N]) T (fun _ => True) (fun x W => x.length = N ∧ Hold T N x W) (KeepD S T0 T)
      (fun xs => xs = kndL N []) (fun pre => pre <+: kndL N []) T w := by
  intro l J Jx W hT hW hJ hJx hY h0
  have es : ∀ (W : World) (o : Obj), (W.alloc o).heap.size = W.heap.size + 1 := fun W o => by simp
  have bN0 : Boxed W s 3 (.int .i64 N) := (hW.block _ bN.lt).trans bN
  have hmk : ∀ (w : World), (Instr.makeSlice 24 (.int .i64 0) (.int .i64 (N : Int))).run Try.prog w = .ok (.slice (some ⟨w.heap.size, 0, none⟩) 0 N) (w.alloc (.cells (madeCells #[.int .i64 0] N) 3)) := fun w => make_cap N (by omega) w
  have HJ := Lib.hid hJ
  have HJx := Lib.hid hJx
  have HY := Lib.hid hY
  subst hT
  obtain ⟨E, hE⟩ : ∃ E, ((((W.alloc (.cells (madeCells #[.int .i64 0] N) 3)).alloc (.cells #[.slice (some ⟨W.heap.size, 0, none⟩) 0 N] 24)).alloc (.cells #[.int .i64 0] 3)).alloc (.cells #[.int .i64 (N : Int)] 3)) = E := ⟨_, rfl⟩
  have hBE : Below W.heap.size W E := by rw [← hE]; exact (((((Below.refl _ W).alloc (Nat.le_refl _) _).alloc (by simp) _).alloc (by simp; omega) _).alloc (by simp; omega) _)
  have HC : Hid (∀ W', W'.heap = E.heap → W'.os = W.os → W'.tape = W.tape → W'.output = W.output → Calls Try.prog 98 #[.func (.yield l) #[] #[], .pointer (some ⟨W.heap.size + 1, 0, none⟩), .pointer (some ⟨W.heap.size + 1 + 1 + 1, 0, none⟩), .pointer (some ⟨W.heap.size + 1 + 1, 0, none⟩)] W' fun e W' => (∃ v, e = .returned v) ∧ ((∃ xs, xs = kndL N [] ∧ J xs W') ∨ (∃ pre, pre <+: kndL N [] ∧ Jx pre W'))) := by
    refine Lib.hid fun W' h1 h2 h3 h4 => ?_
    have hEs : E.heap.size = W.heap.size + 4 := by rw [← hE]; simp
    have hWs' : W'.heap.size = W.heap.size + 4 := by rw [h1, hEs]
    have hg : W.grownBy W' none := ⟨h2, h3, h4, by omega, fun k hk _ => by rw [h1]; exact hBE.block k hk⟩
    have hown : (W.alloc (.cells (madeCells #[.int .i64 0] N) 3)).ownsRow W.heap.size 3 1 (.slice (some ⟨W.heap.size, 0, none⟩) 0 N) 0 [] :=
      World.ownsRow_made (size := 1) W (base := W.heap.size) (e := 3) (madeCells #[.int .i64 0] N) N (Nat.le_refl _) (by unfold maxLen; omega) (by rw [size_madeCells]; omega)
    have hHE : Hold W.heap.size N [] E := by rw [← hE]; exact ((hown.alloc _).alloc _).alloc _
    have q1 : Boxed E (W.heap.size + 1) 24 (.slice (some ⟨W.heap.size, 0, none⟩) 0 N) := by
      have h := ((Boxed.new (W.alloc (.cells (madeCells #[.int .i64 0] N) 3)) 24 (.slice (some ⟨W.heap.size, 0, none⟩) 0 N)).alloc (.cells #[.int .i64 0] 3)).alloc (.cells #[.int .i64 (N : Int)] 3)
      rw [es] at h; rw [← hE]; exact h
    have q2 : Boxed E (W.heap.size + 1 + 1) 3 (.int .i64 ((0 : Nat) : Int)) := by
      have h := (Boxed.new ((W.alloc (.cells (madeCells #[.int .i64 0] N) 3)).alloc (.cells #[.slice (some ⟨W.heap.size, 0, none⟩) 0 N] 24)) 3 (.int .i64 0)).alloc (.cells #[.int .i64 (N : Int)] 3)
      rw [es, es] at h; rw [← hE]; exact h
    have q3 : Boxed E (W.heap.size + 1 + 1 + 1) 3 (.int .i64 (N : Int)) := by
      have h := Boxed.new (((W.alloc (.cells (madeCells #[.int .i64 0] N) 3)).alloc (.cells #[.slice (some ⟨W.heap.size, 0, none⟩) 0 N] 24)).alloc (.cells #[.int .i64 0] 3)) 3 (.int .i64 (N : Int))
      rw [es, es, es] at h; rw [← hE]; exact h
    have hHW : Hold W.heap.size N [] W' := by
      obtain ⟨x1, x2⟩ := hHE
      refine ⟨x1, ?_⟩
      rw [h1]; exact x2
    have hbeg : KBeg (W.heap.size + 1) W.heap.size N 0 [] W' :=
      ⟨by show W'.heap[_]? = _; rw [h1]; exact q1, by show W'.heap[_]? = _; rw [h1]; exact q2, by show W'.heap[_]? = _; rw [h1]; exact q3⟩
    have hY2 := kbeg_D W.heap.size N hN5 S T0 (fun s => by have := hS _ s; omega) N [] 0 W'.heap.size (W.heap.size + 1) W' (by simp) rfl (Nat.zero_le _) hbeg hHW (by omega) (fun B hB => by have := hS B hB; omega) (Nat.le_refl _)
    refine callsIn_wide.1 (hY2 l J Jx W' rfl (Below.refl _ _) ⟨OwnFrom.far HJ.out.1 (by omega), fun s A C hs hgr _ => HJ.out.2 s A C hs hgr trivial⟩ ⟨OwnFrom.far HJx.out.1 (by omega), fun s A C hs hgr _ => HJx.out.2 s A C hs hgr trivial⟩ ?_ (HJ.out.1 _ _ _ none h0 hg (fun r e => by cases e)))
    intro m pre x W1 hj hsp hat
    obtain ⟨fn, tmps, assign, body, hy, hR⟩ := HY.out m pre x W1 hj hsp hat
    refine ⟨fn, tmps, assign, body, hy, hR.mono ?_⟩
    rintro e W2 (⟨k1, k2, k3⟩ | ⟨k1, k2, k3⟩)
    · exact .inl ⟨k1, k2, KeepD.more k3 (by omega)⟩
    · exact .inr ⟨k1, k2, k3.size, fun k o hk ho hc => k3.same k o (by omega) ho hc⟩
  have cN := bN0.cell
  have ltN := bN0.lt
  have cN1 : ∀ o, (W.alloc o).cell? ⟨s, 0, none⟩ = some (.int .i64 N) := fun o => (bN0.alloc o).cell
  have eo : E.os = W.os := hBE.os
  have et : E.tape = W.tape := hBE.tape
  have eu : E.output = W.output := hBE.output
  clear hJ hJx hY h0 hW bN bN0 hBE HJ HY HJx hS hwT
  refine callsIn_of_wp Try.func86 rfl trivial ?_ rfl
  simp only [Try.ntmps86, List.size_toArray, List.length_cons, List.length_nil, Nat.reduceAdd, Nat.reduceSub, Array.replicate_succ, Array.replicate_zero, List.push_toArray, List.append_toArray, List.nil_append, List.cons_append]
  gi_wp2
  refine wpIn_wide.2 ?_
  go_region_with
    (first
      | (go_at_call 87; refine (kindsBegun_C _ _ _ _ _ _).mono ?_; rintro e w' ⟨rfl, rfl⟩)
      | (go_at_call 98; refine (HC.out E.drew rfl eo et eu).mono ?_; rintro e w' ⟨⟨v, rfl⟩, hP⟩))
  all_goals
    have HP := Lib.hid hP
    clear hP
    gi_wp2
    go_end0
    exact ⟨⟨_, rfl⟩, HP.out⟩

theorem kinds_in (n : Nat) (N : Nat) (w : World) :
    CallsIn Fence.wide n Try.prog 62 #[.int .i64 N] w fun e w' =>
      e = .returned (.func (.func 86) #[] #[.pointer (some ⟨w.heap.size, 0, none⟩)]) ∧ w' = w.alloc (.cells #[.int .i64 N] 3) := by
  refine callsIn_of_wp Try.func62 rfl trivial ?_ rfl
  simp only [Try.ntmps62, List.size_toArray, List.length_cons, List.length_nil, Nat.reduceAdd, Nat.reduceSub, Array.replicate_succ, Array.replicate_zero, List.push_toArray, List.append_toArray, List.nil_append, List.cons_append]
  gi_wp2
  go_ret
  exact ⟨rfl, rfl⟩

set_option maxRecDepth 100000 in
set_option maxHeartbeats 4000000 in
theorem implAllK (a : Option Addr) (c : Nat) (G : List (List Int)) (w : World) (hM : Mat w.heap.size w a G) (hF : Fit G) :
    Calls Try.prog 23 #[.slice a G.length c] w (MadeS (allKL G) w) := by
  have h1 : Fence.wide.fn 57 := trivial
  have h2 : Fence.wide.fn 62 := trivial
  have h3 : Fence.wide.fn 63 := trivial
  have hdd : ∀ k : Nat, (Fence.wide.depth.isSome = true → 1 ≤ k) := fun k h => by cases h
  have es : ∀ (W : World) (o : Obj), (W.alloc o).heap.size = W.heap.size + 1 := fun W o => by simp
  obtain ⟨i0, hi, hz0, hz1, hz2⟩ := info_parts infoInts
  have hOk := implOk a c G w hM hF
  obtain ⟨zs, HZ⟩ : ∃ zs, Hid (allKL G = zs) := ⟨_, rfl⟩
  rw [HZ.out]
  refine (callsIn_wide (n := 20)).1 ?_
  have hl := hF.1
  by_cases hg : gOk G = true
  · rw [hg] at hOk
    have HOk := Lib.hid hOk
    by_cases h5 : G.length ≤ 5
    · have HZ2 : Hid (zs = kndL G.length []) := Lib.hid (by rw [← HZ.out, allK_yes (g5_iff.2 ⟨hg, h5⟩), kndL_all])
      have HN : Hid ((kndL G.length []).length ≤ 52) := Lib.hid (by rw [kndL_all]; exact kLvl_le52 h5)
      have hl1 := (good_of hg).1
      obtain ⟨N, hGN⟩ : ∃ N, G.length = N := ⟨_, rfl⟩
      rw [hGN] at HOk HZ2 HN h5 hl1 ⊢
      clear hOk hg hGN hM hF hl HZ
      refine callsIn_of_wp_marks Try.func23 rfl trivial ?_ rfl
      simp only [Try.ntmps23, List.size_toArray, List.length_cons, List.length_nil, Nat.reduceAdd, Nat.reduceSub, Array.replicate_succ, Array.replicate_zero, List.push_toArray, List.append_toArray, List.nil_append, List.cons_append]
      gi_wp2_with (first | ((try refine ⟨hdd _, ?_⟩); gi_at_call 57; refine (callsIn_wide.2 HOk.out).mono ?_; rintro e w1 ⟨rfl, hB1⟩) | ((try refine ⟨hdd _, ?_⟩); gi_at_call 62; refine (kinds_in _ _ _).mono ?_; rintro e w' ⟨rfl, rfl⟩))
      have bC := (Boxed.new w1 23 (.slice none 0 0)).alloc (.cells #[.int .i64 N] 3)
      have bN := Boxed.new (w1.alloc (.cells #[.slice none 0 0] 23)) 3 (.int .i64 N)
      rw [es] at bN
      have hB2 := (hB1.alloc hB1.size (.cells #[.slice none 0 0] 23)).alloc (by simp; have := hB1.size; omega) (.cells #[.int .i64 N] 3)
      have hws := hB1.size
      have hsz : ((w1.alloc (.cells #[.slice none 0 0] 23)).alloc (.cells #[.int .i64 N] 3)).heap.size = w1.heap.size + 2 := by simp
      obtain ⟨V, hV⟩ : ∃ V, (w1.alloc (.cells #[.slice none 0 0] 23)).alloc (.cells #[.int .i64 N] 3) = V := ⟨_, rfl⟩
      rw [hV] at bC bN hB2 hsz ⊢
      have hsz1 : w1.heap.size + 2 ≤ V.heap.size := by omega
      have hsz2 : V.heap.size ≤ w1.heap.size + 2 := by omega
      clear hV hB1 hsz
      have hseq := kinds_D (V.heap.size + 2) (w1.heap.size + 1) N h5 (fun B => B = w1.heap.size) V.heap.size V bN (fun B s => by omega) (by omega)
      refine range_lawY rfl rfl (fun _ => trivial) (gf := 86) (lb := #[.pointer (some ⟨w1.heap.size + 1, 0, none⟩)]) rfl (enters_of Try.func86 (by kernel_rfl) rfl)
        hseq (.inr (Nat.le_refl _)) (OwnFrom.and (ownFrom_pure _ _) (Own.from (hold_own _ _ _) _)) (fun h k => KeepD.trans h k) (fun W' o o' h hc => KeepD.putObj _ (by omega) W' o o' h hc) (Below.refl _ _) (fun _ => rfl)
        (fun pre W' => (∃ v, Boxed W' w1.heap.size 23 v ∧ OwnSep (V.heap.size + 3) W' v pre ∧ (pre.length = 0 → v = .slice none 0 0)) ∧ Below w.heap.size w W')
        (fun _ _ _ => False)
        ⟨fun s A C row ⟨⟨v, k1, k2, k4⟩, k3⟩ hgr hr => ⟨⟨v, k1.kept hgr (fun e => by have := (hr _ e.symm).1; omega), k2.kept hgr (fun r e => .inr (hr r e).2), k4⟩, k3.grown hgr k3.size (fun r e => by have := (hr r e).1; omega)⟩,
          fun s A C ⟨⟨v, k1, k2, k4⟩, k3⟩ hgr _ => ⟨⟨v, k1.kept hgr (fun e => by have e' := Option.some.inj e; omega), k2.kept hgr (fun r e => .inl (by cases e; omega)), k4⟩, k3.grown hgr k3.size (fun r e => by cases e; omega)⟩⟩
        (fun _ => ⟨fun _ _ _ _ hs _ _ => hs, fun _ _ _ hs _ _ => hs⟩)
        ⟨⟨.slice none 0 0, bC, OwnSep.nil _ _, fun _ => rfl⟩, hB2⟩ ?a1 ?assign ?body ?done ?stop
      case assign =>
        intro l2 x W' K hK
        gi_wp2
        exact hK
      case body =>
        rintro l2 pre x W' ⟨⟨v, bC', hO, hnil⟩, hB'⟩ hsp ⟨hxN, hHx⟩
        have cC := bC'.cell
        have fC := bC'.frozen
        have ltC : w1.heap.size < W'.heap.size := bC'.lt
        have hbx : V.heap.size + 2 < W'.heap.size := hHx.lt
        have hlen2 : pre.length ≤ 52 := by
          have h := hsp.length_le
          have := HN.out
          rw [List.length_append, List.length_singleton] at h
          omega
        have hIx : Ints W'.heap.size W' (some ⟨V.heap.size + 2, 0, none⟩) x := hHx.ints
        have HCl := Lib.hid (cloneRow (V.heap.size + 2) N x W'.drew hIx (by omega) (by omega))
        rw [hxN] at HCl
        obtain ⟨vs, hO1, hO2, hO3⟩ := hO
        have hvl : vs.length = pre.length := by simpa using hO1.1
        have hown3 : ∀ w4 : World, Below W'.drew.heap.size W'.drew w4 → ∀ o, (w4.alloc o).ownsRow (V.heap.size + 3) 24 1 v pre.length vs := fun w4 hB4 o => (ownsRow_below (W := W'.drew) hO1 hB4).alloc o
        have hsx : ∀ w4 : World, Below W'.drew.heap.size W'.drew w4 → ∀ o, V.heap.size + 3 ≤ (w4.alloc o).heap.size := fun w4 hB4 o => by have h := hB4.size; have h' : W'.heap.size ≤ w4.heap.size := h; rw [es]; omega
        have hfin : ∀ (w4 w6 : World) (v6 : Value) (g cap : Nat), Below W'.drew.heap.size W'.drew w4 → w4.ownsRow W'.drew.heap.size 3 1 (.slice (some ⟨g, 0, none⟩) N cap) N (x.map (Value.int .i64)) →
            ((w4.alloc (.cells #[.slice (some ⟨g, 0, none⟩) N cap] 24)).grownBy w6 none ∨ ∃ g1 cap1, v = .slice (some ⟨g1, 0, none⟩) pre.length cap1 ∧ v6 = .slice (some ⟨g1, 0, none⟩) (pre.length + 1) cap1 ∧ pre.length < cap1 ∧ (w4.alloc (.cells #[.slice (some ⟨g, 0, none⟩) N cap] 24)).grownBy w6 (some g1)) →
            w6.ownsRow (V.heap.size + 3) 24 1 v6 (pre.length + 1) (vs ++ [.slice (some ⟨g, 0, none⟩) N cap]) →
            (w6.cell? ⟨w1.heap.size, 0, none⟩ = some v) ∧ w6.frozen? ⟨w1.heap.size, 0, none⟩ = false ∧ (KeepD (fun B => B = w1.heap.size) V.heap.size V.heap.size W' (w6.setCell ⟨w1.heap.size, 0, none⟩ v6) ∧ Boxed (w6.setCell ⟨w1.heap.size, 0, none⟩ v6) w1.heap.size 23 v6 ∧
              OwnSep (V.heap.size + 3) (w6.setCell ⟨w1.heap.size, 0, none⟩ v6) v6 (pre ++ [x]) ∧ Below w.heap.size w (w6.setCell ⟨w1.heap.size, 0, none⟩ v6)) := by
          intro w4 w6 v6 g cap hB4 hown4 hgr hown6
          have hB4' : Below W'.heap.size W' w4 := ⟨hB4.os, hB4.tape, hB4.output, hB4.size, hB4.block⟩
          have hs4 : W'.heap.size ≤ w4.heap.size := hB4.size
          have hB5 : Below W'.heap.size W' (w4.alloc (.cells #[.slice (some ⟨g, 0, none⟩) N cap] 24)) := hB4'.alloc hs4 _
          have hO1' := hown3 w4 hB4 (.cells #[.slice (some ⟨g, 0, none⟩) N cap] 24)
          -- what the append has turned: at most a great slice
          have hgB : ∃ row, (w4.alloc (.cells #[.slice (some ⟨g, 0, none⟩) N cap] 24)).grownBy w6 row ∧ ∀ r, row = some r → V.heap.size + 3 ≤ r ∧ (∃ o, W'.heap[r]? = some o ∧ Great o) ∧ v.ownBlock = some r := by
            rcases hgr with h | ⟨g1, cap1, e1, _, hlt, h⟩
            · exact ⟨none, h, fun r e => by cases e⟩
            · refine ⟨some g1, h, fun r e => ?_⟩
              cases e
              rw [e1] at hO1
              by_cases hp0 : 1 ≤ pre.length
              · obtain ⟨q1, q2⟩ := great_of hO1 hp0 hlt rfl
                exact ⟨q1, q2, by rw [e1]; rfl⟩
              · exact absurd (hnil (by omega)) (by rw [e1]; exact fun h => by cases h)
          obtain ⟨row, hg6, hrow⟩ := hgB
          have hne : ∀ (k : Nat) (o : Obj), W'.heap[k]? = some o → (k < V.heap.size ∨ ¬ Great o) → w6.heap[k]? = some o := fun k o hk hor => by
            have hkl := (Array.getElem?_eq_some_iff.1 hk).1
            refine (hg6.block k (Nat.lt_of_lt_of_le hkl hB5.size) (fun e => ?_)).trans ((hB5.block k hkl).trans hk)
            obtain ⟨q1, ⟨o', ho', hgr'⟩, _⟩ := hrow k e.symm
            rw [hk] at ho'; cases ho'
            rcases hor with h | h
            · omega
            · exact h hgr'
          have ngBox : ∀ u, ¬ Great (.cells #[u] 23) := fun u ⟨cs, fr, e, h2⟩ => by injection e with e1 e2; subst e1; simp at h2
          have bC6 : Boxed w6 w1.heap.size 23 v := hne _ _ bC' (.inr (ngBox v))
          have hB6 : Below w.heap.size w w6 := (hB'.trans (hB5.mono hB'.size)).grown hg6 (Nat.le_trans hB'.size hB5.size) (fun r e => by have := (hrow r e).1; omega)
          refine ⟨bC6.cell, bC6.frozen, ⟨?_, fun B o hS hB hc hgt => ?_⟩, ?_, ?_, ?_⟩
          · have := hg6.size; have := hB5.size; simp; omega
          · exact (Below.heap_setCell w6 ⟨w1.heap.size, 0, none⟩ v6 B (fun e => hS e)).trans (hne B o hB hgt)
          · exact bC6.set v6
          · refine OwnSep.set ⟨vs ++ [.slice (some ⟨g, 0, none⟩) N cap], by rw [List.length_append, List.length_singleton]; exact hown6, ?_, ?_⟩ (by omega) 0 v6
            · intro i u xs hu hxs
              by_cases hi : i < vs.length
              · rw [List.getElem?_append_left hi] at hu
                rw [List.getElem?_append_left (by omega)] at hxs
                have h2 := (ownsRow_below (W := W'.drew) (hO2 i u xs hu hxs) hB4).alloc (.cells #[.slice (some ⟨g, 0, none⟩) N cap] 24)
                refine h2.kept hg6 ?_
                cases hrr : row with
                | none => cases u.ownBlock <;> simp
                | some r =>
                  obtain ⟨_, _, q3⟩ := hrow r hrr
                  have := own_ne_own hO1' h2
                  rw [q3] at this
                  exact this
              · rw [List.getElem?_append_right (by omega)] at hu hxs
                have e1 : i - vs.length = 0 := by have := (List.getElem?_eq_some_iff.1 hu).1; simp at this; omega
                rw [e1] at hu; rw [show i - pre.length = 0 by omega] at hxs
                simp at hu hxs
                subst hu; subst hxs
                have h2 := hown4.alloc (.cells #[.slice (some ⟨g, 0, none⟩) N cap] 24)
                rw [hxN]
                have h3 : (w4.alloc (.cells #[.slice (some ⟨g, 0, none⟩) N cap] 24)).ownsRow (V.heap.size + 3) 3 1 (.slice (some ⟨g, 0, none⟩) N cap) N (x.map (Value.int .i64)) := Joins.ownsRow_le h2 (by show V.heap.size + 3 ≤ W'.heap.size; omega)
                refine h3.kept hg6 ?_
                cases hrr : row with
                | none => simp [Value.ownBlock]
                | some r =>
                  obtain ⟨_, _, q3⟩ := hrow r hrr
                  have := own_ne_own hO1' h3
                  rw [q3] at this
                  exact this
            · refine hO3.snoc fun y hy g' hg' e => ?_
              obtain ⟨i, hi, hiy⟩ := List.mem_iff_getElem.1 hy
              have hpi : i < pre.length := by omega
              have h1 := (hO2 i y (pre[i]'hpi) (by rw [List.getElem?_eq_getElem hi, hiy]) (List.getElem?_eq_getElem hpi)).lt g' hg'
              have h2 := hown4.lt g' e
              have h3 : W'.heap.size ≤ g' := h2.1
              omega
          · exact hB6.setCell (p := ⟨w1.heap.size, 0, none⟩) hws _
        clear hsp hseq hIx hHx hO1 hO2 hO3 bC' bC bN hvl hnil
        gi_wp2
        refine wpIn_region_any (by kernel_rfl) (wpAnyIn_of (by kernel_rfl) (fun ⟨_, _, h⟩ => h) _ _ _ _ ?_)
        change wpAny _ _ _ _ _ _ _ (World.drew _)
        refine wpAny_take (i := 1) (v := ?_) rfl (by kernel_rfl) (by kernel_rfl) (by kernel_rfl) (fun _ _ _ h => h) (Or.inl ⟨by rfl, ?_⟩) ?_
        case refine_2 => intro w; go_simp; rfl
        refine wpAny_ready (rs := [0, 2]) (by kernel_rfl) (by simp) ?_
        refine AllReady.cons rfl (fun K hK => ?_) ?_
        · go_simp
          refine hK _ _ ?_
          clear hK K
          refine wpAny_ready (rs := [2]) (by kernel_rfl) (by simp) ?_
          refine AllReady.cons rfl (fun K hK => ?_) AllReady.nil
          go_simp
          refine HCl.out.mono ?_
          rintro e w4 ⟨g, cap, rfl, hB4, hown4⟩
          have hc4 : w4.cell? ⟨w1.heap.size, 0, none⟩ = some v := (hB4.cell (p := ⟨w1.heap.size, 0, none⟩) ltC).trans cC
          have hc5 : (w4.alloc (.cells #[.slice (some ⟨g, 0, none⟩) N cap] 24)).cell? ⟨w1.heap.size, 0, none⟩ = some v := (World.cell?_alloc_lt w4 _ ⟨w1.heap.size, 0, none⟩ (Nat.lt_of_lt_of_le ltC hB4.size)).trans hc4
          obtain ⟨v6, w6, hrun, hown6, hgr6⟩ := run_append_D (P := Try.prog) (w4.alloc (.cells #[.slice (some ⟨g, 0, none⟩) N cap] 24)) (V.heap.size + 3) 23 23 24 i0 (.slice none 0 0) 24 Try.underlying23 hi hz0 hz1 hz2 rfl v pre.length vs (hown3 w4 hB4 _) (hsx w4 hB4 _) ⟨w4.heap.size, 0, none⟩ (.slice (some ⟨g, 0, none⟩) N cap) (cell_one_new _ _ _) rfl (by unfold maxLen; omega) (by omega)
          obtain ⟨a6, c6, rfl⟩ := own_form hown6
          have hF6 := hfin w4 w6 _ g cap hB4 hown4 hgr6 hown6
          have hc6 := hF6.1
          have hf6 := hF6.2.1
          have HF6 := Lib.hid hF6.2.2
          clear hF6 hown6 hgr6 hown4 hB4
          refine hK _ _ ?_
          clear hK K
          refine wpAny_ready (rs := [3]) (by kernel_rfl) (by simp) ?_
          refine AllReady.cons rfl (fun K hK => ?_) AllReady.nil
          go_simp
          refine hK _ _ ?_
          clear hK K
          refine appendAny (k := 4) (by kernel_rfl) rfl rfl rfl rfl rfl hrun ?_
          refine wpAny_ready (rs := [5]) (by kernel_rfl) (by simp) ?_
          refine AllReady.cons rfl (fun K hK => ?_) AllReady.nil
          go_simp
          refine hK _ _ ?_
          clear hK K
          refine wpAny_done (by kernel_rfl) ?_ _
          gi_wp2
          have hK6 := HF6.out
          exact ⟨KeepD.from hK6.1 (fun B hB => by omega) (Nat.le_refl _), KeepD.more hK6.1 (by omega), ⟨_, hK6.2.1, hK6.2.2.1, fun h => by simp at h⟩, hK6.2.2.2⟩
        · refine AllReady.cons rfl (fun K hK => ?_) AllReady.nil
          go_simp
          refine HCl.out.mono ?_
          rintro e w4 ⟨g, cap, rfl, hB4, hown4⟩
          have hc4 : w4.cell? ⟨w1.heap.size, 0, none⟩ = some v := (hB4.cell (p := ⟨w1.heap.size, 0, none⟩) ltC).trans cC
          have hc5 : (w4.alloc (.cells #[.slice (some ⟨g, 0, none⟩) N cap] 24)).cell? ⟨w1.heap.size, 0, none⟩ = some v := (World.cell?_alloc_lt w4 _ ⟨w1.heap.size, 0, none⟩ (Nat.lt_of_lt_of_le ltC hB4.size)).trans hc4
          obtain ⟨v6, w6, hrun, hown6, hgr6⟩ := run_append_D (P := Try.prog) (w4.alloc (.cells #[.slice (some ⟨g, 0, none⟩) N cap] 24)) (V.heap.size + 3) 23 23 24 i0 (.slice none 0 0) 24 Try.underlying23 hi hz0 hz1 hz2 rfl v pre.length vs (hown3 w4 hB4 _) (hsx w4 hB4 _) ⟨w4.heap.size, 0, none⟩ (.slice (some ⟨g, 0, none⟩) N cap) (cell_one_new _ _ _) rfl (by unfold maxLen; omega) (by omega)
          obtain ⟨a6, c6, rfl⟩ := own_form hown6
          have hF6 := hfin w4 w6 _ g cap hB4 hown4 hgr6 hown6
          have hc6 := hF6.1
          have hf6 := hF6.2.1
          have HF6 := Lib.hid hF6.2.2
          clear hF6 hown6 hgr6 hown4 hB4
          refine hK _ _ ?_
          clear hK K
          refine wpAny_ready (rs := [0, 3]) (by kernel_rfl) (by simp) ?_
          refine AllReady.cons rfl (fun K hK => ?_) ?_
          · go_simp
            refine hK _ _ ?_
            clear hK K
            refine wpAny_ready (rs := [3]) (by kernel_rfl) (by simp) ?_
            refine AllReady.cons rfl (fun K hK => ?_) AllReady.nil
            go_simp
            refine hK _ _ ?_
            clear hK K
            refine appendAny (k := 4) (by kernel_rfl) rfl rfl rfl rfl rfl hrun ?_
            refine wpAny_ready (rs := [5]) (by kernel_rfl) (by simp) ?_
            refine AllReady.cons rfl (fun K hK => ?_) AllReady.nil
            go_simp
            refine hK _ _ ?_
            clear hK K
            refine wpAny_done (by kernel_rfl) ?_ _
            gi_wp2
            have hK6 := HF6.out
            exact ⟨KeepD.from hK6.1 (fun B hB => by omega) (Nat.le_refl _), KeepD.more hK6.1 (by omega), ⟨_, hK6.2.1, hK6.2.2.1, fun h => by simp at h⟩, hK6.2.2.2⟩
          · refine AllReady.cons rfl (fun K hK => ?_) AllReady.nil
            go_simp
            refine hK _ _ ?_
            clear hK K
            refine wpAny_ready (rs := [0]) (by kernel_rfl) (by simp) ?_
            refine AllReady.cons rfl (fun K hK => ?_) AllReady.nil
            go_simp
            refine hK _ _ ?_
            clear hK K
            refine appendAny (k := 4) (by kernel_rfl) rfl rfl rfl rfl rfl hrun ?_
            refine wpAny_ready (rs := [5]) (by kernel_rfl) (by simp) ?_
            refine AllReady.cons rfl (fun K hK => ?_) AllReady.nil
            go_simp
            refine hK _ _ ?_
            clear hK K
            refine wpAny_done (by kernel_rfl) ?_ _
            gi_wp2
            have hK6 := HF6.out
            exact ⟨KeepD.from hK6.1 (fun B hB => by omega) (Nat.le_refl _), KeepD.more hK6.1 (by omega), ⟨_, hK6.2.1, hK6.2.2.1, fun h => by simp at h⟩, hK6.2.2.2⟩
      case done =>
        rintro D ys W' hD rfl ⟨⟨v, bC', hO, _⟩, hB'⟩ hK
        have cC := bC'.cell
        clear hseq
        gi_wp2
        refine ⟨by simp, .inl ⟨_, _, rfl, run_takeDeferred hK, ?_⟩⟩
        obtain ⟨av, cv, rfl⟩ := (let ⟨_, ho, _⟩ := hO; own_form ho)
        refine ⟨_, results_tmp rfl _ _ _, av, cv, ⟨?_, hB'.trans (belowK_b (w := w) (Nat.le_refl _) W' D _ _ (by omega) hK rfl rfl)⟩, ?_⟩
        · rw [HZ2.out]; rfl
        · rw [HZ2.out]
          exact (hO.kept (grownBy_putObj' W' D _) (fun r e => .inr ⟨_, by cases e; exact hK, rfl⟩)).mono (by omega)
      case stop =>
        rintro D c' pre W' _ _ hx _
        exact hx.elim
    · have h6 : ¬ g5 G = true := fun h => h5 (g5_iff.1 h).2
      have HZ2 : Hid (zs = []) := Lib.hid (by rw [← HZ.out, allK_no (by simpa using h6)])
      obtain ⟨N, hGN⟩ : ∃ N, G.length = N := ⟨_, rfl⟩
      rw [hGN] at HOk h5 hl ⊢
      clear hOk hg hGN hM hF HZ h6
      refine callsIn_of_wp_marks Try.func23 rfl trivial ?_ rfl
      simp only [Try.ntmps23, List.size_toArray, List.length_cons, List.length_nil, Nat.reduceAdd, Nat.reduceSub, Array.replicate_succ, Array.replicate_zero, List.push_toArray, List.append_toArray, List.nil_append, List.cons_append]
      gi_wp2_with ((try refine ⟨hdd _, ?_⟩); gi_at_call 57; refine (callsIn_wide.2 HOk.out).mono ?_; rintro e w1 ⟨rfl, hB1⟩)
      refine ⟨_, results_tmp rfl _ _ _, ?_⟩
      rw [HZ2.out]
      exact ⟨none, 0, ⟨rfl, hB1⟩, OwnSep.nil _ _⟩
  · have hg' : gOk G = false := by simpa using hg
    rw [hg'] at hOk
    have HOk := Lib.hid hOk
    have HZ2 : Hid (zs = []) := Lib.hid (by rw [← HZ.out, allK_no (by unfold g5; rw [hg']; rfl)])
    clear hOk hg hM hF hg' HZ
    refine callsIn_of_wp_marks Try.func23 rfl trivial ?_ rfl
    simp only [Try.ntmps23, List.size_toArray, List.length_cons, List.length_nil, Nat.reduceAdd, Nat.reduceSub, Array.replicate_succ, Array.replicate_zero, List.push_toArray, List.append_toArray, List.nil_append, List.cons_append]
    gi_wp2_with ((try refine ⟨hdd _, ?_⟩); gi_at_call 57; refine (callsIn_wide.2 HOk.out).mono ?_; rintro e w1 ⟨rfl, hB1⟩)
    refine ⟨_, results_tmp rfl _ _ _, ?_⟩
    rw [HZ2.out]
    exact ⟨none, 0, ⟨rfl, hB1⟩, OwnSep.nil _ _⟩

end Go.Proofs.Ytdolpkjighbohaa

namespace Go.Proofs.Ytdolpkjighbohaa
open Go.RowKit Go.Shelf Go.Deep

attribute [local go_sem] Oper.semAt_some

theorem kArw_any (G : List (List Int)) (ks : List Int) (s t : Nat) : kArw G ks s t = (AL G).any fun x => nd ks x.1.1 == s && nd ks x.2.1 == t := by
  rw [Bool.eq_iff_iff, kArw_iff, List.any_eq_true]
  constructor
  · rintro ⟨i, hi, j, hj, h1, h2, h3⟩
    exact ⟨(⟨i, hi⟩, ⟨j, hj⟩), List.mem_filter.2 ⟨PL_all _, h1⟩, by simp [h2, h3]⟩
  · rintro ⟨x, hx, h⟩
    simp only [Bool.and_eq_true, beq_iff_eq] at h
    exact ⟨x.1.1, x.1.2, x.2.1, x.2.2, (List.mem_filter.1 hx).2, h.1, h.2⟩

set_option maxRecDepth 100000 in
set_option maxHeartbeats 4000000 in
theorem joins_in (n₀ m : Nat) (a a' : Option Addr) (c c' : Nat) (G : List (List Int)) (ks : List Int) (s t : Nat) (w : World) (hM : Mat n₀ w a G) (hI : Ints n₀ w a' ks) (hn : n₀ ≤ w.heap.size) (hG : Good G) (hT : Tells G.length m ks) :
    CallsIn Fence.wide 20 Try.prog 67 #[.agg #[.slice a G.length c], .slice a' ks.length c', .int .i64 (s : Int), .int .i64 (t : Int)] w (Ans (.bool (kArw G ks s t)) w) := by
  have hdd : ∀ k : Nat, (Fence.wide.depth.isSome = true → 1 ≤ k) := fun k h => by cases h
  have hl9 := hG.2.1
  have hkl : ks.length ≤ 9 := by rw [hT.1]; exact hl9
  have HKL := Lib.hid hT.1
  have h5 : Fence.wide.fn 70 := trivial
  have HT := Lib.hid hT
  have HG := Lib.hid hG
  obtain ⟨z, HZ⟩ : ∃ z, Hid (kArw G ks s t = z) := ⟨_, rfl⟩
  rw [HZ.out]
  clear hT hG
  have es : ∀ (W : World) (o : Obj), (W.alloc o).heap.size = W.heap.size + 1 := fun W o => by simp
  refine callsIn_of_wp_marks Try.func67 rfl trivial ?_ rfl
  simp only [Try.ntmps67, List.size_toArray, List.length_cons, List.length_nil, Nat.reduceAdd, Nat.reduceSub, Array.replicate_succ, Array.replicate_zero, List.push_toArray, List.append_toArray, List.nil_append, List.cons_append]
  gi_wp2_with (((try refine ⟨hdd _, ?_⟩); gi_at_call 70; refine (arrows_in Fence.wide _ (fun _ => trivial) rfl _ _ _ _).mono ?_; rintro e w' ⟨rfl, rfl⟩))
  have bK := ((((Boxed.new (w.alloc (.cells #[.slice a G.length c] 58)) 24 (.slice a' ks.length c')).alloc (.cells #[.int .i64 s] 3)).alloc (.cells #[.int .i64 t] 3)).alloc (.cells #[.bool false] 4)).alloc (.cells #[.slice a G.length c] 58)
  have bS := (((Boxed.new ((w.alloc (.cells #[.slice a G.length c] 58)).alloc (.cells #[.slice a' ks.length c'] 24)) 3 (.int .i64 s)).alloc (.cells #[.int .i64 t] 3)).alloc (.cells #[.bool false] 4)).alloc (.cells #[.slice a G.length c] 58)
  have bT := ((Boxed.new (((w.alloc (.cells #[.slice a G.length c] 58)).alloc (.cells #[.slice a' ks.length c'] 24)).alloc (.cells #[.int .i64 s] 3)) 3 (.int .i64 t)).alloc (.cells #[.bool false] 4)).alloc (.cells #[.slice a G.length c] 58)
  have bR := (Boxed.new ((((w.alloc (.cells #[.slice a G.length c] 58)).alloc (.cells #[.slice a' ks.length c'] 24)).alloc (.cells #[.int .i64 s] 3)).alloc (.cells #[.int .i64 t] 3)) 4 (.bool false)).alloc (.cells #[.slice a G.length c] 58)
  have bG := Boxed.new (((((w.alloc (.cells #[.slice a G.length c] 58)).alloc (.cells #[.slice a' ks.length c'] 24)).alloc (.cells #[.int .i64 s] 3)).alloc (.cells #[.int .i64 t] 3)).alloc (.cells #[.bool false] 4)) 58 (.slice a G.length c)
  have hB := (((((((Below.refl w.heap.size w).alloc (Nat.le_refl _) (.cells #[.slice a G.length c] 58)).alloc (by simp) (.cells #[.slice a' ks.length c'] 24)).alloc (by simp; omega) (.cells #[.int .i64 s] 3)).alloc (by simp; omega) (.cells #[.int .i64 t] 3)).alloc (by simp; omega) (.cells #[.bool false] 4)).alloc (by simp; omega) (.cells #[.slice a G.length c] 58))
  rw [es] at bK
  rw [es, es] at bS
  rw [es, es, es] at bT
  rw [es, es, es, es] at bR
  rw [es, es, es, es, es] at bG
  have hsz : ((((((w.alloc (.cells #[.slice a G.length c] 58)).alloc (.cells #[.slice a' ks.length c'] 24)).alloc (.cells #[.int .i64 s] 3)).alloc (.cells #[.int .i64 t] 3)).alloc (.cells #[.bool false] 4)).alloc (.cells #[.slice a G.length c] 58)).heap.size = w.heap.size + 6 := by simp
  obtain ⟨V, hV⟩ : ∃ V, ((((((w.alloc (.cells #[.slice a G.length c] 58)).alloc (.cells #[.slice a' ks.length c'] 24)).alloc (.cells #[.int .i64 s] 3)).alloc (.cells #[.int .i64 t] 3)).alloc (.cells #[.bool false] 4)).alloc (.cells #[.slice a G.length c] 58)) = V := ⟨_, rfl⟩
  rw [hV] at bK bS bT bR bG hB hsz ⊢
  clear hV
  have hMV := hM.below (hB.mono hn)
  have hsz1 : w.heap.size + 6 ≤ V.heap.size := by omega
  have hsz2 : V.heap.size ≤ w.heap.size + 6 := by omega
  clear hsz
  refine range_law rfl rfl (fun _ => trivial) (gf := 92) (lb := #[.pointer (some ⟨w.heap.size + 1 + 1 + 1 + 1 + 1, 0, none⟩)]) rfl (enters_of Try.func92 (by kernel_rfl) rfl)
    (arrows_X Fence.wide rfl (fun _ => trivial) rfl (w.heap.size + 1 + 1 + 1 + 1 + 1) n₀ a c G HG.out (fun B => B = w.heap.size + 1 + 1 + 1 + 1) (V.heap.size + 2) V (by omega) (by omega) (fun B s => by omega) (fun B s => by omega) (by omega) bG hMV) (fun h k => KeepC.trans h k) (fun W' o o' h hc => KeepC.putObj _ (by omega) W' o o' h hc) (Below.refl _ _) (fun _ => rfl)
    (fun pre W' => ((((Boxed W' (w.heap.size + 1) 24 (.slice a' ks.length c') ∧ Boxed W' (w.heap.size + 1 + 1) 3 (.int .i64 s)) ∧ Boxed W' (w.heap.size + 1 + 1 + 1) 3 (.int .i64 t)) ∧ Boxed W' (w.heap.size + 1 + 1 + 1 + 1) 4 (.bool false)) ∧ Hid (∀ x ∈ pre, (nd ks x.1.1 == s && nd ks x.2.1 == t) = false)) ∧ Below w.heap.size w W')
    (fun c' pre W' => ((c' = .ret ∧ Hid (∃ x ∈ pre, (nd ks x.1.1 == s && nd ks x.2.1 == t) = true)) ∧ Boxed W' (w.heap.size + 1 + 1 + 1 + 1) 4 (.bool true)) ∧ Below w.heap.size w W')
    (OwnFrom.and (OwnFrom.and (OwnFrom.and (OwnFrom.and (OwnFrom.and (Own.from (boxed_own _ _ _) _) (Own.from (boxed_own _ _ _) _)) (Own.from (boxed_own _ _ _) _)) (Own.from (boxed_own _ _ _) _)) (ownFrom_pure _ _)) (ownFrom_below (Nat.le_refl _) (by omega)))
    (fun c' => OwnFrom.and (OwnFrom.and (ownFrom_pure _ _) (Own.from (boxed_own _ _ _) _)) (ownFrom_below (Nat.le_refl _) (by omega)))
    ⟨⟨⟨⟨⟨bK, bS⟩, bT⟩, bR⟩, fun x hx => absurd hx (by simp)⟩, hB⟩ ?a1 ?assign ?body ?done ?stop
  case assign =>
    intro l2 x W' K hK
    gi_wp2
    exact hK
  case body =>
    rintro l2 pre ⟨⟨i, hi⟩, ⟨j, hj⟩⟩ W' ⟨⟨⟨⟨⟨bK', bS'⟩, bT'⟩, bR'⟩, HP⟩, hB'⟩ _
    clear bK bS bT bR bG hB hMV hM
    have hws := hB'.size
    have cR := bR'.cell
    have fR := bR'.frozen
    obtain ⟨p, hp, enp, hpH⟩ := tells_at HT.out hi
    obtain ⟨q, hq, enq, hqH⟩ := tells_at HT.out hj
    have hI' := hI.below (hB'.mono hn)
    obtain ⟨b, o, y, rfl, hb, hc0, HY⟩ := hI'.at_ (k := i) (by have := HKL.out; omega)
    obtain ⟨b2, o2, y2, e2, hb2, hc2, HY2⟩ := hI'.at_ (k := j) (by have := HKL.out; omega)
    cases e2
    have ey : y = (p : Int) := by have := HY.out; rw [hp] at this; cases this; rfl
    have ey2 : y2 = (q : Int) := by have := HY2.out; rw [hq] at this; cases this; rfl
    subst ey ey2
    have hif : i < ks.length := by have := HKL.out; omega
    have hjf : j < ks.length := by have := HKL.out; omega
    have HA := Lib.hid enp
    have HA2 := Lib.hid enq
    have hS0 : W'.drew.cell? ⟨w.heap.size + 1, 0, none⟩ = some (.slice (some ⟨b, o, none⟩) ks.length c') ∧ W'.drew.cell? ⟨w.heap.size + 1 + 1, 0, none⟩ = some (.int .i64 s) ∧ W'.drew.cell? ⟨w.heap.size + 1 + 1 + 1, 0, none⟩ = some (.int .i64 t) ∧ W'.drew.cell? ⟨b, o + i, none⟩ = some (.int .i64 p) ∧ W'.drew.cell? ⟨b, o + j, none⟩ = some (.int .i64 q) := ⟨bK'.cell, bS'.cell, bT'.cell, hc0, hc2⟩
    have hkf : KeepsFrom V.heap.size W' W'.drew := ⟨Nat.le_refl _, fun _ _ _ h _ => h⟩
    have hkc : KeepC (fun B => B = w.heap.size + 1 + 1 + 1 + 1) (V.heap.size + 2) W' W'.drew := KeepC.drew _ _ _
    clear hp hq enp enq HY HY2 hI' hc0 hc2
    gi_wp2_with fail
    refine wpIn_region_any (by kernel_rfl) (wpAnyIn_of (by kernel_rfl) (fun ⟨_, _, h⟩ => h) _ _ _ _ (wpAny_of_held (S := fun X => X.cell? ⟨w.heap.size + 1, 0, none⟩ = some (.slice (some ⟨b, o, none⟩) ks.length c') ∧ X.cell? ⟨w.heap.size + 1 + 1, 0, none⟩ = some (.int .i64 s) ∧ X.cell? ⟨w.heap.size + 1 + 1 + 1, 0, none⟩ = some (.int .i64 t) ∧ X.cell? ⟨b, o + i, none⟩ = some (.int .i64 p) ∧ X.cell? ⟨b, o + j, none⟩ = some (.int .i64 q)) _ _ _ _ ?_))
    change wpAnyH _ _ _ _ _ _ _ _ (World.drew _)
    by_cases h1 : p = s
    · have hb1 : ((p : Int) == (s : Int)) = true := by simp; omega
      by_cases h2 : q = t
      · have hb2 : ((q : Int) == (t : Int)) = true := by simp; omega
        have HN : Hid (∃ x ∈ pre ++ [((⟨i, hi⟩ : Fin G.length), (⟨j, hj⟩ : Fin G.length))], (nd ks x.1.1 == s && nd ks x.2.1 == t) = true) := ⟨(⟨i, hi⟩, ⟨j, hj⟩), by simp, by rw [HA.out, HA2.out]; simp [h1, h2]⟩
        clear h1 h2
        refine wpAnyH_take (i := 0) (v := ?_) rfl (by kernel_rfl) (by kernel_rfl) (by kernel_rfl) (fun _ _ _ h => h) (Or.inl ⟨by rfl, ?_⟩) hS0 ?_
        case refine_2 => rintro w ⟨s1, s2, s3, s4, s5⟩; first | (go_simp; rfl) | go_simp
        simp only [Act.put, List.getElem_toArray, List.getElem_cons_zero, List.setIfInBounds_toArray, List.set_cons_zero, List.set_cons_succ]
        refine wpAnyH_take (i := 1) (v := ?_) rfl (by kernel_rfl) (by kernel_rfl) (by kernel_rfl) (fun _ _ _ h => h) (Or.inl ⟨by rfl, ?_⟩) hS0 ?_
        case refine_2 => rintro w ⟨s1, s2, s3, s4, s5⟩; first | (go_simp; rfl) | go_simp
        simp only [Act.put, List.getElem_toArray, List.getElem_cons_succ, List.getElem_cons_zero, List.setIfInBounds_toArray, List.set_cons_zero, List.set_cons_succ]
        refine wpAnyH_take (i := 2) (v := ?_) rfl (by kernel_rfl) (by kernel_rfl) (by kernel_rfl) (fun _ _ _ h => h) (Or.inl ⟨by rfl, ?_⟩) hS0 ?_
        case refine_2 => rintro w ⟨s1, s2, s3, s4, s5⟩; first | (go_simp; rfl) | go_simp
        simp only [Act.put, List.getElem_toArray, List.getElem_cons_succ, List.getElem_cons_zero, List.setIfInBounds_toArray, List.set_cons_zero, List.set_cons_succ]
        refine wpAnyH_take (i := 3) (v := ?_) rfl (by kernel_rfl) (by kernel_rfl) (by kernel_rfl) (fun _ _ _ h => h) (Or.inl ⟨by rfl, ?_⟩) hS0 ?_
        case refine_2 => rintro w ⟨s1, s2, s3, s4, s5⟩; first | (go_simp; rfl) | go_simp
        simp only [Act.put, List.getElem_toArray, List.getElem_cons_succ, List.getElem_cons_zero, List.setIfInBounds_toArray, List.set_cons_zero, List.set_cons_succ]
        refine wpAnyH_take (i := 4) (v := ?_) rfl (by kernel_rfl) (by kernel_rfl) (by kernel_rfl) (fun _ _ _ h => h) (Or.inl ⟨by rfl, ?_⟩) hS0 ?_
        case refine_2 => rintro w ⟨s1, s2, s3, s4, s5⟩; first | (go_simp; rfl) | go_simp
        simp only [Act.put, List.getElem_toArray, List.getElem_cons_succ, List.getElem_cons_zero, List.setIfInBounds_toArray, List.set_cons_zero, List.set_cons_succ]
        refine wpAnyH_take (i := 5) (v := ?_) rfl (by kernel_rfl) (by kernel_rfl) (by kernel_rfl) (fun _ _ _ h => h) (Or.inl ⟨by rfl, ?_⟩) hS0 ?_
        case refine_2 => rintro w ⟨s1, s2, s3, s4, s5⟩; first | (go_simp; rfl) | go_simp
        simp only [Act.put, List.getElem_toArray, List.getElem_cons_succ, List.getElem_cons_zero, List.setIfInBounds_toArray, List.set_cons_zero, List.set_cons_succ]
        refine wpAnyH_take (i := 6) (v := ?_) rfl (by kernel_rfl) (by kernel_rfl) (by kernel_rfl) (fun _ _ _ h => h) (Or.inl ⟨by rfl, ?_⟩) hS0 ?_
        case refine_2 => rintro w ⟨s1, s2, s3, s4, s5⟩; first | (go_simp; rfl) | go_simp
        simp only [Act.put, List.getElem_toArray, List.getElem_cons_succ, List.getElem_cons_zero, List.setIfInBounds_toArray, List.set_cons_zero, List.set_cons_succ]
        refine wpAnyH_take (i := 7) (v := ?_) rfl (by kernel_rfl) (by kernel_rfl) (by kernel_rfl) (fun _ _ _ h => h) (Or.inl ⟨by rfl, ?_⟩) hS0 ?_
        case refine_2 => rintro w ⟨s1, s2, s3, s4, s5⟩; first | (go_simp; rfl) | go_simp
        simp only [Act.put, List.getElem_toArray, List.getElem_cons_succ, List.getElem_cons_zero, List.setIfInBounds_toArray, List.set_cons_zero, List.set_cons_succ]
        refine wpAnyH_take (i := 8) (v := ?_) rfl (by kernel_rfl) (by kernel_rfl) (by kernel_rfl) (fun _ _ _ h => h) (Or.inl ⟨by rfl, ?_⟩) hS0 ?_
        case refine_2 => rintro w ⟨s1, s2, s3, s4, s5⟩; first | (go_simp; rfl) | go_simp
        simp only [Act.put, List.getElem_toArray, List.getElem_cons_succ, List.getElem_cons_zero, List.setIfInBounds_toArray, List.set_cons_zero, List.set_cons_succ]
        refine wpAnyH_take (i := 9) (v := ?_) rfl (by kernel_rfl) (by kernel_rfl) (by kernel_rfl) (fun _ _ _ h => h) (Or.inl ⟨by rfl, ?_⟩) hS0 ?_
        case refine_2 => rintro w ⟨s1, s2, s3, s4, s5⟩; first | (go_simp; rfl) | go_simp
        simp only [Act.put, List.getElem_toArray, List.getElem_cons_succ, List.getElem_cons_zero, List.setIfInBounds_toArray, List.set_cons_zero, List.set_cons_succ]
        refine wpAnyH_take (i := 10) (v := ?_) rfl (by kernel_rfl) (by kernel_rfl) (by kernel_rfl) (fun _ _ _ h => h) (Or.inl ⟨by rfl, ?_⟩) hS0 ?_
        case refine_2 => rintro w ⟨s1, s2, s3, s4, s5⟩; first | (go_simp; rfl) | go_simp
        simp only [Act.put, List.getElem_toArray, List.getElem_cons_succ, List.getElem_cons_zero, List.setIfInBounds_toArray, List.set_cons_zero, List.set_cons_succ]
        refine wpAnyH_take (i := 11) (v := ?_) rfl (by kernel_rfl) (by kernel_rfl) (by kernel_rfl) (fun _ _ _ h => h) (Or.inl ⟨by rfl, ?_⟩) hS0 ?_
        case refine_2 => rintro w ⟨s1, s2, s3, s4, s5⟩; first | (go_simp; rfl) | go_simp
        simp only [Act.put, List.getElem_toArray, List.getElem_cons_succ, List.getElem_cons_zero, List.setIfInBounds_toArray, List.set_cons_zero, List.set_cons_succ]
        refine wpAnyH_take (i := 12) (v := ?_) rfl (by kernel_rfl) (by kernel_rfl) (by kernel_rfl) (fun _ _ _ h => h) (Or.inl ⟨by rfl, ?_⟩) hS0 ?_
        case refine_2 => rintro w ⟨s1, s2, s3, s4, s5⟩; first | (go_simp; rfl) | go_simp
        simp only [Act.put, List.getElem_toArray, List.getElem_cons_succ, List.getElem_cons_zero, List.setIfInBounds_toArray, List.set_cons_zero, List.set_cons_succ]
        refine wpAnyH_take (i := 13) (v := ?_) rfl (by kernel_rfl) (by kernel_rfl) (by kernel_rfl) (fun _ _ _ h => h) (Or.inl ⟨by rfl, ?_⟩) hS0 ?_
        case refine_2 => rintro w ⟨s1, s2, s3, s4, s5⟩; first | (go_simp; rfl) | go_simp
        simp only [Act.put, List.getElem_toArray, List.getElem_cons_succ, List.getElem_cons_zero, List.setIfInBounds_toArray, List.set_cons_zero, List.set_cons_succ]
        refine wpAnyH_done (by kernel_rfl) ?_ _
        obtain ⟨U, hU⟩ : ∃ U, World.drew W' = U := ⟨_, rfl⟩
        have bR2 : Boxed U (w.heap.size + 1 + 1 + 1 + 1) 4 (.bool false) := by rw [← hU]; exact bR'
        have hBX : Below w.heap.size w U := by rw [← hU]; exact hB'.drew
        rw [hU] at hkf hkc ⊢
        clear hU cR fR
        have cR := bR2.cell
        have fR := bR2.frozen
        gi_wp2
        exact ⟨hkf.trans ((KeepsOthers.setCell _ _ _).from _), ⟨⟨rfl, HN⟩, bR2.set _⟩, hBX.setCell (p := ⟨w.heap.size + 1 + 1 + 1 + 1, 0, none⟩) (by simp; omega) _⟩
      · have hb2 : ((q : Int) == (t : Int)) = false := by simp; omega
        have HP' : Hid (∀ x ∈ pre ++ [((⟨i, hi⟩ : Fin G.length), (⟨j, hj⟩ : Fin G.length))], (nd ks x.1.1 == s && nd ks x.2.1 == t) = false) := fun x hx => by
          rcases List.mem_append.1 hx with h | h
          · exact HP.out x h
          · simp only [List.mem_singleton] at h; subst h; rw [HA.out, HA2.out]; simp [h2]
        clear h1 h2
        refine wpAnyH_take (i := 0) (v := ?_) rfl (by kernel_rfl) (by kernel_rfl) (by kernel_rfl) (fun _ _ _ h => h) (Or.inl ⟨by rfl, ?_⟩) hS0 ?_
        case refine_2 => rintro w ⟨s1, s2, s3, s4, s5⟩; first | (go_simp; rfl) | go_simp
        simp only [Act.put, List.getElem_toArray, List.getElem_cons_zero, List.setIfInBounds_toArray, List.set_cons_zero, List.set_cons_succ]
        refine wpAnyH_take (i := 1) (v := ?_) rfl (by kernel_rfl) (by kernel_rfl) (by kernel_rfl) (fun _ _ _ h => h) (Or.inl ⟨by rfl, ?_⟩) hS0 ?_
        case refine_2 => rintro w ⟨s1, s2, s3, s4, s5⟩; first | (go_simp; rfl) | go_simp
        simp only [Act.put, List.getElem_toArray, List.getElem_cons_succ, List.getElem_cons_zero, List.setIfInBounds_toArray, List.set_cons_zero, List.set_cons_succ]
        refine wpAnyH_take (i := 2) (v := ?_) rfl (by kernel_rfl) (by kernel_rfl) (by kernel_rfl) (fun _ _ _ h => h) (Or.inl ⟨by rfl, ?_⟩) hS0 ?_
        case refine_2 => rintro w ⟨s1, s2, s3, s4, s5⟩; first | (go_simp; rfl) | go_simp
        simp only [Act.put, List.getElem_toArray, List.getElem_cons_succ, List.getElem_cons_zero, List.setIfInBounds_toArray, List.set_cons_zero, List.set_cons_succ]
        refine wpAnyH_take (i := 3) (v := ?_) rfl (by kernel_rfl) (by kernel_rfl) (by kernel_rfl) (fun _ _ _ h => h) (Or.inl ⟨by rfl, ?_⟩) hS0 ?_
        case refine_2 => rintro w ⟨s1, s2, s3, s4, s5⟩; first | (go_simp; rfl) | go_simp
        simp only [Act.put, List.getElem_toArray, List.getElem_cons_succ, List.getElem_cons_zero, List.setIfInBounds_toArray, List.set_cons_zero, List.set_cons_succ]
        refine wpAnyH_take (i := 4) (v := ?_) rfl (by kernel_rfl) (by kernel_rfl) (by kernel_rfl) (fun _ _ _ h => h) (Or.inl ⟨by rfl, ?_⟩) hS0 ?_
        case refine_2 => rintro w ⟨s1, s2, s3, s4, s5⟩; first | (go_simp; rfl) | go_simp
        simp only [Act.put, List.getElem_toArray, List.getElem_cons_succ, List.getElem_cons_zero, List.setIfInBounds_toArray, List.set_cons_zero, List.set_cons_succ]
        refine wpAnyH_take (i := 5) (v := ?_) rfl (by kernel_rfl) (by kernel_rfl) (by kernel_rfl) (fun _ _ _ h => h) (Or.inl ⟨by rfl, ?_⟩) hS0 ?_
        case refine_2 => rintro w ⟨s1, s2, s3, s4, s5⟩; first | (go_simp; rfl) | go_simp
        simp only [Act.put, List.getElem_toArray, List.getElem_cons_succ, List.getElem_cons_zero, List.setIfInBounds_toArray, List.set_cons_zero, List.set_cons_succ]
        refine wpAnyH_take (i := 6) (v := ?_) rfl (by kernel_rfl) (by kernel_rfl) (by kernel_rfl) (fun _ _ _ h => h) (Or.inl ⟨by rfl, ?_⟩) hS0 ?_
        case refine_2 => rintro w ⟨s1, s2, s3, s4, s5⟩; first | (go_simp; rfl) | go_simp
        simp only [Act.put, List.getElem_toArray, List.getElem_cons_succ, List.getElem_cons_zero, List.setIfInBounds_toArray, List.set_cons_zero, List.set_cons_succ]
        refine wpAnyH_take (i := 7) (v := ?_) rfl (by kernel_rfl) (by kernel_rfl) (by kernel_rfl) (fun _ _ _ h => h) (Or.inl ⟨by rfl, ?_⟩) hS0 ?_
        case refine_2 => rintro w ⟨s1, s2, s3, s4, s5⟩; first | (go_simp; rfl) | go_simp
        simp only [Act.put, List.getElem_toArray, List.getElem_cons_succ, List.getElem_cons_zero, List.setIfInBounds_toArray, List.set_cons_zero, List.set_cons_succ]
        refine wpAnyH_take (i := 8) (v := ?_) rfl (by kernel_rfl) (by kernel_rfl) (by kernel_rfl) (fun _ _ _ h => h) (Or.inl ⟨by rfl, ?_⟩) hS0 ?_
        case refine_2 => rintro w ⟨s1, s2, s3, s4, s5⟩; first | (go_simp; rfl) | go_simp
        simp only [Act.put, List.getElem_toArray, List.getElem_cons_succ, List.getElem_cons_zero, List.setIfInBounds_toArray, List.set_cons_zero, List.set_cons_succ]
        refine wpAnyH_take (i := 9) (v := ?_) rfl (by kernel_rfl) (by kernel_rfl) (by kernel_rfl) (fun _ _ _ h => h) (Or.inl ⟨by rfl, ?_⟩) hS0 ?_
        case refine_2 => rintro w ⟨s1, s2, s3, s4, s5⟩; first | (go_simp; rfl) | go_simp
        simp only [Act.put, List.getElem_toArray, List.getElem_cons_succ, List.getElem_cons_zero, List.setIfInBounds_toArray, List.set_cons_zero, List.set_cons_succ]
        refine wpAnyH_take (i := 10) (v := ?_) rfl (by kernel_rfl) (by kernel_rfl) (by kernel_rfl) (fun _ _ _ h => h) (Or.inl ⟨by rfl, ?_⟩) hS0 ?_
        case refine_2 => rintro w ⟨s1, s2, s3, s4, s5⟩; first | (go_simp; rfl) | go_simp
        simp only [Act.put, List.getElem_toArray, List.getElem_cons_succ, List.getElem_cons_zero, List.setIfInBounds_toArray, List.set_cons_zero, List.set_cons_succ]
        refine wpAnyH_take (i := 11) (v := ?_) rfl (by kernel_rfl) (by kernel_rfl) (by kernel_rfl) (fun _ _ _ h => h) (Or.inl ⟨by rfl, ?_⟩) hS0 ?_
        case refine_2 => rintro w ⟨s1, s2, s3, s4, s5⟩; first | (go_simp; rfl) | go_simp
        simp only [Act.put, List.getElem_toArray, List.getElem_cons_succ, List.getElem_cons_zero, List.setIfInBounds_toArray, List.set_cons_zero, List.set_cons_succ]
        refine wpAnyH_take (i := 12) (v := ?_) rfl (by kernel_rfl) (by kernel_rfl) (by kernel_rfl) (fun _ _ _ h => h) (Or.inl ⟨by rfl, ?_⟩) hS0 ?_
        case refine_2 => rintro w ⟨s1, s2, s3, s4, s5⟩; first | (go_simp; rfl) | go_simp
        simp only [Act.put, List.getElem_toArray, List.getElem_cons_succ, List.getElem_cons_zero, List.setIfInBounds_toArray, List.set_cons_zero, List.set_cons_succ]
        refine wpAnyH_take (i := 13) (v := ?_) rfl (by kernel_rfl) (by kernel_rfl) (by kernel_rfl) (fun _ _ _ h => h) (Or.inl ⟨by rfl, ?_⟩) hS0 ?_
        case refine_2 => rintro w ⟨s1, s2, s3, s4, s5⟩; first | (go_simp; rfl) | go_simp
        simp only [Act.put, List.getElem_toArray, List.getElem_cons_succ, List.getElem_cons_zero, List.setIfInBounds_toArray, List.set_cons_zero, List.set_cons_succ]
        refine wpAnyH_done (by kernel_rfl) ?_ _
        gi_wp2
        exact ⟨hkf, hkc, ⟨⟨⟨⟨bK', bS'⟩, bT'⟩, bR'⟩, HP'⟩, hB'.drew⟩
    · have hb1 : ((p : Int) == (s : Int)) = false := by simp; omega
      have HP' : Hid (∀ x ∈ pre ++ [((⟨i, hi⟩ : Fin G.length), (⟨j, hj⟩ : Fin G.length))], (nd ks x.1.1 == s && nd ks x.2.1 == t) = false) := fun x hx => by
        rcases List.mem_append.1 hx with h | h
        · exact HP.out x h
        · simp only [List.mem_singleton] at h; subst h; rw [HA.out, HA2.out]; simp [h1]
      clear h1
      refine wpAnyH_take (i := 0) (v := ?_) rfl (by kernel_rfl) (by kernel_rfl) (by kernel_rfl) (fun _ _ _ h => h) (Or.inl ⟨by rfl, ?_⟩) hS0 ?_
      case refine_2 => rintro w ⟨s1, s2, s3, s4, s5⟩; first | (go_simp; rfl) | go_simp
      simp only [Act.put, List.getElem_toArray, List.getElem_cons_zero, List.setIfInBounds_toArray, List.set_cons_zero, List.set_cons_succ]
      refine wpAnyH_take (i := 1) (v := ?_) rfl (by kernel_rfl) (by kernel_rfl) (by kernel_rfl) (fun _ _ _ h => h) (Or.inl ⟨by rfl, ?_⟩) hS0 ?_
      case refine_2 => rintro w ⟨s1, s2, s3, s4, s5⟩; first | (go_simp; rfl) | go_simp
      simp only [Act.put, List.getElem_toArray, List.getElem_cons_succ, List.getElem_cons_zero, List.setIfInBounds_toArray, List.set_cons_zero, List.set_cons_succ]
      refine wpAnyH_take (i := 2) (v := ?_) rfl (by kernel_rfl) (by kernel_rfl) (by kernel_rfl) (fun _ _ _ h => h) (Or.inl ⟨by rfl, ?_⟩) hS0 ?_
      case refine_2 => rintro w ⟨s1, s2, s3, s4, s5⟩; first | (go_simp; rfl) | go_simp
      simp only [Act.put, List.getElem_toArray, List.getElem_cons_succ, List.getElem_cons_zero, List.setIfInBounds_toArray, List.set_cons_zero, List.set_cons_succ]
      refine wpAnyH_take (i := 3) (v := ?_) rfl (by kernel_rfl) (by kernel_rfl) (by kernel_rfl) (fun _ _ _ h => h) (Or.inl ⟨by rfl, ?_⟩) hS0 ?_
      case refine_2 => rintro w ⟨s1, s2, s3, s4, s5⟩; first | (go_simp; rfl) | go_simp
      simp only [Act.put, List.getElem_toArray, List.getElem_cons_succ, List.getElem_cons_zero, List.setIfInBounds_toArray, List.set_cons_zero, List.set_cons_succ]
      refine wpAnyH_take (i := 4) (v := ?_) rfl (by kernel_rfl) (by kernel_rfl) (by kernel_rfl) (fun _ _ _ h => h) (Or.inl ⟨by rfl, ?_⟩) hS0 ?_
      case refine_2 => rintro w ⟨s1, s2, s3, s4, s5⟩; first | (go_simp; rfl) | go_simp
      simp only [Act.put, List.getElem_toArray, List.getElem_cons_succ, List.getElem_cons_zero, List.setIfInBounds_toArray, List.set_cons_zero, List.set_cons_succ]
      refine wpAnyH_take (i := 5) (v := ?_) rfl (by kernel_rfl) (by kernel_rfl) (by kernel_rfl) (fun _ _ _ h => h) (Or.inl ⟨by rfl, ?_⟩) hS0 ?_
      case refine_2 => rintro w ⟨s1, s2, s3, s4, s5⟩; first | (go_simp; rfl) | go_simp
      simp only [Act.put, List.getElem_toArray, List.getElem_cons_succ, List.getElem_cons_zero, List.setIfInBounds_toArray, List.set_cons_zero, List.set_cons_succ]
      refine wpAnyH_take (i := 6) (v := ?_) rfl (by kernel_rfl) (by kernel_rfl) (by kernel_rfl) (fun _ _ _ h => h) (Or.inl ⟨by rfl, ?_⟩) hS0 ?_
      case refine_2 => rintro w ⟨s1, s2, s3, s4, s5⟩; first | (go_simp; rfl) | go_simp
      simp only [Act.put, List.getElem_toArray, List.getElem_cons_succ, List.getElem_cons_zero, List.setIfInBounds_toArray, List.set_cons_zero, List.set_cons_succ]
      refine wpAnyH_take (i := 7) (v := undef) rfl (by kernel_rfl) (by kernel_rfl) (by kernel_rfl) (fun _ _ _ h => h) (Or.inr ⟨by rfl, rfl⟩) hS0 ?_
      simp only [Act.put, List.getElem_toArray, List.getElem_cons_succ, List.getElem_cons_zero, List.setIfInBounds_toArray, List.set_cons_zero, List.set_cons_succ]
      refine wpAnyH_take (i := 8) (v := undef) rfl (by kernel_rfl) (by kernel_rfl) (by kernel_rfl) (fun _ _ _ h => h) (Or.inr ⟨by rfl, rfl⟩) hS0 ?_
      simp only [Act.put, List.getElem_toArray, List.getElem_cons_succ, List.getElem_cons_zero, List.setIfInBounds_toArray, List.set_cons_zero, List.set_cons_succ]
      refine wpAnyH_take (i := 9) (v := undef) rfl (by kernel_rfl) (by kernel_rfl) (by kernel_rfl) (fun _ _ _ h => h) (Or.inr ⟨by rfl, rfl⟩) hS0 ?_
      simp only [Act.put, List.getElem_toArray, List.getElem_cons_succ, List.getElem_cons_zero, List.setIfInBounds_toArray, List.set_cons_zero, List.set_cons_succ]
      refine wpAnyH_take (i := 10) (v := undef) rfl (by kernel_rfl) (by kernel_rfl) (by kernel_rfl) (fun _ _ _ h => h) (Or.inr ⟨by rfl, rfl⟩) hS0 ?_
      simp only [Act.put, List.getElem_toArray, List.getElem_cons_succ, List.getElem_cons_zero, List.setIfInBounds_toArray, List.set_cons_zero, List.set_cons_succ]
      refine wpAnyH_take (i := 11) (v := undef) rfl (by kernel_rfl) (by kernel_rfl) (by kernel_rfl) (fun _ _ _ h => h) (Or.inr ⟨by rfl, rfl⟩) hS0 ?_
      simp only [Act.put, List.getElem_toArray, List.getElem_cons_succ, List.getElem_cons_zero, List.setIfInBounds_toArray, List.set_cons_zero, List.set_cons_succ]
      refine wpAnyH_take (i := 12) (v := undef) rfl (by kernel_rfl) (by kernel_rfl) (by kernel_rfl) (fun _ _ _ h => h) (Or.inr ⟨by rfl, rfl⟩) hS0 ?_
      simp only [Act.put, List.getElem_toArray, List.getElem_cons_succ, List.getElem_cons_zero, List.setIfInBounds_toArray, List.set_cons_zero, List.set_cons_succ]
      refine wpAnyH_take (i := 13) (v := ?_) rfl (by kernel_rfl) (by kernel_rfl) (by kernel_rfl) (fun _ _ _ h => h) (Or.inl ⟨by rfl, ?_⟩) hS0 ?_
      case refine_2 => rintro w ⟨s1, s2, s3, s4, s5⟩; first | (go_simp; rfl) | go_simp
      simp only [Act.put, List.getElem_toArray, List.getElem_cons_succ, List.getElem_cons_zero, List.setIfInBounds_toArray, List.set_cons_zero, List.set_cons_succ]
      refine wpAnyH_done (by kernel_rfl) ?_ _
      gi_wp2
      exact ⟨hkf, hkc, ⟨⟨⟨⟨bK', bS'⟩, bT'⟩, bR'⟩, HP'⟩, hB'.drew⟩
  case done =>
    rintro D ys W' hD rfl ⟨⟨⟨⟨⟨bK', bS'⟩, bT'⟩, bR'⟩, HP⟩, hB'⟩ hK
    have cR := bR'.cell
    have fR := bR'.frozen
    have hf : z = false := by
      rw [← HZ.out, kArw_any]
      exact List.any_eq_false.2 fun x hx => by rw [HP.out x hx]; decide
    gi_wp2
    have hK' := (KeepsOthers.setCell W' ⟨w.heap.size + 1 + 1 + 1 + 1, 0, none⟩ (.bool false)).same D _ hK rfl
    refine ⟨by simp, .inl ⟨_, _, rfl, run_takeDeferred hK', ?_⟩⟩
    have hc5 := cell_kept (bR'.set (.bool false)).cell (grownBy_putObj' _ D (.deferred none)) (fun r e => by cases e; exact ⟨_, hK', rfl⟩)
    refine ⟨.bool false, ?_, ret_bool hf.symm, (hB'.setCell (p := ⟨w.heap.size + 1 + 1 + 1 + 1, 0, none⟩) (by simp; omega) _).trans (belowK_b (w := w) (Nat.le_refl _) _ D _ _ (by omega) hK' rfl rfl)⟩
    simp [results, Try.f67, go_sem, hc5]
  case stop =>
    rintro D c' pre W' hD hpre ⟨⟨⟨rfl, HN⟩, bR'⟩, hB'⟩ hK
    have hf : z = true := by
      rw [← HZ.out, kArw_any]
      obtain ⟨x, hx, hx2⟩ := HN.out
      exact List.any_eq_true.2 ⟨x, hpre.subset hx, hx2⟩
    gi_wp2
    refine ⟨by simp, .inl ⟨_, _, rfl, run_takeDeferred hK, ?_⟩⟩
    have hc5 := cell_kept bR'.cell (grownBy_putObj' _ D (.deferred none)) (fun r e => by cases e; exact ⟨_, hK, rfl⟩)
    refine ⟨.bool true, ?_, ret_bool hf.symm, hB'.trans (belowK_b (w := w) (Nat.le_refl _) W' D _ _ (by omega) hK rfl rfl)⟩
    simp [results, Try.f67, go_sem, hc5]

set_option maxRecDepth 100000 in
set_option maxHeartbeats 1000000 in
theorem grk1_in (n₀ m Bg Bk : Nat) (a a' : Option Addr) (c c' : Nat) (G : List (List Int)) (ks : List Int) (s t : Nat) (w : World) (hM : Mat n₀ w a G) (hI : Ints n₀ w a' ks) (hn : n₀ ≤ w.heap.size) (hG : Good G) (hT : Tells G.length m ks)
    (bG : Boxed w Bg 23 (.slice a G.length c)) (bK : Boxed w Bk 24 (.slice a' ks.length c')) :
    CallsIn Fence.wide 20 Try.prog 66 #[.int .i64 (s : Int), .int .i64 (t : Int), .pointer (some ⟨Bg, 0, none⟩), .pointer (some ⟨Bk, 0, none⟩)] w (Ans (.bool (kArw G ks s t)) w) := by
  have hdd : ∀ k : Nat, (Fence.wide.depth.isSome = true → 1 ≤ k) := fun k h => by cases h
  have h1 : Fence.wide.fn 67 := trivial
  have HJ := Lib.hid (joins_in n₀ m a a' c c' G ks s t w hM hI hn hG hT)
  have cG := bG.cell
  have cK := bK.cell
  clear hM hI hG hT bG bK
  refine callsIn_of_wp Try.func66 rfl trivial ?_ rfl
  simp only [Try.ntmps66, List.size_toArray, List.length_cons, List.length_nil, Nat.reduceAdd, Nat.reduceSub, Array.replicate_succ, Array.replicate_zero, List.push_toArray, List.append_toArray, List.nil_append, List.cons_append]
  gi_wp2_with ((try refine ⟨hdd _, ?_⟩); gi_at_call 67; refine (CallsIn_any rfl HJ.out).mono ?_; rintro e w' ⟨rfl, hB⟩)
  go_ret
  exact ⟨rfl, hB⟩

end Go.Proofs.Ytdolpkjighbohaa

namespace Go.Proofs.Ytdolpkjighbohaa
open Go.RowKit Go.Shelf Go.Deep

attribute [local go_sem] Oper.semAt_some

theorem apart_nodup {n m : Nat} {f : List Int} (h : Tells n m f) : decide ((imgL m f).length = f.length) = decide f.Nodup := by
  have hs : ∀ x, x ∈ imgL m f ↔ x ∈ f := fun x => ⟨fun hx => (imgL_mem.1 hx).2, fun hx => imgL_mem.2 ⟨tells_mem h hx, hx⟩⟩
  rw [decide_eq_decide]
  constructor
  · intro e
    exact full_nodup (imgL_nodup m f) (fun x hx => (hs x).1 hx) (by omega)
  · intro hn
    exact nodup_same (imgL_nodup m f) hn hs

set_option maxRecDepth 100000 in
set_option maxHeartbeats 1000000 in
theorem implKinds (a a' : Option Addr) (c c' : Nat) (G : List (List Int)) (ks : List Int) (w : World) (hM : Mat w.heap.size w a G) (hI : Ints w.heap.size w a' ks) (hF : Fit G) (hl : ks.length ≤ 1048576) :
    Calls Try.prog 18 #[.slice a G.length c, .slice a' ks.length c'] w (Ans (.bool (kOkI G ks)) w) := by
  have HOk := Lib.hid (implOk a c G w hM hF)
  have hlG := hF.1
  obtain ⟨z, hz⟩ : ∃ z, kOkI G ks = z := ⟨_, rfl⟩
  have HZ := Lib.hid hz
  rw [hz]
  clear hz hF hM
  by_cases hg : gOk G = true
  · rw [hg] at HOk
    have hG := good_of hg
    have hG9 := hG.2.1
    have hG1 := hG.1
    by_cases hn : ks.length = G.length
    · have HE : Hid (decide (kbyL ks = ks) = z) := Lib.hid (by rw [← HZ.out, kOk_self hg hn])
      have h9 : ks.length ≤ 9 := by omega
      have h1 : 1 ≤ ks.length := by omega
      have hni : ((ks.length : Int) == (G.length : Int)) = true := by simp; omega
      have hkl := kby_length ks
      obtain ⟨b3, o3, rfl, _, _⟩ := hI (fun e => by simp [e] at h1)
      obtain ⟨zs, hzs⟩ : ∃ zs, kbyL ks = zs := ⟨_, rfl⟩
      have HKI : Hid (∀ w1 : World, Below w.heap.size w w1 → Calls Try.prog 59 #[.slice (some ⟨b3, o3, none⟩) ks.length c'] w1 (MadeOwn zs w1)) := Lib.hid fun w1 hb => by
        have := kindsInP (some ⟨b3, o3, none⟩) c' ks w1 ((hI.below hb).more hb.size) h9
        rwa [hzs] at this
      rw [hzs] at HE hkl
      have HKL := Lib.hid hkl
      have HI := Lib.hid hI
      clear hzs hkl hg hG hn HZ hI
      go_enter Try.func18, Try.ntmps18
      go_wp2_with fail
      refine HOk.out.mono ?_
      rintro e w1 ⟨rfl, hB1⟩
      go_wp2_with fail
      refine (HKI.out w1 hB1).mono ?_
      rintro e w2 ⟨a2, c2, ⟨he, hB2⟩, hO2⟩
      rw [HKL.out] at he
      subst he
      have hz1 := hB1.size
      have hz2 := hB2.size
      have hB2w := hB1.trans (hB2.mono hz1)
      obtain ⟨b2, o2, rfl, _, hc2⟩ := (own_intsQ hO2) (fun e => by have := HKL.out; rw [e] at this; simp at this; omega)
      obtain ⟨b4, o4, e4, _, hc4⟩ := (HI.out.below hB2w) (fun e => by simp [e] at h1)
      cases e4
      have hEq := slices_Equal_int b2 o2 ks.length c2 b3 o3 ks.length c' zs ks w2 (by rw [HKL.out]; exact Nat.le_refl _) (Nat.le_refl _) (by omega) (by omega) (fun j hj => by rw [hc2 j hj]; simp [List.getD]) (fun j hj => by rw [hc4 j hj]; simp [List.getD])
      have HEq := Lib.hid hEq
      clear hEq hc2 hc4 hO2
      go_wp2_with fail
      refine HEq.out.mono ?_
      rintro e w3 ⟨rfl, q, rfl⟩
      go_wp2_with fail
      go_ret
      refine ⟨ret_bool ?_, hB2w.os, hB2w.tape, hB2w.output, hB2w.size, hB2w.block⟩
      have e2 : zs.take ks.length = zs := by rw [← HKL.out]; exact List.take_length
      rw [← HE.out, e2, Bool.eq_iff_iff]
      simp
    · have HE : Hid (z = false) := Lib.hid (by rw [← HZ.out, kOk_len hn])
      have hni : ((ks.length : Int) == (G.length : Int)) = false := by simp; omega
      clear hg hG hn HZ hI
      go_enter Try.func18, Try.ntmps18
      go_wp2_with fail
      refine HOk.out.mono ?_
      rintro e w1 ⟨rfl, hB1⟩
      go_wp2_with fail
      go_ret
      exact ⟨ret_bool HE.out.symm, hB1⟩
  · have hn : gOk G = false := by simpa using hg
    rw [hn] at HOk
    have HE : Hid (z = false) := Lib.hid (by rw [← HZ.out, kOk_no1 hn])
    clear hg hn HZ hI
    go_enter Try.func18, Try.ntmps18
    go_wp2_with fail
    refine HOk.out.mono ?_
    rintro e w1 ⟨rfl, hB1⟩
    go_wp2_with fail
    go_ret
    exact ⟨ret_bool HE.out.symm, hB1⟩

set_option maxRecDepth 100000 in
set_option maxHeartbeats 2000000 in
theorem implGrk (a a' : Option Addr) (c c' : Nat) (G : List (List Int)) (ks : List Int) (w : World) (hM : Mat w.heap.size w a G) (hI : Ints w.heap.size w a' ks) (hF : Fit G) (hl : ks.length ≤ 1048576) :
    Calls Try.prog 28 #[.slice a G.length c, .slice a' ks.length c'] w (MadeS (grkL G ks) w) := by
  have es : ∀ (W : World) (o : Obj), (W.alloc o).heap.size = W.heap.size + 1 := fun W o => by simp
  have hB0 := ((Below.refl w.heap.size w).alloc (Nat.le_refl _) (.cells #[.slice a G.length c] 23)).alloc (by simp) (.cells #[.slice a' ks.length c'] 24)
  have bG0 := (Boxed.new w 23 (.slice a G.length c)).alloc (.cells #[.slice a' ks.length c'] 24)
  have bK0 := Boxed.new (w.alloc (.cells #[.slice a G.length c] 23)) 24 (.slice a' ks.length c')
  rw [es] at bK0
  have hs0 : ((w.alloc (.cells #[.slice a G.length c] 23)).alloc (.cells #[.slice a' ks.length c'] 24)).heap.size = w.heap.size + 2 := by simp
  have HK := Lib.hid (implKinds a a' c c' G ks _ ((hM.below hB0).more hB0.size) ((hI.below hB0).more hB0.size) hF hl)
  obtain ⟨V, hV⟩ : ∃ V, (w.alloc (.cells #[.slice a G.length c] 23)).alloc (.cells #[.slice a' ks.length c'] 24) = V := ⟨_, rfl⟩
  rw [hV] at hB0 bG0 bK0 hs0 HK
  have hs1 : w.heap.size + 2 ≤ V.heap.size := by omega
  clear hs0 es
  have cG0 := bG0.cell
  have cK0 := bK0.cell
  by_cases hk : kOkI G ks = true
  · rw [hk] at HK
    have hgr := grk_length hk
    have hsepF : Fit (grkL G ks) := (good_of (grk_good hk)).fit
    have hG := good_of (kOk_iff.1 hk).1
    have hT := kind_tells (kOk_iff.1 hk).2.2
    rw [(kOk_iff.1 hk).2.1] at hT
    have htop := nub_top (kOk_iff.1 hk).2.2
    have ht9 : topK ks ≤ 9 := Nat.le_trans (grk_top hk).2 hG.2.1
    have HE : Hid (grkL G ks = rowsP (topK ks) (kArw G ks)) := Lib.hid (grk_yes hk)
    obtain ⟨zs, hzs⟩ : ∃ zs, grkL G ks = zs := ⟨_, rfl⟩
    rw [hzs] at hgr hsepF HE ⊢
    have HGR := Lib.hid hgr
    have HSF := Lib.hid hsepF
    have HG := Lib.hid hG
    have HT := Lib.hid hT
    obtain ⟨m, hm⟩ : ∃ m, topK ks = m := ⟨_, rfl⟩
    rw [hm] at htop ht9 HE HGR
    have HTOP := Lib.hid htop
    clear hgr hsepF hG hT hzs htop hm hk
    go_enter Try.func28, Try.ntmps28
    go_wp2_with fail
    refine HK.out.mono ?_
    rintro e w1 ⟨rfl, hB1⟩
    have hz1 := hB1.size
    have hBw1 := hB0.trans (hB1.mono (by omega))
    have bG1 : Boxed w1 w.heap.size 23 (.slice a G.length c) := (hB1.block _ (by omega)).trans bG0
    have bK1 : Boxed w1 (w.heap.size + 1) 24 (.slice a' ks.length c') := (hB1.block _ (by omega)).trans bK0
    have cK1 := bK1.cell
    have HFi := Lib.hid (firstsP a' c' ks w1 ((hI.below hBw1).more hBw1.size) hl)
    have HBw1 := Lib.hid hBw1
    clear hV HK cG0 cK0 bG0 bK0 hB0 hB1 hBw1
    go_wp2_with fail
    refine HFi.out.mono ?_
    rintro e w2 ⟨a2, c2, ⟨rfl, hB2⟩, hO2⟩
    rw [HTOP.out]
    have hz2 := hB2.size
    have hBw2 := HBw1.out.trans (hB2.mono (by omega))
    have bG2 : Boxed w2 w.heap.size 23 (.slice a G.length c) := (hB2.block _ (by omega)).trans bG1
    have bK2 : Boxed w2 (w.heap.size + 1) 24 (.slice a' ks.length c') := (hB2.block _ (by omega)).trans bK1
    have HRB := Lib.hid (callsIn_wide.1 (rowsBy_in Fence.wide rfl (fun _ => trivial) rfl 66 #[.pointer (some ⟨w.heap.size, 0, none⟩), .pointer (some ⟨w.heap.size + 1, 0, none⟩)] (kArw G ks) m ht9 w2 (enters_of Try.func66 (by kernel_rfl) rfl)
      (fun W' i j hb hi hj => grk1_in w.heap.size (topK ks) w.heap.size (w.heap.size + 1) a a' c c' G ks i j W' (hM.below (hBw2.trans (hb.mono (by omega)))) (hI.below (hBw2.trans (hb.mono (by omega)))) (by have := hb.size; omega) HG.out HT.out ((hb.block _ (by omega)).trans bG2) ((hb.block _ (by omega)).trans bK2))))
    have HBw2 := Lib.hid hBw2
    clear hO2 bG1 bK1 bG2 bK2 cK1 hM hI hB2 hBw2 HFi
    go_wp2_with fail
    refine HRB.out.mono ?_
    rintro e w3 ⟨rfl, hB3, hO3⟩
    have HB := Lib.hid (HBw2.out.trans (hB3.mono (by omega)))
    have HO := Lib.hid hO3
    clear hB3 hO3 HRB
    go_wp2_with fail
    go_ret
    have hsep : OwnR w.heap.size w3 (some ⟨w2.heap.size + 1, 0, none⟩) m zs := .inr ⟨w2.heap.size + 1, fun i => w2.heap.size + 3 + i, rfl, HGR.out.symm, by rw [HE.out]; exact HO.out, by omega, fun i _ => by show w.heap.size ≤ w2.heap.size + 3 + i; omega, fun i j h => by have h' : w2.heap.size + 3 + i = w2.heap.size + 3 + j := h; omega⟩
    exact ⟨_, m, ⟨by rw [HGR.out]; rfl, HB.out⟩, hsep.sep HSF.out⟩
  · have hn : kOkI G ks = false := by simpa using hk
    rw [hn] at HK
    rw [grk_no hn]
    clear hk hn hM hI
    go_enter Try.func28, Try.ntmps28
    go_wp2_with fail
    refine HK.out.mono ?_
    rintro e w1 ⟨rfl, hB1⟩
    have hB2 := hB0.trans (hB1.mono (by omega))
    clear hV
    go_wp2_with fail
    go_ret
    exact ⟨none, 0, ⟨rfl, hB2⟩, OwnSep.nil _ _⟩

set_option maxRecDepth 100000 in
set_option maxHeartbeats 1000000 in
theorem implKby (a a' a'' : Option Addr) (c c' c'' : Nat) (G H : List (List Int)) (f : List Int) (w : World) (hM : Mat w.heap.size w a G) (hM' : Mat w.heap.size w a' H) (hI : Ints w.heap.size w a'' f) (hF : Fit G) (hF' : Fit H) (hl : f.length ≤ 1048576) :
    Calls Try.prog 33 #[.slice a G.length c, .slice a' H.length c', .slice a'' f.length c''] w (MadeOwn (kbI G H f) w) := by
  have HMap := Lib.hid (implMapOk a c a' c' a'' c'' G H f w hM hM' hI hF hF' hl)
  obtain ⟨z, hz⟩ : ∃ z, kbI G H f = z := ⟨_, rfl⟩
  have HZ := Lib.hid hz
  rw [hz]
  clear hz hF hF' hM hM'
  by_cases hm : mapOkI G H f = true
  · rw [hm] at HMap
    have h9 := (map_le hm).2.2
    have HE : Hid (kbyL f = z) := Lib.hid (by rw [← HZ.out, kb_yes hm])
    clear hm HZ
    go_enter Try.func33, Try.ntmps33
    go_wp2_with fail
    refine HMap.out.mono ?_
    rintro e w1 ⟨rfl, hB1⟩
    have hz1 := hB1.size
    have HIm := Lib.hid (kindsInP a'' c'' f w1 ((hI.below hB1).more hz1) h9)
    rw [HE.out] at HIm
    clear hI
    go_wp2_with fail
    refine HIm.out.mono ?_
    rintro e w2 ⟨a2, c2, ⟨rfl, hB2⟩, hO2⟩
    have HO := Lib.hid (Joins.ownsRow_le hO2 hz1)
    clear hO2
    go_wp2_with fail
    go_ret
    exact ⟨a2, c2, ⟨rfl, hB1.trans (hB2.mono hz1)⟩, HO.out⟩
  · have hn : mapOkI G H f = false := by simpa using hm
    rw [hn] at HMap
    have h0 : z = [] := by rw [← HZ.out, kb_no hn]
    subst h0
    clear hm hn hI HZ
    go_enter Try.func33, Try.ntmps33
    go_wp2_with fail
    refine HMap.out.mono ?_
    rintro e w1 ⟨rfl, hB1⟩
    go_wp2_with fail
    go_ret
    exact ⟨none, 0, ⟨rfl, hB1⟩, World.ownsRow_nil _ _ _ 1⟩

set_option maxRecDepth 100000 in
set_option maxHeartbeats 1000000 in
theorem implFrom (a a' a'' : Option Addr) (c c' c'' : Nat) (G H : List (List Int)) (f : List Int) (w : World) (hM : Mat w.heap.size w a G) (hM' : Mat w.heap.size w a' H) (hI : Ints w.heap.size w a'' f) (hF : Fit G) (hF' : Fit H) (hl : f.length ≤ 1048576) :
    Calls Try.prog 36 #[.slice a G.length c, .slice a' H.length c', .slice a'' f.length c''] w (MadeOwn (frI G H f) w) := by
  have HMap := Lib.hid (implMapOk a c a' c' a'' c'' G H f w hM hM' hI hF hF' hl)
  obtain ⟨z, hz⟩ : ∃ z, frI G H f = z := ⟨_, rfl⟩
  have HZ := Lib.hid hz
  rw [hz]
  clear hz hF hF' hM hM'
  by_cases hm : mapOkI G H f = true
  · rw [hm] at HMap
    have HE : Hid (nubL f = z) := Lib.hid (by rw [← HZ.out, fr_yes hm])
    clear hm HZ
    go_enter Try.func36, Try.ntmps36
    go_wp2_with fail
    refine HMap.out.mono ?_
    rintro e w1 ⟨rfl, hB1⟩
    have hz1 := hB1.size
    have HIm := Lib.hid (firstsP a'' c'' f w1 ((hI.below hB1).more hz1) hl)
    rw [HE.out] at HIm
    clear hI
    go_wp2_with fail
    refine HIm.out.mono ?_
    rintro e w2 ⟨a2, c2, ⟨rfl, hB2⟩, hO2⟩
    have HO := Lib.hid (Joins.ownsRow_le hO2 hz1)
    clear hO2
    go_wp2_with fail
    go_ret
    exact ⟨a2, c2, ⟨rfl, hB1.trans (hB2.mono hz1)⟩, HO.out⟩
  · have hn : mapOkI G H f = false := by simpa using hm
    rw [hn] at HMap
    have h0 : z = [] := by rw [← HZ.out, fr_no hn]
    subst h0
    clear hm hn hI HZ
    go_enter Try.func36, Try.ntmps36
    go_wp2_with fail
    refine HMap.out.mono ?_
    rintro e w1 ⟨rfl, hB1⟩
    go_wp2_with fail
    go_ret
    exact ⟨none, 0, ⟨rfl, hB1⟩, World.ownsRow_nil _ _ _ 1⟩

set_option maxRecDepth 100000 in
set_option maxHeartbeats 1000000 in
theorem implApart (a a' a'' : Option Addr) (c c' c'' : Nat) (G H : List (List Int)) (f : List Int) (w : World) (hM : Mat w.heap.size w a G) (hM' : Mat w.heap.size w a' H) (hI : Ints w.heap.size w a'' f) (hF : Fit G) (hF' : Fit H) (hl : f.length ≤ 1048576) :
    Calls Try.prog 38 #[.slice a G.length c, .slice a' H.length c', .slice a'' f.length c''] w (Ans (.bool (apaI G H f)) w) := by
  have HMap := Lib.hid (implMapOk a c a' c' a'' c'' G H f w hM hM' hI hF hF' hl)
  obtain ⟨z, hz⟩ : ∃ z, apaI G H f = z := ⟨_, rfl⟩
  have HZ := Lib.hid hz
  rw [hz]
  clear hz hF hM hM'
  by_cases hm : mapOkI G H f = true
  · rw [hm] at HMap
    have h2 := mapOk_iff.1 hm
    have h1 := (map_le hm).2.1
    have ht := Lib.hid (fun y (hy : y ∈ f) => tells_mem h2.2.1 hy)
    have hH : H.length ≤ 1048576 := hF'.1
    have HE : Hid (decide ((imgL H.length f).length = f.length) = z) := Lib.hid (by rw [← HZ.out, apart_nodup h2.2.1]; unfold apaI; rw [hm]; rfl)
    clear hm h2 HZ
    go_enter Try.func38, Try.ntmps38
    go_wp2_with fail
    refine HMap.out.mono ?_
    rintro e w1 ⟨rfl, hB1⟩
    have hz1 := hB1.size
    have HIm := Lib.hid (apartP a'' c'' H.length f w1 ((hI.below hB1).more hz1) h1 hl ht.out hH)
    rw [HE.out] at HIm
    clear hI
    go_wp2_with fail
    refine HIm.out.mono ?_
    rintro e w2 ⟨rfl, hB2⟩
    go_wp2_with fail
    go_ret
    exact ⟨rfl, hB1.trans (hB2.mono hz1)⟩
  · have hn : mapOkI G H f = false := by simpa using hm
    rw [hn] at HMap
    have HE : Hid (z = false) := Lib.hid (by rw [← HZ.out]; unfold apaI; rw [hn]; rfl)
    clear hm hn hI HZ
    go_enter Try.func38, Try.ntmps38
    go_wp2_with fail
    refine HMap.out.mono ?_
    rintro e w1 ⟨rfl, hB1⟩
    go_wp2_with fail
    go_ret
    exact ⟨ret_bool HE.out.symm, hB1⟩

theorem filter_snocK {α : Type} (p : α → Bool) (l : List α) (x : α) : ((l ++ [x]).filter p).length = (l.filter p).length + (if p x = true then 1 else 0) := by
  rw [List.filter_append, List.length_append]
  by_cases h : p x = true <;> simp [h]

set_option maxRecDepth 100000 in
set_option maxHeartbeats 4000000 in
theorem implCap (a a' : Option Addr) (c c' : Nat) (G H : List (List Int)) (w : World) (hM : Mat w.heap.size w a G) (hM' : Mat w.heap.size w a' H) (hF : Fit G) (hF' : Fit H) :
    Calls Try.prog 43 #[.slice a G.length c, .slice a' H.length c'] w (Ans (.int .i64 (capI G H)) w) := by
  have h1 : Fence.wide.fn 75 := trivial
  have h2 : Fence.wide.fn 76 := trivial
  have h3 : Fence.wide.fn 73 := trivial
  have hdd : ∀ k : Nat, (Fence.wide.depth.isSome = true → 1 ≤ k) := fun k h => by cases h
  have es : ∀ (W : World) (o : Obj), (W.alloc o).heap.size = W.heap.size + 1 := fun W o => by simp
  have hFew := implFew a c a' c' G H w hM hM' hF hF'
  obtain ⟨z, HZ⟩ : ∃ z, Hid (capI G H = z) := ⟨_, rfl⟩
  rw [HZ.out]
  refine (callsIn_wide (n := 20)).1 ?_
  by_cases hg : fewI G H = true
  · rw [hg] at hFew
    have HFew := Lib.hid hFew
    have HG := Lib.hid (good_of (fewI_iff.1 hg).1)
    have HH := Lib.hid (good_of (fewI_iff.1 hg).2.1)
    have HN := Lib.hid (few_maps hg)
    have HT : Hid (∀ x ∈ mapsFrom G H G.length [], Tells G.length H.length x) := Lib.hid fun x hx => by
      rw [← mapsL_yes hg] at hx
      exact ((mapsL_mem hg x).1 hx).1
    have hN9 : G.length ≤ 9 := HG.out.2.1
    have hN1 : 1 ≤ G.length := HG.out.1
    have hH9 : H.length ≤ 9 := HH.out.2.1
    obtain ⟨p, HPP⟩ : ∃ p : List Int → Bool, Hid ((fun x => decide x.Nodup) = p) := ⟨_, rfl⟩
    have HAp : Hid (∀ (W : World) (x : List Int) (b : Nat), x.length = G.length → Tells G.length H.length x → Ints W.heap.size W (some ⟨b, 0, none⟩) x → Calls Try.prog 73 #[.slice (some ⟨b, 0, none⟩) G.length G.length] W (Ans (.bool (p x)) W)) := Lib.hid fun W x b hx hT hI => by
      have := apartP (some ⟨b, 0, none⟩) G.length H.length x W hI (by omega) (by omega) (fun y hy => tells_mem hT hy) (by omega)
      rw [apart_nodup hT, hx] at this
      rw [← HPP.out]
      exact this
    have HZ2 : Hid (z = (((mapsFrom G H G.length []).filter p).length : Int)) := Lib.hid (by rw [← HZ.out, cap_yes hg]; unfold apaL; rw [mapsL_yes hg, HPP.out])
    clear hFew hF hF' hg HPP
    refine callsIn_of_wp_marks Try.func43 rfl trivial ?_ rfl
    simp only [Try.ntmps43, List.size_toArray, List.length_cons, List.length_nil, Nat.reduceAdd, Nat.reduceSub, Array.replicate_succ, Array.replicate_zero, List.push_toArray, List.append_toArray, List.nil_append, List.cons_append]
    gi_wp2_with (first | ((try refine ⟨hdd _, ?_⟩); gi_at_call 75; refine (callsIn_wide.2 HFew.out).mono ?_; rintro e w1 ⟨rfl, hB1⟩) | ((try refine ⟨hdd _, ?_⟩); gi_at_call 76; refine (mapsTo_in _ _ _ _ _ _ _ _).mono ?_; rintro e w' ⟨rfl, rfl⟩))
    have bC := ((Boxed.new w1 3 (.int .i64 0)).alloc (.cells #[.slice a G.length c] 58)).alloc (.cells #[.slice a' H.length c'] 58)
    have bG := (Boxed.new (w1.alloc (.cells #[.int .i64 0] 3)) 58 (.slice a G.length c)).alloc (.cells #[.slice a' H.length c'] 58)
    have bH := Boxed.new ((w1.alloc (.cells #[.int .i64 0] 3)).alloc (.cells #[.slice a G.length c] 58)) 58 (.slice a' H.length c')
    rw [es] at bG
    rw [es, es] at bH
    have hB2 := ((hB1.alloc hB1.size (.cells #[.int .i64 0] 3)).alloc (by simp; have := hB1.size; omega) (.cells #[.slice a G.length c] 58)).alloc (by simp; have := hB1.size; omega) (.cells #[.slice a' H.length c'] 58)
    have hws := hB1.size
    have hsz : (((w1.alloc (.cells #[.int .i64 0] 3)).alloc (.cells #[.slice a G.length c] 58)).alloc (.cells #[.slice a' H.length c'] 58)).heap.size = w1.heap.size + 3 := by simp
    obtain ⟨V, hV⟩ : ∃ V, ((w1.alloc (.cells #[.int .i64 0] 3)).alloc (.cells #[.slice a G.length c] 58)).alloc (.cells #[.slice a' H.length c'] 58) = V := ⟨_, rfl⟩
    rw [hV] at bC bG bH hB2 hsz ⊢
    have hMV := hM.below hB2
    have hMV' := hM'.below hB2
    have hsz1 : w1.heap.size + 3 ≤ V.heap.size := by omega
    have hsz2 : V.heap.size ≤ w1.heap.size + 3 := by omega
    clear hV hB1 hM hM' hsz
    have hseq := mapsTo_Y w.heap.size (V.heap.size + 2) (w1.heap.size + 1) a a' c c' G H HG.out HH.out (fun B => B = w1.heap.size) V bG bH hMV hMV' (fun B s => by omega) (by omega) (by omega)
    refine range_lawY rfl rfl (fun _ => trivial) (gf := 95) (lb := #[.pointer (some ⟨w1.heap.size + 1, 0, none⟩), .pointer (some ⟨w1.heap.size + 1 + 1, 0, none⟩)]) rfl (enters_of Try.func95 (by kernel_rfl) rfl)
      hseq (.inr (by omega)) (OwnFrom.and (ownFrom_pure _ _) (Own.from (hold_own _ _ _) _)) (fun h k => KeepC.trans h k) (fun W' o o' h hc => KeepC.putObj _ (by omega) W' o o' h hc) (Below.refl _ _) (fun _ => rfl)
      (fun pre W' => Boxed W' w1.heap.size 3 (.int .i64 ((pre.filter p).length : Int)) ∧ Below w.heap.size w W')
      (fun _ _ _ => False)
      ⟨OwnFrom.and (Own.from (boxed_own _ _ _) _) (ownFrom_below (Nat.le_refl _) (by omega)), fun s A C hs hgr _ => ⟨hs.1.kept hgr (fun e => by have e' := Option.some.inj e; omega), hs.2.grown hgr hs.2.size (fun r e => by cases e; omega)⟩⟩
      (fun _ => ⟨fun _ _ _ _ hs _ _ => hs, fun _ _ _ hs _ _ => hs⟩)
      ⟨bC, hB2⟩ ?a1 ?assign ?body ?done ?stop
    case assign =>
      intro l2 x W' K hK
      gi_wp2
      exact hK
    case body =>
      rintro l2 pre x W' ⟨bC', hB'⟩ hsp ⟨hxN, hHx⟩
      have HTx := Lib.hid (HT.out x (hsp.subset (by simp)))
      have hIx : Ints W'.heap.size W' (some ⟨V.heap.size + 2 + 1, 0, none⟩) x := hHx.ints
      have HA := Lib.hid (HAp.out W' x _ hxN HTx.out hIx)
      have HFS := Lib.hid (filter_snocK p pre x)
      have hlen2 : (pre.filter p).length ≤ 7000 := by
        have h := hsp.length_le
        have h2 := List.length_filter_le p pre
        have := HN.out
        rw [List.length_append, List.length_singleton] at h
        omega
      clear hseq hIx hsp
      gi_wp2_with fail
      (try refine ⟨hdd _, ?_⟩)
      gi_at_call 73
      refine (CallsIn.inRound l2 (callsIn_wide.2 HA.out)).mono ?_
      rintro e w4 ⟨rfl, hB4⟩
      have hz4 := hB4.size
      have bC4 : Boxed w4 w1.heap.size 3 (.int .i64 ((pre.filter p).length : Int)) := (hB4.block _ bC'.lt).trans bC'
      have hB4w : Below w.heap.size w w4 := hB'.trans (hB4.mono hB'.size)
      have cC := bC4.cell
      have fC := bC4.frozen
      by_cases hp : p x = true
      · rw [hp]
        rw [if_pos hp] at HFS
        clear hp HA
        gi_wp2_with fail
        have hb := bC4.set (.int .i64 (((pre.filter p).length : Int) + 1))
        exact ⟨(keepsFrom_below hB4 _).trans ((KeepsOthers.setCell _ _ _).from _), (KeepC.of_below hB4).trans (KeepC.setCell (S := fun B => B = w1.heap.size) _ w4 rfl 0 _), by rw [HFS.out]; exact hb, hB4w.setCell (p := ⟨w1.heap.size, 0, none⟩) hws _⟩
      · have hpf : p x = false := by simpa using hp
        rw [hpf]
        rw [if_neg hp] at HFS
        clear hp hpf HA
        gi_wp2_with fail
        exact ⟨keepsFrom_below hB4 _, KeepC.of_below hB4, by rw [HFS.out]; exact bC4, hB4w⟩
    case done =>
      rintro D ys W' hD rfl ⟨bC', hB'⟩ hK
      have cC := bC'.cell
      clear hseq
      gi_wp2
      refine ⟨by simp, .inl ⟨_, _, rfl, run_takeDeferred hK, ?_⟩⟩
      refine ⟨_, results_tmp rfl _ _ _, ?_, hB'.trans (belowK_b (w := w) (Nat.le_refl _) W' D _ _ (by omega) hK rfl rfl)⟩
      rw [HZ2.out]
      rfl
    case stop =>
      rintro D c' pre W' _ _ hx _
      exact hx.elim
  · have hg' : fewI G H = false := by simpa using hg
    rw [hg'] at hFew
    have HFew := Lib.hid hFew
    have HZ2 : Hid (z = -1) := Lib.hid (by rw [← HZ.out, cap_no hg'])
    clear hFew hg hM hM' hF hF' hg'
    refine callsIn_of_wp_marks Try.func43 rfl trivial ?_ rfl
    simp only [Try.ntmps43, List.size_toArray, List.length_cons, List.length_nil, Nat.reduceAdd, Nat.reduceSub, Array.replicate_succ, Array.replicate_zero, List.push_toArray, List.append_toArray, List.nil_append, List.cons_append]
    gi_wp2_with ((try refine ⟨hdd _, ?_⟩); gi_at_call 75; refine (callsIn_wide.2 HFew.out).mono ?_; rintro e w1 ⟨rfl, hB1⟩)
    refine ⟨_, results_tmp rfl _ _ _, ?_, hB1⟩
    rw [HZ2.out]
    rfl

end Go.Proofs.Ytdolpkjighbohaa
