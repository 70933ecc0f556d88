/-
  Several texts in one.
  Walks lifted as the program lifts them: step by step, as far as one comes.
  impl.graph.coversAt, impl.graph.covers, impl.asLongAsWalks, impl.CoverOk, impl.WalkOk, impl.SheetsOf.
  impl.graph.lifter, its closure, impl.graph.lifted, impl.LiftedWalk.
  impl.LiftedWalk, impl.SheetsOf, impl.TwiceOf.
  impl.CoversOf.
  The program's chapter 10: its contracts together.
-/
import Derived.Test.YtldkgkpiceamhaaXA
import Derived.Test.YtldkgkpiceamhaaXB
import Derived.Test.YtldkgkpiceamhaaZN
import Derived.Test.YtldkgkpiceamhaaZC
import Derived.Test.YtldkgkpiceamhaaWY
import Derived.Test.YtldkgkpiceamhaaYU
import Derived.Test.YtldkgkpiceamhaaXE
import Derived.Test.YtldkgkpiceamhaaZQ
import Derived.Test.YtldkgkpiceamhaaXC
import Derived.Stop.RegionWithIn
namespace Go.Proofs.Ytldkgkpiceamhaa
open Go.RowKit Go.Shelf Go.Deep

theorem find_congr14 {α : Type} {p q : α → Bool} : ∀ {l : List α}, (∀ x ∈ l, p x = q x) → l.find? p = l.find? q
  | [], _ => rfl
  | x :: l, h => by rw [List.find?_cons, List.find?_cons, h x (by simp), find_congr14 fun y hy => h y (by simp [hy])]
/-- THE FIRST NODE to which there is an arrow, and that is led to the node below. -/
def kidZ (G : List (List Int)) (f : List Int) (a : Nat) (z : Int) : Option Nat := (List.range f.length).find? fun j => decide (f[j]? = some z) && arw G a j
theorem kidZ_some {G : List (List Int)} {f : List Int} {a j : Nat} {z : Int} (h : kidZ G f a z = some j) : j < f.length ∧ f[j]? = some z ∧ arw G a j = true := by
  unfold kidZ at h
  have h1 := List.find?_some h
  have h2 := List.mem_of_find?_eq_some h
  simp only [Bool.and_eq_true, decide_eq_true_eq] at h1
  exact ⟨by simpa using h2, h1.1, h1.2⟩
theorem kidZ_eq {G : List (List Int)} {f : List Int} {m a y : Nat} (hT : Tells G.length m f) : kidZ G f a (y : Int) = kidO G f a y := by
  unfold kidZ kidO
  rw [hT.1]
  refine find_congr14 fun j hj => ?_
  rw [List.mem_range] at hj
  obtain ⟨u, hu, en, _⟩ := tells_at hT hj
  rw [hu, en, Bool.and_comm]
  congr 1
  rw [Bool.eq_iff_iff, decide_eq_true_eq, beq_iff_eq]
  constructor
  · intro e; have := Option.some.inj e; omega
  · intro e; rw [e]
theorem kidZ_at {G : List (List Int)} {f : List Int} {p n : Nat} {z : Int} (hn : n < f.length) (h : f[n]? = some z) (ha : arw G p n = true) (hl : ∀ j, j < n → ¬ (f[j]? = some z ∧ arw G p j = true)) : kidZ G f p z = some n := by
  unfold kidZ
  refine List.find?_range_eq_some.2 ⟨by simp [h, ha], by simpa using hn, fun j hj => ?_⟩
  have := hl j hj
  simp only [Bool.not_eq_true', Bool.eq_false_iff, ne_eq, Bool.and_eq_true, decide_eq_true_eq]
  exact this
theorem kidZ_none {G : List (List Int)} {f : List Int} {p : Nat} {z : Int} (hl : ∀ j, j < f.length → ¬ (f[j]? = some z ∧ arw G p j = true)) : kidZ G f p z = none := by
  unfold kidZ
  rw [List.find?_eq_none]
  intro j hj
  simp only [Bool.and_eq_true, decide_eq_true_eq]
  exact hl j (by simpa using hj)
/-- AS FAR AS ONE COMES. -/
def goQ (G : List (List Int)) (f : List Int) : List Int → Nat → List Int
  | [], _ => []
  | z :: zs, a => match kidZ G f a z with | some j => (j : Int) :: goQ G f zs j | none => []
theorem goQ_yes {G : List (List Int)} {f : List Int} {z : Int} {zs : List Int} {a j : Nat} (h : kidZ G f a z = some j) : goQ G f (z :: zs) a = (j : Int) :: goQ G f zs j := by simp only [goQ, h]
theorem goQ_no {G : List (List Int)} {f : List Int} {z : Int} {zs : List Int} {a : Nat} (h : kidZ G f a z = none) : goQ G f (z :: zs) a = [] := by simp only [goQ, h]
theorem goQ_le (G : List (List Int)) (f : List Int) : ∀ (zs : List Int) (a : Nat), (goQ G f zs a).length ≤ zs.length
  | [], _ => Nat.le_refl _
  | z :: zs, a => by
    cases h : kidZ G f a z with
    | none => rw [goQ_no h]; exact Nat.zero_le _
    | some j => rw [goQ_yes h]; exact Nat.succ_le_succ (goQ_le G f zs j)
theorem goQ_full {G H : List (List Int)} {f : List Int} (hm : mapOkI G H f = true) : ∀ (zs : List Int) (a : Nat), a < G.length → (goQ G f zs a).length = zs.length →
    (∀ (k : Nat) (y : Int), zs[k]? = some y → 0 ≤ y ∧ y < H.length) ∧ ∀ k, k < zs.length → arw H (nd (((nd f a : Nat) : Int) :: zs) k) (nd (((nd f a : Nat) : Int) :: zs) (k + 1)) = true
  | [], a, _, _ => ⟨fun k y h => by simp at h, fun k hk => absurd hk (Nat.not_lt_zero _)⟩
  | z :: zs, a, ha, hl => by
    obtain ⟨_, hT, hA⟩ := mapOk_iff.1 hm
    cases h : kidZ G f a z with
    | none => rw [goQ_no h] at hl; simp at hl
    | some j =>
      rw [goQ_yes h] at hl
      obtain ⟨hj, hz, har⟩ := kidZ_some h
      have hj2 : j < G.length := by rw [← hT.1]; exact hj
      obtain ⟨u, hu, en, hub⟩ := tells_at hT hj2
      have ez : z = ((nd f j : Nat) : Int) := by rw [hu] at hz; cases hz; rw [en]
      obtain ⟨h1, h2⟩ := goQ_full hm zs j hj2 (by simpa using hl)
      subst ez
      refine ⟨fun k y hy => ?_, fun k hk => ?_⟩
      · cases k with
        | zero => simp at hy; subst hy; have := nd_tells hT hj2; omega
        | succ k => exact h1 k y (by simpa using hy)
      · cases k with
        | zero => exact hA a j ha hj2 har
        | succ k =>
          have := h2 k (by simpa using hk)
          exact this
theorem lif_full {G H : List (List Int)} {f w : List Int} {z : Int} (h : lifK G H f w z = true) : ((z.toNat : Nat) : Int) :: goQ G f (w.drop 1) z.toNat = liwI G H f w z := by
  have key : ∀ d k, k + d + 1 = w.length → lifL G f w z.toNat k ++ goQ G f (w.drop (k + 1)) (nd (lifL G f w z.toNat k) k) = lifL G f w z.toNat (w.length - 1) := by
    intro d
    induction d with
    | zero =>
      intro k hk
      rw [List.drop_eq_nil_of_le (by omega), show w.length - 1 = k by omega]
      simp [goQ]
    | succ d ih =>
      intro k hk
      obtain ⟨st, ex⟩ := lif_st h k (by omega)
      obtain ⟨j, hj, e⟩ := ex (by omega)
      obtain ⟨hc, hw, hz, hf0⟩ := lifK_iff.1 h
      have hT := (mapOk_iff.1 (cov_iff.1 hc).1).2.1
      obtain ⟨_, _, hwT, _⟩ := walk_iff.1 hw
      obtain ⟨u, hu, en, _⟩ := tells_at hwT (show k + 1 < w.length by omega)
      have hd : w.drop (k + 1) = ((u : Nat) : Int) :: w.drop (k + 2) := by
        obtain ⟨h1, h2⟩ := List.getElem?_eq_some_iff.1 hu
        rw [List.drop_eq_getElem_cons h1, h2]
      have hkz : kidZ G f (nd (lifL G f w z.toNat k) k) ((u : Nat) : Int) = some j := by rw [kidZ_eq hT, ← en]; exact hj
      have ih2 := ih (k + 1) (by omega)
      rw [hd, goQ_yes hkz, ← ih2, e]
      have := nd_last (f := lifL G f w z.toNat k) (x := j)
      rw [st.len] at this
      rw [this]
      simp
  obtain ⟨_, hw, hz, _⟩ := lifK_iff.1 h
  have h1 := (walk_iff.1 hw).2.1
  have := key (w.length - 1) 0 (by omega)
  rw [lif_zero] at this
  rw [lif_yes h, ← this]
  rfl
theorem lif_len {G H : List (List Int)} {f w : List Int} {z : Int} (h : lifK G H f w z = true) : (((z.toNat : Nat) : Int) :: goQ G f (w.drop 1) z.toNat).length = w.length := by
  rw [lif_full h]; exact (lif_fin h).2.1
/-- WHERE ALL IS LIFTED, it is a walk that can be lifted. -/
theorem lif_of {G H : List (List Int)} {f w : List Int} {z : Nat} {x : Int} (hc : covI G H f = true) (h1 : 1 ≤ w.length) (h13 : w.length ≤ 13) (hz : z < G.length) (hx : w[0]? = some x) (hx2 : f[z]? = some x)
    (hl : (((z : Nat) : Int) :: goQ G f (w.drop 1) z).length = w.length) : lifK G H f w (z : Int) = true := by
  obtain ⟨hg, hT, hA⟩ := mapOk_iff.1 (cov_iff.1 hc).1
  obtain ⟨u, hu, en, hub⟩ := tells_at hT hz
  have ex : x = ((nd f z : Nat) : Int) := by rw [hu] at hx2; cases hx2; rw [en]
  have hw : w = ((nd f z : Nat) : Int) :: w.drop 1 := by
    cases w with
    | nil => simp at h1
    | cons y ys => simp at hx; subst hx; rw [← ex]; rfl
  have hd : (w.drop 1).length + 1 = w.length := by rw [List.length_drop]; omega
  obtain ⟨t1, t2⟩ := goQ_full (cov_iff.1 hc).1 (w.drop 1) z hz (by rw [List.length_cons] at hl; omega)
  refine lifK_iff.2 ⟨hc, walk_iff.2 ⟨hg.2, ⟨h1, h13⟩, ⟨rfl, fun j y hy => ?_⟩, fun k hk => ?_⟩, ⟨by omega, by omega⟩, ?_⟩
  · cases j with
    | zero =>
      rw [hx] at hy; cases hy
      have := nd_tells hT hz
      omega
    | succ j => exact t1 j y (by rw [List.getElem?_drop]; rw [Nat.add_comm]; exact hy)
  · have := t2 k (by omega)
    rw [← hw] at this
    exact this
  · rw [Int.toNat_natCast]
    unfold nd
    rw [hx, hx2]
theorem lif_first {G H : List (List Int)} {f w : List Int} {z : Int} (h : lifK G H f w z = true) : ∃ x, f[z.toNat]? = some x ∧ w[0]? = some x := by
  obtain ⟨hc, hw, hz, hf0⟩ := lifK_iff.1 h
  have hT := (mapOk_iff.1 (cov_iff.1 hc).1).2.1
  obtain ⟨_, h1, hwT, _⟩ := walk_iff.1 hw
  obtain ⟨u, hu, en, _⟩ := tells_at hT (show z.toNat < G.length by omega)
  obtain ⟨v, hv, en2, _⟩ := tells_at hwT (show 0 < w.length by omega)
  rw [en, en2] at hf0
  exact ⟨_, hu, by rw [hv, hf0]⟩
/-- HOW FAR ONE HAS COME behind k steps. -/
theorem goQ_step {row : List Int} {k : Nat} {z : Int} (hz : row[k]? = some z) : row.drop k = z :: row.drop (k + 1) := by
  obtain ⟨h1, h2⟩ := List.getElem?_eq_some_iff.1 hz
  rw [List.drop_eq_getElem_cons h1, h2]

/-- SUMS, up to some node. -/
def outK (G : List (List Int)) (f : List Int) (k y n : Nat) : Nat := sumN n fun j => bN (nd f j == y && arw G k j)
def inK (G : List (List Int)) (f : List Int) (k y n : Nat) : Nat := sumN n fun j => bN (nd f j == y && arw G j k)
theorem outK_le (G : List (List Int)) (f : List Int) (k y : Nat) : ∀ n, outK G f k y n ≤ n
  | 0 => Nat.le_refl _
  | n + 1 => by have h1 := outK_le G f k y n; have h2 := bN_le1 (nd f n == y && arw G k n); show outK G f k y n + bN (nd f n == y && arw G k n) ≤ _; omega
theorem inK_le (G : List (List Int)) (f : List Int) (k y : Nat) : ∀ n, inK G f k y n ≤ n
  | 0 => Nat.le_refl _
  | n + 1 => by have h1 := inK_le G f k y n; have h2 := bN_le1 (nd f n == y && arw G n k); show inK G f k y n + bN (nd f n == y && arw G n k) ≤ _; omega
def fibK (f : List Int) (n : Nat) : Nat := sumN n fun j => bN (nd f j == 0)
theorem fibK_le (f : List Int) : ∀ n, fibK f n ≤ n
  | 0 => Nat.le_refl _
  | n + 1 => by have h1 := fibK_le f n; have h2 := bN_le1 (nd f n == 0); show fibK f n + bN (nd f n == 0) ≤ _; omega

end Go.Proofs.Ytldkgkpiceamhaa

namespace Go.Proofs.Ytldkgkpiceamhaa
open Go.RowKit Go.Shelf Go.Deep

/-- A CELL OF A ROW that lies below. -/
theorem mat_cell {n₀ : Nat} {W : World} {a : Option Addr} {xss : List (List Int)} (h : Mat n₀ W a xss) (hG : Good xss) {i j : Nat} (hi : i < xss.length) (hj : j < xss.length) :
    ∃ b o b' o' c', a = some ⟨b, o, none⟩ ∧ b < n₀ ∧ W.cell? ⟨b, o + i, none⟩ = some (.slice (some ⟨b', o', none⟩) xss.length c') ∧ b' < n₀ ∧ W.cell? ⟨b', o' + j, none⟩ = some (.int .i64 ((bN (arw xss i j) : Nat) : Int)) := by
  obtain ⟨b, o, a', c', xs, rfl, hb, hc0, hI, HX⟩ := h.at_ hi
  have hxl : xs.length = xss.length := (hG.2.2 xs (List.mem_of_getElem? HX.out)).1
  obtain ⟨b', o', v, rfl, hb', hd0, HY⟩ := hI.at_ (k := j) (by rw [hxl]; exact hj)
  have e := ent_eq HX.out HY.out
  rw [ent_bN hG hi hj] at e
  exact ⟨b, o, b', o', c', rfl, hb, by rw [← hxl]; exact hc0, hb', by rw [e]; exact hd0⟩
theorem outK_step (G : List (List Int)) (f : List Int) (k y n : Nat) : outK G f k y (n + 1) = outK G f k y n + bN (nd f n == y && arw G k n) := rfl
theorem inK_step (G : List (List Int)) (f : List Int) (k y n : Nat) : inK G f k y (n + 1) = inK G f k y n + bN (nd f n == y && arw G n k) := rfl

set_option maxRecDepth 100000 in
set_option maxHeartbeats 2000000 in
theorem covAt_any (n₀ : Nat) (a a' a3 : Option Addr) (c c' c3 : Nat) (G H : List (List Int)) (f : List Int) (k y : Nat) (w : World) (hM : Mat n₀ w a G) (hM' : Mat n₀ w a' H) (hI : Ints n₀ w a3 f) (hn : n₀ ≤ w.heap.size) (hG : Good G) (hG' : Good H) (hT : Tells G.length H.length f) (hk : k < G.length) (hy : y < H.length) :
    Calls Try.prog 93 #[.agg #[.slice a G.length c], .agg #[.slice a' H.length c'], .slice a3 f.length c3, .int .i64 k, .int .i64 y] w (Ans (.bool (covP G H f k y)) w) := by
  have hl9 := hG.2.1
  have hl9' := hG'.2.1
  have hfl1 : f.length ≤ G.length := by rw [hT.1]; exact Nat.le_refl _
  have hfl2 : G.length ≤ f.length := by rw [hT.1]; exact Nat.le_refl _
  have HFL := Lib.hid hT.1
  have es : ∀ (W : World) (o : Obj), (W.alloc o).heap.size = W.heap.size + 1 := fun W o => by simp
  have HG := Lib.hid hG
  have HG' := Lib.hid hG'
  have HT := Lib.hid hT
  clear hG hG' hT
  obtain ⟨z, HZz⟩ : ∃ z, Hid (covP G H f k y = z) := ⟨_, rfl⟩
  rw [HZz.out]
  go_enter Try.func93, Try.ntmps93
  go_wp2_with fail
  have bG := (Boxed.new w 61 (.slice a G.length c)).alloc (.cells #[.slice a' H.length c'] 61)
  have bH := Boxed.new (w.alloc (.cells #[.slice a G.length c] 61)) 61 (.slice a' H.length c')
  rw [es] at bH
  have hB := ((Below.refl w.heap.size w).alloc (Nat.le_refl _) (.cells #[.slice a G.length c] 61)).alloc (by simp) (.cells #[.slice a' H.length c'] 61)
  obtain ⟨V, hV⟩ : ∃ V, (w.alloc (.cells #[.slice a G.length c] 61)).alloc (.cells #[.slice a' H.length c'] 61) = V := ⟨_, rfl⟩
  rw [hV] at bG bH hB ⊢
  have hMV := hM.below (hB.mono hn)
  have hMV' := hM'.below (hB.mono hn)
  have hIV := hI.below (hB.mono hn)
  have cG := bG.cell
  have cH := bH.cell
  have HB := Lib.hid hB
  clear hV hM hM' hI bG bH hB
  go_loopw [11, 12, 17] (fun l m i wr => ∃ n : Nat, n ≤ f.length ∧ l = .int .i64 ((outK G f k y n : Nat) : Int) ∧ m = .int .i64 ((inK G f k y n : Nat) : Int) ∧ i = .int .i64 n ∧ wr = V) (fun _ _ i _ => f.length - (intOf i).toNat)
  case atStart => exact ⟨0, Nat.zero_le _, rfl, rfl, rfl, rfl⟩
  case round =>
    obtain ⟨n, hnf, rfl, rfl, rfl, hw⟩ := hrel
    subst hw
    have hp9 := outK_le G f k y n
    have hq9 := inK_le G f k y n
    by_cases hlt : n < f.length
    · have hnG : n < G.length := by omega
      obtain ⟨u, hu, en, hub⟩ := tells_at HT.out hnG
      obtain ⟨b3, o3, v, rfl, hb3, hc3, HV3⟩ := hIV.at_ hlt
      have hv : v = (u : Int) := by have := HV3.out; rw [hu] at this; exact (Option.some.inj this).symm
      subst hv
      obtain ⟨b1, o1, b2, o2, c2, rfl, hb1, hc1, hb2, hc2⟩ := mat_cell hMV HG.out hk hnG
      obtain ⟨b4, o4, b5, o5, c5, e4, hb4, hc4, hb5, hc5⟩ := mat_cell hMV HG.out hnG hk
      cases e4
      have HS1 := Lib.hid (outK_step G f k y n)
      have HS2 := Lib.hid (inK_step G f k y n)
      rw [en] at HS1 HS2
      obtain ⟨p, hp⟩ : ∃ p, outK G f k y n = p := ⟨_, rfl⟩
      obtain ⟨q, hq⟩ : ∃ q, inK G f k y n = q := ⟨_, rfl⟩
      rw [hp] at hp9 HS1 ⊢
      rw [hq] at hq9 HS2 ⊢
      obtain ⟨g1, hg1⟩ : ∃ r, arw G k n = r := ⟨_, rfl⟩
      obtain ⟨g2, hg2⟩ : ∃ r, arw G n k = r := ⟨_, rfl⟩
      rw [hg1] at hc2 HS1
      rw [hg2] at hc5 HS2
      have hki : (k : Int) < (G.length : Int) := by omega
      have hni : (n : Int) < (G.length : Int) := by omega
      clear hp hq hg1 hg2 en hu HV3 hub
      by_cases huy : u = y
      · have hbe : ((u : Int) == (y : Int)) = true := by rw [huy]; exact beq_self_eq_true _
        have HE1 : Hid (outK G f k y (n + 1) = p + bN g1) := Lib.hid (by rw [HS1.out, huy]; simp)
        have HE2 : Hid (inK G f k y (n + 1) = q + bN g2) := Lib.hid (by rw [HS2.out, huy]; simp)
        have hb1' := bN_le1 g1
        have hb2' := bN_le1 g2
        obtain ⟨r1, hr1⟩ : ∃ r, bN g1 = r := ⟨_, rfl⟩
        obtain ⟨r2, hr2⟩ : ∃ r, bN g2 = r := ⟨_, rfl⟩
        rw [hr1] at hc2 hb1' HE1
        rw [hr2] at hc5 hb2' HE2
        clear hr1 hr2 huy HS1 HS2
        go_wp2_with fail
        go_roundw
        case rel => exact ⟨n + 1, by omega, by rw [HE1.out]; go_num, by rw [HE2.out]; go_num, by go_num, trivial⟩
        case measure => simp [intOf]; omega
      · have hbe : ((u : Int) == (y : Int)) = false := beq_eq_false_iff_ne.2 (by omega)
        have HE1 : Hid (outK G f k y (n + 1) = p) := Lib.hid (by rw [HS1.out, beq_eq_false_iff_ne.2 huy]; rfl)
        have HE2 : Hid (inK G f k y (n + 1) = q) := Lib.hid (by rw [HS2.out, beq_eq_false_iff_ne.2 huy]; rfl)
        clear huy HS1 HS2
        go_wp2_with fail
        go_roundw
        case rel => exact ⟨n + 1, by omega, by rw [HE1.out], by rw [HE2.out], by go_num, trivial⟩
        case measure => simp [intOf]; omega
    · have hnn : n = G.length := by omega
      obtain ⟨u, hu, en, hub⟩ := tells_at HT.out hk
      have hkf : k < f.length := by omega
      obtain ⟨b3, o3, v, rfl, hb3, hc3, HV3⟩ := hIV.at_ hkf
      have hv : v = (u : Int) := by have := HV3.out; rw [hu] at this; exact (Option.some.inj this).symm
      subst hv
      obtain ⟨b1, o1, b2, o2, c2, rfl, hb1, hc1, hb2, hc2⟩ := mat_cell hMV' HG'.out hub hy
      obtain ⟨b4, o4, b5, o5, c5, e4, hb4, hc4, hb5, hc5⟩ := mat_cell hMV' HG'.out hy hub
      cases e4
      have HZ : Hid (covP G H f k y = (decide (outK G f k y n = bN (arw H u y)) && decide (inK G f k y n = bN (arw H y u)))) := Lib.hid (by rw [hnn, ← en]; rfl)
      rw [HZz.out] at HZ
      obtain ⟨p, hp⟩ : ∃ p, outK G f k y n = p := ⟨_, rfl⟩
      obtain ⟨q, hq⟩ : ∃ q, inK G f k y n = q := ⟨_, rfl⟩
      rw [hp] at hp9 HZ ⊢
      rw [hq] at hq9 HZ ⊢
      obtain ⟨r1, hr1⟩ : ∃ r, bN (arw H u y) = r := ⟨_, rfl⟩
      obtain ⟨r2, hr2⟩ : ∃ r, bN (arw H y u) = r := ⟨_, rfl⟩
      rw [hr1] at hc2 HZ
      rw [hr2] at hc5 HZ
      have hui : (u : Int) < (H.length : Int) := by omega
      have hyi : (y : Int) < (H.length : Int) := by omega
      have hkfi : (k : Int) < (f.length : Int) := by omega
      clear hp hq hr1 hr2 en hu HV3 hnn HZz
      by_cases h1 : p = r1
      · have hd1 : ((p : Int) == (r1 : Int)) = true := by rw [h1]; exact beq_self_eq_true _
        have HZ2 : Hid (z = decide (q = r2)) := Lib.hid (by rw [HZ.out, decide_eq_true h1, Bool.true_and])
        clear HZ h1
        go_wp2_with fail
        go_quiet (fail)
        go_wp2_with fail
        go_ret
        exact ⟨ret_bool (by rw [HZ2.out, Bool.eq_iff_iff]; simp; omega), below_drewN HB.out _⟩
      · have hd1 : ((p : Int) == (r1 : Int)) = false := beq_eq_false_iff_ne.2 (by omega)
        have HZ2 : Hid (z = false) := Lib.hid (by rw [HZ.out, decide_eq_false h1, Bool.false_and])
        clear HZ h1
        go_wp2_with fail
        go_quiet (fail)
        go_wp2_with fail
        go_ret
        exact ⟨ret_bool HZ2.out.symm, below_drewN HB.out _⟩

def covA (G H : List (List Int)) (f : List Int) : Bool := (List.range G.length).all fun k => (List.range H.length).all fun y => covP G H f k y
theorem covA_eq {G H : List (List Int)} {f : List Int} (h : mapOkI G H f = true) : covI G H f = covA G H f := by unfold covI covA; rw [h, Bool.true_and]
theorem covA_no {G H : List (List Int)} {f : List Int} {k y : Nat} (hk : k < G.length) (hy : y < H.length) (h : covP G H f k y = false) : covA G H f = false := by
  unfold covA
  refine List.all_eq_false.2 ⟨k, by simpa using hk, ?_⟩
  rw [Bool.not_eq_true]
  exact List.all_eq_false.2 ⟨y, by simpa using hy, by rw [h]; decide⟩
theorem covA_yes {G H : List (List Int)} {f : List Int} (h : ∀ k, k < G.length → ∀ y, y < H.length → covP G H f k y = true) : covA G H f = true := by
  unfold covA
  simp only [List.all_eq_true, List.mem_range]
  exact h

set_option maxRecDepth 100000 in
set_option maxHeartbeats 2000000 in
theorem covers_any (n₀ : Nat) (a a' a3 : Option Addr) (c c' c3 : Nat) (G H : List (List Int)) (f : List Int) (w : World) (hM : Mat n₀ w a G) (hM' : Mat n₀ w a' H) (hI : Ints n₀ w a3 f) (hn : n₀ ≤ w.heap.size) (hG : Good G) (hG' : Good H) (hT : Tells G.length H.length f) :
    Calls Try.prog 57 #[.agg #[.slice a G.length c], .agg #[.slice a' H.length c'], .slice a3 f.length c3] w (Ans (.bool (covA G H f)) w) := by
  have hl9 := hG.2.1
  have hl9' := hG'.2.1
  have hfl1 : f.length ≤ G.length := by rw [hT.1]; exact Nat.le_refl _
  have hfl2 : G.length ≤ f.length := by rw [hT.1]; exact Nat.le_refl _
  have es : ∀ (W : World) (o : Obj), (W.alloc o).heap.size = W.heap.size + 1 := fun W o => by simp
  have HC : Hid (∀ (W : World) (k y : Nat), Below w.heap.size w W → k < G.length → y < H.length → Calls Try.prog 93 #[.agg #[.slice a G.length c], .agg #[.slice a' H.length c'], .slice a3 f.length c3, .int .i64 k, .int .i64 y] W (Ans (.bool (covP G H f k y)) W)) := Lib.hid fun W k y hB hk hy =>
    covAt_any n₀ a a' a3 c c' c3 G H f k y W (hM.below (hB.mono hn)) (hM'.below (hB.mono hn)) (hI.below (hB.mono hn)) (Nat.le_trans hn hB.size) hG hG' hT hk hy
  obtain ⟨z, HZ⟩ : ∃ z, Hid (covA G H f = z) := ⟨_, rfl⟩
  rw [HZ.out]
  clear hM hM' hI hG hG' hT
  go_enter Try.func57, Try.ntmps57
  go_wp2_with fail
  have bG := (Boxed.new w 61 (.slice a G.length c)).alloc (.cells #[.slice a' H.length c'] 61)
  have bH := Boxed.new (w.alloc (.cells #[.slice a G.length c] 61)) 61 (.slice a' H.length c')
  rw [es] at bH
  have hB := ((Below.refl w.heap.size w).alloc (Nat.le_refl _) (.cells #[.slice a G.length c] 61)).alloc (by simp) (.cells #[.slice a' H.length c'] 61)
  obtain ⟨V, hV⟩ : ∃ V, (w.alloc (.cells #[.slice a G.length c] 61)).alloc (.cells #[.slice a' H.length c'] 61) = V := ⟨_, rfl⟩
  rw [hV] at bG bH hB ⊢
  clear hV
  go_loopw [11] (fun i wr => ∃ n : Nat, n ≤ f.length ∧ i = .int .i64 n ∧ Boxed wr w.heap.size 61 (.slice a G.length c) ∧ Boxed wr (w.heap.size + 1) 61 (.slice a' H.length c') ∧ Below w.heap.size w wr ∧ Hid (∀ k, k < n → ∀ y, y < H.length → covP G H f k y = true)) (fun i _ => f.length - (intOf i).toNat)
  case atStart => exact ⟨0, Nat.zero_le _, rfl, bG, bH, hB, Lib.hid fun k hk => absurd hk (Nat.not_lt_zero _)⟩
  case round =>
    obtain ⟨n, hnf, rfl, bG1, bH1, hB1, HR⟩ := hrel
    clear bG bH hB
    by_cases hlt : n < f.length
    · have cH := bH1.cell
      go_wp2_with fail
      refine (nodesP _ _ _ _).mono ?_
      rintro e w1 ⟨rfl, rfl⟩
      have bG2 := bG1.alloc (.cells #[.slice a' H.length c'] 61)
      have bH2 := bH1.alloc (.cells #[.slice a' H.length c'] 61)
      have hB2 := hB1.alloc hB1.size (.cells #[.slice a' H.length c'] 61)
      obtain ⟨V1, hV1⟩ : ∃ V, wr.alloc (.cells #[.slice a' H.length c'] 61) = V := ⟨_, rfl⟩
      rw [hV1] at bG2 bH2 hB2 ⊢
      clear hV1 cH bG1 bH1 hB1
      go_wp2_with fail
      go_loopw [16] (fun i wr => ∃ m : Nat, m ≤ H.length ∧ i = .int .i64 m ∧ Boxed wr w.heap.size 61 (.slice a G.length c) ∧ Boxed wr (w.heap.size + 1) 61 (.slice a' H.length c') ∧ Below w.heap.size w wr ∧ Hid (∀ y, y < m → covP G H f n y = true)) (fun i _ => H.length - (intOf i).toNat)
      case atStart => exact ⟨0, Nat.zero_le _, rfl, bG2, bH2, hB2, Lib.hid fun y hy => absurd hy (Nat.not_lt_zero _)⟩
      case round =>
        obtain ⟨m, hm, rfl, bG3, bH3, hB3, HR2⟩ := hrel
        clear bG2 bH2 hB2
        have cG := bG3.cell
        have cH := bH3.cell
        have hws := hB3.size
        by_cases hlt2 : m < H.length
        · have HCC := Lib.hid (HC.out wr n m hB3 (by omega) hlt2)
          by_cases hc : covP G H f n m = true
          · rw [hc] at HCC
            have HCV := Lib.hid hc
            clear hc
            go_wp2_with fail
            refine HCC.out.mono ?_
            rintro e w3 ⟨rfl, hB4⟩
            have bG4 := (hB4.block _ bG3.lt).trans bG3
            have bH4 := (hB4.block _ bH3.lt).trans bH3
            have hB5 := hB3.trans (hB4.mono hws)
            clear cG cH HCC hB4
            go_wp2_with fail
            go_roundw
            case rel => exact ⟨m + 1, by omega, by go_num, bG4, bH4, hB5, Lib.hid fun y hy => by
              by_cases e : y = m
              · subst e; exact HCV.out
              · exact HR2.out y (by omega)⟩
            case measure => simp [intOf]; omega
          · have hc' : covP G H f n m = false := by simpa using hc
            rw [hc'] at HCC
            have HN : Hid (z = false) := Lib.hid (HZ.out.symm.trans (covA_no (by omega) hlt2 hc'))
            clear hc hc'
            go_wp2_with fail
            refine HCC.out.mono ?_
            rintro e w3 ⟨rfl, hB4⟩
            go_wp2_with fail
            go_ret
            exact ⟨ret_bool HN.out.symm, hB3.trans (hB4.mono hws)⟩
        · have hmm : m = H.length := by omega
          go_wp2_with fail
          go_roundw
          case rel => exact ⟨n + 1, by omega, by go_num, bG3, bH3, hB3, Lib.hid fun k hk y hy => by
            by_cases e : k = n
            · subst e; exact HR2.out y (by omega)
            · exact HR.out k (by omega) y hy⟩
          case measure => simp [intOf]; omega
    · have HN : Hid (z = true) := Lib.hid (HZ.out.symm.trans (covA_yes fun k hk y hy => HR.out k (by omega) y hy))
      go_wp2_with fail
      go_ret
      exact ⟨ret_bool HN.out.symm, hB1⟩

set_option maxRecDepth 100000 in
set_option maxHeartbeats 1000000 in
theorem implCov (a a' a3 : Option Addr) (c c' c3 : Nat) (G H : List (List Int)) (f : List Int) (w : World) (hM : Mat w.heap.size w a G) (hM' : Mat w.heap.size w a' H) (hI : Ints w.heap.size w a3 f) (hF : Fit G) (hF' : Fit H) (hl : f.length ≤ 1048576) :
    Calls Try.prog 16 #[.slice a G.length c, .slice a' H.length c', .slice a3 f.length c3] w (Ans (.bool (covI G H f)) w) := by
  have HMO := Lib.hid (implMapOk a c a' c' a3 c3 G H f w hM hM' hI hF hF' hl)
  cases hm : mapOkI G H f with
  | false =>
    rw [hm] at HMO
    rw [cov_no hm]
    clear hm hM hM' hI hF hF' hl
    go_enter Try.func16, Try.ntmps16
    go_wp2_with fail
    refine HMO.out.mono ?_
    rintro e w1 ⟨rfl, hB1⟩
    go_wp2_with fail
    go_ret
    exact ⟨rfl, hB1⟩
  | true =>
    rw [hm] at HMO
    rw [covA_eq hm]
    obtain ⟨⟨hg, hg'⟩, hT, _⟩ := mapOk_iff.1 hm
    have HC : Hid (∀ w1, Below w.heap.size w w1 → Calls Try.prog 57 #[.agg #[.slice a G.length c], .agg #[.slice a' H.length c'], .slice a3 f.length c3] w1 (Ans (.bool (covA G H f)) w1)) := Lib.hid fun w1 hB =>
      covers_any w.heap.size a a' a3 c c' c3 G H f w1 (hM.below hB) (hM'.below hB) (hI.below hB) hB.size (good_of hg) (good_of hg') hT
    clear hm hM hM' hI hF hF' hl hg hg' hT
    go_enter Try.func16, Try.ntmps16
    go_wp2_with fail
    refine HMO.out.mono ?_
    rintro e w1 ⟨rfl, hB1⟩
    have HC1 := Lib.hid (HC.out w1 hB1)
    have HB1 := Lib.hid hB1
    clear hB1 HC HMO
    go_wp2_with fail
    refine HC1.out.mono ?_
    rintro e w2 ⟨rfl, hB2⟩
    go_wp2_with fail
    go_ret
    exact ⟨rfl, HB1.out.trans (hB2.mono HB1.out.size)⟩

set_option maxHeartbeats 1000000 in
theorem asLong_any (a : Option Addr) (n c : Nat) (hn : n ≤ 1048576) (w : World) : Calls Try.prog 67 #[.slice a n c] w (Ans (.bool (decide (1 ≤ n ∧ n ≤ 13))) w) := by
  have HB := Lib.hid (Below.refl w.heap.size w)
  by_cases h1 : 1 ≤ n
  · have d1 : decide ((1 : Int) ≤ (n : Int)) = true := decide_eq_true (by omega)
    by_cases h2 : n ≤ 13
    · have d2 : decide ((n : Int) ≤ 13) = true := decide_eq_true (by omega)
      rw [decide_eq_true ⟨h1, h2⟩]
      go_enter Try.func67, Try.ntmps67
      go_wp2_with fail
      go_ret
      exact ⟨rfl, HB.out⟩
    · have d2 : decide ((n : Int) ≤ 13) = false := decide_eq_false (by omega)
      rw [decide_eq_false (fun h => h2 h.2)]
      go_enter Try.func67, Try.ntmps67
      go_wp2_with fail
      go_ret
      exact ⟨rfl, HB.out⟩
  · have d1 : decide ((1 : Int) ≤ (n : Int)) = false := decide_eq_false (by omega)
    rw [decide_eq_false (fun h => h1 h.1)]
    go_enter Try.func67, Try.ntmps67
    go_wp2_with fail
    go_ret
    exact ⟨rfl, HB.out⟩

/-- WHAT HOLDS OF A WALK's first nodes. -/
def WalkTo14 (G : List (List Int)) (f : List Int) (n : Nat) : Prop := (∀ (j : Nat) (y : Int), j < n → f[j]? = some y → 0 ≤ y ∧ y < G.length) ∧ ∀ j, j + 1 < n → arw G (nd f j) (nd f (j + 1)) = true
theorem walkTo_no {G : List (List Int)} {f : List Int} {n : Nat} {y : Int} (hy : f[n]? = some y) (h : ¬ (0 ≤ y ∧ y < G.length)) : walkI G f = false := by
  rw [Bool.eq_false_iff]; intro e
  exact h ((walk_iff.1 e).2.2.1.2 n y hy)
theorem walkTo_noA {G : List (List Int)} {f : List Int} {n : Nat} (hn : n + 1 < f.length) (h : arw G (nd f n) (nd f (n + 1)) = false) : walkI G f = false := by
  rw [Bool.eq_false_iff]; intro e
  have := (walk_iff.1 e).2.2.2 n hn
  rw [h] at this; cases this
theorem walkTo_yes {G : List (List Int)} {f : List Int} (hg : gOk G = true) (hl : 1 ≤ f.length ∧ f.length ≤ 13) (h : WalkTo14 G f f.length) : walkI G f = true :=
  walk_iff.2 ⟨hg, hl, ⟨rfl, fun j y hy => h.1 j y (List.getElem?_eq_some_iff.1 hy).1 hy⟩, h.2⟩
theorem walkI_no {G : List (List Int)} {f : List Int} (h : gOk G = false) : walkI G f = false := by unfold walkI; rw [h]; rfl
theorem walkI_noL {G : List (List Int)} {f : List Int} (h : ¬ (1 ≤ f.length ∧ f.length ≤ 13)) : walkI G f = false := by
  rw [Bool.eq_false_iff]; intro e
  exact h (walk_iff.1 e).2.1

set_option maxRecDepth 100000 in
set_option maxHeartbeats 2000000 in
theorem implWlk (a a' : Option Addr) (c c' : Nat) (G : List (List Int)) (f : List Int) (w : World) (hM : Mat w.heap.size w a G) (hI : Ints w.heap.size w a' f) (hF : Fit G) (hl : f.length ≤ 1048576) :
    Calls Try.prog 22 #[.slice a G.length c, .slice a' f.length c'] w (Ans (.bool (walkI G f)) w) := by
  have HOk := Lib.hid (implOk a c G w hM hF)
  have HAL := Lib.hid (fun W => asLong_any a' f.length c' hl W)
  obtain ⟨z, HZ⟩ : ∃ z, Hid (walkI G f = z) := ⟨_, rfl⟩
  rw [HZ.out]
  cases hg : gOk G with
  | false =>
    rw [hg] at HOk
    have HN : Hid (z = false) := Lib.hid (HZ.out.symm.trans (walkI_no hg))
    clear hg hM hI hF hl
    go_enter Try.func22, Try.ntmps22
    go_wp2_with fail
    refine HOk.out.mono ?_
    rintro e w1 ⟨rfl, hB1⟩
    go_wp2_with fail
    go_ret
    exact ⟨ret_bool HN.out.symm, hB1⟩
  | true =>
    rw [hg] at HOk
    have HG := Lib.hid (good_of hg)
    have hl9 := HG.out.2.1
    by_cases h13 : 1 ≤ f.length ∧ f.length ≤ 13
    · rw [decide_eq_true h13] at HAL
      have HY := Lib.hid (fun h => walkTo_yes (f := f) hg h13 h)
      have hf13 := h13.2
      have hAll : ∀ W : World, Calls Try.prog 67 #[.slice a' f.length c'] W (Ans (.bool true) W) := HAL.out
      have HAL2 := Lib.hid hAll
      clear hg hF hAll HAL h13
      go_enter Try.func22, Try.ntmps22
      go_wp2_with fail
      refine HOk.out.mono ?_
      rintro e w1 ⟨rfl, hB1⟩
      have hz1 := hB1.size
      have HB1 := Lib.hid hB1
      clear hB1
      go_wp2_with fail
      refine (HAL2.out w1).mono ?_
      rintro e w2 ⟨rfl, hB2⟩
      have hB3 := HB1.out.trans (hB2.mono hz1)
      clear hB2 HB1 HOk HAL2
      go_wp2_with fail
      go_loopw [17] (fun i wr => ∃ n : Nat, n ≤ f.length ∧ i = .int .i64 n ∧ Below w.heap.size w wr ∧ Hid (WalkTo14 G f n)) (fun i _ => f.length - (intOf i).toNat)
      case atStart => exact ⟨0, Nat.zero_le _, rfl, hB3, Lib.hid ⟨fun j y h => absurd h (Nat.not_lt_zero _), fun j h => absurd h (Nat.not_lt_zero _)⟩⟩
      case round =>
        obtain ⟨n, hn, rfl, hB, HR⟩ := hrel
        clear hB3
        have hws := hB.size
        by_cases hlt : n < f.length
        · obtain ⟨b, o, y, rfl, hb, hc0, HV⟩ := hI.at_ hlt
          have hc : wr.cell? ⟨b, o + n, none⟩ = some (.int .i64 y) := (hB.cell (p := ⟨b, o + n, none⟩) (by show b < _; omega)).trans hc0
          clear hc0
          by_cases hy0 : y < 0
          · have HN : Hid (z = false) := Lib.hid (HZ.out.symm.trans (walkTo_no HV.out (by omega)))
            go_wp2_with fail
            go_ret
            exact ⟨ret_bool HN.out.symm, hB⟩
          by_cases hy1 : (G.length : Int) ≤ y
          · have HN : Hid (z = false) := Lib.hid (HZ.out.symm.trans (walkTo_no HV.out (by omega)))
            go_wp2_with fail
            go_ret
            exact ⟨ret_bool HN.out.symm, hB⟩
          obtain ⟨u, rfl⟩ : ∃ u : Nat, y = (u : Int) := ⟨y.toNat, by omega⟩
          have hu : u < G.length := by omega
          have HU : Hid (nd f n = u) := Lib.hid (by rw [nd_eq HV.out]; exact Int.toNat_natCast _)
          by_cases hn0 : n = 0
          · subst hn0
            have hc9 : wr.cell? ⟨b, o, none⟩ = some (.int .i64 (u : Int)) := hc
            have HR2 : Hid (WalkTo14 G f 1) := Lib.hid ⟨fun j x hj hx => by
              obtain rfl : j = 0 := by omega
              rw [HV.out] at hx; cases hx; omega, fun j hj => by omega⟩
            go_wp2_with fail
            go_roundw
            case rel => exact ⟨1, by omega, by go_num, hB, HR2⟩
            case measure => simp [intOf]; omega
          · have hn1 : n - 1 < f.length := by omega
            obtain ⟨b5, o5, y5, e5, hb5, hc5, HV5⟩ := hI.at_ hn1
            cases e5
            have hy5 := HR.out.1 (n - 1) y5 (by omega) HV5.out
            obtain ⟨p, rfl⟩ : ∃ p : Nat, y5 = (p : Int) := ⟨y5.toNat, by omega⟩
            have hp : p < G.length := by omega
            have HP : Hid (nd f (n - 1) = p) := Lib.hid (by rw [nd_eq HV5.out]; exact Int.toNat_natCast _)
            have hc6 : wr.cell? ⟨b, o + (n - 1), none⟩ = some (.int .i64 (p : Int)) := (hB.cell (p := ⟨b, o + (n - 1), none⟩) (by show b < _; omega)).trans hc5
            have hni : (n : Int) - 1 = ((n - 1 : Nat) : Int) := by omega
            have hni0 : (0 : Int) ≤ (n : Int) - 1 := by omega
            have hni1 : (n : Int) - 1 < (f.length : Int) := by omega
            have hnp : decide ((0 : Int) < (n : Int)) = true := decide_eq_true (by omega)
            have HA := Lib.hid (arrowC w.heap.size a c G wr (hM.below hB) hws HG.out p u hp hu)
            clear hc5 hy5
            cases ha : arw G p u with
            | false =>
              rw [ha] at HA
              have HN : Hid (z = false) := Lib.hid (HZ.out.symm.trans (walkTo_noA (n := n - 1) (by omega) (by rw [show n - 1 + 1 = n by omega, HP.out, HU.out, ha])))
              clear ha
              go_wp2_with fail
              refine HA.out.mono ?_
              rintro e w' ⟨rfl, rfl⟩
              go_wp2_with fail
              go_ret
              exact ⟨ret_bool HN.out.symm, hB.alloc hws _⟩
            | true =>
              rw [ha] at HA
              have HR2 : Hid (WalkTo14 G f (n + 1)) := Lib.hid ⟨fun j x hj hx => by
                by_cases e : j = n
                · subst e; rw [HV.out] at hx; cases hx; omega
                · exact HR.out.1 j x (by omega) hx, fun j hj => by
                by_cases e : j + 1 = n
                · obtain rfl : j = n - 1 := by omega
                  rw [e, HP.out, HU.out, ha]
                · exact HR.out.2 j (by omega)⟩
              clear ha
              go_wp2_with fail
              refine HA.out.mono ?_
              rintro e w' ⟨rfl, rfl⟩
              go_wp2_with fail
              go_roundw
              case rel => exact ⟨n + 1, by omega, by go_num, hB.alloc hws _, HR2⟩
              case measure => simp [intOf]; omega
        · obtain rfl : n = f.length := by omega
          have HN : Hid (z = true) := Lib.hid (HZ.out.symm.trans (HY.out HR.out))
          go_wp2_with fail
          go_ret
          exact ⟨ret_bool HN.out.symm, hB⟩
    · rw [decide_eq_false h13] at HAL
      have HN : Hid (z = false) := Lib.hid (HZ.out.symm.trans (walkI_noL h13))
      clear hg hM hI hF hl h13
      go_enter Try.func22, Try.ntmps22
      go_wp2_with fail
      refine HOk.out.mono ?_
      rintro e w1 ⟨rfl, hB1⟩
      have HB1 := Lib.hid hB1
      clear hB1
      go_wp2_with fail
      refine (HAL.out w1).mono ?_
      rintro e w2 ⟨rfl, hB2⟩
      go_wp2_with fail
      go_ret
      exact ⟨ret_bool HN.out.symm, HB1.out.trans (hB2.mono HB1.out.size)⟩

end Go.Proofs.Ytldkgkpiceamhaa

namespace Go.Proofs.Ytldkgkpiceamhaa
open Go.RowKit Go.Shelf Go.Deep

/-- WHAT THE LIFTER FINDS. -/
structure LfCtx (n₀ Bf Bg Ba : Nat) (a a3 : Option Addr) (c c3 : Nat) (G : List (List Int)) (f : List Int) (p : Nat) (W : World) : Prop where
  fb : Boxed W Bf 24 (.slice a3 f.length c3)
  gb : Boxed W Bg 61 (.slice a G.length c)
  at_ : Boxed W Ba 3 (.int .i64 (p : Int))
  mat : Mat n₀ W a G
  ints : Ints n₀ W a3 f
  le : n₀ ≤ W.heap.size
theorem LfCtx.below {n₀ Bf Bg Ba : Nat} {a a3 : Option Addr} {c c3 : Nat} {G : List (List Int)} {f : List Int} {p : Nat} {W W' : World} (h : LfCtx n₀ Bf Bg Ba a a3 c c3 G f p W) (hb : Below W.heap.size W W') : LfCtx n₀ Bf Bg Ba a a3 c c3 G f p W' :=
  ⟨(hb.block _ h.fb.lt).trans h.fb, (hb.block _ h.gb.lt).trans h.gb, (hb.block _ h.at_.lt).trans h.at_, h.mat.below (hb.mono h.le), h.ints.below (hb.mono h.le), Nat.le_trans h.le hb.size⟩
theorem LfCtx.step {n₀ Bf Bg Ba : Nat} {a a3 : Option Addr} {c c3 : Nat} {G : List (List Int)} {f : List Int} {p : Nat} {W : World} (h : LfCtx n₀ Bf Bg Ba a a3 c c3 G f p W) (hn : n₀ ≤ Ba) (h1 : Bf ≠ Ba) (h2 : Bg ≠ Ba) (j : Nat) : LfCtx n₀ Bf Bg Ba a a3 c c3 G f j (W.setCell ⟨Ba, 0, none⟩ (.int .i64 (j : Int))) := by
  have hb : Below n₀ W (W.setCell ⟨Ba, 0, none⟩ (.int .i64 (j : Int))) := (Below.refl n₀ W).setCell (p := ⟨Ba, 0, none⟩) hn _
  exact ⟨(Below.heap_setCell W ⟨Ba, 0, none⟩ _ Bf h1).trans h.fb, (Below.heap_setCell W ⟨Ba, 0, none⟩ _ Bg h2).trans h.gb, h.at_.set _, h.mat.below hb, h.ints.below hb, by simpa using h.le⟩
theorem LfCtx.kept {n₀ Bf Bg Ba : Nat} {a a3 : Option Addr} {c c3 : Nat} {G : List (List Int)} {f : List Int} {p : Nat} {W W' : World} {row : Option Nat} (h : LfCtx n₀ Bf Bg Ba a a3 c c3 G f p W) (hg : W.grownBy W' row) (hr : ∀ r, row = some r → n₀ ≤ r ∧ Bf ≠ r ∧ Bg ≠ r ∧ Ba ≠ r) : LfCtx n₀ Bf Bg Ba a a3 c c3 G f p W' := by
  have hb : Below n₀ W W' := (Below.refl n₀ W).grown hg h.le (fun r e => (hr r e).1)
  exact ⟨h.fb.kept hg (fun e => (hr _ e.symm).2.1 rfl), h.gb.kept hg (fun e => (hr _ e.symm).2.2.1 rfl), h.at_.kept hg (fun e => (hr _ e.symm).2.2.2 rfl), h.mat.below hb, h.ints.below hb, Nat.le_trans h.le hg.size⟩

set_option maxHeartbeats 1000000 in
theorem lifter_any (a a3 : Option Addr) (m c l3 c3 s : Nat) (w : World) : Calls Try.prog 96 #[.agg #[.slice a m c], .slice a3 l3 c3, .int .i64 (s : Int)] w
    fun e w' => e = .returned (.func (.func 110) #[] #[.pointer (some ⟨w.heap.size + 1, 0, none⟩), .pointer (some ⟨w.heap.size, 0, none⟩), .pointer (some ⟨w.heap.size + 1 + 1, 0, none⟩)]) ∧ w' = ((w.alloc (.cells #[.slice a m c] 61)).alloc (.cells #[.slice a3 l3 c3] 24)).alloc (.cells #[.int .i64 (s : Int)] 3) := by
  go_enter Try.func96, Try.ntmps96
  go_wp2_with fail
  go_ret
  exact ⟨by simp, rfl⟩

/-- ONE STEP, LIFTED, or none. -/
def LiftO (o : Option Nat) (Ba : Nat) (w : World) (e : Ending) (w' : World) : Prop :=
  match o with
  | some j => e = .returned (.tuple #[.int .i64 (j : Int), .bool true]) ∧ ∃ w1, Below w.heap.size w w1 ∧ w' = w1.setCell ⟨Ba, 0, none⟩ (.int .i64 (j : Int))
  | none => e = .returned (.tuple #[.int .i64 0, .bool false]) ∧ Below w.heap.size w w'

set_option maxRecDepth 100000 in
set_option maxHeartbeats 2000000 in
theorem lift_any {n₀ Bf Bg Ba : Nat} {a a3 : Option Addr} {c c3 : Nat} {G : List (List Int)} {f : List Int} {p : Nat} (z : Int) (w : World) (hC : LfCtx n₀ Bf Bg Ba a a3 c c3 G f p w) (hG : Good G) (hl : f.length = G.length) (hp : p < G.length) :
    Calls Try.prog 110 #[.int .i64 z, .pointer (some ⟨Bf, 0, none⟩), .pointer (some ⟨Bg, 0, none⟩), .pointer (some ⟨Ba, 0, none⟩)] w (LiftO (kidZ G f p z) Ba w) := by
  have hl9 := hG.2.1
  have HG := Lib.hid hG
  have HC := Lib.hid hC
  have hfl1 : f.length ≤ G.length := by omega
  have hfl2 : G.length ≤ f.length := by omega
  have cF := hC.fb.cell
  have hlw := hC.at_.lt
  obtain ⟨o, HO⟩ : ∃ o, Hid (kidZ G f p z = o) := ⟨_, rfl⟩
  rw [HO.out]
  clear hG hC hl
  go_enter Try.func110, Try.ntmps110
  go_wp2_with fail
  go_loopw [11] (fun i wr => ∃ n : Nat, n ≤ f.length ∧ i = .int .i64 n ∧ Below w.heap.size w wr ∧ Hid (∀ j, j < n → ¬ (f[j]? = some z ∧ arw G p j = true))) (fun i _ => f.length - (intOf i).toNat)
  case atStart => exact ⟨0, Nat.zero_le _, rfl, Below.refl _ _, Lib.hid fun j h => absurd h (Nat.not_lt_zero _)⟩
  case round =>
    obtain ⟨n, hnf, rfl, hB, HR⟩ := hrel
    clear cF
    have hC := HC.out.below hB
    have hws := hB.size
    by_cases hlt : n < f.length
    · obtain ⟨b, o3, v, rfl, hb, hc0, HV⟩ := hC.ints.at_ hlt
      have cG := hC.gb.cell
      have cA := hC.at_.cell
      have fA := hC.at_.frozen
      by_cases hvz : v = z
      · have hbe : (v == z) = true := by rw [hvz]; exact beq_self_eq_true _
        have HA := Lib.hid (arrowC n₀ a c G wr hC.mat hC.le HG.out p n hp (by omega))
        have HAt := Lib.hid hC.at_
        clear hC
        cases ha : arw G p n with
        | true =>
          rw [ha] at HA
          have HO2 : Hid (o = some n) := Lib.hid (HO.out.symm.trans (kidZ_at hlt (by rw [HV.out, hvz]) ha HR.out))
          clear ha hvz
          go_wp2_with fail
          refine HA.out.mono ?_
          rintro e w' ⟨rfl, rfl⟩
          have hA2 := HAt.out.alloc (.cells #[.slice a G.length c] 61)
          have cA2 := hA2.cell
          have fA2 := hA2.frozen
          have cA3 := (hA2.set (.int .i64 (n : Int))).cell
          go_wp2_with fail
          go_ret2
          rw [HO2.out]
          exact ⟨rfl, _, hB.alloc hws _, rfl⟩
        | false =>
          rw [ha] at HA
          have HR2 : Hid (∀ j, j < n + 1 → ¬ (f[j]? = some z ∧ arw G p j = true)) := Lib.hid fun j hj => by
            by_cases e : j = n
            · subst e; rintro ⟨_, h⟩; rw [ha] at h; cases h
            · exact HR.out j (by omega)
          clear ha hvz
          go_wp2_with fail
          refine HA.out.mono ?_
          rintro e w' ⟨rfl, rfl⟩
          go_wp2_with fail
          go_roundw
          case rel => exact ⟨n + 1, by omega, by go_num, hB.alloc hws _, HR2⟩
          case measure => simp [intOf]; omega
      · have hbe : (v == z) = false := beq_eq_false_iff_ne.2 hvz
        have HR2 : Hid (∀ j, j < n + 1 → ¬ (f[j]? = some z ∧ arw G p j = true)) := Lib.hid fun j hj => by
          by_cases e : j = n
          · subst e; rintro ⟨h, _⟩; rw [HV.out] at h; exact hvz (Option.some.inj h)
          · exact HR.out j (by omega)
        clear hvz hC
        go_wp2_with fail
        go_roundw
        case rel => exact ⟨n + 1, by omega, by go_num, hB, HR2⟩
        case measure => simp [intOf]; omega
    · have HO2 : Hid (o = none) := Lib.hid (HO.out.symm.trans (kidZ_none fun j hj => HR.out j (by omega)))
      go_wp2_with fail
      go_ret2
      rw [HO2.out]
      exact ⟨rfl, hB⟩

set_option maxRecDepth 100000 in
set_option maxHeartbeats 4000000 in
theorem lifted_any (a a3 a4 : Option Addr) (c c3 c4 : Nat) (G : List (List Int)) (f row : List Int) (s : Nat) (w : World) (hM : Mat w.heap.size w a G) (hI : Ints w.heap.size w a3 f) (hI' : Ints w.heap.size w a4 row) (hG : Good G) (hl : f.length = G.length) (hs : s < G.length) (h1 : 1 ≤ row.length) (h13 : row.length ≤ 13) (hc4 : row.length ≤ c4) :
    Calls Try.prog 69 #[.agg #[.slice a G.length c], .slice a3 f.length c3, .slice a4 row.length c4, .int .i64 (s : Int)] w (MadeOwn ((s : Int) :: goQ G f (row.drop 1) s) w) := by
  obtain ⟨i1, hj, hy0, hy1, hy2⟩ := info_parts infoInt
  have es : ∀ (W : World) (o : Obj), (W.alloc o).heap.size = W.heap.size + 1 := fun W o => by simp
  have HG := Lib.hid hG
  have HL := Lib.hid hl
  obtain ⟨zs, HZ⟩ : ∃ zs, Hid ((s : Int) :: goQ G f (row.drop 1) s = zs) := ⟨_, rfl⟩
  rw [HZ.out]
  have hn0 : row ≠ [] := by rintro rfl; simp at h1
  obtain ⟨b4, o4, rfl, hb4, hcell⟩ := hI' hn0
  have HCE := Lib.hid hcell
  have HM := Lib.hid hM
  have HI := Lib.hid hI
  have hsl : sliced (some ⟨b4, o4, none⟩) 1 row.length c4 1 = .slice (some ⟨b4, o4 + (if c4 = 1 then 0 else 1), none⟩) (row.length - 1) (c4 - 1) := by
    unfold sliced
    by_cases e : c4 = 1
    · rw [if_pos e, if_pos e]; rfl
    · rw [if_neg e, if_neg e]; rfl
  clear hM hI hI' hG hl hcell hn0
  go_enter Try.func69, Try.ntmps69
  go_wp2_with fail
  go_step3
  have bG0 := Boxed.new w 61 (.slice a G.length c)
  have cG0 := bG0.cell
  go_wp2_with fail
  refine (lifter_any _ _ _ _ _ _ _ _).mono ?_
  rintro e w1 ⟨rfl, rfl⟩
  have hB0 := (((((Below.refl w.heap.size w).alloc (Nat.le_refl _) (.cells #[.slice a G.length c] 61)).alloc (by simp) (.cells #[.slice a G.length c] 61)).alloc (by simp; omega) (.cells #[.slice a3 f.length c3] 24)).alloc (by simp; omega) (.cells #[.int .i64 (s : Int)] 3))
  have bA := Boxed.new (((w.alloc (.cells #[.slice a G.length c] 61)).alloc (.cells #[.slice a G.length c] 61)).alloc (.cells #[.slice a3 f.length c3] 24)) 3 (.int .i64 (s : Int))
  have bF := (Boxed.new ((w.alloc (.cells #[.slice a G.length c] 61)).alloc (.cells #[.slice a G.length c] 61)) 24 (.slice a3 f.length c3)).alloc (.cells #[.int .i64 (s : Int)] 3)
  have bG := ((Boxed.new (w.alloc (.cells #[.slice a G.length c] 61)) 61 (.slice a G.length c)).alloc (.cells #[.slice a3 f.length c3] 24)).alloc (.cells #[.int .i64 (s : Int)] 3)
  rw [es, es, es] at bA
  rw [es, es] at bF
  rw [es] at bG
  rw [es]
  have hsz : ((((w.alloc (.cells #[.slice a G.length c] 61)).alloc (.cells #[.slice a G.length c] 61)).alloc (.cells #[.slice a3 f.length c3] 24)).alloc (.cells #[.int .i64 (s : Int)] 3)).heap.size = w.heap.size + 4 := by simp
  obtain ⟨V, hV⟩ : ∃ V, (((w.alloc (.cells #[.slice a G.length c] 61)).alloc (.cells #[.slice a G.length c] 61)).alloc (.cells #[.slice a3 f.length c3] 24)).alloc (.cells #[.int .i64 (s : Int)] 3) = V := ⟨_, rfl⟩
  rw [hV] at hB0 bA bF bG hsz ⊢
  have hsz1 : w.heap.size + 4 ≤ V.heap.size := by omega
  have HC0 : Hid (LfCtx w.heap.size (w.heap.size + 1 + 1) (w.heap.size + 1) (w.heap.size + 1 + 1 + 1) a a3 c c3 G f s V) := Lib.hid ⟨bF, bG, bA, HM.out.below hB0, HI.out.below hB0, hB0.size⟩
  clear hV bA bF bG bG0 cG0 hsz
  go_wp2_with fail
  have hB1 := hB0.alloc hB0.size (.cells #[.int .i64 (s : Int)] 3)
  have HC1 := Lib.hid (HC0.out.below ((Below.refl _ V).alloc (Nat.le_refl _) (.cells #[.int .i64 (s : Int)] 3)))
  have hO1 : (V.alloc (.cells #[.int .i64 (s : Int)] 3)).ownsRow V.heap.size 3 1 (.slice (some ⟨V.heap.size, 0, none⟩) 1 1) 1 [.int .i64 (s : Int)] := World.ownsRow_lit (size := 1) V #[.int .i64 (s : Int)] 1 (Nat.le_refl _) (by decide) rfl
  clear hsl
  go_step3
  go_wp2_with fail
  · go_loopw [10, 24] (fun v i wr => ∃ (k g cap p : Nat) (xs : List Int), k + 1 ≤ row.length ∧ i = .int .i64 k ∧ v = .slice (some ⟨g, 0, none⟩) (k + 1) cap ∧ Below w.heap.size w wr ∧ Hid (LfCtx w.heap.size (w.heap.size + 1 + 1) (w.heap.size + 1) (w.heap.size + 1 + 1 + 1) a a3 c c3 G f p wr) ∧ Hid (wr.ownsRow V.heap.size 3 1 (.slice (some ⟨g, 0, none⟩) (k + 1) cap) (k + 1) (xs.map (Value.int .i64))) ∧ V.heap.size ≤ wr.heap.size ∧ Hid (xs.length = k + 1) ∧ Hid (zs = xs ++ goQ G f (row.drop (k + 1)) p) ∧ p < G.length) (fun _ i _ => row.length - (intOf i).toNat)
    case atStart => exact ⟨0, V.heap.size, 1, s, [(s : Int)], h1, rfl, rfl, hB1, HC1, Lib.hid hO1, by simp, Lib.hid rfl, Lib.hid HZ.out.symm, hs⟩
    case round =>
      obtain ⟨k, g, cap, p, xs, hk, rfl, rfl, hB, HC, HO, hVr, HXL, HZX, hp⟩ := hrel
      clear hB0 hB1 HC0 HC1 hO1
      have hws := hB.size
      by_cases hlt : k < row.length - 1
      · exfalso; omega
      · have hkk : k + 1 = row.length := by omega
        have hdn : ¬ (k : Int) < ((row.length - 1 : Nat) : Int) := by omega
        have HZ3 : Hid (zs = xs) := Lib.hid (by rw [HZX.out, List.drop_eq_nil_of_le (by omega)]; simp [goQ])
        go_wp2_with fail
        try rw [Exit.noGoto_ret]
        go_ret
        refine ⟨_, cap, ⟨by rw [HZ3.out, HXL.out, hkk]; rfl, hB⟩, ?_⟩
        rw [HZ3.out, HXL.out]
        exact Joins.ownsRow_le HO.out (by omega)
  · go_loopw [10, 24] (fun v i wr => ∃ (k g cap p : Nat) (xs : List Int), k + 1 ≤ row.length ∧ i = .int .i64 k ∧ v = .slice (some ⟨g, 0, none⟩) (k + 1) cap ∧ Below w.heap.size w wr ∧ Hid (LfCtx w.heap.size (w.heap.size + 1 + 1) (w.heap.size + 1) (w.heap.size + 1 + 1 + 1) a a3 c c3 G f p wr) ∧ Hid (wr.ownsRow V.heap.size 3 1 (.slice (some ⟨g, 0, none⟩) (k + 1) cap) (k + 1) (xs.map (Value.int .i64))) ∧ V.heap.size ≤ wr.heap.size ∧ Hid (xs.length = k + 1) ∧ Hid (zs = xs ++ goQ G f (row.drop (k + 1)) p) ∧ p < G.length) (fun _ i _ => row.length - (intOf i).toNat)
    case atStart => exact ⟨0, V.heap.size, 1, s, [(s : Int)], h1, rfl, rfl, hB1, HC1, Lib.hid hO1, by simp, Lib.hid rfl, Lib.hid HZ.out.symm, hs⟩
    case round =>
      obtain ⟨k, g, cap, p, xs, hk, rfl, rfl, hB, HC, HO, hVr, HXL, HZX, hp⟩ := hrel
      clear hB0 hB1 HC0 HC1 hO1
      have hws := hB.size
      by_cases hlt : k < row.length - 1
      · have hk1 : k + 1 < row.length := by omega
        have hdk : (k : Int) < ((row.length - 1 : Nat) : Int) := by omega
        obtain ⟨y, HY⟩ : ∃ y, Hid (row[k + 1]? = some y) := ⟨_, List.getElem?_eq_getElem hk1⟩
        have hc : wr.cell? ⟨b4, o4 + 1 + k, none⟩ = some (.int .i64 y) := by
          have h2 := HCE.out (k + 1) hk1
          rw [HY.out] at h2
          rw [show o4 + 1 + k = o4 + (k + 1) by omega]
          exact (hB.cell (p := ⟨b4, o4 + (k + 1), none⟩) hb4).trans h2
        have HLF := Lib.hid (lift_any y wr HC.out HG.out HL.out hp)
        have hlg := HO.out.lt g (by simp [Value.ownBlock])
        have HZ2 : Hid (zs = xs ++ goQ G f (y :: row.drop (k + 1 + 1)) p) := Lib.hid (by rw [← goQ_step HY.out]; exact HZX.out)
        cases ho : kidZ G f p y with
        | none =>
          rw [ho] at HLF
          have HZ3 : Hid (zs = xs) := Lib.hid (by rw [HZ2.out, goQ_no ho, List.append_nil])
          clear ho HZ2
          go_wp2_with fail
          refine HLF.out.mono ?_
          rintro e w3 ⟨rfl, hB3⟩
          have HB4 := Lib.hid (hB.trans (hB3.mono hws))
          have HO4 := Lib.hid (ownsRow_below HO.out hB3)
          clear hB3
          go_wp2_with fail
          try rw [Exit.noGoto_ret]
          go_ret
          refine ⟨_, cap, ⟨by rw [HZ3.out, HXL.out]; rfl, HB4.out⟩, ?_⟩
          rw [HZ3.out, HXL.out]
          exact Joins.ownsRow_le HO4.out (by omega)
        | some j =>
          rw [ho] at HLF
          have HZ3 : Hid (zs = (xs ++ [(j : Int)]) ++ goQ G f (row.drop (k + 1 + 1)) j) := Lib.hid (by rw [HZ2.out, goQ_yes ho]; simp)
          have hjl : j < G.length := by rw [← HL.out]; exact (kidZ_some ho).1
          clear ho HZ2
          go_wp2_with fail
          refine HLF.out.mono ?_
          rintro e w3 ⟨rfl, w2, hB3, rfl⟩
          have hz3 := hB3.size
          have hB4 : Below w.heap.size w (w2.setCell ⟨w.heap.size + 1 + 1 + 1, 0, none⟩ (.int .i64 (j : Int))) := (hB.trans (hB3.mono hws)).setCell (p := ⟨w.heap.size + 1 + 1 + 1, 0, none⟩) (by show w.heap.size ≤ w.heap.size + 1 + 1 + 1; omega) _
          have hC4 := (HC.out.below hB3).step (by omega) (by omega) (by omega) j
          have hO4 : (w2.setCell ⟨w.heap.size + 1 + 1 + 1, 0, none⟩ (.int .i64 (j : Int))).ownsRow V.heap.size 3 1 (.slice (some ⟨g, 0, none⟩) (k + 1) cap) (k + 1) (xs.map (Value.int .i64)) := (ownsRow_below HO.out hB3).kept (grownBy_setX w2 (w.heap.size + 1 + 1 + 1) 0 (.int .i64 (j : Int))) (.inr (fun e => by have e' : g = w.heap.size + 1 + 1 + 1 := Option.some.inj e; omega))
          have hz4 : V.heap.size ≤ (w2.setCell ⟨w.heap.size + 1 + 1 + 1, 0, none⟩ (.int .i64 (j : Int))).heap.size := by simp; omega
          obtain ⟨W, hW⟩ : ∃ W, w2.setCell ⟨w.heap.size + 1 + 1 + 1, 0, none⟩ (.int .i64 (j : Int)) = W := ⟨_, rfl⟩
          rw [hW] at hB4 hC4 hO4 hz4 ⊢
          have HC4 := Lib.hid hC4
          have HB4 := Lib.hid hB4
          clear hW hB3 hC4 hB4 HO HC HLF
          go_wp2_with (at_builtin; go_must (refine wpList_append_own _ rfl _ _ 24 rfl V.heap.size 3 i1 (.int .i64 0) 1 8 Try.underlying24 hj hy0 hy1 hy2 rfl (by decide) _ _ _ rfl (hO4.alloc _) ⟨W.heap.size, 0, none⟩ 1 1 [.int .i64 (j : Int)] rfl rfl (cell_one_new _ _ _) (by simp [Value.oneCell']) (by unfold maxLen; omega) (by omega) (by simp; omega) ?_); go_must (intro v' w4 hown' hgrow _; obtain ⟨g2, cap2, rfl⟩ := ownsRow_succ hown'); go_must (have hB5 : Below w.heap.size w w4 := (HB4.out.alloc HB4.out.size _).grown hgrow (by have := HB4.out.size; simp; omega) (fun r e => by have e' : some g = some r := e; cases e'; omega)); go_must (have HC5 := Lib.hid ((HC4.out.below ((Below.refl _ W).alloc (Nat.le_refl _) _)).kept hgrow (fun r e => by have e' : some g = some r := e; cases e'; omega))); go_must (have HO5 := Lib.hid hown'); go_must (have hz5 : V.heap.size ≤ w4.heap.size := by have := hgrow.size; simp at this; omega); clear hown' hgrow)
          go_roundw
          case rel => exact ⟨k + 1, g2, cap2, j, xs ++ [(j : Int)], by omega, by go_num, rfl, hB5, HC5, Lib.hid (by rw [List.map_append]; exact HO5.out), hz5, Lib.hid (by rw [List.length_append, HXL.out]; rfl), HZ3, hjl⟩
          case measure => simp [intOf]; omega
      · have hkk : k + 1 = row.length := by omega
        have hdn : ¬ (k : Int) < ((row.length - 1 : Nat) : Int) := by omega
        have HZ3 : Hid (zs = xs) := Lib.hid (by rw [HZX.out, List.drop_eq_nil_of_le (by omega)]; simp [goQ])
        go_wp2_with fail
        try rw [Exit.noGoto_ret]
        go_ret
        refine ⟨_, cap, ⟨by rw [HZ3.out, HXL.out, hkk]; rfl, hB⟩, ?_⟩
        rw [HZ3.out, HXL.out]
        exact Joins.ownsRow_le HO.out (by omega)

end Go.Proofs.Ytldkgkpiceamhaa

namespace Go.Proofs.Ytldkgkpiceamhaa
open Go.RowKit Go.Shelf Go.Deep

theorem lifK_noC {G H : List (List Int)} {f wl : List Int} {z : Int} (h : covI G H f = false) : lifK G H f wl z = false := by unfold lifK; rw [h]; rfl
theorem lifK_noL {G H : List (List Int)} {f wl : List Int} {z : Int} (h : ¬ (1 ≤ wl.length ∧ wl.length ≤ 13)) : lifK G H f wl z = false := by
  rw [Bool.eq_false_iff]; intro e
  exact h (walk_iff.1 (lifK_iff.1 e).2.1).2.1
theorem lifK_noZ {G H : List (List Int)} {f wl : List Int} {z : Int} (h : ¬ (0 ≤ z ∧ z < G.length)) : lifK G H f wl z = false := by
  rw [Bool.eq_false_iff]; intro e
  exact h (lifK_iff.1 e).2.2.1
theorem lifK_noF {G H : List (List Int)} {f wl : List Int} {s : Nat} {u v : Int} (hu : f[s]? = some u) (hv : wl[0]? = some v) (h : u ≠ v) : lifK G H f wl (s : Int) = false := by
  rw [Bool.eq_false_iff]; intro e
  obtain ⟨x, h1, h2⟩ := lif_first e
  rw [Int.toNat_natCast, hu] at h1
  rw [hv] at h2
  cases h1; cases h2
  exact h rfl

set_option maxRecDepth 100000 in
set_option maxHeartbeats 2000000 in
theorem implLif (a a' a3 a4 : Option Addr) (c c' c3 c4 : Nat) (G H : List (List Int)) (f wl : List Int) (z : Int) (w : World) (hM : Mat w.heap.size w a G) (hM' : Mat w.heap.size w a' H) (hI : Ints w.heap.size w a3 f) (hI' : Ints w.heap.size w a4 wl) (hF : Fit G) (hF' : Fit H) (hl : f.length ≤ 1048576) (hl' : wl.length ≤ 1048576) (hc4 : wl.length ≤ c4) :
    Calls Try.prog 26 #[.slice a G.length c, .slice a' H.length c', .slice a3 f.length c3, .slice a4 wl.length c4, .int .i64 z] w (MadeLB (liwI G H f wl z) (lifK G H f wl z) w) := by
  have HC := Lib.hid (implCov a a' a3 c c' c3 G H f w hM hM' hI hF hF' hl)
  have HAL := Lib.hid (fun W => asLong_any a4 wl.length c4 hl' W)
  cases hc : covI G H f with
  | false =>
    rw [hc] at HC
    have hk := lifK_noC (wl := wl) (z := z) hc
    rw [hk, lif_no hk]
    clear hk hc hM hM' hI hI' hF hF' hl hl' HAL
    go_enter Try.func26, Try.ntmps26
    go_wp2_with fail
    refine HC.out.mono ?_
    rintro e w1 ⟨rfl, hB1⟩
    go_wp2_with fail
    go_ret2
    exact ⟨none, 0, ⟨rfl, hB1⟩, World.ownsRow_nil _ _ _ 1⟩
  | true =>
    rw [hc] at HC
    have HCV := Lib.hid hc
    have hT := (mapOk_iff.1 (cov_iff.1 hc).1).2.1
    have hGd := good_of (mapOk_iff.1 (cov_iff.1 hc).1).1.1
    clear hc
    by_cases h13 : 1 ≤ wl.length ∧ wl.length ≤ 13
    · rw [decide_eq_true h13] at HAL
      have hAll : ∀ W : World, Calls Try.prog 67 #[.slice a4 wl.length c4] W (Ans (.bool true) W) := HAL.out
      have HAL2 := Lib.hid hAll
      clear HAL hAll
      by_cases hz : 0 ≤ z ∧ z < (G.length : Int)
      · obtain ⟨s, rfl⟩ : ∃ s : Nat, z = (s : Int) := ⟨z.toNat, by omega⟩
        have hs : s < G.length := by omega
        have hfl := hT.1
        have hsf : s < f.length := by omega
        have hw1 : 1 ≤ wl.length := h13.1
        have HLT : Hid (∀ w1, Below w.heap.size w w1 → Calls Try.prog 69 #[.agg #[.slice a G.length c], .slice a3 f.length c3, .slice a4 wl.length c4, .int .i64 (s : Int)] w1 (MadeOwn ((s : Int) :: goQ G f (wl.drop 1) s) w1)) := Lib.hid fun w1 hB =>
          lifted_any a a3 a4 c c3 c4 G f wl s w1 ((hM.below hB).more hB.size) ((hI.below hB).more hB.size) ((hI'.below hB).more hB.size) hGd hfl hs h13.1 h13.2 hc4
        obtain ⟨b3, o3, v3, rfl, hb3, hc3, HV3⟩ := hI.at_ hsf
        obtain ⟨b4, o4, v4, rfl, hb4, hc5, HV4⟩ := hI'.at_ (k := 0) hw1
        have hsi : (s : Int) < (G.length : Int) := by omega
        have hsi2 : (s : Int) < (f.length : Int) := by omega
        have hw0 : (0 : Int) < (wl.length : Int) := by omega
        have hs0 : decide ((s : Int) < 0) = false := decide_eq_false (by omega)
        have hsn : decide (G.length ≤ s) = false := decide_eq_false (by omega)
        replace hc5 : w.cell? ⟨b4, o4, none⟩ = some (.int .i64 v4) := hc5
        by_cases he : v3 = v4
        · have hne : (v3 != v4) = false := by rw [he]; exact bne_self_eq_false _
          have HQL : Hid (((s : Int) :: goQ G f (wl.drop 1) s).length ≤ wl.length) := Lib.hid (by
            have := goQ_le G f (wl.drop 1) s
            rw [List.length_drop] at this
            rw [List.length_cons]; omega)
          have HYes : Hid (((s : Int) :: goQ G f (wl.drop 1) s).length = wl.length → lifK G H f wl (s : Int) = true ∧ liwI G H f wl (s : Int) = (s : Int) :: goQ G f (wl.drop 1) s) := Lib.hid fun h => by
            have hk := lif_of HCV.out h13.1 h13.2 hs HV4.out (by rw [HV3.out, he]) h
            exact ⟨hk, by have := lif_full hk; rw [Int.toNat_natCast] at this; exact this.symm⟩
          have HNo : Hid (((s : Int) :: goQ G f (wl.drop 1) s).length ≠ wl.length → lifK G H f wl (s : Int) = false) := Lib.hid fun h => by
            rw [Bool.eq_false_iff]; intro e
            have := lif_len e
            rw [Int.toNat_natCast] at this
            exact h this
          obtain ⟨L, hL⟩ : ∃ L, (s : Int) :: goQ G f (wl.drop 1) s = L := ⟨_, rfl⟩
          rw [hL] at HLT HQL HYes HNo
          obtain ⟨yes, HYS⟩ : ∃ b, Hid (lifK G H f wl (s : Int) = b) := ⟨_, rfl⟩
          obtain ⟨LL, HLL⟩ : ∃ l, Hid (liwI G H f wl (s : Int) = l) := ⟨_, rfl⟩
          rw [HYS.out, HLL.out]
          clear hL he hz h13 hT hfl hGd HCV hM hM' hI hI' hF hF'
          go_enter Try.func26, Try.ntmps26
          go_wp2_with fail
          refine HC.out.mono ?_
          rintro e w1 ⟨rfl, hB1⟩
          have HB1 := Lib.hid hB1
          clear hB1 HC
          go_wp2_with fail
          refine (HAL2.out w1).mono ?_
          rintro e w2 ⟨rfl, hB2⟩
          have hB3 := HB1.out.trans (hB2.mono HB1.out.size)
          have hq3 : w2.cell? ⟨b3, o3 + s, none⟩ = some (.int .i64 v3) := (hB3.cell (p := ⟨b3, o3 + s, none⟩) hb3).trans hc3
          have hq4 : w2.cell? ⟨b4, o4, none⟩ = some (.int .i64 v4) := (hB3.cell (p := ⟨b4, o4, none⟩) hb4).trans hc5
          have HB3 := Lib.hid hB3
          clear hB2 hB3 HB1 HAL2 hc3 hc5
          go_wp2_with fail
          go_quiet (fail)
          have hBq : Below w.heap.size w (w2.drewN nq) := below_drewN HB3.out nq
          have HLC := Lib.hid (HLT.out _ hBq)
          have HBq := Lib.hid hBq
          clear hBq HLT hq3 hq4 HB3
          go_wp2_with fail
          refine HLC.out.mono ?_
          rintro e w4 ⟨a5, c5, ⟨rfl, hB4⟩, hO4⟩
          have hzq := HBq.out.size
          have HO4 := Lib.hid (Joins.ownsRow_le hO4 hzq)
          have HB4 := Lib.hid (HBq.out.trans (hB4.mono hzq))
          clear hO4 hB4 HLC
          by_cases hle : L.length = wl.length
          · obtain ⟨k1, k2⟩ := HYes.out hle
            have d1 : ¬ L.length < wl.length := by omega
            have d2 : decide (L.length < wl.length) = false := decide_eq_false d1
            obtain rfl : yes = true := HYS.out.symm.trans k1
            obtain rfl : LL = L := HLL.out.symm.trans k2
            clear k1 k2 hle
            go_wp2_with fail
            go_ret2
            exact ⟨a5, c5, ⟨rfl, HB4.out⟩, HO4.out⟩
          · have k1 := HNo.out hle
            obtain rfl : yes = false := HYS.out.symm.trans k1
            obtain rfl : LL = [] := HLL.out.symm.trans (lif_no k1)
            have hlt := HQL.out
            have d1 : L.length < wl.length := by omega
            have d2 : decide (L.length < wl.length) = true := decide_eq_true d1
            clear k1 hle
            go_wp2_with fail
            go_ret2
            exact ⟨none, 0, ⟨rfl, HB4.out⟩, World.ownsRow_nil _ _ _ 1⟩
        · have hne : (v3 != v4) = true := bne_iff_ne.2 he
          have hk : lifK G H f wl (s : Int) = false := lifK_noF HV3.out HV4.out he
          rw [hk, lif_no hk]
          clear hk he hz h13 hT hfl hGd HCV hM hM' hI hI' hF hF' HLT
          go_enter Try.func26, Try.ntmps26
          go_wp2_with fail
          refine HC.out.mono ?_
          rintro e w1 ⟨rfl, hB1⟩
          have HB1 := Lib.hid hB1
          clear hB1 HC
          go_wp2_with fail
          refine (HAL2.out w1).mono ?_
          rintro e w2 ⟨rfl, hB2⟩
          have hB3 := HB1.out.trans (hB2.mono HB1.out.size)
          have hq3 : w2.cell? ⟨b3, o3 + s, none⟩ = some (.int .i64 v3) := (hB3.cell (p := ⟨b3, o3 + s, none⟩) hb3).trans hc3
          have hq4 : w2.cell? ⟨b4, o4, none⟩ = some (.int .i64 v4) := (hB3.cell (p := ⟨b4, o4, none⟩) hb4).trans hc5
          have HB3 := Lib.hid hB3
          clear hB2 hB3 HB1 HAL2 hc3 hc5
          go_wp2_with fail
          go_quiet (fail)
          have hBq : Below w.heap.size w (w2.drewN nq) := below_drewN HB3.out nq
          go_wp2_with fail
          go_ret2
          exact ⟨none, 0, ⟨rfl, hBq⟩, World.ownsRow_nil _ _ _ 1⟩
      · have hk := lifK_noZ (H := H) (f := f) (wl := wl) hz
        rw [hk, lif_no hk]
        have hor : z < 0 ∨ (0 ≤ z ∧ (G.length : Int) ≤ z) := by omega
        clear hk hz h13 hT hGd HCV hM hM' hI hI' hF hF'
        rcases hor with hz0 | ⟨hz0, hz1⟩
        · have d1 : decide (z < 0) = true := decide_eq_true hz0
          go_enter Try.func26, Try.ntmps26
          go_wp2_with fail
          refine HC.out.mono ?_
          rintro e w1 ⟨rfl, hB1⟩
          have HB1 := Lib.hid hB1
          clear hB1 HC
          go_wp2_with fail
          refine (HAL2.out w1).mono ?_
          rintro e w2 ⟨rfl, hB2⟩
          have hB3 := HB1.out.trans (hB2.mono HB1.out.size)
          have HB3 := Lib.hid hB3
          clear hB2 hB3 HB1 HAL2
          go_wp2_with fail
          go_quiet (fail)
          have hBq : Below w.heap.size w (w2.drewN nq) := below_drewN HB3.out nq
          go_wp2_with fail
          go_ret2
          exact ⟨none, 0, ⟨rfl, hBq⟩, World.ownsRow_nil _ _ _ 1⟩
        · have d1 : decide (z < 0) = false := decide_eq_false (by omega)
          have d2 : decide ((G.length : Int) ≤ z) = true := decide_eq_true hz1
          go_enter Try.func26, Try.ntmps26
          go_wp2_with fail
          refine HC.out.mono ?_
          rintro e w1 ⟨rfl, hB1⟩
          have HB1 := Lib.hid hB1
          clear hB1 HC
          go_wp2_with fail
          refine (HAL2.out w1).mono ?_
          rintro e w2 ⟨rfl, hB2⟩
          have hB3 := HB1.out.trans (hB2.mono HB1.out.size)
          have HB3 := Lib.hid hB3
          clear hB2 hB3 HB1 HAL2
          go_wp2_with fail
          go_quiet (fail)
          have hBq : Below w.heap.size w (w2.drewN nq) := below_drewN HB3.out nq
          go_wp2_with fail
          go_ret2
          exact ⟨none, 0, ⟨rfl, hBq⟩, World.ownsRow_nil _ _ _ 1⟩
    · rw [decide_eq_false h13] at HAL
      have hk := lifK_noL (G := G) (H := H) (f := f) (z := z) h13
      rw [hk, lif_no hk]
      clear hk h13 hT hGd HCV hM hM' hI hI' hF hF'
      go_enter Try.func26, Try.ntmps26
      go_wp2_with fail
      refine HC.out.mono ?_
      rintro e w1 ⟨rfl, hB1⟩
      have HB1 := Lib.hid hB1
      clear hB1 HC
      go_wp2_with fail
      refine (HAL.out w1).mono ?_
      rintro e w2 ⟨rfl, hB2⟩
      have hB3 := HB1.out.trans (hB2.mono HB1.out.size)
      go_wp2_with fail
      go_ret2
      exact ⟨none, 0, ⟨rfl, hB3⟩, World.ownsRow_nil _ _ _ 1⟩

theorem she_yesF {G H : List (List Int)} {f : List Int} (h : covI G H f = true) (ho : oneI H = true) : sheI G H f = ((fibK f f.length : Nat) : Int) := by
  rw [she_yes h ho, (mapOk_iff.1 (cov_iff.1 h).1).2.1.1]; rfl

set_option maxRecDepth 100000 in
set_option maxHeartbeats 1000000 in
theorem implShe (a a' a3 : Option Addr) (c c' c3 : Nat) (G H : List (List Int)) (f : List Int) (w : World) (hM : Mat w.heap.size w a G) (hM' : Mat w.heap.size w a' H) (hI : Ints w.heap.size w a3 f) (hF : Fit G) (hF' : Fit H) (hl : f.length ≤ 1048576) :
    Calls Try.prog 30 #[.slice a G.length c, .slice a' H.length c', .slice a3 f.length c3] w (Ans (.int .i64 (sheI G H f)) w) := by
  have HC := Lib.hid (implCov a a' a3 c c' c3 G H f w hM hM' hI hF hF' hl)
  have HO : Hid (∀ w1, Below w.heap.size w w1 → Calls Try.prog 70 #[.slice a' H.length c'] w1 (Ans (.bool (oneI H)) w1)) := Lib.hid fun w1 hB => implOnp a' c' H w1 ((hM'.below hB).more hB.size) hF'
  cases hc : covI G H f with
  | false =>
    rw [hc] at HC
    rw [she_no (by rw [hc]; rfl)]
    clear hc hM hM' hI hF hF' hl HO
    go_enter Try.func30, Try.ntmps30
    go_wp2_with fail
    refine HC.out.mono ?_
    rintro e w1 ⟨rfl, hB1⟩
    go_wp2_with fail
    go_ret
    exact ⟨rfl, hB1⟩
  | true =>
    rw [hc] at HC
    cases ho : oneI H with
    | false =>
      rw [ho] at HO
      rw [she_no (by rw [hc, ho]; rfl)]
      clear hc ho hM hM' hI hF hF' hl
      go_enter Try.func30, Try.ntmps30
      go_wp2_with fail
      refine HC.out.mono ?_
      rintro e w1 ⟨rfl, hB1⟩
      have HO1 := Lib.hid (HO.out w1 hB1)
      have HB1 := Lib.hid hB1
      clear hB1 HC HO
      go_wp2_with fail
      refine HO1.out.mono ?_
      rintro e w2 ⟨rfl, hB2⟩
      go_wp2_with fail
      go_ret
      exact ⟨rfl, HB1.out.trans (hB2.mono HB1.out.size)⟩
    | true =>
      rw [ho] at HO
      rw [she_yesF hc ho]
      have HT := Lib.hid (mapOk_iff.1 (cov_iff.1 hc).1).2.1
      have hGl := (good_of (mapOk_iff.1 (cov_iff.1 hc).1).1.1).2.1
      have hfl : f.length ≤ 9 := by rw [HT.out.1]; exact hGl
      clear hc ho hM hM' hF hF' hl hGl
      go_enter Try.func30, Try.ntmps30
      go_wp2_with fail
      refine HC.out.mono ?_
      rintro e w1 ⟨rfl, hB1⟩
      have HO1 := Lib.hid (HO.out w1 hB1)
      have HB1 := Lib.hid hB1
      clear hB1 HC HO
      go_wp2_with fail
      refine HO1.out.mono ?_
      rintro e w2 ⟨rfl, hB2⟩
      have HB2 := Lib.hid (HB1.out.trans (hB2.mono HB1.out.size))
      have hI2 := hI.below HB2.out
      clear hB2 HB1 HO1 hI
      go_wp2_with fail
      go_loopw [7, 22] (fun v i wr => ∃ n : Nat, n ≤ f.length ∧ i = .int .i64 n ∧ v = .int .i64 ((fibK f n : Nat) : Int) ∧ wr = w2) (fun _ i _ => f.length - (intOf i).toNat)
      case atStart => exact ⟨0, Nat.zero_le _, rfl, rfl, rfl⟩
      case round =>
        obtain ⟨n, hn, rfl, rfl, hw⟩ := hrel
        subst hw
        have hp := fibK_le f n
        by_cases hlt : n < f.length
        · obtain ⟨u, hu, en, _⟩ := tells_at HT.out (show n < G.length by rw [← HT.out.1]; exact hlt)
          obtain ⟨b3, o3, v, rfl, hb3, hc3, HV3⟩ := hI2.at_ hlt
          have hv : v = (u : Int) := by have := HV3.out; rw [hu] at this; exact (Option.some.inj this).symm
          subst hv
          have HS : Hid (fibK f (n + 1) = fibK f n + bN (u == 0)) := Lib.hid (by rw [← en]; rfl)
          obtain ⟨p, hpp⟩ : ∃ p, fibK f n = p := ⟨_, rfl⟩
          rw [hpp] at hp HS ⊢
          clear hpp hu en HV3
          by_cases hu0 : u = 0
          · have hbe : ((u : Int) == (0 : Int)) = true := by rw [hu0]; rfl
            have HE : Hid (fibK f (n + 1) = p + 1) := Lib.hid (by rw [HS.out, hu0]; rfl)
            clear hu0 HS
            go_wp2_with fail
            go_roundw
            case rel => exact ⟨n + 1, by omega, by go_num, by rw [HE.out]; go_num, trivial⟩
            case measure => simp [intOf]; omega
          · have hbe : ((u : Int) == (0 : Int)) = false := beq_eq_false_iff_ne.2 (by omega)
            have HE : Hid (fibK f (n + 1) = p) := Lib.hid (by rw [HS.out, beq_eq_false_iff_ne.2 hu0]; rfl)
            clear hu0 HS
            go_wp2_with fail
            go_roundw
            case rel => exact ⟨n + 1, by omega, by go_num, by rw [HE.out], trivial⟩
            case measure => simp [intOf]; omega
        · have hnn : n = f.length := by omega
          go_wp2_with fail
          go_ret
          exact ⟨by rw [hnn]; rfl, HB2.out⟩

theorem wrap_small (n : Nat) (h : n ≤ 100) : IntKind.i64.wrap (n : Int) = (n : Int) := by simp [IntKind.wrap, IntKind.bits, IntKind.signed]; omega
theorem quo_nat (a b : Nat) : Int.tdiv (a : Int) (b : Int) = ((a / b : Nat) : Int) := rfl
theorem rem_nat (a b : Nat) : Int.tmod (a : Int) (b : Int) = ((a % b : Nat) : Int) := rfl

set_option maxRecDepth 100000 in
set_option maxHeartbeats 2000000 in
theorem twice1 (n₀ Bn Bg : Nat) (a : Option Addr) (c : Nat) (G : List (List Int)) (w : World) (hM : Mat n₀ w a G) (hn : n₀ ≤ w.heap.size) (hG : Good G) (h4 : G.length ≤ 4) (hN : Boxed w Bn 3 (.int .i64 (G.length : Int))) (hB : Boxed w Bg 61 (.slice a G.length c)) (i j : Nat) (hi : i < 2 * G.length) (hj : j < 2 * G.length) :
    Calls Try.prog 81 #[.int .i64 i, .int .i64 j, .pointer (some ⟨Bn, 0, none⟩), .pointer (some ⟨Bg, 0, none⟩)] w (Ans (.bool (twP G i j)) w) := by
  have cN := hN.cell
  have cB := hB.cell
  have h1 := hG.1
  have q1 := quo_nat i G.length
  have q2 := quo_nat j G.length
  have r1 := rem_nat i G.length
  have r2 := rem_nat j G.length
  have l1 := Nat.mod_lt i h1
  have l2 := Nat.mod_lt j h1
  have m1 : i / G.length ≤ 8 := Nat.le_trans (Nat.div_le_self _ _) (by omega)
  have m2 : j / G.length ≤ 8 := Nat.le_trans (Nat.div_le_self _ _) (by omega)
  have hz : twP G i j = ((i / G.length != j / G.length) && arw G (i % G.length) (j % G.length)) := rfl
  rw [hz]
  clear hz
  have hn0 : ¬ (G.length : Int) = 0 := by omega
  have hnn0 : ¬ G.length = 0 := by omega
  generalize i / G.length = x at q1 m1 ⊢
  generalize j / G.length = y at q2 m2 ⊢
  generalize i % G.length = s at r1 l1 ⊢
  generalize j % G.length = t at r2 l2 ⊢
  have u1 : IntKind.i64.wrap (x : Int) = (x : Int) := wrap_small _ (by omega)
  have u2 : IntKind.i64.wrap (y : Int) = (y : Int) := wrap_small _ (by omega)
  have u3 : IntKind.i64.wrap (s : Int) = (s : Int) := wrap_small _ (by omega)
  have u4 : IntKind.i64.wrap (t : Int) = (t : Int) := wrap_small _ (by omega)
  have HA : Hid (∀ w1, Below w.heap.size w w1 → Calls Try.prog 63 #[.agg #[.slice a G.length c], .int .i64 s, .int .i64 t] w1 fun e w' => e = .returned (.bool (arw G s t)) ∧ w' = w1.alloc (.cells #[.slice a G.length c] 61)) := Lib.hid fun w1 hb => arrowC n₀ a c G w1 (hM.below (hb.mono hn)) (Nat.le_trans hn hb.size) hG s t l1 l2
  have HB0 := Lib.hid (Below.refl w.heap.size w)
  have hBn := hN.lt
  have hBg := hB.lt
  clear hN hB hM hG
  by_cases hxy : x = y
  · have hb1 : ((x : Int) != (y : Int)) = false := by rw [hxy]; exact bne_self_eq_false _
    have hb2 : (x != y) = false := by rw [hxy]; exact bne_self_eq_false _
    rw [hb2]
    clear hb2 hxy
    go_enter Try.func81, Try.ntmps81
    go_wp2_with fail
    go_quiet (fail)
    go_wp2_with fail
    go_ret
    exact ⟨rfl, below_drewN HB0.out _⟩
  · have hb1 : ((x : Int) != (y : Int)) = true := bne_iff_ne.2 (fun h => hxy (Int.ofNat_inj.1 h))
    have hb2 : (x != y) = true := bne_iff_ne.2 hxy
    rw [hb2]
    clear hb2 hxy
    go_enter Try.func81, Try.ntmps81
    go_wp2_with fail
    refine wp_region_held_drew (S := fun W => Below w.heap.size w W) (by kernel_rfl) HB0.out.drew (fun hS0 => ?_)
    change wpAnyH _ _ _ _ _ _ _ _ (World.drew _)
    obtain ⟨V, hV⟩ : ∃ V, World.drew w = V := ⟨_, rfl⟩
    rw [hV] at hS0 ⊢
    clear hV HB0
    -- REGION
    refine wpAnyH_take (i := 0) (v := ?_) rfl (by kernel_rfl) (by kernel_rfl) (by kernel_rfl) (fun _ _ _ h => h) (Or.inl ⟨by rfl, ?_⟩) hS0 ?_
    case refine_2 => rintro w s1; have c0 := (s1.cell (p := ⟨Bn, 0, none⟩) hBn).trans cN; have c1 := (s1.cell (p := ⟨Bg, 0, none⟩) hBg).trans cB; first | (go_simp; rfl) | go_simp
    simp only [Act.put, List.getElem_toArray, List.getElem_cons_zero, List.setIfInBounds_toArray, List.set_cons_zero, List.set_cons_succ]
    refine wpAnyH_take (i := 1) (v := ?_) rfl (by kernel_rfl) (by kernel_rfl) (by kernel_rfl) (fun _ _ _ h => h) (Or.inl ⟨by rfl, ?_⟩) hS0 ?_
    case refine_2 => rintro w s1; have c0 := (s1.cell (p := ⟨Bn, 0, none⟩) hBn).trans cN; have c1 := (s1.cell (p := ⟨Bg, 0, none⟩) hBg).trans cB; first | (go_simp; rfl) | go_simp
    simp only [Act.put, List.getElem_toArray, List.getElem_cons_succ, List.getElem_cons_zero, List.setIfInBounds_toArray, List.set_cons_zero, List.set_cons_succ]
    refine wpAnyH_take (i := 2) (v := ?_) rfl (by kernel_rfl) (by kernel_rfl) (by kernel_rfl) (fun _ _ _ h => h) (Or.inl ⟨by rfl, ?_⟩) hS0 ?_
    case refine_2 => rintro w s1; have c0 := (s1.cell (p := ⟨Bn, 0, none⟩) hBn).trans cN; have c1 := (s1.cell (p := ⟨Bg, 0, none⟩) hBg).trans cB; first | (go_simp; rfl) | go_simp
    simp only [Act.put, List.getElem_toArray, List.getElem_cons_succ, List.getElem_cons_zero, List.setIfInBounds_toArray, List.set_cons_zero, List.set_cons_succ]
    refine wpAnyH_take (i := 3) (v := ?_) rfl (by kernel_rfl) (by kernel_rfl) (by kernel_rfl) (fun _ _ _ h => h) (Or.inl ⟨by rfl, ?_⟩) hS0 ?_
    case refine_2 => rintro w s1; have c0 := (s1.cell (p := ⟨Bn, 0, none⟩) hBn).trans cN; have c1 := (s1.cell (p := ⟨Bg, 0, none⟩) hBg).trans cB; first | (go_simp; rfl) | go_simp
    simp only [Act.put, List.getElem_toArray, List.getElem_cons_succ, List.getElem_cons_zero, List.setIfInBounds_toArray, List.set_cons_zero, List.set_cons_succ]
    refine wpAnyH_take (i := 4) (v := ?_) rfl (by kernel_rfl) (by kernel_rfl) (by kernel_rfl) (fun _ _ _ h => h) (Or.inl ⟨by rfl, ?_⟩) hS0 ?_
    case refine_2 => rintro w s1; have c0 := (s1.cell (p := ⟨Bn, 0, none⟩) hBn).trans cN; have c1 := (s1.cell (p := ⟨Bg, 0, none⟩) hBg).trans cB; first | (go_simp; rfl) | go_simp
    simp only [Act.put, List.getElem_toArray, List.getElem_cons_succ, List.getElem_cons_zero, List.setIfInBounds_toArray, List.set_cons_zero, List.set_cons_succ]
    refine wpAnyH_take (i := 5) (v := ?_) rfl (by kernel_rfl) (by kernel_rfl) (by kernel_rfl) (fun _ _ _ h => h) (Or.inl ⟨by rfl, ?_⟩) hS0 ?_
    case refine_2 => rintro w s1; have c0 := (s1.cell (p := ⟨Bn, 0, none⟩) hBn).trans cN; have c1 := (s1.cell (p := ⟨Bg, 0, none⟩) hBg).trans cB; first | (go_simp; rfl) | go_simp
    simp only [Act.put, List.getElem_toArray, List.getElem_cons_succ, List.getElem_cons_zero, List.setIfInBounds_toArray, List.set_cons_zero, List.set_cons_succ]
    refine wpAnyH_take (i := 6) (v := ?_) rfl (by kernel_rfl) (by kernel_rfl) (by kernel_rfl) (fun _ _ _ h => h) (Or.inl ⟨by rfl, ?_⟩) hS0 ?_
    case refine_2 => rintro w s1; have c0 := (s1.cell (p := ⟨Bn, 0, none⟩) hBn).trans cN; have c1 := (s1.cell (p := ⟨Bg, 0, none⟩) hBg).trans cB; first | (go_simp; rfl) | go_simp
    simp only [Act.put, List.getElem_toArray, List.getElem_cons_succ, List.getElem_cons_zero, List.setIfInBounds_toArray, List.set_cons_zero, List.set_cons_succ]
    refine wpAnyH_take (i := 7) (v := ?_) rfl (by kernel_rfl) (by kernel_rfl) (by kernel_rfl) (fun _ _ _ h => h) (Or.inl ⟨by rfl, ?_⟩) hS0 ?_
    case refine_2 => rintro w s1; have c0 := (s1.cell (p := ⟨Bn, 0, none⟩) hBn).trans cN; have c1 := (s1.cell (p := ⟨Bg, 0, none⟩) hBg).trans cB; first | (go_simp; rfl) | go_simp
    simp only [Act.put, List.getElem_toArray, List.getElem_cons_succ, List.getElem_cons_zero, List.setIfInBounds_toArray, List.set_cons_zero, List.set_cons_succ]
    refine wpAnyH_take (i := 8) (v := ?_) rfl (by kernel_rfl) (by kernel_rfl) (by kernel_rfl) (fun _ _ _ h => h) (Or.inl ⟨by rfl, ?_⟩) hS0 ?_
    case refine_2 => rintro w s1; have c0 := (s1.cell (p := ⟨Bn, 0, none⟩) hBn).trans cN; have c1 := (s1.cell (p := ⟨Bg, 0, none⟩) hBg).trans cB; first | (go_simp; rfl) | go_simp
    simp only [Act.put, List.getElem_toArray, List.getElem_cons_succ, List.getElem_cons_zero, List.setIfInBounds_toArray, List.set_cons_zero, List.set_cons_succ]
    refine wpAnyH_take (i := 9) (v := ?_) rfl (by kernel_rfl) (by kernel_rfl) (by kernel_rfl) (fun _ _ _ h => h) (Or.inl ⟨by rfl, ?_⟩) hS0 ?_
    case refine_2 => rintro w s1; have c0 := (s1.cell (p := ⟨Bn, 0, none⟩) hBn).trans cN; have c1 := (s1.cell (p := ⟨Bg, 0, none⟩) hBg).trans cB; first | (go_simp; rfl) | go_simp
    simp only [Act.put, List.getElem_toArray, List.getElem_cons_succ, List.getElem_cons_zero, List.setIfInBounds_toArray, List.set_cons_zero, List.set_cons_succ]
    refine wpAnyH_take (i := 10) (v := ?_) rfl (by kernel_rfl) (by kernel_rfl) (by kernel_rfl) (fun _ _ _ h => h) (Or.inl ⟨by rfl, ?_⟩) hS0 ?_
    case refine_2 => rintro w s1; have c0 := (s1.cell (p := ⟨Bn, 0, none⟩) hBn).trans cN; have c1 := (s1.cell (p := ⟨Bg, 0, none⟩) hBg).trans cB; first | (go_simp; rfl) | go_simp
    simp only [Act.put, List.getElem_toArray, List.getElem_cons_succ, List.getElem_cons_zero, List.setIfInBounds_toArray, List.set_cons_zero, List.set_cons_succ]
    refine wpAnyH_take (i := 11) (v := ?_) rfl (by kernel_rfl) (by kernel_rfl) (by kernel_rfl) (fun _ _ _ h => h) (Or.inl ⟨by rfl, ?_⟩) hS0 ?_
    case refine_2 => rintro w s1; have c0 := (s1.cell (p := ⟨Bn, 0, none⟩) hBn).trans cN; have c1 := (s1.cell (p := ⟨Bg, 0, none⟩) hBg).trans cB; first | (go_simp; rfl) | go_simp
    simp only [Act.put, List.getElem_toArray, List.getElem_cons_succ, List.getElem_cons_zero, List.setIfInBounds_toArray, List.set_cons_zero, List.set_cons_succ]
    refine wpAnyH_take (i := 12) (v := ?_) rfl (by kernel_rfl) (by kernel_rfl) (by kernel_rfl) (fun _ _ _ h => h) (Or.inl ⟨by rfl, ?_⟩) hS0 ?_
    case refine_2 => rintro w s1; have c0 := (s1.cell (p := ⟨Bn, 0, none⟩) hBn).trans cN; have c1 := (s1.cell (p := ⟨Bg, 0, none⟩) hBg).trans cB; first | (go_simp; rfl) | go_simp
    simp only [Act.put, List.getElem_toArray, List.getElem_cons_succ, List.getElem_cons_zero, List.setIfInBounds_toArray, List.set_cons_zero, List.set_cons_succ]
    refine wpAnyH_take (i := 13) (v := ?_) rfl (by kernel_rfl) (by kernel_rfl) (by kernel_rfl) (fun _ _ _ h => h) (Or.inl ⟨by rfl, ?_⟩) hS0 ?_
    case refine_2 => rintro w s1; have c0 := (s1.cell (p := ⟨Bn, 0, none⟩) hBn).trans cN; have c1 := (s1.cell (p := ⟨Bg, 0, none⟩) hBg).trans cB; first | (go_simp; rfl) | go_simp
    simp only [Act.put, List.getElem_toArray, List.getElem_cons_succ, List.getElem_cons_zero, List.setIfInBounds_toArray, List.set_cons_zero, List.set_cons_succ]
    refine wpAnyH_take (i := 14) (v := ?_) rfl (by kernel_rfl) (by kernel_rfl) (by kernel_rfl) (fun _ _ _ h => h) (Or.inl ⟨by rfl, ?_⟩) hS0 ?_
    case refine_2 => rintro w s1; have c0 := (s1.cell (p := ⟨Bn, 0, none⟩) hBn).trans cN; have c1 := (s1.cell (p := ⟨Bg, 0, none⟩) hBg).trans cB; first | (go_simp; rfl) | go_simp
    simp only [Act.put, List.getElem_toArray, List.getElem_cons_succ, List.getElem_cons_zero, List.setIfInBounds_toArray, List.set_cons_zero, List.set_cons_succ]
    refine wpAnyH_ready (rs := [15]) (by kernel_rfl) (by simp) ?_
    refine AllReadyH.cons rfl (fun K hK => ?_) AllReadyH.nil
    go_simp
    refine (HA.out _ hS0).mono ?_
    rintro e w1 ⟨rfl, rfl⟩
    have hS1 := hS0.alloc hS0.size (.cells #[.slice a G.length c] 61)
    refine hK.out _ _ hS1 (fun hS1 => ?_)
    clear hK K
    refine wpAnyH_take (i := 16) (v := ?_) rfl (by kernel_rfl) (by kernel_rfl) (by kernel_rfl) (fun _ _ _ h => h) (Or.inl ⟨by rfl, ?_⟩) hS1 ?_
    case refine_2 => rintro w s1; have c0 := (s1.cell (p := ⟨Bn, 0, none⟩) hBn).trans cN; have c1 := (s1.cell (p := ⟨Bg, 0, none⟩) hBg).trans cB; first | (go_simp; rfl) | go_simp
    simp only [Act.put, List.getElem_toArray, List.getElem_cons_succ, List.getElem_cons_zero, List.setIfInBounds_toArray, List.set_cons_zero, List.set_cons_succ]
    refine wpAnyH_take (i := 17) (v := ?_) rfl (by kernel_rfl) (by kernel_rfl) (by kernel_rfl) (fun _ _ _ h => h) (Or.inl ⟨by rfl, ?_⟩) hS1 ?_
    case refine_2 => rintro w s1; have c0 := (s1.cell (p := ⟨Bn, 0, none⟩) hBn).trans cN; have c1 := (s1.cell (p := ⟨Bg, 0, none⟩) hBg).trans cB; first | (go_simp; rfl) | go_simp
    simp only [Act.put, List.getElem_toArray, List.getElem_cons_succ, List.getElem_cons_zero, List.setIfInBounds_toArray, List.set_cons_zero, List.set_cons_succ]
    refine wpAnyH_done (by kernel_rfl) ?_ _
    go_wp2_with fail
    go_ret
    exact ⟨rfl, hS1⟩
    -- REGION END

set_option maxRecDepth 100000 in
set_option maxHeartbeats 1000000 in
theorem implTw (a : Option Addr) (c : Nat) (G : List (List Int)) (w : World) (hM : Mat w.heap.size w a G) (hF : Fit G) :
    Calls Try.prog 39 #[.slice a G.length c] w (MadeS (twL G) w) := by
  have HOk := Lib.hid (implOk a c G w hM hF)
  have es : ∀ (W : World) (o : Obj), (W.alloc o).heap.size = W.heap.size + 1 := fun W o => by simp
  have hlf := hF.1
  cases hg : gOk G with
  | false =>
    rw [hg] at HOk
    rw [tw_no (by unfold g4; rw [hg]; rfl)]
    clear hM hF hg
    go_enter Try.func39, Try.ntmps39
    go_wp2_with fail
    refine HOk.out.mono ?_
    rintro e w2 ⟨rfl, hB2⟩
    go_wp2_with fail
    go_ret
    exact ⟨none, 0, ⟨rfl, hB2⟩, OwnSep.nil _ _⟩
  | true =>
    rw [hg] at HOk
    by_cases h4 : G.length ≤ 4
    · have HG := Lib.hid (good_of hg)
      have h1 := HG.out.1
      have d2 : decide (4 < (G.length : Int)) = false := decide_eq_false (by omega)
      have d3 : decide (4 < G.length) = false := decide_eq_false (by omega)
      have d4 : ¬ 4 < G.length := by omega
      have HF2 : Hid (Fit (rowsP (2 * G.length) (twP G))) := Lib.hid (by have := tw_fit (G := G); rwa [tw_yes (g4_iff.2 ⟨hg, h4⟩)] at this)
      rw [tw_yes (g4_iff.2 ⟨hg, h4⟩)]
      have HR : Hid (∀ V : World, w.heap.size ≤ V.heap.size → Mat w.heap.size V a G → ∀ Bn Bg, Boxed V Bn 3 (.int .i64 (G.length : Int)) → Boxed V Bg 61 (.slice a G.length c) →
          Calls Try.prog 60 #[.int .i64 ((2 * G.length : Nat) : Int), .func (.func 81) #[] #[.pointer (some ⟨Bn, 0, none⟩), .pointer (some ⟨Bg, 0, none⟩)]] V (MadeR (rowsP (2 * G.length) (twP G)) V)) := Lib.hid fun V hn hMV Bn Bg bN bG =>
        rowsBy_R 81 #[.pointer (some ⟨Bn, 0, none⟩), .pointer (some ⟨Bg, 0, none⟩)] (twP G) (2 * G.length) (by omega) V (enters_of Try.func81 (by kernel_rfl) rfl)
          (fun W' i j hb hi hj => callsIn_wide.2 (twice1 w.heap.size Bn Bg a c G W' (hMV.below (hb.mono hn)) (Nat.le_trans hn hb.size) HG.out h4 ((hb.block _ bN.lt).trans bN) ((hb.block _ bG.lt).trans bG) i j hi hj))
      have HM := Lib.hid hM
      obtain ⟨N, hN⟩ : ∃ N, 2 * G.length = N := ⟨_, rfl⟩
      rw [hN] at HR HF2 ⊢
      have e2 : (2 : Int) * (G.length : Int) = (N : Int) := by omega
      have hN8 : N ≤ 8 := by omega
      have w2 : IntKind.i64.wrap (N : Int) = (N : Int) := wrap_small _ (by omega)
      clear hM hF hg hN
      go_enter Try.func39, Try.ntmps39
      go_wp2_with fail
      refine HOk.out.mono ?_
      rintro e w2 ⟨rfl, hB2⟩
      have hz2 := hB2.size
      have HB2 := Lib.hid hB2
      clear hB2 HOk
      go_wp2_with fail
      refine (nodesP _ _ _ _).mono ?_
      rintro e w3 ⟨rfl, rfl⟩
      have hB3 := ((HB2.out.alloc hz2 (.cells #[.slice a G.length c] 61)).alloc (by simp; omega) (.cells #[.slice a G.length c] 61)).alloc (by simp; omega) (.cells #[.int .i64 (G.length : Int)] 3)
      have bG := ((Boxed.new w2 61 (.slice a G.length c)).alloc (.cells #[.slice a G.length c] 61)).alloc (.cells #[.int .i64 (G.length : Int)] 3)
      have bN := Boxed.new ((w2.alloc (.cells #[.slice a G.length c] 61)).alloc (.cells #[.slice a G.length c] 61)) 3 (.int .i64 (G.length : Int))
      rw [es, es] at bN
      have cN := bN.cell
      have HR3 := Lib.hid (HR.out _ (by simp; omega) (HM.out.below hB3) _ _ bN bG)
      have HB3 := Lib.hid hB3
      clear hB3 HR HM bG bN HB2
      go_wp2_with fail
      refine HR3.out.mono ?_
      rintro e w4 hR4
      have hS4 := madeR_sep HF2.out hR4
      obtain ⟨a4, c4, ⟨rfl, hB4⟩, hO4⟩ := hS4
      have HO4 := Lib.hid (hO4.mono HB3.out.size)
      have HB4 := Lib.hid (HB3.out.trans (hB4.mono HB3.out.size))
      clear hR4 hO4 hB4 HR3
      go_wp2_with fail
      go_ret
      exact ⟨a4, c4, ⟨rfl, HB4.out⟩, HO4.out⟩
    · have d2 : decide (4 < (G.length : Int)) = true := decide_eq_true (by omega)
      have d3 : decide (4 < G.length) = true := decide_eq_true (by omega)
      have d4 : 4 < G.length := by omega
      rw [tw_no (by rw [Bool.eq_false_iff]; intro e; exact h4 (g4_iff.1 e).2)]
      clear hM hF hg h4
      go_enter Try.func39, Try.ntmps39
      go_wp2_with fail
      refine HOk.out.mono ?_
      rintro e w2 ⟨rfl, hB2⟩
      go_wp2_with fail
      go_ret
      exact ⟨none, 0, ⟨rfl, hB2⟩, OwnSep.nil _ _⟩

end Go.Proofs.Ytldkgkpiceamhaa

namespace Go.Proofs.Ytldkgkpiceamhaa
open Go.RowKit Go.Shelf Go.Deep

attribute [local go_sem] Oper.semAt_some

theorem keepD_below {S : Nat → Prop} {T0 T : Nat} {W W' : World} (h : Below W.heap.size W W') : KeepD S T0 T W W' := ⟨h.size, fun B _ _ hB _ _ => (h.block B (Array.getElem?_eq_some_iff.1 hB).1).trans hB⟩

set_option maxRecDepth 100000 in
set_option maxHeartbeats 4000000 in
theorem implCvs (a a' : Option Addr) (c c' : Nat) (G H : List (List Int)) (w : World) (hM : Mat w.heap.size w a G) (hM' : Mat w.heap.size w a' H) (hf : Fit G) (hf' : Fit H) :
    Calls Try.prog 34 #[.slice a G.length c, .slice a' H.length c'] w (MadeS (cvsL G H) w) := by
  have h1 : Fence.wide.fn 75 := trivial
  have h2 : Fence.wide.fn 76 := trivial
  have h3 : Fence.wide.fn 77 := trivial
  have h4 : Fence.wide.fn 57 := trivial
  have hdd : ∀ k : Nat, (Fence.wide.depth.isSome = true → 1 ≤ k) := fun k h => by cases h
  have es : ∀ (W : World) (o : Obj), (W.alloc o).heap.size = W.heap.size + 1 := fun W o => by simp
  obtain ⟨i0, hi, hz0, hz1, hz2⟩ := info_parts infoInts
  have hFew := implFew a c a' c' G H w hM hM' hf hf'
  obtain ⟨zs, HZ⟩ : ∃ zs, Hid (cvsL G H = zs) := ⟨_, rfl⟩
  rw [HZ.out]
  refine (callsIn_wide (n := 20)).1 ?_
  by_cases hg : fewI G H = true
  · rw [hg] at hFew
    have HFew := Lib.hid hFew
    have HG := Lib.hid (good_of (fewI_iff.1 hg).1)
    have HH := Lib.hid (good_of (fewI_iff.1 hg).2.1)
    have HN := Lib.hid (few_maps hg)
    obtain ⟨p, HPP⟩ : ∃ p : List Int → Bool, Hid ((fun f => covI G H f) = p) := ⟨_, rfl⟩
    have HZ2 : Hid (zs = (mapsFrom G H G.length []).filter p) := Lib.hid (by rw [← HZ.out, ← HPP.out, ← mapsL_yes hg]; rfl)
    have HCV : Hid (∀ (W : World) (x : List Int) (b : Nat), x ∈ mapsFrom G H G.length [] → x.length = G.length → Ints W.heap.size W (some ⟨b, 0, none⟩) x → Below w.heap.size w W →
        Calls Try.prog 57 #[.agg #[.slice a G.length c], .agg #[.slice a' H.length c'], .slice (some ⟨b, 0, none⟩) G.length G.length] W (Ans (.bool (p x)) W)) := Lib.hid fun W x b hx hl hI hB => by
      have hmk : mapOkI G H x = true := mapOk_iff.2 ⟨⟨(fewI_iff.1 hg).1, (fewI_iff.1 hg).2.1⟩, (mapsL_mem hg x).1 (by rw [mapsL_yes hg]; exact hx)⟩
      have := covers_any W.heap.size a a' (some ⟨b, 0, none⟩) c c' G.length G H x W ((hM.below hB).more hB.size) ((hM'.below hB).more hB.size) hI (Nat.le_refl _) HG.out HH.out (mapOk_iff.1 hmk).2.1
      rw [hl] at this
      rw [← HPP.out]
      show Calls _ _ _ _ (Ans (.bool (covI G H x)) W)
      rw [covA_eq hmk]
      exact this
    have hl9 := HG.out.2.1
    have hl1 := HG.out.1
    clear hFew hf hf' hg HPP
    refine callsIn_of_wp_marks Try.func34 rfl trivial ?_ rfl
    simp only [Try.ntmps34, List.size_toArray, List.length_cons, List.length_nil, Nat.reduceAdd, Nat.reduceSub, Array.replicate_succ, Array.replicate_zero, List.push_toArray, List.append_toArray, List.nil_append, List.cons_append]
    gi_wp2_with (first | ((try refine ⟨hdd _, ?_⟩); gi_at_call 75; refine (callsIn_wide.2 HFew.out).mono ?_; rintro e w1 ⟨rfl, hB1⟩) | ((try refine ⟨hdd _, ?_⟩); gi_at_call 76; refine (mapsTo_in _ _ _ _ _ _ _ _).mono ?_; rintro e w' ⟨rfl, rfl⟩))
    have bB1 := ((((Boxed.new w1 61 (.slice a G.length c)).alloc (.cells #[.slice a' H.length c'] 61)).alloc (.cells #[.slice none 0 0] 23)).alloc (.cells #[.slice a G.length c] 61)).alloc (.cells #[.slice a' H.length c'] 61)
    have bB2 := (((Boxed.new (w1.alloc (.cells #[.slice a G.length c] 61)) 61 (.slice a' H.length c')).alloc (.cells #[.slice none 0 0] 23)).alloc (.cells #[.slice a G.length c] 61)).alloc (.cells #[.slice a' H.length c'] 61)
    rw [es] at bB2
    have bC := ((Boxed.new ((w1.alloc (.cells #[.slice a G.length c] 61)).alloc (.cells #[.slice a' H.length c'] 61)) 23 (.slice none 0 0)).alloc (.cells #[.slice a G.length c] 61)).alloc (.cells #[.slice a' H.length c'] 61)
    rw [es, es] at bC
    have bG := (Boxed.new (((w1.alloc (.cells #[.slice a G.length c] 61)).alloc (.cells #[.slice a' H.length c'] 61)).alloc (.cells #[.slice none 0 0] 23)) 61 (.slice a G.length c)).alloc (.cells #[.slice a' H.length c'] 61)
    rw [es, es, es] at bG
    have bH := Boxed.new ((((w1.alloc (.cells #[.slice a G.length c] 61)).alloc (.cells #[.slice a' H.length c'] 61)).alloc (.cells #[.slice none 0 0] 23)).alloc (.cells #[.slice a G.length c] 61)) 61 (.slice a' H.length c')
    rw [es, es, es, es] at bH
    have hB2 := (((((hB1.alloc (by have := hB1.size; simp; try omega) (.cells #[.slice a G.length c] 61)).alloc (by have := hB1.size; simp; try omega) (.cells #[.slice a' H.length c'] 61)).alloc (by have := hB1.size; simp; try omega) (.cells #[.slice none 0 0] 23)).alloc (by have := hB1.size; simp; try omega) (.cells #[.slice a G.length c] 61)).alloc (by have := hB1.size; simp; try omega) (.cells #[.slice a' H.length c'] 61))
    have hws := hB1.size
    have hsz : (((((w1.alloc (.cells #[.slice a G.length c] 61)).alloc (.cells #[.slice a' H.length c'] 61)).alloc (.cells #[.slice none 0 0] 23)).alloc (.cells #[.slice a G.length c] 61)).alloc (.cells #[.slice a' H.length c'] 61)).heap.size = w1.heap.size + 5 := by simp
    obtain ⟨V, hV⟩ : ∃ V, ((((w1.alloc (.cells #[.slice a G.length c] 61)).alloc (.cells #[.slice a' H.length c'] 61)).alloc (.cells #[.slice none 0 0] 23)).alloc (.cells #[.slice a G.length c] 61)).alloc (.cells #[.slice a' H.length c'] 61) = V := ⟨_, rfl⟩
    rw [hV] at bB1 bB2 bC bG bH hB2 hsz ⊢
    have hMV := hM.below hB2
    have hMV' := hM'.below hB2
    have hsz1 : w1.heap.size + 5 ≤ V.heap.size := by omega
    have hsz2 : V.heap.size ≤ w1.heap.size + 5 := by omega
    clear hV hB1 hM hM' hsz
    have hseq := mapsTo_D w.heap.size (V.heap.size + 2) (w1.heap.size + 1 + 1 + 1) a a' c c' G H HG.out HH.out (fun B => B = w1.heap.size + 1 + 1) V.heap.size (by omega) V bG bH hMV hMV' (fun B s => by omega) (by omega) (by omega)
    refine range_lawY rfl rfl (fun _ => trivial) (gf := 102) (lb := #[.pointer (some ⟨w1.heap.size + 1 + 1 + 1, 0, none⟩), .pointer (some ⟨w1.heap.size + 1 + 1 + 1 + 1, 0, none⟩)]) rfl (enters_of Try.func102 (by kernel_rfl) rfl)
      hseq (.inr (by omega)) (OwnFrom.and (ownFrom_pure _ _) (Own.from (hold_own _ _ _) _)) (fun h k => KeepD.trans h k) (fun W' o o' h hc => KeepD.putObj _ (by omega) W' o o' h hc) (Below.refl _ _) (fun _ => rfl)
      (fun pre W' => ((∃ v, Boxed W' (w1.heap.size + 1 + 1) 23 v ∧ OwnSep (V.heap.size + 4) W' v (pre.filter p) ∧ ((pre.filter p).length = 0 → v = .slice none 0 0)) ∧ (Boxed W' w1.heap.size 61 (.slice a G.length c) ∧ Boxed W' (w1.heap.size + 1) 61 (.slice a' H.length c'))) ∧ Below w.heap.size w W')
      (fun _ _ _ => False)
      ⟨fun s A C row ⟨⟨⟨v, k1, k2, k4⟩, k5, k6⟩, k3⟩ hgr hr => ⟨⟨⟨v, k1.kept hgr (fun e => by have := (hr _ e.symm).1; omega), k2.kept hgr (fun r e => .inr (hr r e).2), k4⟩, k5.kept hgr (fun e => by have := (hr _ e.symm).1; omega), k6.kept hgr (fun e => by have := (hr _ e.symm).1; omega)⟩, k3.grown hgr k3.size (fun r e => by have := (hr r e).1; omega)⟩,
        fun s A C ⟨⟨⟨v, k1, k2, k4⟩, k5, k6⟩, k3⟩ hgr _ => ⟨⟨⟨v, k1.kept hgr (fun e => by have e' := Option.some.inj e; omega), k2.kept hgr (fun r e => .inl (by cases e; omega)), k4⟩, k5.kept hgr (fun e => by have e' := Option.some.inj e; omega), k6.kept hgr (fun e => by have e' := Option.some.inj e; omega)⟩, k3.grown hgr k3.size (fun r e => by cases e; omega)⟩⟩
      (fun _ => ⟨fun _ _ _ _ hs _ _ => hs, fun _ _ _ hs _ _ => hs⟩)
      ⟨⟨⟨.slice none 0 0, bC, OwnSep.nil _ _, fun _ => rfl⟩, bB1, bB2⟩, hB2⟩ ?a1 ?assign ?body ?done ?stop
    case assign =>
      intro l2 x W' K hK
      gi_wp2
      exact hK
    case body =>
      rintro l2 pre x W0 ⟨⟨⟨v, bC0, hO0, hnil⟩, bB10, bB20⟩, hB0'⟩ hsp ⟨hxN, hHx0⟩
      have hxm : x ∈ mapsFrom G H G.length [] := hsp.subset (by simp)
      have HCC := Lib.hid (HCV.out W0 x (V.heap.size + 2 + 1) hxm hxN hHx0.ints hB0')
      have hlen0 : pre.length ≤ 7000 := by
        have h := hsp.length_le
        have := HN.out
        rw [List.length_append, List.length_singleton] at h
        omega
      have hlen2 : (pre.filter p).length ≤ 7000 := Nat.le_trans (List.length_filter_le _ _) hlen0
      have hlt0 : V.heap.size + 2 + 1 < W0.heap.size := hHx0.lt
      have cB1 := bB10.cell
      have cB2 := bB20.cell
      clear hsp hxm hseq bC bG bH hMV hMV' bB1 bB2
      cases hpx : p x with
      | false =>
        rw [hpx] at HCC
        have HFE : Hid ((pre ++ [x]).filter p = pre.filter p) := Lib.hid (by rw [List.filter_append]; simp [hpx])
        clear hpx
        gi_wp2_with fail
        (try refine ⟨hdd _, ?_⟩)
        gi_at_call 57
        refine (CallsIn.inRound l2 (callsIn_wide.2 HCC.out)).mono ?_
        rintro e W' ⟨rfl, hBx⟩
        have bC' : Boxed W' (w1.heap.size + 1 + 1) _ _ := (hBx.block _ bC0.lt).trans bC0
        have bB1' : Boxed W' w1.heap.size _ _ := (hBx.block _ bB10.lt).trans bB10
        have bB2' : Boxed W' (w1.heap.size + 1) _ _ := (hBx.block _ bB20.lt).trans bB20
        have hO' := hO0.below hBx
        have hB' := hB0'.trans (hBx.mono hB0'.size)
        gi_wp2_with fail
        exact ⟨keepsFrom_below hBx _, keepD_below hBx, ⟨⟨v, bC', by rw [HFE.out]; exact hO', fun h => by rw [HFE.out] at h; exact hnil h⟩, bB1', bB2'⟩, hB'⟩
      | true =>
        rw [hpx] at HCC
        have HFE : Hid ((pre ++ [x]).filter p = pre.filter p ++ [x]) := Lib.hid (by rw [List.filter_append]; simp [hpx])
        clear hpx
        gi_wp2_with fail
        (try refine ⟨hdd _, ?_⟩)
        gi_at_call 57
        refine (CallsIn.inRound l2 (callsIn_wide.2 HCC.out)).mono ?_
        rintro e W' ⟨rfl, hBx⟩
        have bC' : Boxed W' (w1.heap.size + 1 + 1) _ _ := (hBx.block _ bC0.lt).trans bC0
        have bB1' : Boxed W' w1.heap.size _ _ := (hBx.block _ bB10.lt).trans bB10
        have bB2' : Boxed W' (w1.heap.size + 1) _ _ := (hBx.block _ bB20.lt).trans bB20
        have hO := hO0.below hBx
        have hB' := hB0'.trans (hBx.mono hB0'.size)
        have hHx := hHx0.below hBx hlt0
        have HKD := Lib.hid (keepD_below (S := fun B => B = w1.heap.size + 1 + 1) (T0 := V.heap.size) (T := V.heap.size) hBx)
        obtain ⟨fl, hfl⟩ : ∃ fl, pre.filter p = fl := ⟨_, rfl⟩
        rw [hfl] at HFE hO hnil hlen2
        clear hfl bC0 bB10 bB20 hO0 hHx0 hBx cB1 cB2 HCC
        have cC := bC'.cell
        have fC := bC'.frozen
        have ltC : w1.heap.size + 1 + 1 < W'.heap.size := bC'.lt
        have hbx : V.heap.size + 2 + 1 < W'.heap.size := hHx.lt
        have hIx : Ints W'.heap.size W' (some ⟨V.heap.size + 2 + 1, 0, none⟩) x := hHx.ints
        have HCl := Lib.hid (cloneRow (V.heap.size + 2 + 1) G.length x W'.drew hIx (by omega) (by omega))
        rw [hxN] at HCl
        obtain ⟨vs, hO1, hO2, hO3⟩ := hO
        have hvl : vs.length = fl.length := by simpa using hO1.1
        have hown3 : ∀ w4 : World, Below W'.drew.heap.size W'.drew w4 → ∀ o, (w4.alloc o).ownsRow (V.heap.size + 4) 24 1 v fl.length vs := fun w4 hB4 o => (ownsRow_below (W := W'.drew) hO1 hB4).alloc o
        have hsx : ∀ w4 : World, Below W'.drew.heap.size W'.drew w4 → ∀ o, V.heap.size + 4 ≤ (w4.alloc o).heap.size := fun w4 hB4 o => by have h := hB4.size; have h' : W'.heap.size ≤ w4.heap.size := h; rw [es]; omega
        have hfin : ∀ (w4 w6 : World) (v6 : Value) (g cap : Nat), Below W'.drew.heap.size W'.drew w4 → w4.ownsRow W'.drew.heap.size 3 1 (.slice (some ⟨g, 0, none⟩) G.length cap) G.length (x.map (Value.int .i64)) →
            ((w4.alloc (.cells #[.slice (some ⟨g, 0, none⟩) G.length cap] 24)).grownBy w6 none ∨ ∃ g1 cap1, v = .slice (some ⟨g1, 0, none⟩) fl.length cap1 ∧ v6 = .slice (some ⟨g1, 0, none⟩) (fl.length + 1) cap1 ∧ fl.length < cap1 ∧ (w4.alloc (.cells #[.slice (some ⟨g, 0, none⟩) G.length cap] 24)).grownBy w6 (some g1)) →
            w6.ownsRow (V.heap.size + 4) 24 1 v6 (fl.length + 1) (vs ++ [.slice (some ⟨g, 0, none⟩) G.length cap]) →
            (w6.cell? ⟨w1.heap.size + 1 + 1, 0, none⟩ = some v) ∧ w6.frozen? ⟨w1.heap.size + 1 + 1, 0, none⟩ = false ∧ (KeepD (fun B => B = w1.heap.size + 1 + 1) V.heap.size V.heap.size W' (w6.setCell ⟨w1.heap.size + 1 + 1, 0, none⟩ v6) ∧ Boxed (w6.setCell ⟨w1.heap.size + 1 + 1, 0, none⟩ v6) (w1.heap.size + 1 + 1) 23 v6 ∧
              OwnSep (V.heap.size + 4) (w6.setCell ⟨w1.heap.size + 1 + 1, 0, none⟩ v6) v6 (fl ++ [x]) ∧ Below w.heap.size w (w6.setCell ⟨w1.heap.size + 1 + 1, 0, none⟩ v6) ∧ Boxed (w6.setCell ⟨w1.heap.size + 1 + 1, 0, none⟩ v6) w1.heap.size 61 (.slice a G.length c) ∧ Boxed (w6.setCell ⟨w1.heap.size + 1 + 1, 0, none⟩ v6) (w1.heap.size + 1) 61 (.slice a' H.length c')) := by
          intro w4 w6 v6 g cap hB4 hown4 hgr hown6
          have hB4' : Below W'.heap.size W' w4 := ⟨hB4.os, hB4.tape, hB4.output, hB4.size, hB4.block⟩
          have hs4 : W'.heap.size ≤ w4.heap.size := hB4.size
          have hB5 : Below W'.heap.size W' (w4.alloc (.cells #[.slice (some ⟨g, 0, none⟩) G.length cap] 24)) := hB4'.alloc hs4 _
          have hO1' := hown3 w4 hB4 (.cells #[.slice (some ⟨g, 0, none⟩) G.length cap] 24)
          -- what the append has turned: at most a great slice
          have hgB : ∃ row, (w4.alloc (.cells #[.slice (some ⟨g, 0, none⟩) G.length cap] 24)).grownBy w6 row ∧ ∀ r, row = some r → V.heap.size + 4 ≤ r ∧ (∃ o, W'.heap[r]? = some o ∧ Great o) ∧ v.ownBlock = some r := by
            rcases hgr with h | ⟨g1, cap1, e1, _, hlt, h⟩
            · exact ⟨none, h, fun r e => by cases e⟩
            · refine ⟨some g1, h, fun r e => ?_⟩
              cases e
              rw [e1] at hO1
              by_cases hp0 : 1 ≤ fl.length
              · obtain ⟨q1, q2⟩ := great_of hO1 hp0 hlt rfl
                exact ⟨q1, q2, by rw [e1]; rfl⟩
              · exact absurd (hnil (by omega)) (by rw [e1]; exact fun h => by cases h)
          obtain ⟨row, hg6, hrow⟩ := hgB
          have hne : ∀ (k : Nat) (o : Obj), W'.heap[k]? = some o → (k < V.heap.size ∨ ¬ Great o) → w6.heap[k]? = some o := fun k o hk hor => by
            have hkl := (Array.getElem?_eq_some_iff.1 hk).1
            refine (hg6.block k (Nat.lt_of_lt_of_le hkl hB5.size) (fun e => ?_)).trans ((hB5.block k hkl).trans hk)
            obtain ⟨q1, ⟨o', ho', hgr'⟩, _⟩ := hrow k e.symm
            rw [hk] at ho'; cases ho'
            rcases hor with h | h
            · omega
            · exact h hgr'
          have ngBox : ∀ u, ¬ Great (.cells #[u] 23) := fun u ⟨cs, fr, e, h2⟩ => by injection e with e1 e2; subst e1; simp at h2
          have bC6 : Boxed w6 (w1.heap.size + 1 + 1) 23 v := hne _ _ bC' (.inr (ngBox v))
          have hB6 : Below w.heap.size w w6 := (hB'.trans (hB5.mono hB'.size)).grown hg6 (Nat.le_trans hB'.size hB5.size) (fun r e => by have := (hrow r e).1; omega)
          have ngBoxG : ∀ u, ¬ Great (.cells #[u] 61) := fun u ⟨cs, fr, e, h2⟩ => by injection e with e1 e2; subst e1; simp at h2
          have bB16 : Boxed w6 w1.heap.size 61 (.slice a G.length c) := hne _ _ bB1' (.inr (ngBoxG _))
          have bB26 : Boxed w6 (w1.heap.size + 1) 61 (.slice a' H.length c') := hne _ _ bB2' (.inr (ngBoxG _))
          refine ⟨bC6.cell, bC6.frozen, ⟨?_, fun B o hS hB hc hgt => ?_⟩, ?_, ?_, ?_, ?_, ?_⟩
          · have := hg6.size; have := hB5.size; simp; omega
          · exact (Below.heap_setCell w6 ⟨w1.heap.size + 1 + 1, 0, none⟩ v6 B (fun e => hS e)).trans (hne B o hB hgt)
          · exact bC6.set v6
          · refine OwnSep.set ⟨vs ++ [.slice (some ⟨g, 0, none⟩) G.length cap], by rw [List.length_append, List.length_singleton]; exact hown6, ?_, ?_⟩ (by omega) 0 v6
            · intro i u xs hu hxs
              by_cases hi : i < vs.length
              · rw [List.getElem?_append_left hi] at hu
                rw [List.getElem?_append_left (by omega)] at hxs
                have h2 := (ownsRow_below (W := W'.drew) (hO2 i u xs hu hxs) hB4).alloc (.cells #[.slice (some ⟨g, 0, none⟩) G.length cap] 24)
                refine h2.kept hg6 ?_
                cases hrr : row with
                | none => cases u.ownBlock <;> simp
                | some r =>
                  obtain ⟨_, _, q3⟩ := hrow r hrr
                  have := own_ne_own hO1' h2
                  rw [q3] at this
                  exact this
              · rw [List.getElem?_append_right (by omega)] at hu hxs
                have e1 : i - vs.length = 0 := by have := (List.getElem?_eq_some_iff.1 hu).1; simp at this; omega
                rw [e1] at hu; rw [show i - fl.length = 0 by omega] at hxs
                simp at hu hxs
                subst hu; subst hxs
                have h2 := hown4.alloc (.cells #[.slice (some ⟨g, 0, none⟩) G.length cap] 24)
                rw [hxN]
                have h3 : (w4.alloc (.cells #[.slice (some ⟨g, 0, none⟩) G.length cap] 24)).ownsRow (V.heap.size + 4) 3 1 (.slice (some ⟨g, 0, none⟩) G.length cap) G.length (x.map (Value.int .i64)) := Joins.ownsRow_le h2 (by show V.heap.size + 4 ≤ W'.heap.size; omega)
                refine h3.kept hg6 ?_
                cases hrr : row with
                | none => simp [Value.ownBlock]
                | some r =>
                  obtain ⟨_, _, q3⟩ := hrow r hrr
                  have := own_ne_own hO1' h3
                  rw [q3] at this
                  exact this
            · refine hO3.snoc fun y hy g' hg' e => ?_
              obtain ⟨i, hi, hiy⟩ := List.mem_iff_getElem.1 hy
              have hpi : i < fl.length := by omega
              have h1 := (hO2 i y (fl[i]'hpi) (by rw [List.getElem?_eq_getElem hi, hiy]) (List.getElem?_eq_getElem hpi)).lt g' hg'
              have h2 := hown4.lt g' e
              have h3 : W'.heap.size ≤ g' := h2.1
              omega
          · exact hB6.setCell (p := ⟨w1.heap.size + 1 + 1, 0, none⟩) (by show w.heap.size ≤ w1.heap.size + 1 + 1; omega) _
          · exact (Below.heap_setCell w6 ⟨w1.heap.size + 1 + 1, 0, none⟩ v6 w1.heap.size (by show w1.heap.size ≠ w1.heap.size + 1 + 1; omega)).trans bB16
          · exact (Below.heap_setCell w6 ⟨w1.heap.size + 1 + 1, 0, none⟩ v6 (w1.heap.size + 1) (by show w1.heap.size + 1 ≠ w1.heap.size + 1 + 1; omega)).trans bB26
        clear hIx hHx hO1 hO2 hO3 bC' hvl hnil bB1' bB2'
        gi_wp2
        refine wpIn_region_any (by kernel_rfl) (wpAnyIn_of (by kernel_rfl) (fun ⟨_, _, h⟩ => h) _ _ _ _ ?_)
        change wpAny _ _ _ _ _ _ _ (World.drew _)
        refine wpAny_take (i := 1) (v := ?_) rfl (by kernel_rfl) (by kernel_rfl) (by kernel_rfl) (fun _ _ _ h => h) (Or.inl ⟨by rfl, ?_⟩) ?_
        case refine_2 => intro w; go_simp; rfl
        refine wpAny_ready (rs := [0, 2]) (by kernel_rfl) (by simp) ?_
        refine AllReady.cons rfl (fun K hK => ?_) ?_
        · go_simp
          refine hK _ _ ?_
          clear hK K
          refine wpAny_ready (rs := [2]) (by kernel_rfl) (by simp) ?_
          refine AllReady.cons rfl (fun K hK => ?_) AllReady.nil
          go_simp
          refine HCl.out.mono ?_
          rintro e w4 ⟨g, cap, rfl, hB4, hown4⟩
          have hc4 : w4.cell? ⟨w1.heap.size + 1 + 1, 0, none⟩ = some v := (hB4.cell (p := ⟨w1.heap.size + 1 + 1, 0, none⟩) ltC).trans cC
          have hc5 : (w4.alloc (.cells #[.slice (some ⟨g, 0, none⟩) G.length cap] 24)).cell? ⟨w1.heap.size + 1 + 1, 0, none⟩ = some v := (World.cell?_alloc_lt w4 _ ⟨w1.heap.size + 1 + 1, 0, none⟩ (Nat.lt_of_lt_of_le ltC hB4.size)).trans hc4
          obtain ⟨v6, w6, hrun, hown6, hgr6⟩ := run_append_D (P := Try.prog) (w4.alloc (.cells #[.slice (some ⟨g, 0, none⟩) G.length cap] 24)) (V.heap.size + 4) 23 23 24 i0 (.slice none 0 0) 24 Try.underlying23 hi hz0 hz1 hz2 rfl v fl.length vs (hown3 w4 hB4 _) (hsx w4 hB4 _) ⟨w4.heap.size, 0, none⟩ (.slice (some ⟨g, 0, none⟩) G.length cap) (cell_one_new _ _ _) rfl (by unfold maxLen; omega) (by omega)
          obtain ⟨a6, c6, rfl⟩ := own_form hown6
          have hF6 := hfin w4 w6 _ g cap hB4 hown4 hgr6 hown6
          have hc6 := hF6.1
          have hf6 := hF6.2.1
          have HF6 := Lib.hid hF6.2.2
          clear hF6 hown6 hgr6 hown4 hB4
          refine hK _ _ ?_
          clear hK K
          refine wpAny_ready (rs := [3]) (by kernel_rfl) (by simp) ?_
          refine AllReady.cons rfl (fun K hK => ?_) AllReady.nil
          go_simp
          refine hK _ _ ?_
          clear hK K
          refine appendAny (k := 4) (by kernel_rfl) rfl rfl rfl rfl rfl hrun ?_
          refine wpAny_ready (rs := [5]) (by kernel_rfl) (by simp) ?_
          refine AllReady.cons rfl (fun K hK => ?_) AllReady.nil
          go_simp
          refine hK _ _ ?_
          clear hK K
          refine wpAny_done (by kernel_rfl) ?_ _
          gi_wp2
          have hK6 := HF6.out
          exact ⟨KeepD.from (HKD.out.trans hK6.1) (fun B hB => by omega) (Nat.le_refl _), KeepD.more (HKD.out.trans hK6.1) (by omega), ⟨⟨_, hK6.2.1, by rw [HFE.out]; exact hK6.2.2.1, fun h => by rw [HFE.out] at h; simp at h⟩, hK6.2.2.2.2⟩, hK6.2.2.2.1⟩
        · refine AllReady.cons rfl (fun K hK => ?_) AllReady.nil
          go_simp
          refine HCl.out.mono ?_
          rintro e w4 ⟨g, cap, rfl, hB4, hown4⟩
          have hc4 : w4.cell? ⟨w1.heap.size + 1 + 1, 0, none⟩ = some v := (hB4.cell (p := ⟨w1.heap.size + 1 + 1, 0, none⟩) ltC).trans cC
          have hc5 : (w4.alloc (.cells #[.slice (some ⟨g, 0, none⟩) G.length cap] 24)).cell? ⟨w1.heap.size + 1 + 1, 0, none⟩ = some v := (World.cell?_alloc_lt w4 _ ⟨w1.heap.size + 1 + 1, 0, none⟩ (Nat.lt_of_lt_of_le ltC hB4.size)).trans hc4
          obtain ⟨v6, w6, hrun, hown6, hgr6⟩ := run_append_D (P := Try.prog) (w4.alloc (.cells #[.slice (some ⟨g, 0, none⟩) G.length cap] 24)) (V.heap.size + 4) 23 23 24 i0 (.slice none 0 0) 24 Try.underlying23 hi hz0 hz1 hz2 rfl v fl.length vs (hown3 w4 hB4 _) (hsx w4 hB4 _) ⟨w4.heap.size, 0, none⟩ (.slice (some ⟨g, 0, none⟩) G.length cap) (cell_one_new _ _ _) rfl (by unfold maxLen; omega) (by omega)
          obtain ⟨a6, c6, rfl⟩ := own_form hown6
          have hF6 := hfin w4 w6 _ g cap hB4 hown4 hgr6 hown6
          have hc6 := hF6.1
          have hf6 := hF6.2.1
          have HF6 := Lib.hid hF6.2.2
          clear hF6 hown6 hgr6 hown4 hB4
          refine hK _ _ ?_
          clear hK K
          refine wpAny_ready (rs := [0, 3]) (by kernel_rfl) (by simp) ?_
          refine AllReady.cons rfl (fun K hK => ?_) ?_
          · go_simp
            refine hK _ _ ?_
            clear hK K
            refine wpAny_ready (rs := [3]) (by kernel_rfl) (by simp) ?_
            refine AllReady.cons rfl (fun K hK => ?_) AllReady.nil
            go_simp
            refine hK _ _ ?_
            clear hK K
            refine appendAny (k := 4) (by kernel_rfl) rfl rfl rfl rfl rfl hrun ?_
            refine wpAny_ready (rs := [5]) (by kernel_rfl) (by simp) ?_
            refine AllReady.cons rfl (fun K hK => ?_) AllReady.nil
            go_simp
            refine hK _ _ ?_
            clear hK K
            refine wpAny_done (by kernel_rfl) ?_ _
            gi_wp2
            have hK6 := HF6.out
            exact ⟨KeepD.from (HKD.out.trans hK6.1) (fun B hB => by omega) (Nat.le_refl _), KeepD.more (HKD.out.trans hK6.1) (by omega), ⟨⟨_, hK6.2.1, by rw [HFE.out]; exact hK6.2.2.1, fun h => by rw [HFE.out] at h; simp at h⟩, hK6.2.2.2.2⟩, hK6.2.2.2.1⟩
          · refine AllReady.cons rfl (fun K hK => ?_) AllReady.nil
            go_simp
            refine hK _ _ ?_
            clear hK K
            refine wpAny_ready (rs := [0]) (by kernel_rfl) (by simp) ?_
            refine AllReady.cons rfl (fun K hK => ?_) AllReady.nil
            go_simp
            refine hK _ _ ?_
            clear hK K
            refine appendAny (k := 4) (by kernel_rfl) rfl rfl rfl rfl rfl hrun ?_
            refine wpAny_ready (rs := [5]) (by kernel_rfl) (by simp) ?_
            refine AllReady.cons rfl (fun K hK => ?_) AllReady.nil
            go_simp
            refine hK _ _ ?_
            clear hK K
            refine wpAny_done (by kernel_rfl) ?_ _
            gi_wp2
            have hK6 := HF6.out
            exact ⟨KeepD.from (HKD.out.trans hK6.1) (fun B hB => by omega) (Nat.le_refl _), KeepD.more (HKD.out.trans hK6.1) (by omega), ⟨⟨_, hK6.2.1, by rw [HFE.out]; exact hK6.2.2.1, fun h => by rw [HFE.out] at h; simp at h⟩, hK6.2.2.2.2⟩, hK6.2.2.2.1⟩
    case done =>
      rintro D ys W' hD rfl ⟨⟨⟨v, bC', hO, _⟩, _⟩, hB'⟩ hK
      have cC := bC'.cell
      clear hseq
      gi_wp2
      refine ⟨by simp, .inl ⟨_, _, rfl, run_takeDeferred hK, ?_⟩⟩
      obtain ⟨av, cv, rfl⟩ := (let ⟨_, ho, _⟩ := hO; own_form ho)
      refine ⟨_, results_tmp rfl _ _ _, av, cv, ⟨?_, hB'.trans (belowK_b (w := w) (Nat.le_refl _) W' D _ _ (by omega) hK rfl rfl)⟩, ?_⟩
      · rw [HZ2.out]; rfl
      · rw [HZ2.out]
        exact (hO.kept (grownBy_putObj' W' D _) (fun r e => .inr ⟨_, by cases e; exact hK, rfl⟩)).mono (by omega)
    case stop =>
      rintro D c' pre W' _ _ hx _
      exact hx.elim
  · have hg' : fewI G H = false := by simpa using hg
    rw [hg'] at hFew
    have HFew := Lib.hid hFew
    have HZ2 : Hid (zs = []) := Lib.hid (by rw [← HZ.out]; unfold cvsL; rw [mapsL_no hg']; rfl)
    clear hFew hg hM hM' hf hf' hg'
    refine callsIn_of_wp_marks Try.func34 rfl trivial ?_ rfl
    simp only [Try.ntmps34, List.size_toArray, List.length_cons, List.length_nil, Nat.reduceAdd, Nat.reduceSub, Array.replicate_succ, Array.replicate_zero, List.push_toArray, List.append_toArray, List.nil_append, List.cons_append]
    gi_wp2_with ((try refine ⟨hdd _, ?_⟩); gi_at_call 75; refine (callsIn_wide.2 HFew.out).mono ?_; rintro e w1 ⟨rfl, hB1⟩)
    refine ⟨_, results_tmp rfl _ _ _, ?_⟩
    rw [HZ2.out]
    exact ⟨none, 0, ⟨rfl, hB1⟩, OwnSep.nil _ _⟩

end Go.Proofs.Ytldkgkpiceamhaa

namespace Go.Proofs.Ytldkgkpiceamhaa
/-- A walk is not long. -/
theorem walk_len14 {G : List (List Int)} {f : List Int} (h : walkI G f = true) : f.length ≤ 13 := (walk_iff.1 h).2.1.2

end Go.Proofs.Ytldkgkpiceamhaa
