/-
  Several texts in one.
  A list built by append while a reader goes on; what lies in no reader's block.
  Two graphs of at most four nodes drawn: l20Pair.
-/
import Derived.Test.YtldkgkpiceamhaaZD
import Derived.Test.YtldkgkpiceamhaaZF
import Derived.Test.YtldkgkpiceamhaaZA
namespace Go.Proofs.Ytldkgkpiceamhaa
open Go.RowKit Go.Shelf

theorem rd_block {n₀ B N : Nat} {W : World} (h : Rd n₀ B W N) : ∃ cs t fr, W.heap[B]? = some (.cells cs t fr) := by obtain ⟨_, _, _, _, hb, _⟩ := h; exact ⟨_, _, _, hb⟩
theorem Mat.erasedKept {m n₀ B N : Nat} {W W' : World} {a : Option Addr} {xss : List (List Int)} (h : Mat m (W.setRow B #[]) a xss) (hR : Rd n₀ B W N) (hg : W.grownBy W' (some B)) (hm : m ≤ W'.heap.size) : Mat W'.heap.size (W'.setRow B #[]) a xss := by
  obtain ⟨cs, t, fr, hb⟩ := rd_block hR
  exact (h.sub (erased_sub hb fun k hk hne => (setRow_other W' B k _ hne).trans (hg.block k hk (fun e => hne (Option.some.inj e))))).more hm
theorem Mat.laid {m n₀ B N : Nat} {W : World} {a : Option Addr} {xss : List (List Int)} (h : Mat m (W.setRow B #[]) a xss) (hR : Rd n₀ B W N) : Mat m W a xss := by
  obtain ⟨cs, t, fr, hb⟩ := rd_block hR
  exact h.sub (erased_sub hb fun _ _ _ => rfl)

theorem Ints.erasedKept {m n₀ B N : Nat} {W W' : World} {a : Option Addr} {xs : List Int} (h : Ints m (W.setRow B #[]) a xs) (hR : Rd n₀ B W N) (hg : W.grownBy W' (some B)) (hm : m ≤ W'.heap.size) : Ints W'.heap.size (W'.setRow B #[]) a xs := by
  obtain ⟨cs, t, fr, hb⟩ := rd_block hR
  exact (h.sub (erased_sub hb fun k hk hne => (setRow_other W' B k _ hne).trans (hg.block k hk (fun e => hne (Option.some.inj e))))).more hm
theorem Ints.laid {m n₀ B N : Nat} {W : World} {a : Option Addr} {xs : List Int} (h : Ints m (W.setRow B #[]) a xs) (hR : Rd n₀ B W N) : Ints m W a xs := by
  obtain ⟨cs, t, fr, hb⟩ := rd_block hR
  exact h.sub (erased_sub hb fun _ _ _ => rfl)

/-- A row's head is where it was. -/
theorem Mat.same {m n₀ n₁ B N N' : Nat} {W W' : World} {b o : Nat} {xss : List (List Int)} (h : Mat m (W.setRow B #[]) (some ⟨b, o, none⟩) xss) (hg : W.grownBy W' (some B)) (hR' : Rd n₁ B W' N') (hR : Rd n₀ B W N) (q : Nat) (hq : q < xss.length) : W'.cell? ⟨b, o + q, none⟩ = W.cell? ⟨b, o + q, none⟩ := by
  obtain ⟨b', o', a', c', xs, e, _, hc, _⟩ := h.at_ hq
  cases e
  obtain ⟨cs, t, fr, hb⟩ := rd_block hR
  obtain ⟨cs', t', fr', hb'⟩ := rd_block hR'
  rw [erased_sub hb (fun k hk hne => hg.block k hk (fun e => hne (Option.some.inj e))) _ _ hc, erased_sub hb (fun _ _ _ => rfl) _ _ hc]

/-- A LIST built by append, while the reader in block B goes on. -/
def IOut (n₀ B : Nat) (w W : World) (v : Value) (k N : Nat) : Prop :=
  Rd n₀ B W N ∧ w.grownBy W (some B) ∧ B < w.heap.size ∧ ∃ ys : List Int, ys.length = k ∧ W.ownsRow w.heap.size 3 1 v k (ys.map (Value.int .i64))
theorem IOut.start {n₀ B N : Nat} {w : World} (hr : Rd n₀ B w N) (hB : B < w.heap.size) : IOut n₀ B w (w.alloc (.cells #[] 3)) (.slice (some ⟨w.heap.size, 0, none⟩) 0 0) 0 N :=
  ⟨hr.keep (World.grownBy_alloc w _ none) (fun r e => by cases e), World.grownBy_alloc w _ _, hB, [], rfl, World.ownsRow_lit (size := 1) w #[] 0 (Nat.le_refl _) (Nat.zero_le _) rfl⟩
theorem own_ne_rd1 {W : World} {base k B : Nat} {v : Value} {vs : List Value} (h : W.ownsRow base 3 1 v k vs) (hB : B < base) : v.ownBlock ≠ some B := fun e => by have := (h.lt B e).1; omega
theorem IOut.pick {n₀ B k N N' : Nat} {w W W' : World} {v : Value} (h : IOut n₀ B w W v k N) (hr : Rd n₀ B W' N') (hg : W.grownBy W' (some B)) : IOut n₀ B w W' v k N' := by
  obtain ⟨_, h2, h3, ys, hl, ho⟩ := h
  exact ⟨hr, grow_B h2 hg (fun r e => by cases e; exact .inr rfl), h3, ys, hl, ho.kept hg (.inr (own_ne_rd1 ho h3))⟩
theorem IOut.more {n₀ B k N N' : Nat} {w W : World} {v : Value} (h : IOut n₀ B w W v k N) (hN : N ≤ N') : IOut n₀ B w W v k N' := ⟨h.1.more hN, h.2⟩
theorem IOut.appended {n₀ B k N : Nat} {w W w1 : World} {v v' : Value} {ys : List Int} {y : Int} {o : Obj} (h : IOut n₀ B w W v k N) (hl : ys.length = k) (ho : W.ownsRow w.heap.size 3 1 v k (ys.map (Value.int .i64)))
    (hown : w1.ownsRow w.heap.size 3 1 v' (k + 1) (ys.map (Value.int .i64) ++ [.int .i64 y])) (hgrow : (W.alloc o).grownBy w1 v.ownBlock) : IOut n₀ B w w1 v' (k + 1) N := by
  obtain ⟨h1, h2, h3, _⟩ := h
  refine ⟨(h1.keep (World.grownBy_alloc W o none) (fun r e => by cases e)).keep hgrow (fun r e => ?_), ?_, h3, ys ++ [y], by simp [hl], by simpa using hown⟩
  · exact Nat.lt_of_lt_of_le h3 (ho.lt r e).1
  · exact grow_B (grow_B h2 (World.grownBy_alloc W o none) (fun r e => by cases e)) hgrow (fun r e => .inl (ho.lt r e).1)
theorem IOut.ints {n₀ B k N : Nat} {w W : World} {a : Option Addr} {c : Nat} (h : IOut n₀ B w W (.slice a k c) k N) : ∃ ys : List Int, ys.length = k ∧ Ints W.heap.size (W.setRow B #[]) a ys := by
  obtain ⟨h1, h2, h3, ys, rfl, ho⟩ := h
  obtain ⟨a', c', e, hI⟩ := own_ints (ho.kept (erased_grown W B) (.inr (own_ne_rd1 ho h3)))
  cases e
  rw [show (W.setRow B #[]).heap.size = W.heap.size by simp] at hI
  exact ⟨ys, rfl, hI⟩

end Go.Proofs.Ytldkgkpiceamhaa

namespace Go.Proofs.Ytldkgkpiceamhaa
open Go.RowKit Go.Shelf

/-- TWO GRAPHS, or what are none, ARE DRAWN, each of at most four nodes. -/
def DrawnP (n₀ B N : Nat) (w : World) (e : Ending) (w' : World) : Prop :=
  ∃ (a : Option Addr) (c : Nat) (xss : List (List Int)) (a' : Option Addr) (c' : Nat) (yss : List (List Int)), e = .returned (.tuple #[.slice a xss.length c, .slice a' yss.length c']) ∧
    (Fit xss ∧ Mat w'.heap.size (w'.setRow B #[]) a xss ∧ xss.length ≤ 4) ∧ (Fit yss ∧ Mat w'.heap.size (w'.setRow B #[]) a' yss ∧ yss.length ≤ 4) ∧ Rd n₀ B w' N ∧ w.grownBy w' (some B)

set_option maxHeartbeats 1000000 in
theorem pair_any (n₀ B N : Nat) (odd : Int) (w : World) (hR : Rd n₀ B w N) (hN : N ≤ 300000) (ho0 : 0 ≤ odd) (ho1 : odd ≤ 1000) :
    Calls Try.prog 74 #[.pointer (some ⟨B, 0, none⟩), .int .i64 odd] w (DrawnP n₀ B (N + 401) w) := by
  have hBw := hR.lt
  go_enter Try.func74, Try.ntmps74
  go_wp2_with fail
  refine (graph_anyK n₀ B N 4 4 odd w hR (by omega) (by omega) (by omega) (by omega) (by omega) (by omega)).mono ?_
  rintro e w1 ⟨a1, c1, xss, rfl, hF1, hM1, hR1, hg1, hl1⟩
  have HF1 := Lib.hid hF1
  have HM1 := Lib.hid hM1
  have hxl := hF1.1
  clear hF1 hM1
  go_wp2_with fail
  refine (graph_anyK n₀ B (N + 200) 4 4 odd w1 hR1 (by omega) (by omega) (by omega) (by omega) (by omega) (by omega)).mono ?_
  rintro e w2 ⟨a2, c2, yss, rfl, hF2, hM2, hR2, hg2, hl2⟩
  have hyl := hF2.1
  have HF2 := Lib.hid hF2
  have HM2 := Lib.hid hM2
  have HX2 := Lib.hid (HM1.out.erasedKept hR1 hg2 hg2.size)
  have hX := HX2.out.laid hR2
  have HG2 := Lib.hid (grow_B hg1 hg2 (fun r e => by cases e; exact .inr rfl))
  clear hF2 hM2 HM1 hg1 hg2 hR1 hR
  go_wp2_with fail
  refine (specOk_any _ _ xss _ w2 hX HF1.out).mono ?_
  rintro e w3 ⟨rfl, rfl⟩
  obtain ⟨z, HZ⟩ : ∃ z, Hid (gOk xss = z) := ⟨_, rfl⟩
  rw [HZ.out]
  cases z with
  | false =>
    go_wp2_with fail
    go_ret2
    exact ⟨_, _, _, _, _, _, rfl, ⟨HF1.out, HX2.out, hl1⟩, ⟨HF2.out, HM2.out, hl2⟩, hR2.more (by omega), HG2.out⟩
  | true =>
    go_wp2_with fail
    refine (pick_any n₀ B (N + 400) 4 w2 hR2 (by omega)).mono ?_
    rintro e w4 ⟨x, ⟨rfl, hx0, hx1, _⟩, hR4, hg4, -⟩
    have HX4 := Lib.hid (HX2.out.erasedKept hR2 hg4 hg4.size)
    have HY4 := Lib.hid (HM2.out.erasedKept hR2 hg4 hg4.size)
    have HG4 := Lib.hid (grow_B HG2.out hg4 (fun r e => by cases e; exact .inr rfl))
    clear hx1 hR2 hg4 HX2 HM2 HG2 hX
    by_cases hx : x = 0
    · have hxb : (x == 0) = true := by simp [hx]
      clear hx
      go_wp2_with fail
      go_ret2
      exact ⟨_, _, _, _, _, _, rfl, ⟨HF1.out, HX4.out, hl1⟩, ⟨HF1.out, HX4.out, hl1⟩, hR4.more (by omega), HG4.out⟩
    · have hxb : (x == 0) = false := by simp [hx]
      clear hx
      go_wp2_with fail
      go_ret2
      exact ⟨_, _, _, _, _, _, rfl, ⟨HF1.out, HX4.out, hl1⟩, ⟨HF2.out, HY4.out, hl2⟩, hR4.more (by omega), HG4.out⟩

end Go.Proofs.Ytldkgkpiceamhaa
