/-
  Several texts in one.
  sameInts, sameRows; the arrows of a graph turned round are as many; the other draws of one graph.
  The exact laws' marks: numbers are written into rows of the law's own, and read again.
-/
import Derived.Test.YtofpjepndhpciaaC2
import Derived.Test.YtofpjepndhpciaaZF
namespace Go.Proofs.Ytofpjepndhpciaa
open Go.RowKit Go.Shelf

set_option maxHeartbeats 400000 in
theorem sameS_same (a a' : Option Addr) (c c' : Nat) (xs : List Int) (n₀ : Nat) (w : World) (hI : Ints n₀ w a xs) (hI' : Ints n₀ w a' xs) (hl : xs.length ≤ 1048576) :
    Calls Try.prog 34 #[.slice a xs.length c, .slice a' xs.length c'] w (Still (.bool true) w) := by
  go_enter Try.func34, Try.ntmps34
  go_wp2
  go_loopw [5] (fun i wr => ∃ (k n : Nat), k ≤ xs.length ∧ i = .int .i64 k ∧ wr = w.drewN n) (fun i _ => xs.length - (intOf i).toNat)
  case atStart => exact ⟨0, 0, Nat.zero_le _, rfl, rfl⟩
  case round =>
    obtain ⟨k, n, hk, rfl, rfl⟩ := hrel
    by_cases hlt : k < xs.length
    · obtain ⟨b, o, x, rfl, hb, hc, HX⟩ := hI.at_ hlt
      obtain ⟨b', o', x', rfl, hb', hc', HX'⟩ := hI'.at_ hlt
      obtain rfl : x = x' := Option.some.inj (HX.out.symm.trans HX'.out)
      go_wp2
      go_quiet (fail)
      go_wp2
      go_roundw
      case rel => exact ⟨k + 1, _, by omega, by go_num, rfl⟩
      case measure => simp [intOf]; omega
    · obtain rfl : k = xs.length := by omega
      go_wp2
      go_ret
      exact ⟨rfl, n, rfl⟩

set_option maxHeartbeats 400000 in
theorem sameSS_same (a a' : Option Addr) (c c' : Nat) (xss : List (List Int)) (n₀ : Nat) (w : World) (hM : Mat n₀ w a xss) (hM' : Mat n₀ w a' xss) (hF : Fit xss) :
    Calls Try.prog 17 #[.slice a xss.length c, .slice a' xss.length c'] w (Still (.bool true) w) := by
  have HF := Lib.hid hF
  have hl := hF.1
  clear hF
  go_enter Try.func17, Try.ntmps17
  go_wp2
  go_loopw [5] (fun i wr => ∃ (k n : Nat), k ≤ xss.length ∧ i = .int .i64 k ∧ wr = w.drewN n) (fun i _ => xss.length - (intOf i).toNat)
  case atStart => exact ⟨0, 0, Nat.zero_le _, rfl, rfl⟩
  case round =>
    obtain ⟨k, n, hk, rfl, rfl⟩ := hrel
    by_cases hlt : k < xss.length
    · obtain ⟨b, o, d, e, xs, rfl, hb, hc, hI, HX⟩ := hM.at_ hlt
      obtain ⟨b', o', d', e', xs', rfl, hb', hc', hI', HX'⟩ := hM'.at_ hlt
      obtain rfl : xs = xs' := Option.some.inj (HX.out.symm.trans HX'.out)
      have hx1 := HF.out.at_ HX.out
      go_wp2
      go_quiet ((go_at_call 34; exact Calls_quiet_add (sameS_same d d' e e' xs n₀ _ (hI.drewN _) (hI'.drewN _) hx1)))
      go_wp2
      go_roundw
      case rel => exact ⟨k + 1, _, by omega, by go_num, rfl⟩
      case measure => simp [intOf]; omega
    · obtain rfl : k = xss.length := by omega
      go_wp2
      go_ret
      exact ⟨rfl, n, rfl⟩

def sumN : Nat → (Nat → Nat) → Nat
  | 0, _ => 0
  | n + 1, f => sumN n f + f n
theorem sumN_zero (n : Nat) : sumN n (fun _ => 0) = 0 := by
  induction n with
  | zero => rfl
  | succ n ih => simp [sumN, ih]
theorem sumN_add (n : Nat) (f g : Nat → Nat) : sumN n (fun i => f i + g i) = sumN n f + sumN n g := by
  induction n with
  | zero => rfl
  | succ n ih => simp only [sumN, ih]; omega
theorem sumN_congr {n : Nat} {f g : Nat → Nat} (h : ∀ i, i < n → f i = g i) : sumN n f = sumN n g := by
  induction n with
  | zero => rfl
  | succ n ih => simp only [sumN]; rw [ih fun i hi => h i (by omega), h n (by omega)]
theorem sumN_swap (a b : Nat) (f : Nat → Nat → Nat) : sumN a (fun i => sumN b (f i)) = sumN b (fun j => sumN a (fun i => f i j)) := by
  induction a with
  | zero => simp [sumN, sumN_zero]
  | succ a ih => simp only [sumN]; rw [ih, ← sumN_add]
def bN (b : Bool) : Nat := if b = true then 1 else 0
/-- HOW MANY PAIRS pass a test. -/
def cnt (m : Nat) (p : Nat → Nat → Bool) : Nat := ((PL m).filter fun x => p x.1.1 x.2.1).length
theorem cnt_take (m : Nat) (p : Nat → Nat → Bool) (i : Nat) (hi : i < m) : ∀ j, j ≤ m → (((PL m).take (i * m + j)).filter fun x => p x.1.1 x.2.1).length = (((PL m).take (i * m)).filter fun x => p x.1.1 x.2.1).length + sumN j (fun l => bN (p i l))
  | 0, _ => by simp [sumN]
  | j + 1, hj => by
    rw [← PL_take hi (by omega), List.filter_append, List.length_append, cnt_take m p i hi j (by omega)]
    simp only [sumN, bN]
    cases hp : p i j <;> simp [hp] <;> omega
theorem cnt_rows (m : Nat) (p : Nat → Nat → Bool) : ∀ i, i ≤ m → (((PL m).take (i * m)).filter fun x => p x.1.1 x.2.1).length = sumN i (fun k => sumN m (fun l => bN (p k l)))
  | 0, _ => by simp [sumN]
  | i + 1, hi => by
    rw [Nat.add_mul, Nat.one_mul, cnt_take m p i (by omega) m (Nat.le_refl _), cnt_rows m p i (by omega)]
    rfl
theorem cnt_sum (m : Nat) (p : Nat → Nat → Bool) : cnt m p = sumN m (fun k => sumN m (fun l => bN (p k l))) := by
  have h := cnt_rows m p m (Nat.le_refl _)
  rw [List.take_of_length_le (by rw [PL_length]; exact Nat.le_refl _)] at h
  exact h
theorem cnt_swap (m : Nat) (p : Nat → Nat → Bool) : cnt m (fun i j => p j i) = cnt m p := by rw [cnt_sum, cnt_sum, sumN_swap]
theorem cnt_congr {m : Nat} {p q : Nat → Nat → Bool} (h : ∀ i j, i < m → j < m → p i j = q i j) : cnt m p = cnt m q := by
  rw [cnt_sum, cnt_sum]
  exact sumN_congr fun i hi => sumN_congr fun j hj => by rw [h i j hi hj]
theorem AL_cnt (xss : List (List Int)) : (AL xss).length = cnt xss.length (arw xss) := rfl
theorem AL_rowsP (m : Nat) (p : Nat → Nat → Bool) : (AL (rowsP m p)).length = cnt m p := by
  rw [AL_cnt, rowsP_length]
  exact cnt_congr fun i j hi hj => arw_rowsP hi hj
theorem turned_good {xss : List (List Int)} (h : Good xss) : Good (turnedL xss) := by
  rw [turnedL_yes (gOk_true h)]; exact rowsP_good _ h.1 h.2.1
theorem turned_arrows {xss : List (List Int)} (h : Good xss) : arrowsI (turnedL xss) = arrowsI xss := by
  rw [arrowsI_yes (gOk_true (turned_good h)), arrowsI_yes (gOk_true h), turnedL_yes (gOk_true h), AL_rowsP, cnt_swap, AL_cnt]
theorem turned_length {xss : List (List Int)} (h : Good xss) : (turnedL xss).length = xss.length := by rw [turnedL_yes (gOk_true h), rowsP_length]
theorem turned_turned {xss : List (List Int)} (h : Good xss) : turnedL (turnedL xss) = xss := by
  rw [turnedL_yes (gOk_true (turned_good h)), turned_length h, turnedL_yes (gOk_true h)]
  conv => rhs; rw [good_rowsP h]
  exact rowsP_congr fun i j hi hj => arw_rowsP hj hi
theorem turned_fit {xss : List (List Int)} : Fit (turnedL xss) := by
  by_cases hg : gOk xss = true
  · exact (turned_good (good_of hg)).fit
  · rw [turnedL_no (by simpa using hg)]; exact ⟨by simp, fun xs h => absurd h (by simp)⟩

end Go.Proofs.Ytofpjepndhpciaa

namespace Go.Proofs.Ytofpjepndhpciaa
open Go.RowKit Go.Shelf

/-- ONLY BLOCKS OF S HAVE TURNED. -/
structure Touch (S : Nat → Prop) (W W' : World) : Prop where
  os : W'.os = W.os
  tape : W'.tape = W.tape
  output : W'.output = W.output
  size : W'.heap.size = W.heap.size
  block : ∀ k, ¬ S k → W'.heap[k]? = W.heap[k]?
theorem Touch.refl (S : Nat → Prop) (W : World) : Touch S W W := ⟨rfl, rfl, rfl, rfl, fun _ _ => rfl⟩
theorem Touch.trans {S : Nat → Prop} {X Y Z : World} (h : Touch S X Y) (k : Touch S Y Z) : Touch S X Z := ⟨k.os.trans h.os, k.tape.trans h.tape, k.output.trans h.output, k.size.trans h.size, fun i hi => (k.block i hi).trans (h.block i hi)⟩
theorem Touch.more {S S' : Nat → Prop} {X Y : World} (h : Touch S X Y) (hS : ∀ k, S k → S' k) : Touch S' X Y := ⟨h.os, h.tape, h.output, h.size, fun i hi => h.block i fun s => hi (hS i s)⟩
theorem Touch.set {S : Nat → Prop} (W : World) {b : Nat} (hb : S b) (j : Nat) (v : Value) : Touch S W (W.setCell ⟨b, j, none⟩ v) :=
  ⟨rfl, rfl, rfl, by simp, fun k hk => Below.heap_setCell W ⟨b, j, none⟩ v k fun e => hk (by rw [show k = b from e]; exact hb)⟩
theorem Touch.mat {S : Nat → Prop} {n₀ : Nat} {W W' : World} {a : Option Addr} {xss : List (List Int)} (h : Touch S W W') (hM : Mat n₀ W a xss) (hS : ∀ B, S B → n₀ ≤ B) : Mat n₀ W' a xss :=
  hM.keep fun p hp => World.cell?_of_block (h.block p.block fun s => by have := hS _ s; omega)
theorem Touch.ints {S : Nat → Prop} {n₀ : Nat} {W W' : World} {a : Option Addr} {xs : List Int} (h : Touch S W W') (hM : Ints n₀ W a xs) (hS : ∀ B, S B → n₀ ≤ B) : Ints n₀ W' a xs :=
  hM.keep fun p hp => World.cell?_of_block (h.block p.block fun s => by have := hS _ s; omega)
theorem Touch.below {S : Nat → Prop} {n : Nat} {W W' : World} (h : Touch S W W') (hS : ∀ B, S B → n ≤ B) : Below n W W' :=
  ⟨h.os, h.tape, h.output, by rw [h.size]; exact Nat.le_refl _, fun k hk => h.block k fun s => by have := hS k s; omega⟩
theorem Touch.own {S : Nat → Prop} {W W' : World} {b : Nat} {G : Nat → Nat} {xss : List (List Int)} (h : Touch S W W') (ho : OwnM W b G xss) (hb : ¬ S b) (hG : ∀ i, i < xss.length → ¬ S (G i)) : OwnM W' b G xss :=
  ⟨World.rowIs.of_block ho.1 (h.block b hb), fun i xs hi => World.rowIs.of_block (ho.2 i xs hi) (h.block _ (hG i (List.getElem?_eq_some_iff.1 hi).1))⟩

def seqL (k m : Nat) : List Int := (List.range m).map fun i => ((k + i : Nat) : Int)
theorem seqL_length (k m : Nat) : (seqL k m).length = m := by simp [seqL]
theorem seqL_get {k m j : Nat} (h : j < m) : (seqL k m)[j]? = some ((k + j : Nat) : Int) := by simp [seqL, h]
def tot (xss : List (List Int)) : Nat := (xss.map List.length).sum
def markL (k : Nat) (xss : List (List Int)) : List (List Int) := (List.range xss.length).map fun i => seqL (k + tot (xss.take i)) (xss[i]?.getD []).length
theorem markL_length (k : Nat) (xss : List (List Int)) : (markL k xss).length = xss.length := by simp [markL]
theorem markL_get {k i : Nat} {xss : List (List Int)} {xs : List Int} (h : xss[i]? = some xs) : (markL k xss)[i]? = some (seqL (k + tot (xss.take i)) xs.length) := by
  obtain ⟨hi, rfl⟩ := List.getElem?_eq_some_iff.1 h
  simp [markL, hi]
theorem tot_succ {i : Nat} {xss : List (List Int)} {xs : List Int} (h : xss[i]? = some xs) : tot (xss.take (i + 1)) = tot (xss.take i) + xs.length := by
  have hi := (List.getElem?_eq_some_iff.1 h).1
  have e : xss[i] = xs := by rw [List.getElem?_eq_getElem hi] at h; exact Option.some.inj h
  unfold tot
  rw [List.take_succ_eq_append_getElem hi, List.map_append, List.sum_append, e]
  simp
theorem tot_le {xss : List (List Int)} (h : Fit xss) : ∀ i, i ≤ xss.length → tot (xss.take i) ≤ i * 1048576
  | 0, _ => by simp [tot]
  | i + 1, hi => by
    have e := List.getElem?_eq_getElem (show i < xss.length by omega)
    have h1 := h.at_ e
    have h2 := tot_le h i (by omega)
    rw [tot_succ e]; omega
theorem tot_all (xss : List (List Int)) : tot (xss.take xss.length) = tot xss := by rw [List.take_of_length_le (Nat.le_refl _)]
theorem mark_fit {xss : List (List Int)} (k : Nat) (h : Fit xss) : Fit (markL k xss) := by
  refine ⟨by rw [markL_length]; exact h.1, fun xs hx => ?_⟩
  obtain ⟨i, hi, rfl⟩ := List.mem_map.1 hx
  rw [seqL_length]
  have hi := List.mem_range.1 hi
  rw [List.getElem?_eq_getElem hi]
  exact h.at_ (List.getElem?_eq_getElem hi)

/-- THE ROW IS MARKED from k on. -/
def MarkS (b k m : Nat) (w : World) (e : Ending) (w' : World) : Prop := e = .returned (.int .i64 ((k + m : Nat) : Int)) ∧ RowI w' b (seqL k m) ∧ Touch (fun B => B = b) w w'

set_option maxHeartbeats 400000 in
theorem markS_any (b c k : Nat) (xs : List Int) (w : World) (hR : RowI w b xs) (hl : xs.length ≤ 1048576) (hk : k ≤ 4000000000000) :
    Calls Try.prog 41 #[.slice (some ⟨b, 0, none⟩) xs.length c, .int .i64 k] w (MarkS b k xs.length w) := by
  go_enter Try.func41, Try.ntmps41
  go_wp2
  go_loopw [1, 5] (fun t i wr => ∃ j : Nat, j ≤ xs.length ∧ i = .int .i64 j ∧ t = .int .i64 ((k + j : Nat) : Int) ∧ Hid (wr.rowIs b 3 xs.length (fun l => .int .i64 (if l < j then ((k + l : Nat) : Int) else xs[l]?.getD 0))) ∧ Hid (Touch (fun B => B = b) w wr))
    (fun _ i _ => xs.length - (intOf i).toNat)
  case atStart => exact ⟨0, Nat.zero_le _, rfl, rfl, World.rowIs.congr hR fun l _ => by simp, Touch.refl _ _⟩
  case round =>
    obtain ⟨j, hj, rfl, rfl, HR, HT⟩ := hrel
    by_cases hlt : j < xs.length
    · have hc := HR.out.cell hlt
      have hf := HR.out.frozen j
      simp only [Nat.lt_irrefl, if_false] at hc
      have e1 : ((k + j : Nat) : Int) = (k : Int) + j := by omega
      rw [e1]
      go_wp2
      go_roundw
      case rel => exact ⟨j + 1, by omega, by go_num, by rw [show ((k + (j + 1) : Nat) : Int) = (k : Int) + j + 1 by omega], Lib.hid ((HR.out.set j _).congr fun l _ => by
        by_cases e : l = j
        · subst e; simp
        · by_cases h2 : l < j
          · simp [e, h2, show l < j + 1 by omega]
          · simp [e, h2, show ¬ l < j + 1 by omega]), Lib.hid (HT.out.trans (Touch.set (S := fun B => B = b) _ rfl j _))⟩
      case measure => simp [intOf]; omega
    · obtain rfl : j = xs.length := by omega
      go_wp2
      go_ret
      refine ⟨rfl, ?_, HT.out⟩
      unfold RowI
      rw [seqL_length]
      exact HR.out.congr fun l hl => by rw [if_pos hl, seqL_get hl]; rfl

/-- ALL ROWS ARE MARKED from k on. -/
def MarkSS (b : Nat) (G : Nat → Nat) (k : Nat) (xss : List (List Int)) (w : World) (e : Ending) (w' : World) : Prop :=
  e = .returned (.int .i64 ((k + tot xss : Nat) : Int)) ∧ OwnM w' b G (markL k xss) ∧ Touch (fun B => ∃ i, i < xss.length ∧ B = G i) w w'

/-- The first i rows are marked. -/
structure MPart (b : Nat) (G : Nat → Nat) (k : Nat) (xss : List (List Int)) (w wr : World) (i : Nat) : Prop where
  top : wr.rowIs b 47 xss.length (fun j => .slice (some ⟨G j, 0, none⟩) (xss[j]?.getD []).length (xss[j]?.getD []).length)
  done : ∀ j xs, j < i → xss[j]? = some xs → RowI wr (G j) (seqL (k + tot (xss.take j)) xs.length)
  rest : ∀ j xs, i ≤ j → xss[j]? = some xs → RowI wr (G j) xs
  touch : Touch (fun B => ∃ i, i < xss.length ∧ B = G i) w wr
theorem row_ne_top {W : World} {b g n m : Nat} {f f' : Nat → Value} (h : W.rowIs b 47 n f) (k : W.rowIs g 3 m f') : b ≠ g := by
  rintro rfl
  obtain ⟨c, h1, _⟩ := h
  obtain ⟨c', h2, _⟩ := k
  rw [h1] at h2
  injection h2 with h2
  injection h2 with _ h3
  exact absurd h3 (by decide)
theorem MPart.step {b k i : Nat} {G : Nat → Nat} {xss : List (List Int)} {w wr w1 : World} {xs : List Int} (h : MPart b G k xss w wr i) (hG : ∀ i j, G i = G j → i = j) (hx : xss[i]? = some xs) (hr : RowI w1 (G i) (seqL (k + tot (xss.take i)) xs.length)) (ht : Touch (fun B => B = G i) wr w1) :
    MPart b G k xss w w1 (i + 1) := by
  have hi := (List.getElem?_eq_some_iff.1 hx).1
  have hne := row_ne_top h.top (h.rest i xs (Nat.le_refl _) hx)
  refine ⟨World.rowIs.of_block h.top (ht.block b hne), fun j ys hj hy => ?_, fun j ys hj hy => ?_, h.touch.trans (ht.more fun B e => ⟨i, hi, e⟩)⟩
  · by_cases e : j = i
    · subst e; rw [hx] at hy; cases hy; exact hr
    · exact World.rowIs.of_block (h.done j ys (by omega) hy) (ht.block _ fun e' => e (hG _ _ e'))
  · exact World.rowIs.of_block (h.rest j ys (by omega) hy) (ht.block _ fun e' => by have := hG _ _ e'; omega)
theorem MPart.own {b k : Nat} {G : Nat → Nat} {xss : List (List Int)} {w wr : World} (h : MPart b G k xss w wr xss.length) : OwnM wr b G (markL k xss) := by
  refine ⟨?_, fun i xs hx => ?_⟩
  · rw [markL_length]
    refine h.top.congr fun j hj => ?_
    have e := List.getElem?_eq_getElem hj
    rw [markL_get e, e]; simp only [Option.getD_some, seqL_length]
  · have hi : i < xss.length := by have := (List.getElem?_eq_some_iff.1 hx).1; rwa [markL_length] at this
    have e := List.getElem?_eq_getElem hi
    rw [markL_get e] at hx
    cases hx
    exact h.done i _ hi e

set_option maxHeartbeats 400000 in
theorem markSS_any (b c k : Nat) (G : Nat → Nat) (xss : List (List Int)) (w : World) (hO : OwnM w b G xss) (hF : Fit xss) (hG : ∀ i j, G i = G j → i = j) (hk : k ≤ 1000) :
    Calls Try.prog 24 #[.slice (some ⟨b, 0, none⟩) xss.length c, .int .i64 k] w (MarkSS b G k xss w) := by
  have HF := Lib.hid hF
  have HGi := Lib.hid hG
  have hl := hF.1
  have HP0 : Hid (MPart b G k xss w w 0) := ⟨hO.1, fun j xs h => absurd h (Nat.not_lt_zero _), fun j xs _ hx => hO.2 j xs hx, Touch.refl _ _⟩
  clear hF hG
  go_enter Try.func24, Try.ntmps24
  go_wp2
  go_loopw [1, 5] (fun t i wr => ∃ j q : Nat, j ≤ xss.length ∧ i = .int .i64 j ∧ t = .int .i64 (q : Int) ∧ Hid (q = k + tot (xss.take j)) ∧ Hid (MPart b G k xss w wr j)) (fun _ i _ => xss.length - (intOf i).toNat)
  case atStart => exact ⟨0, k, Nat.zero_le _, rfl, rfl, Lib.hid (by simp [tot]), HP0⟩
  case round =>
    obtain ⟨j, q, hj, rfl, rfl, HQ, HP⟩ := hrel
    clear HP0
    by_cases hlt : j < xss.length
    · have hX := List.getElem?_eq_getElem hlt
      obtain ⟨xs, HX⟩ : ∃ xs, Hid (xss[j]? = some xs) := ⟨_, hX⟩
      have hc : wr.cell? ⟨b, j, none⟩ = some (.slice (some ⟨G j, 0, none⟩) xs.length xs.length) := by
        have := HP.out.top.cell hlt
        rw [HX.out] at this; exact this
      have hx1 := HF.out.at_ HX.out
      have hq : q ≤ 2000000000000 := by rw [HQ.out]; have := tot_le HF.out j hj; omega
      have hrow := HP.out.rest j xs (Nat.le_refl _) HX.out
      clear hX
      go_wp2_with (go_at_call 41; refine (markS_any _ _ _ _ _ hrow hx1 (by omega)).mono ?_; rintro e w1 ⟨rfl, hr1, ht1⟩; have HP1 := Lib.hid (HP.out.step HGi.out HX.out (by rw [← HQ.out]; exact hr1) ht1); clear hr1 ht1)
      go_roundw
      case rel => exact ⟨j + 1, q + xs.length, by omega, by go_num, rfl, Lib.hid (by rw [tot_succ HX.out, HQ.out]; omega), HP1⟩
      case measure => simp [intOf]; omega
    · obtain rfl : j = xss.length := by omega
      go_wp2
      go_ret
      exact ⟨by rw [HQ.out, tot_all]; rfl, HP.out.own, HP.out.touch⟩

set_option maxHeartbeats 400000 in
theorem heldS_any (a : Option Addr) (c k m n₀ : Nat) (w : World) (hI : Ints n₀ w a (seqL k m)) (hl : m ≤ 1048576) (hk : k ≤ 4000000000000) :
    Calls Try.prog 54 #[.slice a m c, .int .i64 k] w fun e w' => e = .returned (.int .i64 ((k + m : Nat) : Int)) ∧ w = w' := by
  go_enter Try.func54, Try.ntmps54
  go_wp2
  go_loop [1, 5] (fun t i => ∃ j : Nat, j ≤ m ∧ i = .int .i64 j ∧ t = .int .i64 ((k + j : Nat) : Int)) (fun _ i => m - (intOf i).toNat)
  case atStart => exact ⟨0, Nat.zero_le _, rfl, rfl⟩
  case round =>
    obtain ⟨j, hj, rfl, rfl⟩ := hrel
    by_cases hlt : j < m
    · obtain ⟨b, o, x, rfl, hb, hc, HX⟩ := hI.at_ (k := j) (by rw [seqL_length]; exact hlt)
      have hx := HX.out
      rw [seqL_get hlt] at hx
      obtain rfl : ((k + j : Nat) : Int) = x := Option.some.inj hx
      have e1 : ((k + j : Nat) : Int) = (k : Int) + j := by omega
      rw [e1] at hc ⊢
      clear hx HX
      go_wp2
      go_round
      case rel => exact ⟨j + 1, by omega, by go_num, by rw [show ((k + (j + 1) : Nat) : Int) = (k : Int) + j + 1 by omega]⟩
      case measure => simp [intOf]; omega
    · obtain rfl : j = m := by omega
      go_wp2
      go_ret
      exact ⟨rfl, rfl⟩

set_option maxHeartbeats 400000 in
theorem heldSS_any (a : Option Addr) (c k n₀ : Nat) (xss : List (List Int)) (w : World) (hM : Mat n₀ w a (markL k xss)) (hF : Fit xss) (hk : k ≤ 1000) :
    Calls Try.prog 43 #[.slice a xss.length c, .int .i64 k] w fun e w' => e = .returned (.int .i64 ((k + tot xss : Nat) : Int)) ∧ w = w' := by
  have HF := Lib.hid hF
  have hl := hF.1
  clear hF
  go_enter Try.func43, Try.ntmps43
  go_wp2
  go_loop [1, 5] (fun t i => ∃ j q : Nat, j ≤ xss.length ∧ i = .int .i64 j ∧ t = .int .i64 (q : Int) ∧ Hid (q = k + tot (xss.take j))) (fun _ i => xss.length - (intOf i).toNat)
  case atStart => exact ⟨0, k, Nat.zero_le _, rfl, rfl, Lib.hid (by simp [tot])⟩
  case round =>
    obtain ⟨j, q, hj, rfl, rfl, HQ⟩ := hrel
    by_cases hlt : j < xss.length
    · obtain ⟨b, o, a', c', ys, rfl, hb, hc, hI, HY⟩ := hM.at_ (k := j) (by rw [markL_length]; exact hlt)
      obtain ⟨xs, HX⟩ : ∃ xs, Hid (xss[j]? = some xs) := ⟨_, List.getElem?_eq_getElem hlt⟩
      have hy := HY.out
      rw [markL_get HX.out, ← HQ.out] at hy
      obtain rfl : seqL q xs.length = ys := Option.some.inj hy
      rw [seqL_length] at hc
      have hx1 := HF.out.at_ HX.out
      have hq : q ≤ 2000000000000 := by rw [HQ.out]; have := tot_le HF.out j hj; omega
      clear hy HY
      go_wp2_with (go_at_call 54; refine (heldS_any _ _ _ _ _ _ hI hx1 (by omega)).mono ?_; rintro e w1 ⟨rfl, rfl⟩)
      go_round
      case rel => exact ⟨j + 1, q + xs.length, by omega, by go_num, rfl, Lib.hid (by rw [tot_succ HX.out, HQ.out]; omega)⟩
      case measure => simp [intOf]; omega
    · obtain rfl : j = xss.length := by omega
      go_wp2
      go_ret
      exact ⟨by rw [HQ.out, tot_all]; rfl, rfl⟩

set_option maxHeartbeats 400000 in
theorem markNil (k : Nat) (w : World) : Calls Try.prog 24 #[.slice none 0 0, .int .i64 k] w fun e w' => e = .returned (.int .i64 (k : Int)) ∧ w = w' := by
  go_enter Try.func24, Try.ntmps24
  go_wp2
  go_loop [1, 5] (fun t i => i = .int .i64 0 ∧ t = .int .i64 (k : Int)) (fun _ _ => 0)
  case atStart => exact ⟨rfl, rfl⟩
  case round =>
    obtain ⟨rfl, rfl⟩ := hrel
    go_wp2
    go_ret
    exact ⟨rfl, rfl⟩

theorem OwnM.len {W : World} {b : Nat} {G : Nat → Nat} {xss : List (List Int)} (h : OwnM W b G xss) : b < W.heap.size ∧ ∀ i, i < xss.length → G i < W.heap.size :=
  ⟨World.rowIs.lt h.1, fun i hi => (h.2 i _ (List.getElem?_eq_getElem hi)).lt⟩
theorem OwnR.below {base : Nat} {W W' : World} {a : Option Addr} {c : Nat} {xss : List (List Int)} (h : OwnR base W a c xss) (hb : Below W.heap.size W W') : OwnR base W' a c xss := by
  rcases h with h | ⟨b, G, h1, h2, ho, h3⟩
  · exact .inl h
  · exact .inr ⟨b, G, h1, h2, ho.below hb ho.len.1 ho.len.2, h3⟩
theorem Touch.ownR {base n : Nat} {S : Nat → Prop} {W W' : World} {a : Option Addr} {c : Nat} {xss : List (List Int)} (ht : Touch S W W') (h : OwnR base W a c xss) (hS : ∀ B, S B → B < n) (hn : n ≤ base) : OwnR base W' a c xss := by
  rcases h with h | ⟨b, G, h1, h2, ho, h3, h4, h5⟩
  · exact .inl h
  · exact .inr ⟨b, G, h1, h2, ht.own ho (fun s => by have := hS _ s; omega) (fun i hi s => by have := hS _ s; have := h4 i hi; omega), h3, h4, h5⟩

/-- NEW ROWS, nil or not, ARE MARKED. -/
def MarkR (base : Nat) (a : Option Addr) (c k : Nat) (xss : List (List Int)) (w : World) (e : Ending) (w' : World) : Prop :=
  e = .returned (.int .i64 ((k + tot xss : Nat) : Int)) ∧ OwnR base w' a c (markL k xss) ∧ Touch (fun B => base ≤ B) w w'
theorem markR_any (base : Nat) (a : Option Addr) (c k : Nat) (xss : List (List Int)) (w : World) (hO : OwnR base w a c xss) (hF : Fit xss) (hk : k ≤ 1000) :
    Calls Try.prog 24 #[.slice a xss.length c, .int .i64 k] w (MarkR base a c k xss w) := by
  rcases hO with ⟨rfl, rfl, rfl⟩ | ⟨b, G, rfl, rfl, ho, h3, h4, h5⟩
  · refine (markNil k w).mono ?_
    rintro e w' ⟨rfl, rfl⟩
    exact ⟨by simp [tot], .inl ⟨rfl, rfl, rfl⟩, Touch.refl _ _⟩
  · refine (markSS_any b xss.length k G xss w ho hF h5 hk).mono ?_
    rintro e w' ⟨rfl, ho', ht⟩
    refine ⟨rfl, .inr ⟨b, G, rfl, by rw [markL_length], ho', h3, by rw [markL_length]; exact h4, h5⟩, ht.more fun B s => ?_⟩
    obtain ⟨i, hi, rfl⟩ := s
    exact h4 i hi

end Go.Proofs.Ytofpjepndhpciaa
