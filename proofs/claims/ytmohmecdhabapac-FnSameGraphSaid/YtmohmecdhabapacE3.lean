/-
  impl.ArrowsIn and its model: how many arrows a graph has.
-/
import Derived.Test.YtmohmecdhabapacE2
namespace Go.Proofs.Ytmohmecdhabapac
open Go.RowKit Go.Shelf

attribute [local go_sem] Oper.semAt_some

/-- HOW MANY ARROWS; -1 for what is no graph. -/
def arrowsI (xss : List (List Int)) : Int := if gOk xss = true then ((AL xss).length : Int) else -1
theorem arrowsI_no {xss : List (List Int)} (h : gOk xss = false) : arrowsI xss = -1 := by unfold arrowsI; rw [if_neg (by rw [h]; decide)]
theorem arrowsI_yes {xss : List (List Int)} (h : gOk xss = true) : arrowsI xss = ((AL xss).length : Int) := by unfold arrowsI; rw [if_pos h]
theorem Good.len {xss : List (List Int)} (h : Good xss) {i : Nat} {xs : List Int} (hx : xss[i]? = some xs) : xs.length = xss.length := (h.2.2 xs (List.mem_of_getElem? hx)).1
theorem AL_le (xss : List (List Int)) : (AL xss).length ≤ xss.length * xss.length := by unfold AL; exact Nat.le_trans (List.length_filter_le _ _) (by rw [PL_length]; exact Nat.le_refl _)
theorem sq_le {m : Nat} (h : m ≤ 9) : m * m ≤ 81 := Nat.mul_le_mul h h

set_option maxRecDepth 100000 in
set_option maxHeartbeats 4000000 in
theorem implArrows_in (F : Fence) (hd : F.depth = none) (hF : ∀ k, F.fn k) (hro : F.round = none) (a : Option Addr) (c : Nat) (xss : List (List Int)) (w : World) (hM : Mat w.heap.size w a xss) (hf : Fit xss) :
    CallsIn F 20 Try.prog 13 #[.slice a xss.length c] w (Ans (.int .i64 (arrowsI xss)) w) := by
  have h1 := hF 13
  have h2 := hF 12
  have h3 := hF 39
  have hdd : ∀ k : Nat, (F.depth.isSome = true → 1 ≤ k) := fun k h => by rw [hd] at h; cases h
  have HFn := Lib.hid hF
  have HF := Lib.hid hf
  clear hF hf
  refine callsIn_of_wp_marks Try.func13 rfl h1 ?_ hro
  simp only [Try.ntmps13, List.size_toArray, List.length_cons, List.length_nil, Nat.reduceAdd, Nat.reduceSub, Array.replicate_succ, Array.replicate_zero, List.push_toArray, List.append_toArray, List.nil_append, List.cons_append]
  by_cases hg : gOk xss = true
  · rw [arrowsI_yes hg]
    have HG := Lib.hid (good_of hg)
    have hG := good_of hg
    have hl9 := hG.2.1
    clear hG
    gi_wp2_with (first | ((try refine ⟨hdd _, ?_⟩); gi_at_call 12; refine (implOk_in F _ HFn.out hro (by omega) _ _ _ _ hM HF.out).mono ?_; rintro e w1 ⟨rfl, hB1⟩) | ((try refine ⟨hdd _, ?_⟩); gi_at_call 39; refine (arrows_in F _ HFn.out hro _ _ _ _).mono ?_; rintro e w' ⟨rfl, rfl⟩))
    have bC := (Boxed.new w1 3 (.int .i64 0)).alloc (.cells #[.slice a xss.length c] 49)
    have bG := Boxed.new (w1.alloc (.cells #[.int .i64 0] 3)) 49 (.slice a xss.length c)
    simp only [World.size_alloc] at bG
    have hB2 := (hB1.alloc hB1.size (.cells #[.int .i64 0] 3)).alloc (by simp; have := hB1.size; omega) (.cells #[.slice a xss.length c] 49)
    have hM2 : Mat w.heap.size ((w1.alloc (.cells #[.int .i64 0] 3)).alloc (.cells #[.slice a xss.length c] 49)) a xss := hM.below hB2
    have hws := hB1.size
    have hsz : ((w1.alloc (.cells #[.int .i64 0] 3)).alloc (.cells #[.slice a xss.length c] 49)).heap.size = w1.heap.size + 2 := by simp
    obtain ⟨V, hV⟩ : ∃ V, (w1.alloc (.cells #[.int .i64 0] 3)).alloc (.cells #[.slice a xss.length c] 49) = V := ⟨_, rfl⟩
    rw [hV] at bC bG hB2 hM2 hsz ⊢
    clear hV hB1 hM
    refine range_law hd hro HFn.out (gf := 55) (lb := #[.pointer (some ⟨w1.heap.size + 1, 0, none⟩)]) rfl (enters_of Try.func55 (by kernel_rfl) rfl)
      (arrows_X F hd HFn.out hro (w1.heap.size + 1) w.heap.size a c xss HG.out (fun B => B = w1.heap.size) (V.heap.size + 2) V (by omega) (by omega) (fun B s => by omega) (fun B s => by omega) (by omega) bG hM2) (fun h k => KeepC.trans h k) (fun W' o o' h hc => KeepC.putObj _ (by omega) W' o o' h hc) (Below.refl _ _) (fun _ => rfl)
      (fun pre W' => Boxed W' w1.heap.size 3 (.int .i64 (pre.length : Int)) ∧ Below w.heap.size w W')
      (fun _ _ _ => False)
      (OwnFrom.and (Own.from (boxed_own _ _ _) _) (ownFrom_below (Nat.le_refl _) (by omega)))
      (fun _ _ _ _ _ hs _ _ => hs)
      ⟨bC, hB2⟩ ?a1 ?assign ?body ?done ?stop
    case assign =>
      intro l2 x W' K hK
      gi_wp2
      exact hK
    case body =>
      rintro l2 pre x W' ⟨bC', hB'⟩ hlen
      have cC := bC'.cell
      have fC := bC'.frozen
      have hlen2 : pre.length ≤ 81 := by have := sq_le hl9; omega
      clear hlen
      gi_wp2
      refine ⟨(KeepsOthers.setCell _ _ _).from _, KeepC.setCell (S := fun B => B = w1.heap.size) _ W' rfl 0 _, ?_, hB'.setCell (p := ⟨w1.heap.size, 0, none⟩) hws _⟩
      have hb := bC'.set (.int .i64 ((pre.length : Int) + 1))
      rw [List.length_append, List.length_singleton]
      exact hb
    case done =>
      rintro D ys W' hD rfl ⟨bC', hB'⟩ hK
      have cC := bC'.cell
      gi_wp2
      refine ⟨by simp, .inl ⟨_, _, rfl, run_takeDeferred hK, ?_⟩⟩
      refine ⟨_, results_tmp rfl _ _ _, rfl, hB'.trans (belowK_b (w := w) (Nat.le_refl _) W' D _ _ (by omega) hK rfl rfl)⟩
    case stop =>
      rintro D c' pre W' _ _ hx _
      exact hx.elim
  · have hg' : gOk xss = false := by simpa using hg
    rw [arrowsI_no hg']
    clear hg
    gi_wp2_with ((try refine ⟨hdd _, ?_⟩); gi_at_call 12; refine (implOk_in F _ HFn.out hro (by omega) _ _ _ _ hM HF.out).mono ?_; rintro e w1 ⟨rfl, hB1⟩)
    refine ⟨_, results_tmp rfl _ _ _, rfl, hB1⟩

theorem implArrows (a : Option Addr) (c : Nat) (xss : List (List Int)) (w : World) (hM : Mat w.heap.size w a xss) (hf : Fit xss) :
    Calls Try.prog 13 #[.slice a xss.length c] w (Ans (.int .i64 (arrowsI xss)) w) :=
  callsIn_wide.1 (implArrows_in Fence.wide rfl (fun _ => trivial) rfl a c xss w hM hf)

/-- HOW MANY of the first k pairs are arrows. -/
def cntA (xss : List (List Int)) (k : Nat) : Int := (((PL xss.length).take k).filter fun x => arw xss x.1.1 x.2.1).length
theorem cntA_step {xss : List (List Int)} (hG : Good xss) {i j : Nat} (hi : i < xss.length) (hj : j < xss.length) : cntA xss (i * xss.length + (j + 1)) = cntA xss (i * xss.length + j) + ent xss i j := by
  unfold cntA
  rw [← PL_take hi hj, List.filter_append, List.length_append]
  rcases (good_iff_ent hG.1 hG.2.1 (fun i xs h => hG.len h)).1 hG (⟨i, hi⟩, ⟨j, hj⟩) with h | h
  · simp only at h; simp [arw, h]
  · simp only at h; simp [arw, h]
theorem cntA_all (xss : List (List Int)) : cntA xss (xss.length * xss.length) = ((AL xss).length : Int) := by
  unfold cntA AL; rw [List.take_of_length_le (by rw [PL_length]; exact Nat.le_refl _)]
theorem cntA_nn (xss : List (List Int)) (k : Nat) : 0 ≤ cntA xss k := by unfold cntA; omega
theorem cntA_le (xss : List (List Int)) (k : Nat) : cntA xss k ≤ xss.length * xss.length := by
  unfold cntA
  have h1 := List.length_filter_le (fun x : Fin xss.length × Fin xss.length => arw xss x.1.1 x.2.1) ((PL xss.length).take k)
  have h2 : ((PL xss.length).take k).length ≤ xss.length * xss.length := by rw [List.length_take, PL_length]; omega
  have : ((((PL xss.length).take k).filter fun x => arw xss x.1.1 x.2.1).length : Int) ≤ ((xss.length * xss.length : Nat) : Int) := by omega
  rw [Int.natCast_mul] at this; exact this

end Go.Proofs.Ytmohmecdhabapac
