/-
  impl.graph.makes: an order makes the one graph of the other.
-/
import Derived.Test.YtmohmecdhabapacM3
import Derived.Test.YtmohmecdhabapacM0
import Derived.Deep.RegionHeld3
namespace Go.Proofs.Ytmohmecdhabapac
open Go.RowKit Go.Shelf Go.Deep

attribute [local go_sem] Oper.semAt_some

/-- Does the order make the second graph of the first one? -/
def sameBy (G H : List (List Int)) (f : List Int) : Bool := (PL H.length).all fun x => arw G (nd f x.1.1) (nd f x.2.1) == arw H x.1.1 x.2.1
set_option maxRecDepth 100000 in
set_option maxHeartbeats 4000000 in
theorem makes_in (n₀ : Nat) (a a' a'' : Option Addr) (c c' c'' : Nat) (G H : List (List Int)) (f : List Int) (w : World) (hM : Mat n₀ w a G) (hM' : Mat n₀ w a' H) (hI : Ints n₀ w a'' f) (hn : n₀ ≤ w.heap.size) (hG : Good G) (hG' : Good H) (hT : Tells H.length G.length f) :
    CallsIn Fence.wide 20 Try.prog 43 #[.agg #[.slice a G.length c], .agg #[.slice a' H.length c'], .slice a'' f.length c''] w (Ans (.bool (sameBy G H f)) w) := by
  have hdd : ∀ k : Nat, (Fence.wide.depth.isSome = true → 1 ≤ k) := fun k h => by cases h
  have hl9 := hG.2.1
  have hl9' := hG'.2.1
  have hfl : f.length ≤ 9 := by rw [hT.1]; exact hl9'
  have HFL := Lib.hid hT.1
  have h3 : Fence.wide.fn 42 := trivial
  have h5 : Fence.wide.fn 54 := trivial
  have h4 : Fence.wide.fn 35 := trivial
  have HT := Lib.hid hT
  have HG := Lib.hid hG
  have HG' := Lib.hid hG'
  obtain ⟨z, HZ⟩ : ∃ z, Hid (sameBy G H f = z) := ⟨_, rfl⟩
  rw [HZ.out]
  clear hT hG hG'
  have es : ∀ (W : World) (o : Obj), (W.alloc o).heap.size = W.heap.size + 1 := fun W o => by simp
  refine callsIn_of_wp_marks Try.func43 rfl trivial ?_ rfl
  simp only [Try.ntmps43, List.size_toArray, List.length_cons, List.length_nil, Nat.reduceAdd, Nat.reduceSub, Array.replicate_succ, Array.replicate_zero, List.push_toArray, List.append_toArray, List.nil_append, List.cons_append]
  gi_wp2_with (first | ((try refine ⟨hdd _, ?_⟩); gi_at_call 42; refine (nodes_in Fence.wide _ (fun _ => trivial) rfl _ _ _ _).mono ?_; rintro e w' ⟨rfl, rfl⟩) | ((try refine ⟨hdd _, ?_⟩); gi_at_call 54; refine (pairs_in Fence.wide _ (fun _ => trivial) rfl _ _).mono ?_; rintro e w' ⟨rfl, rfl⟩))
  have bG := (((((Boxed.new w 49 (.slice a G.length c)).alloc (.cells #[.slice a' H.length c'] 49)).alloc (.cells #[.slice a'' f.length c''] 24)).alloc (.cells #[.bool false] 4)).alloc (.cells #[.slice a' H.length c'] 49)).alloc (.cells #[.int .i64 H.length] 3)
  have bH := ((((Boxed.new (w.alloc (.cells #[.slice a G.length c] 49)) 49 (.slice a' H.length c')).alloc (.cells #[.slice a'' f.length c''] 24)).alloc (.cells #[.bool false] 4)).alloc (.cells #[.slice a' H.length c'] 49)).alloc (.cells #[.int .i64 H.length] 3)
  have bF := (((Boxed.new ((w.alloc (.cells #[.slice a G.length c] 49)).alloc (.cells #[.slice a' H.length c'] 49)) 24 (.slice a'' f.length c'')).alloc (.cells #[.bool false] 4)).alloc (.cells #[.slice a' H.length c'] 49)).alloc (.cells #[.int .i64 H.length] 3)
  have bR := ((Boxed.new (((w.alloc (.cells #[.slice a G.length c] 49)).alloc (.cells #[.slice a' H.length c'] 49)).alloc (.cells #[.slice a'' f.length c''] 24)) 4 (.bool false)).alloc (.cells #[.slice a' H.length c'] 49)).alloc (.cells #[.int .i64 H.length] 3)
  have bP := Boxed.new (((((w.alloc (.cells #[.slice a G.length c] 49)).alloc (.cells #[.slice a' H.length c'] 49)).alloc (.cells #[.slice a'' f.length c''] 24)).alloc (.cells #[.bool false] 4)).alloc (.cells #[.slice a' H.length c'] 49)) 3 (.int .i64 H.length)
  have hB := (((((((Below.refl w.heap.size w).alloc (Nat.le_refl _) (.cells #[.slice a G.length c] 49)).alloc (by simp) (.cells #[.slice a' H.length c'] 49)).alloc (by simp; omega) (.cells #[.slice a'' f.length c''] 24)).alloc (by simp; omega) (.cells #[.bool false] 4)).alloc (by simp; omega) (.cells #[.slice a' H.length c'] 49)).alloc (by simp; omega) (.cells #[.int .i64 H.length] 3))
  rw [es] at bH
  rw [es, es] at bF
  rw [es, es, es] at bR
  rw [es, es, es, es, es] at bP
  have hsz : ((((((w.alloc (.cells #[.slice a G.length c] 49)).alloc (.cells #[.slice a' H.length c'] 49)).alloc (.cells #[.slice a'' f.length c''] 24)).alloc (.cells #[.bool false] 4)).alloc (.cells #[.slice a' H.length c'] 49)).alloc (.cells #[.int .i64 H.length] 3)).heap.size = w.heap.size + 6 := by simp
  obtain ⟨V, hV⟩ : ∃ V, ((((((w.alloc (.cells #[.slice a G.length c] 49)).alloc (.cells #[.slice a' H.length c'] 49)).alloc (.cells #[.slice a'' f.length c''] 24)).alloc (.cells #[.bool false] 4)).alloc (.cells #[.slice a' H.length c'] 49)).alloc (.cells #[.int .i64 H.length] 3)) = V := ⟨_, rfl⟩
  rw [hV] at bG bH bF bR bP hB hsz ⊢
  clear hV
  have hsz1 : w.heap.size + 6 ≤ V.heap.size := by omega
  have hsz2 : V.heap.size ≤ w.heap.size + 6 := by omega
  clear hsz
  refine range_law rfl rfl (fun _ => trivial) (gf := 62) (lb := #[.pointer (some ⟨w.heap.size + 1 + 1 + 1 + 1 + 1, 0, none⟩)]) rfl (enters_of Try.func62 (by kernel_rfl) rfl)
    (pairs_X Fence.wide (fun _ => trivial) rfl (w.heap.size + 1 + 1 + 1 + 1 + 1) H.length (by omega) (fun B => B = w.heap.size + 1 + 1 + 1) (V.heap.size + 2) (V.heap.size + 2) (by omega) V bP) (fun h k => KeepC.trans h k) (fun W' o o' h hc => KeepC.putObj _ (by omega) W' o o' h hc) (Below.refl _ _) (fun _ => rfl)
    (fun pre W' => ((((Boxed W' w.heap.size 49 (.slice a G.length c) ∧ Boxed W' (w.heap.size + 1) 49 (.slice a' H.length c')) ∧ Boxed W' (w.heap.size + 1 + 1) 24 (.slice a'' f.length c'')) ∧ Boxed W' (w.heap.size + 1 + 1 + 1) 4 (.bool false)) ∧ Hid (∀ x ∈ pre, (arw G (nd f x.1.1) (nd f x.2.1) == arw H x.1.1 x.2.1) = true)) ∧ Below w.heap.size w W')
    (fun c' pre W' => ((c' = .ret ∧ Hid (∃ x ∈ pre, (arw G (nd f x.1.1) (nd f x.2.1) == arw H x.1.1 x.2.1) = false)) ∧ Boxed W' (w.heap.size + 1 + 1 + 1) 4 (.bool false)) ∧ Below w.heap.size w W')
    (OwnFrom.and (OwnFrom.and (OwnFrom.and (OwnFrom.and (OwnFrom.and (Own.from (boxed_own _ _ _) _) (Own.from (boxed_own _ _ _) _)) (Own.from (boxed_own _ _ _) _)) (Own.from (boxed_own _ _ _) _)) (ownFrom_pure _ _)) (ownFrom_below (Nat.le_refl _) (by omega)))
    (fun c' => OwnFrom.and (OwnFrom.and (ownFrom_pure _ _) (Own.from (boxed_own _ _ _) _)) (ownFrom_below (Nat.le_refl _) (by omega)))
    ⟨⟨⟨⟨⟨bG, bH⟩, bF⟩, bR⟩, fun x hx => absurd hx (by simp)⟩, hB⟩ ?a1 ?assign ?body ?done ?stop
  case assign =>
    intro l2 x W' K hK
    gi_wp2
    exact hK
  case body =>
    rintro l2 pre ⟨⟨i, hi⟩, ⟨j, hj⟩⟩ W' ⟨⟨⟨⟨⟨bG', bH'⟩, bF'⟩, bR'⟩, HP⟩, hB'⟩ _
    clear bG bH bF bR bP hB
    have hws := hB'.size
    have cG := bG'.cell
    have cH := bH'.cell
    have cF := bF'.cell
    have cR := bR'.cell
    have fR := bR'.frozen
    obtain ⟨p, hp, enp, hpH⟩ := tells_at HT.out hi
    obtain ⟨q, hq, enq, hqH⟩ := tells_at HT.out hj
    have hI' := hI.below (hB'.mono hn)
    have hMG : Mat n₀ W'.drew a G := hM.below (hB'.drew.mono hn)
    have hMH : Mat n₀ W'.drew a' H := hM'.below (hB'.drew.mono hn)
    obtain ⟨b, o, y, rfl, hb, hc0, HY⟩ := hI'.at_ (k := i) (by have := HFL.out; omega)
    obtain ⟨b2, o2, y2, e2, hb2, hc2, HY2⟩ := hI'.at_ (k := j) (by have := HFL.out; omega)
    cases e2
    have ey : y = (p : Int) := by have := HY.out; rw [hp] at this; cases this; rfl
    have ey2 : y2 = (q : Int) := by have := HY2.out; rw [hq] at this; cases this; rfl
    subst ey ey2
    have hif : i < f.length := by have := HFL.out; omega
    have hjf : j < f.length := by have := HFL.out; omega
    have HA := Lib.hid (enp)
    have HA2 := Lib.hid (enq)
    clear hp hq enp enq HY HY2 hI'
    gi_wp2_with fail
    refine wpIn_region_any (by kernel_rfl) (wpAnyIn_of (by kernel_rfl) (fun ⟨_, _, h⟩ => h) _ _ _ _ (wpAny_of_held (S := fun X => X.cell? ⟨w.heap.size, 0, none⟩ = some (.slice a G.length c) ∧ X.cell? ⟨w.heap.size + 1, 0, none⟩ = some (.slice a' H.length c') ∧ X.cell? ⟨w.heap.size + 1 + 1, 0, none⟩ = some (.slice (some ⟨b, o, none⟩) f.length c'') ∧ X.cell? ⟨b, o + i, none⟩ = some (.int .i64 p) ∧ X.cell? ⟨b, o + j, none⟩ = some (.int .i64 q) ∧ W'.heap.size ≤ X.heap.size ∧ True) _ _ _ _ ?_))
    change wpAnyH _ _ _ _ _ _ _ _ (World.drew _)
    have ltG := bG'.lt
    have ltH := bH'.lt
    have ltF := bF'.lt
    have hbw : b < W'.heap.size := Nat.lt_of_lt_of_le hb (Nat.le_trans hn hws)
    have hstep : ∀ (X : World) (ob : Obj), (X.cell? ⟨w.heap.size, 0, none⟩ = some (.slice a G.length c) ∧ X.cell? ⟨w.heap.size + 1, 0, none⟩ = some (.slice a' H.length c') ∧ X.cell? ⟨w.heap.size + 1 + 1, 0, none⟩ = some (.slice (some ⟨b, o, none⟩) f.length c'') ∧ X.cell? ⟨b, o + i, none⟩ = some (.int .i64 p) ∧ X.cell? ⟨b, o + j, none⟩ = some (.int .i64 q) ∧ W'.heap.size ≤ X.heap.size ∧ True) → ((X.alloc ob).cell? ⟨w.heap.size, 0, none⟩ = some (.slice a G.length c) ∧ (X.alloc ob).cell? ⟨w.heap.size + 1, 0, none⟩ = some (.slice a' H.length c') ∧ (X.alloc ob).cell? ⟨w.heap.size + 1 + 1, 0, none⟩ = some (.slice (some ⟨b, o, none⟩) f.length c'') ∧ (X.alloc ob).cell? ⟨b, o + i, none⟩ = some (.int .i64 p) ∧ (X.alloc ob).cell? ⟨b, o + j, none⟩ = some (.int .i64 q) ∧ W'.heap.size ≤ (X.alloc ob).heap.size ∧ True) := fun X ob ⟨s1, s2, s3, s4, s5, s6, s7⟩ =>
      ⟨(World.cell?_alloc_lt X ob ⟨w.heap.size, 0, none⟩ (Nat.lt_of_lt_of_le ltG s6)).trans s1, (World.cell?_alloc_lt X ob ⟨w.heap.size + 1, 0, none⟩ (Nat.lt_of_lt_of_le ltH s6)).trans s2, (World.cell?_alloc_lt X ob ⟨w.heap.size + 1 + 1, 0, none⟩ (Nat.lt_of_lt_of_le ltF s6)).trans s3, (World.cell?_alloc_lt X ob ⟨b, o + i, none⟩ (Nat.lt_of_lt_of_le hbw s6)).trans s4, (World.cell?_alloc_lt X ob ⟨b, o + j, none⟩ (Nat.lt_of_lt_of_le hbw s6)).trans s5, by rw [es]; omega, s7⟩
    have hS0 : W'.drew.cell? ⟨w.heap.size, 0, none⟩ = some (.slice a G.length c) ∧ W'.drew.cell? ⟨w.heap.size + 1, 0, none⟩ = some (.slice a' H.length c') ∧ W'.drew.cell? ⟨w.heap.size + 1 + 1, 0, none⟩ = some (.slice (some ⟨b, o, none⟩) f.length c'') ∧ W'.drew.cell? ⟨b, o + i, none⟩ = some (.int .i64 p) ∧ W'.drew.cell? ⟨b, o + j, none⟩ = some (.int .i64 q) ∧ W'.heap.size ≤ W'.drew.heap.size ∧ True := ⟨cG, cH, cF, hc0, hc2, Nat.le_refl _, trivial⟩
    have HST := Lib.hid hstep
    have HS0 := Lib.hid hS0
    have hnd : n₀ ≤ W'.drew.heap.size := Nat.le_trans hn hws
    have hMH1 : Mat n₀ (W'.drew.alloc (.cells #[.slice a G.length c] 49)) a' H := hMH.below ((Below.refl n₀ _).alloc hnd _)
    have hnd1 : n₀ ≤ (W'.drew.alloc (.cells #[.slice a G.length c] 49)).heap.size := by rw [es]; omega
    have bR2 := (show Boxed W'.drew (w.heap.size + 1 + 1 + 1) 4 (.bool false) from bR').alloc (.cells #[.slice a G.length c] 49) |>.alloc (.cells #[.slice a' H.length c'] 49)
    have cR2 := bR2.cell
    have fR2 := bR2.frozen
    clear hstep cG cH cF hc0 hc2
    refine wpAnyH_take (i := 0) (v := ?_) rfl (by kernel_rfl) (by kernel_rfl) (by kernel_rfl) (fun _ _ _ h => h) (Or.inl ⟨by rfl, ?_⟩) hS0 ?_
    case refine_2 => rintro w ⟨s1, s2, s3, s4, s5, s6, s7⟩; first | (go_simp; rfl) | go_simp
    simp only [Act.put, List.getElem_toArray, List.getElem_cons_zero, List.setIfInBounds_toArray, List.set_cons_zero, List.set_cons_succ]
    refine wpAnyH_take (i := 1) (v := ?_) rfl (by kernel_rfl) (by kernel_rfl) (by kernel_rfl) (fun _ _ _ h => h) (Or.inl ⟨by rfl, ?_⟩) hS0 ?_
    case refine_2 => rintro w ⟨s1, s2, s3, s4, s5, s6, s7⟩; first | (go_simp; rfl) | go_simp
    simp only [Act.put, List.getElem_toArray, List.getElem_cons_succ, List.getElem_cons_zero, List.setIfInBounds_toArray, List.set_cons_zero, List.set_cons_succ]
    refine wpAnyH_take (i := 2) (v := ?_) rfl (by kernel_rfl) (by kernel_rfl) (by kernel_rfl) (fun _ _ _ h => h) (Or.inl ⟨by rfl, ?_⟩) hS0 ?_
    case refine_2 => rintro w ⟨s1, s2, s3, s4, s5, s6, s7⟩; first | (go_simp; rfl) | go_simp
    simp only [Act.put, List.getElem_toArray, List.getElem_cons_succ, List.getElem_cons_zero, List.setIfInBounds_toArray, List.set_cons_zero, List.set_cons_succ]
    refine wpAnyH_take (i := 3) (v := ?_) rfl (by kernel_rfl) (by kernel_rfl) (by kernel_rfl) (fun _ _ _ h => h) (Or.inl ⟨by rfl, ?_⟩) hS0 ?_
    case refine_2 => rintro w ⟨s1, s2, s3, s4, s5, s6, s7⟩; first | (go_simp; rfl) | go_simp
    simp only [Act.put, List.getElem_toArray, List.getElem_cons_succ, List.getElem_cons_zero, List.setIfInBounds_toArray, List.set_cons_zero, List.set_cons_succ]
    refine wpAnyH_take (i := 4) (v := ?_) rfl (by kernel_rfl) (by kernel_rfl) (by kernel_rfl) (fun _ _ _ h => h) (Or.inl ⟨by rfl, ?_⟩) hS0 ?_
    case refine_2 => rintro w ⟨s1, s2, s3, s4, s5, s6, s7⟩; first | (go_simp; rfl) | go_simp
    simp only [Act.put, List.getElem_toArray, List.getElem_cons_succ, List.getElem_cons_zero, List.setIfInBounds_toArray, List.set_cons_zero, List.set_cons_succ]
    refine wpAnyH_take (i := 5) (v := ?_) rfl (by kernel_rfl) (by kernel_rfl) (by kernel_rfl) (fun _ _ _ h => h) (Or.inl ⟨by rfl, ?_⟩) hS0 ?_
    case refine_2 => rintro w ⟨s1, s2, s3, s4, s5, s6, s7⟩; first | (go_simp; rfl) | go_simp
    simp only [Act.put, List.getElem_toArray, List.getElem_cons_succ, List.getElem_cons_zero, List.setIfInBounds_toArray, List.set_cons_zero, List.set_cons_succ]
    refine wpAnyH_take (i := 6) (v := ?_) rfl (by kernel_rfl) (by kernel_rfl) (by kernel_rfl) (fun _ _ _ h => h) (Or.inl ⟨by rfl, ?_⟩) hS0 ?_
    case refine_2 => rintro w ⟨s1, s2, s3, s4, s5, s6, s7⟩; first | (go_simp; rfl) | go_simp
    simp only [Act.put, List.getElem_toArray, List.getElem_cons_succ, List.getElem_cons_zero, List.setIfInBounds_toArray, List.set_cons_zero, List.set_cons_succ]
    refine wpAnyH_take (i := 7) (v := ?_) rfl (by kernel_rfl) (by kernel_rfl) (by kernel_rfl) (fun _ _ _ h => h) (Or.inl ⟨by rfl, ?_⟩) hS0 ?_
    case refine_2 => rintro w ⟨s1, s2, s3, s4, s5, s6, s7⟩; first | (go_simp; rfl) | go_simp
    simp only [Act.put, List.getElem_toArray, List.getElem_cons_succ, List.getElem_cons_zero, List.setIfInBounds_toArray, List.set_cons_zero, List.set_cons_succ]
    refine wpAnyH_take (i := 8) (v := ?_) rfl (by kernel_rfl) (by kernel_rfl) (by kernel_rfl) (fun _ _ _ h => h) (Or.inl ⟨by rfl, ?_⟩) hS0 ?_
    case refine_2 => rintro w ⟨s1, s2, s3, s4, s5, s6, s7⟩; first | (go_simp; rfl) | go_simp
    simp only [Act.put, List.getElem_toArray, List.getElem_cons_succ, List.getElem_cons_zero, List.setIfInBounds_toArray, List.set_cons_zero, List.set_cons_succ]
    refine wpAnyH_take (i := 10) (v := ?_) rfl (by kernel_rfl) (by kernel_rfl) (by kernel_rfl) (fun _ _ _ h => h) (Or.inl ⟨by rfl, ?_⟩) hS0 ?_
    case refine_2 => rintro w ⟨s1, s2, s3, s4, s5, s6, s7⟩; first | (go_simp; rfl) | go_simp
    simp only [Act.put, List.getElem_toArray, List.getElem_cons_succ, List.getElem_cons_zero, List.setIfInBounds_toArray, List.set_cons_zero, List.set_cons_succ]
    refine wpAnyH_take (i := 11) (v := ?_) rfl (by kernel_rfl) (by kernel_rfl) (by kernel_rfl) (fun _ _ _ h => h) (Or.inl ⟨by rfl, ?_⟩) hS0 ?_
    case refine_2 => rintro w ⟨s1, s2, s3, s4, s5, s6, s7⟩; first | (go_simp; rfl) | go_simp
    simp only [Act.put, List.getElem_toArray, List.getElem_cons_succ, List.getElem_cons_zero, List.setIfInBounds_toArray, List.set_cons_zero, List.set_cons_succ]
    refine wpAnyH_take (i := 12) (v := ?_) rfl (by kernel_rfl) (by kernel_rfl) (by kernel_rfl) (fun _ _ _ h => h) (Or.inl ⟨by rfl, ?_⟩) hS0 ?_
    case refine_2 => rintro w ⟨s1, s2, s3, s4, s5, s6, s7⟩; first | (go_simp; rfl) | go_simp
    simp only [Act.put, List.getElem_toArray, List.getElem_cons_succ, List.getElem_cons_zero, List.setIfInBounds_toArray, List.set_cons_zero, List.set_cons_succ]
    refine wpAnyH_ready (rs := [9]) (by kernel_rfl) (by simp) ?_
    refine AllReadyH.cons rfl (fun K hK => ?_) AllReadyH.nil
    go_simp
    refine (arrowC n₀ a c G _ hMG hnd HG.out p q hpH hqH).mono ?_
    rintro e w' ⟨rfl, rfl⟩
    refine hK.out _ _ (HST.out _ _ HS0.out) (fun hS1 => ?_)
    clear hK K
    refine wpAnyH_ready (rs := [13]) (by kernel_rfl) (by simp) ?_
    refine AllReadyH.cons rfl (fun K hK => ?_) AllReadyH.nil
    go_simp
    refine (arrowC n₀ a' c' H _ hMH1 hnd1 HG'.out i j hi hj).mono ?_
    rintro e w' ⟨rfl, rfl⟩
    refine hK.out _ _ (HST.out _ _ hS1) (fun hS2 => ?_)
    clear hK K
    refine wpAnyH_take (i := 14) (v := ?_) rfl (by kernel_rfl) (by kernel_rfl) (by kernel_rfl) (fun _ _ _ h => h) (Or.inl ⟨by rfl, ?_⟩) hS2 ?_
    case refine_2 => rintro w ⟨s1, s2, s3, s4, s5, s6, s7⟩; first | (go_simp; rfl) | go_simp
    simp only [Act.put, List.getElem_toArray, List.getElem_cons_succ, List.getElem_cons_zero, List.setIfInBounds_toArray, List.set_cons_zero, List.set_cons_succ]
    refine wpAnyH_done (by kernel_rfl) ?_ _
    have hkf : KeepsFrom V.heap.size W' ((W'.drew.alloc (.cells #[.slice a G.length c] 49)).alloc (.cells #[.slice a' H.length c'] 49)) := ((show KeepsFrom V.heap.size W' W'.drew from ⟨Nat.le_refl _, fun _ _ _ h _ => h⟩).trans (((KeepsOthers.alloc W'.drew _).trans (KeepsOthers.alloc _ _)).from _))
    have hkc : KeepC (fun B => B = w.heap.size + 1 + 1 + 1) (V.heap.size + 2) W' ((W'.drew.alloc (.cells #[.slice a G.length c] 49)).alloc (.cells #[.slice a' H.length c'] 49)) := (KeepC.drew _ _ _).trans ((KeepC.alloc _ _ _ _).trans (KeepC.alloc _ _ _ _))
    have hBX : Below w.heap.size w ((W'.drew.alloc (.cells #[.slice a G.length c] 49)).alloc (.cells #[.slice a' H.length c'] 49)) := (hB'.drew.alloc hws _).alloc (by rw [es]; have : w.heap.size ≤ W'.drew.heap.size := hws; omega) _
    by_cases ha : (arw G p q == arw H i j) = true
    · have hn2 : (!(arw G p q == arw H i j)) = false := by simp [ha]
      have HP' : Hid (∀ x ∈ pre ++ [((⟨i, hi⟩ : Fin H.length), (⟨j, hj⟩ : Fin H.length))], (arw G (nd f x.1.1) (nd f x.2.1) == arw H x.1.1 x.2.1) = true) := fun x hx => by
        rcases List.mem_append.1 hx with h | h
        · exact HP.out x h
        · simp only [List.mem_singleton] at h; subst h; rw [HA.out, HA2.out]; exact ha
      clear ha
      rw [hn2]
      gi_wp2
      exact ⟨hkf, hkc, ⟨⟨⟨⟨((show Boxed W'.drew _ _ _ from bG').alloc _).alloc _, ((show Boxed W'.drew _ _ _ from bH').alloc _).alloc _⟩, ((show Boxed W'.drew _ _ _ from bF').alloc _).alloc _⟩, bR2⟩, HP'⟩, hBX⟩
    · have han : (arw G p q == arw H i j) = false := by simpa using ha
      have hn2 : (!(arw G p q == arw H i j)) = true := by simp [han]
      have HN : Hid (∃ x ∈ pre ++ [((⟨i, hi⟩ : Fin H.length), (⟨j, hj⟩ : Fin H.length))], (arw G (nd f x.1.1) (nd f x.2.1) == arw H x.1.1 x.2.1) = false) := ⟨(⟨i, hi⟩, ⟨j, hj⟩), by simp, by rw [HA.out, HA2.out]; exact han⟩
      clear ha han
      rw [hn2]
      obtain ⟨U, hU⟩ : ∃ U, ((W'.drew.alloc (.cells #[.slice a G.length c] 49)).alloc (.cells #[.slice a' H.length c'] 49)) = U := ⟨_, rfl⟩
      rw [hU] at hkf hkc hBX bR2 cR2 fR2 ⊢
      clear hU
      gi_wp2
      exact ⟨hkf.trans ((KeepsOthers.setCell _ _ _).from _), ⟨⟨rfl, HN⟩, bR2.set _⟩, hBX.setCell (p := ⟨w.heap.size + 1 + 1 + 1, 0, none⟩) (by simp; omega) _⟩
  case done =>
    rintro D ys W' hD rfl ⟨⟨⟨⟨⟨bG', bH'⟩, bF'⟩, bR'⟩, HP⟩, hB'⟩ hK
    have cR := bR'.cell
    have fR := bR'.frozen
    gi_wp2
    have hK' := (KeepsOthers.setCell W' ⟨w.heap.size + 1 + 1 + 1, 0, none⟩ (.bool true)).same D _ hK rfl
    refine ⟨by simp, .inl ⟨_, _, rfl, run_takeDeferred hK', ?_⟩⟩
    have hc5 := cell_kept (bR'.set (.bool true)).cell (grownBy_putObj' _ D (.deferred none)) (fun r e => by cases e; exact ⟨_, hK', rfl⟩)
    refine ⟨.bool true, ?_, ret_bool (HZ.out.symm.trans (List.all_eq_true.2 fun x hx => HP.out x hx)).symm, (hB'.setCell (p := ⟨w.heap.size + 1 + 1 + 1, 0, none⟩) (by simp; omega) _).trans (belowK_b (w := w) (Nat.le_refl _) _ D _ _ (by omega) hK' rfl rfl)⟩
    simp [results, Try.f43, go_sem, hc5]
  case stop =>
    rintro D c' pre W' hD hpre ⟨⟨⟨rfl, HN⟩, bR'⟩, hB'⟩ hK
    gi_wp2
    refine ⟨by simp, .inl ⟨_, _, rfl, run_takeDeferred hK, ?_⟩⟩
    have hc5 := cell_kept bR'.cell (grownBy_putObj' _ D (.deferred none)) (fun r e => by cases e; exact ⟨_, hK, rfl⟩)
    have hf : sameBy G H f = false := by
      obtain ⟨x, hx, hx2⟩ := HN.out
      refine Bool.eq_false_iff.2 fun h => ?_
      have := List.all_eq_true.1 h x (hpre.subset hx)
      rw [hx2] at this
      cases this
    refine ⟨.bool false, ?_, ret_bool (HZ.out.symm.trans hf).symm, hB'.trans (belowK_b (w := w) (Nat.le_refl _) W' D _ _ (by omega) hK rfl rfl)⟩
    simp [results, Try.f43, go_sem, hc5]

end Go.Proofs.Ytmohmecdhabapac
