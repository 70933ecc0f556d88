/-
  Several texts in one.
  impl.rowsBy for a method of a value (its receiver is bound): the walk of F2 once more.
  impl.graph.twoWays: the iterator over all pairs with arrows both ways.
  impl.graph.way: one of two arrows taken away, pair by pair.
  impl.graph.ways: the iterator over the graphs of all ways to keep one of two arrows.
  impl.WholeOf, ColoursOk, CountColours, fewestTold, FewestOf, BothWays, OneWay.
  impl.graph.shortestWay, impl.ShortestWay.
  impl.ShortestWay; the program's chapter 8 is whole here.
-/
import Derived.Test.YtpcmenhchabgiaaZF
import Derived.Test.YtpcmenhchabgiaaWS
import Derived.Test.YtpcmenhchabgiaaZE
import Derived.Deep.Cut
import Derived.Test.YtpcmenhchabgiaaWY
import Derived.Test.YtpcmenhchabgiaaZC
import Derived.Test.YtpcmenhchabgiaaZO
import Derived.Test.YtpcmenhchabgiaaZM
import Derived.Test.YtpcmenhchabgiaaWQ
import Derived.Test.YtpcmenhchabgiaaZN
import Derived.Test.YtpcmenhchabgiaaM7
import Derived.WalkMore
import Derived.Test.YtpcmenhchabgiaaWU
namespace Go.Proofs.Ytpcmenhchabgiaa
open Go.RowKit Go.Shelf Go.Deep

attribute [local go_sem] Oper.semAt_some

set_option maxRecDepth 100000 in
set_option maxHeartbeats 4000000 in
theorem rowsByM_in (F : Fence) (hd : F.depth = none) (hF : ∀ k, F.fn k) (hro : F.round = none) (gf : Nat) (rv : Value) (p : Nat → Nat → Bool) (m : Nat) (hm : m ≤ 9) (w : World)
    (he : ∀ args w, (callFunc gf args).run Try.prog w = .ok (.enter gf args) w)
    (hcl : ∀ W' i j, Below w.heap.size w W' → i < m → j < m → CallsIn F 20 Try.prog gf #[rv, .int .i64 (i : Int), .int .i64 (j : Int)] W' (Ans (.bool (p i j)) W')) :
    CallsIn F 20 Try.prog 69 #[.int .i64 m, .func (.func gf) #[rv] #[]] w (MadeM w m p) := by
  have h1 := hF 69
  have h2 := hF 90
  have h3 := hF gf
  have hdd : ∀ k : Nat, (F.depth.isSome = true → 1 ≤ k) := fun k h => by rw [hd] at h; cases h
  have HFn := Lib.hid hF
  have HCL := Lib.hid hcl
  clear hF hcl
  have hmk := run_make_row' (P := Try.prog) 24 33 (.slice none 0 0) 24 Try.underlying24 infoInts rfl .i64 .i64 m (by omega) (by omega)
  refine callsIn_of_wp_marks Try.func69 rfl h1 ?_ hro
  simp only [Try.ntmps69, List.size_toArray, List.length_cons, List.length_nil, Nat.reduceAdd, Nat.reduceSub, Array.replicate_succ, Array.replicate_zero, List.push_toArray, List.append_toArray, List.nil_append, List.cons_append]
  gi_wp2
  clear hmk
  have HP0 := Lib.hid (RPart.start w (.func (.func gf) #[rv] #[]) m)
  gi_loopw [13] (fun i wr => ∃ k : Nat, k ≤ m ∧ i = .int .i64 k ∧ Hid (RPart w wr (.func (.func gf) #[rv] #[]) m k)) (fun i _ => m - (intOf i).toNat)
  case atStart => exact ⟨0, Nat.zero_le _, rfl, HP0⟩
  case round =>
    obtain ⟨k, hk, rfl, HP⟩ := hrel
    clear HP0
    have cV : wr.cell? ⟨w.heap.size + 1 + 1, 0, none⟩ = some (.slice (some ⟨w.heap.size + 1, 0, none⟩) m m) := HP.out.var.cell
    by_cases hlt : k < m
    · have hmk2 := run_make_row' (P := Try.prog) 33 3 (.int .i64 0) 8 Try.underlying33 infoInt rfl .i64 .i64 m (by omega) (by omega)
      have hst := RPart.step HP.out
      rw [← HP.out.size] at hst
      have HST := Lib.hid hst
      clear hst
      have hc1 : ∀ o : Obj, (wr.alloc o).cell? ⟨w.heap.size + 1, k, none⟩ = some (.slice none 0 0) := fun o => by have := (HP.out.top.alloc o).cell hlt; simpa using this
      have hf1 : ∀ o : Obj, (wr.alloc o).frozen? ⟨w.heap.size + 1, k, none⟩ = false := fun o => (HP.out.top.alloc o).frozen k
      have hcV : ∀ o : Obj, (wr.alloc o).cell? ⟨w.heap.size + 1 + 1, 0, none⟩ = some (.slice (some ⟨w.heap.size + 1, 0, none⟩) m m) := fun o => (HP.out.var.alloc o).cell
      gi_wp2
      gi_region
      all_goals
        gi_wp2
        go_roundw
        case rel => exact ⟨k + 1, by omega, by go_num, HST⟩
        case measure => simp [intOf]; omega
    · obtain rfl : k = m := by omega
      gi_wp2_with ((try refine ⟨hdd _, ?_⟩); gi_at_call 90; refine (pairs_in F _ HFn.out hro _ _).mono ?_; rintro e w' ⟨rfl, rfl⟩)
      have hws : wr.heap.size = w.heap.size + 3 + k := HP.out.size
      have HM0 : Hid (RMid w (wr.alloc (.cells #[.int .i64 k] 3)) (.func (.func gf) #[rv] #[]) k p []) :=
        ⟨HP.out.below.alloc (by omega) _, HP.out.fn.alloc _, HP.out.var.alloc _, (HP.out.top.alloc _).congr fun i hi => by rw [if_pos hi], fun i hi => ((HP.out.done i hi).alloc _).congr fun j _ => (cellP_start p i j).symm⟩
      have bP := Boxed.new wr 3 (.int .i64 k)
      have hsz : (wr.alloc (.cells #[.int .i64 k] 3)).heap.size = wr.heap.size + 1 := by simp
      obtain ⟨V, hV⟩ : ∃ V, wr.alloc (.cells #[.int .i64 k] 3) = V := ⟨_, rfl⟩
      rw [hV] at HM0 bP hsz ⊢
      have HW := Lib.hid hws
      have hsz2 : w.heap.size + 3 + k + 1 ≤ V.heap.size := by omega
      clear hV HP cV hsz
      refine range_law hd hro HFn.out (gf := 108) (lb := #[.pointer (some ⟨wr.heap.size, 0, none⟩)]) rfl (enters_of Try.func108 (by kernel_rfl) rfl)
        (pairs_X F HFn.out hro wr.heap.size k (by omega) (fun B => w.heap.size + 3 ≤ B ∧ B < w.heap.size + 3 + k) (V.heap.size + 2) (V.heap.size + 2) (fun s => by have := HW.out; omega) V bP) (fun h k => KeepC.trans h k) (fun W' o o' h hc => KeepC.putObj _ (by omega) W' o o' h hc) (Below.refl _ _) (fun _ => rfl)
        (fun pre W => RMid w W (.func (.func gf) #[rv] #[]) k p pre)
        (fun _ _ _ => False)
        (RMid.own (by omega))
        (fun _ _ _ _ _ hs _ _ => hs)
        HM0.out ?a1 ?assign ?body ?done ?stop
      case assign =>
        intro l2 x W' K hK
        gi_wp2
        exact hK
      case body =>
        rintro l2 pre ⟨⟨i, hi⟩, ⟨j, hj⟩⟩ W hM _
        have HM := Lib.hid hM
        have cF := hM.fn.cell
        clear hM
        by_cases hp : p i j = true
        · gi_wp2_with fail
          refine (CallsIn.inRound l2 (CallsIn_any hd (HCL.out W i j HM.out.below hi hj))).mono ?_
          rintro e w1 ⟨rfl, hB1⟩
          have HM1 := Lib.hid (HM.out.grown hB1)
          have HB1 := Lib.hid hB1
          clear hB1
          have cV1 : w1.cell? ⟨w.heap.size + 1 + 1, 0, none⟩ = some (.slice (some ⟨w.heap.size + 1, 0, none⟩) k k) := HM1.out.var.cell
          have cT1 := HM1.out.top.cell hi
          have cR1 := (HM1.out.rows i hi).cell hj
          have fR1 := (HM1.out.rows i hi).frozen j
          gi_wp2_with fail
          exact ⟨(keepsFrom_below HB1.out _).trans ((KeepsOthers.setCell _ _ _).from _), (KeepC.of_below HB1.out).trans (KeepC.setCell (S := fun B => w.heap.size + 3 ≤ B ∧ B < w.heap.size + 3 + k) _ w1 ⟨by omega, by omega⟩ j _), HM1.out.yes hi hj hp⟩
        · have hp' : p i j = false := by simpa using hp
          gi_wp2_with fail
          refine (CallsIn.inRound l2 (CallsIn_any hd (HCL.out W i j HM.out.below hi hj))).mono ?_
          rintro e w1 ⟨rfl, hB1⟩
          have HM1 := Lib.hid (HM.out.grown hB1)
          have HB1 := Lib.hid hB1
          clear hB1
          gi_wp2_with fail
          exact ⟨keepsFrom_below HB1.out _, KeepC.of_below HB1.out, HM1.out.no hi hj hp'⟩
      case done =>
        rintro D ys W hD rfl hM hK
        have cV : W.cell? ⟨w.heap.size + 1 + 1, 0, none⟩ = some (.slice (some ⟨w.heap.size + 1, 0, none⟩) k k) := hM.var.cell
        have HM := Lib.hid hM
        clear hM
        gi_wp2
        refine ⟨by simp, .inl ⟨_, _, rfl, run_takeDeferred hK, ?_⟩⟩
        have HM2 : RMid w (W.putObj D (.deferred none)) (.func (.func gf) #[rv] #[]) k p (PL k) := (RMid.own (p := p) (B := V.heap.size) (by omega)).putObj _ HM.out hD hK rfl
        exact ⟨_, results_tmp rfl _ _ _, rfl, HM2.below, HM2.own_m⟩
      case stop =>
        rintro D c' pre W' _ _ hx _
        exact hx.elim

end Go.Proofs.Ytpcmenhchabgiaa

namespace Go.Proofs.Ytpcmenhchabgiaa
open Go.RowKit Go.Shelf

attribute [local go_sem] Oper.semAt_some

set_option maxHeartbeats 1000000 in
theorem twoWays_in (F : Fence) (n : Nat) (hF : ∀ k, F.fn k) (hro : F.round = none) (a : Option Addr) (m c : Nat) (w : World) :
    CallsIn F n Try.prog 103 #[.agg #[.slice a m c]] w fun e w' => e = .returned (.func (.func 114) #[] #[.pointer (some ⟨w.heap.size, 0, none⟩)]) ∧ w' = w.alloc (.cells #[.slice a m c] 58) := by
  have h0 := hF 103
  clear hF
  refine callsIn_of_wp Try.func103 rfl h0 ?_ hro
  simp only [Try.ntmps103, List.size_toArray, List.length_cons, List.length_nil, Nat.reduceAdd, Nat.reduceSub, Array.replicate_succ, Array.replicate_zero, List.push_toArray, List.append_toArray, List.nil_append, List.cons_append]
  gi_wp2
  go_ret
  exact ⟨rfl, rfl⟩

set_option maxRecDepth 100000 in
set_option maxHeartbeats 4000000 in
theorem twoWays_X (F : Fence) (hd : F.depth = none) (hF : ∀ k, F.fn k) (hro : F.round = none) (Bg n₀ : Nat) (a : Option Addr) (c : Nat) (xss : List (List Int)) (hG : Good xss) (S : Nat → Prop) (T : Nat) (w : World)
    (hSg : ¬ S Bg) (hwT : w.heap.size ≤ T) (hSw : ∀ B, S B → B < w.heap.size) (hSn : ∀ B, S B → n₀ ≤ B) (hn₀ : n₀ ≤ w.heap.size) (bG0 : Boxed w Bg 58 (.slice a xss.length c)) (hM0 : Mat n₀ w a xss) :
    SeqX F Try.prog 114 #[.pointer (some ⟨Bg, 0, none⟩)] (encP (m := xss.length)) (KeepC S T) (fun ys => ys = TL xss) (fun pre => pre <+: TL xss) (xss.length * xss.length) T w := by
  intro l J Jx W hTW hW hJ hJx hY h0
  have bG : Boxed W Bg 58 (.slice a xss.length c) := (hW.block Bg bG0.lt).trans bG0
  have hM : Mat n₀ W a xss := hM0.below (hW.mono hn₀)
  have hl9 := hG.2.1
  have hWs := hW.size
  clear bG0 hM0 hW
  have h1 := hF 114
  have h3 := hF 64
  have h4 := hF 72
  have hdd : ∀ k : Nat, (F.depth.isSome = true → 1 ≤ k) := fun k h => by rw [hd] at h; cases h
  have HFn := Lib.hid hF
  have HY := Lib.hid hY
  have HJ := Lib.hid hJ
  have HJx := Lib.hid hJx
  have HSw := Lib.hid hSw
  have HSn := Lib.hid hSn
  have HSg := Lib.hid hSg
  have HJ0 := Lib.hid h0
  have HGd := Lib.hid hG
  clear hF hY hJ hJx hSw hSn hSg h0 hG
  refine callsIn_of_wp_marks Try.func114 rfl h1 ?_ hro
  simp only [Try.ntmps114, List.size_toArray, List.length_cons, List.length_nil, Nat.reduceAdd, Nat.reduceSub, Array.replicate_succ, Array.replicate_zero, List.push_toArray, List.append_toArray, List.nil_append, List.cons_append]
  have cG := bG.cell
  have hBg := bG.lt
  gi_wp2_with ((try refine ⟨hdd _, ?_⟩); gi_at_call 64; refine (arrows_in F _ HFn.out hro _ _ _ _).mono ?_; rintro e w' ⟨rfl, rfl⟩)
  have bY := (Boxed.new W 54 (.func (.yield l) #[] #[])).alloc (.cells #[.slice a xss.length c] 58)
  have bP := Boxed.new (W.alloc (.cells #[.func (.yield l) #[] #[]] 54)) 58 (.slice a xss.length c)
  have bG2 := (bG.alloc (.cells #[.func (.yield l) #[] #[]] 54)).alloc (.cells #[.slice a xss.length c] 58)
  have hB3 := ((Below.refl W.heap.size W).alloc (Nat.le_refl _) (.cells #[.func (.yield l) #[] #[]] 54)).alloc (by simp) (.cells #[.slice a xss.length c] 58)
  have HJ3 := Lib.hid (OwnFrom.alloc HJ.out (.cells #[.slice a xss.length c] 58) (OwnFrom.alloc HJ.out (.cells #[.func (.yield l) #[] #[]] 54) HJ0.out))
  have hM3 := hM.below (hB3.mono (Nat.le_trans hn₀ hWs))
  simp only [World.size_alloc] at bP
  have hsz : ((W.alloc (.cells #[.func (.yield l) #[] #[]] 54)).alloc (.cells #[.slice a xss.length c] 58)).heap.size = W.heap.size + 2 := by simp
  obtain ⟨V, hV⟩ : ∃ V, (W.alloc (.cells #[.func (.yield l) #[] #[]] 54)).alloc (.cells #[.slice a xss.length c] 58) = V := ⟨_, rfl⟩
  rw [hV] at bY bP bG2 hB3 HJ3 hM3 hsz ⊢
  clear hV bG hM cG
  refine range_law hd hro HFn.out (gf := 91) (lb := #[.pointer (some ⟨W.heap.size + 1, 0, none⟩)]) rfl (enters_of Try.func91 (by kernel_rfl) rfl)
    (arrows_X F hd HFn.out hro (W.heap.size + 1) n₀ a c xss HGd.out S (V.heap.size + 2) V (fun s => by have := HSw.out _ s; omega) (by omega) (fun B s => by have := HSw.out _ s; omega) HSn.out (by omega) bP hM3) (fun h k => KeepC.trans h k) (fun W' o o' h hc => KeepC.putObj S (by omega) W' o o' h hc) (Below.refl _ _) (fun _ => rfl)
    (fun pre W' => ((Hid (J (pre.filter (twyP xss)) W') ∧ Boxed W' W.heap.size 54 (.func (.yield l) #[] #[])) ∧ Boxed W' Bg 58 (.slice a xss.length c)) ∧ Mat n₀ W' a xss)
    (fun c' pre W' => c' = .ret ∧ Hid (Jx (pre.filter (twyP xss)) W'))
    (OwnFrom.and (OwnFrom.and (OwnFrom.and (fun s A B row hs hg hr => (OwnFrom.far HJ.out (by omega)) _ A B row hs.out hg hr) (Own.from (boxed_own _ _ _) _)) (Own.from (boxed_own _ _ _) _)) (Own.from (mat_own _ _ _) _))
    (fun c' => OwnFrom.and (ownFrom_pure _ _) (fun s A B row hs hg hr => (OwnFrom.far HJx.out (by omega)) _ A B row hs.out hg hr))
    ⟨⟨⟨HJ3, bY⟩, bG2⟩, hM3⟩ ?a1 ?assign ?body ?done ?stop
  case assign =>
    intro l2 x W' K hK
    gi_wp2
    exact hK
  case body =>
    rintro l2 pre ⟨⟨i, hi⟩, ⟨j, hj⟩⟩ W' ⟨⟨⟨HJp, bY'⟩, bG'⟩, hM'⟩ hlen
    have cY := bY'.cell
    have cG' := bG'.cell
    have hlt1 := bY'.lt
    have HJa := Lib.hid (OwnFrom.alloc HJ.out (.cells #[.slice a xss.length c] 58) HJp.out)
    have hcY : ∀ o : Obj, (W'.alloc o).cell? ⟨W.heap.size, 0, none⟩ = some (.func (.yield l) #[] #[]) := fun o => (bY'.alloc o).cell
    by_cases hij : i < j
    · have d1 : decide ((i : Int) < (j : Int)) = true := decide_eq_true (by omega)
      by_cases hb : arw xss j i = true
      · have hpl : (pre.filter (twyP xss)).length < xss.length * xss.length := Nat.lt_of_le_of_lt (List.length_filter_le _ _) hlen
        have htw : twyP xss ((⟨i, hi⟩ : Fin xss.length), (⟨j, hj⟩ : Fin xss.length)) = true := by unfold twyP; rw [decide_eq_true hij, hb]; rfl
        have HE : Hid ((pre ++ [((⟨i, hi⟩ : Fin xss.length), (⟨j, hj⟩ : Fin xss.length))]).filter (twyP xss) = (pre.filter (twyP xss)) ++ [(⟨i, hi⟩, ⟨j, hj⟩)]) := Lib.hid (by rw [List.filter_append]; simp [htw])
        obtain ⟨fn, tmps, assign, body, hy, hR⟩ := HY.out 0 _ (⟨i, hi⟩, ⟨j, hj⟩) _ HJa.out hpl
        dsimp only [encP] at hy
        have hR' := Lib.hid (RoundIn_round (l' := l2) hR)
        clear hR htw
        gi_wp2_with (first | ((try refine ⟨hdd _, ?_⟩); gi_at_call 72; refine (CallsIn.inRound l2 (arrow_in F _ HFn.out hro n₀ _ _ _ _ hM' (by omega) HGd.out j i hj hi)).mono ?_; rintro e w' ⟨rfl, rfl⟩) | ((try refine ⟨hdd _, ?_⟩); refine hR'.out.mono ?_; clear hR'; rintro e W3 (⟨rfl, hJ3, hk3⟩ | ⟨rfl, hJx3, hkf3⟩)))
        · have hk4 := Lib.hid ((KeepC.alloc S T W' (.cells #[.slice a xss.length c] 58)).trans hk3)
          have bY3 := KeepC.boxed hk4.out (fun s => by have := HSw.out _ s; omega) bY'
          have bG3 := KeepC.boxed hk4.out HSg.out bG'
          have hM3' := Mat.keepC hM' hk4.out HSn.out
          have HJ4 : Hid (J ((pre ++ [((⟨i, hi⟩ : Fin xss.length), (⟨j, hj⟩ : Fin xss.length))]).filter (twyP xss)) W3) := Lib.hid (by rw [HE.out]; exact hJ3)
          clear hJ3 hk3
          gi_wp2
          exact ⟨KeepC.from hk4.out (fun B s => by have := HSw.out B s; omega) (by omega), KeepC.more hk4.out (by omega), ⟨⟨HJ4, bY3⟩, bG3⟩, hM3'⟩
        · have HX4 : Hid (Jx ((pre ++ [((⟨i, hi⟩ : Fin xss.length), (⟨j, hj⟩ : Fin xss.length))]).filter (twyP xss)) W3) := Lib.hid (by rw [HE.out]; exact hJx3)
          have HK3 := Lib.hid (((KeepsOthers.alloc W' (.cells #[.slice a xss.length c] 58)).from V.heap.size).trans ⟨hkf3.size, fun k o hk ho hc => hkf3.same k o (by omega) ho hc⟩)
          clear hJx3 hkf3
          gi_wp2
          exact ⟨HK3.out, rfl, HX4⟩
      · have hb' : arw xss j i = false := by simpa using hb
        have htw : twyP xss ((⟨i, hi⟩ : Fin xss.length), (⟨j, hj⟩ : Fin xss.length)) = false := by unfold twyP; rw [hb']; simp
        have HJ4 : Hid (J ((pre ++ [((⟨i, hi⟩ : Fin xss.length), (⟨j, hj⟩ : Fin xss.length))]).filter (twyP xss)) (W'.alloc (.cells #[.slice a xss.length c] 58))) := Lib.hid (by
          have e1 : (pre ++ [((⟨i, hi⟩ : Fin xss.length), (⟨j, hj⟩ : Fin xss.length))]).filter (twyP xss) = (pre.filter (twyP xss)) := by
            rw [List.filter_append]; simp [htw]
          rw [e1]; exact HJa.out)
        clear htw
        gi_wp2_with ((try refine ⟨hdd _, ?_⟩); gi_at_call 72; refine (CallsIn.inRound l2 (arrow_in F _ HFn.out hro n₀ _ _ _ _ hM' (by omega) HGd.out j i hj hi)).mono ?_; rintro e w' ⟨rfl, rfl⟩)
        refine ⟨fun _ h => (by cases h), ?_⟩
        gi_wp2
        exact ⟨(KeepsOthers.alloc _ _).from _, KeepC.alloc S _ _ _, ⟨⟨HJ4, bY'.alloc _⟩, bG'.alloc _⟩, hM'.keepC (KeepC.alloc S 0 _ _) HSn.out⟩
    · have d1 : decide ((i : Int) < (j : Int)) = false := decide_eq_false (by omega)
      have htw : twyP xss ((⟨i, hi⟩ : Fin xss.length), (⟨j, hj⟩ : Fin xss.length)) = false := by unfold twyP; rw [decide_eq_false hij]; rfl
      have HJ4 : Hid (J ((pre ++ [((⟨i, hi⟩ : Fin xss.length), (⟨j, hj⟩ : Fin xss.length))]).filter (twyP xss)) W') := Lib.hid (by
        have e1 : (pre ++ [((⟨i, hi⟩ : Fin xss.length), (⟨j, hj⟩ : Fin xss.length))]).filter (twyP xss) = (pre.filter (twyP xss)) := by
          rw [List.filter_append]; simp [htw]
        rw [e1]; exact HJp.out)
      clear htw
      gi_wp2
      refine ⟨fun _ h => (by cases h), ?_⟩
      gi_wp2
      exact ⟨KeepsFrom.refl _ _, KeepC.refl S _ _, ⟨⟨HJ4, bY'⟩, bG'⟩, hM'⟩
  case done =>
    rintro D ys W' hD rfl ⟨⟨⟨HJp, _⟩, _⟩, _⟩ hK
    gi_wp2
    refine ⟨by simp, .inl ⟨_, _, rfl, run_takeDeferred hK, ?_⟩⟩
    refine ⟨_, results_none rfl _ _ _, ⟨_, rfl⟩, .inl ⟨_, rfl, OwnFrom.putObj HJ.out _ HJp.out (by omega) hK rfl⟩⟩
  case stop =>
    rintro D c' pre W' hD hpre ⟨rfl, HX⟩ hK
    gi_wp2
    refine ⟨by simp, .inl ⟨_, _, rfl, run_takeDeferred hK, ?_⟩⟩
    refine ⟨_, results_none rfl _ _ _, ⟨_, rfl⟩, .inr ⟨_, hpre.filter _, OwnFrom.putObj HJx.out _ HX.out (by omega) hK rfl⟩⟩

end Go.Proofs.Ytpcmenhchabgiaa

namespace Go.Proofs.Ytpcmenhchabgiaa
open Go.RowKit Go.Shelf Go.Deep

attribute [local go_sem] Oper.semAt_some

/-- ROWS THAT LIE APART, their places held. -/
def OwnV (base : Nat) (W : World) (v : Value) (vs : List Value) (xss : List (List Int)) : Prop :=
  W.ownsRow base 33 1 v xss.length vs ∧ (∀ (i : Nat) (x : Value) (xs : List Int), vs[i]? = some x → xss[i]? = some xs → W.ownsRow base 3 1 x xs.length (xs.map (Value.int .i64))) ∧ Sep vs
theorem OwnV.sep {base : Nat} {W : World} {v : Value} {vs : List Value} {xss : List (List Int)} (h : OwnV base W v vs xss) : OwnSep base W v xss := ⟨vs, h⟩
theorem OwnV.kept {base : Nat} {W W' : World} {v : Value} {vs : List Value} {xss : List (List Int)} {row : Option Nat} (h : OwnV base W v vs xss) (hg : W.grownBy W' row) (hr : ∀ r, row = some r → r < base ∨ ∃ o : Obj, W.heap[r]? = some o ∧ o.isCells = false) : OwnV base W' v vs xss := by
  obtain ⟨h1, h2, h3⟩ := h
  have ne : ∀ (e : TypeId) (n : Nat) (u : Value) (zs : List Value), W.ownsRow base e 1 u n zs → u.ownBlock = none ∨ u.ownBlock ≠ row := fun e n u zs ho => by
    rcases ho.2 with ⟨rfl, _⟩ | ⟨g, cap, cur, rfl, hb, hgg, _⟩
    · exact .inl rfl
    · refine .inr fun e' => ?_
      rcases hr g (by rw [← e']; rfl) with hlt | ⟨o, ho', hc⟩
      · omega
      · rw [hgg] at ho'; cases ho'; cases hc
  exact ⟨h1.kept hg (ne _ _ _ _ h1), fun i x xs hx hxs => (h2 i x xs hx hxs).kept hg (ne _ _ _ _ (h2 i x xs hx hxs)), h3⟩
theorem OwnV.below {base : Nat} {W W' : World} {v : Value} {vs : List Value} {xss : List (List Int)} (h : OwnV base W v vs xss) (hb : Below W.heap.size W W') : OwnV base W' v vs xss := h.kept (grown_of_below hb) (fun r e => by cases e)
theorem OwnV.set {base : Nat} {W : World} {v : Value} {vs : List Value} {xss : List (List Int)} (h : OwnV base W v vs xss) {b : Nat} (hb : b < base) (j : Nat) (u : Value) : OwnV base (W.setCell ⟨b, j, none⟩ u) v vs xss :=
  h.kept (grownBy_setX W b j u) (fun r e => by cases e; exact .inl hb)
theorem ownV_own {β : Type} (base : Nat) (v : Value) (vs : List Value) (xss : β → List (List Int)) : Own (fun s W => OwnV base W v vs (xss s)) := fun _ _ _ _ h hg hr => h.kept hg fun r e => .inr (hr r e)
/-- One row: where it lies, and one entry set. -/
theorem OwnV.row {base g cap N : Nat} {W : World} {vs : List Value} {xss : List (List Int)} (h : OwnV base W (.slice (some ⟨g, 0, none⟩) N cap) vs xss) (hN : xss.length = N) {a : Nat} {xs : List Int} (ha : xss[a]? = some xs) (h1 : 1 ≤ xs.length) :
    ∃ r c, vs[a]? = some (.slice (some ⟨r, 0, none⟩) xs.length c) ∧ W.cell? ⟨g, a, none⟩ = some (.slice (some ⟨r, 0, none⟩) xs.length c) ∧ base ≤ r ∧ (∀ b, b < xs.length → ∃ y : Int, W.cell? ⟨r, b, none⟩ = some (.int .i64 y)) ∧ (∀ b, W.frozen? ⟨r, b, none⟩ = false) ∧
      ∀ (b : Nat) (x : Int), OwnV base (W.setCell ⟨r, b, none⟩ (.int .i64 x)) (.slice (some ⟨g, 0, none⟩) N cap) vs (xss.set a (xs.set b x)) := by
  subst hN
  obtain ⟨ho, hr, hs⟩ := h
  have hvl : vs.length = xss.length := by simpa using ho.1
  have hal : a < xss.length := (List.getElem?_eq_some_iff.1 ha).1
  obtain ⟨x, hx⟩ : ∃ x, vs[a]? = some x := ⟨_, List.getElem?_eq_getElem (by omega)⟩
  have hro := hr a x xs hx ha
  obtain ⟨r, c, rfl⟩ := Joins.ownsRow_form hro (by omega)
  have hrl := hro.lt r (by simp [Value.ownBlock])
  have hne := own_ne_own ho hro
  refine ⟨r, c, hx, ?_, hrl.1, fun b hb => ?_, fun b => hro.frozenAt b, fun b y => ?_⟩
  · have hc := ho.cellAt a (by omega)
    rw [hc]; exact hx
  · have hc := hro.cellAt b (by omega)
    rw [List.getElem?_map, List.getElem?_eq_getElem hb] at hc
    exact ⟨_, hc⟩
  · have hg := grownBy_setX W r b (.int .i64 y)
    refine ⟨by rw [List.length_set]; exact ho.kept hg (.inr (fun e => by
        rcases hne with h | h
        · simp [Value.ownBlock] at h
        · exact h e.symm)), fun i u us hu hus => ?_, hs⟩
    by_cases e : i = a
    · subst e
      rw [hx] at hu
      cases hu
      rw [List.getElem?_set_self hal] at hus
      have e2 : xs.set b y = us := by simpa using hus
      subst e2
      rw [List.length_set, List.map_set]
      exact (hro.stored b (.int .i64 y)).1
    · rw [List.getElem?_set_ne (fun e2 => e e2.symm)] at hus
      refine (hr i u us hu hus).kept hg ?_
      cases hub : u.ownBlock with
      | none => exact .inl rfl
      | some q =>
        refine .inr fun e2 => ?_
        cases e2
        exact hs i a u _ r e hu hx hub (by simp [Value.ownBlock])

set_option maxHeartbeats 1000000 in
theorem arrowM (n₀ : Nat) (a : Option Addr) (c : Nat) (G : List (List Int)) (W : World) (hM : Mat n₀ W a G) (hn : n₀ ≤ W.heap.size) (hG : Good G) (i j : Nat) (hi : i < G.length) (hj : j < G.length) :
    CallsIn Fence.wide 20 Try.prog 72 #[.agg #[.slice a G.length c], .int .i64 (i : Int), .int .i64 (j : Int)] W (Ans (.bool (arw G i j)) W) :=
  (arrow_in Fence.wide 20 (fun _ => trivial) rfl n₀ a c G W hM hn hG i j hi hj).mono fun e w' h => ⟨h.1, by rw [h.2]; exact (Below.refl _ _).alloc (Nat.le_refl _) _⟩

/-- The rows of a graph, as the program makes them. -/
theorem rowsM_in (a : Option Addr) (c : Nat) (G : List (List Int)) (n₀ : Nat) (W : World) (hM : Mat n₀ W a G) (hn : n₀ ≤ W.heap.size) (hG : Good G) :
    Calls Try.prog 69 #[.int .i64 G.length, .func (.func 72) #[.agg #[.slice a G.length c]] #[]] W fun e w' =>
      ∃ g, e = .returned (.slice (some ⟨g, 0, none⟩) G.length G.length) ∧ Below W.heap.size W w' ∧ ∃ vs, OwnV W.heap.size w' (.slice (some ⟨g, 0, none⟩) G.length G.length) vs (rowsP G.length (arw G)) := by
  refine (callsIn_wide.1 (rowsByM_in Fence.wide rfl (fun _ => trivial) rfl 72 (.agg #[.slice a G.length c]) (arw G) G.length hG.2.1 W (enters_of Try.func72 (by kernel_rfl) rfl)
    (fun W' i j hb hi hj => arrowM n₀ a c G W' (hM.below (hb.mono hn)) (Nat.le_trans hn hb.size) hG i j hi hj))).mono ?_
  rintro e w' ⟨rfl, hB, hO⟩
  have hl := rowsP_length G.length (arw G)
  have h2 : OwnR W.heap.size w' (some ⟨W.heap.size + 1, 0, none⟩) G.length (rowsP G.length (arw G)) := .inr ⟨W.heap.size + 1, fun i => W.heap.size + 3 + i, rfl, hl.symm, hO, by omega, fun i _ => by show W.heap.size ≤ W.heap.size + 3 + i; omega, fun i j h => by have h' : W.heap.size + 3 + i = W.heap.size + 3 + j := h; omega⟩
  have hF : Fit (rowsP G.length (arw G)) := (rowsP_good _ hG.1 hG.2.1).fit
  have h3 := h2.sep hF
  rw [hl] at h3
  obtain ⟨vs, h4⟩ := h3
  exact ⟨_, rfl, hB, vs, h4⟩

theorem OwnV.mono {base base' : Nat} {W : World} {v : Value} {vs : List Value} {xss : List (List Int)} (h : OwnV base W v vs xss) (hb : base' ≤ base) : OwnV base' W v vs xss :=
  ⟨Joins.ownsRow_le h.1 hb, fun i x xs hx hxs => Joins.ownsRow_le (h.2.1 i x xs hx hxs) hb, h.2.2⟩

/-- WHAT HOLDS BETWEEN TWO PAIRS: the number that is left, and the rows. -/
structure WayR (w X : World) (m : Nat) (b g n : Nat) (vs : List Value) (p : Nat → Nat → Bool) : Prop where
  below : Below w.heap.size w X
  num : Boxed X (w.heap.size + 1) 3 (.int .i64 m)
  rows : Boxed X b 24 (.slice (some ⟨g, 0, none⟩) n n)
  bb : w.heap.size + 2 ≤ b
  own : OwnV (w.heap.size + 2) X (.slice (some ⟨g, 0, none⟩) n n) vs (rowsP n p)
theorem WayR.first {w U1 U2 : World} {m g n : Nat} {vs : List Value} {p : Nat → Nat → Bool} (hB : Below w.heap.size w U1) (hz : w.heap.size + 2 ≤ U1.heap.size) (hN : Boxed U1 (w.heap.size + 1) 3 (.int .i64 m)) (hB2 : Below U1.heap.size U1 U2)
    (hO : OwnV U1.heap.size U2 (.slice (some ⟨g, 0, none⟩) n n) vs (rowsP n p)) : WayR w (U2.alloc (.cells #[.slice (some ⟨g, 0, none⟩) n n] 24)) m U2.heap.size g n vs p :=
  have hs := hB2.size
  have hN2 : Boxed U2 (w.heap.size + 1) 3 (.int .i64 m) := (hB2.block _ hN.lt).trans hN
  ⟨(hB.trans (hB2.mono hB.size)).alloc (by omega) _, hN2.alloc _, Boxed.new _ _ _, by omega, (hO.mono hz).below ((Below.refl _ _).alloc (Nat.le_refl _) _)⟩
theorem WayR.later {w U1 U2 : World} {m b g n : Nat} {vs : List Value} {p : Nat → Nat → Bool} (hB : Below w.heap.size w U1) (hN : Boxed U1 (w.heap.size + 1) 3 (.int .i64 m)) (hb : Boxed U1 b 24 (.slice none 0 0)) (hbb : w.heap.size + 2 ≤ b) (hB2 : Below U1.heap.size U1 U2)
    (hO : OwnV U1.heap.size U2 (.slice (some ⟨g, 0, none⟩) n n) vs (rowsP n p)) : WayR w (U2.setCell ⟨b, 0, none⟩ (.slice (some ⟨g, 0, none⟩) n n)) m b g n vs p :=
  have hlt := hb.lt
  have hs := hB2.size
  have hz : w.heap.size + 2 ≤ U1.heap.size := by omega
  have hb2 : Boxed U2 b 24 (.slice none 0 0) := (hB2.block _ hlt).trans hb
  ⟨(hB.trans (hB2.mono hB.size)).setCell (p := ⟨b, 0, none⟩) (by show w.heap.size ≤ b; omega) _,
    (Below.heap_setCell _ ⟨b, 0, none⟩ _ (w.heap.size + 1) (by show w.heap.size + 1 ≠ b; omega)).trans ((hB2.block _ hN.lt).trans hN),
    hb2.set _, hbb, (hO.set hlt 0 _).mono hz⟩
theorem WayR.grow {w : World} {β : Type} {m : β → Nat} {b g n : Nat} {vs : List Value} {p : β → Nat → Nat → Bool} {B : Nat} (hB : w.heap.size ≤ B) : OwnFrom B (fun s X => WayR w X (m s) b g n vs (p s)) := fun _ A C row h hg hr =>
  have hr2 : ∀ r, row = some r → ∃ o : Obj, A.heap[r]? = some o ∧ o.isCells = false := fun r e => (hr r e).2
  ⟨ownFrom_below (β := Unit) (Nat.le_refl _) hB () A C row h.below hg hr, boxed_own _ _ (fun (_ : Unit) => _) () A C row h.num hg hr2, boxed_own _ _ (fun (_ : Unit) => _) () A C row h.rows hg hr2, h.bb, h.own.kept hg fun r e => .inr (hr2 r e)⟩
/-- One entry taken away, and the number halved. -/
theorem WayR.cut {w X : World} {m b g n : Nat} {vs : List Value} {p : Nat → Nat → Bool} (h : WayR w X m b g n vs p) {x y : Nat} (hx : x < n) (hy : y < n) :
    ∃ r c, vs[x]? = some (.slice (some ⟨r, 0, none⟩) n c) ∧ X.cell? ⟨g, x, none⟩ = some (.slice (some ⟨r, 0, none⟩) n c) ∧ w.heap.size + 2 ≤ r ∧ (∃ u : Int, X.cell? ⟨r, y, none⟩ = some (.int .i64 u)) ∧ X.frozen? ⟨r, y, none⟩ = false ∧ r ≠ b ∧
      ∀ m' : Nat, WayR w ((X.setCell ⟨r, y, none⟩ (.int .i64 0)).setCell ⟨w.heap.size + 1, 0, none⟩ (.int .i64 m')) m' b g n vs (fun i j => p i j && !(x == i && y == j)) := by
  obtain ⟨r, c, h1, h2, h3, h4, h5, h6⟩ := h.own.row (rowsP_length _ _) (rowsP_get hx) (by simp; omega)
  simp only [List.length_map, List.length_range] at h1 h2 h4
  obtain ⟨u, hu⟩ := h4 y hy
  have hrb : r ≠ b := fun e => by
    subst e
    obtain ⟨u0, hu0⟩ := h4 0 (by omega)
    have := h.rows.cell
    rw [hu0] at this
    cases this
  refine ⟨r, c, h1, h2, h3, ⟨u, hu⟩, h5 y, hrb, fun m' => ?_⟩
  have hbb := h.bb
  have hn1 : Boxed (X.setCell ⟨r, y, none⟩ (.int .i64 0)) (w.heap.size + 1) 3 (.int .i64 m) := (Below.heap_setCell _ ⟨r, y, none⟩ _ (w.heap.size + 1) (by show w.heap.size + 1 ≠ r; omega)).trans h.num
  have hr1 : Boxed (X.setCell ⟨r, y, none⟩ (.int .i64 0)) b 24 (.slice (some ⟨g, 0, none⟩) n n) := (Below.heap_setCell _ ⟨r, y, none⟩ _ b (by show b ≠ r; omega)).trans h.rows
  have ho1 := h6 y 0
  rw [rowsP_clear hx hy] at ho1
  exact ⟨(h.below.setCell (p := ⟨r, y, none⟩) (by show w.heap.size ≤ r; omega) _).setCell (p := ⟨w.heap.size + 1, 0, none⟩) (by show w.heap.size ≤ w.heap.size + 1; omega) _, hn1.set _,
    (Below.heap_setCell _ ⟨w.heap.size + 1, 0, none⟩ _ b (by show b ≠ w.heap.size + 1; omega)).trans hr1, hbb, ho1.set (by omega) 0 _⟩

set_option maxRecDepth 100000 in
set_option maxHeartbeats 4000000 in
theorem way_C (a : Option Addr) (c : Nat) (G : List (List Int)) (z : Nat) (w : World) (hM : Mat w.heap.size w a G) (hG : Good G) (hz : z ≤ 1023) :
    Calls Try.prog 82 #[.agg #[.slice a G.length c], .int .i64 z] w (MadeS (rowsP G.length (owP G z)) w) := by
  have h1 : Fence.wide.fn 103 := trivial
  have hdd : ∀ k : Nat, (Fence.wide.depth.isSome = true → 1 ≤ k) := fun k h => by cases h
  have es : ∀ (W : World) (o : Obj), (W.alloc o).heap.size = W.heap.size + 1 := fun W o => by simp
  have hl9 := hG.2.1
  have HG := Lib.hid hG
  clear hG
  refine callsIn_wide.1 (callsIn_of_wp_marks (n := 20) Try.func82 rfl trivial ?_ rfl)
  simp only [Try.ntmps82, List.size_toArray, List.length_cons, List.length_nil, Nat.reduceAdd, Nat.reduceSub, Array.replicate_succ, Array.replicate_zero, List.push_toArray, List.append_toArray, List.nil_append, List.cons_append]
  gi_wp2_with fail
  rename_i K HR0
  have HRest := Lib.hid HR0
  clear HR0
  refine wpIn_wide.2 ?_
  have HNd : Hid (∀ W : World, Calls Try.prog 70 #[.agg #[.slice a G.length c]] W fun e w' => e = .returned (.int .i64 G.length) ∧ w' = W.alloc (.cells #[.slice a G.length c] 58)) := Lib.hid fun W => callsIn_wide.1 (nodes_in Fence.wide 20 (fun _ => trivial) rfl a G.length c W)
  have HRw : Hid (∀ W : World, Below w.heap.size w W → Calls Try.prog 69 #[.int .i64 G.length, .func (.func 72) #[.agg #[.slice a G.length c]] #[]] W fun e w' =>
      ∃ g, e = .returned (.slice (some ⟨g, 0, none⟩) G.length G.length) ∧ Below W.heap.size W w' ∧ ∃ vs, OwnV W.heap.size w' (.slice (some ⟨g, 0, none⟩) G.length G.length) vs (rowsP G.length (arw G))) := Lib.hid fun W hB => rowsM_in a c G w.heap.size W (hM.below hB) hB.size HG.out
  have bG := (Boxed.new w 58 (.slice a G.length c)).alloc (.cells #[.int .i64 z] 3)
  have bN := Boxed.new (w.alloc (.cells #[.slice a G.length c] 58)) 3 (.int .i64 z)
  rw [es] at bN
  have hB0 := ((Below.refl w.heap.size w).alloc (Nat.le_refl _) (.cells #[.slice a G.length c] 58)).alloc (by rw [es]; omega) (.cells #[.int .i64 z] 3)
  have hs0 : ((w.alloc (.cells #[.slice a G.length c] 58)).alloc (.cells #[.int .i64 z] 3)).heap.size = w.heap.size + 2 := by rw [es, es]
  obtain ⟨U, hU⟩ : ∃ U, (w.alloc (.cells #[.slice a G.length c] 58)).alloc (.cells #[.int .i64 z] 3) = U := ⟨_, rfl⟩
  rw [hU] at bG bN hB0 hs0 ⊢
  have hsU : w.heap.size + 2 ≤ U.heap.size := by omega
  have bG : Boxed U.drew w.heap.size 58 (.slice a G.length c) := bG
  have bN : Boxed U.drew (w.heap.size + 1) 3 (.int .i64 z) := bN
  have hB0 : Below w.heap.size w U.drew := hB0.drew
  have hsU : w.heap.size + 2 ≤ U.drew.heap.size := hsU
  clear hU hs0
  refine wp_mono (Q := fun e a' w' => e = .normal ∧ ∃ (b g : Nat) (vs : List Value), a' = { tmps := #[.agg #[.slice a G.length c], .int .i64 z, .pointer (some ⟨w.heap.size, 0, none⟩), .pointer (some ⟨w.heap.size + 1, 0, none⟩), .slice none 0 0, .pointer (some ⟨b, 0, none⟩), undef, undef, .agg #[.slice a G.length c], .int .i64 G.length, .agg #[.slice a G.length c], .func (.func 72) #[.agg #[.slice a G.length c]] #[], .slice (some ⟨g, 0, none⟩) G.length G.length, undef, undef, undef, undef, undef, undef, undef, undef, undef, undef, undef, undef, undef, undef, undef, undef, undef, undef, undef, undef, undef, undef], defers := [] } ∧ WayR w w' z b g G.length vs (arw G) ∧ Boxed w' w.heap.size 58 (.slice a G.length c)) ?first ?rest
  case first =>
    refine wp_region_held_drew (S := fun X => X.cell? ⟨w.heap.size, 0, none⟩ = some (.slice a G.length c)) (by kernel_rfl) bG.cell (fun hS0 => ?_)
    clear HRest
    refine wpAnyH_take (i := 0) (v := ?_) rfl (by kernel_rfl) (by kernel_rfl) (by kernel_rfl) (fun _ _ _ h => (by cases h.1)) (Or.inl ⟨by rfl, ?_⟩) hS0 ?_
    case refine_2 => rintro w s1; first | (go_simp; rfl) | go_simp
    simp only [Act.put, List.getElem_toArray, List.getElem_cons_zero, List.setIfInBounds_toArray, List.set_cons_zero, List.set_cons_succ]
    refine wpAnyH_take (i := 2) (v := ?_) rfl (by kernel_rfl) (by kernel_rfl) (by kernel_rfl) (fun _ _ _ h => (by cases h.1)) (Or.inl ⟨by rfl, ?_⟩) hS0 ?_
    case refine_2 => rintro w s1; first | (go_simp; rfl) | go_simp
    simp only [Act.put, List.getElem_toArray, List.getElem_cons_succ, List.getElem_cons_zero, List.setIfInBounds_toArray, List.set_cons_zero, List.set_cons_succ]
    refine wpAnyH_take (i := 3) (v := ?_) rfl (by kernel_rfl) (by kernel_rfl) (by kernel_rfl) (fun _ _ _ h => (by cases h.1)) (Or.inl ⟨by rfl, ?_⟩) hS0 ?_
    case refine_2 => rintro w s1; first | (go_simp; rfl) | go_simp
    simp only [Act.put, List.getElem_toArray, List.getElem_cons_succ, List.getElem_cons_zero, List.setIfInBounds_toArray, List.set_cons_zero, List.set_cons_succ]
    obtain ⟨V, hV⟩ : ∃ V, U.drew = V := ⟨_, rfl⟩
    rw [hV] at bG bN hB0 hsU hS0 ⊢
    clear hV hS0
    refine wpAnyH_ready (rs := [1, 5]) (by kernel_rfl) (by simp) ?_
    refine AllReadyH.cons rfl (fun K' hK => ?_) ?_
    · go_simp
      refine (HNd.out V).mono ?_
      rintro e w2 ⟨rfl, rfl⟩
      refine hK.out _ _ (bG.alloc _).cell (fun hS => ?_)
      clear hK K'
      replace hB0 := hB0.alloc (Nat.le_trans (Nat.le_add_right _ 2) hsU) (.cells #[.slice a G.length c] 58)
      replace bG := bG.alloc (.cells #[.slice a G.length c] 58)
      replace bN := bN.alloc (.cells #[.slice a G.length c] 58)
      skip
      replace hsU : w.heap.size + 2 ≤ (V.alloc (.cells #[.slice a G.length c] 58)).heap.size := by rw [es]; omega
      obtain ⟨V1, hV⟩ : ∃ X, V.alloc (.cells #[.slice a G.length c] 58) = X := ⟨_, rfl⟩
      rw [hV] at hB0 bG bN hsU ⊢
      clear hV hS
      refine wpAnyH_ready (rs := [4, 5]) (by kernel_rfl) (by simp) ?_
      refine AllReadyH.cons rfl (fun K' hK => ?_) ?_
      · go_simp
        refine (HRw.out V1 hB0).mono ?_
        rintro e w3 ⟨g, rfl, hB3, vs, hO⟩
        have bG3 : Boxed w3 w.heap.size 58 (.slice a G.length c) := (hB3.block _ bG.lt).trans bG
        refine hK.out _ _ bG3.cell (fun hS => ?_)
        clear hK K' hS
        refine wpAnyH_ready (rs := [5]) (by kernel_rfl) (by simp) ?_
        refine AllReadyH.cons rfl (fun K' hK => ?_) AllReadyH.nil
        go_simp
        refine hK.out _ _ (bG3.alloc _).cell (fun hS => ?_)
        clear hK K' hS
        refine wpAnyH_ready (rs := [6]) (by kernel_rfl) (by simp) ?_
        refine AllReadyH.cons rfl (fun K' hK => ?_) AllReadyH.nil
        go_simp
        refine hK.out _ _ (bG3.alloc _).cell (fun hS => ?_)
        refine wpAnyH_done (by kernel_rfl) ⟨rfl, _, _, _, rfl, WayR.first hB0 hsU bN hB3 hO, bG3.alloc _⟩ _
      refine AllReadyH.cons rfl (fun K' hK => ?_) AllReadyH.nil
      go_simp
      refine hK.out _ _ (bG.alloc _).cell (fun hS => ?_)
      clear hK K'
      replace hB0 := hB0.alloc (Nat.le_trans (Nat.le_add_right _ 2) hsU) (.cells #[.slice none 0 0] 24)
      replace bG := bG.alloc (.cells #[.slice none 0 0] 24)
      replace bN := bN.alloc (.cells #[.slice none 0 0] 24)
      have bB := Boxed.new V1 24 (.slice none 0 0)
      have hbb : w.heap.size + 2 ≤ V1.heap.size := hsU
      replace hsU : w.heap.size + 2 ≤ (V1.alloc (.cells #[.slice none 0 0] 24)).heap.size := by rw [es]; omega
      obtain ⟨bq, hbq⟩ : ∃ q, V1.heap.size = q := ⟨_, rfl⟩
      rw [hbq] at bB hbb ⊢
      obtain ⟨V2, hV⟩ : ∃ X, V1.alloc (.cells #[.slice none 0 0] 24) = X := ⟨_, rfl⟩
      rw [hV] at hB0 bG bN hsU bB ⊢
      clear hV hS hbq
      refine wpAnyH_ready (rs := [4]) (by kernel_rfl) (by simp) ?_
      refine AllReadyH.cons rfl (fun K' hK => ?_) AllReadyH.nil
      go_simp
      refine (HRw.out V2 hB0).mono ?_
      rintro e w3 ⟨g, rfl, hB3, vs, hO⟩
      have bG3 : Boxed w3 w.heap.size 58 (.slice a G.length c) := (hB3.block _ bG.lt).trans bG
      refine hK.out _ _ bG3.cell (fun hS => ?_)
      clear hK K' hS
      refine wpAnyH_ready (rs := [6]) (by kernel_rfl) (by simp) ?_
      refine AllReadyH.cons rfl (fun K' hK => ?_) AllReadyH.nil
      have bB3 : Boxed w3 bq 24 (.slice none 0 0) := (hB3.block _ bB.lt).trans bB
      have cB3 := bB3.cell
      have fB3 := bB3.frozen
      go_simp
      refine hK.out _ _ (show Boxed _ w.heap.size 58 (.slice a G.length c) from (Below.heap_setCell _ ⟨bq, 0, none⟩ _ w.heap.size (by show w.heap.size ≠ bq; omega)).trans bG3).cell (fun hS => ?_)
      refine wpAnyH_done (by kernel_rfl) ⟨rfl, _, _, _, rfl, WayR.later hB0 bN bB hbb hB3 hO, (Below.heap_setCell _ ⟨bq, 0, none⟩ _ w.heap.size (by show w.heap.size ≠ bq; omega)).trans bG3⟩ _
    refine AllReadyH.cons rfl (fun K' hK => ?_) AllReadyH.nil
    go_simp
    refine hK.out _ _ (bG.alloc _).cell (fun hS => ?_)
    clear hK K'
    replace hB0 := hB0.alloc (Nat.le_trans (Nat.le_add_right _ 2) hsU) (.cells #[.slice none 0 0] 24)
    replace bG := bG.alloc (.cells #[.slice none 0 0] 24)
    replace bN := bN.alloc (.cells #[.slice none 0 0] 24)
    have bB := Boxed.new V 24 (.slice none 0 0)
    have hbb : w.heap.size + 2 ≤ V.heap.size := hsU
    replace hsU : w.heap.size + 2 ≤ (V.alloc (.cells #[.slice none 0 0] 24)).heap.size := by rw [es]; omega
    obtain ⟨bq, hbq⟩ : ∃ q, V.heap.size = q := ⟨_, rfl⟩
    rw [hbq] at bB hbb ⊢
    obtain ⟨V1, hV⟩ : ∃ X, V.alloc (.cells #[.slice none 0 0] 24) = X := ⟨_, rfl⟩
    rw [hV] at hB0 bG bN hsU bB ⊢
    clear hV hS hbq
    refine wpAnyH_ready (rs := [1]) (by kernel_rfl) (by simp) ?_
    refine AllReadyH.cons rfl (fun K' hK => ?_) AllReadyH.nil
    go_simp
    refine (HNd.out V1).mono ?_
    rintro e w2 ⟨rfl, rfl⟩
    refine hK.out _ _ (bG.alloc _).cell (fun hS => ?_)
    clear hK K'
    replace hB0 := hB0.alloc (Nat.le_trans (Nat.le_add_right _ 2) hsU) (.cells #[.slice a G.length c] 58)
    replace bG := bG.alloc (.cells #[.slice a G.length c] 58)
    replace bN := bN.alloc (.cells #[.slice a G.length c] 58)
    replace bB := bB.alloc (.cells #[.slice a G.length c] 58)
    replace hsU : w.heap.size + 2 ≤ (V1.alloc (.cells #[.slice a G.length c] 58)).heap.size := by rw [es]; omega
    obtain ⟨V2, hV⟩ : ∃ X, V1.alloc (.cells #[.slice a G.length c] 58) = X := ⟨_, rfl⟩
    rw [hV] at hB0 bG bN hsU bB ⊢
    clear hV hS
    refine wpAnyH_ready (rs := [4]) (by kernel_rfl) (by simp) ?_
    refine AllReadyH.cons rfl (fun K' hK => ?_) AllReadyH.nil
    go_simp
    refine (HRw.out V2 hB0).mono ?_
    rintro e w3 ⟨g, rfl, hB3, vs, hO⟩
    have bG3 : Boxed w3 w.heap.size 58 (.slice a G.length c) := (hB3.block _ bG.lt).trans bG
    refine hK.out _ _ bG3.cell (fun hS => ?_)
    clear hK K' hS
    refine wpAnyH_ready (rs := [6]) (by kernel_rfl) (by simp) ?_
    refine AllReadyH.cons rfl (fun K' hK => ?_) AllReadyH.nil
    have bB3 : Boxed w3 bq 24 (.slice none 0 0) := (hB3.block _ bB.lt).trans bB
    have cB3 := bB3.cell
    have fB3 := bB3.frozen
    go_simp
    refine hK.out _ _ (show Boxed _ w.heap.size 58 (.slice a G.length c) from (Below.heap_setCell _ ⟨bq, 0, none⟩ _ w.heap.size (by show w.heap.size ≠ bq; omega)).trans bG3).cell (fun hS => ?_)
    refine wpAnyH_done (by kernel_rfl) ⟨rfl, _, _, _, rfl, WayR.later hB0 bN bB hbb hB3 hO, (Below.heap_setCell _ ⟨bq, 0, none⟩ _ w.heap.size (by show w.heap.size ≠ bq; omega)).trans bG3⟩ _
  case rest =>
    rintro e a' X ⟨rfl, b, g, vs, rfl, hR, bG⟩
    refine HRest.out _ _ ?_
    clear HRest
    have hws := hR.below.size
    have hMX := hM.below hR.below
    have hnX := hR.num.lt
    have cG := bG.cell
    have HLow : Hid (∀ (j r c : Nat), vs[j]? = some (.slice (some ⟨r, 0, none⟩) G.length c) → r < X.heap.size) := Lib.hid fun j r c hv => by
      obtain ⟨h1, h2, _⟩ := hR.own
      have hl : vs.length = (rowsP G.length (arw G)).length := by simpa using h1.1
      have hj : j < (rowsP G.length (arw G)).length := by rw [← hl]; exact (List.getElem?_eq_some_iff.1 hv).1
      exact ((h2 j _ _ hv (List.getElem?_eq_getElem hj)).lt r (by simp [Value.ownBlock])).2
    have HR := Lib.hid hR
    clear hR hM HNd HRw bN hB0 hsU
    gi_wp2_with ((try refine ⟨hdd _, ?_⟩); gi_at_call 103; refine (twoWays_in Fence.wide _ (fun _ => trivial) rfl _ _ _ _).mono ?_; rintro e w' ⟨rfl, rfl⟩)
    have bP := Boxed.new X 58 (.slice a G.length c)
    have HR2 := Lib.hid ((WayR.grow (w := w) (m := fun (_ : Unit) => z) (p := fun _ => arw G) (b := b) (g := g) (n := G.length) (vs := vs) (B := w.heap.size) (Nat.le_refl _)).alloc (s := ()) (.cells #[.slice a G.length c] 58) HR.out)
    have hMV := hMX.below ((Below.refl w.heap.size X).alloc hws (.cells #[.slice a G.length c] 58))
    have hsz : (X.alloc (.cells #[.slice a G.length c] 58)).heap.size = X.heap.size + 1 := es _ _
    obtain ⟨V, hV⟩ : ∃ V, X.alloc (.cells #[.slice a G.length c] 58) = V := ⟨_, rfl⟩
    rw [hV] at bP HR2 hMV hsz ⊢
    have hsz1 : V.heap.size ≤ X.heap.size + 1 := by omega
    have hsz2 : X.heap.size + 1 ≤ V.heap.size := by omega
    clear hV HR bG cG hMX hsz
    refine range_law rfl rfl (fun _ => trivial) (gf := 114) (lb := #[.pointer (some ⟨X.heap.size, 0, none⟩)]) rfl (enters_of Try.func114 (by kernel_rfl) rfl)
      (twoWays_X Fence.wide rfl (fun _ => trivial) rfl X.heap.size w.heap.size a c G HG.out (fun B => w.heap.size + 1 ≤ B ∧ B < X.heap.size) (V.heap.size + 2) V (by omega) (by omega) (fun B s => by omega) (fun B s => by omega) (by omega) bP hMV) (fun h k => KeepC.trans h k) (fun W' o o' h hc => KeepC.putObj _ (by omega) W' o o' h hc) (Below.refl _ _) (fun _ => rfl)
      (fun pre W' => WayR w W' (cutA (arw G) z pre).2 b g G.length vs (cutA (arw G) z pre).1)
      (fun _ _ _ => False)
      (WayR.grow (m := fun pre => (cutA (arw G) z pre).2) (p := fun pre => (cutA (arw G) z pre).1) (by omega))
      (fun _ _ _ _ _ hs _ _ => hs)
      HR2.out ?a1 ?assign ?body ?done ?stop
    case assign =>
      intro l2 x W' K hK
      gi_wp2
      exact hK
    case body =>
      rintro l2 pre ⟨⟨i, hi⟩, ⟨j, hj⟩⟩ W' hR _
      have HSn := Lib.hid (cutA_snoc (arw G) z pre ((⟨i, hi⟩ : Fin G.length), (⟨j, hj⟩ : Fin G.length)))
      obtain ⟨st, hst⟩ : ∃ st, cutA (arw G) z pre = st := ⟨_, rfl⟩
      have hq9 : st.2 ≤ 1023 := by rw [← hst]; exact Nat.le_trans (cutA_num _ _ _) hz
      rw [hst] at hR HSn
      obtain ⟨p, q⟩ := st
      have cN := hR.num.cell
      have cR := hR.rows.cell
      have hquo := quo_two q
      clear hst
      by_cases hd : q % 2 = 0
      · have hrem : Int.tmod (q : Int) 2 = 0 := by rw [rem_two, hd]; rfl
        have HC : Hid (cutP (p, q) ((⟨i, hi⟩ : Fin G.length), (⟨j, hj⟩ : Fin G.length)) = ((fun a b => p a b && !(j == a && i == b)), q / 2)) := Lib.hid (Prod.ext (cut_even hd) rfl)
        obtain ⟨r, cr, hvr, hcr, hrb, ⟨u, hu⟩, hfr, hrne, hcut⟩ := hR.cut hj hi
        have hrX := HLow.out _ _ _ hvr
        have cN2 : ∀ v, (W'.setCell ⟨r, i, none⟩ v).cell? ⟨w.heap.size + 1, 0, none⟩ = some (.int .i64 q) := fun v => (World.cell?_of_block (Below.heap_setCell W' ⟨r, i, none⟩ v (w.heap.size + 1) (by show w.heap.size + 1 ≠ r; omega))).trans cN
        have fN2 : ∀ v, (W'.setCell ⟨r, i, none⟩ v).frozen? ⟨w.heap.size + 1, 0, none⟩ = false := fun v => (show Boxed (W'.setCell ⟨r, i, none⟩ v) (w.heap.size + 1) 3 (.int .i64 q) from (Below.heap_setCell W' ⟨r, i, none⟩ v (w.heap.size + 1) (by show w.heap.size + 1 ≠ r; omega)).trans hR.num).frozen
        have HW := Lib.hid (hcut (q / 2))
        have hkf : KeepsFrom V.heap.size W' ((W'.setCell ⟨r, i, none⟩ (.int .i64 0)).setCell ⟨w.heap.size + 1, 0, none⟩ (.int .i64 ((q / 2 : Nat) : Int))) := ((KeepsOthers.setCell W' _ _).trans (KeepsOthers.setCell _ _ _)).from _
        have hkc : KeepC (fun B => w.heap.size + 1 ≤ B ∧ B < X.heap.size) (V.heap.size + 2) W' ((W'.setCell ⟨r, i, none⟩ (.int .i64 0)).setCell ⟨w.heap.size + 1, 0, none⟩ (.int .i64 ((q / 2 : Nat) : Int))) := (KeepC.setCell (S := fun B => w.heap.size + 1 ≤ B ∧ B < X.heap.size) _ W' (b := r) ⟨by omega, hrX⟩ i _).trans (KeepC.setCell (S := fun B => w.heap.size + 1 ≤ B ∧ B < X.heap.size) _ _ (b := w.heap.size + 1) ⟨by omega, by omega⟩ 0 _)
        clear hcut hvr hR
        gi_wp2
        rw [show (q : Int) / 2 = ((q / 2 : Nat) : Int) by omega]
        refine ⟨hkf, hkc, ?_⟩
        show WayR w _ (cutA (arw G) z (pre ++ [((⟨i, hi⟩ : Fin G.length), (⟨j, hj⟩ : Fin G.length))])).2 b g G.length vs (cutA (arw G) z (pre ++ [((⟨i, hi⟩ : Fin G.length), (⟨j, hj⟩ : Fin G.length))])).1
        rw [HSn.out, HC.out]
        exact HW.out
      · have hrem : Int.tmod (q : Int) 2 = 1 := by rw [rem_two, Nat.mod_two_ne_zero.1 hd]; rfl
        have HC : Hid (cutP (p, q) ((⟨i, hi⟩ : Fin G.length), (⟨j, hj⟩ : Fin G.length)) = ((fun a b => p a b && !(i == a && j == b)), q / 2)) := Lib.hid (Prod.ext (cut_odd hd) rfl)
        obtain ⟨r, cr, hvr, hcr, hrb, ⟨u, hu⟩, hfr, hrne, hcut⟩ := hR.cut hi hj
        have hrX := HLow.out _ _ _ hvr
        have cN2 : ∀ v, (W'.setCell ⟨r, j, none⟩ v).cell? ⟨w.heap.size + 1, 0, none⟩ = some (.int .i64 q) := fun v => (World.cell?_of_block (Below.heap_setCell W' ⟨r, j, none⟩ v (w.heap.size + 1) (by show w.heap.size + 1 ≠ r; omega))).trans cN
        have fN2 : ∀ v, (W'.setCell ⟨r, j, none⟩ v).frozen? ⟨w.heap.size + 1, 0, none⟩ = false := fun v => (show Boxed (W'.setCell ⟨r, j, none⟩ v) (w.heap.size + 1) 3 (.int .i64 q) from (Below.heap_setCell W' ⟨r, j, none⟩ v (w.heap.size + 1) (by show w.heap.size + 1 ≠ r; omega)).trans hR.num).frozen
        have HW := Lib.hid (hcut (q / 2))
        have hkf : KeepsFrom V.heap.size W' ((W'.setCell ⟨r, j, none⟩ (.int .i64 0)).setCell ⟨w.heap.size + 1, 0, none⟩ (.int .i64 ((q / 2 : Nat) : Int))) := ((KeepsOthers.setCell W' _ _).trans (KeepsOthers.setCell _ _ _)).from _
        have hkc : KeepC (fun B => w.heap.size + 1 ≤ B ∧ B < X.heap.size) (V.heap.size + 2) W' ((W'.setCell ⟨r, j, none⟩ (.int .i64 0)).setCell ⟨w.heap.size + 1, 0, none⟩ (.int .i64 ((q / 2 : Nat) : Int))) := (KeepC.setCell (S := fun B => w.heap.size + 1 ≤ B ∧ B < X.heap.size) _ W' (b := r) ⟨by omega, hrX⟩ j _).trans (KeepC.setCell (S := fun B => w.heap.size + 1 ≤ B ∧ B < X.heap.size) _ _ (b := w.heap.size + 1) ⟨by omega, by omega⟩ 0 _)
        clear hcut hvr hR
        gi_wp2
        rw [show (q : Int) / 2 = ((q / 2 : Nat) : Int) by omega]
        refine ⟨hkf, hkc, ?_⟩
        show WayR w _ (cutA (arw G) z (pre ++ [((⟨i, hi⟩ : Fin G.length), (⟨j, hj⟩ : Fin G.length))])).2 b g G.length vs (cutA (arw G) z (pre ++ [((⟨i, hi⟩ : Fin G.length), (⟨j, hj⟩ : Fin G.length))])).1
        rw [HSn.out, HC.out]
        exact HW.out
    case done =>
      rintro D ys W' hD rfl hR hK
      have cR := hR.rows.cell
      have HR3 := Lib.hid ((WayR.grow (w := w) (m := fun (_ : Unit) => (cutA (arw G) z (TL G)).2) (p := fun _ => (cutA (arw G) z (TL G)).1) (b := b) (g := g) (n := G.length) (vs := vs) (B := V.heap.size) (by omega)).putObj (s := ()) (.deferred none) hR hD hK rfl)
      have HAll := Lib.hid (cut_all G z)
      clear hR HR2
      gi_wp2
      refine ⟨by simp, .inl ⟨_, _, rfl, run_takeDeferred hK, ?_⟩⟩
      refine ⟨_, results_tmp rfl _ _ _, _, G.length, ⟨by rw [rowsP_length]; rfl, HR3.out.below⟩, ?_⟩
      have h3 := (HR3.out.own.mono (base' := w.heap.size) (by omega)).sep
      rw [HAll.out] at h3
      rw [rowsP_length]
      exact h3
    case stop =>
      rintro D c' pre W' _ _ hx _
      exact hx.elim
end Go.Proofs.Ytpcmenhchabgiaa

namespace Go.Proofs.Ytpcmenhchabgiaa
open Go.RowKit Go.Shelf Go.Deep

attribute [local go_sem] Oper.semAt_some

theorem matS_own {β : Type} (a : β → Option Addr) (xss : β → List (List Int)) : Own (fun s W => Mat W.heap.size W (a s) (xss s)) := fun s A C row h hg hr => (mat_own (β := Unit) A.heap.size (a s) (xss s) () A C row h hg hr).more hg.size

/-- A WAY: its number, and where it lies. -/
structure Way where
  num : Nat
  adr : Option Addr
  cap : Nat
def waysS (G : List (List Int)) (xs : List Way) : Prop := xs.map Way.num = List.range (2 ^ (TL G).length)
def waysP (G : List (List Int)) (xs : List Way) : Prop := xs.map Way.num <+: List.range (2 ^ (TL G).length)
def wayAt (G : List (List Int)) (x : Way) (W : World) : Prop := Mat W.heap.size W x.adr (rowsP G.length (owP G x.num))
theorem waysP_snoc {G : List (List Int)} {pre : List Way} {x : Way} (h : waysP G (pre ++ [x])) : x.num = pre.length ∧ pre.length < 2 ^ (TL G).length := by
  unfold waysP at h
  rw [List.map_append] at h
  have hl := h.length_le
  simp at hl
  have hlt : pre.length < 2 ^ (TL G).length := by omega
  obtain ⟨t, ht⟩ := h
  have := congrArg (fun l => l[pre.length]?) ht
  simp [hlt] at this
  exact ⟨this, hlt⟩
theorem waysP_next {G : List (List Int)} {pre : List Way} {x : Way} (h : pre.map Way.num = List.range pre.length) (hx : x.num = pre.length) (hlt : pre.length < 2 ^ (TL G).length) : waysP G (pre ++ [x]) ∧ (pre ++ [x]).map Way.num = List.range (pre ++ [x]).length := by
  have e : (pre ++ [x]).map Way.num = List.range (pre.length + 1) := by
    rw [List.map_append, h, List.range_succ]; simp [hx]
  refine ⟨?_, by rw [e]; simp⟩
  unfold waysP
  rw [e]
  refine ⟨(List.range (2 ^ (TL G).length)).drop (pre.length + 1), ?_⟩
  have : List.range (pre.length + 1) = (List.range (2 ^ (TL G).length)).take (pre.length + 1) := by rw [List.take_range]; congr 1; omega
  rw [this, List.take_append_drop]

set_option maxHeartbeats 1000000 in
theorem ways_in (n : Nat) (a : Option Addr) (m c : Nat) (w : World) :
    CallsIn Fence.wide n Try.prog 104 #[.agg #[.slice a m c]] w fun e w' => e = .returned (.func (.func 115) #[] #[.pointer (some ⟨w.heap.size, 0, none⟩)]) ∧ w' = w.alloc (.cells #[.slice a m c] 58) := by
  refine callsIn_of_wp Try.func104 rfl trivial ?_ rfl
  simp only [Try.ntmps104, List.size_toArray, List.length_cons, List.length_nil, Nat.reduceAdd, Nat.reduceSub, Array.replicate_succ, Array.replicate_zero, List.push_toArray, List.append_toArray, List.nil_append, List.cons_append]
  gi_wp2
  go_ret
  exact ⟨rfl, rfl⟩

theorem way_C2 (a : Option Addr) (c : Nat) (G : List (List Int)) (z : Nat) (w : World) (hM : Mat w.heap.size w a G) (hG : Good G) (hz : z ≤ 1023) :
    Calls Try.prog 82 #[.agg #[.slice a G.length c], .int .i64 z] w fun e w' => ∃ a2 c2, e = .returned (.slice a2 G.length c2) ∧ Below w.heap.size w w' ∧ wayAt G ⟨z, a2, c2⟩ w' := by
  refine (way_C a c G z w hM hG hz).mono ?_
  rintro e w' ⟨a2, c2, ⟨rfl, hB⟩, hO⟩
  exact ⟨a2, c2, by rw [rowsP_length], hB, hO.mat.mat⟩
theorem pow_six {k : Nat} (h : k ≤ 6) : 2 ^ k ≤ 64 := Nat.le_trans (Nat.pow_le_pow_right (by omega) h) (by decide)

set_option maxRecDepth 100000 in
set_option maxHeartbeats 4000000 in
theorem ways_Y (Bg n₀ : Nat) (a : Option Addr) (c : Nat) (G : List (List Int)) (hG : Good G) (h4 : G.length ≤ 4) (S : Nat → Prop) (T : Nat) (w : World)
    (hSg : ¬ S Bg) (hwT : w.heap.size ≤ T) (hSw : ∀ B, S B → B < w.heap.size) (hSn : ∀ B, S B → n₀ ≤ B) (hn₀ : n₀ ≤ w.heap.size) (bG0 : Boxed w Bg 58 (.slice a G.length c)) (hM0 : Mat n₀ w a G) :
    SeqY Fence.wide Try.prog 115 #[.pointer (some ⟨Bg, 0, none⟩)] (fun x : Way => #[.slice x.adr G.length x.cap]) T (fun _ => True) (wayAt G) (KeepC S T) (waysS G) (waysP G) T w := by
  intro l J Jx W hT hW hJ hJx hY h0
  subst hT
  have es : ∀ (W : World) (o : Obj), (W.alloc o).heap.size = W.heap.size + 1 := fun W o => by simp
  have bG : Boxed W Bg 58 (.slice a G.length c) := (hW.block Bg bG0.lt).trans bG0
  have hM : Mat n₀ W a G := hM0.below (hW.mono hn₀)
  have hl9 := hG.2.1
  have hWs := hW.size
  have HK6 := Lib.hid (TL_six h4)
  have HSS : Hid (∀ pre : List Way, pre.map Way.num = List.range pre.length → pre.length = 2 ^ (TL G).length → waysS G pre) := Lib.hid fun pre h1 h2 => by unfold waysS; rw [h1, h2]
  have HPP : Hid (∀ (pre : List Way) (x : Way), pre.map Way.num = List.range pre.length → x.num = pre.length → pre.length < 2 ^ (TL G).length → waysP G (pre ++ [x]) ∧ (pre ++ [x]).map Way.num = List.range (pre ++ [x]).length) := Lib.hid fun pre x h1 h2 h3 => waysP_next h1 h2 h3
  obtain ⟨K, hKe⟩ : ∃ K, (TL G).length = K := ⟨_, rfl⟩
  have HKe := Lib.hid hKe
  rw [hKe] at HK6 HSS HPP
  clear bG0 hM0 hW hKe
  have h1 : Fence.wide.fn 103 := trivial
  have hdd : ∀ k : Nat, (Fence.wide.depth.isSome = true → 1 ≤ k) := fun k h => by cases h
  have HY := Lib.hid hY
  have HJ := Lib.hid hJ
  have HJx := Lib.hid hJx
  have HSw := Lib.hid hSw
  have HSn := Lib.hid hSn
  have HSg := Lib.hid hSg
  have HJ0 := Lib.hid h0
  have HGd := Lib.hid hG
  clear hY hJ hJx hSw hSn hSg h0 hG
  refine callsIn_of_wp_marks Try.func115 rfl trivial ?_ rfl
  simp only [Try.ntmps115, List.size_toArray, List.length_cons, List.length_nil, Nat.reduceAdd, Nat.reduceSub, Array.replicate_succ, Array.replicate_zero, List.push_toArray, List.append_toArray, List.nil_append, List.cons_append]
  have cG := bG.cell
  have hBg := bG.lt
  have cG1 : ∀ o : Obj, (W.alloc o).cell? ⟨Bg, 0, none⟩ = some (.slice a G.length c) := fun o => (bG.alloc o).cell
  gi_wp2_with ((try refine ⟨hdd _, ?_⟩); gi_at_call 103; refine (twoWays_in Fence.wide _ (fun _ => trivial) rfl _ _ _ _).mono ?_; rintro e w' ⟨rfl, rfl⟩)
  have bC := (Boxed.new W 3 (.int .i64 1)).alloc (.cells #[.slice a G.length c] 58)
  have bP := Boxed.new (W.alloc (.cells #[.int .i64 1] 3)) 58 (.slice a G.length c)
  have bG2 := (bG.alloc (.cells #[.int .i64 1] 3)).alloc (.cells #[.slice a G.length c] 58)
  have hB3 := ((Below.refl W.heap.size W).alloc (Nat.le_refl _) (.cells #[.int .i64 1] 3)).alloc (by simp) (.cells #[.slice a G.length c] 58)
  have HJ3 := Lib.hid (OwnFrom.alloc HJ.out.1 (.cells #[.slice a G.length c] 58) (OwnFrom.alloc HJ.out.1 (.cells #[.int .i64 1] 3) HJ0.out))
  have hM3 := hM.below (hB3.mono (Nat.le_trans hn₀ hWs))
  rw [es] at bP
  have hsz : ((W.alloc (.cells #[.int .i64 1] 3)).alloc (.cells #[.slice a G.length c] 58)).heap.size = W.heap.size + 2 := by rw [es, es]
  obtain ⟨V, hV⟩ : ∃ V, (W.alloc (.cells #[.int .i64 1] 3)).alloc (.cells #[.slice a G.length c] 58) = V := ⟨_, rfl⟩
  rw [hV] at bC bP bG2 hB3 HJ3 hM3 hsz ⊢
  clear hV bG hM cG cG1
  refine range_law rfl rfl (fun _ => trivial) (gf := 114) (lb := #[.pointer (some ⟨W.heap.size + 1, 0, none⟩)]) rfl (enters_of Try.func114 (by kernel_rfl) rfl)
    (twoWays_X Fence.wide rfl (fun _ => trivial) rfl (W.heap.size + 1) n₀ a c G HGd.out (fun B => B = W.heap.size) (V.heap.size + 2) V (by omega) (by omega) (fun B s => by omega) (fun B s => by omega) (by omega) bP hM3) (fun h k => KeepC.trans h k) (fun W' o o' h hc => KeepC.putObj _ (by omega) W' o o' h hc) (Below.refl _ _) (fun _ => rfl)
    (fun pre W' => ((Hid (J [] W') ∧ Boxed W' W.heap.size 3 (.int .i64 ((2 ^ pre.length : Nat) : Int))) ∧ Boxed W' Bg 58 (.slice a G.length c)) ∧ Mat n₀ W' a G)
    (fun _ _ _ => False)
    (OwnFrom.and (OwnFrom.and (OwnFrom.and (fun s A B row hs hg hr => (OwnFrom.far HJ.out.1 (by omega)) _ A B row hs.out hg hr) (Own.from (boxed_own _ _ _) _)) (Own.from (boxed_own _ _ _) _)) (Own.from (mat_own _ _ _) _))
    (fun _ _ _ _ _ hs _ _ => hs)
    ⟨⟨⟨HJ3, bC⟩, bG2⟩, hM3⟩ ?a1 ?assign ?body ?done ?stop
  case assign =>
    intro l2 x W' K hK
    gi_wp2
    exact hK
  case body =>
    rintro l2 pre x W' ⟨⟨⟨HJp, bC'⟩, bG'⟩, hM'⟩ hlen
    have cC := bC'.cell
    have fC := bC'.frozen
    have hlen2 : pre.length ≤ 15 := by have : G.length * G.length ≤ 4 * 4 := Nat.mul_le_mul h4 h4; omega
    have hv : 2 ^ pre.length ≤ 32768 := Nat.le_trans (Nat.pow_le_pow_right (by omega) hlen2) (by decide)
    have HV : Hid (2 ^ (pre ++ [x]).length = 2 ^ pre.length * 2) := Lib.hid (by rw [List.length_append, List.length_singleton, Nat.pow_succ])
    obtain ⟨v, hvv⟩ : ∃ v, 2 ^ pre.length = v := ⟨_, rfl⟩
    rw [hvv] at cC hv HV bC'
    have HJs : Hid (J [] (W'.setCell ⟨W.heap.size, 0, none⟩ (.int .i64 ((v : Int) * 2)))) := Lib.hid (HJ.out.2 _ _ _ HJp.out (grownBy_setX W' W.heap.size 0 _) trivial)
    have hkc : KeepC (fun B => B = W.heap.size) (V.heap.size + 2) W' (W'.setCell ⟨W.heap.size, 0, none⟩ (.int .i64 ((v : Int) * 2))) := KeepC.setCell (S := fun B => B = W.heap.size) _ W' rfl 0 _
    have hbs := bC'.set (.int .i64 ((v : Int) * 2))
    have hgs := hkc.boxed (B := Bg) (by omega) bG'
    have hms := hM'.keepC hkc (fun B s => by omega)
    clear hvv hlen HJp
    gi_wp2
    refine ⟨(KeepsOthers.setCell _ _ _).from _, hkc, ⟨⟨HJs, ?_⟩, hgs⟩, hms⟩
    rw [HV.out, Int.natCast_mul]
    exact hbs
  case done =>
    rintro D ys W' hD rfl ⟨⟨⟨HJp, bC'⟩, bG'⟩, hM'⟩ hK
    rw [HKe.out] at bC'
    obtain ⟨N, hN⟩ : ∃ N, 2 ^ K = N := ⟨_, rfl⟩
    have hN64 : N ≤ 64 := by rw [← hN]; exact pow_six HK6.out
    rw [hN] at bC' HSS HPP
    have cC := bC'.cell
    have hsW : W.heap.size ≤ W'.heap.size := by have := bC'.lt; omega
    have hDW : W.heap.size ≤ D := by omega
    clear hN bC' HJ3 bC bP bG2 hB3 hM3 hD
    gi_wp2_with fail
    refine wpIn_loop (fun a₁ X => ∃ (k : Nat) (pre : List Way) (i u4 u13 u14 u15 u16 u17 u18 u19 u20 u21 : Value), k ≤ N ∧ i = .int .i64 k ∧ a₁ = { tmps := #[.func (.yield l) #[] #[], .pointer (some ⟨Bg, 0, none⟩), undef, .pointer (some ⟨W.heap.size, 0, none⟩), u4, .agg #[.slice a G.length c], .func (.func 114) #[] #[.pointer (some ⟨W.heap.size + 1, 0, none⟩)], undef, undef, undef, undef, .int .i64 N, i, u13, u14, u15, u16, u17, u18, u19, u20, u21], defers := [{ target := .collected D, args := #[] }] } ∧
        Hid (pre.map Way.num = List.range pre.length) ∧ Hid (pre.length = k) ∧ Hid (J pre X) ∧ Boxed X Bg 58 (.slice a G.length c) ∧ Mat n₀ X a G ∧ X.heap[D]? = some (.deferred (some [])) ∧ W.heap.size ≤ X.heap.size)
      (fun a₁ _ => N - (intOf (a₁.tmps.getD 12 undef)).toNat) ⟨0, [], _, _, _, _, _, _, _, _, _, _, _, Nat.zero_le _, rfl, rfl, Lib.hid rfl, Lib.hid rfl, HJp, bG', hM', hK, hsW⟩ ?_
    clear HJp bG' hM' hK hsW
    rintro _ wr ⟨k, pre, _, u4, u13, u14, u15, u16, u17, u18, u19, u20, u21, hk, rfl, rfl, HPr, HLn, HJk, bG', hM', hK, hsW⟩
    by_cases hlt : k < N
    · have cG' := bG'.cell
      have HWy := Lib.hid (way_C2 a c G k wr (hM'.more (by omega)) HGd.out (by omega))
      gi_wp2_with fail
      refine ⟨trivial, (callsIn_wide.2 HWy.out).mono ?_⟩
      rintro e w2 ⟨a2, c2, rfl, hB2, hAt⟩
      have hz2 := hB2.size
      have HJ2 : Hid (J pre w2) := Lib.hid (HJ.out.1 _ _ _ none HJk.out (grown_of_below hB2) (fun r e => by cases e))
      have bG2 : Boxed w2 Bg 58 (.slice a G.length c) := (hB2.block _ bG'.lt).trans bG'
      have hM2 : Mat n₀ w2 a G := hM'.below (hB2.mono (by omega))
      have hK2 : w2.heap[D]? = some (.deferred (some [])) := (hB2.block _ (Array.getElem?_eq_some_iff.1 hK).1).trans hK
      obtain ⟨hSp, hNx⟩ := HPP.out pre ⟨k, a2, c2⟩ HPr.out HLn.out.symm (by rw [HLn.out]; exact hlt)
      obtain ⟨fn, tmps, assign, body, hy, hR⟩ := HY.out 0 pre ⟨k, a2, c2⟩ w2 HJ2.out hSp hAt
      dsimp only at hy
      have HR := Lib.hid hR
      have HNx := Lib.hid hNx
      have HSp := Lib.hid hSp
      clear hR hNx hSp hAt hB2 hM' bG' hK HJk cG' HWy
      gi_wp2_with ((try refine ⟨hdd _, ?_⟩); refine HR.out.mono ?_; clear HR; rintro e W3 (⟨rfl, hJ3, hk3⟩ | ⟨rfl, hJx3, hkf3⟩))
      · have bG3 := hk3.boxed HSg.out bG2
        have hM3 := hM2.keepC hk3 HSn.out
        have hK3 := hk3.2 D _ (fun s => by have := HSw.out D s; omega) hK2 (.inr hDW)
        have hz3 : W.heap.size ≤ W3.heap.size := Nat.le_trans (Nat.le_trans hsW hz2) hk3.1
        have HJ4 := Lib.hid hJ3
        clear hJ3 hk3
        gi_wp2
        refine ⟨⟨k + 1, pre ++ [⟨k, a2, c2⟩], _, _, _, _, _, _, _, _, _, _, _, by omega, by go_num, rfl, HNx, Lib.hid (by rw [List.length_append, HLn.out]; rfl), HJ4, bG3, hM3, hK3, hz3⟩, ?_⟩
        simp [intOf]; omega
      · have hK3 := hkf3.same D _ hDW hK2 rfl
        have HX4 := Lib.hid hJx3
        clear hJx3 hkf3
        gi_wp2
        refine ⟨by simp, .inl ⟨_, _, rfl, run_takeDeferred hK3, ?_⟩⟩
        refine ⟨_, results_none rfl _ _ _, ⟨_, rfl⟩, .inr ⟨_, HSp.out, OwnFrom.putObj HJx.out.1 _ HX4.out hDW hK3 rfl⟩⟩
    · obtain rfl : k = N := by omega
      gi_wp2
      refine ⟨by simp, .inl ⟨_, _, rfl, run_takeDeferred hK, ?_⟩⟩
      refine ⟨_, results_none rfl _ _ _, ⟨_, rfl⟩, .inl ⟨pre, HSS.out pre HPr.out HLn.out, OwnFrom.putObj HJ.out.1 _ HJk.out hDW hK rfl⟩⟩
  case stop =>
    rintro D c' pre W' _ _ hx _
    exact hx.elim

end Go.Proofs.Ytpcmenhchabgiaa

namespace Go.Proofs.Ytpcmenhchabgiaa
open Go.RowKit Go.Shelf Go.Deep

attribute [local go_sem] Oper.semAt_some

set_option maxHeartbeats 1000000 in
theorem who1_in (i j : Nat) (W : World) :
    CallsIn Fence.wide 20 Try.prog 57 (#[.int .i64 (i : Int), .int .i64 (j : Int)] ++ #[]) W (Ans (.bool ((fun i j => !(j == i)) i j)) W) := by
  refine callsIn_wide.2 (?_ : Calls Try.prog 57 #[.int .i64 (i : Int), .int .i64 (j : Int)] W (Ans (.bool ((fun i j => !(j == i)) i j)) W))
  go_enter Try.func57, Try.ntmps57
  go_wp2
  go_ret
  exact ⟨ret_bool (by rw [Bool.eq_iff_iff]; simp; omega), Below.refl _ _⟩

set_option maxRecDepth 100000 in
set_option maxHeartbeats 1000000 in
theorem implWho (z : Int) (w : World) :
    Calls Try.prog 18 #[.int .i64 z] w (MadeS (whoI z) w) := by
  by_cases h : 1 ≤ z ∧ z ≤ 9
  · obtain ⟨n, rfl⟩ : ∃ n : Nat, z = (n : Int) := ⟨z.toNat, by omega⟩
    replace h : 1 ≤ n ∧ n ≤ 9 := by omega
    rw [whoI_yes h.1 h.2]
    have HF := Lib.hid (who_good h.1 h.2).fit
    have HC := Lib.hid (graphBy_yes 57 #[] (fun i j => !(j == i)) n h.1 h.2 w (enters_of Try.func57 (by kernel_rfl) rfl) (fun W' i j _ _ _ => who1_in i j W'))
    clear h
    go_enter Try.func18, Try.ntmps18
    go_wp2_with fail
    refine HC.out.mono ?_
    rintro e w2 ⟨a2, c2, ⟨rfl, hB2⟩, hO2⟩
    have HO := Lib.hid hO2
    clear hO2 HC
    go_wp2_with fail
    go_ret
    exact ⟨a2, c2, ⟨rfl, hB2⟩, OwnR.sep HO.out HF.out⟩
  · rw [whoI_no h]
    have HC := Lib.hid (graphBy_no z h (.func (.func 57) #[] #[]) w)
    clear h
    go_enter Try.func18, Try.ntmps18
    go_wp2_with fail
    refine HC.out.mono ?_
    rintro e w2 ⟨a2, c2, ⟨rfl, hB2⟩, hO2⟩
    have HO := Lib.hid hO2
    clear hO2 HC
    go_wp2_with fail
    go_ret
    exact ⟨a2, c2, ⟨rfl, hB2⟩, OwnR.sep HO.out fit_nilQ⟩

theorem who_fit (z : Int) : Fit (whoI z) := by
  by_cases h : 1 ≤ z ∧ z ≤ 9
  · obtain ⟨n, rfl⟩ : ∃ n : Nat, z = (n : Int) := ⟨z.toNat, by omega⟩
    rw [whoI_yes (by omega) (by omega)]
    exact (who_good (by omega) (by omega)).fit
  · rw [whoI_no h]; exact fit_nilQ
theorem gOk_none : gOk ([] : List (List Int)) = false := by
  rw [Bool.eq_false_iff]; intro h
  have := (good_of h).1
  simp at this
theorem col_who (G : List (List Int)) (z : Int) (f : List Int) : mapOkI G (whoI z) f = colOkI G z f := by
  by_cases h : 1 ≤ z ∧ z ≤ 9
  · obtain ⟨n, rfl⟩ : ∃ n : Nat, z = (n : Int) := ⟨z.toNat, by omega⟩
    have hm : modK (n : Int) = true := by unfold modK; simp; omega
    unfold colOkI
    rw [whoI_yes (by omega) (by omega), hm, Int.toNat_natCast]; rfl
  · have hm : modK z = false := by rw [Bool.eq_false_iff]; intro e; unfold modK at e; simp at e; exact h e
    rw [whoI_no h, col_no hm, Bool.eq_false_iff]
    intro e
    have := (mapOk_iff.1 e).1.2
    rw [gOk_none] at this; cases this
theorem coc_who {G : List (List Int)} {z : Int} (h4 : z ≤ 4) (h5 : G.length ≤ 5) : countI G (whoI z) = cocI G z := by
  cases hk : cocK G z with
  | true =>
    obtain ⟨_, h1, _⟩ := cocK_iff.1 hk
    obtain ⟨n, rfl⟩ : ∃ n : Nat, z = (n : Int) := ⟨z.toNat, by omega⟩
    rw [coc_z hk, whoI_yes (by omega) (by omega), Int.toNat_natCast]
  | false =>
    rw [coc_no hk]
    refine countI_no ?_
    by_cases h1 : 1 ≤ z
    · refine few_no1 ?_
      rw [Bool.eq_false_iff]; intro e
      have := cocK_iff.2 ⟨g5_iff.2 ⟨e, h5⟩, h1, h4⟩
      rw [hk] at this; cases this
    · exact few_no2 (by rw [whoI_no (by omega)]; exact gOk_none)
theorem coc_big {G : List (List Int)} {z : Int} (h : ¬ (z ≤ 4 ∧ G.length ≤ 5)) : cocI G z = -1 := by
  refine coc_no ?_
  rw [Bool.eq_false_iff]; intro e
  obtain ⟨h5, _, h4⟩ := cocK_iff.1 e
  exact h ⟨h4, (g5_iff.1 h5).2⟩

set_option maxRecDepth 100000 in
set_option maxHeartbeats 1000000 in
theorem implCol (a a' : Option Addr) (c c' : Nat) (G : List (List Int)) (z : Int) (f : List Int) (w : World) (hM : Mat w.heap.size w a G) (hI : Ints w.heap.size w a' f) (hF : Fit G) (hl : f.length ≤ 1048576) :
    Calls Try.prog 27 #[.slice a G.length c, .int .i64 z, .slice a' f.length c'] w (Ans (.bool (colOkI G z f)) w) := by
  have HW := Lib.hid (implWho z w)
  have HO : Hid (∀ (w2 : World) (a2 : Option Addr) (c2 : Nat), Below w.heap.size w w2 → OwnSep w.heap.size w2 (.slice a2 (whoI z).length c2) (whoI z) → Calls Try.prog 40 #[.slice a G.length c, .slice a2 (whoI z).length c2, .slice a' f.length c'] w2 (Ans (.bool (colOkI G z f)) w2)) := Lib.hid fun w2 a2 c2 hB hO => by
    have := implMapOk a c a2 c2 a' c' G (whoI z) f w2 ((hM.below hB).more hB.size) hO.mat.mat ((hI.below hB).more hB.size) hF (who_fit z) hl
    rwa [col_who] at this
  clear hM hI hF hl
  go_enter Try.func27, Try.ntmps27
  go_wp2_with fail
  refine HW.out.mono ?_
  rintro e w2 ⟨a2, c2, ⟨rfl, hB2⟩, hO2⟩
  have HC := Lib.hid (HO.out w2 a2 c2 hB2 hO2)
  have hsz := hB2.size
  have HB2 := Lib.hid hB2
  clear hO2 HO HW hB2
  go_wp2_with fail
  refine HC.out.mono ?_
  rintro e w3 ⟨rfl, hB3⟩
  go_wp2_with fail
  go_ret
  exact ⟨rfl, HB2.out.trans (hB3.mono hsz)⟩

set_option maxRecDepth 100000 in
set_option maxHeartbeats 1000000 in
theorem implCoc (a : Option Addr) (c : Nat) (G : List (List Int)) (z : Int) (w : World) (hM : Mat w.heap.size w a G) (hF : Fit G) :
    Calls Try.prog 32 #[.slice a G.length c, .int .i64 z] w (Ans (.int .i64 (cocI G z)) w) := by
  have hlf := hF.1
  by_cases h4 : z ≤ 4
  · have d1 : decide (4 < z) = false := decide_eq_false (by omega)
    by_cases h5 : G.length ≤ 5
    · have d2 : decide (5 < (G.length : Int)) = false := decide_eq_false (by omega)
      have HW := Lib.hid (implWho z w)
      have HO : Hid (∀ (w2 : World) (a2 : Option Addr) (c2 : Nat), Below w.heap.size w w2 → OwnSep w.heap.size w2 (.slice a2 (whoI z).length c2) (whoI z) → Calls Try.prog 73 #[.slice a G.length c, .slice a2 (whoI z).length c2] w2 (Ans (.int .i64 (cocI G z)) w2)) := Lib.hid fun w2 a2 c2 hB hO => by
        have := implCount a c a2 c2 G (whoI z) w2 ((hM.below hB).more hB.size) hO.mat.mat hF (who_fit z)
        rwa [coc_who h4 h5] at this
      clear hM hF h4 h5
      go_enter Try.func32, Try.ntmps32
      go_wp2_with fail
      refine HW.out.mono ?_
      rintro e w2 ⟨a2, c2, ⟨rfl, hB2⟩, hO2⟩
      have HC := Lib.hid (HO.out w2 a2 c2 hB2 hO2)
      have hsz := hB2.size
      have HB2 := Lib.hid hB2
      clear hO2 HO HW hB2
      go_wp2_with fail
      refine HC.out.mono ?_
      rintro e w3 ⟨rfl, hB3⟩
      go_wp2_with fail
      go_ret
      exact ⟨rfl, HB2.out.trans (hB3.mono hsz)⟩
    · have d2 : decide (5 < (G.length : Int)) = true := decide_eq_true (by omega)
      rw [coc_big (fun h => h5 h.2)]
      clear h5 h4 hM hF
      go_enter Try.func32, Try.ntmps32
      go_wp2_with fail
      go_ret
      exact ⟨rfl, Below.refl _ _⟩
  · have d1 : decide (4 < z) = true := decide_eq_true (by omega)
    rw [coc_big (fun h => h4 h.1)]
    clear h4 hM hF
    go_enter Try.func32, Try.ntmps32
    go_wp2_with fail
    go_ret
    exact ⟨rfl, Below.refl _ _⟩

set_option maxHeartbeats 1000000 in
theorem told_in (a : Option Addr) (c : Nat) (G : List (List Int)) (w : World) (hM : Mat w.heap.size w a G) (hF : Fit G) :
    Calls Try.prog 59 #[.slice a G.length c] w (Ans (.bool (g4 G)) w) := by
  have HOk := Lib.hid (implOk a c G w hM hF)
  have hlf := hF.1
  cases hg : gOk G with
  | true =>
    rw [hg] at HOk
    by_cases h4 : G.length ≤ 4
    · have d2 : decide ((G.length : Int) ≤ 4) = true := decide_eq_true (by omega)
      rw [g4_iff.2 ⟨hg, h4⟩]
      clear hM hF hg h4
      go_enter Try.func59, Try.ntmps59
      go_wp2_with fail
      refine HOk.out.mono ?_
      rintro e w2 ⟨rfl, hB2⟩
      go_wp2_with fail
      go_ret
      exact ⟨rfl, hB2⟩
    · have d2 : decide ((G.length : Int) ≤ 4) = false := decide_eq_false (by omega)
      have hn : g4 G = false := by rw [Bool.eq_false_iff]; intro e; exact h4 (g4_iff.1 e).2
      rw [hn]
      clear hM hF hg h4
      go_enter Try.func59, Try.ntmps59
      go_wp2_with fail
      refine HOk.out.mono ?_
      rintro e w2 ⟨rfl, hB2⟩
      go_wp2_with fail
      go_ret
      exact ⟨rfl, hB2⟩
  | false =>
    rw [hg] at HOk
    have hn : g4 G = false := by unfold g4; rw [hg]; rfl
    rw [hn]
    clear hM hF hg
    go_enter Try.func59, Try.ntmps59
    go_wp2_with fail
    refine HOk.out.mono ?_
    rintro e w2 ⟨rfl, hB2⟩
    go_wp2_with fail
    go_ret
    exact ⟨rfl, hB2⟩

theorem fw_atH {G : List (List Int)} {k : Nat} (h1 : 1 ≤ k) (h4 : k ≤ 4) (hp : 0 < cocI G ((k : Nat) : Int)) (hl : ∀ n, 1 ≤ n → n < k → cocI G ((n : Nat) : Int) ≤ 0) : fwO G = some k := by
  cases e : fwO G with
  | none => exact absurd hp (fw_none e h1 h4)
  | some m =>
    have h2 := fw_least e h1 hp
    obtain ⟨hb, hm⟩ := fw_some e
    by_cases hlt : m < k
    · have := hl m hb.1 hlt; omega
    · rw [show m = k by omega]
theorem fw_void {G : List (List Int)} (hl : ∀ n, 1 ≤ n → n < 5 → cocI G ((n : Nat) : Int) ≤ 0) : fwO G = none := by
  cases e : fwO G with
  | none => rfl
  | some m =>
    obtain ⟨hb, hm⟩ := fw_some e
    have := hl m hb.1 (by omega); omega

set_option maxRecDepth 100000 in
set_option maxHeartbeats 1000000 in
theorem implFwst (a : Option Addr) (c : Nat) (G : List (List Int)) (w : World) (hM : Mat w.heap.size w a G) (hF : Fit G) :
    Calls Try.prog 22 #[.slice a G.length c] w (Ans (.tuple #[.int .i64 (fwI G), .bool (fwK G)]) w) := by
  have HT := Lib.hid (told_in a c G w hM hF)
  cases hg : g4 G with
  | false =>
    have hk : fwK G = false := by unfold fwK; rw [hg]; rfl
    rw [hg] at HT
    rw [fw_noI hk, hk]
    clear hM hF hg hk
    go_enter Try.func22, Try.ntmps22
    go_wp2_with fail
    refine HT.out.mono ?_
    rintro e w2 ⟨rfl, hB2⟩
    go_wp2_with fail
    go_ret2
    exact ⟨rfl, hB2⟩
  | true =>
    rw [hg] at HT
    have HY : Hid (∀ n : Nat, fwO G = some n → fwI G = n ∧ fwK G = true) := Lib.hid fun n e => fw_yesI hg e
    have HN : Hid (fwO G = none → fwI G = -1 ∧ fwK G = false) := Lib.hid fun e => by
      have hk : fwK G = false := by unfold fwK; rw [e]; simp
      exact ⟨fw_noI hk, hk⟩
    obtain ⟨q, HQ⟩ : ∃ q, Hid (Value.tuple #[.int .i64 (fwI G), .bool (fwK G)] = q) := ⟨_, rfl⟩
    rw [HQ.out]
    have HCo : Hid (∀ (z : Int) (w1 : World), Below w.heap.size w w1 → Calls Try.prog 32 #[.slice a G.length c, .int .i64 z] w1 (Ans (.int .i64 (cocI G z)) w1)) := Lib.hid fun z w1 hB => implCoc a c G z w1 ((hM.below hB).more hB.size) hF
    clear hM hF hg
    go_enter Try.func22, Try.ntmps22
    go_wp2_with fail
    refine HT.out.mono ?_
    rintro e w2 ⟨rfl, hB2⟩
    go_wp2_with fail
    go_loopw [4] (fun i wr => ∃ k : Nat, 1 ≤ k ∧ k ≤ 5 ∧ i = .int .i64 k ∧ Hid (∀ n, 1 ≤ n → n < k → cocI G ((n : Nat) : Int) ≤ 0) ∧ Below w.heap.size w wr) (fun i _ => 5 - (intOf i).toNat)
    case atStart => exact ⟨1, by omega, by omega, rfl, Lib.hid (fun n h1 h2 => by omega), hB2⟩
    case round =>
      obtain ⟨k, hk1, hk5, rfl, HL, hB⟩ := hrel
      by_cases hlt : k < 5
      · have hk4 : k ≤ 4 := by omega
        have HCk := Lib.hid (HCo.out (k : Int) wr hB)
        obtain ⟨v, HV⟩ : ∃ v, Hid (cocI G (k : Int) = v) := ⟨_, rfl⟩
        rw [HV.out] at HCk
        go_wp2_with fail
        refine HCk.out.mono ?_
        rintro e w3 ⟨rfl, hB3⟩
        have hB4 := hB.trans (hB3.mono hB.size)
        by_cases hv : 0 < v
        · have dv : decide (0 < v) = true := decide_eq_true hv
          have HE : Hid (Value.tuple #[.int .i64 (k : Int), .bool true] = q) := Lib.hid (by
            obtain ⟨e1, e2⟩ := HY.out k (fw_atH hk1 hk4 (by rw [HV.out]; exact hv) HL.out)
            rw [← HQ.out, e1, e2])
          clear hB hB3 hB2 hv
          go_wp2_with fail
          go_ret2
          exact ⟨congrArg Ending.returned HE.out, hB4⟩
        · have dv : decide (0 < v) = false := decide_eq_false hv
          have HL2 : Hid (∀ n, 1 ≤ n → n < k + 1 → cocI G ((n : Nat) : Int) ≤ 0) := Lib.hid fun n h1 h2 => by
            by_cases e : n = k
            · subst e; rw [HV.out]; omega
            · exact HL.out n h1 (by omega)
          clear hB hB3 hB2 hv
          go_wp2_with fail
          go_roundw
          case rel => exact ⟨k + 1, by omega, by omega, by go_num, HL2, hB4⟩
          case measure => simp [intOf]; omega
      · obtain rfl : k = 5 := by omega
        have HE : Hid (Value.tuple #[.int .i64 (-1), .bool false] = q) := Lib.hid (by
          obtain ⟨e1, e2⟩ := HN.out (fw_void HL.out)
          rw [← HQ.out, e1, e2])
        go_wp2_with fail
        go_ret2
        exact ⟨congrArg Ending.returned HE.out, hB⟩

set_option maxHeartbeats 1000000 in
theorem bw1_in (n₀ B : Nat) (a : Option Addr) (c : Nat) (G : List (List Int)) (W : World) (hM : Mat n₀ W a G) (hn : n₀ ≤ W.heap.size) (hB : Boxed W B 58 (.slice a G.length c)) (hG : Good G) (i j : Nat) (hi : i < G.length) (hj : j < G.length) :
    CallsIn Fence.wide 20 Try.prog 71 #[.int .i64 i, .int .i64 j, .pointer (some ⟨B, 0, none⟩)] W (Ans (.bool (bwP G i j)) W) := by
  refine callsIn_wide.2 ?_
  have cB := hB.cell
  have cB2 : ∀ o : Obj, (W.alloc o).cell? ⟨B, 0, none⟩ = some (.slice a G.length c) := fun o => (hB.alloc o).cell
  have H1 := Lib.hid (callsIn_wide.1 (arrow_in Fence.wide 20 (fun _ => trivial) rfl n₀ a c G W hM hn hG i j hi hj))
  have hB1 := (Below.refl W.heap.size W).alloc (Nat.le_refl _) (.cells #[.slice a G.length c] 58)
  have hz1 := hB1.size
  have H2 := Lib.hid (callsIn_wide.1 (arrow_in Fence.wide 20 (fun _ => trivial) rfl n₀ a c G (W.alloc (.cells #[.slice a G.length c] 58)) (hM.below (hB1.mono hn)) (Nat.le_trans hn hz1) hG j i hj hi))
  obtain ⟨x, hx⟩ : ∃ x, arw G i j = x := ⟨_, rfl⟩
  obtain ⟨y, hy⟩ : ∃ y, arw G j i = y := ⟨_, rfl⟩
  have hxy : bwP G i j = (x || y) := by unfold bwP; rw [hx, hy]
  rw [hxy]
  rw [hx] at H1
  rw [hy] at H2
  clear hx hy hxy hM hB
  go_enter Try.func71, Try.ntmps71
  go_wp2_with fail
  refine H1.out.mono ?_
  rintro e w2 ⟨rfl, rfl⟩
  cases x with
  | true =>
    go_wp2_with fail
    go_ret
    exact ⟨rfl, hB1⟩
  | false =>
    go_wp2_with fail
    refine H2.out.mono ?_
    rintro e w3 ⟨rfl, rfl⟩
    go_wp2_with fail
    go_ret
    exact ⟨rfl, hB1.alloc hz1 _⟩

set_option maxRecDepth 100000 in
set_option maxHeartbeats 1000000 in
theorem implBw (a : Option Addr) (c : Nat) (G : List (List Int)) (w : World) (hM : Mat w.heap.size w a G) (hF : Fit G) :
    Calls Try.prog 30 #[.slice a G.length c] w (MadeS (bwL G) w) := by
  have HOk := Lib.hid (implOk a c G w hM hF)
  have es : ∀ (W : World) (o : Obj), (W.alloc o).heap.size = W.heap.size + 1 := fun W o => by simp
  cases hg : gOk G with
  | false =>
    rw [hg] at HOk
    rw [bw_no hg]
    clear hM hF hg
    go_enter Try.func30, Try.ntmps30
    go_wp2_with fail
    refine HOk.out.mono ?_
    rintro e w2 ⟨rfl, hB2⟩
    go_wp2_with fail
    go_ret
    exact ⟨none, 0, ⟨rfl, hB2⟩, OwnSep.nil _ _⟩
  | true =>
    rw [hg] at HOk
    have HG := Lib.hid (good_of hg)
    have hl9 := HG.out.2.1
    have HFB := Lib.hid (bw_good hg).fit
    rw [bw_yes hg] at HFB ⊢
    have HR : Hid (∀ (V : World) (B : Nat), Below w.heap.size w V → Boxed V B 58 (.slice a G.length c) → Calls Try.prog 69 #[.int .i64 G.length, .func (.func 71) #[] #[.pointer (some ⟨B, 0, none⟩)]] V (MadeM V G.length (bwP G))) := Lib.hid fun V B hB hb =>
      callsIn_wide.1 (rowsBy_in Fence.wide rfl (fun _ => trivial) rfl 71 #[.pointer (some ⟨B, 0, none⟩)] (bwP G) G.length hl9 V (enters_of Try.func71 (by kernel_rfl) rfl)
        (fun W' i j hb2 hi hj => bw1_in w.heap.size B a c G W' (hM.below (hB.trans (hb2.mono hB.size))) (Nat.le_trans hB.size hb2.size) ((hb2.block _ hb.lt).trans hb) HG.out i j hi hj))
    have HNd : Hid (∀ W : World, Calls Try.prog 70 #[.agg #[.slice a G.length c]] W fun e w' => e = .returned (.int .i64 G.length) ∧ w' = W.alloc (.cells #[.slice a G.length c] 58)) := Lib.hid fun W => callsIn_wide.1 (nodes_in Fence.wide 20 (fun _ => trivial) rfl a G.length c W)
    clear hM hF hg
    go_enter Try.func30, Try.ntmps30
    go_wp2_with fail
    refine HOk.out.mono ?_
    rintro e w1 ⟨rfl, hB1⟩
    have hz1 := hB1.size
    have bB := (Boxed.new w1 58 (.slice a G.length c)).alloc (.cells #[.slice a G.length c] 58)
    have hB2 := (hB1.alloc hz1 (.cells #[.slice a G.length c] 58)).alloc (by rw [es]; omega) (.cells #[.slice a G.length c] 58)
    go_wp2_with fail
    refine (HNd.out _).mono ?_
    rintro e w2 ⟨rfl, rfl⟩
    obtain ⟨V, hV⟩ : ∃ V, (w1.alloc (.cells #[.slice a G.length c] 58)).alloc (.cells #[.slice a G.length c] 58) = V := ⟨_, rfl⟩
    rw [hV] at hB2 bB ⊢
    have HRv := Lib.hid (HR.out _ _ hB2 bB)
    have hz2 := hB2.size
    have HB2 := Lib.hid hB2
    clear HR hB1 hB2 HNd HOk bB hV
    go_wp2_with fail
    refine HRv.out.mono ?_
    rintro e w3 ⟨rfl, hB3, hO⟩
    have HO := Lib.hid hO
    have HB := Lib.hid (HB2.out.trans (hB3.mono hz2))
    have hl := rowsP_length G.length (bwP G)
    clear hO hB3 HRv
    go_wp2_with fail
    go_ret
    exact ⟨_, G.length, ⟨by rw [hl]; rfl, HB.out⟩, OwnR.sep (.inr ⟨V.heap.size + 1, fun i => V.heap.size + 3 + i, rfl, hl.symm, HO.out, by omega, fun i _ => by show w.heap.size ≤ V.heap.size + 3 + i; omega, fun i j h => by have h' : V.heap.size + 3 + i = V.heap.size + 3 + j := h; omega⟩) HFB.out⟩

set_option maxRecDepth 100000 in
set_option maxHeartbeats 1000000 in
theorem implOw (a : Option Addr) (c : Nat) (G : List (List Int)) (z : Int) (w : World) (hM : Mat w.heap.size w a G) (hF : Fit G) :
    Calls Try.prog 42 #[.slice a G.length c, .int .i64 z] w (MadeS (owL G z) w) := by
  have HOk := Lib.hid (implOk a c G w hM hF)
  cases hg : gOk G with
  | false =>
    rw [hg] at HOk
    have hk : owK G z = false := by unfold owK; rw [hg]; rfl
    rw [ow_no hk]
    clear hM hF hg hk
    go_enter Try.func42, Try.ntmps42
    go_wp2_with fail
    refine HOk.out.mono ?_
    rintro e w2 ⟨rfl, hB2⟩
    go_wp2_with fail
    go_ret
    exact ⟨none, 0, ⟨rfl, hB2⟩, OwnSep.nil _ _⟩
  | true =>
    rw [hg] at HOk
    by_cases h0 : 0 ≤ z
    · have d0 : decide (z < 0) = false := decide_eq_false (by omega)
      by_cases h1 : z ≤ 1023
      · have d1 : decide (1024 ≤ z) = false := decide_eq_false (by omega)
        have HG := Lib.hid (good_of hg)
        rw [ow_yes (owK_iff.2 ⟨hg, h0, h1⟩)]
        obtain ⟨q, rfl⟩ : ∃ q : Nat, z = (q : Int) := ⟨z.toNat, by omega⟩
        rw [Int.toNat_natCast]
        have HW : Hid (∀ W, Below w.heap.size w W → Calls Try.prog 82 #[.agg #[.slice a G.length c], .int .i64 q] W (MadeS (rowsP G.length (owP G q)) W)) := Lib.hid fun W hB => way_C a c G q W ((hM.below hB).more hB.size) HG.out (by omega)
        clear hM hF hg h0 h1
        go_enter Try.func42, Try.ntmps42
        go_wp2_with fail
        refine HOk.out.mono ?_
        rintro e w2 ⟨rfl, hB2⟩
        have hz := hB2.size
        have HWw := Lib.hid (HW.out w2 hB2)
        clear HW
        go_wp2_with fail
        refine HWw.out.mono ?_
        rintro e w3 ⟨a3, c3, ⟨rfl, hB3⟩, hO3⟩
        have HO := Lib.hid (hO3.mono hz)
        clear hO3
        go_wp2_with fail
        go_ret
        exact ⟨a3, c3, ⟨rfl, hB2.trans (hB3.mono hz)⟩, HO.out⟩
      · have d1 : decide (1024 ≤ z) = true := decide_eq_true (by omega)
        have hk : owK G z = false := by rw [Bool.eq_false_iff]; intro e; exact h1 (owK_iff.1 e).2.2
        rw [ow_no hk]
        clear hM hF hg hk h1 h0
        go_enter Try.func42, Try.ntmps42
        go_wp2_with fail
        refine HOk.out.mono ?_
        rintro e w2 ⟨rfl, hB2⟩
        go_wp2_with fail
        go_ret
        exact ⟨none, 0, ⟨rfl, hB2⟩, OwnSep.nil _ _⟩
    · have d0 : decide (z < 0) = true := decide_eq_true (by omega)
      have hk : owK G z = false := by rw [Bool.eq_false_iff]; intro e; exact h0 (owK_iff.1 e).2.1
      rw [ow_no hk]
      clear hM hF hg hk h0
      go_enter Try.func42, Try.ntmps42
      go_wp2_with fail
      refine HOk.out.mono ?_
      rintro e w2 ⟨rfl, hB2⟩
      go_wp2_with fail
      go_ret
      exact ⟨none, 0, ⟨rfl, hB2⟩, OwnSep.nil _ _⟩

end Go.Proofs.Ytpcmenhchabgiaa

namespace Go.Proofs.Ytpcmenhchabgiaa
open Go.RowKit Go.Shelf Go.Deep

attribute [local go_sem] Oper.semAt_some

set_option maxRecDepth 100000 in
set_option maxHeartbeats 4000000 in
theorem short_C (a : Option Addr) (c : Nat) (B : List (List Int)) (w : World) (hM : Mat w.heap.size w a B) (hG : Good B) (h4 : B.length ≤ 4) :
    Calls Try.prog 83 #[.agg #[.slice a B.length c]] w (Ans (.int .i64 (fstT B (2 ^ (TL B).length))) w) := by
  have h1 : Fence.wide.fn 104 := trivial
  have hdd : ∀ k : Nat, (Fence.wide.depth.isSome = true → 1 ≤ k) := fun k h => by cases h
  have es : ∀ (W : World) (o : Obj), (W.alloc o).heap.size = W.heap.size + 1 := fun W o => by simp
  have HG := Lib.hid hG
  have HOk := Lib.hid (gOk_true hG)
  have HT6 := Lib.hid (TL_six h4)
  have HK64 : Hid (2 ^ (TL B).length ≤ 64) := Lib.hid (pow_six HT6.out)
  have H4 := Lib.hid h4
  clear hG h4
  refine (callsIn_wide (n := 20)).1 ?_
  refine callsIn_of_wp_marks Try.func83 rfl trivial ?_ rfl
  simp only [Try.ntmps83, List.size_toArray, List.length_cons, List.length_nil, Nat.reduceAdd, Nat.reduceSub, Array.replicate_succ, Array.replicate_zero, List.push_toArray, List.append_toArray, List.nil_append, List.cons_append]
  gi_wp2_with fail
  refine wpIn_wide.2 ?_
  refine wp_scope_straight ?_
  refine (wpIn_wide (n := 20)).1 ?_
  gi_wp2_with fail
  refine wpIn_label ?_
  gi_wp2_with ((try refine ⟨hdd _, ?_⟩); gi_at_call 104; refine (ways_in _ _ _ _ _).mono ?_; rintro e w' ⟨rfl, rfl⟩)
  have bF := (Boxed.new (w.alloc (.cells #[.slice a B.length c] 58)) 3 (.int .i64 10)).alloc (.cells #[.slice a B.length c] 58)
  have bP := Boxed.new ((w.alloc (.cells #[.slice a B.length c] 58)).alloc (.cells #[.int .i64 10] 3)) 58 (.slice a B.length c)
  have hB3 := (((Below.refl w.heap.size w).alloc (Nat.le_refl _) (.cells #[.slice a B.length c] 58)).alloc (by rw [es]; omega) (.cells #[.int .i64 10] 3)).alloc (by rw [es, es]; omega) (.cells #[.slice a B.length c] 58)
  have hsz : (((w.alloc (.cells #[.slice a B.length c] 58)).alloc (.cells #[.int .i64 10] 3)).alloc (.cells #[.slice a B.length c] 58)).heap.size = w.heap.size + 3 := by rw [es, es, es]
  simp only [es] at bF bP
  obtain ⟨V, hV⟩ : ∃ V, ((w.alloc (.cells #[.slice a B.length c] 58)).alloc (.cells #[.int .i64 10] 3)).alloc (.cells #[.slice a B.length c] 58) = V := ⟨_, rfl⟩
  rw [hV] at bF bP hB3 hsz ⊢
  have hsz1 : V.heap.size ≤ w.heap.size + 3 := by omega
  have hsz2 : w.heap.size + 3 ≤ V.heap.size := by omega
  have hMV := hM.below hB3
  clear hV hsz hM
  have hseq := ways_Y (w.heap.size + 1 + 1) w.heap.size a c B HG.out H4.out (fun b => b = w.heap.size + 1) (V.heap.size + 2) V (by omega) (by omega) (fun b s => by omega) (fun b s => by omega) (by omega) bP hMV
  refine range_lawY rfl rfl (fun _ => trivial) (gf := 115) (lb := #[.pointer (some ⟨w.heap.size + 1 + 1, 0, none⟩)]) rfl (enters_of Try.func115 (by kernel_rfl) rfl)
    hseq (.inr (by omega)) (Own.from (matS_own _ _) _) (fun h k => KeepC.trans h k) (fun W' o o' h hc => KeepC.putObj _ (by omega) W' o o' h hc) (Below.refl _ _) (fun _ => rfl)
    (fun pre W' => Boxed W' (w.heap.size + 1) 3 (.int .i64 (fstT B pre.length)) ∧ Below w.heap.size w W')
    (fun c' _ W' => c' = .exit 0 ∧ Boxed W' (w.heap.size + 1) 3 (.int .i64 (fstT B (2 ^ (TL B).length))) ∧ Below w.heap.size w W')
    ?oI ?oX
    ⟨bF, hB3⟩ ?a1 ?assign ?body ?done ?stop
  case oI =>
    exact ⟨fun s A C row ⟨k1, k2⟩ hgr hr => ⟨k1.kept hgr (fun e => by have := (hr _ e.symm).1; omega), k2.grown hgr k2.size (fun r e => by have := (hr r e).1; omega)⟩,
      fun s A C ⟨k1, k2⟩ hgr _ => ⟨k1.kept hgr (fun e => by have e' := Option.some.inj e; omega), k2.grown hgr k2.size (fun r e => by cases e; omega)⟩⟩
  case oX =>
    exact fun c' => ⟨fun s A C row ⟨k0, k1, k2⟩ hgr hr => ⟨k0, k1.kept hgr (fun e => by have := (hr _ e.symm).1; omega), k2.grown hgr k2.size (fun r e => by have := (hr r e).1; omega)⟩,
      fun s A C ⟨k0, k1, k2⟩ hgr _ => ⟨k0, k1.kept hgr (fun e => by have e' := Option.some.inj e; omega), k2.grown hgr k2.size (fun r e => by cases e; omega)⟩⟩
  case assign =>
    intro l2 x W' K hK
    gi_wp2
    exact hK
  case body =>
    rintro l2 pre ⟨num, ad, cp⟩ W' ⟨bF', hB'⟩ hsp hAt
    obtain ⟨hnum, hlt⟩ := waysP_snoc hsp
    have hnum : num = pre.length := hnum
    subst hnum
    have hk64 : pre.length < 64 := by have := HK64.out; omega
    have hkow : owK B ((pre.length : Nat) : Int) = true := owK_iff.2 ⟨HOk.out, by omega, by omega⟩
    have hOW : owL B ((pre.length : Nat) : Int) = rowsP B.length (owP B pre.length) := by rw [ow_yes hkow, Int.toNat_natCast]
    have HL : Hid (Calls Try.prog 105 #[.slice ad B.length cp] W' (Ans (.tuple #[.int .i64 (lngI (owL B ((pre.length : Nat) : Int))), .bool (lngK (owL B ((pre.length : Nat) : Int)))]) W')) := Lib.hid (by
      have := implLng ad cp (owL B ((pre.length : Nat) : Int)) W' (by rw [hOW]; exact hAt) (ow_good hkow).fit
      rwa [ow_len hkow] at this)
    have HLen : Hid ((pre ++ [(⟨pre.length, ad, cp⟩ : Way)]).length = pre.length + 1) := Lib.hid (by simp)
    have HNo : Hid (lngK (owL B ((pre.length : Nat) : Int)) = false → fstT B (pre.length + 1) = fstT B pre.length) := Lib.hid fst_no
    have HYes : Hid (lngK (owL B ((pre.length : Nat) : Int)) = true → fstT B (pre.length + 1) = min (fstT B pre.length) (lngI (owL B ((pre.length : Nat) : Int)))) := Lib.hid fun h => fst_yes h (by have := sw_ge HOk.out (n := pre.length) (by omega); omega)
    have HStop : Hid (lngK (owL B ((pre.length : Nat) : Int)) = true → lngI (owL B ((pre.length : Nat) : Int)) ≤ 2 → fstT B (2 ^ (TL B).length) = lngI (owL B ((pre.length : Nat) : Int))) := Lib.hid fun h h2 => fst_stop HOk.out HT6.out hlt h h2
    have HIn : Hid (lngK (owL B ((pre.length : Nat) : Int)) = true → 1 ≤ lngI (owL B ((pre.length : Nat) : Int)) ∧ lngI (owL B ((pre.length : Nat) : Int)) ≤ 9) := Lib.hid lngI_in
    obtain ⟨ok, hok⟩ : ∃ ok, lngK (owL B ((pre.length : Nat) : Int)) = ok := ⟨_, rfl⟩
    obtain ⟨x, hx⟩ : ∃ x, lngI (owL B ((pre.length : Nat) : Int)) = x := ⟨_, rfl⟩
    obtain ⟨v, hv⟩ : ∃ v, fstT B pre.length = v := ⟨_, rfl⟩
    rw [hok, hx] at HL HYes HStop HIn
    rw [hok] at HNo
    rw [hv] at bF' HNo HYes
    have hv10 : 1 ≤ v ∧ v ≤ 10 := by rw [← hv]; exact fst_in HOk.out (by omega)
    have hws := hB'.size
    clear hok hx hv hOW hkow hAt hsp
    gi_wp2_with fail
    refine ⟨trivial, (CallsIn.inRound l2 (callsIn_wide.2 HL.out)).mono ?_⟩
    rintro e w2 ⟨rfl, hB2⟩
    have bF2 : Boxed w2 (w.heap.size + 1) 3 (.int .i64 v) := (hB2.block _ bF'.lt).trans bF'
    have cF2 := bF2.cell
    have fF2 := bF2.frozen
    have hBw : Below w.heap.size w w2 := hB'.trans (hB2.mono hws)
    have hkf2 := keepsFrom_below hB2 V.heap.size
    have hkc2 : KeepC (fun b => b = w.heap.size + 1) (V.heap.size + 2) W' w2 := KeepC.of_below hB2
    clear HL hB' bF' hB2
    cases ok with
    | false =>
      have e1 := HNo.out rfl
      gi_wp2
      refine ⟨hkf2, hkc2, ?_, hBw⟩
      rw [HLen.out, e1]
      exact bF2
    | true =>
      have hi := HIn.out rfl
      by_cases h2 : x ≤ 2
      · have d2 : decide (x ≤ 2) = true := decide_eq_true h2
        have HE := Lib.hid (HStop.out rfl h2)
        have hB4 : Below w.heap.size w (w2.setCell ⟨w.heap.size + 1, 0, none⟩ (.int .i64 x)) := hBw.setCell (p := ⟨w.heap.size + 1, 0, none⟩) (by show w.heap.size ≤ w.heap.size + 1; omega) _
        have bF4 := bF2.set (.int .i64 x)
        have hkf4 := hkf2.trans ((KeepsOthers.setCell w2 ⟨w.heap.size + 1, 0, none⟩ (.int .i64 x)).from V.heap.size)
        clear HNo HYes HStop HIn h2
        gi_wp2
        refine ⟨hkf4, rfl, ?_, hB4⟩
        rw [HE.out]
        exact bF4
      · have d2 : decide (x ≤ 2) = false := decide_eq_false h2
        have HE := Lib.hid (HYes.out rfl)
        obtain ⟨m, hm⟩ : ∃ m, min v x = m := ⟨_, rfl⟩
        have hm2 : (if v ≤ x then v else x) = m := by rw [← hm]; exact (Int.min_def v x).symm
        have hB4 : Below w.heap.size w (w2.setCell ⟨w.heap.size + 1, 0, none⟩ (.int .i64 m)) := hBw.setCell (p := ⟨w.heap.size + 1, 0, none⟩) (by show w.heap.size ≤ w.heap.size + 1; omega) _
        have bF4 := bF2.set (.int .i64 m)
        have hkf4 := hkf2.trans ((KeepsOthers.setCell w2 ⟨w.heap.size + 1, 0, none⟩ (.int .i64 m)).from V.heap.size)
        have hkc4 := hkc2.trans (KeepC.setCell (S := fun b => b = w.heap.size + 1) (V.heap.size + 2) w2 rfl 0 (.int .i64 m))
        rw [hm] at HE
        clear HNo HYes HStop HIn h2
        gi_wp2
        refine ⟨hkf4, hkc4, ?_, hB4⟩
        rw [HLen.out, HE.out]
        exact bF4
  case done =>
    rintro D ys W' hD hys ⟨bF', hB'⟩ hK
    have hl : ys.length = 2 ^ (TL B).length := by have := congrArg List.length hys; simpa using this
    rw [hl] at bF'
    have cF := bF'.cell
    clear hl hys
    gi_wp2
    refine ⟨by simp, .inl ⟨_, _, rfl, run_takeDeferred hK, ?_⟩⟩
    exact ⟨_, results_tmp rfl _ _ _, rfl, hB'.trans (belowK_b (w := w) (Nat.le_refl _) W' D _ _ (by omega) hK rfl rfl)⟩
  case stop =>
    rintro D c' pre W' hD _ ⟨rfl, bF', hB'⟩ hK
    have cF := bF'.cell
    gi_wp2
    refine ⟨by simp, .inl ⟨_, _, rfl, run_takeDeferred hK, ?_⟩⟩
    exact ⟨_, results_tmp rfl _ _ _, rfl, hB'.trans (belowK_b (w := w) (Nat.le_refl _) W' D _ _ (by omega) hK rfl rfl)⟩

end Go.Proofs.Ytpcmenhchabgiaa

namespace Go.Proofs.Ytpcmenhchabgiaa
open Go.RowKit Go.Shelf Go.Deep

attribute [local go_sem] Oper.semAt_some

set_option maxRecDepth 100000 in
set_option maxHeartbeats 1000000 in
theorem implSw (a : Option Addr) (c : Nat) (G : List (List Int)) (w : World) (hM : Mat w.heap.size w a G) (hF : Fit G) :
    Calls Try.prog 45 #[.slice a G.length c] w (Ans (.tuple #[.int .i64 (swI G), .bool (swK G)]) w) := by
  have HT := Lib.hid (told_in a c G w hM hF)
  cases hg : g4 G with
  | false =>
    obtain ⟨e1, e2⟩ := sw_no hg
    rw [hg] at HT
    rw [e1, e2]
    clear hM hF hg e1 e2
    go_enter Try.func45, Try.ntmps45
    go_wp2_with fail
    refine HT.out.mono ?_
    rintro e w2 ⟨rfl, hB2⟩
    go_wp2_with fail
    go_ret2
    exact ⟨rfl, hB2⟩
  | true =>
    rw [hg] at HT
    obtain ⟨hgk, h4⟩ := g4_iff.1 hg
    have HS := Lib.hid (sw_fst hg)
    have hBg := bw_good hgk
    have hBl := bw_len hgk
    have HIn := Lib.hid (fst_in (gOk_true hBg) (n := 2 ^ (TL (bwL G)).length) (pow_six (TL_six (by rw [hBl]; exact h4))))
    have HBw : Hid (∀ w1, Below w.heap.size w w1 → Calls Try.prog 30 #[.slice a G.length c] w1 (MadeS (bwL G) w1)) := Lib.hid fun w1 hB => implBw a c G w1 ((hM.below hB).more hB.size) hF
    have HSh : Hid (∀ (w2 : World) (a2 : Option Addr) (c2 : Nat), Mat w2.heap.size w2 a2 (bwL G) → Calls Try.prog 83 #[.agg #[.slice a2 (bwL G).length c2]] w2 (Ans (.int .i64 (fstT (bwL G) (2 ^ (TL (bwL G)).length))) w2)) := Lib.hid fun w2 a2 c2 hM2 => short_C a2 c2 (bwL G) w2 hM2 hBg (by rw [hBl]; exact h4)
    obtain ⟨v, hv⟩ : ∃ v, fstT (bwL G) (2 ^ (TL (bwL G)).length) = v := ⟨_, rfl⟩
    rw [hv] at HS HSh HIn
    obtain ⟨q, HQ⟩ : ∃ q, Hid (Value.tuple #[.int .i64 (swI G), .bool (swK G)] = q) := ⟨_, rfl⟩
    rw [HQ.out]
    clear hM hF hg hgk h4 hBg hBl hv
    go_enter Try.func45, Try.ntmps45
    go_wp2_with fail
    refine HT.out.mono ?_
    rintro e w1 ⟨rfl, hB1⟩
    have HB := Lib.hid (HBw.out w1 hB1)
    have hz1 := hB1.size
    clear HBw
    go_wp2_with fail
    refine HB.out.mono ?_
    rintro e w2 ⟨a2, c2, ⟨rfl, hB2⟩, hO2⟩
    have HC := Lib.hid (HSh.out w2 a2 c2 hO2.mat.mat)
    have hB3 := hB1.trans (hB2.mono hz1)
    have hz3 := hB3.size
    clear hO2 HSh HB hB1 hB2
    go_wp2_with fail
    refine HC.out.mono ?_
    rintro e w3 ⟨rfl, hB4⟩
    have hB5 := hB3.trans (hB4.mono hz3)
    by_cases h9 : v ≤ 9
    · have d9 : decide (9 < v) = false := decide_eq_false (by omega)
      have HE : Hid (Value.tuple #[.int .i64 v, .bool true] = q) := Lib.hid (by
        obtain ⟨e1, e2⟩ := HS.out.1 h9
        rw [← HQ.out, e1, e2])
      clear h9
      go_wp2_with fail
      go_ret2
      exact ⟨congrArg Ending.returned HE.out, hB5⟩
    · have d9 : decide (9 < v) = true := decide_eq_true (by omega)
      have HE : Hid (Value.tuple #[.int .i64 (-1), .bool false] = q) := Lib.hid (by
        obtain ⟨e1, e2⟩ := HS.out.2 (by omega)
        rw [← HQ.out, e1, e2])
      clear h9
      go_wp2_with fail
      go_ret2
      exact ⟨congrArg Ending.returned HE.out, hB5⟩

end Go.Proofs.Ytpcmenhchabgiaa
