/-
  The program's rowLed, curried, and the closures of LiftedOf.
-/
import Derived.Test.YtjcoilabmbmbkaaY5
import Derived.Test.YtjcoilabmbmbkaaT10
namespace Go.Proofs.Ytjcoilabmbmbkaa
open Go.RowKit Go.Shelf Go.Deep

/-- A ROW LIES IN A NEW BLOCK, the first new one. -/
def LedS (zs : List Int) (m : Nat) (w : World) (e : Ending) (w' : World) : Prop := e = .returned (.slice (some ⟨w.heap.size, 0, none⟩) m m) ∧ Below w.heap.size w w' ∧ RowI w' w.heap.size zs

set_option maxRecDepth 100000 in
set_option maxHeartbeats 1000000 in
theorem rowLed_any (gf : Nat) (lb : Array Value) (zs : List Int) (m : Nat) (w : World) (hl : zs.length = m) (hm : m ≤ 9) (he : ∀ args w, (callFunc gf args).run Try.prog w = .ok (.enter gf args) w)
    (hcl : ∀ (W' : World) (i : Nat) (z : Int), Below w.heap.size w W' → zs[i]? = some z → Calls Try.prog gf (#[.int .i64 (i : Int)] ++ lb) W' (Ans (.int .i64 z) W')) :
    Calls Try.prog 71 #[.int .i64 m, .func (.func gf) #[] lb] w (LedS zs m w) := by
  have HL := Lib.hid hl
  have HCL := Lib.hid hcl
  clear hcl hl
  have hmk := run_make_row' (P := Try.prog) 30 3 (.int .i64 0) 8 Try.underlying30 infoInt rfl .i64 .i64 m (by omega) (by omega)
  go_enter Try.func71, Try.ntmps71
  go_wp2_with fail
  clear hmk
  go_loopw [11] (fun i wr => ∃ k : Nat, k ≤ m ∧ i = .int .i64 k ∧ Below w.heap.size w wr ∧ Hid (wr.rowIs w.heap.size 3 zs.length (fun j => .int .i64 (if j < k then zs[j]?.getD 0 else 0))))
    (fun i _ => m - (intOf i).toNat)
  case atStart =>
    refine ⟨0, Nat.zero_le _, rfl, (Below.refl _ _).alloc (Nat.le_refl _) _, ?_⟩
    have h := copyS_start w zs
    rw [HL.out] at h ⊢
    exact h
  case round =>
    obtain ⟨k, hk, rfl, hB, HR⟩ := hrel
    have hws := hB.size
    by_cases hlt : k < m
    · obtain ⟨z, hz⟩ : ∃ z, zs[k]? = some z := ⟨_, List.getElem?_eq_getElem (by rw [HL.out]; exact hlt)⟩
      have HC := Lib.hid (HCL.out wr k z hB hz)
      have HZ := Lib.hid hz
      clear hz
      go_wp2_with fail
      refine HC.out.mono ?_
      rintro e w1 ⟨rfl, hB1⟩
      have hBX := hB.trans (hB1.mono hws)
      have hlw : w.heap.size < wr.heap.size := World.rowIs.lt HR.out
      have HR1 := World.rowIs.of_block HR.out (hB1.block w.heap.size hlw)
      have hc3 := HR1.cell (show k < zs.length by rw [HL.out]; exact hlt)
      have hf3 := HR1.frozen k
      have HR2 := Lib.hid (copyS_step HR1 HZ.out)
      clear hB1 HR1
      go_wp2_with fail
      go_roundw
      case rel => exact ⟨k + 1, by omega, by go_num, hBX.setCell (p := ⟨w.heap.size, k, none⟩) (Nat.le_refl _) _, HR2⟩
      case measure => simp [intOf]; omega
    · obtain rfl : k = m := by omega
      have HR2 : Hid (RowI wr w.heap.size zs) := Lib.hid (copyS_done (by have h := HR.out; rw [← HL.out] at h; exact h))
      go_wp2_with fail
      go_ret
      exact ⟨rfl, hB, HR2.out⟩

theorem curried_any (gf : Nat) (lb : Array Value) (w : World) : Calls Try.prog 69 #[.func (.func gf) #[] lb] w fun e w' => e = .returned (.func (.func 88) #[] #[.pointer (some ⟨w.heap.size, 0, none⟩)]) ∧ w' = w.alloc (.cells #[.func (.func gf) #[] lb] 84) := by
  go_enter Try.func69, Try.ntmps69
  go_wp2_with fail
  go_ret
  exact ⟨rfl, rfl⟩
theorem curried1_any (i : Int) (B : Nat) (w : World) : Calls Try.prog 88 #[.int .i64 i, .pointer (some ⟨B, 0, none⟩)] w fun e w' => e = .returned (.func (.func 89) #[] #[.pointer (some ⟨B, 0, none⟩), .pointer (some ⟨w.heap.size, 0, none⟩)]) ∧ w' = w.alloc (.cells #[.int .i64 i] 3) := by
  go_enter Try.func88, Try.ntmps88
  go_wp2_with fail
  go_ret
  exact ⟨rfl, rfl⟩

/-- WHAT THE CLOSURES OF LiftedOf FIND. -/
structure LCtx (n₀ Bp Bg Bl Bc Bf Bn B : Nat) (aH aG af : Option Addr) (cH cG cf : Nat) (K G H : List (List Int)) (f : List Int) (W : World) : Prop where
  p : PBox W Bp aH H.length cH aG G.length cG
  g : Boxed W Bg 23 (.slice aG G.length cG)
  l : Boxed W Bl 80 (.func (.func 88) #[] #[.pointer (some ⟨Bc, 0, none⟩)])
  c : Boxed W Bc 84 (.func (.func 70) #[] #[.pointer (some ⟨Bf, 0, none⟩), .pointer (some ⟨Bn, 0, none⟩)])
  fb : Boxed W Bf 30 (.slice af f.length cf)
  n : Boxed W Bn 76 (.map (some B))
  num : Numbered G.length (K.length * G.length) B W
  ints : Ints n₀ W af f
  le : n₀ ≤ W.heap.size
theorem LCtx.below {n₀ Bp Bg Bl Bc Bf Bn B cH cG cf : Nat} {aH aG af : Option Addr} {K G H : List (List Int)} {f : List Int} {W W' : World} (h : LCtx n₀ Bp Bg Bl Bc Bf Bn B aH aG af cH cG cf K G H f W) (hb : Below W.heap.size W W') : LCtx n₀ Bp Bg Bl Bc Bf Bn B aH aG af cH cG cf K G H f W' :=
  ⟨h.p.below hb h.p.lt, (hb.block _ h.g.lt).trans h.g, (hb.block _ h.l.lt).trans h.l, (hb.block _ h.c.lt).trans h.c, (hb.block _ h.fb.lt).trans h.fb, (hb.block _ h.n.lt).trans h.n, h.num.below hb, h.ints.below (hb.mono h.le), Nat.le_trans h.le hb.size⟩

set_option maxRecDepth 100000 in
set_option maxHeartbeats 2000000 in
theorem lift1 {n₀ Bp Bg Bl Bc Bf Bn B cH cG cf : Nat} {aH aG af : Option Addr} {K G H : List (List Int)} {f : List Int} (i j : Nat) (w : World) (hC : LCtx n₀ Bp Bg Bl Bc Bf Bn B aH aG af cH cG cf K G H f w) (hT : Tells (K.length * G.length) H.length f) (h9 : K.length * G.length ≤ 9) (hi : i < K.length) (hj : j < G.length) :
    Calls Try.prog 70 #[.int .i64 i, .int .i64 j, .pointer (some ⟨Bf, 0, none⟩), .pointer (some ⟨Bn, 0, none⟩)] w (Ans (.int .i64 ((nd f (i * G.length + j) : Nat) : Int)) w) := by
  have hr1 := hC.num.look hi hj h9
  have hr2 : (Instr.lookup 76 (.map (some B)) (.agg #[.int .i64 (i : Int), .int .i64 (j : Int)]) false).run Try.prog w.drew = .ok (.int .i64 ((i * G.length + j : Nat) : Int)) w.drew := (show Numbered G.length (K.length * G.length) B w.drew from hC.num).look hi hj h9
  have hz := pair_lt hi hj
  obtain ⟨z, hzz⟩ : ∃ z, i * G.length + j = z := ⟨_, rfl⟩
  rw [hzz] at hr1 hr2 hz ⊢
  obtain ⟨y, hy, en, _⟩ := tells_at hT hz
  obtain ⟨b, o, u, rfl, hb, hc, HU⟩ := hC.ints.at_ (k := z) (by rw [hT.1]; exact hz)
  have eu : u = (y : Int) := by have := HU.out; rw [hy] at this; cases this; rfl
  subst eu
  rw [en]
  have hzf : z < f.length := by rw [hT.1]; exact hz
  have cF := hC.fb.cell
  have cN := hC.n.cell
  have hf9 : f.length ≤ 9 := by rw [hT.1]; exact h9
  clear hC hT hy HU en hzz hz
  have hB00 := Below.refl w.heap.size w
  go_enter Try.func70, Try.ntmps70
  go_wp2_with fail
  go_still_tail 8, (by kernel_rfl)
  go_wp2_with fail
  go_ret
  exact ⟨rfl, hB00.drew⟩

set_option maxRecDepth 100000 in
set_option maxHeartbeats 2000000 in
theorem curried2 {n₀ Bp Bg Bl Bc Bf Bn B cH cG cf : Nat} {aH aG af : Option Addr} {K G H : List (List Int)} {f : List Int} (Bi i j : Nat) (w : World) (hC : LCtx n₀ Bp Bg Bl Bc Bf Bn B aH aG af cH cG cf K G H f w) (hI : Boxed w Bi 3 (.int .i64 i)) (hT : Tells (K.length * G.length) H.length f) (h9 : K.length * G.length ≤ 9) (hi : i < K.length) (hj : j < G.length) :
    Calls Try.prog 89 #[.int .i64 j, .pointer (some ⟨Bc, 0, none⟩), .pointer (some ⟨Bi, 0, none⟩)] w (Ans (.int .i64 ((nd f (i * G.length + j) : Nat) : Int)) w) := by
  have HC := Lib.hid (lift1 i j w hC hT h9 hi hj)
  have cC := hC.c.cell
  have cI := hI.cell
  obtain ⟨z, hz⟩ : ∃ z, nd f (i * G.length + j) = z := ⟨_, rfl⟩
  rw [hz] at HC ⊢
  clear hC hT hz hI
  go_enter Try.func89, Try.ntmps89
  go_wp2_with fail
  refine HC.out.mono ?_
  rintro e w1 ⟨rfl, hB1⟩
  go_wp2_with fail
  go_ret
  exact ⟨rfl, hB1⟩

end Go.Proofs.Ytjcoilabmbmbkaa
