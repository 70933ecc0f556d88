/-
  A deed is drawn.
-/
import Derived.Test.YtofpjepndhpciaaDoorLF
import Derived.Test.YtofpjepndhpciaaDoorZD
import Derived.Deep.RegionHeld3
namespace Go.Proofs.YtofpjepndhpciaaDoor
open Go.RowKit Go.Shelf Go.Deep

theorem wrap_bit (z : Int) (h0 : 0 ≤ z) (h1 : z ≤ 100) : IntKind.i64.wrap z = z := by simp [IntKind.wrap, IntKind.bits, IntKind.signed]; omega
theorem Box3.alloc {W : World} {A : Nat} {d : Dd} (h : Box3 W A d) (o : Obj) : Box3 (W.alloc o) A d := (((Below.refl W.heap.size W).alloc (Nat.le_refl _) o).block A h.lt).trans h
theorem Box3.grown {W W' : World} {A : Nat} {d : Dd} {row : Option Nat} (h : Box3 W A d) (hg : W.grownBy W' row) (hr : some A ≠ row) : Box3 W' A d := (hg.block A h.lt hr).trans h
theorem Box3.setA {W : World} {A : Nat} {k a b : Int} (h : Box3 W A ⟨k, a, b⟩) (x : Int) : Box3 (W.setCell ⟨A, 1, none⟩ (.int .i64 x)) A ⟨k, x, b⟩ := box3_put h 1 _
theorem Box3.setB {W : World} {A : Nat} {k a b : Int} (h : Box3 W A ⟨k, a, b⟩) (x : Int) : Box3 (W.setCell ⟨A, 2, none⟩ (.int .i64 x)) A ⟨k, a, x⟩ := box3_put h 2 _
theorem grown_allocD (W : World) (o : Obj) : W.grownBy (W.alloc o) none := grown_of_below ((Below.refl W.heap.size W).alloc (Nat.le_refl _) o)
/-- The kinds to pick from. -/
abbrev kindC : Array Value := #[.int .i64 0, .int .i64 0, .int .i64 0, .int .i64 0, .int .i64 1, .int .i64 2, .int .i64 3, .int .i64 4, .int .i64 5]
/-- WHILE A DEED IS DRAWN: the reader; the answer's box; the list of kinds, the deed's box, where they lie already. -/
structure DSt (w W : World) (n₀ B N : Nat) (oL oA : Option Nat) : Prop where
  rd : Rd n₀ B W N
  g : w.grownBy W (some B)
  z : B < w.heap.size
  r : Box3 W w.heap.size ⟨0, 0, 0⟩
  l : ∀ L, oL = some L → w.heap.size < L ∧ W.heap[L]? = some (.cells kindC 3)
  b : ∀ A, oA = some A → w.heap.size < A ∧ Box3 W A ⟨0, 0, 0⟩
theorem DSt.grow {w W W' : World} {n₀ B N N' : Nat} {oL oA : Option Nat} {row : Option Nat} (h : DSt w W n₀ B N oL oA) (hR : Rd n₀ B W' N') (hg : W.grownBy W' row) (hr : ∀ r, row = some r → r = B) : DSt w W' n₀ B N' oL oA := by
  have hz := h.z
  refine ⟨hR, grow_B h.g hg (fun r e => .inr (hr r e)), hz, h.r.grown hg (fun e => by have := hr _ e.symm; omega), fun L e => ?_, fun A e => ?_⟩
  · obtain ⟨h1, h2⟩ := h.l L e
    exact ⟨h1, (hg.block L (Array.getElem?_eq_some_iff.1 h2).1 (fun e => by have := hr _ e.symm; omega)).trans h2⟩
  · obtain ⟨h1, h2⟩ := h.b A e
    exact ⟨h1, h2.grown hg (fun e => by have := hr _ e.symm; omega)⟩
theorem DSt.pick {w W W' : World} {n₀ B N : Nat} {oL oA : Option Nat} (h : DSt w W n₀ B N oL oA) (hR : Rd n₀ B W' (N + 1)) (hg : W.grownBy W' (some B)) : DSt w W' n₀ B (N + 1) oL oA := h.grow hR hg (fun r e => by cases e; rfl)
theorem DSt.allocL {w W : World} {n₀ B N : Nat} {oA : Option Nat} (h : DSt w W n₀ B N none oA) : DSt w (W.alloc (.cells kindC 3)) n₀ B N (some W.heap.size) oA := by
  have k := h.grow (h.rd.keep (grown_allocD W (.cells kindC 3)) (fun r e => by cases e)) (grown_allocD W (.cells kindC 3)) (fun r e => by cases e)
  exact ⟨k.rd, k.g, k.z, k.r, fun L e => by cases e; exact ⟨h.r.lt, heap_alloc_new W _⟩, k.b⟩
theorem DSt.allocA {w W : World} {n₀ B N : Nat} {oL : Option Nat} (h : DSt w W n₀ B N oL none) : DSt w (W.alloc (.cells #[.int .i64 0, .int .i64 0, .int .i64 0] 24)) n₀ B N oL (some W.heap.size) := by
  have k := h.grow (h.rd.keep (grown_allocD W (.cells #[.int .i64 0, .int .i64 0, .int .i64 0] 24)) (fun r e => by cases e)) (grown_allocD W (.cells #[.int .i64 0, .int .i64 0, .int .i64 0] 24)) (fun r e => by cases e)
  exact ⟨k.rd, k.g, k.z, k.r, k.l, fun A e => by cases e; exact ⟨h.r.lt, Box3.new W ⟨0, 0, 0⟩⟩⟩
theorem DSt.kind {w W : World} {n₀ B N L : Nat} {oA : Option Nat} (h : DSt w W n₀ B N (some L) oA) {x : Nat} (hx : x < 9) : ∃ v : Nat, W.cell? ⟨L, x, none⟩ = some (.int .i64 (v : Int)) ∧ v ≤ 5 := by
  obtain ⟨_, h2⟩ := h.l L rfl
  have hc : ∀ x : Nat, W.cell? ⟨L, x, none⟩ = kindC[x]? := fun x => by unfold World.cell?; rw [h2]; rfl
  rw [hc]
  have : x = 0 ∨ x = 1 ∨ x = 2 ∨ x = 3 ∨ x = 4 ∨ x = 5 ∨ x = 6 ∨ x = 7 ∨ x = 8 := by omega
  rcases this with rfl | rfl | rfl | rfl | rfl | rfl | rfl | rfl | rfl
  · exact ⟨0, rfl, by omega⟩
  · exact ⟨0, rfl, by omega⟩
  · exact ⟨0, rfl, by omega⟩
  · exact ⟨0, rfl, by omega⟩
  · exact ⟨1, rfl, by omega⟩
  · exact ⟨2, rfl, by omega⟩
  · exact ⟨3, rfl, by omega⟩
  · exact ⟨4, rfl, by omega⟩
  · exact ⟨5, rfl, by omega⟩
/-- THE DEED LIES IN ITS BOX. -/
structure FSt (w W : World) (n₀ B N A : Nat) (d : Dd) : Prop where
  rd : Rd n₀ B W N
  g : w.grownBy W (some B)
  z : B < w.heap.size
  r : Box3 W w.heap.size ⟨0, 0, 0⟩
  a : w.heap.size < A
  b : Box3 W A d
theorem DSt.put {w W : World} {n₀ B N A : Nat} {oL : Option Nat} (h : DSt w W n₀ B N oL (some A)) (k : Int) : FSt w (put3 W A ⟨k, 0, 0⟩) n₀ B N A ⟨k, 0, 0⟩ := by
  obtain ⟨h1, h2⟩ := h.b A rfl
  have hz := h.z
  have hs : ∀ (V : World) (i : Nat) (v : Value), V.grownBy (V.setCell ⟨A, i, none⟩ v) (some A) := fun V i v => grownBy_setX V A i v
  have g1 := hs W 0 (.int .i64 k)
  have g2 := hs (W.setCell ⟨A, 0, none⟩ (.int .i64 k)) 1 (.int .i64 0)
  have g3 := hs ((W.setCell ⟨A, 0, none⟩ (.int .i64 k)).setCell ⟨A, 1, none⟩ (.int .i64 0)) 2 (.int .i64 0)
  refine ⟨((h.rd.keep g1 ?_).keep g2 ?_).keep g3 ?_, grow_B (grow_B (grow_B h.g g1 ?_) g2 ?_) g3 ?_, hz, ((h.r.grown g1 ?_).grown g2 ?_).grown g3 ?_, h1, (Box3.puts h2 ⟨k, 0, 0⟩).2.2.2⟩
  all_goals first
    | (intro r e; cases e; omega)
    | (intro r e; cases e; left; omega)
    | (intro e; have e' := Option.some.inj e; omega)
theorem FSt.grow {w W W' : World} {n₀ B N N' A : Nat} {d d' : Dd} (h : FSt w W n₀ B N A d) {row : Option Nat} (hR : Rd n₀ B W' N') (hg : W.grownBy W' row) (hr : ∀ r, row = some r → r = B ∨ w.heap.size < r) (hb : Box3 W' A d') : FSt w W' n₀ B N' A d' := by
  have hz := h.z
  exact ⟨hR, grow_B h.g hg (fun r e => by rcases hr r e with h | h; (exact .inr h); (left; omega)), hz, h.r.grown hg (fun e => by rcases hr _ e.symm with h | h <;> omega), h.a, hb⟩
theorem FSt.pick {w W W' : World} {n₀ B N A : Nat} {d : Dd} (h : FSt w W n₀ B N A d) (hR : Rd n₀ B W' (N + 1)) (hg : W.grownBy W' (some B)) : FSt w W' n₀ B (N + 1) A d :=
  h.grow hR hg (fun r e => by cases e; exact .inl rfl) (h.b.grown hg (fun e => by have := Option.some.inj e; have := h.z; have := h.a; omega))
theorem FSt.setA {w W : World} {n₀ B N A : Nat} {k a b : Int} (h : FSt w W n₀ B N A ⟨k, a, b⟩) (x : Int) : FSt w (W.setCell ⟨A, 1, none⟩ (.int .i64 x)) n₀ B N A ⟨k, x, b⟩ :=
  h.grow (h.rd.keep (grownBy_setX W A 1 _) (fun r e => by cases e; have := h.z; have := h.a; omega)) (grownBy_setX W A 1 _) (fun r e => by cases e; exact .inr h.a) (h.b.setA x)
theorem FSt.setB {w W : World} {n₀ B N A : Nat} {k a b : Int} (h : FSt w W n₀ B N A ⟨k, a, b⟩) (x : Int) : FSt w (W.setCell ⟨A, 2, none⟩ (.int .i64 x)) n₀ B N A ⟨k, a, x⟩ :=
  h.grow (h.rd.keep (grownBy_setX W A 2 _) (fun r e => by cases e; have := h.z; have := h.a; omega)) (grownBy_setX W A 2 _) (fun r e => by cases e; exact .inr h.a) (h.b.setB x)
theorem FSt.allocs {w W : World} {n₀ B N A : Nat} {d : Dd} (h : FSt w W n₀ B N A d) (o : Obj) : FSt w (W.alloc o) n₀ B N A d :=
  h.grow (h.rd.keep (grown_allocD W o) (fun r e => by cases e)) (grown_allocD W o) (fun r e => by cases e) (h.b.alloc o)
theorem FSt.fin {w W : World} {n₀ B N A : Nat} {d : Dd} (h : FSt w W n₀ B N A d) (e : Dd) : Rd n₀ B (put3 W w.heap.size e) N ∧ w.grownBy (put3 W w.heap.size e) (some B) ∧ Box3 (put3 W w.heap.size e) w.heap.size e := by
  have hz := h.z
  have hs : ∀ (V : World) (i : Nat) (v : Value), V.grownBy (V.setCell ⟨w.heap.size, i, none⟩ v) (some w.heap.size) := fun V i v => grownBy_setX V w.heap.size i v
  have g1 := hs W 0 (.int .i64 e.k)
  have g2 := hs (W.setCell ⟨w.heap.size, 0, none⟩ (.int .i64 e.k)) 1 (.int .i64 e.a)
  have g3 := hs ((W.setCell ⟨w.heap.size, 0, none⟩ (.int .i64 e.k)).setCell ⟨w.heap.size, 1, none⟩ (.int .i64 e.a)) 2 (.int .i64 e.b)
  refine ⟨((h.rd.keep g1 ?_).keep g2 ?_).keep g3 ?_, grow_B (grow_B (grow_B h.g g1 ?_) g2 ?_) g3 ?_, (Box3.puts h.r e).2.2.2⟩
  all_goals first
    | (intro r e; cases e; exact hz)
    | (intro r e; cases e; left; exact Nat.le_refl _)
theorem cells_three (W : World) : (W.alloc (.cells #[.int .i64 (-1), .int .i64 9, .int .i64 10] 3)).heap[W.heap.size]? = some (.cells #[.int .i64 (-1), .int .i64 9, .int .i64 10] 3) := heap_alloc_new W _
theorem three_cell {W W' : World} {L B u : Nat} (h : W.heap[L]? = some (.cells #[.int .i64 (-1), .int .i64 9, .int .i64 10] 3)) (hg : W.grownBy W' (some B)) (hB : B < L) (hu : u < 3) : ∃ v : Int, W'.cell? ⟨L, u, none⟩ = some (.int .i64 v) ∧ -1 ≤ v ∧ v ≤ 10 := by
  have h2 : W'.heap[L]? = some (.cells #[.int .i64 (-1), .int .i64 9, .int .i64 10] 3) := (hg.block L (Array.getElem?_eq_some_iff.1 h).1 (fun e => by have := Option.some.inj e; omega)).trans h
  have hc : ∀ x : Nat, W'.cell? ⟨L, x, none⟩ = (#[.int .i64 (-1), .int .i64 9, .int .i64 10] : Array Value)[x]? := fun x => by unfold World.cell?; rw [h2]; rfl
  rw [hc]
  have : u = 0 ∨ u = 1 ∨ u = 2 := by omega
  rcases this with rfl | rfl | rfl
  · exact ⟨-1, rfl, by omega, by omega⟩
  · exact ⟨9, rfl, by omega, by omega⟩
  · exact ⟨10, rfl, by omega, by omega⟩
/-- A DEED IS DRAWN: its numbers are small. -/
def DdSm (d : Dd) : Prop := (0 ≤ d.k ∧ d.k ≤ 20) ∧ (0 ≤ d.a ∧ d.a ≤ 2000000) ∧ (-1 ≤ d.b ∧ d.b ≤ 2000000)
theorem dd_sm (k a b : Int) (h1 : 0 ≤ k ∧ k ≤ 20) (h2 : 0 ≤ a ∧ a ≤ 2000000) (h3 : -1 ≤ b ∧ b ≤ 2000000) : DdSm ⟨k, a, b⟩ := ⟨h1, h2, h3⟩
def DrawnDd (n₀ B N : Nat) (w : World) (e : Ending) (w' : World) : Prop := ∃ d : Dd, e = .returned (ddV d) ∧ DdSm d ∧ Rd n₀ B w' N ∧ w.grownBy w' (some B)

set_option maxRecDepth 100000 in
set_option maxHeartbeats 8000000 in
theorem deed_any (n₀ B N : Nat) (a : Option Addr) (m c : Nat) (w : World) (hR : Rd n₀ B w N) (hN : N ≤ 500000) (hm : m ≤ 1048576) :
    Calls Tryd.prog 31 #[.pointer (some ⟨B, 0, none⟩), .slice a m c] w (DrawnDd n₀ B (N + 10) w) := by
  have hB := hR.lt
  obtain ⟨n, hn1, hn2, hx1, hx2⟩ : ∃ n : Nat, 1 ≤ n ∧ n ≤ 1048576 ∧ max (m : Int) 1 = (n : Int) ∧ (if (m : Int) < 1 then 1 else (m : Int)) = (n : Int) := by
    by_cases h : m = 0
    · exact ⟨1, by omega, by omega, by omega, by rw [if_pos (by omega)]; rfl⟩
    · exact ⟨m, by omega, hm, by omega, by rw [if_neg (by omega)]⟩
  have hD0 : DSt w (w.alloc (.cells #[.int .i64 0, .int .i64 0, .int .i64 0] 24)) n₀ B N none none :=
    ⟨hR.keep (grown_allocD w _) (fun r e => by cases e), ⟨rfl, rfl, rfl, (grown_allocD w _).size, fun k hk hne => (grown_allocD w (.cells #[.int .i64 0, .int .i64 0, .int .i64 0] 24)).block k hk (fun e => by cases e)⟩, hB, Box3.new w ⟨0, 0, 0⟩, fun L e => (by cases e), fun A e => (by cases e)⟩
  have HD := Lib.hid hD0
  clear hD0 hR
  go_enter Tryd.func31, Tryd.ntmps31
  go_wp2_with fail
  refine wp_mono (Q := fun e a' W' => e = .normal ∧ ∃ (A : Nat) (u10 u12 u13 u14 u16 u17 u18 u19 u20 : Value) (kk : Int), a' = { tmps := #[.pointer (some ⟨B, 0, none⟩), .slice a m c, undef, undef, .pointer (some ⟨w.heap.size, 0, none⟩), .int .i64 n, .pointer (some ⟨A, 0, none⟩), .slice a m c, .int .i64 m, .int .i64 n, u10, .pointer (some ⟨B, 0, none⟩), u12, u13, u14, .pointer (some ⟨B, 0, none⟩), u16, u17, u18, u19, u20, undef, undef, undef, undef, undef, undef, undef, undef, undef, undef, undef, undef, undef, undef, undef, undef, undef, undef, undef, undef, undef, undef, undef, undef, undef, undef, undef], defers := [] } ∧ FSt w W' n₀ B (N + 1 + 1) A ⟨kk, 0, 0⟩ ∧ 0 ≤ kk ∧ kk ≤ 20) ?first ?rest
  case first =>
    obtain ⟨V0, hV⟩ : ∃ V, w.alloc (.cells #[.int .i64 0, .int .i64 0, .int .i64 0] 24) = V := ⟨_, rfl⟩
    rw [hV] at HD ⊢
    clear hV hx1 hx2
    have HD : Hid (DSt w V0.drew n₀ B N none none) := Lib.hid ⟨HD.out.rd.keep (row := none) ⟨rfl, rfl, rfl, Nat.le_refl _, fun _ _ _ => rfl⟩ (fun r e => by cases e), ⟨HD.out.g.os, HD.out.g.tape, HD.out.g.output, HD.out.g.size, HD.out.g.block⟩, HD.out.z, HD.out.r, HD.out.l, HD.out.b⟩
    refine wp_region_held_drew (S := fun _ => True) (by kernel_rfl) trivial (fun _ => ?_)
    change wpAnyH _ _ _ _ _ _ _ _ (World.drew _)
    obtain ⟨V, hV⟩ : ∃ V, World.drew V0 = V := ⟨_, rfl⟩
    rw [hV] at HD ⊢
    clear hV
    refine wpAnyH_take (i := 1) (v := ?_) rfl (by kernel_rfl) (by kernel_rfl) (by kernel_rfl) (fun _ _ _ h => by cases h.1) (Or.inl ⟨by rfl, ?_⟩) trivial ?_
    case refine_2 => intro w _; first | (go_simp; rfl) | go_simp
    simp only [Act.put, List.getElem_toArray, List.getElem_cons_succ, List.getElem_cons_zero, List.setIfInBounds_toArray, List.set_cons_zero, List.set_cons_succ]
    refine wpAnyH_take (i := 5) (v := ?_) rfl (by kernel_rfl) (by kernel_rfl) (by kernel_rfl) (fun _ _ _ h => by cases h.1) (Or.inl ⟨by rfl, ?_⟩) trivial ?_
    case refine_2 => intro w _; first | (go_simp; rfl) | go_simp
    simp only [Act.put, List.getElem_toArray, List.getElem_cons_succ, List.getElem_cons_zero, List.setIfInBounds_toArray, List.set_cons_zero, List.set_cons_succ]
    refine wpAnyH_ready (rs := [0, 2, 11]) (by kernel_rfl) (by simp) ?_
    refine AllReadyH.cons rfl (fun K hK => ?_) ?_
    · skip
      go_simp
      refine hK.out _ _ trivial (fun _ => ?_)
      have hD2 := HD.out.allocL
      obtain ⟨V1, hV⟩ : ∃ X, V.alloc (.cells kindC 3) = X := ⟨_, rfl⟩
      obtain ⟨L, hL⟩ : ∃ Y, V.heap.size = Y := ⟨_, rfl⟩
      rw [hV, hL] at hD2
      rw [hV, hL]
      have HD := Lib.hid hD2
      clear hV hL hD2 hK K
      refine wpAnyH_ready (rs := [2, 11]) (by kernel_rfl) (by simp) ?_
      refine AllReadyH.cons rfl (fun K hK => ?_) ?_
      · skip
        go_simp
        refine (pick_any n₀ B _ 9 V1 HD.out.rd (by omega)).mono ?_
        rintro e V2 ⟨x, ⟨rfl, x0, x1, _⟩, hR, hg, -⟩
        have x9 := x1 (by omega)
        obtain ⟨x, rfl⟩ : ∃ z : Nat, x = (z : Int) := ⟨x.toNat, by omega⟩
        refine hK.out _ _ trivial (fun _ => ?_)
        have HD := Lib.hid (HD.out.pick hR hg)
        clear hR hg x1 hK K
        refine wpAnyH_take (i := 3) (v := ?_) rfl (by kernel_rfl) (by kernel_rfl) (by kernel_rfl) (fun _ _ _ h => by cases h.1) (Or.inl ⟨by rfl, ?_⟩) trivial ?_
        case refine_2 => intro w _; first | (go_simp; rfl) | go_simp
        simp only [Act.put, List.getElem_toArray, List.getElem_cons_succ, List.getElem_cons_zero, List.setIfInBounds_toArray, List.set_cons_zero, List.set_cons_succ]
        refine wpAnyH_ready (rs := [4, 6, 11]) (by kernel_rfl) (by simp) ?_
        refine AllReadyH.cons rfl (fun K hK => ?_) ?_
        · skip
          obtain ⟨v, cv, hv⟩ := HD.out.kind (x := x) (by omega)
          go_simp
          refine hK.out _ _ trivial (fun _ => ?_)
          clear cv hK K
          refine wpAnyH_ready (rs := [6, 11]) (by kernel_rfl) (by simp) ?_
          refine AllReadyH.cons rfl (fun K hK => ?_) ?_
          · skip
            go_simp
            refine (pick_any n₀ B _ 60 V2 HD.out.rd (by omega)).mono ?_
            rintro e V4 ⟨y, ⟨rfl, y0, y1, _⟩, hR, hg, -⟩
            have y9 := y1 (by omega)
            obtain ⟨y, rfl⟩ : ∃ z : Nat, y = (z : Int) := ⟨y.toNat, by omega⟩
            refine hK.out _ _ trivial (fun _ => ?_)
            have HD := Lib.hid (HD.out.pick hR hg)
            have hq : Int.tdiv (y : Int) 59 = ((y / 59 : Nat) : Int) := rfl
            obtain ⟨q, hqq⟩ : ∃ q, y / 59 = q := ⟨_, rfl⟩
            have hq1 : q ≤ 1 := by omega
            rw [hqq] at hq
            have hw1 : IntKind.i64.wrap (q : Int) = (q : Int) := wrap_bit _ (by omega) (by omega)
            have hw2 : IntKind.i64.wrap ((q : Int) * 6) = (q : Int) * 6 := wrap_bit _ (by omega) (by omega)
            clear hqq hR hg y1 hK K
            have hw3 : IntKind.i64.wrap ((v : Int) + (q : Int) * 6) = (v : Int) + (q : Int) * 6 := wrap_bit _ (by omega) (by omega)
            refine wpAnyH_take (i := 7) (v := ?_) rfl (by kernel_rfl) (by kernel_rfl) (by kernel_rfl) (fun _ _ _ h => by cases h.1) (Or.inl ⟨by rfl, ?_⟩) trivial ?_
            case refine_2 => intro w _; first | (go_simp; rfl) | go_simp
            simp only [Act.put, List.getElem_toArray, List.getElem_cons_succ, List.getElem_cons_zero, List.setIfInBounds_toArray, List.set_cons_zero, List.set_cons_succ]
            refine wpAnyH_take (i := 8) (v := ?_) rfl (by kernel_rfl) (by kernel_rfl) (by kernel_rfl) (fun _ _ _ h => by cases h.1) (Or.inl ⟨by rfl, ?_⟩) trivial ?_
            case refine_2 => intro w _; first | (go_simp; rfl) | go_simp
            simp only [Act.put, List.getElem_toArray, List.getElem_cons_succ, List.getElem_cons_zero, List.setIfInBounds_toArray, List.set_cons_zero, List.set_cons_succ]
            refine wpAnyH_take (i := 9) (v := ?_) rfl (by kernel_rfl) (by kernel_rfl) (by kernel_rfl) (fun _ _ _ h => by cases h.1) (Or.inl ⟨by rfl, ?_⟩) trivial ?_
            case refine_2 => intro w _; first | (go_simp; rfl) | go_simp
            simp only [Act.put, List.getElem_toArray, List.getElem_cons_succ, List.getElem_cons_zero, List.setIfInBounds_toArray, List.set_cons_zero, List.set_cons_succ]
            refine wpAnyH_take (i := 10) (v := ?_) rfl (by kernel_rfl) (by kernel_rfl) (by kernel_rfl) (fun _ _ _ h => by cases h.1) (Or.inl ⟨by rfl, ?_⟩) trivial ?_
            case refine_2 => intro w _; first | (go_simp; rfl) | go_simp
            simp only [Act.put, List.getElem_toArray, List.getElem_cons_succ, List.getElem_cons_zero, List.setIfInBounds_toArray, List.set_cons_zero, List.set_cons_succ]
            refine wpAnyH_ready (rs := [11]) (by kernel_rfl) (by simp) ?_
            refine AllReadyH.cons rfl (fun K hK => ?_) AllReadyH.nil
            go_simp
            refine hK.out _ _ trivial (fun _ => ?_)
            have hD2 := HD.out.allocA
            obtain ⟨V5, hV⟩ : ∃ X, V4.alloc (.cells #[.int .i64 0, .int .i64 0, .int .i64 0] 24) = X := ⟨_, rfl⟩
            obtain ⟨A, hA⟩ : ∃ Y, V4.heap.size = Y := ⟨_, rfl⟩
            rw [hV, hA] at hD2
            rw [hV, hA]
            have HD := Lib.hid hD2
            clear hV hA hD2 hK K
            refine wpAnyH_ready (rs := [12]) (by kernel_rfl) (by simp) ?_
            refine AllReadyH.cons rfl (fun K hK => ?_) AllReadyH.nil
            obtain ⟨hA1, hA2⟩ := HD.out.b A rfl
            obtain ⟨⟨s1, s2⟩, ⟨s3, s4⟩, ⟨s5, s6⟩, _⟩ := Box3.puts hA2 ⟨(v : Int) + (q : Int) * 6, 0, 0⟩
            have HF := Lib.hid (HD.out.put ((v : Int) + (q : Int) * 6))
            go_simp
            refine hK.out _ _ trivial (fun _ => ?_)
            clear s1 s2 s3 s4 s5 s6 hA1 hA2 hK K
            refine wpAnyH_done (by kernel_rfl) ?_ _
            exact ⟨rfl, A, _, _, _, _, _, _, _, _, _, _, rfl, HF.out, by omega, by omega⟩
          refine AllReadyH.cons rfl (fun K hK => ?_) AllReadyH.nil
          go_simp
          refine hK.out _ _ trivial (fun _ => ?_)
          have hD2 := HD.out.allocA
          obtain ⟨V7, hV⟩ : ∃ X, V2.alloc (.cells #[.int .i64 0, .int .i64 0, .int .i64 0] 24) = X := ⟨_, rfl⟩
          obtain ⟨A, hA⟩ : ∃ Y, V2.heap.size = Y := ⟨_, rfl⟩
          rw [hV, hA] at hD2
          rw [hV, hA]
          have HD := Lib.hid hD2
          clear hV hA hD2 hK K
          refine wpAnyH_ready (rs := [6]) (by kernel_rfl) (by simp) ?_
          refine AllReadyH.cons rfl (fun K hK => ?_) AllReadyH.nil
          go_simp
          refine (pick_any n₀ B _ 60 V7 HD.out.rd (by omega)).mono ?_
          rintro e V8 ⟨y, ⟨rfl, y0, y1, _⟩, hR, hg, -⟩
          have y9 := y1 (by omega)
          obtain ⟨y, rfl⟩ : ∃ z : Nat, y = (z : Int) := ⟨y.toNat, by omega⟩
          refine hK.out _ _ trivial (fun _ => ?_)
          have HD := Lib.hid (HD.out.pick hR hg)
          have hq : Int.tdiv (y : Int) 59 = ((y / 59 : Nat) : Int) := rfl
          obtain ⟨q, hqq⟩ : ∃ q, y / 59 = q := ⟨_, rfl⟩
          have hq1 : q ≤ 1 := by omega
          rw [hqq] at hq
          have hw1 : IntKind.i64.wrap (q : Int) = (q : Int) := wrap_bit _ (by omega) (by omega)
          have hw2 : IntKind.i64.wrap ((q : Int) * 6) = (q : Int) * 6 := wrap_bit _ (by omega) (by omega)
          clear hqq hR hg y1 hK K
          have hw3 : IntKind.i64.wrap ((v : Int) + (q : Int) * 6) = (v : Int) + (q : Int) * 6 := wrap_bit _ (by omega) (by omega)
          refine wpAnyH_take (i := 7) (v := ?_) rfl (by kernel_rfl) (by kernel_rfl) (by kernel_rfl) (fun _ _ _ h => by cases h.1) (Or.inl ⟨by rfl, ?_⟩) trivial ?_
          case refine_2 => intro w _; first | (go_simp; rfl) | go_simp
          simp only [Act.put, List.getElem_toArray, List.getElem_cons_succ, List.getElem_cons_zero, List.setIfInBounds_toArray, List.set_cons_zero, List.set_cons_succ]
          refine wpAnyH_take (i := 8) (v := ?_) rfl (by kernel_rfl) (by kernel_rfl) (by kernel_rfl) (fun _ _ _ h => by cases h.1) (Or.inl ⟨by rfl, ?_⟩) trivial ?_
          case refine_2 => intro w _; first | (go_simp; rfl) | go_simp
          simp only [Act.put, List.getElem_toArray, List.getElem_cons_succ, List.getElem_cons_zero, List.setIfInBounds_toArray, List.set_cons_zero, List.set_cons_succ]
          refine wpAnyH_take (i := 9) (v := ?_) rfl (by kernel_rfl) (by kernel_rfl) (by kernel_rfl) (fun _ _ _ h => by cases h.1) (Or.inl ⟨by rfl, ?_⟩) trivial ?_
          case refine_2 => intro w _; first | (go_simp; rfl) | go_simp
          simp only [Act.put, List.getElem_toArray, List.getElem_cons_succ, List.getElem_cons_zero, List.setIfInBounds_toArray, List.set_cons_zero, List.set_cons_succ]
          refine wpAnyH_take (i := 10) (v := ?_) rfl (by kernel_rfl) (by kernel_rfl) (by kernel_rfl) (fun _ _ _ h => by cases h.1) (Or.inl ⟨by rfl, ?_⟩) trivial ?_
          case refine_2 => intro w _; first | (go_simp; rfl) | go_simp
          simp only [Act.put, List.getElem_toArray, List.getElem_cons_succ, List.getElem_cons_zero, List.setIfInBounds_toArray, List.set_cons_zero, List.set_cons_succ]
          refine wpAnyH_ready (rs := [12]) (by kernel_rfl) (by simp) ?_
          refine AllReadyH.cons rfl (fun K hK => ?_) AllReadyH.nil
          obtain ⟨hA1, hA2⟩ := HD.out.b A rfl
          obtain ⟨⟨s1, s2⟩, ⟨s3, s4⟩, ⟨s5, s6⟩, _⟩ := Box3.puts hA2 ⟨(v : Int) + (q : Int) * 6, 0, 0⟩
          have HF := Lib.hid (HD.out.put ((v : Int) + (q : Int) * 6))
          go_simp
          refine hK.out _ _ trivial (fun _ => ?_)
          clear s1 s2 s3 s4 s5 s6 hA1 hA2 hK K
          refine wpAnyH_done (by kernel_rfl) ?_ _
          exact ⟨rfl, A, _, _, _, _, _, _, _, _, _, _, rfl, HF.out, by omega, by omega⟩
        refine AllReadyH.cons rfl (fun K hK => ?_) ?_
        · skip
          go_simp
          refine (pick_any n₀ B _ 60 V2 HD.out.rd (by omega)).mono ?_
          rintro e V10 ⟨y, ⟨rfl, y0, y1, _⟩, hR, hg, -⟩
          have y9 := y1 (by omega)
          obtain ⟨y, rfl⟩ : ∃ z : Nat, y = (z : Int) := ⟨y.toNat, by omega⟩
          refine hK.out _ _ trivial (fun _ => ?_)
          have HD := Lib.hid (HD.out.pick hR hg)
          have hq : Int.tdiv (y : Int) 59 = ((y / 59 : Nat) : Int) := rfl
          obtain ⟨q, hqq⟩ : ∃ q, y / 59 = q := ⟨_, rfl⟩
          have hq1 : q ≤ 1 := by omega
          rw [hqq] at hq
          have hw1 : IntKind.i64.wrap (q : Int) = (q : Int) := wrap_bit _ (by omega) (by omega)
          have hw2 : IntKind.i64.wrap ((q : Int) * 6) = (q : Int) * 6 := wrap_bit _ (by omega) (by omega)
          clear hqq hR hg y1 hK K
          refine wpAnyH_take (i := 7) (v := ?_) rfl (by kernel_rfl) (by kernel_rfl) (by kernel_rfl) (fun _ _ _ h => by cases h.1) (Or.inl ⟨by rfl, ?_⟩) trivial ?_
          case refine_2 => intro w _; first | (go_simp; rfl) | go_simp
          simp only [Act.put, List.getElem_toArray, List.getElem_cons_succ, List.getElem_cons_zero, List.setIfInBounds_toArray, List.set_cons_zero, List.set_cons_succ]
          refine wpAnyH_take (i := 8) (v := ?_) rfl (by kernel_rfl) (by kernel_rfl) (by kernel_rfl) (fun _ _ _ h => by cases h.1) (Or.inl ⟨by rfl, ?_⟩) trivial ?_
          case refine_2 => intro w _; first | (go_simp; rfl) | go_simp
          simp only [Act.put, List.getElem_toArray, List.getElem_cons_succ, List.getElem_cons_zero, List.setIfInBounds_toArray, List.set_cons_zero, List.set_cons_succ]
          refine wpAnyH_ready (rs := [4, 11]) (by kernel_rfl) (by simp) ?_
          refine AllReadyH.cons rfl (fun K hK => ?_) ?_
          · skip
            obtain ⟨v, cv, hv⟩ := HD.out.kind (x := x) (by omega)
            go_simp
            refine hK.out _ _ trivial (fun _ => ?_)
            clear cv hK K
            have hw3 : IntKind.i64.wrap ((v : Int) + (q : Int) * 6) = (v : Int) + (q : Int) * 6 := wrap_bit _ (by omega) (by omega)
            refine wpAnyH_take (i := 9) (v := ?_) rfl (by kernel_rfl) (by kernel_rfl) (by kernel_rfl) (fun _ _ _ h => by cases h.1) (Or.inl ⟨by rfl, ?_⟩) trivial ?_
            case refine_2 => intro w _; first | (go_simp; rfl) | go_simp
            simp only [Act.put, List.getElem_toArray, List.getElem_cons_succ, List.getElem_cons_zero, List.setIfInBounds_toArray, List.set_cons_zero, List.set_cons_succ]
            refine wpAnyH_take (i := 10) (v := ?_) rfl (by kernel_rfl) (by kernel_rfl) (by kernel_rfl) (fun _ _ _ h => by cases h.1) (Or.inl ⟨by rfl, ?_⟩) trivial ?_
            case refine_2 => intro w _; first | (go_simp; rfl) | go_simp
            simp only [Act.put, List.getElem_toArray, List.getElem_cons_succ, List.getElem_cons_zero, List.setIfInBounds_toArray, List.set_cons_zero, List.set_cons_succ]
            refine wpAnyH_ready (rs := [11]) (by kernel_rfl) (by simp) ?_
            refine AllReadyH.cons rfl (fun K hK => ?_) AllReadyH.nil
            go_simp
            refine hK.out _ _ trivial (fun _ => ?_)
            have hD2 := HD.out.allocA
            obtain ⟨V12, hV⟩ : ∃ X, V10.alloc (.cells #[.int .i64 0, .int .i64 0, .int .i64 0] 24) = X := ⟨_, rfl⟩
            obtain ⟨A, hA⟩ : ∃ Y, V10.heap.size = Y := ⟨_, rfl⟩
            rw [hV, hA] at hD2
            rw [hV, hA]
            have HD := Lib.hid hD2
            clear hV hA hD2 hK K
            refine wpAnyH_ready (rs := [12]) (by kernel_rfl) (by simp) ?_
            refine AllReadyH.cons rfl (fun K hK => ?_) AllReadyH.nil
            obtain ⟨hA1, hA2⟩ := HD.out.b A rfl
            obtain ⟨⟨s1, s2⟩, ⟨s3, s4⟩, ⟨s5, s6⟩, _⟩ := Box3.puts hA2 ⟨(v : Int) + (q : Int) * 6, 0, 0⟩
            have HF := Lib.hid (HD.out.put ((v : Int) + (q : Int) * 6))
            go_simp
            refine hK.out _ _ trivial (fun _ => ?_)
            clear s1 s2 s3 s4 s5 s6 hA1 hA2 hK K
            refine wpAnyH_done (by kernel_rfl) ?_ _
            exact ⟨rfl, A, _, _, _, _, _, _, _, _, _, _, rfl, HF.out, by omega, by omega⟩
          refine AllReadyH.cons rfl (fun K hK => ?_) AllReadyH.nil
          go_simp
          refine hK.out _ _ trivial (fun _ => ?_)
          have hD2 := HD.out.allocA
          obtain ⟨V14, hV⟩ : ∃ X, V10.alloc (.cells #[.int .i64 0, .int .i64 0, .int .i64 0] 24) = X := ⟨_, rfl⟩
          obtain ⟨A, hA⟩ : ∃ Y, V10.heap.size = Y := ⟨_, rfl⟩
          rw [hV, hA] at hD2
          rw [hV, hA]
          have HD := Lib.hid hD2
          clear hV hA hD2 hK K
          refine wpAnyH_ready (rs := [4]) (by kernel_rfl) (by simp) ?_
          refine AllReadyH.cons rfl (fun K hK => ?_) AllReadyH.nil
          obtain ⟨v, cv, hv⟩ := HD.out.kind (x := x) (by omega)
          go_simp
          refine hK.out _ _ trivial (fun _ => ?_)
          clear cv hK K
          have hw3 : IntKind.i64.wrap ((v : Int) + (q : Int) * 6) = (v : Int) + (q : Int) * 6 := wrap_bit _ (by omega) (by omega)
          refine wpAnyH_take (i := 9) (v := ?_) rfl (by kernel_rfl) (by kernel_rfl) (by kernel_rfl) (fun _ _ _ h => by cases h.1) (Or.inl ⟨by rfl, ?_⟩) trivial ?_
          case refine_2 => intro w _; first | (go_simp; rfl) | go_simp
          simp only [Act.put, List.getElem_toArray, List.getElem_cons_succ, List.getElem_cons_zero, List.setIfInBounds_toArray, List.set_cons_zero, List.set_cons_succ]
          refine wpAnyH_take (i := 10) (v := ?_) rfl (by kernel_rfl) (by kernel_rfl) (by kernel_rfl) (fun _ _ _ h => by cases h.1) (Or.inl ⟨by rfl, ?_⟩) trivial ?_
          case refine_2 => intro w _; first | (go_simp; rfl) | go_simp
          simp only [Act.put, List.getElem_toArray, List.getElem_cons_succ, List.getElem_cons_zero, List.setIfInBounds_toArray, List.set_cons_zero, List.set_cons_succ]
          refine wpAnyH_ready (rs := [12]) (by kernel_rfl) (by simp) ?_
          refine AllReadyH.cons rfl (fun K hK => ?_) AllReadyH.nil
          obtain ⟨hA1, hA2⟩ := HD.out.b A rfl
          obtain ⟨⟨s1, s2⟩, ⟨s3, s4⟩, ⟨s5, s6⟩, _⟩ := Box3.puts hA2 ⟨(v : Int) + (q : Int) * 6, 0, 0⟩
          have HF := Lib.hid (HD.out.put ((v : Int) + (q : Int) * 6))
          go_simp
          refine hK.out _ _ trivial (fun _ => ?_)
          clear s1 s2 s3 s4 s5 s6 hA1 hA2 hK K
          refine wpAnyH_done (by kernel_rfl) ?_ _
          exact ⟨rfl, A, _, _, _, _, _, _, _, _, _, _, rfl, HF.out, by omega, by omega⟩
        refine AllReadyH.cons rfl (fun K hK => ?_) AllReadyH.nil
        go_simp
        refine hK.out _ _ trivial (fun _ => ?_)
        have hD2 := HD.out.allocA
        obtain ⟨V17, hV⟩ : ∃ X, V2.alloc (.cells #[.int .i64 0, .int .i64 0, .int .i64 0] 24) = X := ⟨_, rfl⟩
        obtain ⟨A, hA⟩ : ∃ Y, V2.heap.size = Y := ⟨_, rfl⟩
        rw [hV, hA] at hD2
        rw [hV, hA]
        have HD := Lib.hid hD2
        clear hV hA hD2 hK K
        refine wpAnyH_ready (rs := [4, 6]) (by kernel_rfl) (by simp) ?_
        refine AllReadyH.cons rfl (fun K hK => ?_) ?_
        · skip
          obtain ⟨v, cv, hv⟩ := HD.out.kind (x := x) (by omega)
          go_simp
          refine hK.out _ _ trivial (fun _ => ?_)
          clear cv hK K
          refine wpAnyH_ready (rs := [6]) (by kernel_rfl) (by simp) ?_
          refine AllReadyH.cons rfl (fun K hK => ?_) AllReadyH.nil
          go_simp
          refine (pick_any n₀ B _ 60 V17 HD.out.rd (by omega)).mono ?_
          rintro e V19 ⟨y, ⟨rfl, y0, y1, _⟩, hR, hg, -⟩
          have y9 := y1 (by omega)
          obtain ⟨y, rfl⟩ : ∃ z : Nat, y = (z : Int) := ⟨y.toNat, by omega⟩
          refine hK.out _ _ trivial (fun _ => ?_)
          have HD := Lib.hid (HD.out.pick hR hg)
          have hq : Int.tdiv (y : Int) 59 = ((y / 59 : Nat) : Int) := rfl
          obtain ⟨q, hqq⟩ : ∃ q, y / 59 = q := ⟨_, rfl⟩
          have hq1 : q ≤ 1 := by omega
          rw [hqq] at hq
          have hw1 : IntKind.i64.wrap (q : Int) = (q : Int) := wrap_bit _ (by omega) (by omega)
          have hw2 : IntKind.i64.wrap ((q : Int) * 6) = (q : Int) * 6 := wrap_bit _ (by omega) (by omega)
          clear hqq hR hg y1 hK K
          have hw3 : IntKind.i64.wrap ((v : Int) + (q : Int) * 6) = (v : Int) + (q : Int) * 6 := wrap_bit _ (by omega) (by omega)
          refine wpAnyH_take (i := 7) (v := ?_) rfl (by kernel_rfl) (by kernel_rfl) (by kernel_rfl) (fun _ _ _ h => by cases h.1) (Or.inl ⟨by rfl, ?_⟩) trivial ?_
          case refine_2 => intro w _; first | (go_simp; rfl) | go_simp
          simp only [Act.put, List.getElem_toArray, List.getElem_cons_succ, List.getElem_cons_zero, List.setIfInBounds_toArray, List.set_cons_zero, List.set_cons_succ]
          refine wpAnyH_take (i := 8) (v := ?_) rfl (by kernel_rfl) (by kernel_rfl) (by kernel_rfl) (fun _ _ _ h => by cases h.1) (Or.inl ⟨by rfl, ?_⟩) trivial ?_
          case refine_2 => intro w _; first | (go_simp; rfl) | go_simp
          simp only [Act.put, List.getElem_toArray, List.getElem_cons_succ, List.getElem_cons_zero, List.setIfInBounds_toArray, List.set_cons_zero, List.set_cons_succ]
          refine wpAnyH_take (i := 9) (v := ?_) rfl (by kernel_rfl) (by kernel_rfl) (by kernel_rfl) (fun _ _ _ h => by cases h.1) (Or.inl ⟨by rfl, ?_⟩) trivial ?_
          case refine_2 => intro w _; first | (go_simp; rfl) | go_simp
          simp only [Act.put, List.getElem_toArray, List.getElem_cons_succ, List.getElem_cons_zero, List.setIfInBounds_toArray, List.set_cons_zero, List.set_cons_succ]
          refine wpAnyH_take (i := 10) (v := ?_) rfl (by kernel_rfl) (by kernel_rfl) (by kernel_rfl) (fun _ _ _ h => by cases h.1) (Or.inl ⟨by rfl, ?_⟩) trivial ?_
          case refine_2 => intro w _; first | (go_simp; rfl) | go_simp
          simp only [Act.put, List.getElem_toArray, List.getElem_cons_succ, List.getElem_cons_zero, List.setIfInBounds_toArray, List.set_cons_zero, List.set_cons_succ]
          refine wpAnyH_ready (rs := [12]) (by kernel_rfl) (by simp) ?_
          refine AllReadyH.cons rfl (fun K hK => ?_) AllReadyH.nil
          obtain ⟨hA1, hA2⟩ := HD.out.b A rfl
          obtain ⟨⟨s1, s2⟩, ⟨s3, s4⟩, ⟨s5, s6⟩, _⟩ := Box3.puts hA2 ⟨(v : Int) + (q : Int) * 6, 0, 0⟩
          have HF := Lib.hid (HD.out.put ((v : Int) + (q : Int) * 6))
          go_simp
          refine hK.out _ _ trivial (fun _ => ?_)
          clear s1 s2 s3 s4 s5 s6 hA1 hA2 hK K
          refine wpAnyH_done (by kernel_rfl) ?_ _
          exact ⟨rfl, A, _, _, _, _, _, _, _, _, _, _, rfl, HF.out, by omega, by omega⟩
        refine AllReadyH.cons rfl (fun K hK => ?_) AllReadyH.nil
        go_simp
        refine (pick_any n₀ B _ 60 V17 HD.out.rd (by omega)).mono ?_
        rintro e V21 ⟨y, ⟨rfl, y0, y1, _⟩, hR, hg, -⟩
        have y9 := y1 (by omega)
        obtain ⟨y, rfl⟩ : ∃ z : Nat, y = (z : Int) := ⟨y.toNat, by omega⟩
        refine hK.out _ _ trivial (fun _ => ?_)
        have HD := Lib.hid (HD.out.pick hR hg)
        have hq : Int.tdiv (y : Int) 59 = ((y / 59 : Nat) : Int) := rfl
        obtain ⟨q, hqq⟩ : ∃ q, y / 59 = q := ⟨_, rfl⟩
        have hq1 : q ≤ 1 := by omega
        rw [hqq] at hq
        have hw1 : IntKind.i64.wrap (q : Int) = (q : Int) := wrap_bit _ (by omega) (by omega)
        have hw2 : IntKind.i64.wrap ((q : Int) * 6) = (q : Int) * 6 := wrap_bit _ (by omega) (by omega)
        clear hqq hR hg y1 hK K
        refine wpAnyH_take (i := 7) (v := ?_) rfl (by kernel_rfl) (by kernel_rfl) (by kernel_rfl) (fun _ _ _ h => by cases h.1) (Or.inl ⟨by rfl, ?_⟩) trivial ?_
        case refine_2 => intro w _; first | (go_simp; rfl) | go_simp
        simp only [Act.put, List.getElem_toArray, List.getElem_cons_succ, List.getElem_cons_zero, List.setIfInBounds_toArray, List.set_cons_zero, List.set_cons_succ]
        refine wpAnyH_take (i := 8) (v := ?_) rfl (by kernel_rfl) (by kernel_rfl) (by kernel_rfl) (fun _ _ _ h => by cases h.1) (Or.inl ⟨by rfl, ?_⟩) trivial ?_
        case refine_2 => intro w _; first | (go_simp; rfl) | go_simp
        simp only [Act.put, List.getElem_toArray, List.getElem_cons_succ, List.getElem_cons_zero, List.setIfInBounds_toArray, List.set_cons_zero, List.set_cons_succ]
        refine wpAnyH_ready (rs := [4]) (by kernel_rfl) (by simp) ?_
        refine AllReadyH.cons rfl (fun K hK => ?_) AllReadyH.nil
        obtain ⟨v, cv, hv⟩ := HD.out.kind (x := x) (by omega)
        go_simp
        refine hK.out _ _ trivial (fun _ => ?_)
        clear cv hK K
        have hw3 : IntKind.i64.wrap ((v : Int) + (q : Int) * 6) = (v : Int) + (q : Int) * 6 := wrap_bit _ (by omega) (by omega)
        refine wpAnyH_take (i := 9) (v := ?_) rfl (by kernel_rfl) (by kernel_rfl) (by kernel_rfl) (fun _ _ _ h => by cases h.1) (Or.inl ⟨by rfl, ?_⟩) trivial ?_
        case refine_2 => intro w _; first | (go_simp; rfl) | go_simp
        simp only [Act.put, List.getElem_toArray, List.getElem_cons_succ, List.getElem_cons_zero, List.setIfInBounds_toArray, List.set_cons_zero, List.set_cons_succ]
        refine wpAnyH_take (i := 10) (v := ?_) rfl (by kernel_rfl) (by kernel_rfl) (by kernel_rfl) (fun _ _ _ h => by cases h.1) (Or.inl ⟨by rfl, ?_⟩) trivial ?_
        case refine_2 => intro w _; first | (go_simp; rfl) | go_simp
        simp only [Act.put, List.getElem_toArray, List.getElem_cons_succ, List.getElem_cons_zero, List.setIfInBounds_toArray, List.set_cons_zero, List.set_cons_succ]
        refine wpAnyH_ready (rs := [12]) (by kernel_rfl) (by simp) ?_
        refine AllReadyH.cons rfl (fun K hK => ?_) AllReadyH.nil
        obtain ⟨hA1, hA2⟩ := HD.out.b A rfl
        obtain ⟨⟨s1, s2⟩, ⟨s3, s4⟩, ⟨s5, s6⟩, _⟩ := Box3.puts hA2 ⟨(v : Int) + (q : Int) * 6, 0, 0⟩
        have HF := Lib.hid (HD.out.put ((v : Int) + (q : Int) * 6))
        go_simp
        refine hK.out _ _ trivial (fun _ => ?_)
        clear s1 s2 s3 s4 s5 s6 hA1 hA2 hK K
        refine wpAnyH_done (by kernel_rfl) ?_ _
        exact ⟨rfl, A, _, _, _, _, _, _, _, _, _, _, rfl, HF.out, by omega, by omega⟩
      refine AllReadyH.cons rfl (fun K hK => ?_) AllReadyH.nil
      go_simp
      refine hK.out _ _ trivial (fun _ => ?_)
      have hD2 := HD.out.allocA
      obtain ⟨V24, hV⟩ : ∃ X, V1.alloc (.cells #[.int .i64 0, .int .i64 0, .int .i64 0] 24) = X := ⟨_, rfl⟩
      obtain ⟨A, hA⟩ : ∃ Y, V1.heap.size = Y := ⟨_, rfl⟩
      rw [hV, hA] at hD2
      rw [hV, hA]
      have HD := Lib.hid hD2
      clear hV hA hD2 hK K
      refine wpAnyH_ready (rs := [2]) (by kernel_rfl) (by simp) ?_
      refine AllReadyH.cons rfl (fun K hK => ?_) AllReadyH.nil
      go_simp
      refine (pick_any n₀ B _ 9 V24 HD.out.rd (by omega)).mono ?_
      rintro e V25 ⟨x, ⟨rfl, x0, x1, _⟩, hR, hg, -⟩
      have x9 := x1 (by omega)
      obtain ⟨x, rfl⟩ : ∃ z : Nat, x = (z : Int) := ⟨x.toNat, by omega⟩
      refine hK.out _ _ trivial (fun _ => ?_)
      have HD := Lib.hid (HD.out.pick hR hg)
      clear hR hg x1 hK K
      refine wpAnyH_take (i := 3) (v := ?_) rfl (by kernel_rfl) (by kernel_rfl) (by kernel_rfl) (fun _ _ _ h => by cases h.1) (Or.inl ⟨by rfl, ?_⟩) trivial ?_
      case refine_2 => intro w _; first | (go_simp; rfl) | go_simp
      simp only [Act.put, List.getElem_toArray, List.getElem_cons_succ, List.getElem_cons_zero, List.setIfInBounds_toArray, List.set_cons_zero, List.set_cons_succ]
      refine wpAnyH_ready (rs := [4, 6]) (by kernel_rfl) (by simp) ?_
      refine AllReadyH.cons rfl (fun K hK => ?_) ?_
      · skip
        obtain ⟨v, cv, hv⟩ := HD.out.kind (x := x) (by omega)
        go_simp
        refine hK.out _ _ trivial (fun _ => ?_)
        clear cv hK K
        refine wpAnyH_ready (rs := [6]) (by kernel_rfl) (by simp) ?_
        refine AllReadyH.cons rfl (fun K hK => ?_) AllReadyH.nil
        go_simp
        refine (pick_any n₀ B _ 60 V25 HD.out.rd (by omega)).mono ?_
        rintro e V27 ⟨y, ⟨rfl, y0, y1, _⟩, hR, hg, -⟩
        have y9 := y1 (by omega)
        obtain ⟨y, rfl⟩ : ∃ z : Nat, y = (z : Int) := ⟨y.toNat, by omega⟩
        refine hK.out _ _ trivial (fun _ => ?_)
        have HD := Lib.hid (HD.out.pick hR hg)
        have hq : Int.tdiv (y : Int) 59 = ((y / 59 : Nat) : Int) := rfl
        obtain ⟨q, hqq⟩ : ∃ q, y / 59 = q := ⟨_, rfl⟩
        have hq1 : q ≤ 1 := by omega
        rw [hqq] at hq
        have hw1 : IntKind.i64.wrap (q : Int) = (q : Int) := wrap_bit _ (by omega) (by omega)
        have hw2 : IntKind.i64.wrap ((q : Int) * 6) = (q : Int) * 6 := wrap_bit _ (by omega) (by omega)
        clear hqq hR hg y1 hK K
        have hw3 : IntKind.i64.wrap ((v : Int) + (q : Int) * 6) = (v : Int) + (q : Int) * 6 := wrap_bit _ (by omega) (by omega)
        refine wpAnyH_take (i := 7) (v := ?_) rfl (by kernel_rfl) (by kernel_rfl) (by kernel_rfl) (fun _ _ _ h => by cases h.1) (Or.inl ⟨by rfl, ?_⟩) trivial ?_
        case refine_2 => intro w _; first | (go_simp; rfl) | go_simp
        simp only [Act.put, List.getElem_toArray, List.getElem_cons_succ, List.getElem_cons_zero, List.setIfInBounds_toArray, List.set_cons_zero, List.set_cons_succ]
        refine wpAnyH_take (i := 8) (v := ?_) rfl (by kernel_rfl) (by kernel_rfl) (by kernel_rfl) (fun _ _ _ h => by cases h.1) (Or.inl ⟨by rfl, ?_⟩) trivial ?_
        case refine_2 => intro w _; first | (go_simp; rfl) | go_simp
        simp only [Act.put, List.getElem_toArray, List.getElem_cons_succ, List.getElem_cons_zero, List.setIfInBounds_toArray, List.set_cons_zero, List.set_cons_succ]
        refine wpAnyH_take (i := 9) (v := ?_) rfl (by kernel_rfl) (by kernel_rfl) (by kernel_rfl) (fun _ _ _ h => by cases h.1) (Or.inl ⟨by rfl, ?_⟩) trivial ?_
        case refine_2 => intro w _; first | (go_simp; rfl) | go_simp
        simp only [Act.put, List.getElem_toArray, List.getElem_cons_succ, List.getElem_cons_zero, List.setIfInBounds_toArray, List.set_cons_zero, List.set_cons_succ]
        refine wpAnyH_take (i := 10) (v := ?_) rfl (by kernel_rfl) (by kernel_rfl) (by kernel_rfl) (fun _ _ _ h => by cases h.1) (Or.inl ⟨by rfl, ?_⟩) trivial ?_
        case refine_2 => intro w _; first | (go_simp; rfl) | go_simp
        simp only [Act.put, List.getElem_toArray, List.getElem_cons_succ, List.getElem_cons_zero, List.setIfInBounds_toArray, List.set_cons_zero, List.set_cons_succ]
        refine wpAnyH_ready (rs := [12]) (by kernel_rfl) (by simp) ?_
        refine AllReadyH.cons rfl (fun K hK => ?_) AllReadyH.nil
        obtain ⟨hA1, hA2⟩ := HD.out.b A rfl
        obtain ⟨⟨s1, s2⟩, ⟨s3, s4⟩, ⟨s5, s6⟩, _⟩ := Box3.puts hA2 ⟨(v : Int) + (q : Int) * 6, 0, 0⟩
        have HF := Lib.hid (HD.out.put ((v : Int) + (q : Int) * 6))
        go_simp
        refine hK.out _ _ trivial (fun _ => ?_)
        clear s1 s2 s3 s4 s5 s6 hA1 hA2 hK K
        refine wpAnyH_done (by kernel_rfl) ?_ _
        exact ⟨rfl, A, _, _, _, _, _, _, _, _, _, _, rfl, HF.out, by omega, by omega⟩
      refine AllReadyH.cons rfl (fun K hK => ?_) AllReadyH.nil
      go_simp
      refine (pick_any n₀ B _ 60 V25 HD.out.rd (by omega)).mono ?_
      rintro e V29 ⟨y, ⟨rfl, y0, y1, _⟩, hR, hg, -⟩
      have y9 := y1 (by omega)
      obtain ⟨y, rfl⟩ : ∃ z : Nat, y = (z : Int) := ⟨y.toNat, by omega⟩
      refine hK.out _ _ trivial (fun _ => ?_)
      have HD := Lib.hid (HD.out.pick hR hg)
      have hq : Int.tdiv (y : Int) 59 = ((y / 59 : Nat) : Int) := rfl
      obtain ⟨q, hqq⟩ : ∃ q, y / 59 = q := ⟨_, rfl⟩
      have hq1 : q ≤ 1 := by omega
      rw [hqq] at hq
      have hw1 : IntKind.i64.wrap (q : Int) = (q : Int) := wrap_bit _ (by omega) (by omega)
      have hw2 : IntKind.i64.wrap ((q : Int) * 6) = (q : Int) * 6 := wrap_bit _ (by omega) (by omega)
      clear hqq hR hg y1 hK K
      refine wpAnyH_take (i := 7) (v := ?_) rfl (by kernel_rfl) (by kernel_rfl) (by kernel_rfl) (fun _ _ _ h => by cases h.1) (Or.inl ⟨by rfl, ?_⟩) trivial ?_
      case refine_2 => intro w _; first | (go_simp; rfl) | go_simp
      simp only [Act.put, List.getElem_toArray, List.getElem_cons_succ, List.getElem_cons_zero, List.setIfInBounds_toArray, List.set_cons_zero, List.set_cons_succ]
      refine wpAnyH_take (i := 8) (v := ?_) rfl (by kernel_rfl) (by kernel_rfl) (by kernel_rfl) (fun _ _ _ h => by cases h.1) (Or.inl ⟨by rfl, ?_⟩) trivial ?_
      case refine_2 => intro w _; first | (go_simp; rfl) | go_simp
      simp only [Act.put, List.getElem_toArray, List.getElem_cons_succ, List.getElem_cons_zero, List.setIfInBounds_toArray, List.set_cons_zero, List.set_cons_succ]
      refine wpAnyH_ready (rs := [4]) (by kernel_rfl) (by simp) ?_
      refine AllReadyH.cons rfl (fun K hK => ?_) AllReadyH.nil
      obtain ⟨v, cv, hv⟩ := HD.out.kind (x := x) (by omega)
      go_simp
      refine hK.out _ _ trivial (fun _ => ?_)
      clear cv hK K
      have hw3 : IntKind.i64.wrap ((v : Int) + (q : Int) * 6) = (v : Int) + (q : Int) * 6 := wrap_bit _ (by omega) (by omega)
      refine wpAnyH_take (i := 9) (v := ?_) rfl (by kernel_rfl) (by kernel_rfl) (by kernel_rfl) (fun _ _ _ h => by cases h.1) (Or.inl ⟨by rfl, ?_⟩) trivial ?_
      case refine_2 => intro w _; first | (go_simp; rfl) | go_simp
      simp only [Act.put, List.getElem_toArray, List.getElem_cons_succ, List.getElem_cons_zero, List.setIfInBounds_toArray, List.set_cons_zero, List.set_cons_succ]
      refine wpAnyH_take (i := 10) (v := ?_) rfl (by kernel_rfl) (by kernel_rfl) (by kernel_rfl) (fun _ _ _ h => by cases h.1) (Or.inl ⟨by rfl, ?_⟩) trivial ?_
      case refine_2 => intro w _; first | (go_simp; rfl) | go_simp
      simp only [Act.put, List.getElem_toArray, List.getElem_cons_succ, List.getElem_cons_zero, List.setIfInBounds_toArray, List.set_cons_zero, List.set_cons_succ]
      refine wpAnyH_ready (rs := [12]) (by kernel_rfl) (by simp) ?_
      refine AllReadyH.cons rfl (fun K hK => ?_) AllReadyH.nil
      obtain ⟨hA1, hA2⟩ := HD.out.b A rfl
      obtain ⟨⟨s1, s2⟩, ⟨s3, s4⟩, ⟨s5, s6⟩, _⟩ := Box3.puts hA2 ⟨(v : Int) + (q : Int) * 6, 0, 0⟩
      have HF := Lib.hid (HD.out.put ((v : Int) + (q : Int) * 6))
      go_simp
      refine hK.out _ _ trivial (fun _ => ?_)
      clear s1 s2 s3 s4 s5 s6 hA1 hA2 hK K
      refine wpAnyH_done (by kernel_rfl) ?_ _
      exact ⟨rfl, A, _, _, _, _, _, _, _, _, _, _, rfl, HF.out, by omega, by omega⟩
    refine AllReadyH.cons rfl (fun K hK => ?_) ?_
    · skip
      go_simp
      refine (pick_any n₀ B _ 9 V HD.out.rd (by omega)).mono ?_
      rintro e V32 ⟨x, ⟨rfl, x0, x1, _⟩, hR, hg, -⟩
      have x9 := x1 (by omega)
      obtain ⟨x, rfl⟩ : ∃ z : Nat, x = (z : Int) := ⟨x.toNat, by omega⟩
      refine hK.out _ _ trivial (fun _ => ?_)
      have HD := Lib.hid (HD.out.pick hR hg)
      clear hR hg x1 hK K
      refine wpAnyH_ready (rs := [0, 6, 11]) (by kernel_rfl) (by simp) ?_
      refine AllReadyH.cons rfl (fun K hK => ?_) ?_
      · skip
        go_simp
        refine hK.out _ _ trivial (fun _ => ?_)
        have hD2 := HD.out.allocL
        obtain ⟨V33, hV⟩ : ∃ X, V32.alloc (.cells kindC 3) = X := ⟨_, rfl⟩
        obtain ⟨L, hL⟩ : ∃ Y, V32.heap.size = Y := ⟨_, rfl⟩
        rw [hV, hL] at hD2
        rw [hV, hL]
        have HD := Lib.hid hD2
        clear hV hL hD2 hK K
        refine wpAnyH_take (i := 3) (v := ?_) rfl (by kernel_rfl) (by kernel_rfl) (by kernel_rfl) (fun _ _ _ h => by cases h.1) (Or.inl ⟨by rfl, ?_⟩) trivial ?_
        case refine_2 => intro w _; first | (go_simp; rfl) | go_simp
        simp only [Act.put, List.getElem_toArray, List.getElem_cons_succ, List.getElem_cons_zero, List.setIfInBounds_toArray, List.set_cons_zero, List.set_cons_succ]
        refine wpAnyH_ready (rs := [4, 6, 11]) (by kernel_rfl) (by simp) ?_
        refine AllReadyH.cons rfl (fun K hK => ?_) ?_
        · skip
          obtain ⟨v, cv, hv⟩ := HD.out.kind (x := x) (by omega)
          go_simp
          refine hK.out _ _ trivial (fun _ => ?_)
          clear cv hK K
          refine wpAnyH_ready (rs := [6, 11]) (by kernel_rfl) (by simp) ?_
          refine AllReadyH.cons rfl (fun K hK => ?_) ?_
          · skip
            go_simp
            refine (pick_any n₀ B _ 60 V33 HD.out.rd (by omega)).mono ?_
            rintro e V35 ⟨y, ⟨rfl, y0, y1, _⟩, hR, hg, -⟩
            have y9 := y1 (by omega)
            obtain ⟨y, rfl⟩ : ∃ z : Nat, y = (z : Int) := ⟨y.toNat, by omega⟩
            refine hK.out _ _ trivial (fun _ => ?_)
            have HD := Lib.hid (HD.out.pick hR hg)
            have hq : Int.tdiv (y : Int) 59 = ((y / 59 : Nat) : Int) := rfl
            obtain ⟨q, hqq⟩ : ∃ q, y / 59 = q := ⟨_, rfl⟩
            have hq1 : q ≤ 1 := by omega
            rw [hqq] at hq
            have hw1 : IntKind.i64.wrap (q : Int) = (q : Int) := wrap_bit _ (by omega) (by omega)
            have hw2 : IntKind.i64.wrap ((q : Int) * 6) = (q : Int) * 6 := wrap_bit _ (by omega) (by omega)
            clear hqq hR hg y1 hK K
            have hw3 : IntKind.i64.wrap ((v : Int) + (q : Int) * 6) = (v : Int) + (q : Int) * 6 := wrap_bit _ (by omega) (by omega)
            refine wpAnyH_take (i := 7) (v := ?_) rfl (by kernel_rfl) (by kernel_rfl) (by kernel_rfl) (fun _ _ _ h => by cases h.1) (Or.inl ⟨by rfl, ?_⟩) trivial ?_
            case refine_2 => intro w _; first | (go_simp; rfl) | go_simp
            simp only [Act.put, List.getElem_toArray, List.getElem_cons_succ, List.getElem_cons_zero, List.setIfInBounds_toArray, List.set_cons_zero, List.set_cons_succ]
            refine wpAnyH_take (i := 8) (v := ?_) rfl (by kernel_rfl) (by kernel_rfl) (by kernel_rfl) (fun _ _ _ h => by cases h.1) (Or.inl ⟨by rfl, ?_⟩) trivial ?_
            case refine_2 => intro w _; first | (go_simp; rfl) | go_simp
            simp only [Act.put, List.getElem_toArray, List.getElem_cons_succ, List.getElem_cons_zero, List.setIfInBounds_toArray, List.set_cons_zero, List.set_cons_succ]
            refine wpAnyH_take (i := 9) (v := ?_) rfl (by kernel_rfl) (by kernel_rfl) (by kernel_rfl) (fun _ _ _ h => by cases h.1) (Or.inl ⟨by rfl, ?_⟩) trivial ?_
            case refine_2 => intro w _; first | (go_simp; rfl) | go_simp
            simp only [Act.put, List.getElem_toArray, List.getElem_cons_succ, List.getElem_cons_zero, List.setIfInBounds_toArray, List.set_cons_zero, List.set_cons_succ]
            refine wpAnyH_take (i := 10) (v := ?_) rfl (by kernel_rfl) (by kernel_rfl) (by kernel_rfl) (fun _ _ _ h => by cases h.1) (Or.inl ⟨by rfl, ?_⟩) trivial ?_
            case refine_2 => intro w _; first | (go_simp; rfl) | go_simp
            simp only [Act.put, List.getElem_toArray, List.getElem_cons_succ, List.getElem_cons_zero, List.setIfInBounds_toArray, List.set_cons_zero, List.set_cons_succ]
            refine wpAnyH_ready (rs := [11]) (by kernel_rfl) (by simp) ?_
            refine AllReadyH.cons rfl (fun K hK => ?_) AllReadyH.nil
            go_simp
            refine hK.out _ _ trivial (fun _ => ?_)
            have hD2 := HD.out.allocA
            obtain ⟨V36, hV⟩ : ∃ X, V35.alloc (.cells #[.int .i64 0, .int .i64 0, .int .i64 0] 24) = X := ⟨_, rfl⟩
            obtain ⟨A, hA⟩ : ∃ Y, V35.heap.size = Y := ⟨_, rfl⟩
            rw [hV, hA] at hD2
            rw [hV, hA]
            have HD := Lib.hid hD2
            clear hV hA hD2 hK K
            refine wpAnyH_ready (rs := [12]) (by kernel_rfl) (by simp) ?_
            refine AllReadyH.cons rfl (fun K hK => ?_) AllReadyH.nil
            obtain ⟨hA1, hA2⟩ := HD.out.b A rfl
            obtain ⟨⟨s1, s2⟩, ⟨s3, s4⟩, ⟨s5, s6⟩, _⟩ := Box3.puts hA2 ⟨(v : Int) + (q : Int) * 6, 0, 0⟩
            have HF := Lib.hid (HD.out.put ((v : Int) + (q : Int) * 6))
            go_simp
            refine hK.out _ _ trivial (fun _ => ?_)
            clear s1 s2 s3 s4 s5 s6 hA1 hA2 hK K
            refine wpAnyH_done (by kernel_rfl) ?_ _
            exact ⟨rfl, A, _, _, _, _, _, _, _, _, _, _, rfl, HF.out, by omega, by omega⟩
          refine AllReadyH.cons rfl (fun K hK => ?_) AllReadyH.nil
          go_simp
          refine hK.out _ _ trivial (fun _ => ?_)
          have hD2 := HD.out.allocA
          obtain ⟨V38, hV⟩ : ∃ X, V33.alloc (.cells #[.int .i64 0, .int .i64 0, .int .i64 0] 24) = X := ⟨_, rfl⟩
          obtain ⟨A, hA⟩ : ∃ Y, V33.heap.size = Y := ⟨_, rfl⟩
          rw [hV, hA] at hD2
          rw [hV, hA]
          have HD := Lib.hid hD2
          clear hV hA hD2 hK K
          refine wpAnyH_ready (rs := [6]) (by kernel_rfl) (by simp) ?_
          refine AllReadyH.cons rfl (fun K hK => ?_) AllReadyH.nil
          go_simp
          refine (pick_any n₀ B _ 60 V38 HD.out.rd (by omega)).mono ?_
          rintro e V39 ⟨y, ⟨rfl, y0, y1, _⟩, hR, hg, -⟩
          have y9 := y1 (by omega)
          obtain ⟨y, rfl⟩ : ∃ z : Nat, y = (z : Int) := ⟨y.toNat, by omega⟩
          refine hK.out _ _ trivial (fun _ => ?_)
          have HD := Lib.hid (HD.out.pick hR hg)
          have hq : Int.tdiv (y : Int) 59 = ((y / 59 : Nat) : Int) := rfl
          obtain ⟨q, hqq⟩ : ∃ q, y / 59 = q := ⟨_, rfl⟩
          have hq1 : q ≤ 1 := by omega
          rw [hqq] at hq
          have hw1 : IntKind.i64.wrap (q : Int) = (q : Int) := wrap_bit _ (by omega) (by omega)
          have hw2 : IntKind.i64.wrap ((q : Int) * 6) = (q : Int) * 6 := wrap_bit _ (by omega) (by omega)
          clear hqq hR hg y1 hK K
          have hw3 : IntKind.i64.wrap ((v : Int) + (q : Int) * 6) = (v : Int) + (q : Int) * 6 := wrap_bit _ (by omega) (by omega)
          refine wpAnyH_take (i := 7) (v := ?_) rfl (by kernel_rfl) (by kernel_rfl) (by kernel_rfl) (fun _ _ _ h => by cases h.1) (Or.inl ⟨by rfl, ?_⟩) trivial ?_
          case refine_2 => intro w _; first | (go_simp; rfl) | go_simp
          simp only [Act.put, List.getElem_toArray, List.getElem_cons_succ, List.getElem_cons_zero, List.setIfInBounds_toArray, List.set_cons_zero, List.set_cons_succ]
          refine wpAnyH_take (i := 8) (v := ?_) rfl (by kernel_rfl) (by kernel_rfl) (by kernel_rfl) (fun _ _ _ h => by cases h.1) (Or.inl ⟨by rfl, ?_⟩) trivial ?_
          case refine_2 => intro w _; first | (go_simp; rfl) | go_simp
          simp only [Act.put, List.getElem_toArray, List.getElem_cons_succ, List.getElem_cons_zero, List.setIfInBounds_toArray, List.set_cons_zero, List.set_cons_succ]
          refine wpAnyH_take (i := 9) (v := ?_) rfl (by kernel_rfl) (by kernel_rfl) (by kernel_rfl) (fun _ _ _ h => by cases h.1) (Or.inl ⟨by rfl, ?_⟩) trivial ?_
          case refine_2 => intro w _; first | (go_simp; rfl) | go_simp
          simp only [Act.put, List.getElem_toArray, List.getElem_cons_succ, List.getElem_cons_zero, List.setIfInBounds_toArray, List.set_cons_zero, List.set_cons_succ]
          refine wpAnyH_take (i := 10) (v := ?_) rfl (by kernel_rfl) (by kernel_rfl) (by kernel_rfl) (fun _ _ _ h => by cases h.1) (Or.inl ⟨by rfl, ?_⟩) trivial ?_
          case refine_2 => intro w _; first | (go_simp; rfl) | go_simp
          simp only [Act.put, List.getElem_toArray, List.getElem_cons_succ, List.getElem_cons_zero, List.setIfInBounds_toArray, List.set_cons_zero, List.set_cons_succ]
          refine wpAnyH_ready (rs := [12]) (by kernel_rfl) (by simp) ?_
          refine AllReadyH.cons rfl (fun K hK => ?_) AllReadyH.nil
          obtain ⟨hA1, hA2⟩ := HD.out.b A rfl
          obtain ⟨⟨s1, s2⟩, ⟨s3, s4⟩, ⟨s5, s6⟩, _⟩ := Box3.puts hA2 ⟨(v : Int) + (q : Int) * 6, 0, 0⟩
          have HF := Lib.hid (HD.out.put ((v : Int) + (q : Int) * 6))
          go_simp
          refine hK.out _ _ trivial (fun _ => ?_)
          clear s1 s2 s3 s4 s5 s6 hA1 hA2 hK K
          refine wpAnyH_done (by kernel_rfl) ?_ _
          exact ⟨rfl, A, _, _, _, _, _, _, _, _, _, _, rfl, HF.out, by omega, by omega⟩
        refine AllReadyH.cons rfl (fun K hK => ?_) ?_
        · skip
          go_simp
          refine (pick_any n₀ B _ 60 V33 HD.out.rd (by omega)).mono ?_
          rintro e V41 ⟨y, ⟨rfl, y0, y1, _⟩, hR, hg, -⟩
          have y9 := y1 (by omega)
          obtain ⟨y, rfl⟩ : ∃ z : Nat, y = (z : Int) := ⟨y.toNat, by omega⟩
          refine hK.out _ _ trivial (fun _ => ?_)
          have HD := Lib.hid (HD.out.pick hR hg)
          have hq : Int.tdiv (y : Int) 59 = ((y / 59 : Nat) : Int) := rfl
          obtain ⟨q, hqq⟩ : ∃ q, y / 59 = q := ⟨_, rfl⟩
          have hq1 : q ≤ 1 := by omega
          rw [hqq] at hq
          have hw1 : IntKind.i64.wrap (q : Int) = (q : Int) := wrap_bit _ (by omega) (by omega)
          have hw2 : IntKind.i64.wrap ((q : Int) * 6) = (q : Int) * 6 := wrap_bit _ (by omega) (by omega)
          clear hqq hR hg y1 hK K
          refine wpAnyH_take (i := 7) (v := ?_) rfl (by kernel_rfl) (by kernel_rfl) (by kernel_rfl) (fun _ _ _ h => by cases h.1) (Or.inl ⟨by rfl, ?_⟩) trivial ?_
          case refine_2 => intro w _; first | (go_simp; rfl) | go_simp
          simp only [Act.put, List.getElem_toArray, List.getElem_cons_succ, List.getElem_cons_zero, List.setIfInBounds_toArray, List.set_cons_zero, List.set_cons_succ]
          refine wpAnyH_take (i := 8) (v := ?_) rfl (by kernel_rfl) (by kernel_rfl) (by kernel_rfl) (fun _ _ _ h => by cases h.1) (Or.inl ⟨by rfl, ?_⟩) trivial ?_
          case refine_2 => intro w _; first | (go_simp; rfl) | go_simp
          simp only [Act.put, List.getElem_toArray, List.getElem_cons_succ, List.getElem_cons_zero, List.setIfInBounds_toArray, List.set_cons_zero, List.set_cons_succ]
          refine wpAnyH_ready (rs := [4, 11]) (by kernel_rfl) (by simp) ?_
          refine AllReadyH.cons rfl (fun K hK => ?_) ?_
          · skip
            obtain ⟨v, cv, hv⟩ := HD.out.kind (x := x) (by omega)
            go_simp
            refine hK.out _ _ trivial (fun _ => ?_)
            clear cv hK K
            have hw3 : IntKind.i64.wrap ((v : Int) + (q : Int) * 6) = (v : Int) + (q : Int) * 6 := wrap_bit _ (by omega) (by omega)
            refine wpAnyH_take (i := 9) (v := ?_) rfl (by kernel_rfl) (by kernel_rfl) (by kernel_rfl) (fun _ _ _ h => by cases h.1) (Or.inl ⟨by rfl, ?_⟩) trivial ?_
            case refine_2 => intro w _; first | (go_simp; rfl) | go_simp
            simp only [Act.put, List.getElem_toArray, List.getElem_cons_succ, List.getElem_cons_zero, List.setIfInBounds_toArray, List.set_cons_zero, List.set_cons_succ]
            refine wpAnyH_take (i := 10) (v := ?_) rfl (by kernel_rfl) (by kernel_rfl) (by kernel_rfl) (fun _ _ _ h => by cases h.1) (Or.inl ⟨by rfl, ?_⟩) trivial ?_
            case refine_2 => intro w _; first | (go_simp; rfl) | go_simp
            simp only [Act.put, List.getElem_toArray, List.getElem_cons_succ, List.getElem_cons_zero, List.setIfInBounds_toArray, List.set_cons_zero, List.set_cons_succ]
            refine wpAnyH_ready (rs := [11]) (by kernel_rfl) (by simp) ?_
            refine AllReadyH.cons rfl (fun K hK => ?_) AllReadyH.nil
            go_simp
            refine hK.out _ _ trivial (fun _ => ?_)
            have hD2 := HD.out.allocA
            obtain ⟨V43, hV⟩ : ∃ X, V41.alloc (.cells #[.int .i64 0, .int .i64 0, .int .i64 0] 24) = X := ⟨_, rfl⟩
            obtain ⟨A, hA⟩ : ∃ Y, V41.heap.size = Y := ⟨_, rfl⟩
            rw [hV, hA] at hD2
            rw [hV, hA]
            have HD := Lib.hid hD2
            clear hV hA hD2 hK K
            refine wpAnyH_ready (rs := [12]) (by kernel_rfl) (by simp) ?_
            refine AllReadyH.cons rfl (fun K hK => ?_) AllReadyH.nil
            obtain ⟨hA1, hA2⟩ := HD.out.b A rfl
            obtain ⟨⟨s1, s2⟩, ⟨s3, s4⟩, ⟨s5, s6⟩, _⟩ := Box3.puts hA2 ⟨(v : Int) + (q : Int) * 6, 0, 0⟩
            have HF := Lib.hid (HD.out.put ((v : Int) + (q : Int) * 6))
            go_simp
            refine hK.out _ _ trivial (fun _ => ?_)
            clear s1 s2 s3 s4 s5 s6 hA1 hA2 hK K
            refine wpAnyH_done (by kernel_rfl) ?_ _
            exact ⟨rfl, A, _, _, _, _, _, _, _, _, _, _, rfl, HF.out, by omega, by omega⟩
          refine AllReadyH.cons rfl (fun K hK => ?_) AllReadyH.nil
          go_simp
          refine hK.out _ _ trivial (fun _ => ?_)
          have hD2 := HD.out.allocA
          obtain ⟨V45, hV⟩ : ∃ X, V41.alloc (.cells #[.int .i64 0, .int .i64 0, .int .i64 0] 24) = X := ⟨_, rfl⟩
          obtain ⟨A, hA⟩ : ∃ Y, V41.heap.size = Y := ⟨_, rfl⟩
          rw [hV, hA] at hD2
          rw [hV, hA]
          have HD := Lib.hid hD2
          clear hV hA hD2 hK K
          refine wpAnyH_ready (rs := [4]) (by kernel_rfl) (by simp) ?_
          refine AllReadyH.cons rfl (fun K hK => ?_) AllReadyH.nil
          obtain ⟨v, cv, hv⟩ := HD.out.kind (x := x) (by omega)
          go_simp
          refine hK.out _ _ trivial (fun _ => ?_)
          clear cv hK K
          have hw3 : IntKind.i64.wrap ((v : Int) + (q : Int) * 6) = (v : Int) + (q : Int) * 6 := wrap_bit _ (by omega) (by omega)
          refine wpAnyH_take (i := 9) (v := ?_) rfl (by kernel_rfl) (by kernel_rfl) (by kernel_rfl) (fun _ _ _ h => by cases h.1) (Or.inl ⟨by rfl, ?_⟩) trivial ?_
          case refine_2 => intro w _; first | (go_simp; rfl) | go_simp
          simp only [Act.put, List.getElem_toArray, List.getElem_cons_succ, List.getElem_cons_zero, List.setIfInBounds_toArray, List.set_cons_zero, List.set_cons_succ]
          refine wpAnyH_take (i := 10) (v := ?_) rfl (by kernel_rfl) (by kernel_rfl) (by kernel_rfl) (fun _ _ _ h => by cases h.1) (Or.inl ⟨by rfl, ?_⟩) trivial ?_
          case refine_2 => intro w _; first | (go_simp; rfl) | go_simp
          simp only [Act.put, List.getElem_toArray, List.getElem_cons_succ, List.getElem_cons_zero, List.setIfInBounds_toArray, List.set_cons_zero, List.set_cons_succ]
          refine wpAnyH_ready (rs := [12]) (by kernel_rfl) (by simp) ?_
          refine AllReadyH.cons rfl (fun K hK => ?_) AllReadyH.nil
          obtain ⟨hA1, hA2⟩ := HD.out.b A rfl
          obtain ⟨⟨s1, s2⟩, ⟨s3, s4⟩, ⟨s5, s6⟩, _⟩ := Box3.puts hA2 ⟨(v : Int) + (q : Int) * 6, 0, 0⟩
          have HF := Lib.hid (HD.out.put ((v : Int) + (q : Int) * 6))
          go_simp
          refine hK.out _ _ trivial (fun _ => ?_)
          clear s1 s2 s3 s4 s5 s6 hA1 hA2 hK K
          refine wpAnyH_done (by kernel_rfl) ?_ _
          exact ⟨rfl, A, _, _, _, _, _, _, _, _, _, _, rfl, HF.out, by omega, by omega⟩
        refine AllReadyH.cons rfl (fun K hK => ?_) AllReadyH.nil
        go_simp
        refine hK.out _ _ trivial (fun _ => ?_)
        have hD2 := HD.out.allocA
        obtain ⟨V48, hV⟩ : ∃ X, V33.alloc (.cells #[.int .i64 0, .int .i64 0, .int .i64 0] 24) = X := ⟨_, rfl⟩
        obtain ⟨A, hA⟩ : ∃ Y, V33.heap.size = Y := ⟨_, rfl⟩
        rw [hV, hA] at hD2
        rw [hV, hA]
        have HD := Lib.hid hD2
        clear hV hA hD2 hK K
        refine wpAnyH_ready (rs := [4, 6]) (by kernel_rfl) (by simp) ?_
        refine AllReadyH.cons rfl (fun K hK => ?_) ?_
        · skip
          obtain ⟨v, cv, hv⟩ := HD.out.kind (x := x) (by omega)
          go_simp
          refine hK.out _ _ trivial (fun _ => ?_)
          clear cv hK K
          refine wpAnyH_ready (rs := [6]) (by kernel_rfl) (by simp) ?_
          refine AllReadyH.cons rfl (fun K hK => ?_) AllReadyH.nil
          go_simp
          refine (pick_any n₀ B _ 60 V48 HD.out.rd (by omega)).mono ?_
          rintro e V50 ⟨y, ⟨rfl, y0, y1, _⟩, hR, hg, -⟩
          have y9 := y1 (by omega)
          obtain ⟨y, rfl⟩ : ∃ z : Nat, y = (z : Int) := ⟨y.toNat, by omega⟩
          refine hK.out _ _ trivial (fun _ => ?_)
          have HD := Lib.hid (HD.out.pick hR hg)
          have hq : Int.tdiv (y : Int) 59 = ((y / 59 : Nat) : Int) := rfl
          obtain ⟨q, hqq⟩ : ∃ q, y / 59 = q := ⟨_, rfl⟩
          have hq1 : q ≤ 1 := by omega
          rw [hqq] at hq
          have hw1 : IntKind.i64.wrap (q : Int) = (q : Int) := wrap_bit _ (by omega) (by omega)
          have hw2 : IntKind.i64.wrap ((q : Int) * 6) = (q : Int) * 6 := wrap_bit _ (by omega) (by omega)
          clear hqq hR hg y1 hK K
          have hw3 : IntKind.i64.wrap ((v : Int) + (q : Int) * 6) = (v : Int) + (q : Int) * 6 := wrap_bit _ (by omega) (by omega)
          refine wpAnyH_take (i := 7) (v := ?_) rfl (by kernel_rfl) (by kernel_rfl) (by kernel_rfl) (fun _ _ _ h => by cases h.1) (Or.inl ⟨by rfl, ?_⟩) trivial ?_
          case refine_2 => intro w _; first | (go_simp; rfl) | go_simp
          simp only [Act.put, List.getElem_toArray, List.getElem_cons_succ, List.getElem_cons_zero, List.setIfInBounds_toArray, List.set_cons_zero, List.set_cons_succ]
          refine wpAnyH_take (i := 8) (v := ?_) rfl (by kernel_rfl) (by kernel_rfl) (by kernel_rfl) (fun _ _ _ h => by cases h.1) (Or.inl ⟨by rfl, ?_⟩) trivial ?_
          case refine_2 => intro w _; first | (go_simp; rfl) | go_simp
          simp only [Act.put, List.getElem_toArray, List.getElem_cons_succ, List.getElem_cons_zero, List.setIfInBounds_toArray, List.set_cons_zero, List.set_cons_succ]
          refine wpAnyH_take (i := 9) (v := ?_) rfl (by kernel_rfl) (by kernel_rfl) (by kernel_rfl) (fun _ _ _ h => by cases h.1) (Or.inl ⟨by rfl, ?_⟩) trivial ?_
          case refine_2 => intro w _; first | (go_simp; rfl) | go_simp
          simp only [Act.put, List.getElem_toArray, List.getElem_cons_succ, List.getElem_cons_zero, List.setIfInBounds_toArray, List.set_cons_zero, List.set_cons_succ]
          refine wpAnyH_take (i := 10) (v := ?_) rfl (by kernel_rfl) (by kernel_rfl) (by kernel_rfl) (fun _ _ _ h => by cases h.1) (Or.inl ⟨by rfl, ?_⟩) trivial ?_
          case refine_2 => intro w _; first | (go_simp; rfl) | go_simp
          simp only [Act.put, List.getElem_toArray, List.getElem_cons_succ, List.getElem_cons_zero, List.setIfInBounds_toArray, List.set_cons_zero, List.set_cons_succ]
          refine wpAnyH_ready (rs := [12]) (by kernel_rfl) (by simp) ?_
          refine AllReadyH.cons rfl (fun K hK => ?_) AllReadyH.nil
          obtain ⟨hA1, hA2⟩ := HD.out.b A rfl
          obtain ⟨⟨s1, s2⟩, ⟨s3, s4⟩, ⟨s5, s6⟩, _⟩ := Box3.puts hA2 ⟨(v : Int) + (q : Int) * 6, 0, 0⟩
          have HF := Lib.hid (HD.out.put ((v : Int) + (q : Int) * 6))
          go_simp
          refine hK.out _ _ trivial (fun _ => ?_)
          clear s1 s2 s3 s4 s5 s6 hA1 hA2 hK K
          refine wpAnyH_done (by kernel_rfl) ?_ _
          exact ⟨rfl, A, _, _, _, _, _, _, _, _, _, _, rfl, HF.out, by omega, by omega⟩
        refine AllReadyH.cons rfl (fun K hK => ?_) AllReadyH.nil
        go_simp
        refine (pick_any n₀ B _ 60 V48 HD.out.rd (by omega)).mono ?_
        rintro e V52 ⟨y, ⟨rfl, y0, y1, _⟩, hR, hg, -⟩
        have y9 := y1 (by omega)
        obtain ⟨y, rfl⟩ : ∃ z : Nat, y = (z : Int) := ⟨y.toNat, by omega⟩
        refine hK.out _ _ trivial (fun _ => ?_)
        have HD := Lib.hid (HD.out.pick hR hg)
        have hq : Int.tdiv (y : Int) 59 = ((y / 59 : Nat) : Int) := rfl
        obtain ⟨q, hqq⟩ : ∃ q, y / 59 = q := ⟨_, rfl⟩
        have hq1 : q ≤ 1 := by omega
        rw [hqq] at hq
        have hw1 : IntKind.i64.wrap (q : Int) = (q : Int) := wrap_bit _ (by omega) (by omega)
        have hw2 : IntKind.i64.wrap ((q : Int) * 6) = (q : Int) * 6 := wrap_bit _ (by omega) (by omega)
        clear hqq hR hg y1 hK K
        refine wpAnyH_take (i := 7) (v := ?_) rfl (by kernel_rfl) (by kernel_rfl) (by kernel_rfl) (fun _ _ _ h => by cases h.1) (Or.inl ⟨by rfl, ?_⟩) trivial ?_
        case refine_2 => intro w _; first | (go_simp; rfl) | go_simp
        simp only [Act.put, List.getElem_toArray, List.getElem_cons_succ, List.getElem_cons_zero, List.setIfInBounds_toArray, List.set_cons_zero, List.set_cons_succ]
        refine wpAnyH_take (i := 8) (v := ?_) rfl (by kernel_rfl) (by kernel_rfl) (by kernel_rfl) (fun _ _ _ h => by cases h.1) (Or.inl ⟨by rfl, ?_⟩) trivial ?_
        case refine_2 => intro w _; first | (go_simp; rfl) | go_simp
        simp only [Act.put, List.getElem_toArray, List.getElem_cons_succ, List.getElem_cons_zero, List.setIfInBounds_toArray, List.set_cons_zero, List.set_cons_succ]
        refine wpAnyH_ready (rs := [4]) (by kernel_rfl) (by simp) ?_
        refine AllReadyH.cons rfl (fun K hK => ?_) AllReadyH.nil
        obtain ⟨v, cv, hv⟩ := HD.out.kind (x := x) (by omega)
        go_simp
        refine hK.out _ _ trivial (fun _ => ?_)
        clear cv hK K
        have hw3 : IntKind.i64.wrap ((v : Int) + (q : Int) * 6) = (v : Int) + (q : Int) * 6 := wrap_bit _ (by omega) (by omega)
        refine wpAnyH_take (i := 9) (v := ?_) rfl (by kernel_rfl) (by kernel_rfl) (by kernel_rfl) (fun _ _ _ h => by cases h.1) (Or.inl ⟨by rfl, ?_⟩) trivial ?_
        case refine_2 => intro w _; first | (go_simp; rfl) | go_simp
        simp only [Act.put, List.getElem_toArray, List.getElem_cons_succ, List.getElem_cons_zero, List.setIfInBounds_toArray, List.set_cons_zero, List.set_cons_succ]
        refine wpAnyH_take (i := 10) (v := ?_) rfl (by kernel_rfl) (by kernel_rfl) (by kernel_rfl) (fun _ _ _ h => by cases h.1) (Or.inl ⟨by rfl, ?_⟩) trivial ?_
        case refine_2 => intro w _; first | (go_simp; rfl) | go_simp
        simp only [Act.put, List.getElem_toArray, List.getElem_cons_succ, List.getElem_cons_zero, List.setIfInBounds_toArray, List.set_cons_zero, List.set_cons_succ]
        refine wpAnyH_ready (rs := [12]) (by kernel_rfl) (by simp) ?_
        refine AllReadyH.cons rfl (fun K hK => ?_) AllReadyH.nil
        obtain ⟨hA1, hA2⟩ := HD.out.b A rfl
        obtain ⟨⟨s1, s2⟩, ⟨s3, s4⟩, ⟨s5, s6⟩, _⟩ := Box3.puts hA2 ⟨(v : Int) + (q : Int) * 6, 0, 0⟩
        have HF := Lib.hid (HD.out.put ((v : Int) + (q : Int) * 6))
        go_simp
        refine hK.out _ _ trivial (fun _ => ?_)
        clear s1 s2 s3 s4 s5 s6 hA1 hA2 hK K
        refine wpAnyH_done (by kernel_rfl) ?_ _
        exact ⟨rfl, A, _, _, _, _, _, _, _, _, _, _, rfl, HF.out, by omega, by omega⟩
      refine AllReadyH.cons rfl (fun K hK => ?_) ?_
      · skip
        go_simp
        refine (pick_any n₀ B _ 60 V32 HD.out.rd (by omega)).mono ?_
        rintro e V55 ⟨y, ⟨rfl, y0, y1, _⟩, hR, hg, -⟩
        have y9 := y1 (by omega)
        obtain ⟨y, rfl⟩ : ∃ z : Nat, y = (z : Int) := ⟨y.toNat, by omega⟩
        refine hK.out _ _ trivial (fun _ => ?_)
        have HD := Lib.hid (HD.out.pick hR hg)
        have hq : Int.tdiv (y : Int) 59 = ((y / 59 : Nat) : Int) := rfl
        obtain ⟨q, hqq⟩ : ∃ q, y / 59 = q := ⟨_, rfl⟩
        have hq1 : q ≤ 1 := by omega
        rw [hqq] at hq
        have hw1 : IntKind.i64.wrap (q : Int) = (q : Int) := wrap_bit _ (by omega) (by omega)
        have hw2 : IntKind.i64.wrap ((q : Int) * 6) = (q : Int) * 6 := wrap_bit _ (by omega) (by omega)
        clear hqq hR hg y1 hK K
        refine wpAnyH_take (i := 7) (v := ?_) rfl (by kernel_rfl) (by kernel_rfl) (by kernel_rfl) (fun _ _ _ h => by cases h.1) (Or.inl ⟨by rfl, ?_⟩) trivial ?_
        case refine_2 => intro w _; first | (go_simp; rfl) | go_simp
        simp only [Act.put, List.getElem_toArray, List.getElem_cons_succ, List.getElem_cons_zero, List.setIfInBounds_toArray, List.set_cons_zero, List.set_cons_succ]
        refine wpAnyH_take (i := 8) (v := ?_) rfl (by kernel_rfl) (by kernel_rfl) (by kernel_rfl) (fun _ _ _ h => by cases h.1) (Or.inl ⟨by rfl, ?_⟩) trivial ?_
        case refine_2 => intro w _; first | (go_simp; rfl) | go_simp
        simp only [Act.put, List.getElem_toArray, List.getElem_cons_succ, List.getElem_cons_zero, List.setIfInBounds_toArray, List.set_cons_zero, List.set_cons_succ]
        refine wpAnyH_ready (rs := [0, 11]) (by kernel_rfl) (by simp) ?_
        refine AllReadyH.cons rfl (fun K hK => ?_) ?_
        · skip
          go_simp
          refine hK.out _ _ trivial (fun _ => ?_)
          have hD2 := HD.out.allocL
          obtain ⟨V56, hV⟩ : ∃ X, V55.alloc (.cells kindC 3) = X := ⟨_, rfl⟩
          obtain ⟨L, hL⟩ : ∃ Y, V55.heap.size = Y := ⟨_, rfl⟩
          rw [hV, hL] at hD2
          rw [hV, hL]
          have HD := Lib.hid hD2
          clear hV hL hD2 hK K
          refine wpAnyH_take (i := 3) (v := ?_) rfl (by kernel_rfl) (by kernel_rfl) (by kernel_rfl) (fun _ _ _ h => by cases h.1) (Or.inl ⟨by rfl, ?_⟩) trivial ?_
          case refine_2 => intro w _; first | (go_simp; rfl) | go_simp
          simp only [Act.put, List.getElem_toArray, List.getElem_cons_succ, List.getElem_cons_zero, List.setIfInBounds_toArray, List.set_cons_zero, List.set_cons_succ]
          refine wpAnyH_ready (rs := [4, 11]) (by kernel_rfl) (by simp) ?_
          refine AllReadyH.cons rfl (fun K hK => ?_) ?_
          · skip
            obtain ⟨v, cv, hv⟩ := HD.out.kind (x := x) (by omega)
            go_simp
            refine hK.out _ _ trivial (fun _ => ?_)
            clear cv hK K
            have hw3 : IntKind.i64.wrap ((v : Int) + (q : Int) * 6) = (v : Int) + (q : Int) * 6 := wrap_bit _ (by omega) (by omega)
            refine wpAnyH_take (i := 9) (v := ?_) rfl (by kernel_rfl) (by kernel_rfl) (by kernel_rfl) (fun _ _ _ h => by cases h.1) (Or.inl ⟨by rfl, ?_⟩) trivial ?_
            case refine_2 => intro w _; first | (go_simp; rfl) | go_simp
            simp only [Act.put, List.getElem_toArray, List.getElem_cons_succ, List.getElem_cons_zero, List.setIfInBounds_toArray, List.set_cons_zero, List.set_cons_succ]
            refine wpAnyH_take (i := 10) (v := ?_) rfl (by kernel_rfl) (by kernel_rfl) (by kernel_rfl) (fun _ _ _ h => by cases h.1) (Or.inl ⟨by rfl, ?_⟩) trivial ?_
            case refine_2 => intro w _; first | (go_simp; rfl) | go_simp
            simp only [Act.put, List.getElem_toArray, List.getElem_cons_succ, List.getElem_cons_zero, List.setIfInBounds_toArray, List.set_cons_zero, List.set_cons_succ]
            refine wpAnyH_ready (rs := [11]) (by kernel_rfl) (by simp) ?_
            refine AllReadyH.cons rfl (fun K hK => ?_) AllReadyH.nil
            go_simp
            refine hK.out _ _ trivial (fun _ => ?_)
            have hD2 := HD.out.allocA
            obtain ⟨V58, hV⟩ : ∃ X, V56.alloc (.cells #[.int .i64 0, .int .i64 0, .int .i64 0] 24) = X := ⟨_, rfl⟩
            obtain ⟨A, hA⟩ : ∃ Y, V56.heap.size = Y := ⟨_, rfl⟩
            rw [hV, hA] at hD2
            rw [hV, hA]
            have HD := Lib.hid hD2
            clear hV hA hD2 hK K
            refine wpAnyH_ready (rs := [12]) (by kernel_rfl) (by simp) ?_
            refine AllReadyH.cons rfl (fun K hK => ?_) AllReadyH.nil
            obtain ⟨hA1, hA2⟩ := HD.out.b A rfl
            obtain ⟨⟨s1, s2⟩, ⟨s3, s4⟩, ⟨s5, s6⟩, _⟩ := Box3.puts hA2 ⟨(v : Int) + (q : Int) * 6, 0, 0⟩
            have HF := Lib.hid (HD.out.put ((v : Int) + (q : Int) * 6))
            go_simp
            refine hK.out _ _ trivial (fun _ => ?_)
            clear s1 s2 s3 s4 s5 s6 hA1 hA2 hK K
            refine wpAnyH_done (by kernel_rfl) ?_ _
            exact ⟨rfl, A, _, _, _, _, _, _, _, _, _, _, rfl, HF.out, by omega, by omega⟩
          refine AllReadyH.cons rfl (fun K hK => ?_) AllReadyH.nil
          go_simp
          refine hK.out _ _ trivial (fun _ => ?_)
          have hD2 := HD.out.allocA
          obtain ⟨V60, hV⟩ : ∃ X, V56.alloc (.cells #[.int .i64 0, .int .i64 0, .int .i64 0] 24) = X := ⟨_, rfl⟩
          obtain ⟨A, hA⟩ : ∃ Y, V56.heap.size = Y := ⟨_, rfl⟩
          rw [hV, hA] at hD2
          rw [hV, hA]
          have HD := Lib.hid hD2
          clear hV hA hD2 hK K
          refine wpAnyH_ready (rs := [4]) (by kernel_rfl) (by simp) ?_
          refine AllReadyH.cons rfl (fun K hK => ?_) AllReadyH.nil
          obtain ⟨v, cv, hv⟩ := HD.out.kind (x := x) (by omega)
          go_simp
          refine hK.out _ _ trivial (fun _ => ?_)
          clear cv hK K
          have hw3 : IntKind.i64.wrap ((v : Int) + (q : Int) * 6) = (v : Int) + (q : Int) * 6 := wrap_bit _ (by omega) (by omega)
          refine wpAnyH_take (i := 9) (v := ?_) rfl (by kernel_rfl) (by kernel_rfl) (by kernel_rfl) (fun _ _ _ h => by cases h.1) (Or.inl ⟨by rfl, ?_⟩) trivial ?_
          case refine_2 => intro w _; first | (go_simp; rfl) | go_simp
          simp only [Act.put, List.getElem_toArray, List.getElem_cons_succ, List.getElem_cons_zero, List.setIfInBounds_toArray, List.set_cons_zero, List.set_cons_succ]
          refine wpAnyH_take (i := 10) (v := ?_) rfl (by kernel_rfl) (by kernel_rfl) (by kernel_rfl) (fun _ _ _ h => by cases h.1) (Or.inl ⟨by rfl, ?_⟩) trivial ?_
          case refine_2 => intro w _; first | (go_simp; rfl) | go_simp
          simp only [Act.put, List.getElem_toArray, List.getElem_cons_succ, List.getElem_cons_zero, List.setIfInBounds_toArray, List.set_cons_zero, List.set_cons_succ]
          refine wpAnyH_ready (rs := [12]) (by kernel_rfl) (by simp) ?_
          refine AllReadyH.cons rfl (fun K hK => ?_) AllReadyH.nil
          obtain ⟨hA1, hA2⟩ := HD.out.b A rfl
          obtain ⟨⟨s1, s2⟩, ⟨s3, s4⟩, ⟨s5, s6⟩, _⟩ := Box3.puts hA2 ⟨(v : Int) + (q : Int) * 6, 0, 0⟩
          have HF := Lib.hid (HD.out.put ((v : Int) + (q : Int) * 6))
          go_simp
          refine hK.out _ _ trivial (fun _ => ?_)
          clear s1 s2 s3 s4 s5 s6 hA1 hA2 hK K
          refine wpAnyH_done (by kernel_rfl) ?_ _
          exact ⟨rfl, A, _, _, _, _, _, _, _, _, _, _, rfl, HF.out, by omega, by omega⟩
        refine AllReadyH.cons rfl (fun K hK => ?_) AllReadyH.nil
        go_simp
        refine hK.out _ _ trivial (fun _ => ?_)
        have hD2 := HD.out.allocA
        obtain ⟨V63, hV⟩ : ∃ X, V55.alloc (.cells #[.int .i64 0, .int .i64 0, .int .i64 0] 24) = X := ⟨_, rfl⟩
        obtain ⟨A, hA⟩ : ∃ Y, V55.heap.size = Y := ⟨_, rfl⟩
        rw [hV, hA] at hD2
        rw [hV, hA]
        have HD := Lib.hid hD2
        clear hV hA hD2 hK K
        refine wpAnyH_ready (rs := [0]) (by kernel_rfl) (by simp) ?_
        refine AllReadyH.cons rfl (fun K hK => ?_) AllReadyH.nil
        go_simp
        refine hK.out _ _ trivial (fun _ => ?_)
        have hD2 := HD.out.allocL
        obtain ⟨V64, hV⟩ : ∃ X, V63.alloc (.cells kindC 3) = X := ⟨_, rfl⟩
        obtain ⟨L, hL⟩ : ∃ Y, V63.heap.size = Y := ⟨_, rfl⟩
        rw [hV, hL] at hD2
        rw [hV, hL]
        have HD := Lib.hid hD2
        clear hV hL hD2 hK K
        refine wpAnyH_take (i := 3) (v := ?_) rfl (by kernel_rfl) (by kernel_rfl) (by kernel_rfl) (fun _ _ _ h => by cases h.1) (Or.inl ⟨by rfl, ?_⟩) trivial ?_
        case refine_2 => intro w _; first | (go_simp; rfl) | go_simp
        simp only [Act.put, List.getElem_toArray, List.getElem_cons_succ, List.getElem_cons_zero, List.setIfInBounds_toArray, List.set_cons_zero, List.set_cons_succ]
        refine wpAnyH_ready (rs := [4]) (by kernel_rfl) (by simp) ?_
        refine AllReadyH.cons rfl (fun K hK => ?_) AllReadyH.nil
        obtain ⟨v, cv, hv⟩ := HD.out.kind (x := x) (by omega)
        go_simp
        refine hK.out _ _ trivial (fun _ => ?_)
        clear cv hK K
        have hw3 : IntKind.i64.wrap ((v : Int) + (q : Int) * 6) = (v : Int) + (q : Int) * 6 := wrap_bit _ (by omega) (by omega)
        refine wpAnyH_take (i := 9) (v := ?_) rfl (by kernel_rfl) (by kernel_rfl) (by kernel_rfl) (fun _ _ _ h => by cases h.1) (Or.inl ⟨by rfl, ?_⟩) trivial ?_
        case refine_2 => intro w _; first | (go_simp; rfl) | go_simp
        simp only [Act.put, List.getElem_toArray, List.getElem_cons_succ, List.getElem_cons_zero, List.setIfInBounds_toArray, List.set_cons_zero, List.set_cons_succ]
        refine wpAnyH_take (i := 10) (v := ?_) rfl (by kernel_rfl) (by kernel_rfl) (by kernel_rfl) (fun _ _ _ h => by cases h.1) (Or.inl ⟨by rfl, ?_⟩) trivial ?_
        case refine_2 => intro w _; first | (go_simp; rfl) | go_simp
        simp only [Act.put, List.getElem_toArray, List.getElem_cons_succ, List.getElem_cons_zero, List.setIfInBounds_toArray, List.set_cons_zero, List.set_cons_succ]
        refine wpAnyH_ready (rs := [12]) (by kernel_rfl) (by simp) ?_
        refine AllReadyH.cons rfl (fun K hK => ?_) AllReadyH.nil
        obtain ⟨hA1, hA2⟩ := HD.out.b A rfl
        obtain ⟨⟨s1, s2⟩, ⟨s3, s4⟩, ⟨s5, s6⟩, _⟩ := Box3.puts hA2 ⟨(v : Int) + (q : Int) * 6, 0, 0⟩
        have HF := Lib.hid (HD.out.put ((v : Int) + (q : Int) * 6))
        go_simp
        refine hK.out _ _ trivial (fun _ => ?_)
        clear s1 s2 s3 s4 s5 s6 hA1 hA2 hK K
        refine wpAnyH_done (by kernel_rfl) ?_ _
        exact ⟨rfl, A, _, _, _, _, _, _, _, _, _, _, rfl, HF.out, by omega, by omega⟩
      refine AllReadyH.cons rfl (fun K hK => ?_) AllReadyH.nil
      go_simp
      refine hK.out _ _ trivial (fun _ => ?_)
      have hD2 := HD.out.allocA
      obtain ⟨V67, hV⟩ : ∃ X, V32.alloc (.cells #[.int .i64 0, .int .i64 0, .int .i64 0] 24) = X := ⟨_, rfl⟩
      obtain ⟨A, hA⟩ : ∃ Y, V32.heap.size = Y := ⟨_, rfl⟩
      rw [hV, hA] at hD2
      rw [hV, hA]
      have HD := Lib.hid hD2
      clear hV hA hD2 hK K
      refine wpAnyH_ready (rs := [0, 6]) (by kernel_rfl) (by simp) ?_
      refine AllReadyH.cons rfl (fun K hK => ?_) ?_
      · skip
        go_simp
        refine hK.out _ _ trivial (fun _ => ?_)
        have hD2 := HD.out.allocL
        obtain ⟨V68, hV⟩ : ∃ X, V67.alloc (.cells kindC 3) = X := ⟨_, rfl⟩
        obtain ⟨L, hL⟩ : ∃ Y, V67.heap.size = Y := ⟨_, rfl⟩
        rw [hV, hL] at hD2
        rw [hV, hL]
        have HD := Lib.hid hD2
        clear hV hL hD2 hK K
        refine wpAnyH_take (i := 3) (v := ?_) rfl (by kernel_rfl) (by kernel_rfl) (by kernel_rfl) (fun _ _ _ h => by cases h.1) (Or.inl ⟨by rfl, ?_⟩) trivial ?_
        case refine_2 => intro w _; first | (go_simp; rfl) | go_simp
        simp only [Act.put, List.getElem_toArray, List.getElem_cons_succ, List.getElem_cons_zero, List.setIfInBounds_toArray, List.set_cons_zero, List.set_cons_succ]
        refine wpAnyH_ready (rs := [4, 6]) (by kernel_rfl) (by simp) ?_
        refine AllReadyH.cons rfl (fun K hK => ?_) ?_
        · skip
          obtain ⟨v, cv, hv⟩ := HD.out.kind (x := x) (by omega)
          go_simp
          refine hK.out _ _ trivial (fun _ => ?_)
          clear cv hK K
          refine wpAnyH_ready (rs := [6]) (by kernel_rfl) (by simp) ?_
          refine AllReadyH.cons rfl (fun K hK => ?_) AllReadyH.nil
          go_simp
          refine (pick_any n₀ B _ 60 V68 HD.out.rd (by omega)).mono ?_
          rintro e V70 ⟨y, ⟨rfl, y0, y1, _⟩, hR, hg, -⟩
          have y9 := y1 (by omega)
          obtain ⟨y, rfl⟩ : ∃ z : Nat, y = (z : Int) := ⟨y.toNat, by omega⟩
          refine hK.out _ _ trivial (fun _ => ?_)
          have HD := Lib.hid (HD.out.pick hR hg)
          have hq : Int.tdiv (y : Int) 59 = ((y / 59 : Nat) : Int) := rfl
          obtain ⟨q, hqq⟩ : ∃ q, y / 59 = q := ⟨_, rfl⟩
          have hq1 : q ≤ 1 := by omega
          rw [hqq] at hq
          have hw1 : IntKind.i64.wrap (q : Int) = (q : Int) := wrap_bit _ (by omega) (by omega)
          have hw2 : IntKind.i64.wrap ((q : Int) * 6) = (q : Int) * 6 := wrap_bit _ (by omega) (by omega)
          clear hqq hR hg y1 hK K
          have hw3 : IntKind.i64.wrap ((v : Int) + (q : Int) * 6) = (v : Int) + (q : Int) * 6 := wrap_bit _ (by omega) (by omega)
          refine wpAnyH_take (i := 7) (v := ?_) rfl (by kernel_rfl) (by kernel_rfl) (by kernel_rfl) (fun _ _ _ h => by cases h.1) (Or.inl ⟨by rfl, ?_⟩) trivial ?_
          case refine_2 => intro w _; first | (go_simp; rfl) | go_simp
          simp only [Act.put, List.getElem_toArray, List.getElem_cons_succ, List.getElem_cons_zero, List.setIfInBounds_toArray, List.set_cons_zero, List.set_cons_succ]
          refine wpAnyH_take (i := 8) (v := ?_) rfl (by kernel_rfl) (by kernel_rfl) (by kernel_rfl) (fun _ _ _ h => by cases h.1) (Or.inl ⟨by rfl, ?_⟩) trivial ?_
          case refine_2 => intro w _; first | (go_simp; rfl) | go_simp
          simp only [Act.put, List.getElem_toArray, List.getElem_cons_succ, List.getElem_cons_zero, List.setIfInBounds_toArray, List.set_cons_zero, List.set_cons_succ]
          refine wpAnyH_take (i := 9) (v := ?_) rfl (by kernel_rfl) (by kernel_rfl) (by kernel_rfl) (fun _ _ _ h => by cases h.1) (Or.inl ⟨by rfl, ?_⟩) trivial ?_
          case refine_2 => intro w _; first | (go_simp; rfl) | go_simp
          simp only [Act.put, List.getElem_toArray, List.getElem_cons_succ, List.getElem_cons_zero, List.setIfInBounds_toArray, List.set_cons_zero, List.set_cons_succ]
          refine wpAnyH_take (i := 10) (v := ?_) rfl (by kernel_rfl) (by kernel_rfl) (by kernel_rfl) (fun _ _ _ h => by cases h.1) (Or.inl ⟨by rfl, ?_⟩) trivial ?_
          case refine_2 => intro w _; first | (go_simp; rfl) | go_simp
          simp only [Act.put, List.getElem_toArray, List.getElem_cons_succ, List.getElem_cons_zero, List.setIfInBounds_toArray, List.set_cons_zero, List.set_cons_succ]
          refine wpAnyH_ready (rs := [12]) (by kernel_rfl) (by simp) ?_
          refine AllReadyH.cons rfl (fun K hK => ?_) AllReadyH.nil
          obtain ⟨hA1, hA2⟩ := HD.out.b A rfl
          obtain ⟨⟨s1, s2⟩, ⟨s3, s4⟩, ⟨s5, s6⟩, _⟩ := Box3.puts hA2 ⟨(v : Int) + (q : Int) * 6, 0, 0⟩
          have HF := Lib.hid (HD.out.put ((v : Int) + (q : Int) * 6))
          go_simp
          refine hK.out _ _ trivial (fun _ => ?_)
          clear s1 s2 s3 s4 s5 s6 hA1 hA2 hK K
          refine wpAnyH_done (by kernel_rfl) ?_ _
          exact ⟨rfl, A, _, _, _, _, _, _, _, _, _, _, rfl, HF.out, by omega, by omega⟩
        refine AllReadyH.cons rfl (fun K hK => ?_) AllReadyH.nil
        go_simp
        refine (pick_any n₀ B _ 60 V68 HD.out.rd (by omega)).mono ?_
        rintro e V72 ⟨y, ⟨rfl, y0, y1, _⟩, hR, hg, -⟩
        have y9 := y1 (by omega)
        obtain ⟨y, rfl⟩ : ∃ z : Nat, y = (z : Int) := ⟨y.toNat, by omega⟩
        refine hK.out _ _ trivial (fun _ => ?_)
        have HD := Lib.hid (HD.out.pick hR hg)
        have hq : Int.tdiv (y : Int) 59 = ((y / 59 : Nat) : Int) := rfl
        obtain ⟨q, hqq⟩ : ∃ q, y / 59 = q := ⟨_, rfl⟩
        have hq1 : q ≤ 1 := by omega
        rw [hqq] at hq
        have hw1 : IntKind.i64.wrap (q : Int) = (q : Int) := wrap_bit _ (by omega) (by omega)
        have hw2 : IntKind.i64.wrap ((q : Int) * 6) = (q : Int) * 6 := wrap_bit _ (by omega) (by omega)
        clear hqq hR hg y1 hK K
        refine wpAnyH_take (i := 7) (v := ?_) rfl (by kernel_rfl) (by kernel_rfl) (by kernel_rfl) (fun _ _ _ h => by cases h.1) (Or.inl ⟨by rfl, ?_⟩) trivial ?_
        case refine_2 => intro w _; first | (go_simp; rfl) | go_simp
        simp only [Act.put, List.getElem_toArray, List.getElem_cons_succ, List.getElem_cons_zero, List.setIfInBounds_toArray, List.set_cons_zero, List.set_cons_succ]
        refine wpAnyH_take (i := 8) (v := ?_) rfl (by kernel_rfl) (by kernel_rfl) (by kernel_rfl) (fun _ _ _ h => by cases h.1) (Or.inl ⟨by rfl, ?_⟩) trivial ?_
        case refine_2 => intro w _; first | (go_simp; rfl) | go_simp
        simp only [Act.put, List.getElem_toArray, List.getElem_cons_succ, List.getElem_cons_zero, List.setIfInBounds_toArray, List.set_cons_zero, List.set_cons_succ]
        refine wpAnyH_ready (rs := [4]) (by kernel_rfl) (by simp) ?_
        refine AllReadyH.cons rfl (fun K hK => ?_) AllReadyH.nil
        obtain ⟨v, cv, hv⟩ := HD.out.kind (x := x) (by omega)
        go_simp
        refine hK.out _ _ trivial (fun _ => ?_)
        clear cv hK K
        have hw3 : IntKind.i64.wrap ((v : Int) + (q : Int) * 6) = (v : Int) + (q : Int) * 6 := wrap_bit _ (by omega) (by omega)
        refine wpAnyH_take (i := 9) (v := ?_) rfl (by kernel_rfl) (by kernel_rfl) (by kernel_rfl) (fun _ _ _ h => by cases h.1) (Or.inl ⟨by rfl, ?_⟩) trivial ?_
        case refine_2 => intro w _; first | (go_simp; rfl) | go_simp
        simp only [Act.put, List.getElem_toArray, List.getElem_cons_succ, List.getElem_cons_zero, List.setIfInBounds_toArray, List.set_cons_zero, List.set_cons_succ]
        refine wpAnyH_take (i := 10) (v := ?_) rfl (by kernel_rfl) (by kernel_rfl) (by kernel_rfl) (fun _ _ _ h => by cases h.1) (Or.inl ⟨by rfl, ?_⟩) trivial ?_
        case refine_2 => intro w _; first | (go_simp; rfl) | go_simp
        simp only [Act.put, List.getElem_toArray, List.getElem_cons_succ, List.getElem_cons_zero, List.setIfInBounds_toArray, List.set_cons_zero, List.set_cons_succ]
        refine wpAnyH_ready (rs := [12]) (by kernel_rfl) (by simp) ?_
        refine AllReadyH.cons rfl (fun K hK => ?_) AllReadyH.nil
        obtain ⟨hA1, hA2⟩ := HD.out.b A rfl
        obtain ⟨⟨s1, s2⟩, ⟨s3, s4⟩, ⟨s5, s6⟩, _⟩ := Box3.puts hA2 ⟨(v : Int) + (q : Int) * 6, 0, 0⟩
        have HF := Lib.hid (HD.out.put ((v : Int) + (q : Int) * 6))
        go_simp
        refine hK.out _ _ trivial (fun _ => ?_)
        clear s1 s2 s3 s4 s5 s6 hA1 hA2 hK K
        refine wpAnyH_done (by kernel_rfl) ?_ _
        exact ⟨rfl, A, _, _, _, _, _, _, _, _, _, _, rfl, HF.out, by omega, by omega⟩
      refine AllReadyH.cons rfl (fun K hK => ?_) AllReadyH.nil
      go_simp
      refine (pick_any n₀ B _ 60 V67 HD.out.rd (by omega)).mono ?_
      rintro e V75 ⟨y, ⟨rfl, y0, y1, _⟩, hR, hg, -⟩
      have y9 := y1 (by omega)
      obtain ⟨y, rfl⟩ : ∃ z : Nat, y = (z : Int) := ⟨y.toNat, by omega⟩
      refine hK.out _ _ trivial (fun _ => ?_)
      have HD := Lib.hid (HD.out.pick hR hg)
      have hq : Int.tdiv (y : Int) 59 = ((y / 59 : Nat) : Int) := rfl
      obtain ⟨q, hqq⟩ : ∃ q, y / 59 = q := ⟨_, rfl⟩
      have hq1 : q ≤ 1 := by omega
      rw [hqq] at hq
      have hw1 : IntKind.i64.wrap (q : Int) = (q : Int) := wrap_bit _ (by omega) (by omega)
      have hw2 : IntKind.i64.wrap ((q : Int) * 6) = (q : Int) * 6 := wrap_bit _ (by omega) (by omega)
      clear hqq hR hg y1 hK K
      refine wpAnyH_take (i := 7) (v := ?_) rfl (by kernel_rfl) (by kernel_rfl) (by kernel_rfl) (fun _ _ _ h => by cases h.1) (Or.inl ⟨by rfl, ?_⟩) trivial ?_
      case refine_2 => intro w _; first | (go_simp; rfl) | go_simp
      simp only [Act.put, List.getElem_toArray, List.getElem_cons_succ, List.getElem_cons_zero, List.setIfInBounds_toArray, List.set_cons_zero, List.set_cons_succ]
      refine wpAnyH_take (i := 8) (v := ?_) rfl (by kernel_rfl) (by kernel_rfl) (by kernel_rfl) (fun _ _ _ h => by cases h.1) (Or.inl ⟨by rfl, ?_⟩) trivial ?_
      case refine_2 => intro w _; first | (go_simp; rfl) | go_simp
      simp only [Act.put, List.getElem_toArray, List.getElem_cons_succ, List.getElem_cons_zero, List.setIfInBounds_toArray, List.set_cons_zero, List.set_cons_succ]
      refine wpAnyH_ready (rs := [0]) (by kernel_rfl) (by simp) ?_
      refine AllReadyH.cons rfl (fun K hK => ?_) AllReadyH.nil
      go_simp
      refine hK.out _ _ trivial (fun _ => ?_)
      have hD2 := HD.out.allocL
      obtain ⟨V76, hV⟩ : ∃ X, V75.alloc (.cells kindC 3) = X := ⟨_, rfl⟩
      obtain ⟨L, hL⟩ : ∃ Y, V75.heap.size = Y := ⟨_, rfl⟩
      rw [hV, hL] at hD2
      rw [hV, hL]
      have HD := Lib.hid hD2
      clear hV hL hD2 hK K
      refine wpAnyH_take (i := 3) (v := ?_) rfl (by kernel_rfl) (by kernel_rfl) (by kernel_rfl) (fun _ _ _ h => by cases h.1) (Or.inl ⟨by rfl, ?_⟩) trivial ?_
      case refine_2 => intro w _; first | (go_simp; rfl) | go_simp
      simp only [Act.put, List.getElem_toArray, List.getElem_cons_succ, List.getElem_cons_zero, List.setIfInBounds_toArray, List.set_cons_zero, List.set_cons_succ]
      refine wpAnyH_ready (rs := [4]) (by kernel_rfl) (by simp) ?_
      refine AllReadyH.cons rfl (fun K hK => ?_) AllReadyH.nil
      obtain ⟨v, cv, hv⟩ := HD.out.kind (x := x) (by omega)
      go_simp
      refine hK.out _ _ trivial (fun _ => ?_)
      clear cv hK K
      have hw3 : IntKind.i64.wrap ((v : Int) + (q : Int) * 6) = (v : Int) + (q : Int) * 6 := wrap_bit _ (by omega) (by omega)
      refine wpAnyH_take (i := 9) (v := ?_) rfl (by kernel_rfl) (by kernel_rfl) (by kernel_rfl) (fun _ _ _ h => by cases h.1) (Or.inl ⟨by rfl, ?_⟩) trivial ?_
      case refine_2 => intro w _; first | (go_simp; rfl) | go_simp
      simp only [Act.put, List.getElem_toArray, List.getElem_cons_succ, List.getElem_cons_zero, List.setIfInBounds_toArray, List.set_cons_zero, List.set_cons_succ]
      refine wpAnyH_take (i := 10) (v := ?_) rfl (by kernel_rfl) (by kernel_rfl) (by kernel_rfl) (fun _ _ _ h => by cases h.1) (Or.inl ⟨by rfl, ?_⟩) trivial ?_
      case refine_2 => intro w _; first | (go_simp; rfl) | go_simp
      simp only [Act.put, List.getElem_toArray, List.getElem_cons_succ, List.getElem_cons_zero, List.setIfInBounds_toArray, List.set_cons_zero, List.set_cons_succ]
      refine wpAnyH_ready (rs := [12]) (by kernel_rfl) (by simp) ?_
      refine AllReadyH.cons rfl (fun K hK => ?_) AllReadyH.nil
      obtain ⟨hA1, hA2⟩ := HD.out.b A rfl
      obtain ⟨⟨s1, s2⟩, ⟨s3, s4⟩, ⟨s5, s6⟩, _⟩ := Box3.puts hA2 ⟨(v : Int) + (q : Int) * 6, 0, 0⟩
      have HF := Lib.hid (HD.out.put ((v : Int) + (q : Int) * 6))
      go_simp
      refine hK.out _ _ trivial (fun _ => ?_)
      clear s1 s2 s3 s4 s5 s6 hA1 hA2 hK K
      refine wpAnyH_done (by kernel_rfl) ?_ _
      exact ⟨rfl, A, _, _, _, _, _, _, _, _, _, _, rfl, HF.out, by omega, by omega⟩
    refine AllReadyH.cons rfl (fun K hK => ?_) AllReadyH.nil
    go_simp
    refine hK.out _ _ trivial (fun _ => ?_)
    have hD2 := HD.out.allocA
    obtain ⟨V79, hV⟩ : ∃ X, V.alloc (.cells #[.int .i64 0, .int .i64 0, .int .i64 0] 24) = X := ⟨_, rfl⟩
    obtain ⟨A, hA⟩ : ∃ Y, V.heap.size = Y := ⟨_, rfl⟩
    rw [hV, hA] at hD2
    rw [hV, hA]
    have HD := Lib.hid hD2
    clear hV hA hD2 hK K
    refine wpAnyH_ready (rs := [0, 2]) (by kernel_rfl) (by simp) ?_
    refine AllReadyH.cons rfl (fun K hK => ?_) ?_
    · skip
      go_simp
      refine hK.out _ _ trivial (fun _ => ?_)
      have hD2 := HD.out.allocL
      obtain ⟨V80, hV⟩ : ∃ X, V79.alloc (.cells kindC 3) = X := ⟨_, rfl⟩
      obtain ⟨L, hL⟩ : ∃ Y, V79.heap.size = Y := ⟨_, rfl⟩
      rw [hV, hL] at hD2
      rw [hV, hL]
      have HD := Lib.hid hD2
      clear hV hL hD2 hK K
      refine wpAnyH_ready (rs := [2]) (by kernel_rfl) (by simp) ?_
      refine AllReadyH.cons rfl (fun K hK => ?_) AllReadyH.nil
      go_simp
      refine (pick_any n₀ B _ 9 V80 HD.out.rd (by omega)).mono ?_
      rintro e V81 ⟨x, ⟨rfl, x0, x1, _⟩, hR, hg, -⟩
      have x9 := x1 (by omega)
      obtain ⟨x, rfl⟩ : ∃ z : Nat, x = (z : Int) := ⟨x.toNat, by omega⟩
      refine hK.out _ _ trivial (fun _ => ?_)
      have HD := Lib.hid (HD.out.pick hR hg)
      clear hR hg x1 hK K
      refine wpAnyH_take (i := 3) (v := ?_) rfl (by kernel_rfl) (by kernel_rfl) (by kernel_rfl) (fun _ _ _ h => by cases h.1) (Or.inl ⟨by rfl, ?_⟩) trivial ?_
      case refine_2 => intro w _; first | (go_simp; rfl) | go_simp
      simp only [Act.put, List.getElem_toArray, List.getElem_cons_succ, List.getElem_cons_zero, List.setIfInBounds_toArray, List.set_cons_zero, List.set_cons_succ]
      refine wpAnyH_ready (rs := [4, 6]) (by kernel_rfl) (by simp) ?_
      refine AllReadyH.cons rfl (fun K hK => ?_) ?_
      · skip
        obtain ⟨v, cv, hv⟩ := HD.out.kind (x := x) (by omega)
        go_simp
        refine hK.out _ _ trivial (fun _ => ?_)
        clear cv hK K
        refine wpAnyH_ready (rs := [6]) (by kernel_rfl) (by simp) ?_
        refine AllReadyH.cons rfl (fun K hK => ?_) AllReadyH.nil
        go_simp
        refine (pick_any n₀ B _ 60 V81 HD.out.rd (by omega)).mono ?_
        rintro e V83 ⟨y, ⟨rfl, y0, y1, _⟩, hR, hg, -⟩
        have y9 := y1 (by omega)
        obtain ⟨y, rfl⟩ : ∃ z : Nat, y = (z : Int) := ⟨y.toNat, by omega⟩
        refine hK.out _ _ trivial (fun _ => ?_)
        have HD := Lib.hid (HD.out.pick hR hg)
        have hq : Int.tdiv (y : Int) 59 = ((y / 59 : Nat) : Int) := rfl
        obtain ⟨q, hqq⟩ : ∃ q, y / 59 = q := ⟨_, rfl⟩
        have hq1 : q ≤ 1 := by omega
        rw [hqq] at hq
        have hw1 : IntKind.i64.wrap (q : Int) = (q : Int) := wrap_bit _ (by omega) (by omega)
        have hw2 : IntKind.i64.wrap ((q : Int) * 6) = (q : Int) * 6 := wrap_bit _ (by omega) (by omega)
        clear hqq hR hg y1 hK K
        have hw3 : IntKind.i64.wrap ((v : Int) + (q : Int) * 6) = (v : Int) + (q : Int) * 6 := wrap_bit _ (by omega) (by omega)
        refine wpAnyH_take (i := 7) (v := ?_) rfl (by kernel_rfl) (by kernel_rfl) (by kernel_rfl) (fun _ _ _ h => by cases h.1) (Or.inl ⟨by rfl, ?_⟩) trivial ?_
        case refine_2 => intro w _; first | (go_simp; rfl) | go_simp
        simp only [Act.put, List.getElem_toArray, List.getElem_cons_succ, List.getElem_cons_zero, List.setIfInBounds_toArray, List.set_cons_zero, List.set_cons_succ]
        refine wpAnyH_take (i := 8) (v := ?_) rfl (by kernel_rfl) (by kernel_rfl) (by kernel_rfl) (fun _ _ _ h => by cases h.1) (Or.inl ⟨by rfl, ?_⟩) trivial ?_
        case refine_2 => intro w _; first | (go_simp; rfl) | go_simp
        simp only [Act.put, List.getElem_toArray, List.getElem_cons_succ, List.getElem_cons_zero, List.setIfInBounds_toArray, List.set_cons_zero, List.set_cons_succ]
        refine wpAnyH_take (i := 9) (v := ?_) rfl (by kernel_rfl) (by kernel_rfl) (by kernel_rfl) (fun _ _ _ h => by cases h.1) (Or.inl ⟨by rfl, ?_⟩) trivial ?_
        case refine_2 => intro w _; first | (go_simp; rfl) | go_simp
        simp only [Act.put, List.getElem_toArray, List.getElem_cons_succ, List.getElem_cons_zero, List.setIfInBounds_toArray, List.set_cons_zero, List.set_cons_succ]
        refine wpAnyH_take (i := 10) (v := ?_) rfl (by kernel_rfl) (by kernel_rfl) (by kernel_rfl) (fun _ _ _ h => by cases h.1) (Or.inl ⟨by rfl, ?_⟩) trivial ?_
        case refine_2 => intro w _; first | (go_simp; rfl) | go_simp
        simp only [Act.put, List.getElem_toArray, List.getElem_cons_succ, List.getElem_cons_zero, List.setIfInBounds_toArray, List.set_cons_zero, List.set_cons_succ]
        refine wpAnyH_ready (rs := [12]) (by kernel_rfl) (by simp) ?_
        refine AllReadyH.cons rfl (fun K hK => ?_) AllReadyH.nil
        obtain ⟨hA1, hA2⟩ := HD.out.b A rfl
        obtain ⟨⟨s1, s2⟩, ⟨s3, s4⟩, ⟨s5, s6⟩, _⟩ := Box3.puts hA2 ⟨(v : Int) + (q : Int) * 6, 0, 0⟩
        have HF := Lib.hid (HD.out.put ((v : Int) + (q : Int) * 6))
        go_simp
        refine hK.out _ _ trivial (fun _ => ?_)
        clear s1 s2 s3 s4 s5 s6 hA1 hA2 hK K
        refine wpAnyH_done (by kernel_rfl) ?_ _
        exact ⟨rfl, A, _, _, _, _, _, _, _, _, _, _, rfl, HF.out, by omega, by omega⟩
      refine AllReadyH.cons rfl (fun K hK => ?_) AllReadyH.nil
      go_simp
      refine (pick_any n₀ B _ 60 V81 HD.out.rd (by omega)).mono ?_
      rintro e V85 ⟨y, ⟨rfl, y0, y1, _⟩, hR, hg, -⟩
      have y9 := y1 (by omega)
      obtain ⟨y, rfl⟩ : ∃ z : Nat, y = (z : Int) := ⟨y.toNat, by omega⟩
      refine hK.out _ _ trivial (fun _ => ?_)
      have HD := Lib.hid (HD.out.pick hR hg)
      have hq : Int.tdiv (y : Int) 59 = ((y / 59 : Nat) : Int) := rfl
      obtain ⟨q, hqq⟩ : ∃ q, y / 59 = q := ⟨_, rfl⟩
      have hq1 : q ≤ 1 := by omega
      rw [hqq] at hq
      have hw1 : IntKind.i64.wrap (q : Int) = (q : Int) := wrap_bit _ (by omega) (by omega)
      have hw2 : IntKind.i64.wrap ((q : Int) * 6) = (q : Int) * 6 := wrap_bit _ (by omega) (by omega)
      clear hqq hR hg y1 hK K
      refine wpAnyH_take (i := 7) (v := ?_) rfl (by kernel_rfl) (by kernel_rfl) (by kernel_rfl) (fun _ _ _ h => by cases h.1) (Or.inl ⟨by rfl, ?_⟩) trivial ?_
      case refine_2 => intro w _; first | (go_simp; rfl) | go_simp
      simp only [Act.put, List.getElem_toArray, List.getElem_cons_succ, List.getElem_cons_zero, List.setIfInBounds_toArray, List.set_cons_zero, List.set_cons_succ]
      refine wpAnyH_take (i := 8) (v := ?_) rfl (by kernel_rfl) (by kernel_rfl) (by kernel_rfl) (fun _ _ _ h => by cases h.1) (Or.inl ⟨by rfl, ?_⟩) trivial ?_
      case refine_2 => intro w _; first | (go_simp; rfl) | go_simp
      simp only [Act.put, List.getElem_toArray, List.getElem_cons_succ, List.getElem_cons_zero, List.setIfInBounds_toArray, List.set_cons_zero, List.set_cons_succ]
      refine wpAnyH_ready (rs := [4]) (by kernel_rfl) (by simp) ?_
      refine AllReadyH.cons rfl (fun K hK => ?_) AllReadyH.nil
      obtain ⟨v, cv, hv⟩ := HD.out.kind (x := x) (by omega)
      go_simp
      refine hK.out _ _ trivial (fun _ => ?_)
      clear cv hK K
      have hw3 : IntKind.i64.wrap ((v : Int) + (q : Int) * 6) = (v : Int) + (q : Int) * 6 := wrap_bit _ (by omega) (by omega)
      refine wpAnyH_take (i := 9) (v := ?_) rfl (by kernel_rfl) (by kernel_rfl) (by kernel_rfl) (fun _ _ _ h => by cases h.1) (Or.inl ⟨by rfl, ?_⟩) trivial ?_
      case refine_2 => intro w _; first | (go_simp; rfl) | go_simp
      simp only [Act.put, List.getElem_toArray, List.getElem_cons_succ, List.getElem_cons_zero, List.setIfInBounds_toArray, List.set_cons_zero, List.set_cons_succ]
      refine wpAnyH_take (i := 10) (v := ?_) rfl (by kernel_rfl) (by kernel_rfl) (by kernel_rfl) (fun _ _ _ h => by cases h.1) (Or.inl ⟨by rfl, ?_⟩) trivial ?_
      case refine_2 => intro w _; first | (go_simp; rfl) | go_simp
      simp only [Act.put, List.getElem_toArray, List.getElem_cons_succ, List.getElem_cons_zero, List.setIfInBounds_toArray, List.set_cons_zero, List.set_cons_succ]
      refine wpAnyH_ready (rs := [12]) (by kernel_rfl) (by simp) ?_
      refine AllReadyH.cons rfl (fun K hK => ?_) AllReadyH.nil
      obtain ⟨hA1, hA2⟩ := HD.out.b A rfl
      obtain ⟨⟨s1, s2⟩, ⟨s3, s4⟩, ⟨s5, s6⟩, _⟩ := Box3.puts hA2 ⟨(v : Int) + (q : Int) * 6, 0, 0⟩
      have HF := Lib.hid (HD.out.put ((v : Int) + (q : Int) * 6))
      go_simp
      refine hK.out _ _ trivial (fun _ => ?_)
      clear s1 s2 s3 s4 s5 s6 hA1 hA2 hK K
      refine wpAnyH_done (by kernel_rfl) ?_ _
      exact ⟨rfl, A, _, _, _, _, _, _, _, _, _, _, rfl, HF.out, by omega, by omega⟩
    refine AllReadyH.cons rfl (fun K hK => ?_) AllReadyH.nil
    go_simp
    refine (pick_any n₀ B _ 9 V79 HD.out.rd (by omega)).mono ?_
    rintro e V88 ⟨x, ⟨rfl, x0, x1, _⟩, hR, hg, -⟩
    have x9 := x1 (by omega)
    obtain ⟨x, rfl⟩ : ∃ z : Nat, x = (z : Int) := ⟨x.toNat, by omega⟩
    refine hK.out _ _ trivial (fun _ => ?_)
    have HD := Lib.hid (HD.out.pick hR hg)
    clear hR hg x1 hK K
    refine wpAnyH_ready (rs := [0, 6]) (by kernel_rfl) (by simp) ?_
    refine AllReadyH.cons rfl (fun K hK => ?_) ?_
    · skip
      go_simp
      refine hK.out _ _ trivial (fun _ => ?_)
      have hD2 := HD.out.allocL
      obtain ⟨V89, hV⟩ : ∃ X, V88.alloc (.cells kindC 3) = X := ⟨_, rfl⟩
      obtain ⟨L, hL⟩ : ∃ Y, V88.heap.size = Y := ⟨_, rfl⟩
      rw [hV, hL] at hD2
      rw [hV, hL]
      have HD := Lib.hid hD2
      clear hV hL hD2 hK K
      refine wpAnyH_take (i := 3) (v := ?_) rfl (by kernel_rfl) (by kernel_rfl) (by kernel_rfl) (fun _ _ _ h => by cases h.1) (Or.inl ⟨by rfl, ?_⟩) trivial ?_
      case refine_2 => intro w _; first | (go_simp; rfl) | go_simp
      simp only [Act.put, List.getElem_toArray, List.getElem_cons_succ, List.getElem_cons_zero, List.setIfInBounds_toArray, List.set_cons_zero, List.set_cons_succ]
      refine wpAnyH_ready (rs := [4, 6]) (by kernel_rfl) (by simp) ?_
      refine AllReadyH.cons rfl (fun K hK => ?_) ?_
      · skip
        obtain ⟨v, cv, hv⟩ := HD.out.kind (x := x) (by omega)
        go_simp
        refine hK.out _ _ trivial (fun _ => ?_)
        clear cv hK K
        refine wpAnyH_ready (rs := [6]) (by kernel_rfl) (by simp) ?_
        refine AllReadyH.cons rfl (fun K hK => ?_) AllReadyH.nil
        go_simp
        refine (pick_any n₀ B _ 60 V89 HD.out.rd (by omega)).mono ?_
        rintro e V91 ⟨y, ⟨rfl, y0, y1, _⟩, hR, hg, -⟩
        have y9 := y1 (by omega)
        obtain ⟨y, rfl⟩ : ∃ z : Nat, y = (z : Int) := ⟨y.toNat, by omega⟩
        refine hK.out _ _ trivial (fun _ => ?_)
        have HD := Lib.hid (HD.out.pick hR hg)
        have hq : Int.tdiv (y : Int) 59 = ((y / 59 : Nat) : Int) := rfl
        obtain ⟨q, hqq⟩ : ∃ q, y / 59 = q := ⟨_, rfl⟩
        have hq1 : q ≤ 1 := by omega
        rw [hqq] at hq
        have hw1 : IntKind.i64.wrap (q : Int) = (q : Int) := wrap_bit _ (by omega) (by omega)
        have hw2 : IntKind.i64.wrap ((q : Int) * 6) = (q : Int) * 6 := wrap_bit _ (by omega) (by omega)
        clear hqq hR hg y1 hK K
        have hw3 : IntKind.i64.wrap ((v : Int) + (q : Int) * 6) = (v : Int) + (q : Int) * 6 := wrap_bit _ (by omega) (by omega)
        refine wpAnyH_take (i := 7) (v := ?_) rfl (by kernel_rfl) (by kernel_rfl) (by kernel_rfl) (fun _ _ _ h => by cases h.1) (Or.inl ⟨by rfl, ?_⟩) trivial ?_
        case refine_2 => intro w _; first | (go_simp; rfl) | go_simp
        simp only [Act.put, List.getElem_toArray, List.getElem_cons_succ, List.getElem_cons_zero, List.setIfInBounds_toArray, List.set_cons_zero, List.set_cons_succ]
        refine wpAnyH_take (i := 8) (v := ?_) rfl (by kernel_rfl) (by kernel_rfl) (by kernel_rfl) (fun _ _ _ h => by cases h.1) (Or.inl ⟨by rfl, ?_⟩) trivial ?_
        case refine_2 => intro w _; first | (go_simp; rfl) | go_simp
        simp only [Act.put, List.getElem_toArray, List.getElem_cons_succ, List.getElem_cons_zero, List.setIfInBounds_toArray, List.set_cons_zero, List.set_cons_succ]
        refine wpAnyH_take (i := 9) (v := ?_) rfl (by kernel_rfl) (by kernel_rfl) (by kernel_rfl) (fun _ _ _ h => by cases h.1) (Or.inl ⟨by rfl, ?_⟩) trivial ?_
        case refine_2 => intro w _; first | (go_simp; rfl) | go_simp
        simp only [Act.put, List.getElem_toArray, List.getElem_cons_succ, List.getElem_cons_zero, List.setIfInBounds_toArray, List.set_cons_zero, List.set_cons_succ]
        refine wpAnyH_take (i := 10) (v := ?_) rfl (by kernel_rfl) (by kernel_rfl) (by kernel_rfl) (fun _ _ _ h => by cases h.1) (Or.inl ⟨by rfl, ?_⟩) trivial ?_
        case refine_2 => intro w _; first | (go_simp; rfl) | go_simp
        simp only [Act.put, List.getElem_toArray, List.getElem_cons_succ, List.getElem_cons_zero, List.setIfInBounds_toArray, List.set_cons_zero, List.set_cons_succ]
        refine wpAnyH_ready (rs := [12]) (by kernel_rfl) (by simp) ?_
        refine AllReadyH.cons rfl (fun K hK => ?_) AllReadyH.nil
        obtain ⟨hA1, hA2⟩ := HD.out.b A rfl
        obtain ⟨⟨s1, s2⟩, ⟨s3, s4⟩, ⟨s5, s6⟩, _⟩ := Box3.puts hA2 ⟨(v : Int) + (q : Int) * 6, 0, 0⟩
        have HF := Lib.hid (HD.out.put ((v : Int) + (q : Int) * 6))
        go_simp
        refine hK.out _ _ trivial (fun _ => ?_)
        clear s1 s2 s3 s4 s5 s6 hA1 hA2 hK K
        refine wpAnyH_done (by kernel_rfl) ?_ _
        exact ⟨rfl, A, _, _, _, _, _, _, _, _, _, _, rfl, HF.out, by omega, by omega⟩
      refine AllReadyH.cons rfl (fun K hK => ?_) AllReadyH.nil
      go_simp
      refine (pick_any n₀ B _ 60 V89 HD.out.rd (by omega)).mono ?_
      rintro e V93 ⟨y, ⟨rfl, y0, y1, _⟩, hR, hg, -⟩
      have y9 := y1 (by omega)
      obtain ⟨y, rfl⟩ : ∃ z : Nat, y = (z : Int) := ⟨y.toNat, by omega⟩
      refine hK.out _ _ trivial (fun _ => ?_)
      have HD := Lib.hid (HD.out.pick hR hg)
      have hq : Int.tdiv (y : Int) 59 = ((y / 59 : Nat) : Int) := rfl
      obtain ⟨q, hqq⟩ : ∃ q, y / 59 = q := ⟨_, rfl⟩
      have hq1 : q ≤ 1 := by omega
      rw [hqq] at hq
      have hw1 : IntKind.i64.wrap (q : Int) = (q : Int) := wrap_bit _ (by omega) (by omega)
      have hw2 : IntKind.i64.wrap ((q : Int) * 6) = (q : Int) * 6 := wrap_bit _ (by omega) (by omega)
      clear hqq hR hg y1 hK K
      refine wpAnyH_take (i := 7) (v := ?_) rfl (by kernel_rfl) (by kernel_rfl) (by kernel_rfl) (fun _ _ _ h => by cases h.1) (Or.inl ⟨by rfl, ?_⟩) trivial ?_
      case refine_2 => intro w _; first | (go_simp; rfl) | go_simp
      simp only [Act.put, List.getElem_toArray, List.getElem_cons_succ, List.getElem_cons_zero, List.setIfInBounds_toArray, List.set_cons_zero, List.set_cons_succ]
      refine wpAnyH_take (i := 8) (v := ?_) rfl (by kernel_rfl) (by kernel_rfl) (by kernel_rfl) (fun _ _ _ h => by cases h.1) (Or.inl ⟨by rfl, ?_⟩) trivial ?_
      case refine_2 => intro w _; first | (go_simp; rfl) | go_simp
      simp only [Act.put, List.getElem_toArray, List.getElem_cons_succ, List.getElem_cons_zero, List.setIfInBounds_toArray, List.set_cons_zero, List.set_cons_succ]
      refine wpAnyH_ready (rs := [4]) (by kernel_rfl) (by simp) ?_
      refine AllReadyH.cons rfl (fun K hK => ?_) AllReadyH.nil
      obtain ⟨v, cv, hv⟩ := HD.out.kind (x := x) (by omega)
      go_simp
      refine hK.out _ _ trivial (fun _ => ?_)
      clear cv hK K
      have hw3 : IntKind.i64.wrap ((v : Int) + (q : Int) * 6) = (v : Int) + (q : Int) * 6 := wrap_bit _ (by omega) (by omega)
      refine wpAnyH_take (i := 9) (v := ?_) rfl (by kernel_rfl) (by kernel_rfl) (by kernel_rfl) (fun _ _ _ h => by cases h.1) (Or.inl ⟨by rfl, ?_⟩) trivial ?_
      case refine_2 => intro w _; first | (go_simp; rfl) | go_simp
      simp only [Act.put, List.getElem_toArray, List.getElem_cons_succ, List.getElem_cons_zero, List.setIfInBounds_toArray, List.set_cons_zero, List.set_cons_succ]
      refine wpAnyH_take (i := 10) (v := ?_) rfl (by kernel_rfl) (by kernel_rfl) (by kernel_rfl) (fun _ _ _ h => by cases h.1) (Or.inl ⟨by rfl, ?_⟩) trivial ?_
      case refine_2 => intro w _; first | (go_simp; rfl) | go_simp
      simp only [Act.put, List.getElem_toArray, List.getElem_cons_succ, List.getElem_cons_zero, List.setIfInBounds_toArray, List.set_cons_zero, List.set_cons_succ]
      refine wpAnyH_ready (rs := [12]) (by kernel_rfl) (by simp) ?_
      refine AllReadyH.cons rfl (fun K hK => ?_) AllReadyH.nil
      obtain ⟨hA1, hA2⟩ := HD.out.b A rfl
      obtain ⟨⟨s1, s2⟩, ⟨s3, s4⟩, ⟨s5, s6⟩, _⟩ := Box3.puts hA2 ⟨(v : Int) + (q : Int) * 6, 0, 0⟩
      have HF := Lib.hid (HD.out.put ((v : Int) + (q : Int) * 6))
      go_simp
      refine hK.out _ _ trivial (fun _ => ?_)
      clear s1 s2 s3 s4 s5 s6 hA1 hA2 hK K
      refine wpAnyH_done (by kernel_rfl) ?_ _
      exact ⟨rfl, A, _, _, _, _, _, _, _, _, _, _, rfl, HF.out, by omega, by omega⟩
    refine AllReadyH.cons rfl (fun K hK => ?_) AllReadyH.nil
    go_simp
    refine (pick_any n₀ B _ 60 V88 HD.out.rd (by omega)).mono ?_
    rintro e V96 ⟨y, ⟨rfl, y0, y1, _⟩, hR, hg, -⟩
    have y9 := y1 (by omega)
    obtain ⟨y, rfl⟩ : ∃ z : Nat, y = (z : Int) := ⟨y.toNat, by omega⟩
    refine hK.out _ _ trivial (fun _ => ?_)
    have HD := Lib.hid (HD.out.pick hR hg)
    have hq : Int.tdiv (y : Int) 59 = ((y / 59 : Nat) : Int) := rfl
    obtain ⟨q, hqq⟩ : ∃ q, y / 59 = q := ⟨_, rfl⟩
    have hq1 : q ≤ 1 := by omega
    rw [hqq] at hq
    have hw1 : IntKind.i64.wrap (q : Int) = (q : Int) := wrap_bit _ (by omega) (by omega)
    have hw2 : IntKind.i64.wrap ((q : Int) * 6) = (q : Int) * 6 := wrap_bit _ (by omega) (by omega)
    clear hqq hR hg y1 hK K
    refine wpAnyH_take (i := 7) (v := ?_) rfl (by kernel_rfl) (by kernel_rfl) (by kernel_rfl) (fun _ _ _ h => by cases h.1) (Or.inl ⟨by rfl, ?_⟩) trivial ?_
    case refine_2 => intro w _; first | (go_simp; rfl) | go_simp
    simp only [Act.put, List.getElem_toArray, List.getElem_cons_succ, List.getElem_cons_zero, List.setIfInBounds_toArray, List.set_cons_zero, List.set_cons_succ]
    refine wpAnyH_take (i := 8) (v := ?_) rfl (by kernel_rfl) (by kernel_rfl) (by kernel_rfl) (fun _ _ _ h => by cases h.1) (Or.inl ⟨by rfl, ?_⟩) trivial ?_
    case refine_2 => intro w _; first | (go_simp; rfl) | go_simp
    simp only [Act.put, List.getElem_toArray, List.getElem_cons_succ, List.getElem_cons_zero, List.setIfInBounds_toArray, List.set_cons_zero, List.set_cons_succ]
    refine wpAnyH_ready (rs := [0]) (by kernel_rfl) (by simp) ?_
    refine AllReadyH.cons rfl (fun K hK => ?_) AllReadyH.nil
    go_simp
    refine hK.out _ _ trivial (fun _ => ?_)
    have hD2 := HD.out.allocL
    obtain ⟨V97, hV⟩ : ∃ X, V96.alloc (.cells kindC 3) = X := ⟨_, rfl⟩
    obtain ⟨L, hL⟩ : ∃ Y, V96.heap.size = Y := ⟨_, rfl⟩
    rw [hV, hL] at hD2
    rw [hV, hL]
    have HD := Lib.hid hD2
    clear hV hL hD2 hK K
    refine wpAnyH_take (i := 3) (v := ?_) rfl (by kernel_rfl) (by kernel_rfl) (by kernel_rfl) (fun _ _ _ h => by cases h.1) (Or.inl ⟨by rfl, ?_⟩) trivial ?_
    case refine_2 => intro w _; first | (go_simp; rfl) | go_simp
    simp only [Act.put, List.getElem_toArray, List.getElem_cons_succ, List.getElem_cons_zero, List.setIfInBounds_toArray, List.set_cons_zero, List.set_cons_succ]
    refine wpAnyH_ready (rs := [4]) (by kernel_rfl) (by simp) ?_
    refine AllReadyH.cons rfl (fun K hK => ?_) AllReadyH.nil
    obtain ⟨v, cv, hv⟩ := HD.out.kind (x := x) (by omega)
    go_simp
    refine hK.out _ _ trivial (fun _ => ?_)
    clear cv hK K
    have hw3 : IntKind.i64.wrap ((v : Int) + (q : Int) * 6) = (v : Int) + (q : Int) * 6 := wrap_bit _ (by omega) (by omega)
    refine wpAnyH_take (i := 9) (v := ?_) rfl (by kernel_rfl) (by kernel_rfl) (by kernel_rfl) (fun _ _ _ h => by cases h.1) (Or.inl ⟨by rfl, ?_⟩) trivial ?_
    case refine_2 => intro w _; first | (go_simp; rfl) | go_simp
    simp only [Act.put, List.getElem_toArray, List.getElem_cons_succ, List.getElem_cons_zero, List.setIfInBounds_toArray, List.set_cons_zero, List.set_cons_succ]
    refine wpAnyH_take (i := 10) (v := ?_) rfl (by kernel_rfl) (by kernel_rfl) (by kernel_rfl) (fun _ _ _ h => by cases h.1) (Or.inl ⟨by rfl, ?_⟩) trivial ?_
    case refine_2 => intro w _; first | (go_simp; rfl) | go_simp
    simp only [Act.put, List.getElem_toArray, List.getElem_cons_succ, List.getElem_cons_zero, List.setIfInBounds_toArray, List.set_cons_zero, List.set_cons_succ]
    refine wpAnyH_ready (rs := [12]) (by kernel_rfl) (by simp) ?_
    refine AllReadyH.cons rfl (fun K hK => ?_) AllReadyH.nil
    obtain ⟨hA1, hA2⟩ := HD.out.b A rfl
    obtain ⟨⟨s1, s2⟩, ⟨s3, s4⟩, ⟨s5, s6⟩, _⟩ := Box3.puts hA2 ⟨(v : Int) + (q : Int) * 6, 0, 0⟩
    have HF := Lib.hid (HD.out.put ((v : Int) + (q : Int) * 6))
    go_simp
    refine hK.out _ _ trivial (fun _ => ?_)
    clear s1 s2 s3 s4 s5 s6 hA1 hA2 hK K
    refine wpAnyH_done (by kernel_rfl) ?_ _
    exact ⟨rfl, A, _, _, _, _, _, _, _, _, _, _, rfl, HF.out, by omega, by omega⟩
  case rest =>
    rintro e a' W' ⟨rfl, A, u10, u12, u13, u14, u16, u17, u18, u19, u20, kk, rfl, hF, hk0, hk1⟩
    rename_i _ hRest
    refine hRest _ _ ?_
    clear hRest
    clear HD hx1 hx2
    have HF := Lib.hid hF
    clear hF
    by_cases hk : kk = 0
    · subst hk
      obtain ⟨⟨a0, a1, a2⟩, af⟩ := box3_cell HF.out.b
      have f1 := af 1
      have f2 := af 2
      clear af
      go_wp2_with fail
      clear a0 a1 a2 f1 f2
      refine (pick_any n₀ B _ n W' HF.out.rd (by omega)).mono ?_
      rintro e W3 ⟨x, ⟨rfl, x0, x1, _⟩, hR, hg, -⟩
      have x9 := x1 (by omega)
      have HF := Lib.hid (HF.out.pick hR hg)
      clear hR hg x1
      obtain ⟨⟨a0, a1, a2⟩, af⟩ := box3_cell HF.out.b
      have f1 := af 1
      have f2 := af 2
      clear af
      have hF2 := HF.out.setA x
      go_wp2_with fail
      clear a0 a1 a2 f1 f2
      obtain ⟨W4, hW⟩ : ∃ X, W3.setCell ⟨A, 1, none⟩ (.int .i64 x) = X := ⟨_, rfl⟩
      rw [hW] at hF2
      try rw [hW]
      have HF := Lib.hid hF2
      clear hW hF2
      refine (pick_any n₀ B _ n W4 HF.out.rd (by omega)).mono ?_
      rintro e W5 ⟨y, ⟨rfl, y0, y1, _⟩, hR, hg, -⟩
      have y9 := y1 (by omega)
      have HF := Lib.hid (HF.out.pick hR hg)
      clear hR hg y1
      obtain ⟨⟨a0, a1, a2⟩, af⟩ := box3_cell HF.out.b
      have f1 := af 1
      have f2 := af 2
      clear af
      have hF2 := HF.out.setB y
      have HF := Lib.hid hF2
      go_wp2_with fail
      refine (odd_any n₀ B _ 40 (W5.setCell ⟨A, 2, none⟩ (.int .i64 y)) HF.out.rd (by omega) (by omega) (by omega)).mono ?_
      rintro e W6 ⟨bb, rfl, hR, hg, -⟩
      have HF := Lib.hid (HF.out.pick hR hg)
      clear hR hg
      cases bb with
      | false =>
        obtain ⟨⟨b0, b1, b2⟩, _⟩ := box3_cell HF.out.b
        obtain ⟨⟨s1, s2⟩, ⟨s3, s4⟩, ⟨s5, s6⟩, _⟩ := Box3.puts HF.out.r ⟨0, x, y⟩
        obtain ⟨q1, q2, q3⟩ := HF.out.fin ⟨0, x, y⟩
        obtain ⟨⟨t1, t2, t3⟩, _⟩ := box3_cell q3
        go_wp2_with fail
        refine bodyPost_ret (v := .agg #[.int .i64 0, .int .i64 x, .int .i64 y]) ?_ rfl ?_
        · simp [results, Tryd.f31, go_sem, t1, t2, t3]
        · exact ⟨⟨0, x, y⟩, rfl, dd_sm 0 x y ⟨by omega, by omega⟩ ⟨by omega, by omega⟩ ⟨by omega, by omega⟩, q1.more (by omega), q2⟩
      | true =>
        have hC := (cells_three W6)
        have hzW := HF.out.b.lt
        go_wp2_with fail
        have HF2 := Lib.hid (HF.out.allocs (.cells #[.int .i64 (-1), .int .i64 9, .int .i64 10] 3))
        refine (pick_any n₀ B _ 3 _ HF2.out.rd (by omega)).mono ?_
        rintro e W7 ⟨u, ⟨rfl, u0, u1, _⟩, hR, hg, -⟩
        have u9 := u1 (by omega)
        obtain ⟨u, rfl⟩ : ∃ z : Nat, u = (z : Int) := ⟨u.toNat, by omega⟩
        obtain ⟨vv, cv, hv0, hv1⟩ := three_cell hC hg (by have := HF.out.z; have := HF.out.a; omega) (show u < 3 by omega)
        have HF := Lib.hid (HF2.out.pick hR hg)
        clear hR hg u1 HF2 hC hzW
        obtain ⟨⟨a0, a1, a2⟩, af⟩ := box3_cell HF.out.b
        have f1 := af 1
        have f2 := af 2
        clear af
        have hF2 := HF.out.setB vv
        skip
        have HF := Lib.hid hF2
        obtain ⟨⟨b0, b1, b2⟩, _⟩ := box3_cell HF.out.b
        obtain ⟨⟨s1, s2⟩, ⟨s3, s4⟩, ⟨s5, s6⟩, _⟩ := Box3.puts HF.out.r ⟨0, x, vv⟩
        obtain ⟨q1, q2, q3⟩ := HF.out.fin ⟨0, x, vv⟩
        obtain ⟨⟨t1, t2, t3⟩, _⟩ := box3_cell q3
        go_wp2_with fail
        refine bodyPost_ret (v := .agg #[.int .i64 0, .int .i64 x, .int .i64 vv]) ?_ rfl ?_
        · simp [results, Tryd.f31, go_sem, t1, t2, t3]
        · exact ⟨⟨0, x, vv⟩, rfl, dd_sm 0 x vv ⟨by omega, by omega⟩ ⟨by omega, by omega⟩ ⟨by omega, by omega⟩, q1.more (by omega), q2⟩
    by_cases hk2 : kk = 2
    · subst hk2
      obtain ⟨⟨a0, a1, a2⟩, af⟩ := box3_cell HF.out.b
      have f1 := af 1
      have f2 := af 2
      clear af
      go_wp2_with fail
      clear a0 a1 a2 f1 f2
      refine (pick_any n₀ B _ n W' HF.out.rd (by omega)).mono ?_
      rintro e W21 ⟨x, ⟨rfl, x0, x1, _⟩, hR, hg, -⟩
      have x9 := x1 (by omega)
      have HF := Lib.hid (HF.out.pick hR hg)
      clear hR hg x1
      obtain ⟨⟨a0, a1, a2⟩, af⟩ := box3_cell HF.out.b
      have f1 := af 1
      have f2 := af 2
      clear af
      have hF2 := HF.out.setA x
      have HF := Lib.hid hF2
      go_wp2_with fail
      refine (odd_any n₀ B _ 40 (W21.setCell ⟨A, 1, none⟩ (.int .i64 x)) HF.out.rd (by omega) (by omega) (by omega)).mono ?_
      rintro e W22 ⟨bb, rfl, hR, hg, -⟩
      have HF := Lib.hid (HF.out.pick hR hg)
      clear hR hg
      cases bb with
      | false =>
        obtain ⟨⟨b0, b1, b2⟩, _⟩ := box3_cell HF.out.b
        obtain ⟨⟨s1, s2⟩, ⟨s3, s4⟩, ⟨s5, s6⟩, _⟩ := Box3.puts HF.out.r ⟨2, x, 0⟩
        obtain ⟨q1, q2, q3⟩ := HF.out.fin ⟨2, x, 0⟩
        obtain ⟨⟨t1, t2, t3⟩, _⟩ := box3_cell q3
        go_wp2_with fail
        refine bodyPost_ret (v := .agg #[.int .i64 2, .int .i64 x, .int .i64 0]) ?_ rfl ?_
        · simp [results, Tryd.f31, go_sem, t1, t2, t3]
        · exact ⟨⟨2, x, 0⟩, rfl, dd_sm 2 x 0 ⟨by omega, by omega⟩ ⟨by omega, by omega⟩ ⟨by omega, by omega⟩, q1.more (by omega), q2⟩
      | true =>
        have hC := (cells_three W22)
        have hzW := HF.out.b.lt
        go_wp2_with fail
        have HF2 := Lib.hid (HF.out.allocs (.cells #[.int .i64 (-1), .int .i64 9, .int .i64 10] 3))
        refine (pick_any n₀ B _ 3 _ HF2.out.rd (by omega)).mono ?_
        rintro e W23 ⟨u, ⟨rfl, u0, u1, _⟩, hR, hg, -⟩
        have u9 := u1 (by omega)
        obtain ⟨u, rfl⟩ : ∃ z : Nat, u = (z : Int) := ⟨u.toNat, by omega⟩
        obtain ⟨vv, cv, hv0, hv1⟩ := three_cell hC hg (by have := HF.out.z; have := HF.out.a; omega) (show u < 3 by omega)
        have HF := Lib.hid (HF2.out.pick hR hg)
        clear hR hg u1 HF2 hC hzW
        obtain ⟨⟨a0, a1, a2⟩, af⟩ := box3_cell HF.out.b
        have f1 := af 1
        have f2 := af 2
        clear af
        have hF2 := HF.out.setB vv
        skip
        have HF := Lib.hid hF2
        obtain ⟨⟨b0, b1, b2⟩, _⟩ := box3_cell HF.out.b
        obtain ⟨⟨s1, s2⟩, ⟨s3, s4⟩, ⟨s5, s6⟩, _⟩ := Box3.puts HF.out.r ⟨2, x, vv⟩
        obtain ⟨q1, q2, q3⟩ := HF.out.fin ⟨2, x, vv⟩
        obtain ⟨⟨t1, t2, t3⟩, _⟩ := box3_cell q3
        go_wp2_with fail
        refine bodyPost_ret (v := .agg #[.int .i64 2, .int .i64 x, .int .i64 vv]) ?_ rfl ?_
        · simp [results, Tryd.f31, go_sem, t1, t2, t3]
        · exact ⟨⟨2, x, vv⟩, rfl, dd_sm 2 x vv ⟨by omega, by omega⟩ ⟨by omega, by omega⟩ ⟨by omega, by omega⟩, q1.more (by omega), q2⟩
    have e0 : (kk == 0) = false := beq_eq_false_iff_ne.2 hk
    have e2 : (kk == 2) = false := beq_eq_false_iff_ne.2 hk2
    obtain ⟨⟨a0, a1, a2⟩, af⟩ := box3_cell HF.out.b
    have f1 := af 1
    have f2 := af 2
    clear af
    go_wp2_with fail
    refine (odd_any n₀ B _ 40 W' HF.out.rd (by omega) (by omega) (by omega)).mono ?_
    rintro e W41 ⟨bb, rfl, hR, hg, -⟩
    have HF := Lib.hid (HF.out.pick hR hg)
    clear hR hg
    cases bb with
    | false =>
      obtain ⟨⟨b0, b1, b2⟩, _⟩ := box3_cell HF.out.b
      obtain ⟨⟨s1, s2⟩, ⟨s3, s4⟩, ⟨s5, s6⟩, _⟩ := Box3.puts HF.out.r ⟨kk, 0, 0⟩
      obtain ⟨q1, q2, q3⟩ := HF.out.fin ⟨kk, 0, 0⟩
      obtain ⟨⟨t1, t2, t3⟩, _⟩ := box3_cell q3
      go_wp2_with fail
      refine bodyPost_ret (v := .agg #[.int .i64 kk, .int .i64 0, .int .i64 0]) ?_ rfl ?_
      · simp [results, Tryd.f31, go_sem, t1, t2, t3]
      · exact ⟨⟨kk, 0, 0⟩, rfl, dd_sm kk 0 0 ⟨by omega, by omega⟩ ⟨by omega, by omega⟩ ⟨by omega, by omega⟩, q1.more (by omega), q2⟩
    | true =>
      have hC := (cells_three W41)
      have hzW := HF.out.b.lt
      go_wp2_with fail
      have HF2 := Lib.hid (HF.out.allocs (.cells #[.int .i64 (-1), .int .i64 9, .int .i64 10] 3))
      refine (pick_any n₀ B _ 3 _ HF2.out.rd (by omega)).mono ?_
      rintro e W42 ⟨u, ⟨rfl, u0, u1, _⟩, hR, hg, -⟩
      have u9 := u1 (by omega)
      obtain ⟨u, rfl⟩ : ∃ z : Nat, u = (z : Int) := ⟨u.toNat, by omega⟩
      obtain ⟨vv, cv, hv0, hv1⟩ := three_cell hC hg (by have := HF.out.z; have := HF.out.a; omega) (show u < 3 by omega)
      have HF := Lib.hid (HF2.out.pick hR hg)
      clear hR hg u1 HF2 hC hzW
      obtain ⟨⟨a0, a1, a2⟩, af⟩ := box3_cell HF.out.b
      have f1 := af 1
      have f2 := af 2
      clear af
      have hF2 := HF.out.setB vv
      skip
      have HF := Lib.hid hF2
      obtain ⟨⟨b0, b1, b2⟩, _⟩ := box3_cell HF.out.b
      obtain ⟨⟨s1, s2⟩, ⟨s3, s4⟩, ⟨s5, s6⟩, _⟩ := Box3.puts HF.out.r ⟨kk, 0, vv⟩
      obtain ⟨q1, q2, q3⟩ := HF.out.fin ⟨kk, 0, vv⟩
      obtain ⟨⟨t1, t2, t3⟩, _⟩ := box3_cell q3
      go_wp2_with fail
      refine bodyPost_ret (v := .agg #[.int .i64 kk, .int .i64 0, .int .i64 vv]) ?_ rfl ?_
      · simp [results, Tryd.f31, go_sem, t1, t2, t3]
      · exact ⟨⟨kk, 0, vv⟩, rfl, dd_sm kk 0 vv ⟨by omega, by omega⟩ ⟨by omega, by omega⟩ ⟨by omega, by omega⟩, q1.more (by omega), q2⟩

end Go.Proofs.YtofpjepndhpciaaDoor
