/-
  A text is spoilt (l20Spoil); the draws of DeedText and ReadDeed.
-/
import Derived.Test.YtofpjepndhpciaaDoorD26
import Derived.Test.YtofpjepndhpciaaDoorLD
import Derived.Test.YtofpjepndhpciaaDoorC2
namespace Go.Proofs.YtofpjepndhpciaaDoor
open Go.RowKit Go.Shelf Go.Deep

/-- The texts that may be laid in. -/
def litP : Nat → ByteArray
  | 0 => ⟨#[]⟩
  | 1 => ⟨#[48]⟩
  | 2 => ⟨#[32]⟩
  | 3 => ⟨#[10]⟩
  | 4 => ⟨#[45]⟩
  | _ => ⟨#[98, 97, 99, 107]⟩
theorem litP_size (q : Nat) : (litP q).size ≤ 4 := by
  unfold litP; split <;> decide
theorem litP_cell (W : World) (q : Nat) (h : q < 6) : (W.alloc (.cells #[.string ⟨#[]⟩, .string ⟨#[48]⟩, .string ⟨#[32]⟩, .string ⟨#[10]⟩, .string ⟨#[45]⟩, .string ⟨#[98, 97, 99, 107]⟩] 9)).cell? ⟨W.heap.size, q, none⟩ = some (.string (litP q)) := by
  have h5 : q = 0 ∨ q = 1 ∨ q = 2 ∨ q = 3 ∨ q = 4 ∨ q = 5 := by omega
  rcases h5 with rfl | rfl | rfl | rfl | rfl | rfl <;> simp [litP]
theorem deed_ne (dk da db ek ea eb : Int) (w : World) : (binOp .neq 24 (.agg #[.int .i64 dk, .int .i64 da, .int .i64 db]) (.agg #[.int .i64 ek, .int .i64 ea, .int .i64 eb])).run Tryd.prog w = .ok (.bool (!eqD ⟨dk, da, db⟩ ⟨ek, ea, eb⟩)) w := by
  have h := deed_eq dk da db ek ea eb w
  rw [run_eql_struct] at h
  rw [run_neq_struct]
  generalize (Op.equalIn 10000 24 (.agg #[.int .i64 dk, .int .i64 da, .int .i64 db]) (.agg #[.int .i64 ek, .int .i64 ea, .int .i64 eb])).run Tryd.prog w = R at h ⊢
  cases R <;> simp_all [Result.andThen]
/-- A text of at most M bytes. -/
def Spoilt (n₀ B N M : Nat) (w : World) (e : Ending) (w' : World) : Prop := ∃ s : ByteArray, e = .returned (.string s) ∧ s.size ≤ M ∧ Rd n₀ B w' N ∧ w.grownBy w' (some B)

set_option maxRecDepth 100000 in
set_option maxHeartbeats 4000000 in
theorem spoil_any (n₀ B N : Nat) (t : ByteArray) (w : World) (hR : Rd n₀ B w N) (hN : N ≤ 500000) (ht : t.size ≤ 1000000) :
    Calls Tryd.prog 42 #[.pointer (some ⟨B, 0, none⟩), .string t] w (Spoilt n₀ B (N + 2) (t.size + 4) w) := by
  by_cases h0 : t.size = 0
  · have hti : ((t.size : Int) == 0) = true := beq_iff_eq.2 (by omega)
    have HR := Lib.hid hR
    clear hR
    go_enter Tryd.func42, Tryd.ntmps42
    go_wp2_with fail
    go_ret
    exact ⟨_, rfl, Nat.le_trans (show (ByteArray.mk #[10]).size ≤ 4 by decide) (Nat.le_add_left _ _), HR.out.more (by omega), ⟨rfl, rfl, rfl, Nat.le_refl _, fun _ _ _ => rfl⟩⟩
  · have hti : ((t.size : Int) == 0) = false := beq_eq_false_iff_ne.2 (by omega)
    go_enter Tryd.func42, Tryd.ntmps42
    go_wp2_with fail
    refine (pick_any n₀ B N _ _ hR (by omega)).mono ?_
    rintro e w5 ⟨x5, ⟨rfl, hk0, hk1, _⟩, hR5, hg5, -⟩
    have hk2 := hk1 (by omega)
    obtain ⟨k, rfl⟩ : ∃ k : Nat, x5 = (k : Int) := ⟨x5.toNat, by omega⟩
    have HG5 := Lib.hid hg5
    have HR5 := Lib.hid hR5
    have hk3 : (k : Int) ≤ (t.size : Int) := by omega
    have hk4 : (k : Int) + 1 ≤ (t.size : Int) := by omega
    have hk5 : (0 : Int) ≤ (k : Int) + 1 := by omega
    have hkw : IntKind.i64.wrap ((k : Int) + 1) = (k : Int) + 1 := by simp [IntKind.wrap, IntKind.bits, IntKind.signed]; omega
    clear hk1 hR hg5 hR5
    go_wp2_with fail
    refine wp_region_any (by kernel_rfl) ?_
    change wpAny _ _ _ _ _ _ _ (World.drew _)
    obtain ⟨U, hU⟩ : ∃ U, w5.drew = U := ⟨_, rfl⟩
    have hRU : Rd n₀ B U (N + 1) := by rw [← hU]; exact HR5.out
    have HGU : Hid (w.grownBy U (some B)) := Lib.hid (by rw [← hU]; exact ⟨HG5.out.os, HG5.out.tape, HG5.out.output, HG5.out.size, HG5.out.block⟩)
    rw [hU]
    clear hU
    have hBU := hRU.lt
    have h12 : (t.extract 0 k).size + (t.extract (k + 1) t.size).size ≤ t.size := by rw [ByteArray.size_extract, ByteArray.size_extract]; omega
    refine wpAny_take (i := 0) (v := ?_) rfl (by kernel_rfl) (by kernel_rfl) (by kernel_rfl) (fun _ _ _ h => h) (Or.inl ⟨by rfl, ?_⟩) ?_
    case refine_2 => intro w; first | (go_simp; rfl) | go_simp
    simp only [Act.put, List.getElem_toArray, List.getElem_cons_zero, List.setIfInBounds_toArray, List.set_cons_zero, List.set_cons_succ]
    refine wpAny_take (i := 1) (v := ?_) rfl (by kernel_rfl) (by kernel_rfl) (by kernel_rfl) (fun _ _ _ h => h) (Or.inl ⟨by rfl, ?_⟩) ?_
    case refine_2 => intro w; first | (go_simp; rfl) | go_simp
    simp only [Act.put, List.getElem_toArray, List.getElem_cons_succ, List.getElem_cons_zero, List.setIfInBounds_toArray, List.set_cons_zero, List.set_cons_succ]
    refine wpAny_take (i := 2) (v := ?_) rfl (by kernel_rfl) (by kernel_rfl) (by kernel_rfl) (fun _ _ _ h => h) (Or.inl ⟨by rfl, ?_⟩) ?_
    case refine_2 => intro w; first | (go_simp; rfl) | go_simp
    simp only [Act.put, List.getElem_toArray, List.getElem_cons_succ, List.getElem_cons_zero, List.setIfInBounds_toArray, List.set_cons_zero, List.set_cons_succ]
    refine wpAny_take (i := 4) (v := ?_) rfl (by kernel_rfl) (by kernel_rfl) (by kernel_rfl) (fun _ _ _ h => h) (Or.inl ⟨by rfl, ?_⟩) ?_
    case refine_2 => intro w; first | (go_simp; rfl) | go_simp
    simp only [Act.put, List.getElem_toArray, List.getElem_cons_succ, List.getElem_cons_zero, List.setIfInBounds_toArray, List.set_cons_zero, List.set_cons_succ]
    refine wpAny_take (i := 9) (v := ?_) rfl (by kernel_rfl) (by kernel_rfl) (by kernel_rfl) (fun _ _ _ h => h) (Or.inl ⟨by rfl, ?_⟩) ?_
    case refine_2 => intro w; first | (go_simp; rfl) | go_simp
    simp only [Act.put, List.getElem_toArray, List.getElem_cons_succ, List.getElem_cons_zero, List.setIfInBounds_toArray, List.set_cons_zero, List.set_cons_succ]
    refine wpAny_take (i := 10) (v := ?_) rfl (by kernel_rfl) (by kernel_rfl) (by kernel_rfl) (fun _ _ _ h => h) (Or.inl ⟨by rfl, ?_⟩) ?_
    case refine_2 => intro w; first | (go_simp; rfl) | go_simp
    simp only [Act.put, List.getElem_toArray, List.getElem_cons_succ, List.getElem_cons_zero, List.setIfInBounds_toArray, List.set_cons_zero, List.set_cons_succ]
    refine wpAny_take (i := 11) (v := ?_) rfl (by kernel_rfl) (by kernel_rfl) (by kernel_rfl) (fun _ _ _ h => h) (Or.inl ⟨by rfl, ?_⟩) ?_
    case refine_2 => intro w; first | (go_simp; rfl) | go_simp
    simp only [Act.put, List.getElem_toArray, List.getElem_cons_succ, List.getElem_cons_zero, List.setIfInBounds_toArray, List.set_cons_zero, List.set_cons_succ]
    refine wpAny_take (i := 12) (v := ?_) rfl (by kernel_rfl) (by kernel_rfl) (by kernel_rfl) (fun _ _ _ h => h) (Or.inl ⟨by rfl, ?_⟩) ?_
    case refine_2 => intro w; first | (go_simp; rfl) | go_simp
    simp only [Act.put, List.getElem_toArray, List.getElem_cons_succ, List.getElem_cons_zero, List.setIfInBounds_toArray, List.set_cons_zero, List.set_cons_succ]
    generalize t.extract 0 k = p1 at h12 ⊢
    generalize t.extract (k + 1) t.size = p2 at h12 ⊢
    have HRU := Lib.hid hRU
    clear hRU
    refine wpAny_ready (rs := [3, 5]) (by kernel_rfl) (by simp) ?_
    refine AllReady.cons rfl (fun K hK => ?_) (AllReady.cons rfl (fun K hK => ?_) AllReady.nil)
    · skip
      go_simp
      refine hK _ _ ?_
      clear hK K
      have HRA : Hid (Rd n₀ B (U.alloc (.cells #[.string ⟨#[]⟩, .string ⟨#[48]⟩, .string ⟨#[32]⟩, .string ⟨#[10]⟩, .string ⟨#[45]⟩, .string ⟨#[98, 97, 99, 107]⟩] 9)) (N + 1)) := Lib.hid (HRU.out.keep (World.grownBy_alloc U _ none) (fun r e => by cases e))
      refine wpAny_ready (rs := [5]) (by kernel_rfl) (by simp) ?_
      refine AllReady.cons rfl (fun K hK => ?_) AllReady.nil
      go_simp
      refine (pick_any n₀ B (N + 1) 6 _ (HRA.out) (by omega)).mono ?_
      rintro e w9 ⟨y, ⟨rfl, hy0', hy1', _⟩, hR9, hg9, hs9⟩
      have hy2' := hy1' (by omega)
      obtain ⟨q, rfl⟩ : ∃ q : Nat, y = (q : Int) := ⟨y.toNat, by omega⟩
      have hq5 : q < 6 := by omega
      have hqi : (q : Int) < 6 := by omega
      have hls := litP_size q
      have hnb1 : ¬ 9223372036854775807 < p1.size + (litP q).size := by omega
      have hnb2 : ¬ 9223372036854775807 < p1.size + (litP q).size + p2.size := by omega
      have hcl : w9.cell? ⟨U.heap.size, q, none⟩ = some (.string (litP q)) := hg9.cell (litP_cell U q hq5) (fun e => by have e' : U.heap.size = B := Option.some.inj e; omega)
      have HGF := Lib.hid (grow_B (grow_B HGU.out (World.grownBy_alloc U (.cells #[.string ⟨#[]⟩, .string ⟨#[48]⟩, .string ⟨#[32]⟩, .string ⟨#[10]⟩, .string ⟨#[45]⟩, .string ⟨#[98, 97, 99, 107]⟩] 9) none) (fun r e => by cases e)) hg9 (fun r e => by cases e; exact .inr rfl))
      have HRF := Lib.hid hR9
      clear hg9 hs9 hR9 hy1' 
      refine hK _ _ ?_
      clear hK K
      refine wpAny_take (i := 6) (v := ?_) rfl (by kernel_rfl) (by kernel_rfl) (by kernel_rfl) (fun _ _ _ h => h) (Or.inl ⟨by rfl, ?_⟩) ?_
      case refine_2 => intro w; first | (go_simp; rfl) | go_simp
      simp only [Act.put, List.getElem_toArray, List.getElem_cons_succ, List.getElem_cons_zero, List.setIfInBounds_toArray, List.set_cons_zero, List.set_cons_succ]
      refine wpAny_ready (rs := [7]) (by kernel_rfl) (by simp) ?_
      refine AllReady.cons rfl (fun K hK => ?_) AllReady.nil
      go_simp
      refine hK _ _ ?_
      clear hK K
      refine wpAny_take (i := 8) (v := ?_) rfl (by kernel_rfl) (by kernel_rfl) (by kernel_rfl) (fun _ _ _ h => h) (Or.inl ⟨by rfl, ?_⟩) ?_
      case refine_2 => intro w; first | (go_simp; rfl) | go_simp
      simp only [Act.put, List.getElem_toArray, List.getElem_cons_succ, List.getElem_cons_zero, List.setIfInBounds_toArray, List.set_cons_zero, List.set_cons_succ]
      refine wpAny_take (i := 13) (v := ?_) rfl (by kernel_rfl) (by kernel_rfl) (by kernel_rfl) (fun _ _ _ h => h) (Or.inl ⟨by rfl, ?_⟩) ?_
      case refine_2 => intro w; first | (go_simp; rfl) | go_simp
      simp only [Act.put, List.getElem_toArray, List.getElem_cons_succ, List.getElem_cons_zero, List.setIfInBounds_toArray, List.set_cons_zero, List.set_cons_succ]
      refine wpAny_take (i := 14) (v := ?_) rfl (by kernel_rfl) (by kernel_rfl) (by kernel_rfl) (fun _ _ _ h => h) (Or.inl ⟨by rfl, ?_⟩) ?_
      case refine_2 => intro w; first | (go_simp; rfl) | go_simp
      simp only [Act.put, List.getElem_toArray, List.getElem_cons_succ, List.getElem_cons_zero, List.setIfInBounds_toArray, List.set_cons_zero, List.set_cons_succ]
      refine wpAny_done (by kernel_rfl) ?_ _
      go_wp2_with fail
      go_ret
      exact ⟨_, rfl, by rw [ByteArray.size_append, ByteArray.size_append]; omega, HRF.out, HGF.out⟩
    · skip
      go_simp
      refine (pick_any n₀ B (N + 1) 6 _ (HRU.out) (by omega)).mono ?_
      rintro e w9 ⟨y, ⟨rfl, hy0', hy1', _⟩, hR9, hg9, hs9⟩
      have hy2' := hy1' (by omega)
      obtain ⟨q, rfl⟩ : ∃ q : Nat, y = (q : Int) := ⟨y.toNat, by omega⟩
      have hq5 : q < 6 := by omega
      have hqi : (q : Int) < 6 := by omega
      have hls := litP_size q
      have hnb1 : ¬ 9223372036854775807 < p1.size + (litP q).size := by omega
      have hnb2 : ¬ 9223372036854775807 < p1.size + (litP q).size + p2.size := by omega
      have HGF := Lib.hid (grow_B HGU.out hg9 (fun r e => by cases e; exact .inr rfl))
      have hcl := litP_cell w9 q hq5
      have HRF : Hid (Rd n₀ B (w9.alloc (.cells #[.string ⟨#[]⟩, .string ⟨#[48]⟩, .string ⟨#[32]⟩, .string ⟨#[10]⟩, .string ⟨#[45]⟩, .string ⟨#[98, 97, 99, 107]⟩] 9)) (N + 2)) := Lib.hid (hR9.keep (World.grownBy_alloc w9 _ none) (fun r e => by cases e))
      clear hg9 hs9 hR9 hy1' 
      refine hK _ _ ?_
      clear hK K
      refine wpAny_ready (rs := [3]) (by kernel_rfl) (by simp) ?_
      refine AllReady.cons rfl (fun K hK => ?_) AllReady.nil
      go_simp
      refine hK _ _ ?_
      clear hK K
      refine wpAny_take (i := 6) (v := ?_) rfl (by kernel_rfl) (by kernel_rfl) (by kernel_rfl) (fun _ _ _ h => h) (Or.inl ⟨by rfl, ?_⟩) ?_
      case refine_2 => intro w; first | (go_simp; rfl) | go_simp
      simp only [Act.put, List.getElem_toArray, List.getElem_cons_succ, List.getElem_cons_zero, List.setIfInBounds_toArray, List.set_cons_zero, List.set_cons_succ]
      refine wpAny_ready (rs := [7]) (by kernel_rfl) (by simp) ?_
      refine AllReady.cons rfl (fun K hK => ?_) AllReady.nil
      go_simp
      refine hK _ _ ?_
      clear hK K
      refine wpAny_take (i := 8) (v := ?_) rfl (by kernel_rfl) (by kernel_rfl) (by kernel_rfl) (fun _ _ _ h => h) (Or.inl ⟨by rfl, ?_⟩) ?_
      case refine_2 => intro w; first | (go_simp; rfl) | go_simp
      simp only [Act.put, List.getElem_toArray, List.getElem_cons_succ, List.getElem_cons_zero, List.setIfInBounds_toArray, List.set_cons_zero, List.set_cons_succ]
      refine wpAny_take (i := 13) (v := ?_) rfl (by kernel_rfl) (by kernel_rfl) (by kernel_rfl) (fun _ _ _ h => h) (Or.inl ⟨by rfl, ?_⟩) ?_
      case refine_2 => intro w; first | (go_simp; rfl) | go_simp
      simp only [Act.put, List.getElem_toArray, List.getElem_cons_succ, List.getElem_cons_zero, List.setIfInBounds_toArray, List.set_cons_zero, List.set_cons_succ]
      refine wpAny_take (i := 14) (v := ?_) rfl (by kernel_rfl) (by kernel_rfl) (by kernel_rfl) (fun _ _ _ h => h) (Or.inl ⟨by rfl, ?_⟩) ?_
      case refine_2 => intro w; first | (go_simp; rfl) | go_simp
      simp only [Act.put, List.getElem_toArray, List.getElem_cons_succ, List.getElem_cons_zero, List.setIfInBounds_toArray, List.set_cons_zero, List.set_cons_succ]
      refine wpAny_done (by kernel_rfl) ?_ _
      go_wp2_with fail
      go_ret
      exact ⟨_, rfl, by rw [ByteArray.size_append, ByteArray.size_append]; omega, HRF.out, grow_B HGF.out (World.grownBy_alloc w9 _ none) (fun r e => by cases e)⟩

def DrawnDeed (w : World) (e : Ending) (w' : World) : Prop := ∃ d : Dd, e = .returned (.agg #[.int .i64 d.k, .int .i64 d.a, .int .i64 d.b]) ∧ DdSm d ∧ Below w.heap.size w w'
def DrawnTxt (M : Nat) (w : World) (e : Ending) (w' : World) : Prop := ∃ s : ByteArray, e = .returned (.string s) ∧ s.size ≤ M ∧ Below w.heap.size w w'
theorem ddT_len (d : Dd) : (ddT d).length ≤ 10 := by
  unfold ddT
  repeat' split
  all_goals simp [tArrow, tDrop, tNode, tCore, tTurn, tBack]
theorem tB_len (l : List UInt8) : (tB l).size = l.length := by simp [ByteArray.size]

set_option maxRecDepth 100000 in
set_option maxHeartbeats 4000000 in
theorem drawDdt_any (a : Option Addr) (n c : Nat) (w : World) (hn : n ≤ 1048576) (hc : n ≤ c) (hy : Bytes w.heap.size w a n) :
    Calls Tryd.prog 10 #[.slice a n c] w (DrawnDeed w) := by
  have hx := Box3.new w ⟨0, 0, 0⟩
  have hy2 : Bytes (w.heap.size + 1) (w.alloc (.cells #[.int .i64 0, .int .i64 0, .int .i64 0] 24)) a n := fun hp => by
    obtain ⟨b, o, e, hb, hc⟩ := hy.keep (B := w.alloc (.cells #[.int .i64 0, .int .i64 0, .int .i64 0] 24)) (fun p hp => World.cell?_alloc_lt w _ p hp) hp
    exact ⟨b, o, e, by omega, hc⟩
  have hB0 : Below w.heap.size w (w.alloc (.cells #[.int .i64 0, .int .i64 0, .int .i64 0] 24)) := (Below.refl _ _).alloc (Nat.le_refl _) _
  have hz0 : (w.alloc (.cells #[.int .i64 0, .int .i64 0, .int .i64 0] 24)).heap.size = w.heap.size + 1 := by simp
  go_enter Tryd.func10, Tryd.ntmps10
  go_wp2_with fail
  change Box3 (w.alloc (.cells #[.int .i64 0, .int .i64 0, .int .i64 0] 24)) w.heap.size ⟨0, 0, 0⟩ at hx
  obtain ⟨V, hV⟩ : ∃ V, w.alloc (.cells #[.int .i64 0, .int .i64 0, .int .i64 0] 24) = V := ⟨_, rfl⟩
  rw [hV] at hx hy2 hB0 hz0 ⊢
  clear hV
  refine (open_any a n c V hn hc (hz0 ▸ hy2)).mono ?_
  rintro e w1 ⟨rfl, hR, hB1⟩
  have hb1 : Below w.heap.size w w1 := hB0.trans (hB1.mono (by omega))
  have hx1 : Box3 w1 w.heap.size ⟨0, 0, 0⟩ := (hB1.block _ (by omega)).trans hx
  obtain ⟨B, hBe⟩ : ∃ B, V.heap.size = B := ⟨_, rfl⟩
  have hzB : w.heap.size < B := by omega
  rw [hBe] at hR ⊢
  have hz1 : w.heap.size ≤ w1.heap.size := hb1.size
  clear hB1 hB0 hx hBe hz0 hy hy2
  have HB1 := Lib.hid hb1
  have HX1 := Lib.hid hx1
  clear hb1 hx1
  go_wp2_with fail
  refine (graph_anyK B B 0 5 5 0 w1 hR (by omega) (by omega) (by omega) (by omega) (by omega) (by omega)).mono ?_
  rintro e w2 ⟨a2, c2, xss, rfl, hF, -, hR2, hg2, hx4⟩
  have hl2 : xss.length ≤ 1048576 := by omega
  have HG2 := Lib.hid hg2
  clear hF hR hg2
  go_wp2_with fail
  refine (deed_any B B (0 + 200) a2 xss.length c2 w2 hR2 (by omega) hl2).mono ?_
  rintro e w3 ⟨d, rfl, hd, -, hg3⟩
  have hG3 : w1.grownBy w3 (some B) := grow_B HG2.out hg3 (fun r e => by cases e; exact .inr rfl)
  have hX3 : Box3 w3 w.heap.size ⟨0, 0, 0⟩ := HX1.out.grown hG3 (fun e => by have := Option.some.inj e; omega)
  have HB3 : Hid (Below w.heap.size w w3) := Lib.hid (HB1.out.grown hG3 hz1 (fun k e => by cases e; omega))
  have HD := Lib.hid hd
  obtain ⟨k, x, y⟩ := d
  clear hd hg3 hG3 HG2 hR2 HX1 HB1
  obtain ⟨⟨b0, b1, b2⟩, _⟩ := box3_cell hX3
  obtain ⟨⟨s1, s2⟩, ⟨s3, s4⟩, ⟨s5, s6⟩, q3⟩ := Box3.puts hX3 ⟨k, x, y⟩
  obtain ⟨⟨t1, t2, t3⟩, _⟩ := box3_cell q3
  have HBF := Lib.hid (below_put3 HB3.out (Nat.le_refl _) ⟨k, x, y⟩)
  clear hX3 q3
  unfold ddV
  go_wp2_with fail
  refine bodyPost_ret (v := .agg #[.int .i64 k, .int .i64 x, .int .i64 y]) ?_ rfl ?_
  · simp [results, Tryd.f10, go_sem, t1, t2, t3]
  · exact ⟨⟨k, x, y⟩, rfl, HD.out, HBF.out⟩

set_option maxRecDepth 100000 in
set_option maxHeartbeats 4000000 in
theorem drawRdd_any (a : Option Addr) (n c : Nat) (w : World) (hn : n ≤ 1048576) (hc : n ≤ c) (hy : Bytes w.heap.size w a n) :
    Calls Tryd.prog 15 #[.slice a n c] w (DrawnTxt 20 w) := by
  go_enter Tryd.func15, Tryd.ntmps15
  go_wp2_with fail
  refine (open_any a n c w hn hc hy).mono ?_
  rintro e w1 ⟨rfl, hR, hB⟩
  have hz1 := hB.size
  have HB1 := Lib.hid hB
  obtain ⟨B, hBe⟩ : ∃ B, w.heap.size = B := ⟨_, rfl⟩
  rw [hBe] at hR ⊢
  have hfin : ∀ (w5 : World), w1.grownBy w5 (some B) → Below w.heap.size w w5 := fun w5 h => HB1.out.grown h hz1 (fun k e => by cases e; exact Nat.le_of_eq hBe)
  have HFIN := Lib.hid hfin
  clear hfin hB hy
  go_wp2_with fail
  refine (graph_anyK B B 0 5 5 0 w1 hR (by omega) (by omega) (by omega) (by omega) (by omega) (by omega)).mono ?_
  rintro e w2 ⟨a2, c2, xss, rfl, hF, -, hR2, hg2, hx4⟩
  have hl2 : xss.length ≤ 1048576 := by omega
  have HG2 := Lib.hid hg2
  clear hF hR hg2
  go_wp2_with fail
  refine (deed_any B B (0 + 200) a2 xss.length c2 w2 hR2 (by omega) hl2).mono ?_
  rintro e w3 ⟨d, rfl, -, hR3, hg3⟩
  have HG3 := Lib.hid (grow_B HG2.out hg3 (fun r e => by cases e; exact .inr rfl))
  obtain ⟨k, x, y⟩ := d
  unfold ddV
  clear hR2 hg3
  go_wp2_with fail
  refine (specDdt k x y w3).mono ?_
  rintro e w4 ⟨rfl, hB4⟩
  have hts : (tB (ddT ⟨k, x, y⟩)).size ≤ 10 := by rw [tB_len]; exact ddT_len _
  obtain ⟨t, ht⟩ : ∃ t, tB (ddT ⟨k, x, y⟩) = t := ⟨_, rfl⟩
  rw [ht] at hts ⊢
  clear ht
  have hR4 : Rd B B w4 (0 + 200 + 10) := hR3.keep (grown_of_below hB4) (fun r e => by cases e)
  have HG4 := Lib.hid (grow_B HG3.out (grown_of_below hB4) (fun r e => by cases e))
  clear hR3 hB4 HG2 HG3
  go_wp2_with fail
  refine (pick_any B B _ _ _ hR4 (by omega)).mono ?_
  rintro e w5 ⟨x5, ⟨rfl, -, -, -⟩, hR5, hg5, -⟩
  have HG5 := Lib.hid (grow_B HG4.out hg5 (fun r e => by cases e; exact .inr rfl))
  clear hR4 hg5 HG4
  by_cases hx : x5 = 0
  · subst hx
    go_wp2_with fail
    refine (spoil_any B B _ t w5 hR5 (by omega) (by omega)).mono ?_
    rintro e w6 ⟨s, rfl, hs, -, hg6⟩
    have HG6 := Lib.hid (grow_B HG5.out hg6 (fun r e => by cases e; exact .inr rfl))
    clear hg6
    go_wp2_with fail
    go_ret
    exact ⟨s, rfl, by omega, HFIN.out _ HG6.out⟩
  · have hxb : (x5 == 0) = false := by simpa using hx
    clear hx
    go_wp2_with fail
    go_ret
    exact ⟨t, rfl, by omega, HFIN.out _ HG5.out⟩

end Go.Proofs.YtofpjepndhpciaaDoor
