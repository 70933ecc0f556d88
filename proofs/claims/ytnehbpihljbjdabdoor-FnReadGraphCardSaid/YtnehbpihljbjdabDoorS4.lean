/-
  impl.GraphText, walked.
-/
import Derived.Test.YtnehbpihljbjdabDoorS3
import Derived.Test.YtnehbpihljbjdabDoorSh1
import Derived.Test.YtnehbpihljbjdabDoorZE
import Derived.Test.YtnehbpihljbjdabDoorZM
namespace Go.Proofs.YtnehbpihljbjdabDoor
open Go.RowKit Go.Shelf Go.Deep

attribute [local go_sem] Oper.semAt_some

theorem infoStr : (Tryd.prog.info? 9).map (fun i => (i.zero, i.size, i.bytes)) = some (some (.string ⟨#[]⟩), 1, 16) := by kernel_rfl

set_option maxHeartbeats 1000000 in
theorem digit_any (k : Nat) (hk : k < 10) (w : World) : Calls Tryd.prog 22 #[.int .i64 k] w fun e w' => e = .returned (.int .u8 (48 + (k : Int))) ∧ w' = w := by
  go_enter Tryd.func22, Tryd.ntmps22
  go_wp2_with fail
  go_ret
  exact ⟨rfl, rfl⟩

theorem enc_digit (k : Nat) (hk : k < 10) : Utf8.encode (48 + (k : Int)) = digB k := by
  have h : k = 0 ∨ k = 1 ∨ k = 2 ∨ k = 3 ∨ k = 4 ∨ k = 5 ∨ k = 6 ∨ k = 7 ∨ k = 8 ∨ k = 9 := by omega
  rcases h with rfl | rfl | rfl | rfl | rfl | rfl | rfl | rfl | rfl | rfl <;> rfl

set_option maxRecDepth 100000 in
set_option maxHeartbeats 4000000 in
theorem implText_w (a : Option Addr) (c : Nat) (xss : List (List Int)) (w : World) (hM : Mat w.heap.size w a xss) (hf : Fit xss) :
    CallsIn Fence.wide 20 Tryd.prog 7 #[.slice a xss.length c] w (Ans (.string (gTextB xss)) w) := by
  have HF := Lib.hid hf
  clear hf
  have hdd : ∀ k : Nat, (Fence.wide.depth.isSome = true → 1 ≤ k) := fun k h => by cases h
  have es : ∀ (W : World) (o : Obj), (W.alloc o).heap.size = W.heap.size + 1 := fun W o => by simp
  have h2 : Fence.wide.fn 15 := trivial
  have h3 : Fence.wide.fn 21 := trivial
  have h4 : Fence.wide.fn 23 := trivial
  by_cases hg : gOk xss = true
  · have HG := Lib.hid (good_of hg)
    have hl9 := HG.out.2.1
    have hl1 := HG.out.1
    obtain ⟨z, HZ⟩ : ∃ z, Hid (gTextB xss = z) := ⟨_, rfl⟩
    have HZ2 : Hid (textB xss xss.length = z) := Lib.hid (by rw [← HZ.out]; unfold gTextB; rw [if_pos hg])
    rw [HZ.out]
    have hmk := run_make_row' (P := Tryd.prog) 38 9 (.string ⟨#[]⟩) 16 Tryd.underlying38 infoStr rfl .i64 .i64 xss.length (by omega) (by omega)
    refine callsIn_of_wp_marks Tryd.func7 rfl trivial ?_ rfl
    simp only [Tryd.ntmps7, List.size_toArray, List.length_cons, List.length_nil, Nat.reduceAdd, Nat.reduceSub, Array.replicate_succ, Array.replicate_zero, List.push_toArray, List.append_toArray, List.nil_append, List.cons_append]
    gi_wp2_with (first | ((try refine ⟨hdd _, ?_⟩); gi_at_call 15; refine (implOk_in Fence.wide _ (fun _ => trivial) rfl (by omega) _ _ _ _ hM HF.out).mono ?_; rw [hg]; rintro e w1 ⟨rfl, hB1⟩) | ((try refine ⟨hdd _, ?_⟩); gi_at_call 21; refine (arrows_in Fence.wide _ (fun _ => trivial) rfl _ _ _ _).mono ?_; rintro e w' ⟨rfl, rfl⟩))
    clear hmk
    have hs1 := hB1.size
    have r0 := ((World.rowIs_made w1 (.string ⟨#[]⟩) xss.length 9).alloc (.cells #[.slice (some ⟨w1.heap.size, 0, none⟩) xss.length xss.length] 38)).alloc (.cells #[.slice a xss.length c] 42)
    have bT := (Boxed.new (w1.alloc (.cells (madeCells #[.string ⟨#[]⟩] xss.length) 9)) 38 (.slice (some ⟨w1.heap.size, 0, none⟩) xss.length xss.length)).alloc (.cells #[.slice a xss.length c] 42)
    have bG := Boxed.new ((w1.alloc (.cells (madeCells #[.string ⟨#[]⟩] xss.length) 9)).alloc (.cells #[.slice (some ⟨w1.heap.size, 0, none⟩) xss.length xss.length] 38)) 42 (.slice a xss.length c)
    rw [es] at bT
    rw [es, es] at bG
    have hB3 := ((hB1.alloc hs1 (.cells (madeCells #[.string ⟨#[]⟩] xss.length) 9)).alloc (by rw [es]; omega) (.cells #[.slice (some ⟨w1.heap.size, 0, none⟩) xss.length xss.length] 38)).alloc (by rw [es, es]; omega) (.cells #[.slice a xss.length c] 42)
    have hsz : (((w1.alloc (.cells (madeCells #[.string ⟨#[]⟩] xss.length) 9)).alloc (.cells #[.slice (some ⟨w1.heap.size, 0, none⟩) xss.length xss.length] 38)).alloc (.cells #[.slice a xss.length c] 42)).heap.size = w1.heap.size + 3 := by rw [es, es, es]
    obtain ⟨V, hV⟩ : ∃ V, ((w1.alloc (.cells (madeCells #[.string ⟨#[]⟩] xss.length) 9)).alloc (.cells #[.slice (some ⟨w1.heap.size, 0, none⟩) xss.length xss.length] 38)).alloc (.cells #[.slice a xss.length c] 42) = V := ⟨_, rfl⟩
    rw [hV] at bT bG hB3 hsz r0 ⊢
    clear hV hB1
    have hMV := hM.below hB3
    refine range_law rfl rfl (fun _ => trivial) (gf := 40) (lb := #[.pointer (some ⟨w1.heap.size + 1 + 1, 0, none⟩)]) rfl (enters_of Tryd.func40 (by kernel_rfl) rfl)
      (arrows_X Fence.wide rfl (fun _ => trivial) rfl (w1.heap.size + 1 + 1) w.heap.size a c xss HG.out (fun B => B = w1.heap.size) (V.heap.size + 2) V (by omega) (by omega) (fun B s => by omega) (fun B s => by omega) (by omega) bG hMV) (fun h k => KeepC.trans h k) (fun W' o o' h hc => KeepC.putObj _ (by omega) W' o o' h hc) (Below.refl _ _) (fun _ => rfl)
      (fun pre W' => (Boxed W' (w1.heap.size + 1) 38 (.slice (some ⟨w1.heap.size, 0, none⟩) xss.length xss.length) ∧ W'.rowIs w1.heap.size 9 xss.length (fun k => .string (rowT k pre ⟨#[]⟩))) ∧ Below w.heap.size w W')
      (fun _ _ _ => False)
      (OwnFrom.and (OwnFrom.and (Own.from (boxed_own _ _ _) _) (Own.from (rowIs_own _ _ _ (fun pre k => .string (rowT k pre ⟨#[]⟩))) _)) (ownFrom_below (Nat.le_refl _) (by omega)))
      (fun _ _ _ _ _ hs _ _ => hs)
      ⟨⟨bT, r0⟩, hB3⟩ ?a1 ?assign ?body ?done ?stop
    case assign =>
      intro l2 x W' K hK
      gi_wp2
      exact hK
    case body =>
      rintro l2 pre ⟨⟨i, hi⟩, ⟨j, hj⟩⟩ W' ⟨⟨bT', hR⟩, hB'⟩ hlen
      clear bT bG r0 hB3 hMV
      have hws := hB'.size
      have cT := bT'.cell
      have cR := hR.cell hi
      have fR := hR.frozen i
      have hlb := World.rowIs.lt hR
      have hsq := sq_le hl9
      have hts := rowT_size i pre (⟨#[]⟩ : ByteArray)
      have h0 : (⟨#[]⟩ : ByteArray).size = 0 := rfl
      have hts2 : (rowT i pre ⟨#[]⟩).size ≤ 81 := by omega
      have HROW : Hid (∀ k, k < xss.length → (if k = i then Value.string (rowT i pre ⟨#[]⟩ ++ digB j) else .string (rowT k pre ⟨#[]⟩)) = .string (rowT k (pre ++ [((⟨i, hi⟩ : Fin xss.length), (⟨j, hj⟩ : Fin xss.length))]) ⟨#[]⟩)) := Lib.hid fun k hk => by
        by_cases e : k = i
        · subst e; rw [if_pos rfl, rowT_yes]
        · rw [if_neg e, rowT_no hi hj (Ne.symm e)]
      have hdz := digB_size j
      have henc := enc_digit j (by omega)
      have HRS := Lib.hid (hR.set i (.string (rowT i pre ⟨#[]⟩ ++ digB j)))
      clear hts hsq h0 hlen
      generalize rowT i pre ⟨#[]⟩ = t at cR hts2 HROW HRS
      have HR := Lib.hid hR
      have hnb : ¬ 9223372036854775807 < t.size + 1 := by omega
      clear hR
      gi_wp2_with fail
      refine region_still_tail_in 9 (by kernel_rfl) (by kernel_rfl) (by kernel_rfl) (fun ⟨_, _, h⟩ => h) ?_
      simp only [List.take_succ_cons, List.take_zero, List.drop_succ_cons, List.drop_zero]
      repeat still_step
      still_call (digit_any j (by omega) _)
      repeat still_step
      try refine wpStill_nil ?_
      change wpList _ _ _ _ _ W'.drew
      go_wp2_with fail
      gi_wp2
      have hk1 := (KeepsOthers.setCell W' ⟨w1.heap.size, i, none⟩ (.string (t ++ digB j))).from V.heap.size
      have hk2 := KeepC.setCell (S := fun B => B = w1.heap.size) (V.heap.size + 2) W' rfl i (.string (t ++ digB j))
      have hb2 : Boxed (W'.setCell ⟨w1.heap.size, i, none⟩ (.string (t ++ digB j))) (w1.heap.size + 1) 38 (.slice (some ⟨w1.heap.size, 0, none⟩) xss.length xss.length) := (Below.heap_setCell _ ⟨w1.heap.size, i, none⟩ _ (w1.heap.size + 1) (by show w1.heap.size + 1 ≠ w1.heap.size; omega)).trans bT'
      exact ⟨⟨hk1.1, hk1.2⟩, ⟨hk2.1, hk2.2⟩, ⟨hb2, HRS.out.congr fun k hk => HROW.out k hk⟩, (hB'.setCell (p := ⟨w1.heap.size, i, none⟩) hs1 _).drew⟩
    case done =>
      rintro D ys W' hD rfl ⟨⟨bT', hR⟩, hB'⟩ hK
      clear bT bG r0 hB3 hMV
      have hws := hB'.size
      have cT := bT'.cell
      have hts := textB_size xss xss.length
      have hts2 : (xss.length + 1) * xss.length ≤ 10 * 9 := Nat.mul_le_mul (by omega) hl9
      have hjl : (Lib.join ((rowsT xss xss.length).map (·.data.toList)) [47]).length ≤ 140737488355328 := by
        rw [← textB_join, Array.length_toList]
        have e : (textB xss xss.length).data.size = (textB xss xss.length).size := rfl
        omega
      have hjn := strings_Join w1.heap.size 0 xss.length (rowsT xss xss.length) ⟨#[47]⟩ W' (fun k x hx => by
        have hk : k < xss.length := by
          have := (List.getElem?_eq_some_iff.1 hx).1
          rw [rowsT_length] at this; exact this
        have e : x = rowB xss k ⟨#[]⟩ xss.length := by
          simp [rowsT, hk] at hx; exact hx.symm
        rw [Nat.zero_add, hR.cell hk, rowT_all hk, e]) (World.rowIs.lt hR) (by rw [rowsT_length]; omega) (by rw [rowsT_length]; exact Nat.le_refl _) hjl
      rw [rowsT_length, join_text, HZ2.out] at hjn
      have HJN := Lib.hid hjn
      clear hjn hjl hts hts2 hR
      gi_wp2_with ((try refine ⟨hdd _, ?_⟩); gi_at_call 23; refine (callsIn_wide.2 HJN.out).mono ?_; rintro e w5 ⟨rfl, hB5⟩)
      have hlD := (Array.getElem?_eq_some_iff.1 hK).1
      have hK5 := (hB5.block D hlD).trans hK
      refine ⟨by simp, .inl ⟨_, _, rfl, run_takeDeferred hK5, ?_⟩⟩
      refine ⟨_, results_tmp rfl _ _ _, rfl, (hB'.trans (hB5.mono hws)).trans (belowK_b (w := w) (Nat.le_refl _) w5 D _ _ (by omega) hK5 rfl rfl)⟩
    case stop =>
      rintro D c' pre W' _ _ hx _
      exact hx.elim
  · have hn : gOk xss = false := by simpa using hg
    have HZ2 : Hid (gTextB xss = ⟨#[]⟩) := Lib.hid (by unfold gTextB; rw [if_neg hg])
    rw [HZ2.out]
    refine callsIn_of_wp_marks Tryd.func7 rfl trivial ?_ rfl
    simp only [Tryd.ntmps7, List.size_toArray, List.length_cons, List.length_nil, Nat.reduceAdd, Nat.reduceSub, Array.replicate_succ, Array.replicate_zero, List.push_toArray, List.append_toArray, List.nil_append, List.cons_append]
    gi_wp2_with ((try refine ⟨hdd _, ?_⟩); gi_at_call 15; refine (implOk_in Fence.wide _ (fun _ => trivial) rfl (by omega) _ _ _ _ hM HF.out).mono ?_; rw [hn]; rintro e w1 ⟨rfl, hB1⟩)
    refine ⟨_, results_tmp rfl _ _ _, rfl, hB1⟩

theorem implText (a : Option Addr) (c : Nat) (xss : List (List Int)) (w : World) (hM : Mat w.heap.size w a xss) (hf : Fit xss) :
    Calls Tryd.prog 7 #[.slice a xss.length c] w (Ans (.string (gTextB xss)) w) := callsIn_wide.1 (implText_w a c xss w hM hf)

end Go.Proofs.YtnehbpihljbjdabDoor
