/-
  The model's ReadDeed.
-/
import Derived.Test.YtofpjepndhpciaaDoorLF0
import Derived.Test.YtofpjepndhpciaaDoorLD
import Derived.Deep.RegionHeld3
import Derived.BigQuiet
namespace Go.Proofs.YtofpjepndhpciaaDoor
open Go.RowKit Go.Shelf Go.Deep

/-- THE DEED OF A TEXT, if there is one. -/
def ReadDd (o : Option Dd) (w : World) (e : Ending) (w' : World) : Prop :=
  e = .returned (match o with | some d => .tuple #[ddV d, .bool true] | none => .tuple #[ddV ⟨0, 0, 0⟩, .bool false]) ∧ Below w.heap.size w w'
/-- A box with a deed. -/
def Box3 (W : World) (B : Nat) (d : Dd) : Prop := W.heap[B]? = some (.cells #[.int .i64 d.k, .int .i64 d.a, .int .i64 d.b] 24)
theorem Box3.new (W : World) (d : Dd) : Box3 (W.alloc (.cells #[.int .i64 d.k, .int .i64 d.a, .int .i64 d.b] 24)) W.heap.size d := heap_alloc_new W _
theorem Box3.lt {W : World} {B : Nat} {d : Dd} (h : Box3 W B d) : B < W.heap.size := (Array.getElem?_eq_some_iff.1 h).1
theorem box3_put {W : World} {B : Nat} {x y z : Value} (h : W.heap[B]? = some (.cells #[x, y, z] 24)) (i : Nat) (v : Value) : (W.setCell ⟨B, i, none⟩ v).heap[B]? = some (.cells (#[x, y, z].setIfInBounds i v) 24) := by
  obtain ⟨hlt, hk⟩ := Array.getElem?_eq_some_iff.1 h
  show (W.heap.modify B _)[B]? = _
  rw [Array.getElem?_eq_getElem (by rw [Array.size_modify]; exact hlt), Array.getElem_modify_self, hk]
  rfl
theorem box3_cell {W : World} {B : Nat} {x y z : Value} (h : W.heap[B]? = some (.cells #[x, y, z] 24)) : (W.cell? ⟨B, 0, none⟩ = some x ∧ W.cell? ⟨B, 1, none⟩ = some y ∧ W.cell? ⟨B, 2, none⟩ = some z) ∧ ∀ i, W.frozen? ⟨B, i, none⟩ = false := by
  refine ⟨⟨?_, ?_, ?_⟩, fun i => ?_⟩
  · unfold World.cell?; rw [h]; rfl
  · unfold World.cell?; rw [h]; rfl
  · unfold World.cell?; rw [h]; rfl
  · unfold World.frozen?; rw [h]; simp
/-- The deed in a box is another one. -/
abbrev put3 (W : World) (B : Nat) (e : Dd) : World := ((W.setCell ⟨B, 0, none⟩ (.int .i64 e.k)).setCell ⟨B, 1, none⟩ (.int .i64 e.a)).setCell ⟨B, 2, none⟩ (.int .i64 e.b)
theorem Box3.puts {W : World} {B : Nat} {d : Dd} (h : Box3 W B d) (e : Dd) :
    (W.cell? ⟨B, 0, none⟩ = some (.int .i64 d.k) ∧ W.frozen? ⟨B, 0, none⟩ = false) ∧
    ((W.setCell ⟨B, 0, none⟩ (.int .i64 e.k)).cell? ⟨B, 1, none⟩ = some (.int .i64 d.a) ∧ (W.setCell ⟨B, 0, none⟩ (.int .i64 e.k)).frozen? ⟨B, 1, none⟩ = false) ∧
    (((W.setCell ⟨B, 0, none⟩ (.int .i64 e.k)).setCell ⟨B, 1, none⟩ (.int .i64 e.a)).cell? ⟨B, 2, none⟩ = some (.int .i64 d.b) ∧ ((W.setCell ⟨B, 0, none⟩ (.int .i64 e.k)).setCell ⟨B, 1, none⟩ (.int .i64 e.a)).frozen? ⟨B, 2, none⟩ = false) ∧ Box3 (put3 W B e) B e := by
  have h1 := box3_put h 0 (.int .i64 e.k)
  have h2 := box3_put h1 1 (.int .i64 e.a)
  have h3 := box3_put h2 2 (.int .i64 e.b)
  exact ⟨⟨(box3_cell h).1.1, (box3_cell h).2 0⟩, ⟨(box3_cell h1).1.2.1, (box3_cell h1).2 1⟩, ⟨(box3_cell h2).1.2.2, (box3_cell h2).2 2⟩, h3⟩
theorem below_put3 {n : Nat} {w W : World} (h : Below n w W) {B : Nat} (hB : n ≤ B) (e : Dd) : Below n w (put3 W B e) := ((h.setCell (p := ⟨B, 0, none⟩) hB _).setCell (p := ⟨B, 1, none⟩) hB _).setCell (p := ⟨B, 2, none⟩) hB _
theorem cell_grown {W W' : World} {row : Option Nat} (h : W.grownBy W' row) {p : Addr} (hp : p.block < W.heap.size) (hr : some p.block ≠ row) : W'.cell? p = W.cell? p := by unfold World.cell?; rw [h.block p.block hp hr]
theorem infoDeed : (Tryd.prog.info? 24).map (fun i => (i.zero, i.size, i.bytes)) = some (some (.agg #[.int .i64 0, .int .i64 0, .int .i64 0]), 3, 24) := by kernel_rfl
theorem cand_two {ws : List (List UInt8)} (h : ws.length = 2) : candL ws = [⟨1, 0, 0⟩, ⟨3, 0, 0⟩, ⟨4, 0, 0⟩, ⟨5, 0, 0⟩] ++ [⟨2, dgV (ws[1]?.getD []), 0⟩] := by unfold candL; rw [if_pos h, if_neg (by omega), List.append_nil]
theorem cand_three {ws : List (List UInt8)} (h : ws.length = 3) : candL ws = [⟨1, 0, 0⟩, ⟨3, 0, 0⟩, ⟨4, 0, 0⟩, ⟨5, 0, 0⟩] ++ [⟨0, dgV (ws[1]?.getD []), dgV (ws[2]?.getD [])⟩] := by unfold candL; rw [if_neg (by omega), if_pos h, List.nil_append]
theorem cand_else {ws : List (List UInt8)} (h : ws.length ≠ 2) (h' : ws.length ≠ 3) : candL ws = [⟨1, 0, 0⟩, ⟨3, 0, 0⟩, ⟨4, 0, 0⟩, ⟨5, 0, 0⟩] := by unfold candL; rw [if_neg h, if_neg h']; rfl

/-- append as the one step that may come up, in a region that draws and holds. -/
theorem appendAnyH {P : Program} {S : World → Prop} {fuel k : Nat} {ops : Array Oper} {Q : Exit → Act → World → Prop} {listed : Array Bool} {a : Act} {w w' : World} {o : Oper} {s x : Operand} {t : TypeId} {v v' u : Value}
    (hr : Region.ready .any ops listed = [k]) (hk : ops[k]? = some o) (hg : o.guard = none) (hop : o.op = Op.call { callee := Callee.builtin Builtin.append, args := #[s, x], argTypes := #[t, t] })
    (hs : a.eval s = v) (hx : a.eval x = u) (hrun : (Builtin.append_ #[t, t] o.type #[v, u]).run P w = .ok v' w') (hS : S w') (h : wpAnyH P .any ops Q S fuel (listed.setIfInBounds k true) (a.put o.dst v') w') :
    wpAnyH P .any ops Q S (fuel + 1) listed a w := by
  refine ⟨fun e => (by rw [hr] at e; cases e), fun i hi => ?_⟩
  rw [hr] at hi
  obtain rfl := List.mem_singleton.1 hi
  have hw : Region.wanted o (yielded ops a.tmps) = true := by simp [Region.wanted, hg]
  unfold wpOp
  simp only [hk]
  rw [if_pos hw]
  refine .inl ?_
  unfold Oper.wp
  simp [execOp, hop, resolve, invoke, builtin, hs, hx, hrun, Result.andThen]
  exact ⟨hS, h⟩

set_option maxRecDepth 100000 in
set_option maxHeartbeats 4000000 in
theorem specRdd (s : ByteArray) (hs : s.size ≤ 1048576) (w : World) : Calls Tryd.prog 16 #[.string s] w (ReadDd (rdD s.data.toList) w) := by
  obtain ⟨i1, hj, hy0, hy1, hy2⟩ := info_parts infoDeed
  have es : ∀ (W : World) (o : Obj), (W.alloc o).heap.size = W.heap.size + 1 := fun W o => by simp
  obtain ⟨l, hl⟩ : ∃ l, s.data.toList = l := ⟨_, rfl⟩
  obtain ⟨R, HR⟩ : ∃ R, Hid (rdD l = R) := ⟨_, rfl⟩
  have hC := cutS_any s hs (w.alloc (.cells #[.int .i64 0, .int .i64 0, .int .i64 0] 24))
  rw [hl] at hC ⊢
  rw [HR.out]
  have HC := Lib.hid hC
  have HL := Lib.hid hl
  clear hC hl
  go_enter Tryd.func16, Tryd.ntmps16
  go_wp2_with fail
  refine HC.out.mono ?_
  rintro e w2 ⟨gp, capp, ps, rfl, hB2, HPS, hOS⟩
  have hB1 : Below w.heap.size w w2 := ((Below.refl w.heap.size w).alloc (Nat.le_refl _) _).trans (hB2.mono (by simp))
  have hD : Box3 w2 w.heap.size ⟨0, 0, 0⟩ := (hB2.block _ (by simp)).trans (Box3.new w ⟨0, 0, 0⟩)
  have hgp := (hOS.lt gp (by simp [Value.ownBlock]))
  rw [es] at hgp
  have HB1 := Lib.hid hB1
  have HD := Lib.hid hD
  have HOS := Lib.hid hOS
  have hws := hB1.size
  have hwl : w.heap.size < w2.heap.size := hD.lt
  have HPL : Hid (ps.length = (cutS l).length) := Lib.hid (by rw [← HPS.out, List.length_map])
  clear hB1 hB2 hD hOS HC
  by_cases h2 : ps.length = 2
  · obtain ⟨p0, p1, rfl⟩ : ∃ p0 p1, ps = [p0, p1] := by
      match ps, h2 with
      | [p0, p1], _ => exact ⟨p0, p1, rfl⟩
    have HP : Hid (candL (cutS l) = [⟨1, 0, 0⟩, ⟨3, 0, 0⟩, ⟨4, 0, 0⟩, ⟨5, 0, 0⟩] ++ [⟨2, dgV p1.data.toList, 0⟩]) := Lib.hid (by
      rw [cand_two (by rw [← HPL.out]; rfl), ← HPS.out]; rfl)
    have cp1 : (w2.alloc (.cells #[.int .i64 1, .int .i64 0, .int .i64 0, .int .i64 3, .int .i64 0, .int .i64 0, .int .i64 4, .int .i64 0, .int .i64 0, .int .i64 5, .int .i64 0, .int .i64 0] 24)).cell? ⟨gp, 1, none⟩ = some (.string p1) := by
      rw [World.cell?_alloc_lt _ _ _ hgp.2]
      exact HOS.out.cellAt 1 (by show 1 < 2 * 1; decide)
    go_wp2_with fail
    refine (digits_any _ _).mono ?_
    rintro e w3 ⟨rfl, rfl⟩
    obtain ⟨z, hz⟩ : ∃ z, dgV p1.data.toList = z := ⟨_, rfl⟩
    rw [hz] at HP ⊢
    clear hz cp1
    have hO4 : (w2.alloc (.cells #[.int .i64 1, .int .i64 0, .int .i64 0, .int .i64 3, .int .i64 0, .int .i64 0, .int .i64 4, .int .i64 0, .int .i64 0, .int .i64 5, .int .i64 0, .int .i64 0] 24)).ownsRow w2.heap.size 24 3 (.slice (some ⟨w2.heap.size, 0, none⟩) 4 4) 4 (ddC [⟨1, 0, 0⟩, ⟨3, 0, 0⟩, ⟨4, 0, 0⟩, ⟨5, 0, 0⟩]) := World.ownsRow_lit (size := 3) w2 #[.int .i64 1, .int .i64 0, .int .i64 0, .int .i64 3, .int .i64 0, .int .i64 0, .int .i64 4, .int .i64 0, .int .i64 0, .int .i64 5, .int .i64 0, .int .i64 0] 4 (Nat.le_refl _) (by decide) rfl
    have hBV := HB1.out.alloc hws (.cells #[.int .i64 1, .int .i64 0, .int .i64 0, .int .i64 3, .int .i64 0, .int .i64 0, .int .i64 4, .int .i64 0, .int .i64 0, .int .i64 5, .int .i64 0, .int .i64 0] 24)
    have hDV : Box3 (w2.alloc (.cells #[.int .i64 1, .int .i64 0, .int .i64 0, .int .i64 3, .int .i64 0, .int .i64 0, .int .i64 4, .int .i64 0, .int .i64 0, .int .i64 5, .int .i64 0, .int .i64 0] 24)) w.heap.size ⟨0, 0, 0⟩ := ((Below.refl w2.heap.size w2).alloc (Nat.le_refl _) _).block _ hwl |>.trans HD.out
    obtain ⟨V, hV⟩ : ∃ V, w2.alloc (.cells #[.int .i64 1, .int .i64 0, .int .i64 0, .int .i64 3, .int .i64 0, .int .i64 0, .int .i64 4, .int .i64 0, .int .i64 0, .int .i64 5, .int .i64 0, .int .i64 0] 24) = V := ⟨_, rfl⟩
    have hVs : w2.heap.size + 1 ≤ V.heap.size := by rw [← hV, es]; omega
    rw [hV] at hO4 hBV hDV ⊢
    have HO4 := Lib.hid hO4
    have HBV := Lib.hid hBV
    have HDV := Lib.hid hDV
    clear hO4 hV hBV hDV HD HB1 HOS
    go_wp2_with (at_builtin; go_must (refine wpList_append_own _ rfl _ _ 32 rfl w2.heap.size 24 i1 (.agg #[.int .i64 0, .int .i64 0, .int .i64 0]) 3 24 Tryd.underlying32 hj hy0 hy1 hy2 rfl (by decide) (.slice (some ⟨w2.heap.size, 0, none⟩) 4 4) 4 _ rfl (HO4.out.alloc _) ⟨V.heap.size, 0, none⟩ 1 1 [.int .i64 2, .int .i64 z, .int .i64 0] rfl rfl (World.news_of_block (cs := #[.int .i64 2, .int .i64 z, .int .i64 0]) (t := 24) (fr := (0, 0)) (heap_alloc_new V _)) (by simp [Value.oneCell']) (by unfold maxLen; omega) (by omega) (by simp; omega) ?_); go_must (intro v' w4 hown' hgrow _; obtain ⟨g2, cap2, rfl⟩ := ownsRow_succ hown'); go_must (have HO5 := Lib.hid hown'); go_must (have HG5 := Lib.hid hgrow); clear hown' hgrow)
    have HB5 : Below w.heap.size w w4 := (HBV.out.alloc HBV.out.size _).grown HG5.out (by have := HBV.out.size; simp; omega) (fun r e => by have e' : w2.heap.size = r := Option.some.inj e; omega)
    have HD5 : Box3 w4 w.heap.size ⟨0, 0, 0⟩ := HG5.out.block _ (by simp; omega) (fun e => by have e' : w.heap.size = w2.heap.size := Option.some.inj e; omega) |>.trans ((((Below.refl V.heap.size V).alloc (Nat.le_refl _) _).block _ (by omega)).trans HDV.out)
    obtain ⟨L, hL⟩ : ∃ L : List Dd, [⟨1, 0, 0⟩, ⟨3, 0, 0⟩, ⟨4, 0, 0⟩, ⟨5, 0, 0⟩] ++ [⟨2, z, 0⟩] = L := ⟨_, rfl⟩
    have hLn : L.length = 5 := by rw [← hL]; rfl
    have HO6 : Hid (w4.ownsRow w2.heap.size 24 3 (.slice (some ⟨g2, 0, none⟩) 5 cap2) 5 (ddC L)) := Lib.hid (by rw [← hL]; exact HO5.out)
    rw [hL] at HP
    clear hL HO5 HG5 HBV HDV HO4
    go_loopw [6] (fun i wr => ∃ k : Nat, k ≤ 5 ∧ i = .int .i64 k ∧ Below w.heap.size w wr ∧ Hid (Box3 wr w.heap.size ⟨0, 0, 0⟩) ∧ Hid (wr.ownsRow w2.heap.size 24 3 (.slice (some ⟨g2, 0, none⟩) 5 cap2) 5 (ddC L)) ∧ Hid (∀ (j : Nat) (d : Dd), j < k → L[j]? = some d → l ≠ [] → ddT d ≠ l)) (fun i _ => 5 - (intOf i).toNat)
    case atStart => exact ⟨0, Nat.zero_le _, rfl, HB5, HD5, HO6, Lib.hid fun j d h => absurd h (Nat.not_lt_zero _)⟩
    case round =>
      obtain ⟨k, hk, rfl, hB, HD, HO, HN⟩ := hrel
      clear HB5 HD5 HO6
      have hwz := hB.size
      by_cases hlt : k < 5
      · obtain ⟨d, hd⟩ : ∃ d, L[k]? = some d := ⟨_, List.getElem?_eq_getElem (by rw [hLn]; exact hlt)⟩
        obtain ⟨q1, q2, q3⟩ := ddC_get hd
        have hci : ∀ W : World, W.ownsRow w2.heap.size 24 3 (.slice (some ⟨g2, 0, none⟩) 5 cap2) 5 (ddC L) → W.cell? ⟨g2, k * 3, none⟩ = some (.int .i64 d.k) ∧ W.cell? ⟨g2, k * 3 + 1, none⟩ = some (.int .i64 d.a) ∧ W.cell? ⟨g2, k * 3 + 2, none⟩ = some (.int .i64 d.b) := fun W hO => by
          have hc := World.ownsRow.cells hO (g := g2) rfl
          have e1 := hc _ _ q1
          have e2 := hc _ _ q2
          have e3 := hc _ _ q3
          rw [Addr.add_lit] at e1 e2 e3
          rw [Nat.zero_add] at e1 e2 e3
          exact ⟨e1, e2, e3⟩
        obtain ⟨c1, c2, c3⟩ := hci wr HO.out
        have HCI := Lib.hid hci
        have HDD := Lib.hid hd
        clear hd q1 q2 q3 hci
        by_cases hl0 : l = []
        · have HN2 : Hid (∀ (j : Nat) (d : Dd), j < k + 1 → L[j]? = some d → l ≠ [] → ddT d ≠ l) := Lib.hid fun j d _ _ h => absurd hl0 h
          have hs0 : s = ⟨#[]⟩ := ByteArray.ext (by have := HL.out; rw [hl0] at this; simpa using this)
          subst hs0
          go_wp2_with fail
          go_roundw
          case rel => exact ⟨k + 1, by omega, by go_num, hB, HD, HO, HN2⟩
          case measure => simp [intOf]; omega
        · have hst : ¬ s.toList = [] := by rw [ByteArray.toList_eq, HL.out]; exact hl0
          have hse : s.toList.isEmpty = false := by rw [Bool.eq_false_iff, ne_eq, List.isEmpty_iff]; exact hst
          have hse2 : (!s.toList.isEmpty) = true := by rw [hse]; rfl
          have HDT : Hid (Calls Tryd.prog 12 #[.agg #[.int .i64 d.k, .int .i64 d.a, .int .i64 d.b]] wr (TextOf d wr)) := Lib.hid (specDdt d.k d.a d.b wr)
          have HL0 := Lib.hid hl0
          clear hl0
          go_wp2_with fail
          refine HDT.out.mono ?_
          rintro e w5 ⟨rfl, hB5⟩
          have hB6 := hB.trans (hB5.mono hwz)
          have hD6 : Box3 w5 w.heap.size ⟨0, 0, 0⟩ := (hB5.block _ HD.out.lt).trans HD.out
          have HO6 : Hid (w5.ownsRow w2.heap.size 24 3 (.slice (some ⟨g2, 0, none⟩) 5 cap2) 5 (ddC L)) := Lib.hid (HO.out.kept (grown_of_below hB5) (by cases (Value.slice (some ⟨g2, 0, none⟩) 5 cap2).ownBlock <;> simp))
          have HB6 := Lib.hid hB6
          have HD6 := Lib.hid hD6
          have hwz6 := hB6.size
          clear hB5 hB6 hD6 HDT HO HD hB c1 c2 c3
          by_cases he : ddT d = l
          · have hTs : (tB (ddT d)).toList = s.toList := by rw [ByteArray.toList_eq, ByteArray.toList_eq, HL.out, he]
            obtain ⟨T, hT⟩ : ∃ T, tB (ddT d) = T := ⟨_, rfl⟩
            rw [hT] at hTs ⊢
            have hTb : (T.toList == s.toList) = true := beq_iff_eq.2 hTs
            have HR2 : Hid (R = some d) := Lib.hid (by rw [← HR.out, rdD_cand, if_neg HL0.out, HP.out]; exact find_at HDD.out (decide_eq_true he) (fun j e hj hje => decide_eq_false (HN.out j e hj hje HL0.out)))
            obtain ⟨c1, c2, c3⟩ := HCI.out w5 HO6.out
            obtain ⟨⟨s1, s2⟩, ⟨s3, s4⟩, ⟨s5, s6⟩, hDe⟩ := Box3.puts HD6.out d
            obtain ⟨⟨t1, t2, t3⟩, _⟩ := box3_cell hDe
            clear he hT
            go_wp2_with fail
            refine bodyPost_ret (v := .tuple #[.agg #[.int .i64 d.k, .int .i64 d.a, .int .i64 d.b], .bool true]) ?_ rfl ?_
            · simp [results, Tryd.f16, go_sem, t1, t2, t3]
            · rw [HR2.out]
              exact ⟨rfl, below_put3 HB6.out (Nat.le_refl _) d⟩
          · have hTs : ¬ (tB (ddT d)).toList = s.toList := by rw [ByteArray.toList_eq, ByteArray.toList_eq, HL.out]; exact he
            obtain ⟨T, hT⟩ : ∃ T, tB (ddT d) = T := ⟨_, rfl⟩
            rw [hT] at hTs ⊢
            have hTb : (T.toList == s.toList) = false := beq_eq_false_iff_ne.2 hTs
            have HN2 : Hid (∀ (j : Nat) (e : Dd), j < k + 1 → L[j]? = some e → l ≠ [] → ddT e ≠ l) := Lib.hid fun j e hj hje hne => by
              by_cases ej : j = k
              · subst ej; rw [HDD.out] at hje; cases hje; exact he
              · exact HN.out j e (by omega) hje hne
            clear he hT
            go_wp2_with fail
            go_roundw
            case rel => exact ⟨k + 1, by omega, by go_num, HB6.out, HD6, HO6, HN2⟩
            case measure => simp [intOf]; omega
      · have hkn : k = 5 := by omega
        have HR2 : Hid (R = none) := Lib.hid (by
          rw [← HR.out, rdD_cand]
          by_cases hl0 : l = []
          · rw [if_pos hl0]
          · rw [if_neg hl0, HP.out]; exact find_not fun j e hj hje => decide_eq_false (HN.out j e (by rw [hLn] at hj; omega) hje hl0))
        obtain ⟨⟨s1, s2⟩, ⟨s3, s4⟩, ⟨s5, s6⟩, hDe⟩ := Box3.puts HD.out ⟨0, 0, 0⟩
        obtain ⟨⟨t1, t2, t3⟩, _⟩ := box3_cell hDe
        go_wp2_with fail
        refine bodyPost_ret (v := .tuple #[.agg #[.int .i64 0, .int .i64 0, .int .i64 0], .bool false]) ?_ rfl ?_
        · simp [results, Tryd.f16, go_sem, t1, t2, t3]
        · rw [HR2.out]
          exact ⟨rfl, below_put3 hB (Nat.le_refl _) ⟨0, 0, 0⟩⟩

  · by_cases h3 : ps.length = 3
    · obtain ⟨p0, p1, p2, rfl⟩ : ∃ p0 p1 p2, ps = [p0, p1, p2] := by
        match ps, h3 with
        | [p0, p1, p2], _ => exact ⟨p0, p1, p2, rfl⟩
      have HP : Hid (candL (cutS l) = [⟨1, 0, 0⟩, ⟨3, 0, 0⟩, ⟨4, 0, 0⟩, ⟨5, 0, 0⟩] ++ [⟨0, dgV p1.data.toList, dgV p2.data.toList⟩]) := Lib.hid (by
        rw [cand_three (by rw [← HPL.out]; rfl), ← HPS.out]; rfl)
      have cp1 := HOS.out.cellAt 1 (by show 1 < 3 * 1; decide)
      have cp2 := HOS.out.cellAt 2 (by show 2 < 3 * 1; decide)
      have hn3 : (([p0, p1, p2].length : Int) == 3) = true := rfl
      have hO4 : (w2.alloc (.cells #[.int .i64 1, .int .i64 0, .int .i64 0, .int .i64 3, .int .i64 0, .int .i64 0, .int .i64 4, .int .i64 0, .int .i64 0, .int .i64 5, .int .i64 0, .int .i64 0] 24)).ownsRow w2.heap.size 24 3 (.slice (some ⟨w2.heap.size, 0, none⟩) 4 4) 4 (ddC [⟨1, 0, 0⟩, ⟨3, 0, 0⟩, ⟨4, 0, 0⟩, ⟨5, 0, 0⟩]) := World.ownsRow_lit (size := 3) w2 #[.int .i64 1, .int .i64 0, .int .i64 0, .int .i64 3, .int .i64 0, .int .i64 0, .int .i64 4, .int .i64 0, .int .i64 0, .int .i64 5, .int .i64 0, .int .i64 0] 4 (Nat.le_refl _) (by decide) rfl
      have hBV := HB1.out.alloc hws (.cells #[.int .i64 1, .int .i64 0, .int .i64 0, .int .i64 3, .int .i64 0, .int .i64 0, .int .i64 4, .int .i64 0, .int .i64 0, .int .i64 5, .int .i64 0, .int .i64 0] 24)
      have hDV : Box3 (w2.alloc (.cells #[.int .i64 1, .int .i64 0, .int .i64 0, .int .i64 3, .int .i64 0, .int .i64 0, .int .i64 4, .int .i64 0, .int .i64 0, .int .i64 5, .int .i64 0, .int .i64 0] 24)) w.heap.size ⟨0, 0, 0⟩ := ((Below.refl w2.heap.size w2).alloc (Nat.le_refl _) _).block _ hwl |>.trans HD.out
      go_wp2_with fail
      obtain ⟨V0, hV0⟩ : ∃ V, w2.alloc (.cells #[.int .i64 1, .int .i64 0, .int .i64 0, .int .i64 3, .int .i64 0, .int .i64 0, .int .i64 4, .int .i64 0, .int .i64 0, .int .i64 5, .int .i64 0, .int .i64 0] 24) = V := ⟨_, rfl⟩
      have hgV0 : gp < V0.heap.size := by rw [← hV0, es]; omega
      have hVs0 : w2.heap.size + 1 ≤ V0.heap.size := by rw [← hV0, es]; omega
      have cq1 : V0.cell? ⟨gp, 1, none⟩ = some (.string p1) := by rw [← hV0, World.cell?_alloc_lt _ _ _ hgp.2]; exact cp1
      have cq2 : V0.cell? ⟨gp, 2, none⟩ = some (.string p2) := by rw [← hV0, World.cell?_alloc_lt _ _ _ hgp.2]; exact cp2
      rw [hV0] at hO4 hBV hDV ⊢
      clear hV0 cp1 cp2
      refine wp_region_held_drew (S := fun W => W.cell? ⟨gp, 1, none⟩ = some (.string p1) ∧ W.cell? ⟨gp, 2, none⟩ = some (.string p2)) (by kernel_rfl) ⟨cq1, cq2⟩ (fun hS0 => ?_)
      change wpAnyH _ _ _ _ _ _ _ _ (World.drew _)
      have HO4 : Hid (V0.drew.ownsRow w2.heap.size 24 3 (.slice (some ⟨w2.heap.size, 0, none⟩) 4 4) 4 (ddC [⟨1, 0, 0⟩, ⟨3, 0, 0⟩, ⟨4, 0, 0⟩, ⟨5, 0, 0⟩])) := Lib.hid hO4
      have HBV : Hid (Below w.heap.size w V0.drew) := Lib.hid hBV.drew
      have HDV : Hid (Box3 V0.drew w.heap.size ⟨0, 0, 0⟩) := Lib.hid hDV
      have hgV1 : gp < V0.drew.heap.size := hgV0
      have hVs1 : w2.heap.size + 1 ≤ V0.drew.heap.size := hVs0
      obtain ⟨V, hV⟩ : ∃ V, World.drew V0 = V := ⟨_, rfl⟩
      rw [hV] at hS0 HO4 HBV HDV hgV1 hVs1 ⊢
      have hgV := hgV1
      have hVs := hVs1
      clear hV hO4 hBV hDV HD HB1 HOS hgV0 hVs0 cq1 cq2 hgV1 hVs1
      refine wpAnyH_take (i := 0) (v := ?_) rfl (by kernel_rfl) (by kernel_rfl) (by kernel_rfl) (fun _ _ _ h => h) (Or.inl ⟨by rfl, ?_⟩) hS0 ?_
      case refine_2 => rintro w s1; have c1 := s1.1; have c2 := s1.2; first | (go_simp; rfl) | go_simp
      simp only [Act.put, List.getElem_toArray, List.getElem_cons_zero, List.setIfInBounds_toArray, List.set_cons_zero, List.set_cons_succ]
      refine wpAnyH_take (i := 1) (v := ?_) rfl (by kernel_rfl) (by kernel_rfl) (by kernel_rfl) (fun _ _ _ h => h) (Or.inl ⟨by rfl, ?_⟩) hS0 ?_
      case refine_2 => rintro w s1; have c1 := s1.1; have c2 := s1.2; first | (go_simp; rfl) | go_simp
      simp only [Act.put, List.getElem_toArray, List.getElem_cons_succ, List.getElem_cons_zero, List.setIfInBounds_toArray, List.set_cons_zero, List.set_cons_succ]
      refine wpAnyH_take (i := 2) (v := ?_) rfl (by kernel_rfl) (by kernel_rfl) (by kernel_rfl) (fun _ _ _ h => h) (Or.inl ⟨by rfl, ?_⟩) hS0 ?_
      case refine_2 => rintro w s1; have c1 := s1.1; have c2 := s1.2; first | (go_simp; rfl) | go_simp
      simp only [Act.put, List.getElem_toArray, List.getElem_cons_succ, List.getElem_cons_zero, List.setIfInBounds_toArray, List.set_cons_zero, List.set_cons_succ]
      refine wpAnyH_take (i := 3) (v := ?_) rfl (by kernel_rfl) (by kernel_rfl) (by kernel_rfl) (fun _ _ _ h => h) (Or.inl ⟨by rfl, ?_⟩) hS0 ?_
      case refine_2 => rintro w s1; have c1 := s1.1; have c2 := s1.2; first | (go_simp; rfl) | go_simp
      simp only [Act.put, List.getElem_toArray, List.getElem_cons_succ, List.getElem_cons_zero, List.setIfInBounds_toArray, List.set_cons_zero, List.set_cons_succ]
      refine wpAnyH_take (i := 5) (v := ?_) rfl (by kernel_rfl) (by kernel_rfl) (by kernel_rfl) (fun _ _ _ h => h) (Or.inl ⟨by rfl, ?_⟩) hS0 ?_
      case refine_2 => rintro w s1; have c1 := s1.1; have c2 := s1.2; first | (go_simp; rfl) | go_simp
      simp only [Act.put, List.getElem_toArray, List.getElem_cons_succ, List.getElem_cons_zero, List.setIfInBounds_toArray, List.set_cons_zero, List.set_cons_succ]
      refine wpAnyH_take (i := 6) (v := ?_) rfl (by kernel_rfl) (by kernel_rfl) (by kernel_rfl) (fun _ _ _ h => h) (Or.inl ⟨by rfl, ?_⟩) hS0 ?_
      case refine_2 => rintro w s1; have c1 := s1.1; have c2 := s1.2; first | (go_simp; rfl) | go_simp
      simp only [Act.put, List.getElem_toArray, List.getElem_cons_succ, List.getElem_cons_zero, List.setIfInBounds_toArray, List.set_cons_zero, List.set_cons_succ]
      refine wpAnyH_take (i := 7) (v := ?_) rfl (by kernel_rfl) (by kernel_rfl) (by kernel_rfl) (fun _ _ _ h => h) (Or.inl ⟨by rfl, ?_⟩) hS0 ?_
      case refine_2 => rintro w s1; have c1 := s1.1; have c2 := s1.2; first | (go_simp; rfl) | go_simp
      simp only [Act.put, List.getElem_toArray, List.getElem_cons_succ, List.getElem_cons_zero, List.setIfInBounds_toArray, List.set_cons_zero, List.set_cons_succ]
      refine wpAnyH_ready (rs := [4]) (by kernel_rfl) (by simp) ?_
      refine AllReadyH.cons rfl (fun K hK => ?_) AllReadyH.nil
      go_simp
      refine (digits_any _ _).mono ?_
      rintro e w5 ⟨rfl, rfl⟩
      refine hK.out _ _ hS0 (fun hS0 => ?_)
      obtain ⟨x, hx⟩ : ∃ z, dgV p1.data.toList = z := ⟨_, rfl⟩
      rw [hx] at HP ⊢
      clear hx
      clear hK K
      refine wpAnyH_ready (rs := [8]) (by kernel_rfl) (by simp) ?_
      refine AllReadyH.cons rfl (fun K hK => ?_) AllReadyH.nil
      go_simp
      refine (digits_any _ _).mono ?_
      rintro e w5 ⟨rfl, rfl⟩
      refine hK.out _ _ hS0 (fun hS0 => ?_)
      obtain ⟨y, hy⟩ : ∃ z, dgV p2.data.toList = z := ⟨_, rfl⟩
      rw [hy] at HP ⊢
      clear hy
      clear hK K
      refine wpAnyH_take (i := 9) (v := ?_) rfl (by kernel_rfl) (by kernel_rfl) (by kernel_rfl) (fun _ _ _ h => h) (Or.inl ⟨by rfl, ?_⟩) hS0 ?_
      case refine_2 => rintro w s1; have c1 := s1.1; have c2 := s1.2; first | (go_simp; rfl) | go_simp
      simp only [Act.put, List.getElem_toArray, List.getElem_cons_succ, List.getElem_cons_zero, List.setIfInBounds_toArray, List.set_cons_zero, List.set_cons_succ]
      refine wpAnyH_ready (rs := [10]) (by kernel_rfl) (by simp) ?_
      refine AllReadyH.cons rfl (fun K hK => ?_) AllReadyH.nil
      go_simp
      have hS1 : (fun W : World => W.cell? ⟨gp, 1, none⟩ = some (.string p1) ∧ W.cell? ⟨gp, 2, none⟩ = some (.string p2)) (V.alloc (.cells #[.int .i64 0, .int .i64 x, .int .i64 y] 24)) := ⟨(World.cell?_alloc_lt _ _ ⟨gp, 1, none⟩ hgV).trans hS0.1, (World.cell?_alloc_lt _ _ ⟨gp, 2, none⟩ hgV).trans hS0.2⟩
      refine hK.out _ _ hS1 (fun hS1 => ?_)
      clear hK K
      obtain ⟨v', w4, hrun, hown', hgrow, _⟩ := run_append_own (P := Tryd.prog) (V.alloc (.cells #[.int .i64 0, .int .i64 x, .int .i64 y] 24)) w2.heap.size 32 32 24 i1 (.agg #[.int .i64 0, .int .i64 0, .int .i64 0]) 3 24 Tryd.underlying32 hj hy0 hy1 hy2 rfl (by decide) (.slice (some ⟨w2.heap.size, 0, none⟩) 4 4) 4 _ (HO4.out.alloc _) ⟨V.heap.size, 0, none⟩ 1 1 [.int .i64 0, .int .i64 x, .int .i64 y] rfl (World.news_of_block (cs := #[.int .i64 0, .int .i64 x, .int .i64 y]) (t := 24) (fr := (0, 0)) (heap_alloc_new V _)) (by simp [Value.oneCell']) (by unfold maxLen; omega) (by omega) (by simp; omega)
      obtain ⟨g2, cap2, rfl⟩ := ownsRow_succ hown'
      have HO5 := Lib.hid hown'
      have HG5 := Lib.hid hgrow
      have hS2 : (fun W : World => W.cell? ⟨gp, 1, none⟩ = some (.string p1) ∧ W.cell? ⟨gp, 2, none⟩ = some (.string p2)) w4 := ⟨(cell_grown hgrow (by simp; omega) (fun e => by have e' : gp = w2.heap.size := Option.some.inj e; omega)).trans hS1.1, (cell_grown hgrow (by simp; omega) (fun e => by have e' : gp = w2.heap.size := Option.some.inj e; omega)).trans hS1.2⟩
      clear hown' hgrow
      refine appendAnyH (k := 11) (by kernel_rfl) rfl rfl rfl rfl rfl hrun hS2 ?_
      clear hrun
      refine wpAnyH_take (i := 12) (v := ?_) rfl (by kernel_rfl) (by kernel_rfl) (by kernel_rfl) (fun _ _ _ h => h) (Or.inl ⟨by rfl, ?_⟩) hS2 ?_
      case refine_2 => rintro w s1; have c1 := s1.1; have c2 := s1.2; first | (go_simp; rfl) | go_simp
      simp only [Act.put, List.getElem_toArray, List.getElem_cons_succ, List.getElem_cons_zero, List.setIfInBounds_toArray, List.set_cons_zero, List.set_cons_succ]
      refine wpAnyH_done (by kernel_rfl) ?_ _
      go_wp2_with fail
      have HB5 : Below w.heap.size w w4 := (HBV.out.alloc HBV.out.size _).grown HG5.out (by have := HBV.out.size; simp; omega) (fun r e => by have e' : w2.heap.size = r := Option.some.inj e; omega)
      have HD5 : Box3 w4 w.heap.size ⟨0, 0, 0⟩ := HG5.out.block _ (by simp; omega) (fun e => by have e' : w.heap.size = w2.heap.size := Option.some.inj e; omega) |>.trans ((((Below.refl V.heap.size V).alloc (Nat.le_refl _) _).block _ (by omega)).trans HDV.out)
      obtain ⟨L, hL⟩ : ∃ L : List Dd, [⟨1, 0, 0⟩, ⟨3, 0, 0⟩, ⟨4, 0, 0⟩, ⟨5, 0, 0⟩] ++ [⟨0, x, y⟩] = L := ⟨_, rfl⟩
      have hLn : L.length = 5 := by rw [← hL]; rfl
      have HO6 : Hid (w4.ownsRow w2.heap.size 24 3 (.slice (some ⟨g2, 0, none⟩) 5 cap2) 5 (ddC L)) := Lib.hid (by rw [← hL]; exact HO5.out)
      rw [hL] at HP
      clear hL HO5 HG5 HBV HDV HO4
      go_loopw [6] (fun i wr => ∃ k : Nat, k ≤ 5 ∧ i = .int .i64 k ∧ Below w.heap.size w wr ∧ Hid (Box3 wr w.heap.size ⟨0, 0, 0⟩) ∧ Hid (wr.ownsRow w2.heap.size 24 3 (.slice (some ⟨g2, 0, none⟩) 5 cap2) 5 (ddC L)) ∧ Hid (∀ (j : Nat) (d : Dd), j < k → L[j]? = some d → l ≠ [] → ddT d ≠ l)) (fun i _ => 5 - (intOf i).toNat)
      case atStart => exact ⟨0, Nat.zero_le _, rfl, HB5, HD5, HO6, Lib.hid fun j d h => absurd h (Nat.not_lt_zero _)⟩
      case round =>
        obtain ⟨k, hk, rfl, hB, HD, HO, HN⟩ := hrel
        clear HB5 HD5 HO6
        have hwz := hB.size
        by_cases hlt : k < 5
        · obtain ⟨d, hd⟩ : ∃ d, L[k]? = some d := ⟨_, List.getElem?_eq_getElem (by rw [hLn]; exact hlt)⟩
          obtain ⟨q1, q2, q3⟩ := ddC_get hd
          have hci : ∀ W : World, W.ownsRow w2.heap.size 24 3 (.slice (some ⟨g2, 0, none⟩) 5 cap2) 5 (ddC L) → W.cell? ⟨g2, k * 3, none⟩ = some (.int .i64 d.k) ∧ W.cell? ⟨g2, k * 3 + 1, none⟩ = some (.int .i64 d.a) ∧ W.cell? ⟨g2, k * 3 + 2, none⟩ = some (.int .i64 d.b) := fun W hO => by
            have hc := World.ownsRow.cells hO (g := g2) rfl
            have e1 := hc _ _ q1
            have e2 := hc _ _ q2
            have e3 := hc _ _ q3
            rw [Addr.add_lit] at e1 e2 e3
            rw [Nat.zero_add] at e1 e2 e3
            exact ⟨e1, e2, e3⟩
          obtain ⟨c1, c2, c3⟩ := hci wr HO.out
          have HCI := Lib.hid hci
          have HDD := Lib.hid hd
          clear hd q1 q2 q3 hci
          by_cases hl0 : l = []
          · have HN2 : Hid (∀ (j : Nat) (d : Dd), j < k + 1 → L[j]? = some d → l ≠ [] → ddT d ≠ l) := Lib.hid fun j d _ _ h => absurd hl0 h
            have hs0 : s = ⟨#[]⟩ := ByteArray.ext (by have := HL.out; rw [hl0] at this; simpa using this)
            subst hs0
            go_wp2_with fail
            go_roundw
            case rel => exact ⟨k + 1, by omega, by go_num, hB, HD, HO, HN2⟩
            case measure => simp [intOf]; omega
          · have hst : ¬ s.toList = [] := by rw [ByteArray.toList_eq, HL.out]; exact hl0
            have hse : s.toList.isEmpty = false := by rw [Bool.eq_false_iff, ne_eq, List.isEmpty_iff]; exact hst
            have hse2 : (!s.toList.isEmpty) = true := by rw [hse]; rfl
            have HDT : Hid (Calls Tryd.prog 12 #[.agg #[.int .i64 d.k, .int .i64 d.a, .int .i64 d.b]] wr (TextOf d wr)) := Lib.hid (specDdt d.k d.a d.b wr)
            have HL0 := Lib.hid hl0
            clear hl0
            go_wp2_with fail
            refine HDT.out.mono ?_
            rintro e w5 ⟨rfl, hB5⟩
            have hB6 := hB.trans (hB5.mono hwz)
            have hD6 : Box3 w5 w.heap.size ⟨0, 0, 0⟩ := (hB5.block _ HD.out.lt).trans HD.out
            have HO6 : Hid (w5.ownsRow w2.heap.size 24 3 (.slice (some ⟨g2, 0, none⟩) 5 cap2) 5 (ddC L)) := Lib.hid (HO.out.kept (grown_of_below hB5) (by cases (Value.slice (some ⟨g2, 0, none⟩) 5 cap2).ownBlock <;> simp))
            have HB6 := Lib.hid hB6
            have HD6 := Lib.hid hD6
            have hwz6 := hB6.size
            clear hB5 hB6 hD6 HDT HO HD hB c1 c2 c3
            by_cases he : ddT d = l
            · have hTs : (tB (ddT d)).toList = s.toList := by rw [ByteArray.toList_eq, ByteArray.toList_eq, HL.out, he]
              obtain ⟨T, hT⟩ : ∃ T, tB (ddT d) = T := ⟨_, rfl⟩
              rw [hT] at hTs ⊢
              have hTb : (T.toList == s.toList) = true := beq_iff_eq.2 hTs
              have HR2 : Hid (R = some d) := Lib.hid (by rw [← HR.out, rdD_cand, if_neg HL0.out, HP.out]; exact find_at HDD.out (decide_eq_true he) (fun j e hj hje => decide_eq_false (HN.out j e hj hje HL0.out)))
              obtain ⟨c1, c2, c3⟩ := HCI.out w5 HO6.out
              obtain ⟨⟨s1, s2⟩, ⟨s3, s4⟩, ⟨s5, s6⟩, hDe⟩ := Box3.puts HD6.out d
              obtain ⟨⟨t1, t2, t3⟩, _⟩ := box3_cell hDe
              clear he hT
              go_wp2_with fail
              refine bodyPost_ret (v := .tuple #[.agg #[.int .i64 d.k, .int .i64 d.a, .int .i64 d.b], .bool true]) ?_ rfl ?_
              · simp [results, Tryd.f16, go_sem, t1, t2, t3]
              · rw [HR2.out]
                exact ⟨rfl, below_put3 HB6.out (Nat.le_refl _) d⟩
            · have hTs : ¬ (tB (ddT d)).toList = s.toList := by rw [ByteArray.toList_eq, ByteArray.toList_eq, HL.out]; exact he
              obtain ⟨T, hT⟩ : ∃ T, tB (ddT d) = T := ⟨_, rfl⟩
              rw [hT] at hTs ⊢
              have hTb : (T.toList == s.toList) = false := beq_eq_false_iff_ne.2 hTs
              have HN2 : Hid (∀ (j : Nat) (e : Dd), j < k + 1 → L[j]? = some e → l ≠ [] → ddT e ≠ l) := Lib.hid fun j e hj hje hne => by
                by_cases ej : j = k
                · subst ej; rw [HDD.out] at hje; cases hje; exact he
                · exact HN.out j e (by omega) hje hne
              clear he hT
              go_wp2_with fail
              go_roundw
              case rel => exact ⟨k + 1, by omega, by go_num, HB6.out, HD6, HO6, HN2⟩
              case measure => simp [intOf]; omega
        · have hkn : k = 5 := by omega
          have HR2 : Hid (R = none) := Lib.hid (by
            rw [← HR.out, rdD_cand]
            by_cases hl0 : l = []
            · rw [if_pos hl0]
            · rw [if_neg hl0, HP.out]; exact find_not fun j e hj hje => decide_eq_false (HN.out j e (by rw [hLn] at hj; omega) hje hl0))
          obtain ⟨⟨s1, s2⟩, ⟨s3, s4⟩, ⟨s5, s6⟩, hDe⟩ := Box3.puts HD.out ⟨0, 0, 0⟩
          obtain ⟨⟨t1, t2, t3⟩, _⟩ := box3_cell hDe
          go_wp2_with fail
          refine bodyPost_ret (v := .tuple #[.agg #[.int .i64 0, .int .i64 0, .int .i64 0], .bool false]) ?_ rfl ?_
          · simp [results, Tryd.f16, go_sem, t1, t2, t3]
          · rw [HR2.out]
            exact ⟨rfl, below_put3 hB (Nat.le_refl _) ⟨0, 0, 0⟩⟩
    · have HP : Hid (candL (cutS l) = [⟨1, 0, 0⟩, ⟨3, 0, 0⟩, ⟨4, 0, 0⟩, ⟨5, 0, 0⟩]) := Lib.hid (cand_else (by rw [← HPL.out]; exact h2) (by rw [← HPL.out]; exact h3))
      have hn2 : ((ps.length : Int) == 2) = false := beq_eq_false_iff_ne.2 (by omega)
      have hn3 : ((ps.length : Int) == 3) = false := beq_eq_false_iff_ne.2 (by omega)
      have hO4 : (w2.alloc (.cells #[.int .i64 1, .int .i64 0, .int .i64 0, .int .i64 3, .int .i64 0, .int .i64 0, .int .i64 4, .int .i64 0, .int .i64 0, .int .i64 5, .int .i64 0, .int .i64 0] 24)).ownsRow w2.heap.size 24 3 (.slice (some ⟨w2.heap.size, 0, none⟩) 4 4) 4 (ddC [⟨1, 0, 0⟩, ⟨3, 0, 0⟩, ⟨4, 0, 0⟩, ⟨5, 0, 0⟩]) := World.ownsRow_lit (size := 3) w2 #[.int .i64 1, .int .i64 0, .int .i64 0, .int .i64 3, .int .i64 0, .int .i64 0, .int .i64 4, .int .i64 0, .int .i64 0, .int .i64 5, .int .i64 0, .int .i64 0] 4 (Nat.le_refl _) (by decide) rfl
      have hBV := HB1.out.alloc hws (.cells #[.int .i64 1, .int .i64 0, .int .i64 0, .int .i64 3, .int .i64 0, .int .i64 0, .int .i64 4, .int .i64 0, .int .i64 0, .int .i64 5, .int .i64 0, .int .i64 0] 24)
      have hDV : Box3 (w2.alloc (.cells #[.int .i64 1, .int .i64 0, .int .i64 0, .int .i64 3, .int .i64 0, .int .i64 0, .int .i64 4, .int .i64 0, .int .i64 0, .int .i64 5, .int .i64 0, .int .i64 0] 24)) w.heap.size ⟨0, 0, 0⟩ := ((Below.refl w2.heap.size w2).alloc (Nat.le_refl _) _).block _ hwl |>.trans HD.out
      go_wp2_with fail
      obtain ⟨V, hV⟩ : ∃ V, w2.alloc (.cells #[.int .i64 1, .int .i64 0, .int .i64 0, .int .i64 3, .int .i64 0, .int .i64 0, .int .i64 4, .int .i64 0, .int .i64 0, .int .i64 5, .int .i64 0, .int .i64 0] 24) = V := ⟨_, rfl⟩
      rw [hV] at hO4 hBV hDV ⊢
      have HB5 : Below w.heap.size w V := hBV
      have HD5 : Box3 V w.heap.size ⟨0, 0, 0⟩ := hDV
      obtain ⟨L, hL⟩ : ∃ L : List Dd, [⟨1, 0, 0⟩, ⟨3, 0, 0⟩, ⟨4, 0, 0⟩, ⟨5, 0, 0⟩] = L := ⟨_, rfl⟩
      have hLn : L.length = 4 := by rw [← hL]; rfl
      rw [hL] at HP hO4
      have HO6 := Lib.hid hO4
      clear hL hO4 hV hBV hDV HD HB1 HOS
      go_loopw [6] (fun i wr => ∃ k : Nat, k ≤ 4 ∧ i = .int .i64 k ∧ Below w.heap.size w wr ∧ Hid (Box3 wr w.heap.size ⟨0, 0, 0⟩) ∧ Hid (wr.ownsRow w2.heap.size 24 3 (.slice (some ⟨w2.heap.size, 0, none⟩) 4 4) 4 (ddC L)) ∧ Hid (∀ (j : Nat) (d : Dd), j < k → L[j]? = some d → l ≠ [] → ddT d ≠ l)) (fun i _ => 4 - (intOf i).toNat)
      case atStart => exact ⟨0, Nat.zero_le _, rfl, HB5, HD5, HO6, Lib.hid fun j d h => absurd h (Nat.not_lt_zero _)⟩
      case round =>
        obtain ⟨k, hk, rfl, hB, HD, HO, HN⟩ := hrel
        clear HB5 HD5 HO6
        have hwz := hB.size
        by_cases hlt : k < 4
        · obtain ⟨d, hd⟩ : ∃ d, L[k]? = some d := ⟨_, List.getElem?_eq_getElem (by rw [hLn]; exact hlt)⟩
          obtain ⟨q1, q2, q3⟩ := ddC_get hd
          have hci : ∀ W : World, W.ownsRow w2.heap.size 24 3 (.slice (some ⟨w2.heap.size, 0, none⟩) 4 4) 4 (ddC L) → W.cell? ⟨w2.heap.size, k * 3, none⟩ = some (.int .i64 d.k) ∧ W.cell? ⟨w2.heap.size, k * 3 + 1, none⟩ = some (.int .i64 d.a) ∧ W.cell? ⟨w2.heap.size, k * 3 + 2, none⟩ = some (.int .i64 d.b) := fun W hO => by
            have hc := World.ownsRow.cells hO (g := w2.heap.size) rfl
            have e1 := hc _ _ q1
            have e2 := hc _ _ q2
            have e3 := hc _ _ q3
            rw [Addr.add_lit] at e1 e2 e3
            rw [Nat.zero_add] at e1 e2 e3
            exact ⟨e1, e2, e3⟩
          obtain ⟨c1, c2, c3⟩ := hci wr HO.out
          have HCI := Lib.hid hci
          have HDD := Lib.hid hd
          clear hd q1 q2 q3 hci
          by_cases hl0 : l = []
          · have HN2 : Hid (∀ (j : Nat) (d : Dd), j < k + 1 → L[j]? = some d → l ≠ [] → ddT d ≠ l) := Lib.hid fun j d _ _ h => absurd hl0 h
            have hs0 : s = ⟨#[]⟩ := ByteArray.ext (by have := HL.out; rw [hl0] at this; simpa using this)
            subst hs0
            go_wp2_with fail
            go_roundw
            case rel => exact ⟨k + 1, by omega, by go_num, hB, HD, HO, HN2⟩
            case measure => simp [intOf]; omega
          · have hst : ¬ s.toList = [] := by rw [ByteArray.toList_eq, HL.out]; exact hl0
            have hse : s.toList.isEmpty = false := by rw [Bool.eq_false_iff, ne_eq, List.isEmpty_iff]; exact hst
            have hse2 : (!s.toList.isEmpty) = true := by rw [hse]; rfl
            have HDT : Hid (Calls Tryd.prog 12 #[.agg #[.int .i64 d.k, .int .i64 d.a, .int .i64 d.b]] wr (TextOf d wr)) := Lib.hid (specDdt d.k d.a d.b wr)
            have HL0 := Lib.hid hl0
            clear hl0
            go_wp2_with fail
            refine HDT.out.mono ?_
            rintro e w5 ⟨rfl, hB5⟩
            have hB6 := hB.trans (hB5.mono hwz)
            have hD6 : Box3 w5 w.heap.size ⟨0, 0, 0⟩ := (hB5.block _ HD.out.lt).trans HD.out
            have HO6 : Hid (w5.ownsRow w2.heap.size 24 3 (.slice (some ⟨w2.heap.size, 0, none⟩) 4 4) 4 (ddC L)) := Lib.hid (HO.out.kept (grown_of_below hB5) (by cases (Value.slice (some ⟨w2.heap.size, 0, none⟩) 4 4).ownBlock <;> simp))
            have HB6 := Lib.hid hB6
            have HD6 := Lib.hid hD6
            have hwz6 := hB6.size
            clear hB5 hB6 hD6 HDT HO HD hB c1 c2 c3
            by_cases he : ddT d = l
            · have hTs : (tB (ddT d)).toList = s.toList := by rw [ByteArray.toList_eq, ByteArray.toList_eq, HL.out, he]
              obtain ⟨T, hT⟩ : ∃ T, tB (ddT d) = T := ⟨_, rfl⟩
              rw [hT] at hTs ⊢
              have hTb : (T.toList == s.toList) = true := beq_iff_eq.2 hTs
              have HR2 : Hid (R = some d) := Lib.hid (by rw [← HR.out, rdD_cand, if_neg HL0.out, HP.out]; exact find_at HDD.out (decide_eq_true he) (fun j e hj hje => decide_eq_false (HN.out j e hj hje HL0.out)))
              obtain ⟨c1, c2, c3⟩ := HCI.out w5 HO6.out
              obtain ⟨⟨s1, s2⟩, ⟨s3, s4⟩, ⟨s5, s6⟩, hDe⟩ := Box3.puts HD6.out d
              obtain ⟨⟨t1, t2, t3⟩, _⟩ := box3_cell hDe
              clear he hT
              go_wp2_with fail
              refine bodyPost_ret (v := .tuple #[.agg #[.int .i64 d.k, .int .i64 d.a, .int .i64 d.b], .bool true]) ?_ rfl ?_
              · simp [results, Tryd.f16, go_sem, t1, t2, t3]
              · rw [HR2.out]
                exact ⟨rfl, below_put3 HB6.out (Nat.le_refl _) d⟩
            · have hTs : ¬ (tB (ddT d)).toList = s.toList := by rw [ByteArray.toList_eq, ByteArray.toList_eq, HL.out]; exact he
              obtain ⟨T, hT⟩ : ∃ T, tB (ddT d) = T := ⟨_, rfl⟩
              rw [hT] at hTs ⊢
              have hTb : (T.toList == s.toList) = false := beq_eq_false_iff_ne.2 hTs
              have HN2 : Hid (∀ (j : Nat) (e : Dd), j < k + 1 → L[j]? = some e → l ≠ [] → ddT e ≠ l) := Lib.hid fun j e hj hje hne => by
                by_cases ej : j = k
                · subst ej; rw [HDD.out] at hje; cases hje; exact he
                · exact HN.out j e (by omega) hje hne
              clear he hT
              go_wp2_with fail
              go_roundw
              case rel => exact ⟨k + 1, by omega, by go_num, HB6.out, HD6, HO6, HN2⟩
              case measure => simp [intOf]; omega
        · have hkn : k = 4 := by omega
          have HR2 : Hid (R = none) := Lib.hid (by
            rw [← HR.out, rdD_cand]
            by_cases hl0 : l = []
            · rw [if_pos hl0]
            · rw [if_neg hl0, HP.out]; exact find_not fun j e hj hje => decide_eq_false (HN.out j e (by rw [hLn] at hj; omega) hje hl0))
          obtain ⟨⟨s1, s2⟩, ⟨s3, s4⟩, ⟨s5, s6⟩, hDe⟩ := Box3.puts HD.out ⟨0, 0, 0⟩
          obtain ⟨⟨t1, t2, t3⟩, _⟩ := box3_cell hDe
          go_wp2_with fail
          refine bodyPost_ret (v := .tuple #[.agg #[.int .i64 0, .int .i64 0, .int .i64 0], .bool false]) ?_ rfl ?_
          · simp [results, Tryd.f16, go_sem, t1, t2, t3]
          · rw [HR2.out]
            exact ⟨rfl, below_put3 hB (Nat.le_refl _) ⟨0, 0, 0⟩⟩

end Go.Proofs.YtofpjepndhpciaaDoor
