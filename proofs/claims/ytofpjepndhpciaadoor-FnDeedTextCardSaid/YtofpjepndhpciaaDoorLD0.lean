/-
  Two deeds are compared.
-/
import Derived.Test.YtofpjepndhpciaaDoorLA
import Derived.Laws.StructEq
namespace Go.Proofs.YtofpjepndhpciaaDoor
open Go.RowKit Go.Shelf

/-- A DEED AS A VALUE. -/
abbrev ddV (d : Dd) : Value := .agg #[.int .i64 d.k, .int .i64 d.a, .int .i64 d.b]
/-- Are two deeds the same? -/
def eqD (d e : Dd) : Bool := decide (d = e)
theorem eqD_yes (d : Dd) : eqD d d = true := decide_eq_true rfl
theorem eqD_no {d e : Dd} (h : d ≠ e) : eqD d e = false := decide_eq_false h
theorem eqD_iff {d e : Dd} : eqD d e = true ↔ d = e := decide_eq_true_iff
theorem ddStood : Tryd.prog.stoodInHeld 24 = false := by kernel_rfl
theorem ddGuard : Tryd.prog.eqGuardType Tryd.prog.depth 24 = false := by kernel_rfl
theorem deed_eq (dk da db ek ea eb : Int) (w : World) : (binOp .eql 24 (.agg #[.int .i64 dk, .int .i64 da, .int .i64 db]) (.agg #[.int .i64 ek, .int .i64 ea, .int .i64 eb])).run Tryd.prog w = .ok (.bool (eqD ⟨dk, da, db⟩ ⟨ek, ea, eb⟩)) w := by
  unfold eqD
  have ht : Tryd.prog.underlying 24 = some (.struct (Tryd.prog.fieldsOf 24)) := by kernel_rfl
  have hf : (Tryd.prog.fieldsOf 24).toList.map (fun f => (f.name, f.type, f.offset)) = [("Kind", 3, 0), ("A", 3, 1), ("B", 3, 2)] := by kernel_rfl
  rw [run_eql_struct, run_equalIn_agg _ _ _ _ _ ht ddStood]
  rcases h : (Tryd.prog.fieldsOf 24).toList with _ | ⟨f0, _ | ⟨f1, _ | ⟨f2, _ | ⟨f3, r⟩⟩⟩⟩
  · rw [h] at hf; simp at hf
  · rw [h] at hf; simp at hf
  · rw [h] at hf; simp at hf
  · rw [h] at hf
    simp only [List.map_cons, List.map_nil, List.cons.injEq, Prod.mk.injEq, and_true] at hf
    obtain ⟨⟨n0, t0, o0⟩, ⟨n1, t1, o1⟩, ⟨n2, t2, o2⟩⟩ := hf
    have e1 : ∀ x y : Int, (Op.equalIn 9999 3 (.int .i64 x) (.int .i64 y)).run Tryd.prog w = .ok (x == y) w := fun x y => run_equalIn_int w 9998 3 .i64 .i64 x y Tryd.underlying3
    have p0 : ∀ x y z : Int, (part 3 #[.int .i64 x, .int .i64 y, .int .i64 z] 0).run Tryd.prog w = .ok (.int .i64 x) w := fun x y z => by go_simp
    have p1 : ∀ x y z : Int, (part 3 #[.int .i64 x, .int .i64 y, .int .i64 z] 1).run Tryd.prog w = .ok (.int .i64 y) w := fun x y z => by go_simp
    have p2 : ∀ x y z : Int, (part 3 #[.int .i64 x, .int .i64 y, .int .i64 z] 2).run Tryd.prog w = .ok (.int .i64 z) w := fun x y z => by go_simp
    simp only [Op.eqFields, n0, n1, n2, t0, t1, t2, o0, o1, o2]
    rw [if_pos (by decide), if_pos (by decide), if_pos (by decide)]
    simp only [Sem.run_bind, p0, e1, Result.andThen_ok]
    by_cases h0 : dk = ek
    · rw [show (dk == ek) = true by simpa using h0]
      simp only [Bool.not_true, Bool.false_eq_true, if_false, Sem.run_bind, p1, e1, Result.andThen_ok]
      by_cases h1 : da = ea
      · rw [show (da == ea) = true by simpa using h1]
        simp only [Bool.not_true, Bool.false_eq_true, if_false, Sem.run_bind, p2, e1, Result.andThen_ok]
        by_cases h2 : db = eb
        · rw [show (db == eb) = true by simpa using h2, decide_eq_true (by rw [h0, h1, h2])]
          simp
        · rw [show (db == eb) = false by simpa using h2, decide_eq_false (fun e => h2 (Dd.mk.inj e).2.2)]
          simp
      · rw [show (da == ea) = false by simpa using h1, decide_eq_false (fun e => h1 (Dd.mk.inj e).2.1)]
        simp
    · rw [show (dk == ek) = false by simpa using h0, decide_eq_false (fun e => h0 (Dd.mk.inj e).1)]
      simp
  · rw [h] at hf
    simp only [List.map_cons, List.cons.injEq] at hf
    exact absurd hf.2.2.2 (by simp)
theorem deed_guard (o : BinOp) (x y : Operand) (xs ys : Array Value) (w : World) : (eqGuard o 24 x y (.agg xs) (.agg ys)).run Tryd.prog w = .ok () w := run_eqGuard_agg w o _ x y xs ys ddGuard

end Go.Proofs.YtofpjepndhpciaaDoor
