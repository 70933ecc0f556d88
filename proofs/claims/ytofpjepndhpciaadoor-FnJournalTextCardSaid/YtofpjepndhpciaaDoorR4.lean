/-
  A row that lists variables, one of them the program's own: the contract is handed what they read as, and the world's shape.
-/
import Derived.Test.YtofpjepndhpciaaDoorR0
import Derived.Test.YtofpjepndhpciaaDoorP15b
import Derived.LaidMore
import Derived.Lay
import Derived.HandedShaped
import Derived.OpenVars
import Derived.ProofKit
import Derived.OpenShut
import Derived.Shelf.Vars
import Derived.Stop.Joined
import Derived.Stop.LaidErr
namespace Go.Proofs.YtofpjepndhpciaaDoor
open Go.ChangeShapes Go.WideShapes Go.ChangeAt Go.RowKit Go.Deep

theorem returns_laid_both {H : Type} {enc : TypeId × Value → H} {a : Assume} {C : Checked} {os : Os} {f : FuncId} {fn : Func} {s : ChangeSpec} {conds : List PathCond} {apart fresh handsOn again : Bool} {L : List (String × DataW Unit)}
    (own : ownKnob C.prog.godebug = none) (started : os.Started) (noInit : C.prog.inits.idxOf? f = none) (hfn : C.prog.funcs[f]? = some fn)
    (witness : ∃ (w : World) (tape : Tape) (i : Input), w.os = os ∧ (w.forCall tape i).Shaped C.prog ∧ i.vars = [] ∧ Input.okWide C.prog (w.forCall tape i) .any w.heap.size f i ∧
      ((s.pre enc C.prog fn conds apart (w.forCall tape i).memory i.args ∧ laidMetH C.prog L (w.forCall tape i).memory) ∧ sizedMet enc C.prog fn (OpenSpec.ofChange s) apart (w.forCall tape i).memory i.args) ∧ a.holds C.prog (lone (Frame.enter C.prog f i.args .normal) [] (w.forCall tape i)))
    (contract : ∀ (W : World) (base : Nat) (args : Array Value) (ds gs : List (DataW H)) (before : List MemPlace),
      (∀ (j : Nat) t v, fn.params[j]? = some t → args[j]? = some v → Value.okWide C.prog W .any base t v) → DataW.Whole enc C.prog fn.params.toList s.vars apart W args.toList ds gs before → W.ShapedOpen C.prog → laidMetH C.prog L W →
      Calls C.prog f args W fun e W' => ∃ v, e = .returned v ∧ s.post enc C.prog fn apart fresh handsOn again W args v W') :
    ReturnsInHanded a C os f .any (fun w args => (s.pre enc C.prog fn conds apart w args ∧ laidMetH C.prog L w) ∧ sizedMet enc C.prog fn (OpenSpec.ofChange s) apart w args) (s.post enc C.prog fn apart fresh handsOn again) := by
  refine returnsInHanded_of_calls own started noInit witness ?_
  intro w tape i _ hsh _ hok hpre _
  obtain ⟨_, _, _, fn', hfn', _, _, _, _, hval⟩ := hok
  obtain rfl : fn' = fn := Option.some.inj (hfn'.symm.trans hfn)
  obtain ⟨⟨⟨ds, gs, before, hw, _⟩, hl⟩, _⟩ := hpre
  have hw' := DataW.Whole.of_heap (w' := w.forCall tape i) (by rfl) hw
  have hl' : laidMetH C.prog L (w.forCall tape i) := hl.of_heap (by rfl)
  refine (contract (w.forCall tape i) w.heap.size i.args ds gs before hval hw' hsh hl').mono fun e W' ⟨v, he, hp⟩ => ?_
  subst he
  exact ChangeSpec.post_blind hp

theorem maxLen_cell4 {W : World} (h : W.ShapedOpen Tryd.prog) : ∃ m, W.cell? ⟨1, 0, none⟩ = some (.int .i64 m) :=
  cell_of_shapedOpen_int (g := 1) (t := 3) (zero := #[.int .i64 0]) h (of_decide_eq_true (by kernel_rfl)) (by kernel_rfl) rfl (by kernel_rfl) (by kernel_rfl) Tryd.underlying3
theorem words_glob : Tryd.prog.globalNamed "loop.example/graphmaps/impl.deedWords" = some 0 := by kernel_rfl
theorem words_type : (Tryd.prog.globals[0]?).map (·.type) = some 53 := by kernel_rfl
theorem lit_inj {H : Type} {x y : List UInt8} (h : (DataW.lit (.string x) : DataW H) = .lit (.string y)) : x = y := by
  injection h with h
  injection h
theorem words_cells {W : World} (h : laidMet Tryd.prog [("loop.example/graphmaps/impl.deedWords", .agg [.lit (.string [97, 114, 114, 111, 119]), .lit (.string [110, 111, 100, 101]), .lit (.string [100, 114, 111, 112]), .lit (.string [99, 111, 114, 101]), .lit (.string [116, 117, 114, 110]), .lit (.string [98, 97, 99, 107])])] W) :
    ∀ i, i < 6 → W.cell? ⟨0, i, none⟩ = some (.string (tB (wrdL i))) := by
  obtain ⟨ps, ⟨g0, t0, cs0, f0, p0, q0, hg0, ht0, hv0, hd0, _, _⟩, _, _⟩ := h
  obtain rfl := Option.some.inj (words_glob.symm.trans hg0)
  obtain rfl := Option.some.inj (words_type.symm.trans ht0)
  obtain ⟨xs, m1, rfl, hx1, hlen, hn6, hel⟩ := DataW.trod_array (show Tryd.prog.underlying 53 = some (.array 6 9) by kernel_rfl) hd0
  have c1 : Tryd.prog.cellsOf 9 = 1 := by kernel_rfl
  simp only [Prod.mk.injEq, DataW.agg.injEq] at hx1
  intro i hi
  have h0 := hel i hi
  rw [c1, Nat.mul_one, List.getElem?_eq_getElem (by omega)] at h0
  obtain ⟨s, e1, e2, _⟩ := DataW.trod_string Tryd.underlying9 h0
  have e3 : (xs.map (·.1))[i]? = some (.lit (.string s.data.toList)) := by rw [List.getElem?_map, List.getElem?_eq_getElem (by omega), e2]; rfl
  have e4 : s.data.toList = wrdL i := by
    rw [← hx1.1] at e3
    match i, hi, e3 with
    | 0, _, e3 => exact (lit_inj (Option.some.inj e3)).symm
    | 1, _, e3 => exact (lit_inj (Option.some.inj e3)).symm
    | 2, _, e3 => exact (lit_inj (Option.some.inj e3)).symm
    | 3, _, e3 => exact (lit_inj (Option.some.inj e3)).symm
    | 4, _, e3 => exact (lit_inj (Option.some.inj e3)).symm
    | 5, _, e3 => exact (lit_inj (Option.some.inj e3)).symm
  have e5 : cs0.toList[i]? = some (.string s) := by
    have h := congrArg (·[0]?) e1
    simpa using h
  have e6 := World.var?_cell hg0 hv0 i
  rw [e6, ← tB_ext e4]
  simpa using e5
theorem words_lt {W : World} (h : ∀ i, i < 6 → W.cell? ⟨0, i, none⟩ = some (.string (tB (wrdL i)))) : 0 < W.heap.size := by
  have h0 := h 0 (by decide)
  unfold World.cell? at h0
  rcases Nat.lt_or_ge 0 W.heap.size with hl | hl
  · exact hl
  · rw [Array.getElem?_eq_none hl] at h0; cases h0
theorem dws_of {W : World} (h : ∀ i, i < 6 → W.cell? ⟨0, i, none⟩ = some (.string (tB (wrdL i)))) (hsh : W.ShapedOpen Tryd.prog) : DWs W := by
  obtain ⟨m, hm⟩ := maxLen_cell4 hsh
  refine ⟨words_lt h, h, ?_, m, hm⟩
  unfold World.cell? at hm
  rcases Nat.lt_or_ge 1 W.heap.size with hl | hl
  · exact hl
  · rw [Array.getElem?_eq_none hl] at hm; cases hm
theorem dws_of_laid {W : World} {a b c : DataW Unit} (h : laidMetH Tryd.prog [("math/bits.deBruijn32tab", a), ("math/bits.deBruijn64tab", b), ("internal/strconv.uint64pow10", c), ("loop.example/graphmaps/impl.deedWords", .agg [.lit (.string [97, 114, 114, 111, 119]), .lit (.string [110, 111, 100, 101]), .lit (.string [100, 114, 111, 112]), .lit (.string [99, 111, 114, 101]), .lit (.string [116, 117, 114, 110]), .lit (.string [98, 97, 99, 107])])] W)
    (hp : laidMetH Tryd.prog [("math/bits.deBruijn32tab", a), ("math/bits.deBruijn64tab", b), ("internal/strconv.uint64pow10", c), ("loop.example/graphmaps/impl.deedWords", .agg [.lit (.string [97, 114, 114, 111, 119]), .lit (.string [110, 111, 100, 101]), .lit (.string [100, 114, 111, 112]), .lit (.string [99, 111, 114, 101]), .lit (.string [116, 117, 114, 110]), .lit (.string [98, 97, 99, 107])])] W = laidMet Tryd.prog [("math/bits.deBruijn32tab", a), ("math/bits.deBruijn64tab", b), ("internal/strconv.uint64pow10", c), ("loop.example/graphmaps/impl.deedWords", .agg [.lit (.string [97, 114, 114, 111, 119]), .lit (.string [110, 111, 100, 101]), .lit (.string [100, 114, 111, 112]), .lit (.string [99, 111, 114, 101]), .lit (.string [116, 117, 114, 110]), .lit (.string [98, 97, 99, 107])])] W)
    (hsh : W.ShapedOpen Tryd.prog) : DWs W := by
  rw [hp] at h
  exact dws_of (words_cells h.tail.tail.tail) hsh

end Go.Proofs.YtofpjepndhpciaaDoor
