/-
  No cell of these rows narrows 'for every input' (looked for: loops, veiled, ifaces, maps, wideKeys, modest, calm, conditions, laid).
  DERIVED. THE GIVEN ROWS OF THIS SEAT. 13 by the template 'for every input the law returns true; each argument reads behind the call as it read before'; 0 by the template 'total and deterministic' (their statements: YtdhpkmijbgcdpaaTotals.lean).
  GIVEN WITH THE SEED: the statements are not yours to turn. If you find one false, say at which input.
  Laid BY PROGRAM, IN A SANDBOX (cutbox-rows.mjs): the forced cells as the released guide's own fill.sh prints them over the translation 5e84a6fc1abc2d4c… (all of the seat's roots in one cut). By AI agents, Wed Nov 11 2026. No macro, syntax, notation, axiom, sorry.
-/
import Derived.Test.YtdhpkmijbgcdpaaChecked
import GoSem.Claim
import GoSem.ClaimJoined
import GoSem.ClaimMapViews
import Derived.JoinedTies
import Derived.KernelRfl
namespace Go.Proofs.Ytdhpkmijbgcdpaa
/- THE CELL 'sum', in the pinned program and in every row, IS THE sha256 OF THE DUMP (.gsa) THAT YtdhpkmijbgcdpaaProg.lean LOADS. Nothing in Lean hashes anything: it is a label: what it is worth is what the hold of that sum in a sandbox is worth. -/
noncomputable def Try.pinned : Pinned := { name := "ytdhpkmijbgcdpaa", sum := "5e84a6fc1abc2d4c6ce890bbb9b133da136bbd8d571d43f7879189de2f48b80f", checked := Try.checked }
namespace Rows
def none {H : Type} : Left H := { results := [], args := [] }

/-- 'laws.FnGraphOk': WHATEVER THE INPUT: true; the input reads as it did. -/
def fnGraphOkSpec : ChangeSpec := { name := "fnGraphOk", fn := fun _ => fun
  | [d] => { results := [.lit (.bool true)], args := [d] }
  | _ => none }
def fnGraphOkRow : OpenClaim := { program := "ytdhpkmijbgcdpaa", sum := "5e84a6fc1abc2d4c6ce890bbb9b133da136bbd8d571d43f7879189de2f48b80f", func := "loop.example/graphmaps/laws.FnGraphOk", spec := "fnGraphOk", unfollowed := true, recurses := true, apart := false }
def FnGraphOkSaid : Prop := fnGraphOkRow.holds Try.pinned (OpenSpec.ofChange fnGraphOkSpec)

/-- ITS FALSE NEIGHBOUR: 'it returns false'. Refute it at one input. -/
def fnGraphOkWrong : ChangeSpec := { name := "fnGraphOk", fn := fun _ => fun
  | [d] => { results := [.lit (.bool false)], args := [d] }
  | _ => none }
def FnGraphOkWrongFalsely : Prop := fnGraphOkRow.holds Try.pinned (OpenSpec.ofChange fnGraphOkWrong)

/-- 'laws.FnArrowsIn': WHATEVER THE INPUT: true; the input reads as it did. -/
def fnArrowsInSpec : ChangeSpec := { name := "fnArrowsIn", fn := fun _ => fun
  | [d] => { results := [.lit (.bool true)], args := [d] }
  | _ => none }
def fnArrowsInRow : OpenClaim := { program := "ytdhpkmijbgcdpaa", sum := "5e84a6fc1abc2d4c6ce890bbb9b133da136bbd8d571d43f7879189de2f48b80f", func := "loop.example/graphmaps/laws.FnArrowsIn", spec := "fnArrowsIn", unfollowed := true, recurses := true, apart := false }
def FnArrowsInSaid : Prop := fnArrowsInRow.holds Try.pinned (OpenSpec.ofChange fnArrowsInSpec)

/-- ITS FALSE NEIGHBOUR: 'it returns false'. Refute it at one input. -/
def fnArrowsInWrong : ChangeSpec := { name := "fnArrowsIn", fn := fun _ => fun
  | [d] => { results := [.lit (.bool false)], args := [d] }
  | _ => none }
def FnArrowsInWrongFalsely : Prop := fnArrowsInRow.holds Try.pinned (OpenSpec.ofChange fnArrowsInWrong)

/-- 'laws.FnTurnedOf': WHATEVER THE INPUT: true; the input reads as it did. -/
def fnTurnedOfSpec : ChangeSpec := { name := "fnTurnedOf", fn := fun _ => fun
  | [d] => { results := [.lit (.bool true)], args := [d] }
  | _ => none }
def fnTurnedOfRow : OpenClaim := { program := "ytdhpkmijbgcdpaa", sum := "5e84a6fc1abc2d4c6ce890bbb9b133da136bbd8d571d43f7879189de2f48b80f", func := "loop.example/graphmaps/laws.FnTurnedOf", spec := "fnTurnedOf", unfollowed := true, recurses := true, apart := false }
def FnTurnedOfSaid : Prop := fnTurnedOfRow.holds Try.pinned (OpenSpec.ofChange fnTurnedOfSpec)

/-- ITS FALSE NEIGHBOUR: 'it returns false'. Refute it at one input. -/
def fnTurnedOfWrong : ChangeSpec := { name := "fnTurnedOf", fn := fun _ => fun
  | [d] => { results := [.lit (.bool false)], args := [d] }
  | _ => none }
def FnTurnedOfWrongFalsely : Prop := fnTurnedOfRow.holds Try.pinned (OpenSpec.ofChange fnTurnedOfWrong)

/-- 'laws.FnBesideOf': WHATEVER THE INPUT: true; the input reads as it did. -/
def fnBesideOfSpec : ChangeSpec := { name := "fnBesideOf", fn := fun _ => fun
  | [d] => { results := [.lit (.bool true)], args := [d] }
  | _ => none }
def fnBesideOfRow : OpenClaim := { program := "ytdhpkmijbgcdpaa", sum := "5e84a6fc1abc2d4c6ce890bbb9b133da136bbd8d571d43f7879189de2f48b80f", func := "loop.example/graphmaps/laws.FnBesideOf", spec := "fnBesideOf", unfollowed := true, recurses := true, apart := false }
def FnBesideOfSaid : Prop := fnBesideOfRow.holds Try.pinned (OpenSpec.ofChange fnBesideOfSpec)

/-- ITS FALSE NEIGHBOUR: 'it returns false'. Refute it at one input. -/
def fnBesideOfWrong : ChangeSpec := { name := "fnBesideOf", fn := fun _ => fun
  | [d] => { results := [.lit (.bool false)], args := [d] }
  | _ => none }
def FnBesideOfWrongFalsely : Prop := fnBesideOfRow.holds Try.pinned (OpenSpec.ofChange fnBesideOfWrong)

/-- 'laws.FnPartOf': WHATEVER THE INPUT: true; the input reads as it did. -/
def fnPartOfSpec : ChangeSpec := { name := "fnPartOf", fn := fun _ => fun
  | [d] => { results := [.lit (.bool true)], args := [d] }
  | _ => none }
def fnPartOfRow : OpenClaim := { program := "ytdhpkmijbgcdpaa", sum := "5e84a6fc1abc2d4c6ce890bbb9b133da136bbd8d571d43f7879189de2f48b80f", func := "loop.example/graphmaps/laws.FnPartOf", spec := "fnPartOf", unfollowed := true, recurses := true, apart := false }
def FnPartOfSaid : Prop := fnPartOfRow.holds Try.pinned (OpenSpec.ofChange fnPartOfSpec)

/-- ITS FALSE NEIGHBOUR: 'it returns false'. Refute it at one input. -/
def fnPartOfWrong : ChangeSpec := { name := "fnPartOf", fn := fun _ => fun
  | [d] => { results := [.lit (.bool false)], args := [d] }
  | _ => none }
def FnPartOfWrongFalsely : Prop := fnPartOfRow.holds Try.pinned (OpenSpec.ofChange fnPartOfWrong)

/-- 'laws.FnSameGraph': WHATEVER THE INPUT: true; the input reads as it did. -/
def fnSameGraphSpec : ChangeSpec := { name := "fnSameGraph", fn := fun _ => fun
  | [d] => { results := [.lit (.bool true)], args := [d] }
  | _ => none }
def fnSameGraphRow : OpenClaim := { program := "ytdhpkmijbgcdpaa", sum := "5e84a6fc1abc2d4c6ce890bbb9b133da136bbd8d571d43f7879189de2f48b80f", func := "loop.example/graphmaps/laws.FnSameGraph", spec := "fnSameGraph", unfollowed := true, recurses := true, apart := false }
def FnSameGraphSaid : Prop := fnSameGraphRow.holds Try.pinned (OpenSpec.ofChange fnSameGraphSpec)

/-- ITS FALSE NEIGHBOUR: 'it returns false'. Refute it at one input. -/
def fnSameGraphWrong : ChangeSpec := { name := "fnSameGraph", fn := fun _ => fun
  | [d] => { results := [.lit (.bool false)], args := [d] }
  | _ => none }
def FnSameGraphWrongFalsely : Prop := fnSameGraphRow.holds Try.pinned (OpenSpec.ofChange fnSameGraphWrong)

/-- 'laws.FnExactGraphOk': WHATEVER THE INPUT: true; the input reads as it did. -/
def fnExactGraphOkSpec : ChangeSpec := { name := "fnExactGraphOk", fn := fun _ => fun
  | [d] => { results := [.lit (.bool true)], args := [d] }
  | _ => none }
def fnExactGraphOkRow : OpenClaim := { program := "ytdhpkmijbgcdpaa", sum := "5e84a6fc1abc2d4c6ce890bbb9b133da136bbd8d571d43f7879189de2f48b80f", func := "loop.example/graphmaps/laws.FnExactGraphOk", spec := "fnExactGraphOk", unfollowed := true, recurses := true, apart := false }
def FnExactGraphOkSaid : Prop := fnExactGraphOkRow.holds Try.pinned (OpenSpec.ofChange fnExactGraphOkSpec)

/-- ITS FALSE NEIGHBOUR: 'it returns false'. Refute it at one input. -/
def fnExactGraphOkWrong : ChangeSpec := { name := "fnExactGraphOk", fn := fun _ => fun
  | [d] => { results := [.lit (.bool false)], args := [d] }
  | _ => none }
def FnExactGraphOkWrongFalsely : Prop := fnExactGraphOkRow.holds Try.pinned (OpenSpec.ofChange fnExactGraphOkWrong)

/-- 'laws.FnExactArrowsIn': WHATEVER THE INPUT: true; the input reads as it did. -/
def fnExactArrowsInSpec : ChangeSpec := { name := "fnExactArrowsIn", fn := fun _ => fun
  | [d] => { results := [.lit (.bool true)], args := [d] }
  | _ => none }
def fnExactArrowsInRow : OpenClaim := { program := "ytdhpkmijbgcdpaa", sum := "5e84a6fc1abc2d4c6ce890bbb9b133da136bbd8d571d43f7879189de2f48b80f", func := "loop.example/graphmaps/laws.FnExactArrowsIn", spec := "fnExactArrowsIn", unfollowed := true, recurses := true, apart := false }
def FnExactArrowsInSaid : Prop := fnExactArrowsInRow.holds Try.pinned (OpenSpec.ofChange fnExactArrowsInSpec)

/-- ITS FALSE NEIGHBOUR: 'it returns false'. Refute it at one input. -/
def fnExactArrowsInWrong : ChangeSpec := { name := "fnExactArrowsIn", fn := fun _ => fun
  | [d] => { results := [.lit (.bool false)], args := [d] }
  | _ => none }
def FnExactArrowsInWrongFalsely : Prop := fnExactArrowsInRow.holds Try.pinned (OpenSpec.ofChange fnExactArrowsInWrong)

/-- 'laws.FnExactTurnedOf': WHATEVER THE INPUT: true; the input reads as it did. -/
def fnExactTurnedOfSpec : ChangeSpec := { name := "fnExactTurnedOf", fn := fun _ => fun
  | [d] => { results := [.lit (.bool true)], args := [d] }
  | _ => none }
def fnExactTurnedOfRow : OpenClaim := { program := "ytdhpkmijbgcdpaa", sum := "5e84a6fc1abc2d4c6ce890bbb9b133da136bbd8d571d43f7879189de2f48b80f", func := "loop.example/graphmaps/laws.FnExactTurnedOf", spec := "fnExactTurnedOf", unfollowed := true, recurses := true, apart := false }
def FnExactTurnedOfSaid : Prop := fnExactTurnedOfRow.holds Try.pinned (OpenSpec.ofChange fnExactTurnedOfSpec)

/-- ITS FALSE NEIGHBOUR: 'it returns false'. Refute it at one input. -/
def fnExactTurnedOfWrong : ChangeSpec := { name := "fnExactTurnedOf", fn := fun _ => fun
  | [d] => { results := [.lit (.bool false)], args := [d] }
  | _ => none }
def FnExactTurnedOfWrongFalsely : Prop := fnExactTurnedOfRow.holds Try.pinned (OpenSpec.ofChange fnExactTurnedOfWrong)

/-- 'laws.FnExactBesideOf': WHATEVER THE INPUT: true; the input reads as it did. -/
def fnExactBesideOfSpec : ChangeSpec := { name := "fnExactBesideOf", fn := fun _ => fun
  | [d1, d2] => { results := [.lit (.bool true)], args := [d1, d2] }
  | _ => none }
def fnExactBesideOfRow : OpenClaim := { program := "ytdhpkmijbgcdpaa", sum := "5e84a6fc1abc2d4c6ce890bbb9b133da136bbd8d571d43f7879189de2f48b80f", func := "loop.example/graphmaps/laws.FnExactBesideOf", spec := "fnExactBesideOf", unfollowed := true, recurses := true, apart := false }
def FnExactBesideOfSaid : Prop := fnExactBesideOfRow.holds Try.pinned (OpenSpec.ofChange fnExactBesideOfSpec)

/-- ITS FALSE NEIGHBOUR: 'it returns false'. Refute it at one input. -/
def fnExactBesideOfWrong : ChangeSpec := { name := "fnExactBesideOf", fn := fun _ => fun
  | [d1, d2] => { results := [.lit (.bool false)], args := [d1, d2] }
  | _ => none }
def FnExactBesideOfWrongFalsely : Prop := fnExactBesideOfRow.holds Try.pinned (OpenSpec.ofChange fnExactBesideOfWrong)

/-- 'laws.FnExactPartOf': WHATEVER THE INPUT: true; the input reads as it did. -/
def fnExactPartOfSpec : ChangeSpec := { name := "fnExactPartOf", fn := fun _ => fun
  | [d1, d2] => { results := [.lit (.bool true)], args := [d1, d2] }
  | _ => none }
def fnExactPartOfRow : OpenClaim := { program := "ytdhpkmijbgcdpaa", sum := "5e84a6fc1abc2d4c6ce890bbb9b133da136bbd8d571d43f7879189de2f48b80f", func := "loop.example/graphmaps/laws.FnExactPartOf", spec := "fnExactPartOf", unfollowed := true, recurses := true, apart := false }
def FnExactPartOfSaid : Prop := fnExactPartOfRow.holds Try.pinned (OpenSpec.ofChange fnExactPartOfSpec)

/-- ITS FALSE NEIGHBOUR: 'it returns false'. Refute it at one input. -/
def fnExactPartOfWrong : ChangeSpec := { name := "fnExactPartOf", fn := fun _ => fun
  | [d1, d2] => { results := [.lit (.bool false)], args := [d1, d2] }
  | _ => none }
def FnExactPartOfWrongFalsely : Prop := fnExactPartOfRow.holds Try.pinned (OpenSpec.ofChange fnExactPartOfWrong)

/-- 'laws.FnExactSameGraph': WHATEVER THE INPUT: true; the input reads as it did. -/
def fnExactSameGraphSpec : ChangeSpec := { name := "fnExactSameGraph", fn := fun _ => fun
  | [d1, d2] => { results := [.lit (.bool true)], args := [d1, d2] }
  | _ => none }
def fnExactSameGraphRow : OpenClaim := { program := "ytdhpkmijbgcdpaa", sum := "5e84a6fc1abc2d4c6ce890bbb9b133da136bbd8d571d43f7879189de2f48b80f", func := "loop.example/graphmaps/laws.FnExactSameGraph", spec := "fnExactSameGraph", unfollowed := true, recurses := true, apart := false }
def FnExactSameGraphSaid : Prop := fnExactSameGraphRow.holds Try.pinned (OpenSpec.ofChange fnExactSameGraphSpec)

/-- ITS FALSE NEIGHBOUR: 'it returns false'. Refute it at one input. -/
def fnExactSameGraphWrong : ChangeSpec := { name := "fnExactSameGraph", fn := fun _ => fun
  | [d1, d2] => { results := [.lit (.bool false)], args := [d1, d2] }
  | _ => none }
def FnExactSameGraphWrongFalsely : Prop := fnExactSameGraphRow.holds Try.pinned (OpenSpec.ofChange fnExactSameGraphWrong)

/-- 'laws.FnExactGraphText': WHATEVER THE INPUT: true; the input reads as it did. -/
def fnExactGraphTextSpec : ChangeSpec := { name := "fnExactGraphText", fn := fun _ => fun
  | [d] => { results := [.lit (.bool true)], args := [d] }
  | _ => none }
def fnExactGraphTextRow : OpenClaim := { program := "ytdhpkmijbgcdpaa", sum := "5e84a6fc1abc2d4c6ce890bbb9b133da136bbd8d571d43f7879189de2f48b80f", func := "loop.example/graphmaps/laws.FnExactGraphText", spec := "fnExactGraphText", inPlace := ["internal/abi.NoEscape", "internal/bytealg.MakeNoZero"], unfollowed := true, recurses := true, apart := false }
def FnExactGraphTextSaid : Prop := fnExactGraphTextRow.holds Try.pinned (OpenSpec.ofChange fnExactGraphTextSpec)

/-- ITS FALSE NEIGHBOUR: 'it returns false'. Refute it at one input. -/
def fnExactGraphTextWrong : ChangeSpec := { name := "fnExactGraphText", fn := fun _ => fun
  | [d] => { results := [.lit (.bool false)], args := [d] }
  | _ => none }
def FnExactGraphTextWrongFalsely : Prop := fnExactGraphTextRow.holds Try.pinned (OpenSpec.ofChange fnExactGraphTextWrong)

/- THE SECOND FORM. 'bulk': how many values and letters a reading holds, each counted each time it is reached (what is shared counts as often as it is met; a slice's spare places count too). A statement '..UptoSaid' is the law's where the arguments, and the package variables that the reading takes, are together of bulk at most 1048576: NARROWER than '..Said'. Prove '..Said' where nothing that the law and all that it calls make is longer than what came in: it says more and counts as full. Else prove '..UptoSaid'. A law counts once. -/
mutual
def uptoBulk {H : Type} : DataW H → Nat
  | .lit (.string bytes) => bytes.length + 1
  | .lit _ => 1
  | .nil => 1
  | .ptr d => uptoBulk d + 1
  | .slice elems spare => uptoBulkAll elems + uptoBulkAll spare + 1
  | .agg parts => uptoBulkAll parts + 1
  | .iface _ d => uptoBulk d + 1
  | .map entries => uptoBulkEntries entries + 1
  | .held _ => 1
def uptoBulkAll {H : Type} : List (DataW H) → Nat
  | [] => 0
  | d :: r => uptoBulk d + uptoBulkAll r
def uptoBulkEntries {H : Type} : List (Lit × DataW H) → Nat
  | [] => 0
  | x :: r => uptoBulkEntry x + uptoBulkEntries r
def uptoBulkEntry {H : Type} : Lit × DataW H → Nat
  | (.string bytes, d) => bytes.length + uptoBulk d + 1
  | (_, d) => uptoBulk d + 1
 end
def uptoSmall : (H : Type) → List (DataW H) → Bool := fun _ ds => decide (uptoBulkAll ds ≤ 1048576)
def OpenSpec.upto (s : _root_.Go.ChangeSpec) : _root_.Go.OpenSpec := { _root_.Go.OpenSpec.ofChange s with cond := some uptoSmall }

/-- 'laws.FnGraphOk', WHERE WHAT IT READS IS OF BULK AT MOST 1048576: true; the input reads as it did. -/
def fnGraphOkUptoRow : OpenClaim := { program := "ytdhpkmijbgcdpaa", sum := "5e84a6fc1abc2d4c6ce890bbb9b133da136bbd8d571d43f7879189de2f48b80f", func := "loop.example/graphmaps/laws.FnGraphOk", spec := "fnGraphOk", unfollowed := true, recurses := true, apart := false, narrowed := true }
def FnGraphOkUptoSaid : Prop := fnGraphOkUptoRow.holds Try.pinned (OpenSpec.upto fnGraphOkSpec)

/-- 'laws.FnArrowsIn', WHERE WHAT IT READS IS OF BULK AT MOST 1048576: true; the input reads as it did. -/
def fnArrowsInUptoRow : OpenClaim := { program := "ytdhpkmijbgcdpaa", sum := "5e84a6fc1abc2d4c6ce890bbb9b133da136bbd8d571d43f7879189de2f48b80f", func := "loop.example/graphmaps/laws.FnArrowsIn", spec := "fnArrowsIn", unfollowed := true, recurses := true, apart := false, narrowed := true }
def FnArrowsInUptoSaid : Prop := fnArrowsInUptoRow.holds Try.pinned (OpenSpec.upto fnArrowsInSpec)

/-- 'laws.FnTurnedOf', WHERE WHAT IT READS IS OF BULK AT MOST 1048576: true; the input reads as it did. -/
def fnTurnedOfUptoRow : OpenClaim := { program := "ytdhpkmijbgcdpaa", sum := "5e84a6fc1abc2d4c6ce890bbb9b133da136bbd8d571d43f7879189de2f48b80f", func := "loop.example/graphmaps/laws.FnTurnedOf", spec := "fnTurnedOf", unfollowed := true, recurses := true, apart := false, narrowed := true }
def FnTurnedOfUptoSaid : Prop := fnTurnedOfUptoRow.holds Try.pinned (OpenSpec.upto fnTurnedOfSpec)

/-- 'laws.FnBesideOf', WHERE WHAT IT READS IS OF BULK AT MOST 1048576: true; the input reads as it did. -/
def fnBesideOfUptoRow : OpenClaim := { program := "ytdhpkmijbgcdpaa", sum := "5e84a6fc1abc2d4c6ce890bbb9b133da136bbd8d571d43f7879189de2f48b80f", func := "loop.example/graphmaps/laws.FnBesideOf", spec := "fnBesideOf", unfollowed := true, recurses := true, apart := false, narrowed := true }
def FnBesideOfUptoSaid : Prop := fnBesideOfUptoRow.holds Try.pinned (OpenSpec.upto fnBesideOfSpec)

/-- 'laws.FnPartOf', WHERE WHAT IT READS IS OF BULK AT MOST 1048576: true; the input reads as it did. -/
def fnPartOfUptoRow : OpenClaim := { program := "ytdhpkmijbgcdpaa", sum := "5e84a6fc1abc2d4c6ce890bbb9b133da136bbd8d571d43f7879189de2f48b80f", func := "loop.example/graphmaps/laws.FnPartOf", spec := "fnPartOf", unfollowed := true, recurses := true, apart := false, narrowed := true }
def FnPartOfUptoSaid : Prop := fnPartOfUptoRow.holds Try.pinned (OpenSpec.upto fnPartOfSpec)

/-- 'laws.FnSameGraph', WHERE WHAT IT READS IS OF BULK AT MOST 1048576: true; the input reads as it did. -/
def fnSameGraphUptoRow : OpenClaim := { program := "ytdhpkmijbgcdpaa", sum := "5e84a6fc1abc2d4c6ce890bbb9b133da136bbd8d571d43f7879189de2f48b80f", func := "loop.example/graphmaps/laws.FnSameGraph", spec := "fnSameGraph", unfollowed := true, recurses := true, apart := false, narrowed := true }
def FnSameGraphUptoSaid : Prop := fnSameGraphUptoRow.holds Try.pinned (OpenSpec.upto fnSameGraphSpec)

/-- 'laws.FnExactGraphOk', WHERE WHAT IT READS IS OF BULK AT MOST 1048576: true; the input reads as it did. -/
def fnExactGraphOkUptoRow : OpenClaim := { program := "ytdhpkmijbgcdpaa", sum := "5e84a6fc1abc2d4c6ce890bbb9b133da136bbd8d571d43f7879189de2f48b80f", func := "loop.example/graphmaps/laws.FnExactGraphOk", spec := "fnExactGraphOk", unfollowed := true, recurses := true, apart := false, narrowed := true }
def FnExactGraphOkUptoSaid : Prop := fnExactGraphOkUptoRow.holds Try.pinned (OpenSpec.upto fnExactGraphOkSpec)

/-- 'laws.FnExactArrowsIn', WHERE WHAT IT READS IS OF BULK AT MOST 1048576: true; the input reads as it did. -/
def fnExactArrowsInUptoRow : OpenClaim := { program := "ytdhpkmijbgcdpaa", sum := "5e84a6fc1abc2d4c6ce890bbb9b133da136bbd8d571d43f7879189de2f48b80f", func := "loop.example/graphmaps/laws.FnExactArrowsIn", spec := "fnExactArrowsIn", unfollowed := true, recurses := true, apart := false, narrowed := true }
def FnExactArrowsInUptoSaid : Prop := fnExactArrowsInUptoRow.holds Try.pinned (OpenSpec.upto fnExactArrowsInSpec)

/-- 'laws.FnExactTurnedOf', WHERE WHAT IT READS IS OF BULK AT MOST 1048576: true; the input reads as it did. -/
def fnExactTurnedOfUptoRow : OpenClaim := { program := "ytdhpkmijbgcdpaa", sum := "5e84a6fc1abc2d4c6ce890bbb9b133da136bbd8d571d43f7879189de2f48b80f", func := "loop.example/graphmaps/laws.FnExactTurnedOf", spec := "fnExactTurnedOf", unfollowed := true, recurses := true, apart := false, narrowed := true }
def FnExactTurnedOfUptoSaid : Prop := fnExactTurnedOfUptoRow.holds Try.pinned (OpenSpec.upto fnExactTurnedOfSpec)

/-- 'laws.FnExactBesideOf', WHERE WHAT IT READS IS OF BULK AT MOST 1048576: true; the input reads as it did. -/
def fnExactBesideOfUptoRow : OpenClaim := { program := "ytdhpkmijbgcdpaa", sum := "5e84a6fc1abc2d4c6ce890bbb9b133da136bbd8d571d43f7879189de2f48b80f", func := "loop.example/graphmaps/laws.FnExactBesideOf", spec := "fnExactBesideOf", unfollowed := true, recurses := true, apart := false, narrowed := true }
def FnExactBesideOfUptoSaid : Prop := fnExactBesideOfUptoRow.holds Try.pinned (OpenSpec.upto fnExactBesideOfSpec)

/-- 'laws.FnExactPartOf', WHERE WHAT IT READS IS OF BULK AT MOST 1048576: true; the input reads as it did. -/
def fnExactPartOfUptoRow : OpenClaim := { program := "ytdhpkmijbgcdpaa", sum := "5e84a6fc1abc2d4c6ce890bbb9b133da136bbd8d571d43f7879189de2f48b80f", func := "loop.example/graphmaps/laws.FnExactPartOf", spec := "fnExactPartOf", unfollowed := true, recurses := true, apart := false, narrowed := true }
def FnExactPartOfUptoSaid : Prop := fnExactPartOfUptoRow.holds Try.pinned (OpenSpec.upto fnExactPartOfSpec)

/-- 'laws.FnExactSameGraph', WHERE WHAT IT READS IS OF BULK AT MOST 1048576: true; the input reads as it did. -/
def fnExactSameGraphUptoRow : OpenClaim := { program := "ytdhpkmijbgcdpaa", sum := "5e84a6fc1abc2d4c6ce890bbb9b133da136bbd8d571d43f7879189de2f48b80f", func := "loop.example/graphmaps/laws.FnExactSameGraph", spec := "fnExactSameGraph", unfollowed := true, recurses := true, apart := false, narrowed := true }
def FnExactSameGraphUptoSaid : Prop := fnExactSameGraphUptoRow.holds Try.pinned (OpenSpec.upto fnExactSameGraphSpec)

/-- 'laws.FnExactGraphText', WHERE WHAT IT READS IS OF BULK AT MOST 1048576: true; the input reads as it did. -/
def fnExactGraphTextUptoRow : OpenClaim := { program := "ytdhpkmijbgcdpaa", sum := "5e84a6fc1abc2d4c6ce890bbb9b133da136bbd8d571d43f7879189de2f48b80f", func := "loop.example/graphmaps/laws.FnExactGraphText", spec := "fnExactGraphText", inPlace := ["internal/abi.NoEscape", "internal/bytealg.MakeNoZero"], unfollowed := true, recurses := true, apart := false, narrowed := true }
def FnExactGraphTextUptoSaid : Prop := fnExactGraphTextUptoRow.holds Try.pinned (OpenSpec.upto fnExactGraphTextSpec)

end Rows
end Go.Proofs.Ytdhpkmijbgcdpaa
