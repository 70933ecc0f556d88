/-
  No cell of these rows narrows 'for every input' (looked for: loops, veiled, ifaces, maps, wideKeys, modest, calm, conditions, laid).
  DERIVED. THE GIVEN ROWS OF THIS SEAT. 14 by the template 'for every input the law returns true; each argument reads behind the call as it read before'; 0 by the template 'total and deterministic' (their statements: YtpcmenhchabgiaaTotals.lean).
  GIVEN WITH THE SEED: the statements are not yours to turn. If you find one false, say at which input.
  Laid BY PROGRAM, IN A SANDBOX (cutbox-rows.mjs): the forced cells as the released guide's own fill.sh prints them over the translation 7edcba470506c6ce… (all of the seat's roots in one cut). By AI agents, Wed Nov 11 2026. No macro, syntax, notation, axiom, sorry.
-/
import Derived.Test.YtpcmenhchabgiaaChecked
import GoSem.Claim
import GoSem.ClaimJoined
import GoSem.ClaimMapViews
import Derived.JoinedTies
import Derived.KernelRfl
namespace Go.Proofs.Ytpcmenhchabgiaa
/- THE CELL 'sum', in the pinned program and in every row, IS THE sha256 OF THE DUMP (.gsa) THAT YtpcmenhchabgiaaProg.lean LOADS. Nothing in Lean hashes anything: it is a label: what it is worth is what the hold of that sum in a sandbox is worth. -/
noncomputable def Try.pinned : Pinned := { name := "ytpcmenhchabgiaa", sum := "7edcba470506c6ceb56b32272fa9e1b981d40705959417a7d1398e9866d87e95", checked := Try.checked }
namespace Rows
def none {H : Type} : Left H := { results := [], args := [] }

/-- 'laws.FnWholeOf': WHATEVER THE INPUT: true; the input reads as it did. -/
def fnWholeOfSpec : ChangeSpec := { name := "fnWholeOf", fn := fun _ => fun
  | [d] => { results := [.lit (.bool true)], args := [d] }
  | _ => none }
def fnWholeOfRow : OpenClaim := { program := "ytpcmenhchabgiaa", sum := "7edcba470506c6ceb56b32272fa9e1b981d40705959417a7d1398e9866d87e95", func := "loop.example/graphmaps/laws.FnWholeOf", spec := "fnWholeOf", unfollowed := true, recurses := true, apart := false }
def FnWholeOfSaid : Prop := fnWholeOfRow.holds Try.pinned (OpenSpec.ofChange fnWholeOfSpec)

/-- ITS FALSE NEIGHBOUR: 'it returns false'. Refute it at one input. -/
def fnWholeOfWrong : ChangeSpec := { name := "fnWholeOf", fn := fun _ => fun
  | [d] => { results := [.lit (.bool false)], args := [d] }
  | _ => none }
def FnWholeOfWrongFalsely : Prop := fnWholeOfRow.holds Try.pinned (OpenSpec.ofChange fnWholeOfWrong)

/-- 'laws.FnColoursOk': WHATEVER THE INPUT: true; the input reads as it did. -/
def fnColoursOkSpec : ChangeSpec := { name := "fnColoursOk", fn := fun _ => fun
  | [d] => { results := [.lit (.bool true)], args := [d] }
  | _ => none }
def fnColoursOkRow : OpenClaim := { program := "ytpcmenhchabgiaa", sum := "7edcba470506c6ceb56b32272fa9e1b981d40705959417a7d1398e9866d87e95", func := "loop.example/graphmaps/laws.FnColoursOk", spec := "fnColoursOk", unfollowed := true, recurses := true, apart := false }
def FnColoursOkSaid : Prop := fnColoursOkRow.holds Try.pinned (OpenSpec.ofChange fnColoursOkSpec)

/-- ITS FALSE NEIGHBOUR: 'it returns false'. Refute it at one input. -/
def fnColoursOkWrong : ChangeSpec := { name := "fnColoursOk", fn := fun _ => fun
  | [d] => { results := [.lit (.bool false)], args := [d] }
  | _ => none }
def FnColoursOkWrongFalsely : Prop := fnColoursOkRow.holds Try.pinned (OpenSpec.ofChange fnColoursOkWrong)

/-- 'laws.FnCountColours': WHATEVER THE INPUT: true; the input reads as it did. -/
def fnCountColoursSpec : ChangeSpec := { name := "fnCountColours", fn := fun _ => fun
  | [d] => { results := [.lit (.bool true)], args := [d] }
  | _ => none }
def fnCountColoursRow : OpenClaim := { program := "ytpcmenhchabgiaa", sum := "7edcba470506c6ceb56b32272fa9e1b981d40705959417a7d1398e9866d87e95", func := "loop.example/graphmaps/laws.FnCountColours", spec := "fnCountColours", unfollowed := true, recurses := true, apart := false }
def FnCountColoursSaid : Prop := fnCountColoursRow.holds Try.pinned (OpenSpec.ofChange fnCountColoursSpec)

/-- ITS FALSE NEIGHBOUR: 'it returns false'. Refute it at one input. -/
def fnCountColoursWrong : ChangeSpec := { name := "fnCountColours", fn := fun _ => fun
  | [d] => { results := [.lit (.bool false)], args := [d] }
  | _ => none }
def FnCountColoursWrongFalsely : Prop := fnCountColoursRow.holds Try.pinned (OpenSpec.ofChange fnCountColoursWrong)

/-- 'laws.FnFewestOf': WHATEVER THE INPUT: true; the input reads as it did. -/
def fnFewestOfSpec : ChangeSpec := { name := "fnFewestOf", fn := fun _ => fun
  | [d] => { results := [.lit (.bool true)], args := [d] }
  | _ => none }
def fnFewestOfRow : OpenClaim := { program := "ytpcmenhchabgiaa", sum := "7edcba470506c6ceb56b32272fa9e1b981d40705959417a7d1398e9866d87e95", func := "loop.example/graphmaps/laws.FnFewestOf", spec := "fnFewestOf", unfollowed := true, recurses := true, apart := false }
def FnFewestOfSaid : Prop := fnFewestOfRow.holds Try.pinned (OpenSpec.ofChange fnFewestOfSpec)

/-- ITS FALSE NEIGHBOUR: 'it returns false'. Refute it at one input. -/
def fnFewestOfWrong : ChangeSpec := { name := "fnFewestOf", fn := fun _ => fun
  | [d] => { results := [.lit (.bool false)], args := [d] }
  | _ => none }
def FnFewestOfWrongFalsely : Prop := fnFewestOfRow.holds Try.pinned (OpenSpec.ofChange fnFewestOfWrong)

/-- 'laws.FnBothWays': WHATEVER THE INPUT: true; the input reads as it did. -/
def fnBothWaysSpec : ChangeSpec := { name := "fnBothWays", fn := fun _ => fun
  | [d] => { results := [.lit (.bool true)], args := [d] }
  | _ => none }
def fnBothWaysRow : OpenClaim := { program := "ytpcmenhchabgiaa", sum := "7edcba470506c6ceb56b32272fa9e1b981d40705959417a7d1398e9866d87e95", func := "loop.example/graphmaps/laws.FnBothWays", spec := "fnBothWays", unfollowed := true, recurses := true, apart := false }
def FnBothWaysSaid : Prop := fnBothWaysRow.holds Try.pinned (OpenSpec.ofChange fnBothWaysSpec)

/-- ITS FALSE NEIGHBOUR: 'it returns false'. Refute it at one input. -/
def fnBothWaysWrong : ChangeSpec := { name := "fnBothWays", fn := fun _ => fun
  | [d] => { results := [.lit (.bool false)], args := [d] }
  | _ => none }
def FnBothWaysWrongFalsely : Prop := fnBothWaysRow.holds Try.pinned (OpenSpec.ofChange fnBothWaysWrong)

/-- 'laws.FnOneWay': WHATEVER THE INPUT: true; the input reads as it did. -/
def fnOneWaySpec : ChangeSpec := { name := "fnOneWay", fn := fun _ => fun
  | [d] => { results := [.lit (.bool true)], args := [d] }
  | _ => none }
def fnOneWayRow : OpenClaim := { program := "ytpcmenhchabgiaa", sum := "7edcba470506c6ceb56b32272fa9e1b981d40705959417a7d1398e9866d87e95", func := "loop.example/graphmaps/laws.FnOneWay", spec := "fnOneWay", unfollowed := true, recurses := true, apart := false }
def FnOneWaySaid : Prop := fnOneWayRow.holds Try.pinned (OpenSpec.ofChange fnOneWaySpec)

/-- ITS FALSE NEIGHBOUR: 'it returns false'. Refute it at one input. -/
def fnOneWayWrong : ChangeSpec := { name := "fnOneWay", fn := fun _ => fun
  | [d] => { results := [.lit (.bool false)], args := [d] }
  | _ => none }
def FnOneWayWrongFalsely : Prop := fnOneWayRow.holds Try.pinned (OpenSpec.ofChange fnOneWayWrong)

/-- 'laws.FnShortestWay': WHATEVER THE INPUT: true; the input reads as it did. -/
def fnShortestWaySpec : ChangeSpec := { name := "fnShortestWay", fn := fun _ => fun
  | [d] => { results := [.lit (.bool true)], args := [d] }
  | _ => none }
def fnShortestWayRow : OpenClaim := { program := "ytpcmenhchabgiaa", sum := "7edcba470506c6ceb56b32272fa9e1b981d40705959417a7d1398e9866d87e95", func := "loop.example/graphmaps/laws.FnShortestWay", spec := "fnShortestWay", unfollowed := true, recurses := true, apart := false }
def FnShortestWaySaid : Prop := fnShortestWayRow.holds Try.pinned (OpenSpec.ofChange fnShortestWaySpec)

/-- ITS FALSE NEIGHBOUR: 'it returns false'. Refute it at one input. -/
def fnShortestWayWrong : ChangeSpec := { name := "fnShortestWay", fn := fun _ => fun
  | [d] => { results := [.lit (.bool false)], args := [d] }
  | _ => none }
def FnShortestWayWrongFalsely : Prop := fnShortestWayRow.holds Try.pinned (OpenSpec.ofChange fnShortestWayWrong)

/-- 'laws.FnExactWholeOf': WHATEVER THE INPUT: true; the input reads as it did. -/
def fnExactWholeOfSpec : ChangeSpec := { name := "fnExactWholeOf", fn := fun _ => fun
  | [d] => { results := [.lit (.bool true)], args := [d] }
  | _ => none }
def fnExactWholeOfRow : OpenClaim := { program := "ytpcmenhchabgiaa", sum := "7edcba470506c6ceb56b32272fa9e1b981d40705959417a7d1398e9866d87e95", func := "loop.example/graphmaps/laws.FnExactWholeOf", spec := "fnExactWholeOf", unfollowed := true, recurses := true, apart := false }
def FnExactWholeOfSaid : Prop := fnExactWholeOfRow.holds Try.pinned (OpenSpec.ofChange fnExactWholeOfSpec)

/-- ITS FALSE NEIGHBOUR: 'it returns false'. Refute it at one input. -/
def fnExactWholeOfWrong : ChangeSpec := { name := "fnExactWholeOf", fn := fun _ => fun
  | [d] => { results := [.lit (.bool false)], args := [d] }
  | _ => none }
def FnExactWholeOfWrongFalsely : Prop := fnExactWholeOfRow.holds Try.pinned (OpenSpec.ofChange fnExactWholeOfWrong)

/-- 'laws.FnExactColoursOk': WHATEVER THE INPUT: true; the input reads as it did. -/
def fnExactColoursOkSpec : ChangeSpec := { name := "fnExactColoursOk", fn := fun _ => fun
  | [d1, d2, d3] => { results := [.lit (.bool true)], args := [d1, d2, d3] }
  | _ => none }
def fnExactColoursOkRow : OpenClaim := { program := "ytpcmenhchabgiaa", sum := "7edcba470506c6ceb56b32272fa9e1b981d40705959417a7d1398e9866d87e95", func := "loop.example/graphmaps/laws.FnExactColoursOk", spec := "fnExactColoursOk", unfollowed := true, recurses := true, apart := false }
def FnExactColoursOkSaid : Prop := fnExactColoursOkRow.holds Try.pinned (OpenSpec.ofChange fnExactColoursOkSpec)

/-- ITS FALSE NEIGHBOUR: 'it returns false'. Refute it at one input. -/
def fnExactColoursOkWrong : ChangeSpec := { name := "fnExactColoursOk", fn := fun _ => fun
  | [d1, d2, d3] => { results := [.lit (.bool false)], args := [d1, d2, d3] }
  | _ => none }
def FnExactColoursOkWrongFalsely : Prop := fnExactColoursOkRow.holds Try.pinned (OpenSpec.ofChange fnExactColoursOkWrong)

/-- 'laws.FnExactCountColours': WHATEVER THE INPUT: true; the input reads as it did. -/
def fnExactCountColoursSpec : ChangeSpec := { name := "fnExactCountColours", fn := fun _ => fun
  | [d1, d2] => { results := [.lit (.bool true)], args := [d1, d2] }
  | _ => none }
def fnExactCountColoursRow : OpenClaim := { program := "ytpcmenhchabgiaa", sum := "7edcba470506c6ceb56b32272fa9e1b981d40705959417a7d1398e9866d87e95", func := "loop.example/graphmaps/laws.FnExactCountColours", spec := "fnExactCountColours", unfollowed := true, recurses := true, apart := false }
def FnExactCountColoursSaid : Prop := fnExactCountColoursRow.holds Try.pinned (OpenSpec.ofChange fnExactCountColoursSpec)

/-- ITS FALSE NEIGHBOUR: 'it returns false'. Refute it at one input. -/
def fnExactCountColoursWrong : ChangeSpec := { name := "fnExactCountColours", fn := fun _ => fun
  | [d1, d2] => { results := [.lit (.bool false)], args := [d1, d2] }
  | _ => none }
def FnExactCountColoursWrongFalsely : Prop := fnExactCountColoursRow.holds Try.pinned (OpenSpec.ofChange fnExactCountColoursWrong)

/-- 'laws.FnExactFewestOf': WHATEVER THE INPUT: true; the input reads as it did. -/
def fnExactFewestOfSpec : ChangeSpec := { name := "fnExactFewestOf", fn := fun _ => fun
  | [d] => { results := [.lit (.bool true)], args := [d] }
  | _ => none }
def fnExactFewestOfRow : OpenClaim := { program := "ytpcmenhchabgiaa", sum := "7edcba470506c6ceb56b32272fa9e1b981d40705959417a7d1398e9866d87e95", func := "loop.example/graphmaps/laws.FnExactFewestOf", spec := "fnExactFewestOf", unfollowed := true, recurses := true, apart := false }
def FnExactFewestOfSaid : Prop := fnExactFewestOfRow.holds Try.pinned (OpenSpec.ofChange fnExactFewestOfSpec)

/-- ITS FALSE NEIGHBOUR: 'it returns false'. Refute it at one input. -/
def fnExactFewestOfWrong : ChangeSpec := { name := "fnExactFewestOf", fn := fun _ => fun
  | [d] => { results := [.lit (.bool false)], args := [d] }
  | _ => none }
def FnExactFewestOfWrongFalsely : Prop := fnExactFewestOfRow.holds Try.pinned (OpenSpec.ofChange fnExactFewestOfWrong)

/-- 'laws.FnExactBothWays': WHATEVER THE INPUT: true; the input reads as it did. -/
def fnExactBothWaysSpec : ChangeSpec := { name := "fnExactBothWays", fn := fun _ => fun
  | [d] => { results := [.lit (.bool true)], args := [d] }
  | _ => none }
def fnExactBothWaysRow : OpenClaim := { program := "ytpcmenhchabgiaa", sum := "7edcba470506c6ceb56b32272fa9e1b981d40705959417a7d1398e9866d87e95", func := "loop.example/graphmaps/laws.FnExactBothWays", spec := "fnExactBothWays", unfollowed := true, recurses := true, apart := false }
def FnExactBothWaysSaid : Prop := fnExactBothWaysRow.holds Try.pinned (OpenSpec.ofChange fnExactBothWaysSpec)

/-- ITS FALSE NEIGHBOUR: 'it returns false'. Refute it at one input. -/
def fnExactBothWaysWrong : ChangeSpec := { name := "fnExactBothWays", fn := fun _ => fun
  | [d] => { results := [.lit (.bool false)], args := [d] }
  | _ => none }
def FnExactBothWaysWrongFalsely : Prop := fnExactBothWaysRow.holds Try.pinned (OpenSpec.ofChange fnExactBothWaysWrong)

/-- 'laws.FnExactOneWay': WHATEVER THE INPUT: true; the input reads as it did. -/
def fnExactOneWaySpec : ChangeSpec := { name := "fnExactOneWay", fn := fun _ => fun
  | [d1, d2] => { results := [.lit (.bool true)], args := [d1, d2] }
  | _ => none }
def fnExactOneWayRow : OpenClaim := { program := "ytpcmenhchabgiaa", sum := "7edcba470506c6ceb56b32272fa9e1b981d40705959417a7d1398e9866d87e95", func := "loop.example/graphmaps/laws.FnExactOneWay", spec := "fnExactOneWay", unfollowed := true, recurses := true, apart := false }
def FnExactOneWaySaid : Prop := fnExactOneWayRow.holds Try.pinned (OpenSpec.ofChange fnExactOneWaySpec)

/-- ITS FALSE NEIGHBOUR: 'it returns false'. Refute it at one input. -/
def fnExactOneWayWrong : ChangeSpec := { name := "fnExactOneWay", fn := fun _ => fun
  | [d1, d2] => { results := [.lit (.bool false)], args := [d1, d2] }
  | _ => none }
def FnExactOneWayWrongFalsely : Prop := fnExactOneWayRow.holds Try.pinned (OpenSpec.ofChange fnExactOneWayWrong)

/-- 'laws.FnExactShortestWay': WHATEVER THE INPUT: true; the input reads as it did. -/
def fnExactShortestWaySpec : ChangeSpec := { name := "fnExactShortestWay", fn := fun _ => fun
  | [d] => { results := [.lit (.bool true)], args := [d] }
  | _ => none }
def fnExactShortestWayRow : OpenClaim := { program := "ytpcmenhchabgiaa", sum := "7edcba470506c6ceb56b32272fa9e1b981d40705959417a7d1398e9866d87e95", func := "loop.example/graphmaps/laws.FnExactShortestWay", spec := "fnExactShortestWay", unfollowed := true, recurses := true, apart := false }
def FnExactShortestWaySaid : Prop := fnExactShortestWayRow.holds Try.pinned (OpenSpec.ofChange fnExactShortestWaySpec)

/-- ITS FALSE NEIGHBOUR: 'it returns false'. Refute it at one input. -/
def fnExactShortestWayWrong : ChangeSpec := { name := "fnExactShortestWay", fn := fun _ => fun
  | [d] => { results := [.lit (.bool false)], args := [d] }
  | _ => none }
def FnExactShortestWayWrongFalsely : Prop := fnExactShortestWayRow.holds Try.pinned (OpenSpec.ofChange fnExactShortestWayWrong)

/- THE SECOND FORM. 'bulk': how many values and letters a reading holds, each counted each time it is reached (what is shared counts as often as it is met; a slice's spare places count too). A statement '..UptoSaid' is the law's where the arguments, and the package variables that the reading takes, are together of bulk at most 1048576: NARROWER than '..Said'. Prove '..Said' where nothing that the law and all that it calls make is longer than what came in: it says more and counts as full. Else prove '..UptoSaid'. A law counts once. -/
mutual
def uptoBulk {H : Type} : DataW H → Nat
  | .lit (.string bytes) => bytes.length + 1
  | .lit _ => 1
  | .nil => 1
  | .ptr d => uptoBulk d + 1
  | .slice elems spare => uptoBulkAll elems + uptoBulkAll spare + 1
  | .agg parts => uptoBulkAll parts + 1
  | .iface _ d => uptoBulk d + 1
  | .map entries => uptoBulkEntries entries + 1
  | .held _ => 1
def uptoBulkAll {H : Type} : List (DataW H) → Nat
  | [] => 0
  | d :: r => uptoBulk d + uptoBulkAll r
def uptoBulkEntries {H : Type} : List (Lit × DataW H) → Nat
  | [] => 0
  | x :: r => uptoBulkEntry x + uptoBulkEntries r
def uptoBulkEntry {H : Type} : Lit × DataW H → Nat
  | (.string bytes, d) => bytes.length + uptoBulk d + 1
  | (_, d) => uptoBulk d + 1
 end
def uptoSmall : (H : Type) → List (DataW H) → Bool := fun _ ds => decide (uptoBulkAll ds ≤ 1048576)
def OpenSpec.upto (s : _root_.Go.ChangeSpec) : _root_.Go.OpenSpec := { _root_.Go.OpenSpec.ofChange s with cond := some uptoSmall }

/-- 'laws.FnWholeOf', WHERE WHAT IT READS IS OF BULK AT MOST 1048576: true; the input reads as it did. -/
def fnWholeOfUptoRow : OpenClaim := { program := "ytpcmenhchabgiaa", sum := "7edcba470506c6ceb56b32272fa9e1b981d40705959417a7d1398e9866d87e95", func := "loop.example/graphmaps/laws.FnWholeOf", spec := "fnWholeOf", unfollowed := true, recurses := true, apart := false, narrowed := true }
def FnWholeOfUptoSaid : Prop := fnWholeOfUptoRow.holds Try.pinned (OpenSpec.upto fnWholeOfSpec)

/-- 'laws.FnColoursOk', WHERE WHAT IT READS IS OF BULK AT MOST 1048576: true; the input reads as it did. -/
def fnColoursOkUptoRow : OpenClaim := { program := "ytpcmenhchabgiaa", sum := "7edcba470506c6ceb56b32272fa9e1b981d40705959417a7d1398e9866d87e95", func := "loop.example/graphmaps/laws.FnColoursOk", spec := "fnColoursOk", unfollowed := true, recurses := true, apart := false, narrowed := true }
def FnColoursOkUptoSaid : Prop := fnColoursOkUptoRow.holds Try.pinned (OpenSpec.upto fnColoursOkSpec)

/-- 'laws.FnCountColours', WHERE WHAT IT READS IS OF BULK AT MOST 1048576: true; the input reads as it did. -/
def fnCountColoursUptoRow : OpenClaim := { program := "ytpcmenhchabgiaa", sum := "7edcba470506c6ceb56b32272fa9e1b981d40705959417a7d1398e9866d87e95", func := "loop.example/graphmaps/laws.FnCountColours", spec := "fnCountColours", unfollowed := true, recurses := true, apart := false, narrowed := true }
def FnCountColoursUptoSaid : Prop := fnCountColoursUptoRow.holds Try.pinned (OpenSpec.upto fnCountColoursSpec)

/-- 'laws.FnFewestOf', WHERE WHAT IT READS IS OF BULK AT MOST 1048576: true; the input reads as it did. -/
def fnFewestOfUptoRow : OpenClaim := { program := "ytpcmenhchabgiaa", sum := "7edcba470506c6ceb56b32272fa9e1b981d40705959417a7d1398e9866d87e95", func := "loop.example/graphmaps/laws.FnFewestOf", spec := "fnFewestOf", unfollowed := true, recurses := true, apart := false, narrowed := true }
def FnFewestOfUptoSaid : Prop := fnFewestOfUptoRow.holds Try.pinned (OpenSpec.upto fnFewestOfSpec)

/-- 'laws.FnBothWays', WHERE WHAT IT READS IS OF BULK AT MOST 1048576: true; the input reads as it did. -/
def fnBothWaysUptoRow : OpenClaim := { program := "ytpcmenhchabgiaa", sum := "7edcba470506c6ceb56b32272fa9e1b981d40705959417a7d1398e9866d87e95", func := "loop.example/graphmaps/laws.FnBothWays", spec := "fnBothWays", unfollowed := true, recurses := true, apart := false, narrowed := true }
def FnBothWaysUptoSaid : Prop := fnBothWaysUptoRow.holds Try.pinned (OpenSpec.upto fnBothWaysSpec)

/-- 'laws.FnOneWay', WHERE WHAT IT READS IS OF BULK AT MOST 1048576: true; the input reads as it did. -/
def fnOneWayUptoRow : OpenClaim := { program := "ytpcmenhchabgiaa", sum := "7edcba470506c6ceb56b32272fa9e1b981d40705959417a7d1398e9866d87e95", func := "loop.example/graphmaps/laws.FnOneWay", spec := "fnOneWay", unfollowed := true, recurses := true, apart := false, narrowed := true }
def FnOneWayUptoSaid : Prop := fnOneWayUptoRow.holds Try.pinned (OpenSpec.upto fnOneWaySpec)

/-- 'laws.FnShortestWay', WHERE WHAT IT READS IS OF BULK AT MOST 1048576: true; the input reads as it did. -/
def fnShortestWayUptoRow : OpenClaim := { program := "ytpcmenhchabgiaa", sum := "7edcba470506c6ceb56b32272fa9e1b981d40705959417a7d1398e9866d87e95", func := "loop.example/graphmaps/laws.FnShortestWay", spec := "fnShortestWay", unfollowed := true, recurses := true, apart := false, narrowed := true }
def FnShortestWayUptoSaid : Prop := fnShortestWayUptoRow.holds Try.pinned (OpenSpec.upto fnShortestWaySpec)

/-- 'laws.FnExactWholeOf', WHERE WHAT IT READS IS OF BULK AT MOST 1048576: true; the input reads as it did. -/
def fnExactWholeOfUptoRow : OpenClaim := { program := "ytpcmenhchabgiaa", sum := "7edcba470506c6ceb56b32272fa9e1b981d40705959417a7d1398e9866d87e95", func := "loop.example/graphmaps/laws.FnExactWholeOf", spec := "fnExactWholeOf", unfollowed := true, recurses := true, apart := false, narrowed := true }
def FnExactWholeOfUptoSaid : Prop := fnExactWholeOfUptoRow.holds Try.pinned (OpenSpec.upto fnExactWholeOfSpec)

/-- 'laws.FnExactColoursOk', WHERE WHAT IT READS IS OF BULK AT MOST 1048576: true; the input reads as it did. -/
def fnExactColoursOkUptoRow : OpenClaim := { program := "ytpcmenhchabgiaa", sum := "7edcba470506c6ceb56b32272fa9e1b981d40705959417a7d1398e9866d87e95", func := "loop.example/graphmaps/laws.FnExactColoursOk", spec := "fnExactColoursOk", unfollowed := true, recurses := true, apart := false, narrowed := true }
def FnExactColoursOkUptoSaid : Prop := fnExactColoursOkUptoRow.holds Try.pinned (OpenSpec.upto fnExactColoursOkSpec)

/-- 'laws.FnExactCountColours', WHERE WHAT IT READS IS OF BULK AT MOST 1048576: true; the input reads as it did. -/
def fnExactCountColoursUptoRow : OpenClaim := { program := "ytpcmenhchabgiaa", sum := "7edcba470506c6ceb56b32272fa9e1b981d40705959417a7d1398e9866d87e95", func := "loop.example/graphmaps/laws.FnExactCountColours", spec := "fnExactCountColours", unfollowed := true, recurses := true, apart := false, narrowed := true }
def FnExactCountColoursUptoSaid : Prop := fnExactCountColoursUptoRow.holds Try.pinned (OpenSpec.upto fnExactCountColoursSpec)

/-- 'laws.FnExactFewestOf', WHERE WHAT IT READS IS OF BULK AT MOST 1048576: true; the input reads as it did. -/
def fnExactFewestOfUptoRow : OpenClaim := { program := "ytpcmenhchabgiaa", sum := "7edcba470506c6ceb56b32272fa9e1b981d40705959417a7d1398e9866d87e95", func := "loop.example/graphmaps/laws.FnExactFewestOf", spec := "fnExactFewestOf", unfollowed := true, recurses := true, apart := false, narrowed := true }
def FnExactFewestOfUptoSaid : Prop := fnExactFewestOfUptoRow.holds Try.pinned (OpenSpec.upto fnExactFewestOfSpec)

/-- 'laws.FnExactBothWays', WHERE WHAT IT READS IS OF BULK AT MOST 1048576: true; the input reads as it did. -/
def fnExactBothWaysUptoRow : OpenClaim := { program := "ytpcmenhchabgiaa", sum := "7edcba470506c6ceb56b32272fa9e1b981d40705959417a7d1398e9866d87e95", func := "loop.example/graphmaps/laws.FnExactBothWays", spec := "fnExactBothWays", unfollowed := true, recurses := true, apart := false, narrowed := true }
def FnExactBothWaysUptoSaid : Prop := fnExactBothWaysUptoRow.holds Try.pinned (OpenSpec.upto fnExactBothWaysSpec)

/-- 'laws.FnExactOneWay', WHERE WHAT IT READS IS OF BULK AT MOST 1048576: true; the input reads as it did. -/
def fnExactOneWayUptoRow : OpenClaim := { program := "ytpcmenhchabgiaa", sum := "7edcba470506c6ceb56b32272fa9e1b981d40705959417a7d1398e9866d87e95", func := "loop.example/graphmaps/laws.FnExactOneWay", spec := "fnExactOneWay", unfollowed := true, recurses := true, apart := false, narrowed := true }
def FnExactOneWayUptoSaid : Prop := fnExactOneWayUptoRow.holds Try.pinned (OpenSpec.upto fnExactOneWaySpec)

/-- 'laws.FnExactShortestWay', WHERE WHAT IT READS IS OF BULK AT MOST 1048576: true; the input reads as it did. -/
def fnExactShortestWayUptoRow : OpenClaim := { program := "ytpcmenhchabgiaa", sum := "7edcba470506c6ceb56b32272fa9e1b981d40705959417a7d1398e9866d87e95", func := "loop.example/graphmaps/laws.FnExactShortestWay", spec := "fnExactShortestWay", unfollowed := true, recurses := true, apart := false, narrowed := true }
def FnExactShortestWayUptoSaid : Prop := fnExactShortestWayUptoRow.holds Try.pinned (OpenSpec.upto fnExactShortestWaySpec)

end Rows
end Go.Proofs.Ytpcmenhchabgiaa
