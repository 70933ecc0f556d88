/-
  No cell of these rows narrows 'for every input' (looked for: loops, veiled, ifaces, maps, wideKeys, modest, calm, conditions, laid).
  DERIVED. THE GIVEN ROWS OF THIS SEAT. 7 by the template 'for every input the law returns true; each argument reads behind the call as it read before'; 0 by the template 'total and deterministic' (their statements: YtmohmecdhabapaaTotals.lean).
  GIVEN WITH THE SEED: the statements are not yours to turn. If you find one false, say at which input.
  Laid BY PROGRAM, IN A SANDBOX (cutbox-rows.mjs): the forced cells as the released guide's own fill.sh prints them over the translation abc161cfef593380… (all of the seat's roots in one cut). By AI agents, Wed Nov 11 2026. No macro, syntax, notation, axiom, sorry.
-/
import Derived.Test.YtmohmecdhabapaaChecked
import GoSem.Claim
import GoSem.ClaimJoined
import GoSem.ClaimMapViews
import Derived.JoinedTies
import Derived.KernelRfl
namespace Go.Proofs.Ytmohmecdhabapaa
/- THE CELL 'sum', in the pinned program and in every row, IS THE sha256 OF THE DUMP (.gsa) THAT YtmohmecdhabapaaProg.lean LOADS. Nothing in Lean hashes anything: it is a label: what it is worth is what the hold of that sum in a sandbox is worth. -/
noncomputable def Try.pinned : Pinned := { name := "ytmohmecdhabapaa", sum := "abc161cfef593380036c999842e0070786e6d1588310bdeaf95238c8bac46bc4", checked := Try.checked }
namespace Rows
def none {H : Type} : Left H := { results := [], args := [] }

/-- 'laws.FnExactFewOk': WHATEVER THE INPUT: true; the input reads as it did. -/
def fnExactFewOkSpec : ChangeSpec := { name := "fnExactFewOk", fn := fun _ => fun
  | [d1, d2] => { results := [.lit (.bool true)], args := [d1, d2] }
  | _ => none }
def fnExactFewOkRow : OpenClaim := { program := "ytmohmecdhabapaa", sum := "abc161cfef593380036c999842e0070786e6d1588310bdeaf95238c8bac46bc4", func := "loop.example/graphmaps/laws.FnExactFewOk", spec := "fnExactFewOk", unfollowed := true, recurses := true, apart := false }
def FnExactFewOkSaid : Prop := fnExactFewOkRow.holds Try.pinned (OpenSpec.ofChange fnExactFewOkSpec)

/-- ITS FALSE NEIGHBOUR: 'it returns false'. Refute it at one input. -/
def fnExactFewOkWrong : ChangeSpec := { name := "fnExactFewOk", fn := fun _ => fun
  | [d1, d2] => { results := [.lit (.bool false)], args := [d1, d2] }
  | _ => none }
def FnExactFewOkWrongFalsely : Prop := fnExactFewOkRow.holds Try.pinned (OpenSpec.ofChange fnExactFewOkWrong)

/-- 'laws.FnExactMapOk': WHATEVER THE INPUT: true; the input reads as it did. -/
def fnExactMapOkSpec : ChangeSpec := { name := "fnExactMapOk", fn := fun _ => fun
  | [d1, d2, d3] => { results := [.lit (.bool true)], args := [d1, d2, d3] }
  | _ => none }
def fnExactMapOkRow : OpenClaim := { program := "ytmohmecdhabapaa", sum := "abc161cfef593380036c999842e0070786e6d1588310bdeaf95238c8bac46bc4", func := "loop.example/graphmaps/laws.FnExactMapOk", spec := "fnExactMapOk", unfollowed := true, recurses := true, apart := false }
def FnExactMapOkSaid : Prop := fnExactMapOkRow.holds Try.pinned (OpenSpec.ofChange fnExactMapOkSpec)

/-- ITS FALSE NEIGHBOUR: 'it returns false'. Refute it at one input. -/
def fnExactMapOkWrong : ChangeSpec := { name := "fnExactMapOk", fn := fun _ => fun
  | [d1, d2, d3] => { results := [.lit (.bool false)], args := [d1, d2, d3] }
  | _ => none }
def FnExactMapOkWrongFalsely : Prop := fnExactMapOkRow.holds Try.pinned (OpenSpec.ofChange fnExactMapOkWrong)

/-- 'laws.FnExactCountOf': WHATEVER THE INPUT: true; the input reads as it did. -/
def fnExactCountOfSpec : ChangeSpec := { name := "fnExactCountOf", fn := fun _ => fun
  | [d1, d2] => { results := [.lit (.bool true)], args := [d1, d2] }
  | _ => none }
def fnExactCountOfRow : OpenClaim := { program := "ytmohmecdhabapaa", sum := "abc161cfef593380036c999842e0070786e6d1588310bdeaf95238c8bac46bc4", func := "loop.example/graphmaps/laws.FnExactCountOf", spec := "fnExactCountOf", unfollowed := true, recurses := true, apart := false }
def FnExactCountOfSaid : Prop := fnExactCountOfRow.holds Try.pinned (OpenSpec.ofChange fnExactCountOfSpec)

/-- ITS FALSE NEIGHBOUR: 'it returns false'. Refute it at one input. -/
def fnExactCountOfWrong : ChangeSpec := { name := "fnExactCountOf", fn := fun _ => fun
  | [d1, d2] => { results := [.lit (.bool false)], args := [d1, d2] }
  | _ => none }
def FnExactCountOfWrongFalsely : Prop := fnExactCountOfRow.holds Try.pinned (OpenSpec.ofChange fnExactCountOfWrong)

/-- 'laws.FnExactBelowOk': WHATEVER THE INPUT: true; the input reads as it did. -/
def fnExactBelowOkSpec : ChangeSpec := { name := "fnExactBelowOk", fn := fun _ => fun
  | [d1, d2] => { results := [.lit (.bool true)], args := [d1, d2] }
  | _ => none }
def fnExactBelowOkRow : OpenClaim := { program := "ytmohmecdhabapaa", sum := "abc161cfef593380036c999842e0070786e6d1588310bdeaf95238c8bac46bc4", func := "loop.example/graphmaps/laws.FnExactBelowOk", spec := "fnExactBelowOk", unfollowed := true, recurses := true, apart := false }
def FnExactBelowOkSaid : Prop := fnExactBelowOkRow.holds Try.pinned (OpenSpec.ofChange fnExactBelowOkSpec)

/-- ITS FALSE NEIGHBOUR: 'it returns false'. Refute it at one input. -/
def fnExactBelowOkWrong : ChangeSpec := { name := "fnExactBelowOk", fn := fun _ => fun
  | [d1, d2] => { results := [.lit (.bool false)], args := [d1, d2] }
  | _ => none }
def FnExactBelowOkWrongFalsely : Prop := fnExactBelowOkRow.holds Try.pinned (OpenSpec.ofChange fnExactBelowOkWrong)

/-- 'laws.FnExactSameLevel': WHATEVER THE INPUT: true; the input reads as it did. -/
def fnExactSameLevelSpec : ChangeSpec := { name := "fnExactSameLevel", fn := fun _ => fun
  | [d1, d2] => { results := [.lit (.bool true)], args := [d1, d2] }
  | _ => none }
def fnExactSameLevelRow : OpenClaim := { program := "ytmohmecdhabapaa", sum := "abc161cfef593380036c999842e0070786e6d1588310bdeaf95238c8bac46bc4", func := "loop.example/graphmaps/laws.FnExactSameLevel", spec := "fnExactSameLevel", unfollowed := true, recurses := true, apart := false }
def FnExactSameLevelSaid : Prop := fnExactSameLevelRow.holds Try.pinned (OpenSpec.ofChange fnExactSameLevelSpec)

/-- ITS FALSE NEIGHBOUR: 'it returns false'. Refute it at one input. -/
def fnExactSameLevelWrong : ChangeSpec := { name := "fnExactSameLevel", fn := fun _ => fun
  | [d1, d2] => { results := [.lit (.bool false)], args := [d1, d2] }
  | _ => none }
def FnExactSameLevelWrongFalsely : Prop := fnExactSameLevelRow.holds Try.pinned (OpenSpec.ofChange fnExactSameLevelWrong)

/-- 'laws.FnExactMapsOf': WHATEVER THE INPUT: true; the input reads as it did. -/
def fnExactMapsOfSpec : ChangeSpec := { name := "fnExactMapsOf", fn := fun _ => fun
  | [d1, d2] => { results := [.lit (.bool true)], args := [d1, d2] }
  | _ => none }
def fnExactMapsOfRow : OpenClaim := { program := "ytmohmecdhabapaa", sum := "abc161cfef593380036c999842e0070786e6d1588310bdeaf95238c8bac46bc4", func := "loop.example/graphmaps/laws.FnExactMapsOf", spec := "fnExactMapsOf", unfollowed := true, recurses := true, apart := false }
def FnExactMapsOfSaid : Prop := fnExactMapsOfRow.holds Try.pinned (OpenSpec.ofChange fnExactMapsOfSpec)

/-- ITS FALSE NEIGHBOUR: 'it returns false'. Refute it at one input. -/
def fnExactMapsOfWrong : ChangeSpec := { name := "fnExactMapsOf", fn := fun _ => fun
  | [d1, d2] => { results := [.lit (.bool false)], args := [d1, d2] }
  | _ => none }
def FnExactMapsOfWrongFalsely : Prop := fnExactMapsOfRow.holds Try.pinned (OpenSpec.ofChange fnExactMapsOfWrong)

/-- 'laws.FnExactBehindOf': WHATEVER THE INPUT: true; the input reads as it did. -/
def fnExactBehindOfSpec : ChangeSpec := { name := "fnExactBehindOf", fn := fun _ => fun
  | [d1, d2, d3, d4, d5] => { results := [.lit (.bool true)], args := [d1, d2, d3, d4, d5] }
  | _ => none }
def fnExactBehindOfRow : OpenClaim := { program := "ytmohmecdhabapaa", sum := "abc161cfef593380036c999842e0070786e6d1588310bdeaf95238c8bac46bc4", func := "loop.example/graphmaps/laws.FnExactBehindOf", spec := "fnExactBehindOf", unfollowed := true, recurses := true, apart := false }
def FnExactBehindOfSaid : Prop := fnExactBehindOfRow.holds Try.pinned (OpenSpec.ofChange fnExactBehindOfSpec)

/-- ITS FALSE NEIGHBOUR: 'it returns false'. Refute it at one input. -/
def fnExactBehindOfWrong : ChangeSpec := { name := "fnExactBehindOf", fn := fun _ => fun
  | [d1, d2, d3, d4, d5] => { results := [.lit (.bool false)], args := [d1, d2, d3, d4, d5] }
  | _ => none }
def FnExactBehindOfWrongFalsely : Prop := fnExactBehindOfRow.holds Try.pinned (OpenSpec.ofChange fnExactBehindOfWrong)

/- THE SECOND FORM. 'bulk': how many values and letters a reading holds, each counted each time it is reached (what is shared counts as often as it is met; a slice's spare places count too). A statement '..UptoSaid' is the law's where the arguments, and the package variables that the reading takes, are together of bulk at most 1048576: NARROWER than '..Said'. Prove '..Said' where nothing that the law and all that it calls make is longer than what came in: it says more and counts as full. Else prove '..UptoSaid'. A law counts once. -/
mutual
def uptoBulk {H : Type} : DataW H → Nat
  | .lit (.string bytes) => bytes.length + 1
  | .lit _ => 1
  | .nil => 1
  | .ptr d => uptoBulk d + 1
  | .slice elems spare => uptoBulkAll elems + uptoBulkAll spare + 1
  | .agg parts => uptoBulkAll parts + 1
  | .iface _ d => uptoBulk d + 1
  | .map entries => uptoBulkEntries entries + 1
  | .held _ => 1
def uptoBulkAll {H : Type} : List (DataW H) → Nat
  | [] => 0
  | d :: r => uptoBulk d + uptoBulkAll r
def uptoBulkEntries {H : Type} : List (Lit × DataW H) → Nat
  | [] => 0
  | x :: r => uptoBulkEntry x + uptoBulkEntries r
def uptoBulkEntry {H : Type} : Lit × DataW H → Nat
  | (.string bytes, d) => bytes.length + uptoBulk d + 1
  | (_, d) => uptoBulk d + 1
 end
def uptoSmall : (H : Type) → List (DataW H) → Bool := fun _ ds => decide (uptoBulkAll ds ≤ 1048576)
def OpenSpec.upto (s : _root_.Go.ChangeSpec) : _root_.Go.OpenSpec := { _root_.Go.OpenSpec.ofChange s with cond := some uptoSmall }

/-- 'laws.FnExactFewOk', WHERE WHAT IT READS IS OF BULK AT MOST 1048576: true; the input reads as it did. -/
def fnExactFewOkUptoRow : OpenClaim := { program := "ytmohmecdhabapaa", sum := "abc161cfef593380036c999842e0070786e6d1588310bdeaf95238c8bac46bc4", func := "loop.example/graphmaps/laws.FnExactFewOk", spec := "fnExactFewOk", unfollowed := true, recurses := true, apart := false, narrowed := true }
def FnExactFewOkUptoSaid : Prop := fnExactFewOkUptoRow.holds Try.pinned (OpenSpec.upto fnExactFewOkSpec)

/-- 'laws.FnExactMapOk', WHERE WHAT IT READS IS OF BULK AT MOST 1048576: true; the input reads as it did. -/
def fnExactMapOkUptoRow : OpenClaim := { program := "ytmohmecdhabapaa", sum := "abc161cfef593380036c999842e0070786e6d1588310bdeaf95238c8bac46bc4", func := "loop.example/graphmaps/laws.FnExactMapOk", spec := "fnExactMapOk", unfollowed := true, recurses := true, apart := false, narrowed := true }
def FnExactMapOkUptoSaid : Prop := fnExactMapOkUptoRow.holds Try.pinned (OpenSpec.upto fnExactMapOkSpec)

/-- 'laws.FnExactCountOf', WHERE WHAT IT READS IS OF BULK AT MOST 1048576: true; the input reads as it did. -/
def fnExactCountOfUptoRow : OpenClaim := { program := "ytmohmecdhabapaa", sum := "abc161cfef593380036c999842e0070786e6d1588310bdeaf95238c8bac46bc4", func := "loop.example/graphmaps/laws.FnExactCountOf", spec := "fnExactCountOf", unfollowed := true, recurses := true, apart := false, narrowed := true }
def FnExactCountOfUptoSaid : Prop := fnExactCountOfUptoRow.holds Try.pinned (OpenSpec.upto fnExactCountOfSpec)

/-- 'laws.FnExactBelowOk', WHERE WHAT IT READS IS OF BULK AT MOST 1048576: true; the input reads as it did. -/
def fnExactBelowOkUptoRow : OpenClaim := { program := "ytmohmecdhabapaa", sum := "abc161cfef593380036c999842e0070786e6d1588310bdeaf95238c8bac46bc4", func := "loop.example/graphmaps/laws.FnExactBelowOk", spec := "fnExactBelowOk", unfollowed := true, recurses := true, apart := false, narrowed := true }
def FnExactBelowOkUptoSaid : Prop := fnExactBelowOkUptoRow.holds Try.pinned (OpenSpec.upto fnExactBelowOkSpec)

/-- 'laws.FnExactSameLevel', WHERE WHAT IT READS IS OF BULK AT MOST 1048576: true; the input reads as it did. -/
def fnExactSameLevelUptoRow : OpenClaim := { program := "ytmohmecdhabapaa", sum := "abc161cfef593380036c999842e0070786e6d1588310bdeaf95238c8bac46bc4", func := "loop.example/graphmaps/laws.FnExactSameLevel", spec := "fnExactSameLevel", unfollowed := true, recurses := true, apart := false, narrowed := true }
def FnExactSameLevelUptoSaid : Prop := fnExactSameLevelUptoRow.holds Try.pinned (OpenSpec.upto fnExactSameLevelSpec)

/-- 'laws.FnExactMapsOf', WHERE WHAT IT READS IS OF BULK AT MOST 1048576: true; the input reads as it did. -/
def fnExactMapsOfUptoRow : OpenClaim := { program := "ytmohmecdhabapaa", sum := "abc161cfef593380036c999842e0070786e6d1588310bdeaf95238c8bac46bc4", func := "loop.example/graphmaps/laws.FnExactMapsOf", spec := "fnExactMapsOf", unfollowed := true, recurses := true, apart := false, narrowed := true }
def FnExactMapsOfUptoSaid : Prop := fnExactMapsOfUptoRow.holds Try.pinned (OpenSpec.upto fnExactMapsOfSpec)

/-- 'laws.FnExactBehindOf', WHERE WHAT IT READS IS OF BULK AT MOST 1048576: true; the input reads as it did. -/
def fnExactBehindOfUptoRow : OpenClaim := { program := "ytmohmecdhabapaa", sum := "abc161cfef593380036c999842e0070786e6d1588310bdeaf95238c8bac46bc4", func := "loop.example/graphmaps/laws.FnExactBehindOf", spec := "fnExactBehindOf", unfollowed := true, recurses := true, apart := false, narrowed := true }
def FnExactBehindOfUptoSaid : Prop := fnExactBehindOfUptoRow.holds Try.pinned (OpenSpec.upto fnExactBehindOfSpec)

end Rows
end Go.Proofs.Ytmohmecdhabapaa
