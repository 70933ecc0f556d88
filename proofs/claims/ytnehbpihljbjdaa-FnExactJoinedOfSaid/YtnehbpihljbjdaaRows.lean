/-
  No cell of these rows narrows 'for every input' (looked for: loops, veiled, ifaces, maps, wideKeys, modest, calm, conditions, laid).
  DERIVED. THE GIVEN ROWS OF THIS SEAT. 10 by the template 'for every input the law returns true; each argument reads behind the call as it read before'; 0 by the template 'total and deterministic' (their statements: YtnehbpihljbjdaaTotals.lean).
  GIVEN WITH THE SEED: the statements are not yours to turn. If you find one false, say at which input.
  Laid BY PROGRAM, IN A SANDBOX (cutbox-rows.mjs): the forced cells as the released guide's own fill.sh prints them over the translation 0dbe142f840fb540… (all of the seat's roots in one cut). By AI agents, Wed Nov 11 2026. No macro, syntax, notation, axiom, sorry.
-/
import Derived.Test.YtnehbpihljbjdaaChecked
import GoSem.Claim
import GoSem.ClaimJoined
import GoSem.ClaimMapViews
import Derived.JoinedTies
import Derived.KernelRfl
namespace Go.Proofs.Ytnehbpihljbjdaa
/- THE CELL 'sum', in the pinned program and in every row, IS THE sha256 OF THE DUMP (.gsa) THAT YtnehbpihljbjdaaProg.lean LOADS. Nothing in Lean hashes anything: it is a label: what it is worth is what the hold of that sum in a sandbox is worth. -/
noncomputable def Try.pinned : Pinned := { name := "ytnehbpihljbjdaa", sum := "0dbe142f840fb5407fcd61b84744f62849e766432a072e47fee9a3c25702db44", checked := Try.checked }
namespace Rows
def none {H : Type} : Left H := { results := [], args := [] }

/-- 'laws.FnTimesOf': WHATEVER THE INPUT: true; the input reads as it did. -/
def fnTimesOfSpec : ChangeSpec := { name := "fnTimesOf", fn := fun _ => fun
  | [d1, d2] => { results := [.lit (.bool true)], args := [d1, d2] }
  | _ => none }
def fnTimesOfRow : OpenClaim := { program := "ytnehbpihljbjdaa", sum := "0dbe142f840fb5407fcd61b84744f62849e766432a072e47fee9a3c25702db44", func := "loop.example/graphmaps/laws.FnTimesOf", spec := "fnTimesOf", unfollowed := true, recurses := true, plainKeys := false, apart := false }
def FnTimesOfSaid : Prop := fnTimesOfRow.holds Try.pinned (OpenSpec.ofChange fnTimesOfSpec)

/-- ITS FALSE NEIGHBOUR: 'it returns false'. Refute it at one input. -/
def fnTimesOfWrong : ChangeSpec := { name := "fnTimesOf", fn := fun _ => fun
  | [d1, d2] => { results := [.lit (.bool false)], args := [d1, d2] }
  | _ => none }
def FnTimesOfWrongFalsely : Prop := fnTimesOfRow.holds Try.pinned (OpenSpec.ofChange fnTimesOfWrong)

/-- 'laws.FnSideOf': WHATEVER THE INPUT: true; the input reads as it did. -/
def fnSideOfSpec : ChangeSpec := { name := "fnSideOf", fn := fun _ => fun
  | [d] => { results := [.lit (.bool true)], args := [d] }
  | _ => none }
def fnSideOfRow : OpenClaim := { program := "ytnehbpihljbjdaa", sum := "0dbe142f840fb5407fcd61b84744f62849e766432a072e47fee9a3c25702db44", func := "loop.example/graphmaps/laws.FnSideOf", spec := "fnSideOf", unfollowed := true, recurses := true, plainKeys := false, apart := false }
def FnSideOfSaid : Prop := fnSideOfRow.holds Try.pinned (OpenSpec.ofChange fnSideOfSpec)

/-- ITS FALSE NEIGHBOUR: 'it returns false'. Refute it at one input. -/
def fnSideOfWrong : ChangeSpec := { name := "fnSideOf", fn := fun _ => fun
  | [d] => { results := [.lit (.bool false)], args := [d] }
  | _ => none }
def FnSideOfWrongFalsely : Prop := fnSideOfRow.holds Try.pinned (OpenSpec.ofChange fnSideOfWrong)

/-- 'laws.FnPairedOf': WHATEVER THE INPUT: true; the input reads as it did. -/
def fnPairedOfSpec : ChangeSpec := { name := "fnPairedOf", fn := fun _ => fun
  | [d] => { results := [.lit (.bool true)], args := [d] }
  | _ => none }
def fnPairedOfRow : OpenClaim := { program := "ytnehbpihljbjdaa", sum := "0dbe142f840fb5407fcd61b84744f62849e766432a072e47fee9a3c25702db44", func := "loop.example/graphmaps/laws.FnPairedOf", spec := "fnPairedOf", unfollowed := true, recurses := true, plainKeys := false, apart := false }
def FnPairedOfSaid : Prop := fnPairedOfRow.holds Try.pinned (OpenSpec.ofChange fnPairedOfSpec)

/-- ITS FALSE NEIGHBOUR: 'it returns false'. Refute it at one input. -/
def fnPairedOfWrong : ChangeSpec := { name := "fnPairedOf", fn := fun _ => fun
  | [d] => { results := [.lit (.bool false)], args := [d] }
  | _ => none }
def FnPairedOfWrongFalsely : Prop := fnPairedOfRow.holds Try.pinned (OpenSpec.ofChange fnPairedOfWrong)

/-- 'laws.FnJoinedOf': WHATEVER THE INPUT: true; the input reads as it did. -/
def fnJoinedOfSpec : ChangeSpec := { name := "fnJoinedOf", fn := fun _ => fun
  | [d] => { results := [.lit (.bool true)], args := [d] }
  | _ => none }
def fnJoinedOfRow : OpenClaim := { program := "ytnehbpihljbjdaa", sum := "0dbe142f840fb5407fcd61b84744f62849e766432a072e47fee9a3c25702db44", func := "loop.example/graphmaps/laws.FnJoinedOf", spec := "fnJoinedOf", unfollowed := true, recurses := true, plainKeys := false, apart := false }
def FnJoinedOfSaid : Prop := fnJoinedOfRow.holds Try.pinned (OpenSpec.ofChange fnJoinedOfSpec)

/-- ITS FALSE NEIGHBOUR: 'it returns false'. Refute it at one input. -/
def fnJoinedOfWrong : ChangeSpec := { name := "fnJoinedOf", fn := fun _ => fun
  | [d] => { results := [.lit (.bool false)], args := [d] }
  | _ => none }
def FnJoinedOfWrongFalsely : Prop := fnJoinedOfRow.holds Try.pinned (OpenSpec.ofChange fnJoinedOfWrong)

/-- 'laws.FnSquareOf': WHATEVER THE INPUT: true; the input reads as it did. -/
def fnSquareOfSpec : ChangeSpec := { name := "fnSquareOf", fn := fun _ => fun
  | [d] => { results := [.lit (.bool true)], args := [d] }
  | _ => none }
def fnSquareOfRow : OpenClaim := { program := "ytnehbpihljbjdaa", sum := "0dbe142f840fb5407fcd61b84744f62849e766432a072e47fee9a3c25702db44", func := "loop.example/graphmaps/laws.FnSquareOf", spec := "fnSquareOf", unfollowed := true, recurses := true, plainKeys := false, apart := false }
def FnSquareOfSaid : Prop := fnSquareOfRow.holds Try.pinned (OpenSpec.ofChange fnSquareOfSpec)

/-- ITS FALSE NEIGHBOUR: 'it returns false'. Refute it at one input. -/
def fnSquareOfWrong : ChangeSpec := { name := "fnSquareOf", fn := fun _ => fun
  | [d] => { results := [.lit (.bool false)], args := [d] }
  | _ => none }
def FnSquareOfWrongFalsely : Prop := fnSquareOfRow.holds Try.pinned (OpenSpec.ofChange fnSquareOfWrong)

/-- 'laws.FnExactTimesOf': WHATEVER THE INPUT: true; the input reads as it did. -/
def fnExactTimesOfSpec : ChangeSpec := { name := "fnExactTimesOf", fn := fun _ => fun
  | [d1, d2] => { results := [.lit (.bool true)], args := [d1, d2] }
  | _ => none }
def fnExactTimesOfRow : OpenClaim := { program := "ytnehbpihljbjdaa", sum := "0dbe142f840fb5407fcd61b84744f62849e766432a072e47fee9a3c25702db44", func := "loop.example/graphmaps/laws.FnExactTimesOf", spec := "fnExactTimesOf", unfollowed := true, recurses := true, plainKeys := false, apart := false }
def FnExactTimesOfSaid : Prop := fnExactTimesOfRow.holds Try.pinned (OpenSpec.ofChange fnExactTimesOfSpec)

/-- ITS FALSE NEIGHBOUR: 'it returns false'. Refute it at one input. -/
def fnExactTimesOfWrong : ChangeSpec := { name := "fnExactTimesOf", fn := fun _ => fun
  | [d1, d2] => { results := [.lit (.bool false)], args := [d1, d2] }
  | _ => none }
def FnExactTimesOfWrongFalsely : Prop := fnExactTimesOfRow.holds Try.pinned (OpenSpec.ofChange fnExactTimesOfWrong)

/-- 'laws.FnExactSideOf': WHATEVER THE INPUT: true; the input reads as it did. -/
def fnExactSideOfSpec : ChangeSpec := { name := "fnExactSideOf", fn := fun _ => fun
  | [d1, d2, d3] => { results := [.lit (.bool true)], args := [d1, d2, d3] }
  | _ => none }
def fnExactSideOfRow : OpenClaim := { program := "ytnehbpihljbjdaa", sum := "0dbe142f840fb5407fcd61b84744f62849e766432a072e47fee9a3c25702db44", func := "loop.example/graphmaps/laws.FnExactSideOf", spec := "fnExactSideOf", unfollowed := true, recurses := true, plainKeys := false, apart := false }
def FnExactSideOfSaid : Prop := fnExactSideOfRow.holds Try.pinned (OpenSpec.ofChange fnExactSideOfSpec)

/-- ITS FALSE NEIGHBOUR: 'it returns false'. Refute it at one input. -/
def fnExactSideOfWrong : ChangeSpec := { name := "fnExactSideOf", fn := fun _ => fun
  | [d1, d2, d3] => { results := [.lit (.bool false)], args := [d1, d2, d3] }
  | _ => none }
def FnExactSideOfWrongFalsely : Prop := fnExactSideOfRow.holds Try.pinned (OpenSpec.ofChange fnExactSideOfWrong)

/-- 'laws.FnExactPairedOf': WHATEVER THE INPUT: true; the input reads as it did. -/
def fnExactPairedOfSpec : ChangeSpec := { name := "fnExactPairedOf", fn := fun _ => fun
  | [d1, d2, d3, d4, d5] => { results := [.lit (.bool true)], args := [d1, d2, d3, d4, d5] }
  | _ => none }
def fnExactPairedOfRow : OpenClaim := { program := "ytnehbpihljbjdaa", sum := "0dbe142f840fb5407fcd61b84744f62849e766432a072e47fee9a3c25702db44", func := "loop.example/graphmaps/laws.FnExactPairedOf", spec := "fnExactPairedOf", unfollowed := true, recurses := true, plainKeys := false, apart := false }
def FnExactPairedOfSaid : Prop := fnExactPairedOfRow.holds Try.pinned (OpenSpec.ofChange fnExactPairedOfSpec)

/-- ITS FALSE NEIGHBOUR: 'it returns false'. Refute it at one input. -/
def fnExactPairedOfWrong : ChangeSpec := { name := "fnExactPairedOf", fn := fun _ => fun
  | [d1, d2, d3, d4, d5] => { results := [.lit (.bool false)], args := [d1, d2, d3, d4, d5] }
  | _ => none }
def FnExactPairedOfWrongFalsely : Prop := fnExactPairedOfRow.holds Try.pinned (OpenSpec.ofChange fnExactPairedOfWrong)

/-- 'laws.FnExactJoinedOf': WHATEVER THE INPUT: true; the input reads as it did. -/
def fnExactJoinedOfSpec : ChangeSpec := { name := "fnExactJoinedOf", fn := fun _ => fun
  | [d1, d2, d3, d4, d5] => { results := [.lit (.bool true)], args := [d1, d2, d3, d4, d5] }
  | _ => none }
def fnExactJoinedOfRow : OpenClaim := { program := "ytnehbpihljbjdaa", sum := "0dbe142f840fb5407fcd61b84744f62849e766432a072e47fee9a3c25702db44", func := "loop.example/graphmaps/laws.FnExactJoinedOf", spec := "fnExactJoinedOf", unfollowed := true, recurses := true, plainKeys := false, apart := false }
def FnExactJoinedOfSaid : Prop := fnExactJoinedOfRow.holds Try.pinned (OpenSpec.ofChange fnExactJoinedOfSpec)

/-- ITS FALSE NEIGHBOUR: 'it returns false'. Refute it at one input. -/
def fnExactJoinedOfWrong : ChangeSpec := { name := "fnExactJoinedOf", fn := fun _ => fun
  | [d1, d2, d3, d4, d5] => { results := [.lit (.bool false)], args := [d1, d2, d3, d4, d5] }
  | _ => none }
def FnExactJoinedOfWrongFalsely : Prop := fnExactJoinedOfRow.holds Try.pinned (OpenSpec.ofChange fnExactJoinedOfWrong)

/-- 'laws.FnExactSquareOf': WHATEVER THE INPUT: true; the input reads as it did. -/
def fnExactSquareOfSpec : ChangeSpec := { name := "fnExactSquareOf", fn := fun _ => fun
  | [d] => { results := [.lit (.bool true)], args := [d] }
  | _ => none }
def fnExactSquareOfRow : OpenClaim := { program := "ytnehbpihljbjdaa", sum := "0dbe142f840fb5407fcd61b84744f62849e766432a072e47fee9a3c25702db44", func := "loop.example/graphmaps/laws.FnExactSquareOf", spec := "fnExactSquareOf", unfollowed := true, recurses := true, plainKeys := false, apart := false }
def FnExactSquareOfSaid : Prop := fnExactSquareOfRow.holds Try.pinned (OpenSpec.ofChange fnExactSquareOfSpec)

/-- ITS FALSE NEIGHBOUR: 'it returns false'. Refute it at one input. -/
def fnExactSquareOfWrong : ChangeSpec := { name := "fnExactSquareOf", fn := fun _ => fun
  | [d] => { results := [.lit (.bool false)], args := [d] }
  | _ => none }
def FnExactSquareOfWrongFalsely : Prop := fnExactSquareOfRow.holds Try.pinned (OpenSpec.ofChange fnExactSquareOfWrong)

/- THE SECOND FORM. 'bulk': how many values and letters a reading holds, each counted each time it is reached (what is shared counts as often as it is met; a slice's spare places count too). A statement '..UptoSaid' is the law's where the arguments, and the package variables that the reading takes, are together of bulk at most 1048576: NARROWER than '..Said'. Prove '..Said' where nothing that the law and all that it calls make is longer than what came in: it says more and counts as full. Else prove '..UptoSaid'. A law counts once. -/
mutual
def uptoBulk {H : Type} : DataW H → Nat
  | .lit (.string bytes) => bytes.length + 1
  | .lit _ => 1
  | .nil => 1
  | .ptr d => uptoBulk d + 1
  | .slice elems spare => uptoBulkAll elems + uptoBulkAll spare + 1
  | .agg parts => uptoBulkAll parts + 1
  | .iface _ d => uptoBulk d + 1
  | .map entries => uptoBulkEntries entries + 1
  | .held _ => 1
def uptoBulkAll {H : Type} : List (DataW H) → Nat
  | [] => 0
  | d :: r => uptoBulk d + uptoBulkAll r
def uptoBulkEntries {H : Type} : List (Lit × DataW H) → Nat
  | [] => 0
  | x :: r => uptoBulkEntry x + uptoBulkEntries r
def uptoBulkEntry {H : Type} : Lit × DataW H → Nat
  | (.string bytes, d) => bytes.length + uptoBulk d + 1
  | (_, d) => uptoBulk d + 1
 end
def uptoSmall : (H : Type) → List (DataW H) → Bool := fun _ ds => decide (uptoBulkAll ds ≤ 1048576)
def OpenSpec.upto (s : _root_.Go.ChangeSpec) : _root_.Go.OpenSpec := { _root_.Go.OpenSpec.ofChange s with cond := some uptoSmall }

/-- 'laws.FnTimesOf', WHERE WHAT IT READS IS OF BULK AT MOST 1048576: true; the input reads as it did. -/
def fnTimesOfUptoRow : OpenClaim := { program := "ytnehbpihljbjdaa", sum := "0dbe142f840fb5407fcd61b84744f62849e766432a072e47fee9a3c25702db44", func := "loop.example/graphmaps/laws.FnTimesOf", spec := "fnTimesOf", unfollowed := true, recurses := true, plainKeys := false, apart := false, narrowed := true }
def FnTimesOfUptoSaid : Prop := fnTimesOfUptoRow.holds Try.pinned (OpenSpec.upto fnTimesOfSpec)

/-- 'laws.FnSideOf', WHERE WHAT IT READS IS OF BULK AT MOST 1048576: true; the input reads as it did. -/
def fnSideOfUptoRow : OpenClaim := { program := "ytnehbpihljbjdaa", sum := "0dbe142f840fb5407fcd61b84744f62849e766432a072e47fee9a3c25702db44", func := "loop.example/graphmaps/laws.FnSideOf", spec := "fnSideOf", unfollowed := true, recurses := true, plainKeys := false, apart := false, narrowed := true }
def FnSideOfUptoSaid : Prop := fnSideOfUptoRow.holds Try.pinned (OpenSpec.upto fnSideOfSpec)

/-- 'laws.FnPairedOf', WHERE WHAT IT READS IS OF BULK AT MOST 1048576: true; the input reads as it did. -/
def fnPairedOfUptoRow : OpenClaim := { program := "ytnehbpihljbjdaa", sum := "0dbe142f840fb5407fcd61b84744f62849e766432a072e47fee9a3c25702db44", func := "loop.example/graphmaps/laws.FnPairedOf", spec := "fnPairedOf", unfollowed := true, recurses := true, plainKeys := false, apart := false, narrowed := true }
def FnPairedOfUptoSaid : Prop := fnPairedOfUptoRow.holds Try.pinned (OpenSpec.upto fnPairedOfSpec)

/-- 'laws.FnJoinedOf', WHERE WHAT IT READS IS OF BULK AT MOST 1048576: true; the input reads as it did. -/
def fnJoinedOfUptoRow : OpenClaim := { program := "ytnehbpihljbjdaa", sum := "0dbe142f840fb5407fcd61b84744f62849e766432a072e47fee9a3c25702db44", func := "loop.example/graphmaps/laws.FnJoinedOf", spec := "fnJoinedOf", unfollowed := true, recurses := true, plainKeys := false, apart := false, narrowed := true }
def FnJoinedOfUptoSaid : Prop := fnJoinedOfUptoRow.holds Try.pinned (OpenSpec.upto fnJoinedOfSpec)

/-- 'laws.FnSquareOf', WHERE WHAT IT READS IS OF BULK AT MOST 1048576: true; the input reads as it did. -/
def fnSquareOfUptoRow : OpenClaim := { program := "ytnehbpihljbjdaa", sum := "0dbe142f840fb5407fcd61b84744f62849e766432a072e47fee9a3c25702db44", func := "loop.example/graphmaps/laws.FnSquareOf", spec := "fnSquareOf", unfollowed := true, recurses := true, plainKeys := false, apart := false, narrowed := true }
def FnSquareOfUptoSaid : Prop := fnSquareOfUptoRow.holds Try.pinned (OpenSpec.upto fnSquareOfSpec)

/-- 'laws.FnExactTimesOf', WHERE WHAT IT READS IS OF BULK AT MOST 1048576: true; the input reads as it did. -/
def fnExactTimesOfUptoRow : OpenClaim := { program := "ytnehbpihljbjdaa", sum := "0dbe142f840fb5407fcd61b84744f62849e766432a072e47fee9a3c25702db44", func := "loop.example/graphmaps/laws.FnExactTimesOf", spec := "fnExactTimesOf", unfollowed := true, recurses := true, plainKeys := false, apart := false, narrowed := true }
def FnExactTimesOfUptoSaid : Prop := fnExactTimesOfUptoRow.holds Try.pinned (OpenSpec.upto fnExactTimesOfSpec)

/-- 'laws.FnExactSideOf', WHERE WHAT IT READS IS OF BULK AT MOST 1048576: true; the input reads as it did. -/
def fnExactSideOfUptoRow : OpenClaim := { program := "ytnehbpihljbjdaa", sum := "0dbe142f840fb5407fcd61b84744f62849e766432a072e47fee9a3c25702db44", func := "loop.example/graphmaps/laws.FnExactSideOf", spec := "fnExactSideOf", unfollowed := true, recurses := true, plainKeys := false, apart := false, narrowed := true }
def FnExactSideOfUptoSaid : Prop := fnExactSideOfUptoRow.holds Try.pinned (OpenSpec.upto fnExactSideOfSpec)

/-- 'laws.FnExactPairedOf', WHERE WHAT IT READS IS OF BULK AT MOST 1048576: true; the input reads as it did. -/
def fnExactPairedOfUptoRow : OpenClaim := { program := "ytnehbpihljbjdaa", sum := "0dbe142f840fb5407fcd61b84744f62849e766432a072e47fee9a3c25702db44", func := "loop.example/graphmaps/laws.FnExactPairedOf", spec := "fnExactPairedOf", unfollowed := true, recurses := true, plainKeys := false, apart := false, narrowed := true }
def FnExactPairedOfUptoSaid : Prop := fnExactPairedOfUptoRow.holds Try.pinned (OpenSpec.upto fnExactPairedOfSpec)

/-- 'laws.FnExactJoinedOf', WHERE WHAT IT READS IS OF BULK AT MOST 1048576: true; the input reads as it did. -/
def fnExactJoinedOfUptoRow : OpenClaim := { program := "ytnehbpihljbjdaa", sum := "0dbe142f840fb5407fcd61b84744f62849e766432a072e47fee9a3c25702db44", func := "loop.example/graphmaps/laws.FnExactJoinedOf", spec := "fnExactJoinedOf", unfollowed := true, recurses := true, plainKeys := false, apart := false, narrowed := true }
def FnExactJoinedOfUptoSaid : Prop := fnExactJoinedOfUptoRow.holds Try.pinned (OpenSpec.upto fnExactJoinedOfSpec)

/-- 'laws.FnExactSquareOf', WHERE WHAT IT READS IS OF BULK AT MOST 1048576: true; the input reads as it did. -/
def fnExactSquareOfUptoRow : OpenClaim := { program := "ytnehbpihljbjdaa", sum := "0dbe142f840fb5407fcd61b84744f62849e766432a072e47fee9a3c25702db44", func := "loop.example/graphmaps/laws.FnExactSquareOf", spec := "fnExactSquareOf", unfollowed := true, recurses := true, plainKeys := false, apart := false, narrowed := true }
def FnExactSquareOfUptoSaid : Prop := fnExactSquareOfUptoRow.holds Try.pinned (OpenSpec.upto fnExactSquareOfSpec)

end Rows
end Go.Proofs.Ytnehbpihljbjdaa
