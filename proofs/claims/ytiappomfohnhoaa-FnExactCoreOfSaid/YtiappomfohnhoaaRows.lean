/-
  No cell of these rows narrows 'for every input' (looked for: loops, veiled, ifaces, maps, wideKeys, modest, calm, conditions, laid).
  DERIVED. THE GIVEN ROWS OF THIS SEAT. 14 by the template 'for every input the law returns true; each argument reads behind the call as it read before'; 0 by the template 'total and deterministic' (their statements: YtiappomfohnhoaaTotals.lean).
  GIVEN WITH THE SEED: the statements are not yours to turn. If you find one false, say at which input.
  Laid BY PROGRAM, IN A SANDBOX (cutbox-rows.mjs): the forced cells as the released guide's own fill.sh prints them over the translation 1ae213de06561df0… (all of the seat's roots in one cut). By AI agents, Wed Nov 11 2026. No macro, syntax, notation, axiom, sorry.
-/
import Derived.Test.YtiappomfohnhoaaChecked
import GoSem.Claim
import GoSem.ClaimJoined
import GoSem.ClaimMapViews
import Derived.JoinedTies
import Derived.KernelRfl
namespace Go.Proofs.Ytiappomfohnhoaa
/- THE CELL 'sum', in the pinned program and in every row, IS THE sha256 OF THE DUMP (.gsa) THAT YtiappomfohnhoaaProg.lean LOADS. Nothing in Lean hashes anything: it is a label: what it is worth is what the hold of that sum in a sandbox is worth. -/
noncomputable def Try.pinned : Pinned := { name := "ytiappomfohnhoaa", sum := "1ae213de06561df0bd5d9fd95fb3bd6104a506b781706d8fb3946da37d03c045", checked := Try.checked }
namespace Rows
def none {H : Type} : Left H := { results := [], args := [] }

/-- 'laws.FnCoreOf': WHATEVER THE INPUT: true; the input reads as it did. -/
def fnCoreOfSpec : ChangeSpec := { name := "fnCoreOf", fn := fun _ => fun
  | [d1, d2] => { results := [.lit (.bool true)], args := [d1, d2] }
  | _ => none }
def fnCoreOfRow : OpenClaim := { program := "ytiappomfohnhoaa", sum := "1ae213de06561df0bd5d9fd95fb3bd6104a506b781706d8fb3946da37d03c045", func := "loop.example/graphmaps/laws.FnCoreOf", spec := "fnCoreOf", unfollowed := true, recurses := true, apart := false }
def FnCoreOfSaid : Prop := fnCoreOfRow.holds Try.pinned (OpenSpec.ofChange fnCoreOfSpec)

/-- ITS FALSE NEIGHBOUR: 'it returns false'. Refute it at one input. -/
def fnCoreOfWrong : ChangeSpec := { name := "fnCoreOf", fn := fun _ => fun
  | [d1, d2] => { results := [.lit (.bool false)], args := [d1, d2] }
  | _ => none }
def FnCoreOfWrongFalsely : Prop := fnCoreOfRow.holds Try.pinned (OpenSpec.ofChange fnCoreOfWrong)

/-- 'laws.FnCoreOk': WHATEVER THE INPUT: true; the input reads as it did. -/
def fnCoreOkSpec : ChangeSpec := { name := "fnCoreOk", fn := fun _ => fun
  | [d] => { results := [.lit (.bool true)], args := [d] }
  | _ => none }
def fnCoreOkRow : OpenClaim := { program := "ytiappomfohnhoaa", sum := "1ae213de06561df0bd5d9fd95fb3bd6104a506b781706d8fb3946da37d03c045", func := "loop.example/graphmaps/laws.FnCoreOk", spec := "fnCoreOk", unfollowed := true, recurses := true, apart := false }
def FnCoreOkSaid : Prop := fnCoreOkRow.holds Try.pinned (OpenSpec.ofChange fnCoreOkSpec)

/-- ITS FALSE NEIGHBOUR: 'it returns false'. Refute it at one input. -/
def fnCoreOkWrong : ChangeSpec := { name := "fnCoreOk", fn := fun _ => fun
  | [d] => { results := [.lit (.bool false)], args := [d] }
  | _ => none }
def FnCoreOkWrongFalsely : Prop := fnCoreOkRow.holds Try.pinned (OpenSpec.ofChange fnCoreOkWrong)

/-- 'laws.FnExactCoreOf': WHATEVER THE INPUT: true; the input reads as it did. -/
def fnExactCoreOfSpec : ChangeSpec := { name := "fnExactCoreOf", fn := fun _ => fun
  | [d] => { results := [.lit (.bool true)], args := [d] }
  | _ => none }
def fnExactCoreOfRow : OpenClaim := { program := "ytiappomfohnhoaa", sum := "1ae213de06561df0bd5d9fd95fb3bd6104a506b781706d8fb3946da37d03c045", func := "loop.example/graphmaps/laws.FnExactCoreOf", spec := "fnExactCoreOf", unfollowed := true, recurses := true, apart := false }
def FnExactCoreOfSaid : Prop := fnExactCoreOfRow.holds Try.pinned (OpenSpec.ofChange fnExactCoreOfSpec)

/-- ITS FALSE NEIGHBOUR: 'it returns false'. Refute it at one input. -/
def fnExactCoreOfWrong : ChangeSpec := { name := "fnExactCoreOf", fn := fun _ => fun
  | [d] => { results := [.lit (.bool false)], args := [d] }
  | _ => none }
def FnExactCoreOfWrongFalsely : Prop := fnExactCoreOfRow.holds Try.pinned (OpenSpec.ofChange fnExactCoreOfWrong)

/-- 'laws.FnExactCoreOk': WHATEVER THE INPUT: true; the input reads as it did. -/
def fnExactCoreOkSpec : ChangeSpec := { name := "fnExactCoreOk", fn := fun _ => fun
  | [d] => { results := [.lit (.bool true)], args := [d] }
  | _ => none }
def fnExactCoreOkRow : OpenClaim := { program := "ytiappomfohnhoaa", sum := "1ae213de06561df0bd5d9fd95fb3bd6104a506b781706d8fb3946da37d03c045", func := "loop.example/graphmaps/laws.FnExactCoreOk", spec := "fnExactCoreOk", unfollowed := true, recurses := true, apart := false }
def FnExactCoreOkSaid : Prop := fnExactCoreOkRow.holds Try.pinned (OpenSpec.ofChange fnExactCoreOkSpec)

/-- ITS FALSE NEIGHBOUR: 'it returns false'. Refute it at one input. -/
def fnExactCoreOkWrong : ChangeSpec := { name := "fnExactCoreOk", fn := fun _ => fun
  | [d] => { results := [.lit (.bool false)], args := [d] }
  | _ => none }
def FnExactCoreOkWrongFalsely : Prop := fnExactCoreOkRow.holds Try.pinned (OpenSpec.ofChange fnExactCoreOkWrong)

/-- 'laws.FnExactImageOf': WHATEVER THE INPUT: true; the input reads as it did. -/
def fnExactImageOfSpec : ChangeSpec := { name := "fnExactImageOf", fn := fun _ => fun
  | [d1, d2, d3] => { results := [.lit (.bool true)], args := [d1, d2, d3] }
  | _ => none }
def fnExactImageOfRow : OpenClaim := { program := "ytiappomfohnhoaa", sum := "1ae213de06561df0bd5d9fd95fb3bd6104a506b781706d8fb3946da37d03c045", func := "loop.example/graphmaps/laws.FnExactImageOf", spec := "fnExactImageOf", unfollowed := true, recurses := true, apart := false }
def FnExactImageOfSaid : Prop := fnExactImageOfRow.holds Try.pinned (OpenSpec.ofChange fnExactImageOfSpec)

/-- ITS FALSE NEIGHBOUR: 'it returns false'. Refute it at one input. -/
def fnExactImageOfWrong : ChangeSpec := { name := "fnExactImageOf", fn := fun _ => fun
  | [d1, d2, d3] => { results := [.lit (.bool false)], args := [d1, d2, d3] }
  | _ => none }
def FnExactImageOfWrongFalsely : Prop := fnExactImageOfRow.holds Try.pinned (OpenSpec.ofChange fnExactImageOfWrong)

/-- 'laws.FnExactRigidOk': WHATEVER THE INPUT: true; the input reads as it did. -/
def fnExactRigidOkSpec : ChangeSpec := { name := "fnExactRigidOk", fn := fun _ => fun
  | [d] => { results := [.lit (.bool true)], args := [d] }
  | _ => none }
def fnExactRigidOkRow : OpenClaim := { program := "ytiappomfohnhoaa", sum := "1ae213de06561df0bd5d9fd95fb3bd6104a506b781706d8fb3946da37d03c045", func := "loop.example/graphmaps/laws.FnExactRigidOk", spec := "fnExactRigidOk", unfollowed := true, recurses := true, apart := false }
def FnExactRigidOkSaid : Prop := fnExactRigidOkRow.holds Try.pinned (OpenSpec.ofChange fnExactRigidOkSpec)

/-- ITS FALSE NEIGHBOUR: 'it returns false'. Refute it at one input. -/
def fnExactRigidOkWrong : ChangeSpec := { name := "fnExactRigidOk", fn := fun _ => fun
  | [d] => { results := [.lit (.bool false)], args := [d] }
  | _ => none }
def FnExactRigidOkWrongFalsely : Prop := fnExactRigidOkRow.holds Try.pinned (OpenSpec.ofChange fnExactRigidOkWrong)

/-- 'laws.FnExactStaysOf': WHATEVER THE INPUT: true; the input reads as it did. -/
def fnExactStaysOfSpec : ChangeSpec := { name := "fnExactStaysOf", fn := fun _ => fun
  | [d] => { results := [.lit (.bool true)], args := [d] }
  | _ => none }
def fnExactStaysOfRow : OpenClaim := { program := "ytiappomfohnhoaa", sum := "1ae213de06561df0bd5d9fd95fb3bd6104a506b781706d8fb3946da37d03c045", func := "loop.example/graphmaps/laws.FnExactStaysOf", spec := "fnExactStaysOf", unfollowed := true, recurses := true, apart := false }
def FnExactStaysOfSaid : Prop := fnExactStaysOfRow.holds Try.pinned (OpenSpec.ofChange fnExactStaysOfSpec)

/-- ITS FALSE NEIGHBOUR: 'it returns false'. Refute it at one input. -/
def fnExactStaysOfWrong : ChangeSpec := { name := "fnExactStaysOf", fn := fun _ => fun
  | [d] => { results := [.lit (.bool false)], args := [d] }
  | _ => none }
def FnExactStaysOfWrongFalsely : Prop := fnExactStaysOfRow.holds Try.pinned (OpenSpec.ofChange fnExactStaysOfWrong)

/-- 'laws.FnExactStaysOk': WHATEVER THE INPUT: true; the input reads as it did. -/
def fnExactStaysOkSpec : ChangeSpec := { name := "fnExactStaysOk", fn := fun _ => fun
  | [d1, d2] => { results := [.lit (.bool true)], args := [d1, d2] }
  | _ => none }
def fnExactStaysOkRow : OpenClaim := { program := "ytiappomfohnhoaa", sum := "1ae213de06561df0bd5d9fd95fb3bd6104a506b781706d8fb3946da37d03c045", func := "loop.example/graphmaps/laws.FnExactStaysOk", spec := "fnExactStaysOk", unfollowed := true, recurses := true, apart := false }
def FnExactStaysOkSaid : Prop := fnExactStaysOkRow.holds Try.pinned (OpenSpec.ofChange fnExactStaysOkSpec)

/-- ITS FALSE NEIGHBOUR: 'it returns false'. Refute it at one input. -/
def fnExactStaysOkWrong : ChangeSpec := { name := "fnExactStaysOk", fn := fun _ => fun
  | [d1, d2] => { results := [.lit (.bool false)], args := [d1, d2] }
  | _ => none }
def FnExactStaysOkWrongFalsely : Prop := fnExactStaysOkRow.holds Try.pinned (OpenSpec.ofChange fnExactStaysOkWrong)

/-- 'laws.FnExactTurnsOf': WHATEVER THE INPUT: true; the input reads as it did. -/
def fnExactTurnsOfSpec : ChangeSpec := { name := "fnExactTurnsOf", fn := fun _ => fun
  | [d] => { results := [.lit (.bool true)], args := [d] }
  | _ => none }
def fnExactTurnsOfRow : OpenClaim := { program := "ytiappomfohnhoaa", sum := "1ae213de06561df0bd5d9fd95fb3bd6104a506b781706d8fb3946da37d03c045", func := "loop.example/graphmaps/laws.FnExactTurnsOf", spec := "fnExactTurnsOf", unfollowed := true, recurses := true, apart := false }
def FnExactTurnsOfSaid : Prop := fnExactTurnsOfRow.holds Try.pinned (OpenSpec.ofChange fnExactTurnsOfSpec)

/-- ITS FALSE NEIGHBOUR: 'it returns false'. Refute it at one input. -/
def fnExactTurnsOfWrong : ChangeSpec := { name := "fnExactTurnsOf", fn := fun _ => fun
  | [d] => { results := [.lit (.bool false)], args := [d] }
  | _ => none }
def FnExactTurnsOfWrongFalsely : Prop := fnExactTurnsOfRow.holds Try.pinned (OpenSpec.ofChange fnExactTurnsOfWrong)

/-- 'laws.FnImageOf': WHATEVER THE INPUT: true; the input reads as it did. -/
def fnImageOfSpec : ChangeSpec := { name := "fnImageOf", fn := fun _ => fun
  | [d] => { results := [.lit (.bool true)], args := [d] }
  | _ => none }
def fnImageOfRow : OpenClaim := { program := "ytiappomfohnhoaa", sum := "1ae213de06561df0bd5d9fd95fb3bd6104a506b781706d8fb3946da37d03c045", func := "loop.example/graphmaps/laws.FnImageOf", spec := "fnImageOf", unfollowed := true, recurses := true, apart := false }
def FnImageOfSaid : Prop := fnImageOfRow.holds Try.pinned (OpenSpec.ofChange fnImageOfSpec)

/-- ITS FALSE NEIGHBOUR: 'it returns false'. Refute it at one input. -/
def fnImageOfWrong : ChangeSpec := { name := "fnImageOf", fn := fun _ => fun
  | [d] => { results := [.lit (.bool false)], args := [d] }
  | _ => none }
def FnImageOfWrongFalsely : Prop := fnImageOfRow.holds Try.pinned (OpenSpec.ofChange fnImageOfWrong)

/-- 'laws.FnRigidOk': WHATEVER THE INPUT: true; the input reads as it did. -/
def fnRigidOkSpec : ChangeSpec := { name := "fnRigidOk", fn := fun _ => fun
  | [d] => { results := [.lit (.bool true)], args := [d] }
  | _ => none }
def fnRigidOkRow : OpenClaim := { program := "ytiappomfohnhoaa", sum := "1ae213de06561df0bd5d9fd95fb3bd6104a506b781706d8fb3946da37d03c045", func := "loop.example/graphmaps/laws.FnRigidOk", spec := "fnRigidOk", unfollowed := true, recurses := true, apart := false }
def FnRigidOkSaid : Prop := fnRigidOkRow.holds Try.pinned (OpenSpec.ofChange fnRigidOkSpec)

/-- ITS FALSE NEIGHBOUR: 'it returns false'. Refute it at one input. -/
def fnRigidOkWrong : ChangeSpec := { name := "fnRigidOk", fn := fun _ => fun
  | [d] => { results := [.lit (.bool false)], args := [d] }
  | _ => none }
def FnRigidOkWrongFalsely : Prop := fnRigidOkRow.holds Try.pinned (OpenSpec.ofChange fnRigidOkWrong)

/-- 'laws.FnStaysOf': WHATEVER THE INPUT: true; the input reads as it did. -/
def fnStaysOfSpec : ChangeSpec := { name := "fnStaysOf", fn := fun _ => fun
  | [d] => { results := [.lit (.bool true)], args := [d] }
  | _ => none }
def fnStaysOfRow : OpenClaim := { program := "ytiappomfohnhoaa", sum := "1ae213de06561df0bd5d9fd95fb3bd6104a506b781706d8fb3946da37d03c045", func := "loop.example/graphmaps/laws.FnStaysOf", spec := "fnStaysOf", unfollowed := true, recurses := true, apart := false }
def FnStaysOfSaid : Prop := fnStaysOfRow.holds Try.pinned (OpenSpec.ofChange fnStaysOfSpec)

/-- ITS FALSE NEIGHBOUR: 'it returns false'. Refute it at one input. -/
def fnStaysOfWrong : ChangeSpec := { name := "fnStaysOf", fn := fun _ => fun
  | [d] => { results := [.lit (.bool false)], args := [d] }
  | _ => none }
def FnStaysOfWrongFalsely : Prop := fnStaysOfRow.holds Try.pinned (OpenSpec.ofChange fnStaysOfWrong)

/-- 'laws.FnStaysOk': WHATEVER THE INPUT: true; the input reads as it did. -/
def fnStaysOkSpec : ChangeSpec := { name := "fnStaysOk", fn := fun _ => fun
  | [d] => { results := [.lit (.bool true)], args := [d] }
  | _ => none }
def fnStaysOkRow : OpenClaim := { program := "ytiappomfohnhoaa", sum := "1ae213de06561df0bd5d9fd95fb3bd6104a506b781706d8fb3946da37d03c045", func := "loop.example/graphmaps/laws.FnStaysOk", spec := "fnStaysOk", unfollowed := true, recurses := true, apart := false }
def FnStaysOkSaid : Prop := fnStaysOkRow.holds Try.pinned (OpenSpec.ofChange fnStaysOkSpec)

/-- ITS FALSE NEIGHBOUR: 'it returns false'. Refute it at one input. -/
def fnStaysOkWrong : ChangeSpec := { name := "fnStaysOk", fn := fun _ => fun
  | [d] => { results := [.lit (.bool false)], args := [d] }
  | _ => none }
def FnStaysOkWrongFalsely : Prop := fnStaysOkRow.holds Try.pinned (OpenSpec.ofChange fnStaysOkWrong)

/-- 'laws.FnTurnsOf': WHATEVER THE INPUT: true; the input reads as it did. -/
def fnTurnsOfSpec : ChangeSpec := { name := "fnTurnsOf", fn := fun _ => fun
  | [d] => { results := [.lit (.bool true)], args := [d] }
  | _ => none }
def fnTurnsOfRow : OpenClaim := { program := "ytiappomfohnhoaa", sum := "1ae213de06561df0bd5d9fd95fb3bd6104a506b781706d8fb3946da37d03c045", func := "loop.example/graphmaps/laws.FnTurnsOf", spec := "fnTurnsOf", unfollowed := true, recurses := true, apart := false }
def FnTurnsOfSaid : Prop := fnTurnsOfRow.holds Try.pinned (OpenSpec.ofChange fnTurnsOfSpec)

/-- ITS FALSE NEIGHBOUR: 'it returns false'. Refute it at one input. -/
def fnTurnsOfWrong : ChangeSpec := { name := "fnTurnsOf", fn := fun _ => fun
  | [d] => { results := [.lit (.bool false)], args := [d] }
  | _ => none }
def FnTurnsOfWrongFalsely : Prop := fnTurnsOfRow.holds Try.pinned (OpenSpec.ofChange fnTurnsOfWrong)

/- THE SECOND FORM. 'bulk': how many values and letters a reading holds, each counted each time it is reached (what is shared counts as often as it is met; a slice's spare places count too). A statement '..UptoSaid' is the law's where the arguments, and the package variables that the reading takes, are together of bulk at most 1048576: NARROWER than '..Said'. Prove '..Said' where nothing that the law and all that it calls make is longer than what came in: it says more and counts as full. Else prove '..UptoSaid'. A law counts once. -/
mutual
def uptoBulk {H : Type} : DataW H → Nat
  | .lit (.string bytes) => bytes.length + 1
  | .lit _ => 1
  | .nil => 1
  | .ptr d => uptoBulk d + 1
  | .slice elems spare => uptoBulkAll elems + uptoBulkAll spare + 1
  | .agg parts => uptoBulkAll parts + 1
  | .iface _ d => uptoBulk d + 1
  | .map entries => uptoBulkEntries entries + 1
  | .held _ => 1
def uptoBulkAll {H : Type} : List (DataW H) → Nat
  | [] => 0
  | d :: r => uptoBulk d + uptoBulkAll r
def uptoBulkEntries {H : Type} : List (Lit × DataW H) → Nat
  | [] => 0
  | x :: r => uptoBulkEntry x + uptoBulkEntries r
def uptoBulkEntry {H : Type} : Lit × DataW H → Nat
  | (.string bytes, d) => bytes.length + uptoBulk d + 1
  | (_, d) => uptoBulk d + 1
 end
def uptoSmall : (H : Type) → List (DataW H) → Bool := fun _ ds => decide (uptoBulkAll ds ≤ 1048576)
def OpenSpec.upto (s : _root_.Go.ChangeSpec) : _root_.Go.OpenSpec := { _root_.Go.OpenSpec.ofChange s with cond := some uptoSmall }

/-- 'laws.FnCoreOf', WHERE WHAT IT READS IS OF BULK AT MOST 1048576: true; the input reads as it did. -/
def fnCoreOfUptoRow : OpenClaim := { program := "ytiappomfohnhoaa", sum := "1ae213de06561df0bd5d9fd95fb3bd6104a506b781706d8fb3946da37d03c045", func := "loop.example/graphmaps/laws.FnCoreOf", spec := "fnCoreOf", unfollowed := true, recurses := true, apart := false, narrowed := true }
def FnCoreOfUptoSaid : Prop := fnCoreOfUptoRow.holds Try.pinned (OpenSpec.upto fnCoreOfSpec)

/-- 'laws.FnCoreOk', WHERE WHAT IT READS IS OF BULK AT MOST 1048576: true; the input reads as it did. -/
def fnCoreOkUptoRow : OpenClaim := { program := "ytiappomfohnhoaa", sum := "1ae213de06561df0bd5d9fd95fb3bd6104a506b781706d8fb3946da37d03c045", func := "loop.example/graphmaps/laws.FnCoreOk", spec := "fnCoreOk", unfollowed := true, recurses := true, apart := false, narrowed := true }
def FnCoreOkUptoSaid : Prop := fnCoreOkUptoRow.holds Try.pinned (OpenSpec.upto fnCoreOkSpec)

/-- 'laws.FnExactCoreOf', WHERE WHAT IT READS IS OF BULK AT MOST 1048576: true; the input reads as it did. -/
def fnExactCoreOfUptoRow : OpenClaim := { program := "ytiappomfohnhoaa", sum := "1ae213de06561df0bd5d9fd95fb3bd6104a506b781706d8fb3946da37d03c045", func := "loop.example/graphmaps/laws.FnExactCoreOf", spec := "fnExactCoreOf", unfollowed := true, recurses := true, apart := false, narrowed := true }
def FnExactCoreOfUptoSaid : Prop := fnExactCoreOfUptoRow.holds Try.pinned (OpenSpec.upto fnExactCoreOfSpec)

/-- 'laws.FnExactCoreOk', WHERE WHAT IT READS IS OF BULK AT MOST 1048576: true; the input reads as it did. -/
def fnExactCoreOkUptoRow : OpenClaim := { program := "ytiappomfohnhoaa", sum := "1ae213de06561df0bd5d9fd95fb3bd6104a506b781706d8fb3946da37d03c045", func := "loop.example/graphmaps/laws.FnExactCoreOk", spec := "fnExactCoreOk", unfollowed := true, recurses := true, apart := false, narrowed := true }
def FnExactCoreOkUptoSaid : Prop := fnExactCoreOkUptoRow.holds Try.pinned (OpenSpec.upto fnExactCoreOkSpec)

/-- 'laws.FnExactImageOf', WHERE WHAT IT READS IS OF BULK AT MOST 1048576: true; the input reads as it did. -/
def fnExactImageOfUptoRow : OpenClaim := { program := "ytiappomfohnhoaa", sum := "1ae213de06561df0bd5d9fd95fb3bd6104a506b781706d8fb3946da37d03c045", func := "loop.example/graphmaps/laws.FnExactImageOf", spec := "fnExactImageOf", unfollowed := true, recurses := true, apart := false, narrowed := true }
def FnExactImageOfUptoSaid : Prop := fnExactImageOfUptoRow.holds Try.pinned (OpenSpec.upto fnExactImageOfSpec)

/-- 'laws.FnExactRigidOk', WHERE WHAT IT READS IS OF BULK AT MOST 1048576: true; the input reads as it did. -/
def fnExactRigidOkUptoRow : OpenClaim := { program := "ytiappomfohnhoaa", sum := "1ae213de06561df0bd5d9fd95fb3bd6104a506b781706d8fb3946da37d03c045", func := "loop.example/graphmaps/laws.FnExactRigidOk", spec := "fnExactRigidOk", unfollowed := true, recurses := true, apart := false, narrowed := true }
def FnExactRigidOkUptoSaid : Prop := fnExactRigidOkUptoRow.holds Try.pinned (OpenSpec.upto fnExactRigidOkSpec)

/-- 'laws.FnExactStaysOf', WHERE WHAT IT READS IS OF BULK AT MOST 1048576: true; the input reads as it did. -/
def fnExactStaysOfUptoRow : OpenClaim := { program := "ytiappomfohnhoaa", sum := "1ae213de06561df0bd5d9fd95fb3bd6104a506b781706d8fb3946da37d03c045", func := "loop.example/graphmaps/laws.FnExactStaysOf", spec := "fnExactStaysOf", unfollowed := true, recurses := true, apart := false, narrowed := true }
def FnExactStaysOfUptoSaid : Prop := fnExactStaysOfUptoRow.holds Try.pinned (OpenSpec.upto fnExactStaysOfSpec)

/-- 'laws.FnExactStaysOk', WHERE WHAT IT READS IS OF BULK AT MOST 1048576: true; the input reads as it did. -/
def fnExactStaysOkUptoRow : OpenClaim := { program := "ytiappomfohnhoaa", sum := "1ae213de06561df0bd5d9fd95fb3bd6104a506b781706d8fb3946da37d03c045", func := "loop.example/graphmaps/laws.FnExactStaysOk", spec := "fnExactStaysOk", unfollowed := true, recurses := true, apart := false, narrowed := true }
def FnExactStaysOkUptoSaid : Prop := fnExactStaysOkUptoRow.holds Try.pinned (OpenSpec.upto fnExactStaysOkSpec)

/-- 'laws.FnExactTurnsOf', WHERE WHAT IT READS IS OF BULK AT MOST 1048576: true; the input reads as it did. -/
def fnExactTurnsOfUptoRow : OpenClaim := { program := "ytiappomfohnhoaa", sum := "1ae213de06561df0bd5d9fd95fb3bd6104a506b781706d8fb3946da37d03c045", func := "loop.example/graphmaps/laws.FnExactTurnsOf", spec := "fnExactTurnsOf", unfollowed := true, recurses := true, apart := false, narrowed := true }
def FnExactTurnsOfUptoSaid : Prop := fnExactTurnsOfUptoRow.holds Try.pinned (OpenSpec.upto fnExactTurnsOfSpec)

/-- 'laws.FnImageOf', WHERE WHAT IT READS IS OF BULK AT MOST 1048576: true; the input reads as it did. -/
def fnImageOfUptoRow : OpenClaim := { program := "ytiappomfohnhoaa", sum := "1ae213de06561df0bd5d9fd95fb3bd6104a506b781706d8fb3946da37d03c045", func := "loop.example/graphmaps/laws.FnImageOf", spec := "fnImageOf", unfollowed := true, recurses := true, apart := false, narrowed := true }
def FnImageOfUptoSaid : Prop := fnImageOfUptoRow.holds Try.pinned (OpenSpec.upto fnImageOfSpec)

/-- 'laws.FnRigidOk', WHERE WHAT IT READS IS OF BULK AT MOST 1048576: true; the input reads as it did. -/
def fnRigidOkUptoRow : OpenClaim := { program := "ytiappomfohnhoaa", sum := "1ae213de06561df0bd5d9fd95fb3bd6104a506b781706d8fb3946da37d03c045", func := "loop.example/graphmaps/laws.FnRigidOk", spec := "fnRigidOk", unfollowed := true, recurses := true, apart := false, narrowed := true }
def FnRigidOkUptoSaid : Prop := fnRigidOkUptoRow.holds Try.pinned (OpenSpec.upto fnRigidOkSpec)

/-- 'laws.FnStaysOf', WHERE WHAT IT READS IS OF BULK AT MOST 1048576: true; the input reads as it did. -/
def fnStaysOfUptoRow : OpenClaim := { program := "ytiappomfohnhoaa", sum := "1ae213de06561df0bd5d9fd95fb3bd6104a506b781706d8fb3946da37d03c045", func := "loop.example/graphmaps/laws.FnStaysOf", spec := "fnStaysOf", unfollowed := true, recurses := true, apart := false, narrowed := true }
def FnStaysOfUptoSaid : Prop := fnStaysOfUptoRow.holds Try.pinned (OpenSpec.upto fnStaysOfSpec)

/-- 'laws.FnStaysOk', WHERE WHAT IT READS IS OF BULK AT MOST 1048576: true; the input reads as it did. -/
def fnStaysOkUptoRow : OpenClaim := { program := "ytiappomfohnhoaa", sum := "1ae213de06561df0bd5d9fd95fb3bd6104a506b781706d8fb3946da37d03c045", func := "loop.example/graphmaps/laws.FnStaysOk", spec := "fnStaysOk", unfollowed := true, recurses := true, apart := false, narrowed := true }
def FnStaysOkUptoSaid : Prop := fnStaysOkUptoRow.holds Try.pinned (OpenSpec.upto fnStaysOkSpec)

/-- 'laws.FnTurnsOf', WHERE WHAT IT READS IS OF BULK AT MOST 1048576: true; the input reads as it did. -/
def fnTurnsOfUptoRow : OpenClaim := { program := "ytiappomfohnhoaa", sum := "1ae213de06561df0bd5d9fd95fb3bd6104a506b781706d8fb3946da37d03c045", func := "loop.example/graphmaps/laws.FnTurnsOf", spec := "fnTurnsOf", unfollowed := true, recurses := true, apart := false, narrowed := true }
def FnTurnsOfUptoSaid : Prop := fnTurnsOfUptoRow.holds Try.pinned (OpenSpec.upto fnTurnsOfSpec)

end Rows
end Go.Proofs.Ytiappomfohnhoaa
