/-
  No cell of these rows narrows 'for every input' (looked for: loops, veiled, ifaces, maps, wideKeys, modest, calm, conditions, laid).
  DERIVED. THE GIVEN ROWS OF THIS SEAT. 12 by the template 'for every input the law returns true; each argument reads behind the call as it read before'; 0 by the template 'total and deterministic' (their statements: YtldkgkpiceamhaaTotals.lean).
  GIVEN WITH THE SEED: the statements are not yours to turn. If you find one false, say at which input.
  Laid BY PROGRAM, IN A SANDBOX (cutbox-rows.mjs): the forced cells as the released guide's own fill.sh prints them over the translation 772277ae1af8dd56… (all of the seat's roots in one cut). By AI agents, Wed Nov 11 2026. No macro, syntax, notation, axiom, sorry.
-/
import Derived.Test.YtldkgkpiceamhaaChecked
import GoSem.Claim
import GoSem.ClaimJoined
import GoSem.ClaimMapViews
import Derived.JoinedTies
import Derived.KernelRfl
namespace Go.Proofs.Ytldkgkpiceamhaa
/- THE CELL 'sum', in the pinned program and in every row, IS THE sha256 OF THE DUMP (.gsa) THAT YtldkgkpiceamhaaProg.lean LOADS. Nothing in Lean hashes anything: it is a label: what it is worth is what the hold of that sum in a sandbox is worth. -/
noncomputable def Try.pinned : Pinned := { name := "ytldkgkpiceamhaa", sum := "772277ae1af8dd5660b831239df30ed62800068292cef5a170f0f5bf39096620", checked := Try.checked }
namespace Rows
def none {H : Type} : Left H := { results := [], args := [] }

/-- 'laws.FnCoverOk': WHATEVER THE INPUT: true; the input reads as it did. -/
def fnCoverOkSpec : ChangeSpec := { name := "fnCoverOk", fn := fun _ => fun
  | [d] => { results := [.lit (.bool true)], args := [d] }
  | _ => none }
def fnCoverOkRow : OpenClaim := { program := "ytldkgkpiceamhaa", sum := "772277ae1af8dd5660b831239df30ed62800068292cef5a170f0f5bf39096620", func := "loop.example/graphmaps/laws.FnCoverOk", spec := "fnCoverOk", unfollowed := true, recurses := true, leaving := true, apart := false }
def FnCoverOkSaid : Prop := fnCoverOkRow.holds Try.pinned (OpenSpec.ofChange fnCoverOkSpec)

/-- ITS FALSE NEIGHBOUR: 'it returns false'. Refute it at one input. -/
def fnCoverOkWrong : ChangeSpec := { name := "fnCoverOk", fn := fun _ => fun
  | [d] => { results := [.lit (.bool false)], args := [d] }
  | _ => none }
def FnCoverOkWrongFalsely : Prop := fnCoverOkRow.holds Try.pinned (OpenSpec.ofChange fnCoverOkWrong)

/-- 'laws.FnWalkOk': WHATEVER THE INPUT: true; the input reads as it did. -/
def fnWalkOkSpec : ChangeSpec := { name := "fnWalkOk", fn := fun _ => fun
  | [d] => { results := [.lit (.bool true)], args := [d] }
  | _ => none }
def fnWalkOkRow : OpenClaim := { program := "ytldkgkpiceamhaa", sum := "772277ae1af8dd5660b831239df30ed62800068292cef5a170f0f5bf39096620", func := "loop.example/graphmaps/laws.FnWalkOk", spec := "fnWalkOk", unfollowed := true, recurses := true, leaving := true, apart := false }
def FnWalkOkSaid : Prop := fnWalkOkRow.holds Try.pinned (OpenSpec.ofChange fnWalkOkSpec)

/-- ITS FALSE NEIGHBOUR: 'it returns false'. Refute it at one input. -/
def fnWalkOkWrong : ChangeSpec := { name := "fnWalkOk", fn := fun _ => fun
  | [d] => { results := [.lit (.bool false)], args := [d] }
  | _ => none }
def FnWalkOkWrongFalsely : Prop := fnWalkOkRow.holds Try.pinned (OpenSpec.ofChange fnWalkOkWrong)

/-- 'laws.FnLiftedWalk': WHATEVER THE INPUT: true; the input reads as it did. -/
def fnLiftedWalkSpec : ChangeSpec := { name := "fnLiftedWalk", fn := fun _ => fun
  | [d] => { results := [.lit (.bool true)], args := [d] }
  | _ => none }
def fnLiftedWalkRow : OpenClaim := { program := "ytldkgkpiceamhaa", sum := "772277ae1af8dd5660b831239df30ed62800068292cef5a170f0f5bf39096620", func := "loop.example/graphmaps/laws.FnLiftedWalk", spec := "fnLiftedWalk", unfollowed := true, recurses := true, leaving := true, apart := false }
def FnLiftedWalkSaid : Prop := fnLiftedWalkRow.holds Try.pinned (OpenSpec.ofChange fnLiftedWalkSpec)

/-- ITS FALSE NEIGHBOUR: 'it returns false'. Refute it at one input. -/
def fnLiftedWalkWrong : ChangeSpec := { name := "fnLiftedWalk", fn := fun _ => fun
  | [d] => { results := [.lit (.bool false)], args := [d] }
  | _ => none }
def FnLiftedWalkWrongFalsely : Prop := fnLiftedWalkRow.holds Try.pinned (OpenSpec.ofChange fnLiftedWalkWrong)

/-- 'laws.FnSheetsOf': WHATEVER THE INPUT: true; the input reads as it did. -/
def fnSheetsOfSpec : ChangeSpec := { name := "fnSheetsOf", fn := fun _ => fun
  | [d] => { results := [.lit (.bool true)], args := [d] }
  | _ => none }
def fnSheetsOfRow : OpenClaim := { program := "ytldkgkpiceamhaa", sum := "772277ae1af8dd5660b831239df30ed62800068292cef5a170f0f5bf39096620", func := "loop.example/graphmaps/laws.FnSheetsOf", spec := "fnSheetsOf", unfollowed := true, recurses := true, leaving := true, apart := false }
def FnSheetsOfSaid : Prop := fnSheetsOfRow.holds Try.pinned (OpenSpec.ofChange fnSheetsOfSpec)

/-- ITS FALSE NEIGHBOUR: 'it returns false'. Refute it at one input. -/
def fnSheetsOfWrong : ChangeSpec := { name := "fnSheetsOf", fn := fun _ => fun
  | [d] => { results := [.lit (.bool false)], args := [d] }
  | _ => none }
def FnSheetsOfWrongFalsely : Prop := fnSheetsOfRow.holds Try.pinned (OpenSpec.ofChange fnSheetsOfWrong)

/-- 'laws.FnCoversOf': WHATEVER THE INPUT: true; the input reads as it did. -/
def fnCoversOfSpec : ChangeSpec := { name := "fnCoversOf", fn := fun _ => fun
  | [d] => { results := [.lit (.bool true)], args := [d] }
  | _ => none }
def fnCoversOfRow : OpenClaim := { program := "ytldkgkpiceamhaa", sum := "772277ae1af8dd5660b831239df30ed62800068292cef5a170f0f5bf39096620", func := "loop.example/graphmaps/laws.FnCoversOf", spec := "fnCoversOf", unfollowed := true, recurses := true, leaving := true, apart := false }
def FnCoversOfSaid : Prop := fnCoversOfRow.holds Try.pinned (OpenSpec.ofChange fnCoversOfSpec)

/-- ITS FALSE NEIGHBOUR: 'it returns false'. Refute it at one input. -/
def fnCoversOfWrong : ChangeSpec := { name := "fnCoversOf", fn := fun _ => fun
  | [d] => { results := [.lit (.bool false)], args := [d] }
  | _ => none }
def FnCoversOfWrongFalsely : Prop := fnCoversOfRow.holds Try.pinned (OpenSpec.ofChange fnCoversOfWrong)

/-- 'laws.FnTwiceOf': WHATEVER THE INPUT: true; the input reads as it did. -/
def fnTwiceOfSpec : ChangeSpec := { name := "fnTwiceOf", fn := fun _ => fun
  | [d] => { results := [.lit (.bool true)], args := [d] }
  | _ => none }
def fnTwiceOfRow : OpenClaim := { program := "ytldkgkpiceamhaa", sum := "772277ae1af8dd5660b831239df30ed62800068292cef5a170f0f5bf39096620", func := "loop.example/graphmaps/laws.FnTwiceOf", spec := "fnTwiceOf", inPlace := ["sync/atomic.StoreInt64", "sync/atomic.LoadInt64", "(*sync.WaitGroup).Add", "internal/race.ReleaseMerge", "internal/race.Disable", "internal/race.Enable", "internal/synctest.IsInBubble", "internal/synctest.Associate[sync.WaitGroup]", "sync.fatal", "sync/atomic.OrUint64", "sync/atomic.AddUint64", "internal/race.Read", "sync/atomic.LoadUint64", "sync/atomic.StoreUint64", "internal/synctest.Disassociate[sync.WaitGroup]", "sync.runtime_Semrelease", "(*sync.WaitGroup).Done", "(*sync.WaitGroup).Wait", "internal/race.Acquire", "internal/synctest.IsAssociated[sync.WaitGroup]", "sync/atomic.CompareAndSwapUint64", "internal/race.Write", "sync.runtime_SemacquireWaitGroup"], unfollowed := true, recurses := true, leaving := true, apart := false }
def FnTwiceOfSaid : Prop := fnTwiceOfRow.holds Try.pinned (OpenSpec.ofChange fnTwiceOfSpec)

/-- ITS FALSE NEIGHBOUR: 'it returns false'. Refute it at one input. -/
def fnTwiceOfWrong : ChangeSpec := { name := "fnTwiceOf", fn := fun _ => fun
  | [d] => { results := [.lit (.bool false)], args := [d] }
  | _ => none }
def FnTwiceOfWrongFalsely : Prop := fnTwiceOfRow.holds Try.pinned (OpenSpec.ofChange fnTwiceOfWrong)

/-- 'laws.FnExactCoverOk': WHATEVER THE INPUT: true; the input reads as it did. -/
def fnExactCoverOkSpec : ChangeSpec := { name := "fnExactCoverOk", fn := fun _ => fun
  | [d1, d2, d3] => { results := [.lit (.bool true)], args := [d1, d2, d3] }
  | _ => none }
def fnExactCoverOkRow : OpenClaim := { program := "ytldkgkpiceamhaa", sum := "772277ae1af8dd5660b831239df30ed62800068292cef5a170f0f5bf39096620", func := "loop.example/graphmaps/laws.FnExactCoverOk", spec := "fnExactCoverOk", unfollowed := true, recurses := true, leaving := true, apart := false }
def FnExactCoverOkSaid : Prop := fnExactCoverOkRow.holds Try.pinned (OpenSpec.ofChange fnExactCoverOkSpec)

/-- ITS FALSE NEIGHBOUR: 'it returns false'. Refute it at one input. -/
def fnExactCoverOkWrong : ChangeSpec := { name := "fnExactCoverOk", fn := fun _ => fun
  | [d1, d2, d3] => { results := [.lit (.bool false)], args := [d1, d2, d3] }
  | _ => none }
def FnExactCoverOkWrongFalsely : Prop := fnExactCoverOkRow.holds Try.pinned (OpenSpec.ofChange fnExactCoverOkWrong)

/-- 'laws.FnExactWalkOk': WHATEVER THE INPUT: true; the input reads as it did. -/
def fnExactWalkOkSpec : ChangeSpec := { name := "fnExactWalkOk", fn := fun _ => fun
  | [d1, d2] => { results := [.lit (.bool true)], args := [d1, d2] }
  | _ => none }
def fnExactWalkOkRow : OpenClaim := { program := "ytldkgkpiceamhaa", sum := "772277ae1af8dd5660b831239df30ed62800068292cef5a170f0f5bf39096620", func := "loop.example/graphmaps/laws.FnExactWalkOk", spec := "fnExactWalkOk", unfollowed := true, recurses := true, leaving := true, apart := false }
def FnExactWalkOkSaid : Prop := fnExactWalkOkRow.holds Try.pinned (OpenSpec.ofChange fnExactWalkOkSpec)

/-- ITS FALSE NEIGHBOUR: 'it returns false'. Refute it at one input. -/
def fnExactWalkOkWrong : ChangeSpec := { name := "fnExactWalkOk", fn := fun _ => fun
  | [d1, d2] => { results := [.lit (.bool false)], args := [d1, d2] }
  | _ => none }
def FnExactWalkOkWrongFalsely : Prop := fnExactWalkOkRow.holds Try.pinned (OpenSpec.ofChange fnExactWalkOkWrong)

/-- 'laws.FnExactLiftedWalk': WHATEVER THE INPUT: true; the input reads as it did. -/
def fnExactLiftedWalkSpec : ChangeSpec := { name := "fnExactLiftedWalk", fn := fun _ => fun
  | [d1, d2, d3, d4, d5] => { results := [.lit (.bool true)], args := [d1, d2, d3, d4, d5] }
  | _ => none }
def fnExactLiftedWalkRow : OpenClaim := { program := "ytldkgkpiceamhaa", sum := "772277ae1af8dd5660b831239df30ed62800068292cef5a170f0f5bf39096620", func := "loop.example/graphmaps/laws.FnExactLiftedWalk", spec := "fnExactLiftedWalk", unfollowed := true, recurses := true, leaving := true, apart := false }
def FnExactLiftedWalkSaid : Prop := fnExactLiftedWalkRow.holds Try.pinned (OpenSpec.ofChange fnExactLiftedWalkSpec)

/-- ITS FALSE NEIGHBOUR: 'it returns false'. Refute it at one input. -/
def fnExactLiftedWalkWrong : ChangeSpec := { name := "fnExactLiftedWalk", fn := fun _ => fun
  | [d1, d2, d3, d4, d5] => { results := [.lit (.bool false)], args := [d1, d2, d3, d4, d5] }
  | _ => none }
def FnExactLiftedWalkWrongFalsely : Prop := fnExactLiftedWalkRow.holds Try.pinned (OpenSpec.ofChange fnExactLiftedWalkWrong)

/-- 'laws.FnExactSheetsOf': WHATEVER THE INPUT: true; the input reads as it did. -/
def fnExactSheetsOfSpec : ChangeSpec := { name := "fnExactSheetsOf", fn := fun _ => fun
  | [d1, d2, d3] => { results := [.lit (.bool true)], args := [d1, d2, d3] }
  | _ => none }
def fnExactSheetsOfRow : OpenClaim := { program := "ytldkgkpiceamhaa", sum := "772277ae1af8dd5660b831239df30ed62800068292cef5a170f0f5bf39096620", func := "loop.example/graphmaps/laws.FnExactSheetsOf", spec := "fnExactSheetsOf", unfollowed := true, recurses := true, leaving := true, apart := false }
def FnExactSheetsOfSaid : Prop := fnExactSheetsOfRow.holds Try.pinned (OpenSpec.ofChange fnExactSheetsOfSpec)

/-- ITS FALSE NEIGHBOUR: 'it returns false'. Refute it at one input. -/
def fnExactSheetsOfWrong : ChangeSpec := { name := "fnExactSheetsOf", fn := fun _ => fun
  | [d1, d2, d3] => { results := [.lit (.bool false)], args := [d1, d2, d3] }
  | _ => none }
def FnExactSheetsOfWrongFalsely : Prop := fnExactSheetsOfRow.holds Try.pinned (OpenSpec.ofChange fnExactSheetsOfWrong)

/-- 'laws.FnExactCoversOf': WHATEVER THE INPUT: true; the input reads as it did. -/
def fnExactCoversOfSpec : ChangeSpec := { name := "fnExactCoversOf", fn := fun _ => fun
  | [d1, d2] => { results := [.lit (.bool true)], args := [d1, d2] }
  | _ => none }
def fnExactCoversOfRow : OpenClaim := { program := "ytldkgkpiceamhaa", sum := "772277ae1af8dd5660b831239df30ed62800068292cef5a170f0f5bf39096620", func := "loop.example/graphmaps/laws.FnExactCoversOf", spec := "fnExactCoversOf", unfollowed := true, recurses := true, leaving := true, apart := false }
def FnExactCoversOfSaid : Prop := fnExactCoversOfRow.holds Try.pinned (OpenSpec.ofChange fnExactCoversOfSpec)

/-- ITS FALSE NEIGHBOUR: 'it returns false'. Refute it at one input. -/
def fnExactCoversOfWrong : ChangeSpec := { name := "fnExactCoversOf", fn := fun _ => fun
  | [d1, d2] => { results := [.lit (.bool false)], args := [d1, d2] }
  | _ => none }
def FnExactCoversOfWrongFalsely : Prop := fnExactCoversOfRow.holds Try.pinned (OpenSpec.ofChange fnExactCoversOfWrong)

/-- 'laws.FnExactTwiceOf': WHATEVER THE INPUT: true; the input reads as it did. -/
def fnExactTwiceOfSpec : ChangeSpec := { name := "fnExactTwiceOf", fn := fun _ => fun
  | [d] => { results := [.lit (.bool true)], args := [d] }
  | _ => none }
def fnExactTwiceOfRow : OpenClaim := { program := "ytldkgkpiceamhaa", sum := "772277ae1af8dd5660b831239df30ed62800068292cef5a170f0f5bf39096620", func := "loop.example/graphmaps/laws.FnExactTwiceOf", spec := "fnExactTwiceOf", unfollowed := true, recurses := true, leaving := true, apart := false }
def FnExactTwiceOfSaid : Prop := fnExactTwiceOfRow.holds Try.pinned (OpenSpec.ofChange fnExactTwiceOfSpec)

/-- ITS FALSE NEIGHBOUR: 'it returns false'. Refute it at one input. -/
def fnExactTwiceOfWrong : ChangeSpec := { name := "fnExactTwiceOf", fn := fun _ => fun
  | [d] => { results := [.lit (.bool false)], args := [d] }
  | _ => none }
def FnExactTwiceOfWrongFalsely : Prop := fnExactTwiceOfRow.holds Try.pinned (OpenSpec.ofChange fnExactTwiceOfWrong)

/- THE SECOND FORM. 'bulk': how many values and letters a reading holds, each counted each time it is reached (what is shared counts as often as it is met; a slice's spare places count too). A statement '..UptoSaid' is the law's where the arguments, and the package variables that the reading takes, are together of bulk at most 1048576: NARROWER than '..Said'. Prove '..Said' where nothing that the law and all that it calls make is longer than what came in: it says more and counts as full. Else prove '..UptoSaid'. A law counts once. -/
mutual
def uptoBulk {H : Type} : DataW H → Nat
  | .lit (.string bytes) => bytes.length + 1
  | .lit _ => 1
  | .nil => 1
  | .ptr d => uptoBulk d + 1
  | .slice elems spare => uptoBulkAll elems + uptoBulkAll spare + 1
  | .agg parts => uptoBulkAll parts + 1
  | .iface _ d => uptoBulk d + 1
  | .map entries => uptoBulkEntries entries + 1
  | .held _ => 1
def uptoBulkAll {H : Type} : List (DataW H) → Nat
  | [] => 0
  | d :: r => uptoBulk d + uptoBulkAll r
def uptoBulkEntries {H : Type} : List (Lit × DataW H) → Nat
  | [] => 0
  | x :: r => uptoBulkEntry x + uptoBulkEntries r
def uptoBulkEntry {H : Type} : Lit × DataW H → Nat
  | (.string bytes, d) => bytes.length + uptoBulk d + 1
  | (_, d) => uptoBulk d + 1
 end
def uptoSmall : (H : Type) → List (DataW H) → Bool := fun _ ds => decide (uptoBulkAll ds ≤ 1048576)
def OpenSpec.upto (s : _root_.Go.ChangeSpec) : _root_.Go.OpenSpec := { _root_.Go.OpenSpec.ofChange s with cond := some uptoSmall }

/-- 'laws.FnCoverOk', WHERE WHAT IT READS IS OF BULK AT MOST 1048576: true; the input reads as it did. -/
def fnCoverOkUptoRow : OpenClaim := { program := "ytldkgkpiceamhaa", sum := "772277ae1af8dd5660b831239df30ed62800068292cef5a170f0f5bf39096620", func := "loop.example/graphmaps/laws.FnCoverOk", spec := "fnCoverOk", unfollowed := true, recurses := true, leaving := true, apart := false, narrowed := true }
def FnCoverOkUptoSaid : Prop := fnCoverOkUptoRow.holds Try.pinned (OpenSpec.upto fnCoverOkSpec)

/-- 'laws.FnWalkOk', WHERE WHAT IT READS IS OF BULK AT MOST 1048576: true; the input reads as it did. -/
def fnWalkOkUptoRow : OpenClaim := { program := "ytldkgkpiceamhaa", sum := "772277ae1af8dd5660b831239df30ed62800068292cef5a170f0f5bf39096620", func := "loop.example/graphmaps/laws.FnWalkOk", spec := "fnWalkOk", unfollowed := true, recurses := true, leaving := true, apart := false, narrowed := true }
def FnWalkOkUptoSaid : Prop := fnWalkOkUptoRow.holds Try.pinned (OpenSpec.upto fnWalkOkSpec)

/-- 'laws.FnLiftedWalk', WHERE WHAT IT READS IS OF BULK AT MOST 1048576: true; the input reads as it did. -/
def fnLiftedWalkUptoRow : OpenClaim := { program := "ytldkgkpiceamhaa", sum := "772277ae1af8dd5660b831239df30ed62800068292cef5a170f0f5bf39096620", func := "loop.example/graphmaps/laws.FnLiftedWalk", spec := "fnLiftedWalk", unfollowed := true, recurses := true, leaving := true, apart := false, narrowed := true }
def FnLiftedWalkUptoSaid : Prop := fnLiftedWalkUptoRow.holds Try.pinned (OpenSpec.upto fnLiftedWalkSpec)

/-- 'laws.FnSheetsOf', WHERE WHAT IT READS IS OF BULK AT MOST 1048576: true; the input reads as it did. -/
def fnSheetsOfUptoRow : OpenClaim := { program := "ytldkgkpiceamhaa", sum := "772277ae1af8dd5660b831239df30ed62800068292cef5a170f0f5bf39096620", func := "loop.example/graphmaps/laws.FnSheetsOf", spec := "fnSheetsOf", unfollowed := true, recurses := true, leaving := true, apart := false, narrowed := true }
def FnSheetsOfUptoSaid : Prop := fnSheetsOfUptoRow.holds Try.pinned (OpenSpec.upto fnSheetsOfSpec)

/-- 'laws.FnCoversOf', WHERE WHAT IT READS IS OF BULK AT MOST 1048576: true; the input reads as it did. -/
def fnCoversOfUptoRow : OpenClaim := { program := "ytldkgkpiceamhaa", sum := "772277ae1af8dd5660b831239df30ed62800068292cef5a170f0f5bf39096620", func := "loop.example/graphmaps/laws.FnCoversOf", spec := "fnCoversOf", unfollowed := true, recurses := true, leaving := true, apart := false, narrowed := true }
def FnCoversOfUptoSaid : Prop := fnCoversOfUptoRow.holds Try.pinned (OpenSpec.upto fnCoversOfSpec)

/-- 'laws.FnTwiceOf', WHERE WHAT IT READS IS OF BULK AT MOST 1048576: true; the input reads as it did. -/
def fnTwiceOfUptoRow : OpenClaim := { program := "ytldkgkpiceamhaa", sum := "772277ae1af8dd5660b831239df30ed62800068292cef5a170f0f5bf39096620", func := "loop.example/graphmaps/laws.FnTwiceOf", spec := "fnTwiceOf", inPlace := ["sync/atomic.StoreInt64", "sync/atomic.LoadInt64", "(*sync.WaitGroup).Add", "internal/race.ReleaseMerge", "internal/race.Disable", "internal/race.Enable", "internal/synctest.IsInBubble", "internal/synctest.Associate[sync.WaitGroup]", "sync.fatal", "sync/atomic.OrUint64", "sync/atomic.AddUint64", "internal/race.Read", "sync/atomic.LoadUint64", "sync/atomic.StoreUint64", "internal/synctest.Disassociate[sync.WaitGroup]", "sync.runtime_Semrelease", "(*sync.WaitGroup).Done", "(*sync.WaitGroup).Wait", "internal/race.Acquire", "internal/synctest.IsAssociated[sync.WaitGroup]", "sync/atomic.CompareAndSwapUint64", "internal/race.Write", "sync.runtime_SemacquireWaitGroup"], unfollowed := true, recurses := true, leaving := true, apart := false, narrowed := true }
def FnTwiceOfUptoSaid : Prop := fnTwiceOfUptoRow.holds Try.pinned (OpenSpec.upto fnTwiceOfSpec)

/-- 'laws.FnExactCoverOk', WHERE WHAT IT READS IS OF BULK AT MOST 1048576: true; the input reads as it did. -/
def fnExactCoverOkUptoRow : OpenClaim := { program := "ytldkgkpiceamhaa", sum := "772277ae1af8dd5660b831239df30ed62800068292cef5a170f0f5bf39096620", func := "loop.example/graphmaps/laws.FnExactCoverOk", spec := "fnExactCoverOk", unfollowed := true, recurses := true, leaving := true, apart := false, narrowed := true }
def FnExactCoverOkUptoSaid : Prop := fnExactCoverOkUptoRow.holds Try.pinned (OpenSpec.upto fnExactCoverOkSpec)

/-- 'laws.FnExactWalkOk', WHERE WHAT IT READS IS OF BULK AT MOST 1048576: true; the input reads as it did. -/
def fnExactWalkOkUptoRow : OpenClaim := { program := "ytldkgkpiceamhaa", sum := "772277ae1af8dd5660b831239df30ed62800068292cef5a170f0f5bf39096620", func := "loop.example/graphmaps/laws.FnExactWalkOk", spec := "fnExactWalkOk", unfollowed := true, recurses := true, leaving := true, apart := false, narrowed := true }
def FnExactWalkOkUptoSaid : Prop := fnExactWalkOkUptoRow.holds Try.pinned (OpenSpec.upto fnExactWalkOkSpec)

/-- 'laws.FnExactLiftedWalk', WHERE WHAT IT READS IS OF BULK AT MOST 1048576: true; the input reads as it did. -/
def fnExactLiftedWalkUptoRow : OpenClaim := { program := "ytldkgkpiceamhaa", sum := "772277ae1af8dd5660b831239df30ed62800068292cef5a170f0f5bf39096620", func := "loop.example/graphmaps/laws.FnExactLiftedWalk", spec := "fnExactLiftedWalk", unfollowed := true, recurses := true, leaving := true, apart := false, narrowed := true }
def FnExactLiftedWalkUptoSaid : Prop := fnExactLiftedWalkUptoRow.holds Try.pinned (OpenSpec.upto fnExactLiftedWalkSpec)

/-- 'laws.FnExactSheetsOf', WHERE WHAT IT READS IS OF BULK AT MOST 1048576: true; the input reads as it did. -/
def fnExactSheetsOfUptoRow : OpenClaim := { program := "ytldkgkpiceamhaa", sum := "772277ae1af8dd5660b831239df30ed62800068292cef5a170f0f5bf39096620", func := "loop.example/graphmaps/laws.FnExactSheetsOf", spec := "fnExactSheetsOf", unfollowed := true, recurses := true, leaving := true, apart := false, narrowed := true }
def FnExactSheetsOfUptoSaid : Prop := fnExactSheetsOfUptoRow.holds Try.pinned (OpenSpec.upto fnExactSheetsOfSpec)

/-- 'laws.FnExactCoversOf', WHERE WHAT IT READS IS OF BULK AT MOST 1048576: true; the input reads as it did. -/
def fnExactCoversOfUptoRow : OpenClaim := { program := "ytldkgkpiceamhaa", sum := "772277ae1af8dd5660b831239df30ed62800068292cef5a170f0f5bf39096620", func := "loop.example/graphmaps/laws.FnExactCoversOf", spec := "fnExactCoversOf", unfollowed := true, recurses := true, leaving := true, apart := false, narrowed := true }
def FnExactCoversOfUptoSaid : Prop := fnExactCoversOfUptoRow.holds Try.pinned (OpenSpec.upto fnExactCoversOfSpec)

/-- 'laws.FnExactTwiceOf', WHERE WHAT IT READS IS OF BULK AT MOST 1048576: true; the input reads as it did. -/
def fnExactTwiceOfUptoRow : OpenClaim := { program := "ytldkgkpiceamhaa", sum := "772277ae1af8dd5660b831239df30ed62800068292cef5a170f0f5bf39096620", func := "loop.example/graphmaps/laws.FnExactTwiceOf", spec := "fnExactTwiceOf", unfollowed := true, recurses := true, leaving := true, apart := false, narrowed := true }
def FnExactTwiceOfUptoSaid : Prop := fnExactTwiceOfUptoRow.holds Try.pinned (OpenSpec.upto fnExactTwiceOfSpec)

end Rows
end Go.Proofs.Ytldkgkpiceamhaa
