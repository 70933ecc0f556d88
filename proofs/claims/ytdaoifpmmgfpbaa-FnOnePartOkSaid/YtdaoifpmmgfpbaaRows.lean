/-
  No cell of these rows narrows 'for every input' (looked for: loops, veiled, ifaces, maps, wideKeys, modest, calm, conditions, laid).
  DERIVED. THE GIVEN ROWS OF THIS SEAT. 10 by the template 'for every input the law returns true; each argument reads behind the call as it read before'; 0 by the template 'total and deterministic' (their statements: YtdaoifpmmgfpbaaTotals.lean).
  GIVEN WITH THE SEED: the statements are not yours to turn. If you find one false, say at which input.
  Laid BY PROGRAM, IN A SANDBOX (cutbox-rows.mjs): the forced cells as the released guide's own fill.sh prints them over the translation 12aea84fa959a3bf… (all of the seat's roots in one cut). By AI agents, Wed Nov 11 2026. No macro, syntax, notation, axiom, sorry.
-/
import Derived.Test.YtdaoifpmmgfpbaaChecked
import GoSem.Claim
import GoSem.ClaimJoined
import GoSem.ClaimMapViews
import Derived.JoinedTies
import Derived.KernelRfl
namespace Go.Proofs.Ytdaoifpmmgfpbaa
/- THE CELL 'sum', in the pinned program and in every row, IS THE sha256 OF THE DUMP (.gsa) THAT YtdaoifpmmgfpbaaProg.lean LOADS. Nothing in Lean hashes anything: it is a label: what it is worth is what the hold of that sum in a sandbox is worth. -/
noncomputable def Try.pinned : Pinned := { name := "ytdaoifpmmgfpbaa", sum := "12aea84fa959a3bf1e8b1e608546546c178430764758c7773c5c4c0d5444b34b", checked := Try.checked }
namespace Rows
def none {H : Type} : Left H := { results := [], args := [] }

/-- 'laws.FnTestAt': WHATEVER THE INPUT: true; the input reads as it did. -/
def fnTestAtSpec : ChangeSpec := { name := "fnTestAt", fn := fun _ => fun
  | [d] => { results := [.lit (.bool true)], args := [d] }
  | _ => none }
def fnTestAtRow : OpenClaim := { program := "ytdaoifpmmgfpbaa", sum := "12aea84fa959a3bf1e8b1e608546546c178430764758c7773c5c4c0d5444b34b", func := "loop.example/graphmaps/laws.FnTestAt", spec := "fnTestAt", unfollowed := true, recurses := true, leaving := true, apart := false }
def FnTestAtSaid : Prop := fnTestAtRow.holds Try.pinned (OpenSpec.ofChange fnTestAtSpec)

/-- ITS FALSE NEIGHBOUR: 'it returns false'. Refute it at one input. -/
def fnTestAtWrong : ChangeSpec := { name := "fnTestAt", fn := fun _ => fun
  | [d] => { results := [.lit (.bool false)], args := [d] }
  | _ => none }
def FnTestAtWrongFalsely : Prop := fnTestAtRow.holds Try.pinned (OpenSpec.ofChange fnTestAtWrong)

/-- 'laws.FnCountsOf': WHATEVER THE INPUT: true; the input reads as it did. -/
def fnCountsOfSpec : ChangeSpec := { name := "fnCountsOf", fn := fun _ => fun
  | [d1, d2] => { results := [.lit (.bool true)], args := [d1, d2] }
  | _ => none }
def fnCountsOfRow : OpenClaim := { program := "ytdaoifpmmgfpbaa", sum := "12aea84fa959a3bf1e8b1e608546546c178430764758c7773c5c4c0d5444b34b", func := "loop.example/graphmaps/laws.FnCountsOf", spec := "fnCountsOf", inPlace := ["(*sync.WaitGroup).Add", "internal/race.ReleaseMerge", "internal/race.Disable", "internal/race.Enable", "internal/synctest.IsInBubble", "internal/synctest.Associate[sync.WaitGroup]", "sync.fatal", "sync/atomic.OrUint64", "sync/atomic.AddUint64", "internal/race.Read", "sync/atomic.LoadUint64", "sync/atomic.StoreUint64", "internal/synctest.Disassociate[sync.WaitGroup]", "sync.runtime_Semrelease", "(*sync.WaitGroup).Done", "(*sync.WaitGroup).Wait", "internal/race.Acquire", "internal/synctest.IsAssociated[sync.WaitGroup]", "sync/atomic.CompareAndSwapUint64", "internal/race.Write", "sync.runtime_SemacquireWaitGroup"], unfollowed := true, recurses := true, leaving := true, apart := false }
def FnCountsOfSaid : Prop := fnCountsOfRow.holds Try.pinned (OpenSpec.ofChange fnCountsOfSpec)

/-- ITS FALSE NEIGHBOUR: 'it returns false'. Refute it at one input. -/
def fnCountsOfWrong : ChangeSpec := { name := "fnCountsOf", fn := fun _ => fun
  | [d1, d2] => { results := [.lit (.bool false)], args := [d1, d2] }
  | _ => none }
def FnCountsOfWrongFalsely : Prop := fnCountsOfRow.holds Try.pinned (OpenSpec.ofChange fnCountsOfWrong)

/-- 'laws.FnSameCounts': WHATEVER THE INPUT: true; the input reads as it did. -/
def fnSameCountsSpec : ChangeSpec := { name := "fnSameCounts", fn := fun _ => fun
  | [d] => { results := [.lit (.bool true)], args := [d] }
  | _ => none }
def fnSameCountsRow : OpenClaim := { program := "ytdaoifpmmgfpbaa", sum := "12aea84fa959a3bf1e8b1e608546546c178430764758c7773c5c4c0d5444b34b", func := "loop.example/graphmaps/laws.FnSameCounts", spec := "fnSameCounts", inPlace := ["(*sync.WaitGroup).Add", "internal/race.ReleaseMerge", "internal/race.Disable", "internal/race.Enable", "internal/synctest.IsInBubble", "internal/synctest.Associate[sync.WaitGroup]", "sync.fatal", "sync/atomic.OrUint64", "sync/atomic.AddUint64", "internal/race.Read", "sync/atomic.LoadUint64", "sync/atomic.StoreUint64", "internal/synctest.Disassociate[sync.WaitGroup]", "sync.runtime_Semrelease", "(*sync.WaitGroup).Done", "(*sync.WaitGroup).Wait", "internal/race.Acquire", "internal/synctest.IsAssociated[sync.WaitGroup]", "sync/atomic.CompareAndSwapUint64", "internal/race.Write", "sync.runtime_SemacquireWaitGroup"], unfollowed := true, recurses := true, leaving := true, apart := false }
def FnSameCountsSaid : Prop := fnSameCountsRow.holds Try.pinned (OpenSpec.ofChange fnSameCountsSpec)

/-- ITS FALSE NEIGHBOUR: 'it returns false'. Refute it at one input. -/
def fnSameCountsWrong : ChangeSpec := { name := "fnSameCounts", fn := fun _ => fun
  | [d] => { results := [.lit (.bool false)], args := [d] }
  | _ => none }
def FnSameCountsWrongFalsely : Prop := fnSameCountsRow.holds Try.pinned (OpenSpec.ofChange fnSameCountsWrong)

/-- 'laws.FnOnePartOk': WHATEVER THE INPUT: true; the input reads as it did. -/
def fnOnePartOkSpec : ChangeSpec := { name := "fnOnePartOk", fn := fun _ => fun
  | [d] => { results := [.lit (.bool true)], args := [d] }
  | _ => none }
def fnOnePartOkRow : OpenClaim := { program := "ytdaoifpmmgfpbaa", sum := "12aea84fa959a3bf1e8b1e608546546c178430764758c7773c5c4c0d5444b34b", func := "loop.example/graphmaps/laws.FnOnePartOk", spec := "fnOnePartOk", unfollowed := true, recurses := true, leaving := true, apart := false }
def FnOnePartOkSaid : Prop := fnOnePartOkRow.holds Try.pinned (OpenSpec.ofChange fnOnePartOkSpec)

/-- ITS FALSE NEIGHBOUR: 'it returns false'. Refute it at one input. -/
def fnOnePartOkWrong : ChangeSpec := { name := "fnOnePartOk", fn := fun _ => fun
  | [d] => { results := [.lit (.bool false)], args := [d] }
  | _ => none }
def FnOnePartOkWrongFalsely : Prop := fnOnePartOkRow.holds Try.pinned (OpenSpec.ofChange fnOnePartOkWrong)

/-- 'laws.FnFirstApart': WHATEVER THE INPUT: true; the input reads as it did. -/
def fnFirstApartSpec : ChangeSpec := { name := "fnFirstApart", fn := fun _ => fun
  | [d] => { results := [.lit (.bool true)], args := [d] }
  | _ => none }
def fnFirstApartRow : OpenClaim := { program := "ytdaoifpmmgfpbaa", sum := "12aea84fa959a3bf1e8b1e608546546c178430764758c7773c5c4c0d5444b34b", func := "loop.example/graphmaps/laws.FnFirstApart", spec := "fnFirstApart", inPlace := ["(*sync.WaitGroup).Add", "internal/race.ReleaseMerge", "internal/race.Disable", "internal/race.Enable", "internal/synctest.IsInBubble", "internal/synctest.Associate[sync.WaitGroup]", "sync.fatal", "sync/atomic.OrUint64", "sync/atomic.AddUint64", "internal/race.Read", "sync/atomic.LoadUint64", "sync/atomic.StoreUint64", "internal/synctest.Disassociate[sync.WaitGroup]", "sync.runtime_Semrelease", "(*sync.WaitGroup).Done", "(*sync.WaitGroup).Wait", "internal/race.Acquire", "internal/synctest.IsAssociated[sync.WaitGroup]", "sync/atomic.CompareAndSwapUint64", "internal/race.Write", "sync.runtime_SemacquireWaitGroup"], unfollowed := true, recurses := true, leaving := true, apart := false }
def FnFirstApartSaid : Prop := fnFirstApartRow.holds Try.pinned (OpenSpec.ofChange fnFirstApartSpec)

/-- ITS FALSE NEIGHBOUR: 'it returns false'. Refute it at one input. -/
def fnFirstApartWrong : ChangeSpec := { name := "fnFirstApart", fn := fun _ => fun
  | [d] => { results := [.lit (.bool false)], args := [d] }
  | _ => none }
def FnFirstApartWrongFalsely : Prop := fnFirstApartRow.holds Try.pinned (OpenSpec.ofChange fnFirstApartWrong)

/-- 'laws.FnExactTestAt': WHATEVER THE INPUT: true; the input reads as it did. -/
def fnExactTestAtSpec : ChangeSpec := { name := "fnExactTestAt", fn := fun _ => fun
  | [d] => { results := [.lit (.bool true)], args := [d] }
  | _ => none }
def fnExactTestAtRow : OpenClaim := { program := "ytdaoifpmmgfpbaa", sum := "12aea84fa959a3bf1e8b1e608546546c178430764758c7773c5c4c0d5444b34b", func := "loop.example/graphmaps/laws.FnExactTestAt", spec := "fnExactTestAt", unfollowed := true, recurses := true, leaving := true, apart := false }
def FnExactTestAtSaid : Prop := fnExactTestAtRow.holds Try.pinned (OpenSpec.ofChange fnExactTestAtSpec)

/-- ITS FALSE NEIGHBOUR: 'it returns false'. Refute it at one input. -/
def fnExactTestAtWrong : ChangeSpec := { name := "fnExactTestAt", fn := fun _ => fun
  | [d] => { results := [.lit (.bool false)], args := [d] }
  | _ => none }
def FnExactTestAtWrongFalsely : Prop := fnExactTestAtRow.holds Try.pinned (OpenSpec.ofChange fnExactTestAtWrong)

/-- 'laws.FnExactCountsOf': WHATEVER THE INPUT: true; the input reads as it did. -/
def fnExactCountsOfSpec : ChangeSpec := { name := "fnExactCountsOf", fn := fun _ => fun
  | [d] => { results := [.lit (.bool true)], args := [d] }
  | _ => none }
def fnExactCountsOfRow : OpenClaim := { program := "ytdaoifpmmgfpbaa", sum := "12aea84fa959a3bf1e8b1e608546546c178430764758c7773c5c4c0d5444b34b", func := "loop.example/graphmaps/laws.FnExactCountsOf", spec := "fnExactCountsOf", inPlace := ["(*sync.WaitGroup).Add", "internal/race.ReleaseMerge", "internal/race.Disable", "internal/race.Enable", "internal/synctest.IsInBubble", "internal/synctest.Associate[sync.WaitGroup]", "sync.fatal", "sync/atomic.OrUint64", "sync/atomic.AddUint64", "internal/race.Read", "sync/atomic.LoadUint64", "sync/atomic.StoreUint64", "internal/synctest.Disassociate[sync.WaitGroup]", "sync.runtime_Semrelease", "(*sync.WaitGroup).Done", "(*sync.WaitGroup).Wait", "internal/race.Acquire", "internal/synctest.IsAssociated[sync.WaitGroup]", "sync/atomic.CompareAndSwapUint64", "internal/race.Write", "sync.runtime_SemacquireWaitGroup"], unfollowed := true, recurses := true, leaving := true, apart := false }
def FnExactCountsOfSaid : Prop := fnExactCountsOfRow.holds Try.pinned (OpenSpec.ofChange fnExactCountsOfSpec)

/-- ITS FALSE NEIGHBOUR: 'it returns false'. Refute it at one input. -/
def fnExactCountsOfWrong : ChangeSpec := { name := "fnExactCountsOf", fn := fun _ => fun
  | [d] => { results := [.lit (.bool false)], args := [d] }
  | _ => none }
def FnExactCountsOfWrongFalsely : Prop := fnExactCountsOfRow.holds Try.pinned (OpenSpec.ofChange fnExactCountsOfWrong)

/-- 'laws.FnExactSameCounts': WHATEVER THE INPUT: true; the input reads as it did. -/
def fnExactSameCountsSpec : ChangeSpec := { name := "fnExactSameCounts", fn := fun _ => fun
  | [d1, d2] => { results := [.lit (.bool true)], args := [d1, d2] }
  | _ => none }
def fnExactSameCountsRow : OpenClaim := { program := "ytdaoifpmmgfpbaa", sum := "12aea84fa959a3bf1e8b1e608546546c178430764758c7773c5c4c0d5444b34b", func := "loop.example/graphmaps/laws.FnExactSameCounts", spec := "fnExactSameCounts", inPlace := ["(*sync.WaitGroup).Add", "internal/race.ReleaseMerge", "internal/race.Disable", "internal/race.Enable", "internal/synctest.IsInBubble", "internal/synctest.Associate[sync.WaitGroup]", "sync.fatal", "sync/atomic.OrUint64", "sync/atomic.AddUint64", "internal/race.Read", "sync/atomic.LoadUint64", "sync/atomic.StoreUint64", "internal/synctest.Disassociate[sync.WaitGroup]", "sync.runtime_Semrelease", "(*sync.WaitGroup).Done", "(*sync.WaitGroup).Wait", "internal/race.Acquire", "internal/synctest.IsAssociated[sync.WaitGroup]", "sync/atomic.CompareAndSwapUint64", "internal/race.Write", "sync.runtime_SemacquireWaitGroup"], unfollowed := true, recurses := true, leaving := true, apart := false }
def FnExactSameCountsSaid : Prop := fnExactSameCountsRow.holds Try.pinned (OpenSpec.ofChange fnExactSameCountsSpec)

/-- ITS FALSE NEIGHBOUR: 'it returns false'. Refute it at one input. -/
def fnExactSameCountsWrong : ChangeSpec := { name := "fnExactSameCounts", fn := fun _ => fun
  | [d1, d2] => { results := [.lit (.bool false)], args := [d1, d2] }
  | _ => none }
def FnExactSameCountsWrongFalsely : Prop := fnExactSameCountsRow.holds Try.pinned (OpenSpec.ofChange fnExactSameCountsWrong)

/-- 'laws.FnExactOnePartOk': WHATEVER THE INPUT: true; the input reads as it did. -/
def fnExactOnePartOkSpec : ChangeSpec := { name := "fnExactOnePartOk", fn := fun _ => fun
  | [d] => { results := [.lit (.bool true)], args := [d] }
  | _ => none }
def fnExactOnePartOkRow : OpenClaim := { program := "ytdaoifpmmgfpbaa", sum := "12aea84fa959a3bf1e8b1e608546546c178430764758c7773c5c4c0d5444b34b", func := "loop.example/graphmaps/laws.FnExactOnePartOk", spec := "fnExactOnePartOk", unfollowed := true, recurses := true, leaving := true, apart := false }
def FnExactOnePartOkSaid : Prop := fnExactOnePartOkRow.holds Try.pinned (OpenSpec.ofChange fnExactOnePartOkSpec)

/-- ITS FALSE NEIGHBOUR: 'it returns false'. Refute it at one input. -/
def fnExactOnePartOkWrong : ChangeSpec := { name := "fnExactOnePartOk", fn := fun _ => fun
  | [d] => { results := [.lit (.bool false)], args := [d] }
  | _ => none }
def FnExactOnePartOkWrongFalsely : Prop := fnExactOnePartOkRow.holds Try.pinned (OpenSpec.ofChange fnExactOnePartOkWrong)

/-- 'laws.FnExactFirstApart': WHATEVER THE INPUT: true; the input reads as it did. -/
def fnExactFirstApartSpec : ChangeSpec := { name := "fnExactFirstApart", fn := fun _ => fun
  | [d1, d2] => { results := [.lit (.bool true)], args := [d1, d2] }
  | _ => none }
def fnExactFirstApartRow : OpenClaim := { program := "ytdaoifpmmgfpbaa", sum := "12aea84fa959a3bf1e8b1e608546546c178430764758c7773c5c4c0d5444b34b", func := "loop.example/graphmaps/laws.FnExactFirstApart", spec := "fnExactFirstApart", inPlace := ["(*sync.WaitGroup).Add", "internal/race.ReleaseMerge", "internal/race.Disable", "internal/race.Enable", "internal/synctest.IsInBubble", "internal/synctest.Associate[sync.WaitGroup]", "sync.fatal", "sync/atomic.OrUint64", "sync/atomic.AddUint64", "internal/race.Read", "sync/atomic.LoadUint64", "sync/atomic.StoreUint64", "internal/synctest.Disassociate[sync.WaitGroup]", "sync.runtime_Semrelease", "(*sync.WaitGroup).Done", "(*sync.WaitGroup).Wait", "internal/race.Acquire", "internal/synctest.IsAssociated[sync.WaitGroup]", "sync/atomic.CompareAndSwapUint64", "internal/race.Write", "sync.runtime_SemacquireWaitGroup"], unfollowed := true, recurses := true, leaving := true, apart := false }
def FnExactFirstApartSaid : Prop := fnExactFirstApartRow.holds Try.pinned (OpenSpec.ofChange fnExactFirstApartSpec)

/-- ITS FALSE NEIGHBOUR: 'it returns false'. Refute it at one input. -/
def fnExactFirstApartWrong : ChangeSpec := { name := "fnExactFirstApart", fn := fun _ => fun
  | [d1, d2] => { results := [.lit (.bool false)], args := [d1, d2] }
  | _ => none }
def FnExactFirstApartWrongFalsely : Prop := fnExactFirstApartRow.holds Try.pinned (OpenSpec.ofChange fnExactFirstApartWrong)

/- THE SECOND FORM. 'bulk': how many values and letters a reading holds, each counted each time it is reached (what is shared counts as often as it is met; a slice's spare places count too). A statement '..UptoSaid' is the law's where the arguments, and the package variables that the reading takes, are together of bulk at most 1048576: NARROWER than '..Said'. Prove '..Said' where nothing that the law and all that it calls make is longer than what came in: it says more and counts as full. Else prove '..UptoSaid'. A law counts once. -/
mutual
def uptoBulk {H : Type} : DataW H → Nat
  | .lit (.string bytes) => bytes.length + 1
  | .lit _ => 1
  | .nil => 1
  | .ptr d => uptoBulk d + 1
  | .slice elems spare => uptoBulkAll elems + uptoBulkAll spare + 1
  | .agg parts => uptoBulkAll parts + 1
  | .iface _ d => uptoBulk d + 1
  | .map entries => uptoBulkEntries entries + 1
  | .held _ => 1
def uptoBulkAll {H : Type} : List (DataW H) → Nat
  | [] => 0
  | d :: r => uptoBulk d + uptoBulkAll r
def uptoBulkEntries {H : Type} : List (Lit × DataW H) → Nat
  | [] => 0
  | x :: r => uptoBulkEntry x + uptoBulkEntries r
def uptoBulkEntry {H : Type} : Lit × DataW H → Nat
  | (.string bytes, d) => bytes.length + uptoBulk d + 1
  | (_, d) => uptoBulk d + 1
 end
def uptoSmall : (H : Type) → List (DataW H) → Bool := fun _ ds => decide (uptoBulkAll ds ≤ 1048576)
def OpenSpec.upto (s : _root_.Go.ChangeSpec) : _root_.Go.OpenSpec := { _root_.Go.OpenSpec.ofChange s with cond := some uptoSmall }

/-- 'laws.FnTestAt', WHERE WHAT IT READS IS OF BULK AT MOST 1048576: true; the input reads as it did. -/
def fnTestAtUptoRow : OpenClaim := { program := "ytdaoifpmmgfpbaa", sum := "12aea84fa959a3bf1e8b1e608546546c178430764758c7773c5c4c0d5444b34b", func := "loop.example/graphmaps/laws.FnTestAt", spec := "fnTestAt", unfollowed := true, recurses := true, leaving := true, apart := false, narrowed := true }
def FnTestAtUptoSaid : Prop := fnTestAtUptoRow.holds Try.pinned (OpenSpec.upto fnTestAtSpec)

/-- 'laws.FnCountsOf', WHERE WHAT IT READS IS OF BULK AT MOST 1048576: true; the input reads as it did. -/
def fnCountsOfUptoRow : OpenClaim := { program := "ytdaoifpmmgfpbaa", sum := "12aea84fa959a3bf1e8b1e608546546c178430764758c7773c5c4c0d5444b34b", func := "loop.example/graphmaps/laws.FnCountsOf", spec := "fnCountsOf", inPlace := ["(*sync.WaitGroup).Add", "internal/race.ReleaseMerge", "internal/race.Disable", "internal/race.Enable", "internal/synctest.IsInBubble", "internal/synctest.Associate[sync.WaitGroup]", "sync.fatal", "sync/atomic.OrUint64", "sync/atomic.AddUint64", "internal/race.Read", "sync/atomic.LoadUint64", "sync/atomic.StoreUint64", "internal/synctest.Disassociate[sync.WaitGroup]", "sync.runtime_Semrelease", "(*sync.WaitGroup).Done", "(*sync.WaitGroup).Wait", "internal/race.Acquire", "internal/synctest.IsAssociated[sync.WaitGroup]", "sync/atomic.CompareAndSwapUint64", "internal/race.Write", "sync.runtime_SemacquireWaitGroup"], unfollowed := true, recurses := true, leaving := true, apart := false, narrowed := true }
def FnCountsOfUptoSaid : Prop := fnCountsOfUptoRow.holds Try.pinned (OpenSpec.upto fnCountsOfSpec)

/-- 'laws.FnSameCounts', WHERE WHAT IT READS IS OF BULK AT MOST 1048576: true; the input reads as it did. -/
def fnSameCountsUptoRow : OpenClaim := { program := "ytdaoifpmmgfpbaa", sum := "12aea84fa959a3bf1e8b1e608546546c178430764758c7773c5c4c0d5444b34b", func := "loop.example/graphmaps/laws.FnSameCounts", spec := "fnSameCounts", inPlace := ["(*sync.WaitGroup).Add", "internal/race.ReleaseMerge", "internal/race.Disable", "internal/race.Enable", "internal/synctest.IsInBubble", "internal/synctest.Associate[sync.WaitGroup]", "sync.fatal", "sync/atomic.OrUint64", "sync/atomic.AddUint64", "internal/race.Read", "sync/atomic.LoadUint64", "sync/atomic.StoreUint64", "internal/synctest.Disassociate[sync.WaitGroup]", "sync.runtime_Semrelease", "(*sync.WaitGroup).Done", "(*sync.WaitGroup).Wait", "internal/race.Acquire", "internal/synctest.IsAssociated[sync.WaitGroup]", "sync/atomic.CompareAndSwapUint64", "internal/race.Write", "sync.runtime_SemacquireWaitGroup"], unfollowed := true, recurses := true, leaving := true, apart := false, narrowed := true }
def FnSameCountsUptoSaid : Prop := fnSameCountsUptoRow.holds Try.pinned (OpenSpec.upto fnSameCountsSpec)

/-- 'laws.FnOnePartOk', WHERE WHAT IT READS IS OF BULK AT MOST 1048576: true; the input reads as it did. -/
def fnOnePartOkUptoRow : OpenClaim := { program := "ytdaoifpmmgfpbaa", sum := "12aea84fa959a3bf1e8b1e608546546c178430764758c7773c5c4c0d5444b34b", func := "loop.example/graphmaps/laws.FnOnePartOk", spec := "fnOnePartOk", unfollowed := true, recurses := true, leaving := true, apart := false, narrowed := true }
def FnOnePartOkUptoSaid : Prop := fnOnePartOkUptoRow.holds Try.pinned (OpenSpec.upto fnOnePartOkSpec)

/-- 'laws.FnFirstApart', WHERE WHAT IT READS IS OF BULK AT MOST 1048576: true; the input reads as it did. -/
def fnFirstApartUptoRow : OpenClaim := { program := "ytdaoifpmmgfpbaa", sum := "12aea84fa959a3bf1e8b1e608546546c178430764758c7773c5c4c0d5444b34b", func := "loop.example/graphmaps/laws.FnFirstApart", spec := "fnFirstApart", inPlace := ["(*sync.WaitGroup).Add", "internal/race.ReleaseMerge", "internal/race.Disable", "internal/race.Enable", "internal/synctest.IsInBubble", "internal/synctest.Associate[sync.WaitGroup]", "sync.fatal", "sync/atomic.OrUint64", "sync/atomic.AddUint64", "internal/race.Read", "sync/atomic.LoadUint64", "sync/atomic.StoreUint64", "internal/synctest.Disassociate[sync.WaitGroup]", "sync.runtime_Semrelease", "(*sync.WaitGroup).Done", "(*sync.WaitGroup).Wait", "internal/race.Acquire", "internal/synctest.IsAssociated[sync.WaitGroup]", "sync/atomic.CompareAndSwapUint64", "internal/race.Write", "sync.runtime_SemacquireWaitGroup"], unfollowed := true, recurses := true, leaving := true, apart := false, narrowed := true }
def FnFirstApartUptoSaid : Prop := fnFirstApartUptoRow.holds Try.pinned (OpenSpec.upto fnFirstApartSpec)

/-- 'laws.FnExactTestAt', WHERE WHAT IT READS IS OF BULK AT MOST 1048576: true; the input reads as it did. -/
def fnExactTestAtUptoRow : OpenClaim := { program := "ytdaoifpmmgfpbaa", sum := "12aea84fa959a3bf1e8b1e608546546c178430764758c7773c5c4c0d5444b34b", func := "loop.example/graphmaps/laws.FnExactTestAt", spec := "fnExactTestAt", unfollowed := true, recurses := true, leaving := true, apart := false, narrowed := true }
def FnExactTestAtUptoSaid : Prop := fnExactTestAtUptoRow.holds Try.pinned (OpenSpec.upto fnExactTestAtSpec)

/-- 'laws.FnExactCountsOf', WHERE WHAT IT READS IS OF BULK AT MOST 1048576: true; the input reads as it did. -/
def fnExactCountsOfUptoRow : OpenClaim := { program := "ytdaoifpmmgfpbaa", sum := "12aea84fa959a3bf1e8b1e608546546c178430764758c7773c5c4c0d5444b34b", func := "loop.example/graphmaps/laws.FnExactCountsOf", spec := "fnExactCountsOf", inPlace := ["(*sync.WaitGroup).Add", "internal/race.ReleaseMerge", "internal/race.Disable", "internal/race.Enable", "internal/synctest.IsInBubble", "internal/synctest.Associate[sync.WaitGroup]", "sync.fatal", "sync/atomic.OrUint64", "sync/atomic.AddUint64", "internal/race.Read", "sync/atomic.LoadUint64", "sync/atomic.StoreUint64", "internal/synctest.Disassociate[sync.WaitGroup]", "sync.runtime_Semrelease", "(*sync.WaitGroup).Done", "(*sync.WaitGroup).Wait", "internal/race.Acquire", "internal/synctest.IsAssociated[sync.WaitGroup]", "sync/atomic.CompareAndSwapUint64", "internal/race.Write", "sync.runtime_SemacquireWaitGroup"], unfollowed := true, recurses := true, leaving := true, apart := false, narrowed := true }
def FnExactCountsOfUptoSaid : Prop := fnExactCountsOfUptoRow.holds Try.pinned (OpenSpec.upto fnExactCountsOfSpec)

/-- 'laws.FnExactSameCounts', WHERE WHAT IT READS IS OF BULK AT MOST 1048576: true; the input reads as it did. -/
def fnExactSameCountsUptoRow : OpenClaim := { program := "ytdaoifpmmgfpbaa", sum := "12aea84fa959a3bf1e8b1e608546546c178430764758c7773c5c4c0d5444b34b", func := "loop.example/graphmaps/laws.FnExactSameCounts", spec := "fnExactSameCounts", inPlace := ["(*sync.WaitGroup).Add", "internal/race.ReleaseMerge", "internal/race.Disable", "internal/race.Enable", "internal/synctest.IsInBubble", "internal/synctest.Associate[sync.WaitGroup]", "sync.fatal", "sync/atomic.OrUint64", "sync/atomic.AddUint64", "internal/race.Read", "sync/atomic.LoadUint64", "sync/atomic.StoreUint64", "internal/synctest.Disassociate[sync.WaitGroup]", "sync.runtime_Semrelease", "(*sync.WaitGroup).Done", "(*sync.WaitGroup).Wait", "internal/race.Acquire", "internal/synctest.IsAssociated[sync.WaitGroup]", "sync/atomic.CompareAndSwapUint64", "internal/race.Write", "sync.runtime_SemacquireWaitGroup"], unfollowed := true, recurses := true, leaving := true, apart := false, narrowed := true }
def FnExactSameCountsUptoSaid : Prop := fnExactSameCountsUptoRow.holds Try.pinned (OpenSpec.upto fnExactSameCountsSpec)

/-- 'laws.FnExactOnePartOk', WHERE WHAT IT READS IS OF BULK AT MOST 1048576: true; the input reads as it did. -/
def fnExactOnePartOkUptoRow : OpenClaim := { program := "ytdaoifpmmgfpbaa", sum := "12aea84fa959a3bf1e8b1e608546546c178430764758c7773c5c4c0d5444b34b", func := "loop.example/graphmaps/laws.FnExactOnePartOk", spec := "fnExactOnePartOk", unfollowed := true, recurses := true, leaving := true, apart := false, narrowed := true }
def FnExactOnePartOkUptoSaid : Prop := fnExactOnePartOkUptoRow.holds Try.pinned (OpenSpec.upto fnExactOnePartOkSpec)

/-- 'laws.FnExactFirstApart', WHERE WHAT IT READS IS OF BULK AT MOST 1048576: true; the input reads as it did. -/
def fnExactFirstApartUptoRow : OpenClaim := { program := "ytdaoifpmmgfpbaa", sum := "12aea84fa959a3bf1e8b1e608546546c178430764758c7773c5c4c0d5444b34b", func := "loop.example/graphmaps/laws.FnExactFirstApart", spec := "fnExactFirstApart", inPlace := ["(*sync.WaitGroup).Add", "internal/race.ReleaseMerge", "internal/race.Disable", "internal/race.Enable", "internal/synctest.IsInBubble", "internal/synctest.Associate[sync.WaitGroup]", "sync.fatal", "sync/atomic.OrUint64", "sync/atomic.AddUint64", "internal/race.Read", "sync/atomic.LoadUint64", "sync/atomic.StoreUint64", "internal/synctest.Disassociate[sync.WaitGroup]", "sync.runtime_Semrelease", "(*sync.WaitGroup).Done", "(*sync.WaitGroup).Wait", "internal/race.Acquire", "internal/synctest.IsAssociated[sync.WaitGroup]", "sync/atomic.CompareAndSwapUint64", "internal/race.Write", "sync.runtime_SemacquireWaitGroup"], unfollowed := true, recurses := true, leaving := true, apart := false, narrowed := true }
def FnExactFirstApartUptoSaid : Prop := fnExactFirstApartUptoRow.holds Try.pinned (OpenSpec.upto fnExactFirstApartSpec)

end Rows
end Go.Proofs.Ytdaoifpmmgfpbaa
