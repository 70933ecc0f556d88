/-
  No cell of these rows narrows 'for every input' (looked for: loops, veiled, ifaces, maps, wideKeys, modest, calm, conditions, laid).
  DERIVED. THE GIVEN ROWS OF THIS SEAT. 6 by the template 'for every input the law returns true; each argument reads behind the call as it read before'; 0 by the template 'total and deterministic' (their statements: YtimjijbjadkfnaaTotals.lean).
  GIVEN WITH THE SEED: the statements are not yours to turn. If you find one false, say at which input.
  Laid BY PROGRAM, IN A SANDBOX (cutbox-rows.mjs): the forced cells as the released guide's own fill.sh prints them over the translation 7d3f996b70edca2e… (all of the seat's roots in one cut). By AI agents, Wed Nov 11 2026. No macro, syntax, notation, axiom, sorry.
-/
import Derived.Test.YtimjijbjadkfnaaChecked
import GoSem.Claim
import GoSem.ClaimJoined
import GoSem.ClaimMapViews
import Derived.JoinedTies
import Derived.KernelRfl
namespace Go.Proofs.Ytimjijbjadkfnaa
/- THE CELL 'sum', in the pinned program and in every row, IS THE sha256 OF THE DUMP (.gsa) THAT YtimjijbjadkfnaaProg.lean LOADS. Nothing in Lean hashes anything: it is a label: what it is worth is what the hold of that sum in a sandbox is worth. -/
noncomputable def Try.pinned : Pinned := { name := "ytimjijbjadkfnaa", sum := "7d3f996b70edca2ed5f3818bc650e7fa2547b230960623c1c96e502cb622b51a", checked := Try.checked }
namespace Rows
def none {H : Type} : Left H := { results := [], args := [] }

/-- 'laws.FnFewOk': WHATEVER THE INPUT: true; the input reads as it did. -/
def fnFewOkSpec : ChangeSpec := { name := "fnFewOk", fn := fun _ => fun
  | [d] => { results := [.lit (.bool true)], args := [d] }
  | _ => none }
def fnFewOkRow : OpenClaim := { program := "ytimjijbjadkfnaa", sum := "7d3f996b70edca2ed5f3818bc650e7fa2547b230960623c1c96e502cb622b51a", func := "loop.example/graphmaps/laws.FnFewOk", spec := "fnFewOk", unfollowed := true, recurses := true, apart := false }
def FnFewOkSaid : Prop := fnFewOkRow.holds Try.pinned (OpenSpec.ofChange fnFewOkSpec)

/-- ITS FALSE NEIGHBOUR: 'it returns false'. Refute it at one input. -/
def fnFewOkWrong : ChangeSpec := { name := "fnFewOk", fn := fun _ => fun
  | [d] => { results := [.lit (.bool false)], args := [d] }
  | _ => none }
def FnFewOkWrongFalsely : Prop := fnFewOkRow.holds Try.pinned (OpenSpec.ofChange fnFewOkWrong)

/-- 'laws.FnMapsOf': WHATEVER THE INPUT: true; the input reads as it did. -/
def fnMapsOfSpec : ChangeSpec := { name := "fnMapsOf", fn := fun _ => fun
  | [d] => { results := [.lit (.bool true)], args := [d] }
  | _ => none }
def fnMapsOfRow : OpenClaim := { program := "ytimjijbjadkfnaa", sum := "7d3f996b70edca2ed5f3818bc650e7fa2547b230960623c1c96e502cb622b51a", func := "loop.example/graphmaps/laws.FnMapsOf", spec := "fnMapsOf", unfollowed := true, recurses := true, apart := false }
def FnMapsOfSaid : Prop := fnMapsOfRow.holds Try.pinned (OpenSpec.ofChange fnMapsOfSpec)

/-- ITS FALSE NEIGHBOUR: 'it returns false'. Refute it at one input. -/
def fnMapsOfWrong : ChangeSpec := { name := "fnMapsOf", fn := fun _ => fun
  | [d] => { results := [.lit (.bool false)], args := [d] }
  | _ => none }
def FnMapsOfWrongFalsely : Prop := fnMapsOfRow.holds Try.pinned (OpenSpec.ofChange fnMapsOfWrong)

/-- 'laws.FnCountOf': WHATEVER THE INPUT: true; the input reads as it did. -/
def fnCountOfSpec : ChangeSpec := { name := "fnCountOf", fn := fun _ => fun
  | [d] => { results := [.lit (.bool true)], args := [d] }
  | _ => none }
def fnCountOfRow : OpenClaim := { program := "ytimjijbjadkfnaa", sum := "7d3f996b70edca2ed5f3818bc650e7fa2547b230960623c1c96e502cb622b51a", func := "loop.example/graphmaps/laws.FnCountOf", spec := "fnCountOf", unfollowed := true, recurses := true, apart := false }
def FnCountOfSaid : Prop := fnCountOfRow.holds Try.pinned (OpenSpec.ofChange fnCountOfSpec)

/-- ITS FALSE NEIGHBOUR: 'it returns false'. Refute it at one input. -/
def fnCountOfWrong : ChangeSpec := { name := "fnCountOf", fn := fun _ => fun
  | [d] => { results := [.lit (.bool false)], args := [d] }
  | _ => none }
def FnCountOfWrongFalsely : Prop := fnCountOfRow.holds Try.pinned (OpenSpec.ofChange fnCountOfWrong)

/-- 'laws.FnBelowOk': WHATEVER THE INPUT: true; the input reads as it did. -/
def fnBelowOkSpec : ChangeSpec := { name := "fnBelowOk", fn := fun _ => fun
  | [d1, d2] => { results := [.lit (.bool true)], args := [d1, d2] }
  | _ => none }
def fnBelowOkRow : OpenClaim := { program := "ytimjijbjadkfnaa", sum := "7d3f996b70edca2ed5f3818bc650e7fa2547b230960623c1c96e502cb622b51a", func := "loop.example/graphmaps/laws.FnBelowOk", spec := "fnBelowOk", unfollowed := true, recurses := true, apart := false }
def FnBelowOkSaid : Prop := fnBelowOkRow.holds Try.pinned (OpenSpec.ofChange fnBelowOkSpec)

/-- ITS FALSE NEIGHBOUR: 'it returns false'. Refute it at one input. -/
def fnBelowOkWrong : ChangeSpec := { name := "fnBelowOk", fn := fun _ => fun
  | [d1, d2] => { results := [.lit (.bool false)], args := [d1, d2] }
  | _ => none }
def FnBelowOkWrongFalsely : Prop := fnBelowOkRow.holds Try.pinned (OpenSpec.ofChange fnBelowOkWrong)

/-- 'laws.FnSameLevel': WHATEVER THE INPUT: true; the input reads as it did. -/
def fnSameLevelSpec : ChangeSpec := { name := "fnSameLevel", fn := fun _ => fun
  | [d] => { results := [.lit (.bool true)], args := [d] }
  | _ => none }
def fnSameLevelRow : OpenClaim := { program := "ytimjijbjadkfnaa", sum := "7d3f996b70edca2ed5f3818bc650e7fa2547b230960623c1c96e502cb622b51a", func := "loop.example/graphmaps/laws.FnSameLevel", spec := "fnSameLevel", unfollowed := true, recurses := true, apart := false }
def FnSameLevelSaid : Prop := fnSameLevelRow.holds Try.pinned (OpenSpec.ofChange fnSameLevelSpec)

/-- ITS FALSE NEIGHBOUR: 'it returns false'. Refute it at one input. -/
def fnSameLevelWrong : ChangeSpec := { name := "fnSameLevel", fn := fun _ => fun
  | [d] => { results := [.lit (.bool false)], args := [d] }
  | _ => none }
def FnSameLevelWrongFalsely : Prop := fnSameLevelRow.holds Try.pinned (OpenSpec.ofChange fnSameLevelWrong)

/-- 'laws.FnTimesOf': WHATEVER THE INPUT: true; the input reads as it did. -/
def fnTimesOfSpec : ChangeSpec := { name := "fnTimesOf", fn := fun _ => fun
  | [d1, d2] => { results := [.lit (.bool true)], args := [d1, d2] }
  | _ => none }
def fnTimesOfRow : OpenClaim := { program := "ytimjijbjadkfnaa", sum := "7d3f996b70edca2ed5f3818bc650e7fa2547b230960623c1c96e502cb622b51a", func := "loop.example/graphmaps/laws.FnTimesOf", spec := "fnTimesOf", unfollowed := true, recurses := true, apart := false }
def FnTimesOfSaid : Prop := fnTimesOfRow.holds Try.pinned (OpenSpec.ofChange fnTimesOfSpec)

/-- ITS FALSE NEIGHBOUR: 'it returns false'. Refute it at one input. -/
def fnTimesOfWrong : ChangeSpec := { name := "fnTimesOf", fn := fun _ => fun
  | [d1, d2] => { results := [.lit (.bool false)], args := [d1, d2] }
  | _ => none }
def FnTimesOfWrongFalsely : Prop := fnTimesOfRow.holds Try.pinned (OpenSpec.ofChange fnTimesOfWrong)

/- THE SECOND FORM. 'bulk': how many values and letters a reading holds, each counted each time it is reached (what is shared counts as often as it is met; a slice's spare places count too). A statement '..UptoSaid' is the law's where the arguments, and the package variables that the reading takes, are together of bulk at most 1048576: NARROWER than '..Said'. Prove '..Said' where nothing that the law and all that it calls make is longer than what came in: it says more and counts as full. Else prove '..UptoSaid'. A law counts once. -/
mutual
def uptoBulk {H : Type} : DataW H → Nat
  | .lit (.string bytes) => bytes.length + 1
  | .lit _ => 1
  | .nil => 1
  | .ptr d => uptoBulk d + 1
  | .slice elems spare => uptoBulkAll elems + uptoBulkAll spare + 1
  | .agg parts => uptoBulkAll parts + 1
  | .iface _ d => uptoBulk d + 1
  | .map entries => uptoBulkEntries entries + 1
  | .held _ => 1
def uptoBulkAll {H : Type} : List (DataW H) → Nat
  | [] => 0
  | d :: r => uptoBulk d + uptoBulkAll r
def uptoBulkEntries {H : Type} : List (Lit × DataW H) → Nat
  | [] => 0
  | x :: r => uptoBulkEntry x + uptoBulkEntries r
def uptoBulkEntry {H : Type} : Lit × DataW H → Nat
  | (.string bytes, d) => bytes.length + uptoBulk d + 1
  | (_, d) => uptoBulk d + 1
 end
def uptoSmall : (H : Type) → List (DataW H) → Bool := fun _ ds => decide (uptoBulkAll ds ≤ 1048576)
def OpenSpec.upto (s : _root_.Go.ChangeSpec) : _root_.Go.OpenSpec := { _root_.Go.OpenSpec.ofChange s with cond := some uptoSmall }

/-- 'laws.FnFewOk', WHERE WHAT IT READS IS OF BULK AT MOST 1048576: true; the input reads as it did. -/
def fnFewOkUptoRow : OpenClaim := { program := "ytimjijbjadkfnaa", sum := "7d3f996b70edca2ed5f3818bc650e7fa2547b230960623c1c96e502cb622b51a", func := "loop.example/graphmaps/laws.FnFewOk", spec := "fnFewOk", unfollowed := true, recurses := true, apart := false, narrowed := true }
def FnFewOkUptoSaid : Prop := fnFewOkUptoRow.holds Try.pinned (OpenSpec.upto fnFewOkSpec)

/-- 'laws.FnMapsOf', WHERE WHAT IT READS IS OF BULK AT MOST 1048576: true; the input reads as it did. -/
def fnMapsOfUptoRow : OpenClaim := { program := "ytimjijbjadkfnaa", sum := "7d3f996b70edca2ed5f3818bc650e7fa2547b230960623c1c96e502cb622b51a", func := "loop.example/graphmaps/laws.FnMapsOf", spec := "fnMapsOf", unfollowed := true, recurses := true, apart := false, narrowed := true }
def FnMapsOfUptoSaid : Prop := fnMapsOfUptoRow.holds Try.pinned (OpenSpec.upto fnMapsOfSpec)

/-- 'laws.FnCountOf', WHERE WHAT IT READS IS OF BULK AT MOST 1048576: true; the input reads as it did. -/
def fnCountOfUptoRow : OpenClaim := { program := "ytimjijbjadkfnaa", sum := "7d3f996b70edca2ed5f3818bc650e7fa2547b230960623c1c96e502cb622b51a", func := "loop.example/graphmaps/laws.FnCountOf", spec := "fnCountOf", unfollowed := true, recurses := true, apart := false, narrowed := true }
def FnCountOfUptoSaid : Prop := fnCountOfUptoRow.holds Try.pinned (OpenSpec.upto fnCountOfSpec)

/-- 'laws.FnBelowOk', WHERE WHAT IT READS IS OF BULK AT MOST 1048576: true; the input reads as it did. -/
def fnBelowOkUptoRow : OpenClaim := { program := "ytimjijbjadkfnaa", sum := "7d3f996b70edca2ed5f3818bc650e7fa2547b230960623c1c96e502cb622b51a", func := "loop.example/graphmaps/laws.FnBelowOk", spec := "fnBelowOk", unfollowed := true, recurses := true, apart := false, narrowed := true }
def FnBelowOkUptoSaid : Prop := fnBelowOkUptoRow.holds Try.pinned (OpenSpec.upto fnBelowOkSpec)

/-- 'laws.FnSameLevel', WHERE WHAT IT READS IS OF BULK AT MOST 1048576: true; the input reads as it did. -/
def fnSameLevelUptoRow : OpenClaim := { program := "ytimjijbjadkfnaa", sum := "7d3f996b70edca2ed5f3818bc650e7fa2547b230960623c1c96e502cb622b51a", func := "loop.example/graphmaps/laws.FnSameLevel", spec := "fnSameLevel", unfollowed := true, recurses := true, apart := false, narrowed := true }
def FnSameLevelUptoSaid : Prop := fnSameLevelUptoRow.holds Try.pinned (OpenSpec.upto fnSameLevelSpec)

/-- 'laws.FnTimesOf', WHERE WHAT IT READS IS OF BULK AT MOST 1048576: true; the input reads as it did. -/
def fnTimesOfUptoRow : OpenClaim := { program := "ytimjijbjadkfnaa", sum := "7d3f996b70edca2ed5f3818bc650e7fa2547b230960623c1c96e502cb622b51a", func := "loop.example/graphmaps/laws.FnTimesOf", spec := "fnTimesOf", unfollowed := true, recurses := true, apart := false, narrowed := true }
def FnTimesOfUptoSaid : Prop := fnTimesOfUptoRow.holds Try.pinned (OpenSpec.upto fnTimesOfSpec)

end Rows
end Go.Proofs.Ytimjijbjadkfnaa
