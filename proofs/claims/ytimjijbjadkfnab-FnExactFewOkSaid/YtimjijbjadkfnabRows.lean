/-
  No cell of these rows narrows 'for every input' (looked for: loops, veiled, ifaces, maps, wideKeys, modest, calm, conditions, laid).
  DERIVED. THE GIVEN ROWS OF THIS SEAT. 6 by the template 'for every input the law returns true; each argument reads behind the call as it read before'; 0 by the template 'total and deterministic' (their statements: YtimjijbjadkfnabTotals.lean).
  GIVEN WITH THE SEED: the statements are not yours to turn. If you find one false, say at which input.
  Laid BY PROGRAM, IN A SANDBOX (cutbox-rows.mjs): the forced cells as the released guide's own fill.sh prints them over the translation b1bf759bd3c6b0f9… (all of the seat's roots in one cut). By AI agents, Wed Nov 11 2026. No macro, syntax, notation, axiom, sorry.
-/
import Derived.Test.YtimjijbjadkfnabChecked
import GoSem.Claim
import GoSem.ClaimJoined
import GoSem.ClaimMapViews
import Derived.JoinedTies
import Derived.KernelRfl
namespace Go.Proofs.Ytimjijbjadkfnab
/- THE CELL 'sum', in the pinned program and in every row, IS THE sha256 OF THE DUMP (.gsa) THAT YtimjijbjadkfnabProg.lean LOADS. Nothing in Lean hashes anything: it is a label: what it is worth is what the hold of that sum in a sandbox is worth. -/
noncomputable def Try.pinned : Pinned := { name := "ytimjijbjadkfnab", sum := "b1bf759bd3c6b0f9a1e0fc97f51a6a6ed22dd824a28bc62bbecbb0edfe93684a", checked := Try.checked }
namespace Rows
def none {H : Type} : Left H := { results := [], args := [] }

/-- 'laws.FnJoinedOf': WHATEVER THE INPUT: true; the input reads as it did. -/
def fnJoinedOfSpec : ChangeSpec := { name := "fnJoinedOf", fn := fun _ => fun
  | [d] => { results := [.lit (.bool true)], args := [d] }
  | _ => none }
def fnJoinedOfRow : OpenClaim := { program := "ytimjijbjadkfnab", sum := "b1bf759bd3c6b0f9a1e0fc97f51a6a6ed22dd824a28bc62bbecbb0edfe93684a", func := "loop.example/graphmaps/laws.FnJoinedOf", spec := "fnJoinedOf", unfollowed := true, recurses := true, apart := false }
def FnJoinedOfSaid : Prop := fnJoinedOfRow.holds Try.pinned (OpenSpec.ofChange fnJoinedOfSpec)

/-- ITS FALSE NEIGHBOUR: 'it returns false'. Refute it at one input. -/
def fnJoinedOfWrong : ChangeSpec := { name := "fnJoinedOf", fn := fun _ => fun
  | [d] => { results := [.lit (.bool false)], args := [d] }
  | _ => none }
def FnJoinedOfWrongFalsely : Prop := fnJoinedOfRow.holds Try.pinned (OpenSpec.ofChange fnJoinedOfWrong)

/-- 'laws.FnExactFewOk': WHATEVER THE INPUT: true; the input reads as it did. -/
def fnExactFewOkSpec : ChangeSpec := { name := "fnExactFewOk", fn := fun _ => fun
  | [d1, d2] => { results := [.lit (.bool true)], args := [d1, d2] }
  | _ => none }
def fnExactFewOkRow : OpenClaim := { program := "ytimjijbjadkfnab", sum := "b1bf759bd3c6b0f9a1e0fc97f51a6a6ed22dd824a28bc62bbecbb0edfe93684a", func := "loop.example/graphmaps/laws.FnExactFewOk", spec := "fnExactFewOk", unfollowed := true, recurses := true, apart := false }
def FnExactFewOkSaid : Prop := fnExactFewOkRow.holds Try.pinned (OpenSpec.ofChange fnExactFewOkSpec)

/-- ITS FALSE NEIGHBOUR: 'it returns false'. Refute it at one input. -/
def fnExactFewOkWrong : ChangeSpec := { name := "fnExactFewOk", fn := fun _ => fun
  | [d1, d2] => { results := [.lit (.bool false)], args := [d1, d2] }
  | _ => none }
def FnExactFewOkWrongFalsely : Prop := fnExactFewOkRow.holds Try.pinned (OpenSpec.ofChange fnExactFewOkWrong)

/-- 'laws.FnExactMapsOf': WHATEVER THE INPUT: true; the input reads as it did. -/
def fnExactMapsOfSpec : ChangeSpec := { name := "fnExactMapsOf", fn := fun _ => fun
  | [d1, d2] => { results := [.lit (.bool true)], args := [d1, d2] }
  | _ => none }
def fnExactMapsOfRow : OpenClaim := { program := "ytimjijbjadkfnab", sum := "b1bf759bd3c6b0f9a1e0fc97f51a6a6ed22dd824a28bc62bbecbb0edfe93684a", func := "loop.example/graphmaps/laws.FnExactMapsOf", spec := "fnExactMapsOf", unfollowed := true, recurses := true, apart := false }
def FnExactMapsOfSaid : Prop := fnExactMapsOfRow.holds Try.pinned (OpenSpec.ofChange fnExactMapsOfSpec)

/-- ITS FALSE NEIGHBOUR: 'it returns false'. Refute it at one input. -/
def fnExactMapsOfWrong : ChangeSpec := { name := "fnExactMapsOf", fn := fun _ => fun
  | [d1, d2] => { results := [.lit (.bool false)], args := [d1, d2] }
  | _ => none }
def FnExactMapsOfWrongFalsely : Prop := fnExactMapsOfRow.holds Try.pinned (OpenSpec.ofChange fnExactMapsOfWrong)

/-- 'laws.FnExactCountOf': WHATEVER THE INPUT: true; the input reads as it did. -/
def fnExactCountOfSpec : ChangeSpec := { name := "fnExactCountOf", fn := fun _ => fun
  | [d1, d2] => { results := [.lit (.bool true)], args := [d1, d2] }
  | _ => none }
def fnExactCountOfRow : OpenClaim := { program := "ytimjijbjadkfnab", sum := "b1bf759bd3c6b0f9a1e0fc97f51a6a6ed22dd824a28bc62bbecbb0edfe93684a", func := "loop.example/graphmaps/laws.FnExactCountOf", spec := "fnExactCountOf", unfollowed := true, recurses := true, apart := false }
def FnExactCountOfSaid : Prop := fnExactCountOfRow.holds Try.pinned (OpenSpec.ofChange fnExactCountOfSpec)

/-- ITS FALSE NEIGHBOUR: 'it returns false'. Refute it at one input. -/
def fnExactCountOfWrong : ChangeSpec := { name := "fnExactCountOf", fn := fun _ => fun
  | [d1, d2] => { results := [.lit (.bool false)], args := [d1, d2] }
  | _ => none }
def FnExactCountOfWrongFalsely : Prop := fnExactCountOfRow.holds Try.pinned (OpenSpec.ofChange fnExactCountOfWrong)

/-- 'laws.FnExactBelowOk': WHATEVER THE INPUT: true; the input reads as it did. -/
def fnExactBelowOkSpec : ChangeSpec := { name := "fnExactBelowOk", fn := fun _ => fun
  | [d1, d2] => { results := [.lit (.bool true)], args := [d1, d2] }
  | _ => none }
def fnExactBelowOkRow : OpenClaim := { program := "ytimjijbjadkfnab", sum := "b1bf759bd3c6b0f9a1e0fc97f51a6a6ed22dd824a28bc62bbecbb0edfe93684a", func := "loop.example/graphmaps/laws.FnExactBelowOk", spec := "fnExactBelowOk", unfollowed := true, recurses := true, apart := false }
def FnExactBelowOkSaid : Prop := fnExactBelowOkRow.holds Try.pinned (OpenSpec.ofChange fnExactBelowOkSpec)

/-- ITS FALSE NEIGHBOUR: 'it returns false'. Refute it at one input. -/
def fnExactBelowOkWrong : ChangeSpec := { name := "fnExactBelowOk", fn := fun _ => fun
  | [d1, d2] => { results := [.lit (.bool false)], args := [d1, d2] }
  | _ => none }
def FnExactBelowOkWrongFalsely : Prop := fnExactBelowOkRow.holds Try.pinned (OpenSpec.ofChange fnExactBelowOkWrong)

/-- 'laws.FnExactSameLevel': WHATEVER THE INPUT: true; the input reads as it did. -/
def fnExactSameLevelSpec : ChangeSpec := { name := "fnExactSameLevel", fn := fun _ => fun
  | [d1, d2] => { results := [.lit (.bool true)], args := [d1, d2] }
  | _ => none }
def fnExactSameLevelRow : OpenClaim := { program := "ytimjijbjadkfnab", sum := "b1bf759bd3c6b0f9a1e0fc97f51a6a6ed22dd824a28bc62bbecbb0edfe93684a", func := "loop.example/graphmaps/laws.FnExactSameLevel", spec := "fnExactSameLevel", unfollowed := true, recurses := true, apart := false }
def FnExactSameLevelSaid : Prop := fnExactSameLevelRow.holds Try.pinned (OpenSpec.ofChange fnExactSameLevelSpec)

/-- ITS FALSE NEIGHBOUR: 'it returns false'. Refute it at one input. -/
def fnExactSameLevelWrong : ChangeSpec := { name := "fnExactSameLevel", fn := fun _ => fun
  | [d1, d2] => { results := [.lit (.bool false)], args := [d1, d2] }
  | _ => none }
def FnExactSameLevelWrongFalsely : Prop := fnExactSameLevelRow.holds Try.pinned (OpenSpec.ofChange fnExactSameLevelWrong)

/- THE SECOND FORM. 'bulk': how many values and letters a reading holds, each counted each time it is reached (what is shared counts as often as it is met; a slice's spare places count too). A statement '..UptoSaid' is the law's where the arguments, and the package variables that the reading takes, are together of bulk at most 1048576: NARROWER than '..Said'. Prove '..Said' where nothing that the law and all that it calls make is longer than what came in: it says more and counts as full. Else prove '..UptoSaid'. A law counts once. -/
mutual
def uptoBulk {H : Type} : DataW H → Nat
  | .lit (.string bytes) => bytes.length + 1
  | .lit _ => 1
  | .nil => 1
  | .ptr d => uptoBulk d + 1
  | .slice elems spare => uptoBulkAll elems + uptoBulkAll spare + 1
  | .agg parts => uptoBulkAll parts + 1
  | .iface _ d => uptoBulk d + 1
  | .map entries => uptoBulkEntries entries + 1
  | .held _ => 1
def uptoBulkAll {H : Type} : List (DataW H) → Nat
  | [] => 0
  | d :: r => uptoBulk d + uptoBulkAll r
def uptoBulkEntries {H : Type} : List (Lit × DataW H) → Nat
  | [] => 0
  | x :: r => uptoBulkEntry x + uptoBulkEntries r
def uptoBulkEntry {H : Type} : Lit × DataW H → Nat
  | (.string bytes, d) => bytes.length + uptoBulk d + 1
  | (_, d) => uptoBulk d + 1
 end
def uptoSmall : (H : Type) → List (DataW H) → Bool := fun _ ds => decide (uptoBulkAll ds ≤ 1048576)
def OpenSpec.upto (s : _root_.Go.ChangeSpec) : _root_.Go.OpenSpec := { _root_.Go.OpenSpec.ofChange s with cond := some uptoSmall }

/-- 'laws.FnJoinedOf', WHERE WHAT IT READS IS OF BULK AT MOST 1048576: true; the input reads as it did. -/
def fnJoinedOfUptoRow : OpenClaim := { program := "ytimjijbjadkfnab", sum := "b1bf759bd3c6b0f9a1e0fc97f51a6a6ed22dd824a28bc62bbecbb0edfe93684a", func := "loop.example/graphmaps/laws.FnJoinedOf", spec := "fnJoinedOf", unfollowed := true, recurses := true, apart := false, narrowed := true }
def FnJoinedOfUptoSaid : Prop := fnJoinedOfUptoRow.holds Try.pinned (OpenSpec.upto fnJoinedOfSpec)

/-- 'laws.FnExactFewOk', WHERE WHAT IT READS IS OF BULK AT MOST 1048576: true; the input reads as it did. -/
def fnExactFewOkUptoRow : OpenClaim := { program := "ytimjijbjadkfnab", sum := "b1bf759bd3c6b0f9a1e0fc97f51a6a6ed22dd824a28bc62bbecbb0edfe93684a", func := "loop.example/graphmaps/laws.FnExactFewOk", spec := "fnExactFewOk", unfollowed := true, recurses := true, apart := false, narrowed := true }
def FnExactFewOkUptoSaid : Prop := fnExactFewOkUptoRow.holds Try.pinned (OpenSpec.upto fnExactFewOkSpec)

/-- 'laws.FnExactMapsOf', WHERE WHAT IT READS IS OF BULK AT MOST 1048576: true; the input reads as it did. -/
def fnExactMapsOfUptoRow : OpenClaim := { program := "ytimjijbjadkfnab", sum := "b1bf759bd3c6b0f9a1e0fc97f51a6a6ed22dd824a28bc62bbecbb0edfe93684a", func := "loop.example/graphmaps/laws.FnExactMapsOf", spec := "fnExactMapsOf", unfollowed := true, recurses := true, apart := false, narrowed := true }
def FnExactMapsOfUptoSaid : Prop := fnExactMapsOfUptoRow.holds Try.pinned (OpenSpec.upto fnExactMapsOfSpec)

/-- 'laws.FnExactCountOf', WHERE WHAT IT READS IS OF BULK AT MOST 1048576: true; the input reads as it did. -/
def fnExactCountOfUptoRow : OpenClaim := { program := "ytimjijbjadkfnab", sum := "b1bf759bd3c6b0f9a1e0fc97f51a6a6ed22dd824a28bc62bbecbb0edfe93684a", func := "loop.example/graphmaps/laws.FnExactCountOf", spec := "fnExactCountOf", unfollowed := true, recurses := true, apart := false, narrowed := true }
def FnExactCountOfUptoSaid : Prop := fnExactCountOfUptoRow.holds Try.pinned (OpenSpec.upto fnExactCountOfSpec)

/-- 'laws.FnExactBelowOk', WHERE WHAT IT READS IS OF BULK AT MOST 1048576: true; the input reads as it did. -/
def fnExactBelowOkUptoRow : OpenClaim := { program := "ytimjijbjadkfnab", sum := "b1bf759bd3c6b0f9a1e0fc97f51a6a6ed22dd824a28bc62bbecbb0edfe93684a", func := "loop.example/graphmaps/laws.FnExactBelowOk", spec := "fnExactBelowOk", unfollowed := true, recurses := true, apart := false, narrowed := true }
def FnExactBelowOkUptoSaid : Prop := fnExactBelowOkUptoRow.holds Try.pinned (OpenSpec.upto fnExactBelowOkSpec)

/-- 'laws.FnExactSameLevel', WHERE WHAT IT READS IS OF BULK AT MOST 1048576: true; the input reads as it did. -/
def fnExactSameLevelUptoRow : OpenClaim := { program := "ytimjijbjadkfnab", sum := "b1bf759bd3c6b0f9a1e0fc97f51a6a6ed22dd824a28bc62bbecbb0edfe93684a", func := "loop.example/graphmaps/laws.FnExactSameLevel", spec := "fnExactSameLevel", unfollowed := true, recurses := true, apart := false, narrowed := true }
def FnExactSameLevelUptoSaid : Prop := fnExactSameLevelUptoRow.holds Try.pinned (OpenSpec.upto fnExactSameLevelSpec)

end Rows
end Go.Proofs.Ytimjijbjadkfnab
