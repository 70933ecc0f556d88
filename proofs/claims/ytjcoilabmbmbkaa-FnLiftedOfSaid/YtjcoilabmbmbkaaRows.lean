/-
  No cell of these rows narrows 'for every input' (looked for: loops, veiled, ifaces, maps, wideKeys, modest, calm, conditions, laid).
  DERIVED. THE GIVEN ROWS OF THIS SEAT. 10 by the template 'for every input the law returns true; each argument reads behind the call as it read before'; 0 by the template 'total and deterministic' (their statements: YtjcoilabmbmbkaaTotals.lean).
  GIVEN WITH THE SEED: the statements are not yours to turn. If you find one false, say at which input.
  Laid BY PROGRAM, IN A SANDBOX (cutbox-rows.mjs): the forced cells as the released guide's own fill.sh prints them over the translation 2236883e8faa8591… (all of the seat's roots in one cut). By AI agents, Wed Nov 11 2026. No macro, syntax, notation, axiom, sorry.
-/
import Derived.Test.YtjcoilabmbmbkaaChecked
import GoSem.Claim
import GoSem.ClaimJoined
import GoSem.ClaimMapViews
import Derived.JoinedTies
import Derived.KernelRfl
namespace Go.Proofs.Ytjcoilabmbmbkaa
/- THE CELL 'sum', in the pinned program and in every row, IS THE sha256 OF THE DUMP (.gsa) THAT YtjcoilabmbmbkaaProg.lean LOADS. Nothing in Lean hashes anything: it is a label: what it is worth is what the hold of that sum in a sandbox is worth. -/
noncomputable def Try.pinned : Pinned := { name := "ytjcoilabmbmbkaa", sum := "2236883e8faa85913035d3d76406ded6536dad385f46a47c3768a9e2f878da42", checked := Try.checked }
namespace Rows
def none {H : Type} : Left H := { results := [], args := [] }

/-- 'laws.FnPowerOf': WHATEVER THE INPUT: true; the input reads as it did. -/
def fnPowerOfSpec : ChangeSpec := { name := "fnPowerOf", fn := fun _ => fun
  | [d1, d2] => { results := [.lit (.bool true)], args := [d1, d2] }
  | _ => none }
def fnPowerOfRow : OpenClaim := { program := "ytjcoilabmbmbkaa", sum := "2236883e8faa85913035d3d76406ded6536dad385f46a47c3768a9e2f878da42", func := "loop.example/graphmaps/laws.FnPowerOf", spec := "fnPowerOf", unfollowed := true, recurses := true, plainKeys := false, apart := false }
def FnPowerOfSaid : Prop := fnPowerOfRow.holds Try.pinned (OpenSpec.ofChange fnPowerOfSpec)

/-- ITS FALSE NEIGHBOUR: 'it returns false'. Refute it at one input. -/
def fnPowerOfWrong : ChangeSpec := { name := "fnPowerOf", fn := fun _ => fun
  | [d1, d2] => { results := [.lit (.bool false)], args := [d1, d2] }
  | _ => none }
def FnPowerOfWrongFalsely : Prop := fnPowerOfRow.holds Try.pinned (OpenSpec.ofChange fnPowerOfWrong)

/-- 'laws.FnRowAt': WHATEVER THE INPUT: true; the input reads as it did. -/
def fnRowAtSpec : ChangeSpec := { name := "fnRowAt", fn := fun _ => fun
  | [d] => { results := [.lit (.bool true)], args := [d] }
  | _ => none }
def fnRowAtRow : OpenClaim := { program := "ytjcoilabmbmbkaa", sum := "2236883e8faa85913035d3d76406ded6536dad385f46a47c3768a9e2f878da42", func := "loop.example/graphmaps/laws.FnRowAt", spec := "fnRowAt", unfollowed := true, recurses := true, plainKeys := false, apart := false }
def FnRowAtSaid : Prop := fnRowAtRow.holds Try.pinned (OpenSpec.ofChange fnRowAtSpec)

/-- ITS FALSE NEIGHBOUR: 'it returns false'. Refute it at one input. -/
def fnRowAtWrong : ChangeSpec := { name := "fnRowAt", fn := fun _ => fun
  | [d] => { results := [.lit (.bool false)], args := [d] }
  | _ => none }
def FnRowAtWrongFalsely : Prop := fnRowAtRow.holds Try.pinned (OpenSpec.ofChange fnRowAtWrong)

/-- 'laws.FnNumberAt': WHATEVER THE INPUT: true; the input reads as it did. -/
def fnNumberAtSpec : ChangeSpec := { name := "fnNumberAt", fn := fun _ => fun
  | [d] => { results := [.lit (.bool true)], args := [d] }
  | _ => none }
def fnNumberAtRow : OpenClaim := { program := "ytjcoilabmbmbkaa", sum := "2236883e8faa85913035d3d76406ded6536dad385f46a47c3768a9e2f878da42", func := "loop.example/graphmaps/laws.FnNumberAt", spec := "fnNumberAt", unfollowed := true, recurses := true, plainKeys := false, apart := false }
def FnNumberAtSaid : Prop := fnNumberAtRow.holds Try.pinned (OpenSpec.ofChange fnNumberAtSpec)

/-- ITS FALSE NEIGHBOUR: 'it returns false'. Refute it at one input. -/
def fnNumberAtWrong : ChangeSpec := { name := "fnNumberAt", fn := fun _ => fun
  | [d] => { results := [.lit (.bool false)], args := [d] }
  | _ => none }
def FnNumberAtWrongFalsely : Prop := fnNumberAtRow.holds Try.pinned (OpenSpec.ofChange fnNumberAtWrong)

/-- 'laws.FnLiftedOf': WHATEVER THE INPUT: true; the input reads as it did. -/
def fnLiftedOfSpec : ChangeSpec := { name := "fnLiftedOf", fn := fun _ => fun
  | [d] => { results := [.lit (.bool true)], args := [d] }
  | _ => none }
def fnLiftedOfRow : OpenClaim := { program := "ytjcoilabmbmbkaa", sum := "2236883e8faa85913035d3d76406ded6536dad385f46a47c3768a9e2f878da42", func := "loop.example/graphmaps/laws.FnLiftedOf", spec := "fnLiftedOf", unfollowed := true, recurses := true, plainKeys := false, apart := false }
def FnLiftedOfSaid : Prop := fnLiftedOfRow.holds Try.pinned (OpenSpec.ofChange fnLiftedOfSpec)

/-- ITS FALSE NEIGHBOUR: 'it returns false'. Refute it at one input. -/
def fnLiftedOfWrong : ChangeSpec := { name := "fnLiftedOf", fn := fun _ => fun
  | [d] => { results := [.lit (.bool false)], args := [d] }
  | _ => none }
def FnLiftedOfWrongFalsely : Prop := fnLiftedOfRow.holds Try.pinned (OpenSpec.ofChange fnLiftedOfWrong)

/-- 'laws.FnLoweredOf': WHATEVER THE INPUT: true; the input reads as it did. -/
def fnLoweredOfSpec : ChangeSpec := { name := "fnLoweredOf", fn := fun _ => fun
  | [d] => { results := [.lit (.bool true)], args := [d] }
  | _ => none }
def fnLoweredOfRow : OpenClaim := { program := "ytjcoilabmbmbkaa", sum := "2236883e8faa85913035d3d76406ded6536dad385f46a47c3768a9e2f878da42", func := "loop.example/graphmaps/laws.FnLoweredOf", spec := "fnLoweredOf", unfollowed := true, recurses := true, plainKeys := false, apart := false }
def FnLoweredOfSaid : Prop := fnLoweredOfRow.holds Try.pinned (OpenSpec.ofChange fnLoweredOfSpec)

/-- ITS FALSE NEIGHBOUR: 'it returns false'. Refute it at one input. -/
def fnLoweredOfWrong : ChangeSpec := { name := "fnLoweredOf", fn := fun _ => fun
  | [d] => { results := [.lit (.bool false)], args := [d] }
  | _ => none }
def FnLoweredOfWrongFalsely : Prop := fnLoweredOfRow.holds Try.pinned (OpenSpec.ofChange fnLoweredOfWrong)

/-- 'laws.FnExactPowerOf': WHATEVER THE INPUT: true; the input reads as it did. -/
def fnExactPowerOfSpec : ChangeSpec := { name := "fnExactPowerOf", fn := fun _ => fun
  | [d1, d2] => { results := [.lit (.bool true)], args := [d1, d2] }
  | _ => none }
def fnExactPowerOfRow : OpenClaim := { program := "ytjcoilabmbmbkaa", sum := "2236883e8faa85913035d3d76406ded6536dad385f46a47c3768a9e2f878da42", func := "loop.example/graphmaps/laws.FnExactPowerOf", spec := "fnExactPowerOf", unfollowed := true, recurses := true, plainKeys := false, apart := false }
def FnExactPowerOfSaid : Prop := fnExactPowerOfRow.holds Try.pinned (OpenSpec.ofChange fnExactPowerOfSpec)

/-- ITS FALSE NEIGHBOUR: 'it returns false'. Refute it at one input. -/
def fnExactPowerOfWrong : ChangeSpec := { name := "fnExactPowerOf", fn := fun _ => fun
  | [d1, d2] => { results := [.lit (.bool false)], args := [d1, d2] }
  | _ => none }
def FnExactPowerOfWrongFalsely : Prop := fnExactPowerOfRow.holds Try.pinned (OpenSpec.ofChange fnExactPowerOfWrong)

/-- 'laws.FnExactRowAt': WHATEVER THE INPUT: true; the input reads as it did. -/
def fnExactRowAtSpec : ChangeSpec := { name := "fnExactRowAt", fn := fun _ => fun
  | [d1, d2, d3] => { results := [.lit (.bool true)], args := [d1, d2, d3] }
  | _ => none }
def fnExactRowAtRow : OpenClaim := { program := "ytjcoilabmbmbkaa", sum := "2236883e8faa85913035d3d76406ded6536dad385f46a47c3768a9e2f878da42", func := "loop.example/graphmaps/laws.FnExactRowAt", spec := "fnExactRowAt", unfollowed := true, recurses := true, plainKeys := false, apart := false }
def FnExactRowAtSaid : Prop := fnExactRowAtRow.holds Try.pinned (OpenSpec.ofChange fnExactRowAtSpec)

/-- ITS FALSE NEIGHBOUR: 'it returns false'. Refute it at one input. -/
def fnExactRowAtWrong : ChangeSpec := { name := "fnExactRowAt", fn := fun _ => fun
  | [d1, d2, d3] => { results := [.lit (.bool false)], args := [d1, d2, d3] }
  | _ => none }
def FnExactRowAtWrongFalsely : Prop := fnExactRowAtRow.holds Try.pinned (OpenSpec.ofChange fnExactRowAtWrong)

/-- 'laws.FnExactNumberAt': WHATEVER THE INPUT: true; the input reads as it did. -/
def fnExactNumberAtSpec : ChangeSpec := { name := "fnExactNumberAt", fn := fun _ => fun
  | [d1, d2, d3] => { results := [.lit (.bool true)], args := [d1, d2, d3] }
  | _ => none }
def fnExactNumberAtRow : OpenClaim := { program := "ytjcoilabmbmbkaa", sum := "2236883e8faa85913035d3d76406ded6536dad385f46a47c3768a9e2f878da42", func := "loop.example/graphmaps/laws.FnExactNumberAt", spec := "fnExactNumberAt", unfollowed := true, recurses := true, plainKeys := false, apart := false }
def FnExactNumberAtSaid : Prop := fnExactNumberAtRow.holds Try.pinned (OpenSpec.ofChange fnExactNumberAtSpec)

/-- ITS FALSE NEIGHBOUR: 'it returns false'. Refute it at one input. -/
def fnExactNumberAtWrong : ChangeSpec := { name := "fnExactNumberAt", fn := fun _ => fun
  | [d1, d2, d3] => { results := [.lit (.bool false)], args := [d1, d2, d3] }
  | _ => none }
def FnExactNumberAtWrongFalsely : Prop := fnExactNumberAtRow.holds Try.pinned (OpenSpec.ofChange fnExactNumberAtWrong)

/-- 'laws.FnExactLiftedOf': WHATEVER THE INPUT: true; the input reads as it did. -/
def fnExactLiftedOfSpec : ChangeSpec := { name := "fnExactLiftedOf", fn := fun _ => fun
  | [d1, d2, d3, d4] => { results := [.lit (.bool true)], args := [d1, d2, d3, d4] }
  | _ => none }
def fnExactLiftedOfRow : OpenClaim := { program := "ytjcoilabmbmbkaa", sum := "2236883e8faa85913035d3d76406ded6536dad385f46a47c3768a9e2f878da42", func := "loop.example/graphmaps/laws.FnExactLiftedOf", spec := "fnExactLiftedOf", unfollowed := true, recurses := true, plainKeys := false, apart := false }
def FnExactLiftedOfSaid : Prop := fnExactLiftedOfRow.holds Try.pinned (OpenSpec.ofChange fnExactLiftedOfSpec)

/-- ITS FALSE NEIGHBOUR: 'it returns false'. Refute it at one input. -/
def fnExactLiftedOfWrong : ChangeSpec := { name := "fnExactLiftedOf", fn := fun _ => fun
  | [d1, d2, d3, d4] => { results := [.lit (.bool false)], args := [d1, d2, d3, d4] }
  | _ => none }
def FnExactLiftedOfWrongFalsely : Prop := fnExactLiftedOfRow.holds Try.pinned (OpenSpec.ofChange fnExactLiftedOfWrong)

/-- 'laws.FnExactLoweredOf': WHATEVER THE INPUT: true; the input reads as it did. -/
def fnExactLoweredOfSpec : ChangeSpec := { name := "fnExactLoweredOf", fn := fun _ => fun
  | [d1, d2, d3, d4] => { results := [.lit (.bool true)], args := [d1, d2, d3, d4] }
  | _ => none }
def fnExactLoweredOfRow : OpenClaim := { program := "ytjcoilabmbmbkaa", sum := "2236883e8faa85913035d3d76406ded6536dad385f46a47c3768a9e2f878da42", func := "loop.example/graphmaps/laws.FnExactLoweredOf", spec := "fnExactLoweredOf", unfollowed := true, recurses := true, plainKeys := false, apart := false }
def FnExactLoweredOfSaid : Prop := fnExactLoweredOfRow.holds Try.pinned (OpenSpec.ofChange fnExactLoweredOfSpec)

/-- ITS FALSE NEIGHBOUR: 'it returns false'. Refute it at one input. -/
def fnExactLoweredOfWrong : ChangeSpec := { name := "fnExactLoweredOf", fn := fun _ => fun
  | [d1, d2, d3, d4] => { results := [.lit (.bool false)], args := [d1, d2, d3, d4] }
  | _ => none }
def FnExactLoweredOfWrongFalsely : Prop := fnExactLoweredOfRow.holds Try.pinned (OpenSpec.ofChange fnExactLoweredOfWrong)

/- THE SECOND FORM. 'bulk': how many values and letters a reading holds, each counted each time it is reached (what is shared counts as often as it is met; a slice's spare places count too). A statement '..UptoSaid' is the law's where the arguments, and the package variables that the reading takes, are together of bulk at most 1048576: NARROWER than '..Said'. Prove '..Said' where nothing that the law and all that it calls make is longer than what came in: it says more and counts as full. Else prove '..UptoSaid'. A law counts once. -/
mutual
def uptoBulk {H : Type} : DataW H → Nat
  | .lit (.string bytes) => bytes.length + 1
  | .lit _ => 1
  | .nil => 1
  | .ptr d => uptoBulk d + 1
  | .slice elems spare => uptoBulkAll elems + uptoBulkAll spare + 1
  | .agg parts => uptoBulkAll parts + 1
  | .iface _ d => uptoBulk d + 1
  | .map entries => uptoBulkEntries entries + 1
  | .held _ => 1
def uptoBulkAll {H : Type} : List (DataW H) → Nat
  | [] => 0
  | d :: r => uptoBulk d + uptoBulkAll r
def uptoBulkEntries {H : Type} : List (Lit × DataW H) → Nat
  | [] => 0
  | x :: r => uptoBulkEntry x + uptoBulkEntries r
def uptoBulkEntry {H : Type} : Lit × DataW H → Nat
  | (.string bytes, d) => bytes.length + uptoBulk d + 1
  | (_, d) => uptoBulk d + 1
 end
def uptoSmall : (H : Type) → List (DataW H) → Bool := fun _ ds => decide (uptoBulkAll ds ≤ 1048576)
def OpenSpec.upto (s : _root_.Go.ChangeSpec) : _root_.Go.OpenSpec := { _root_.Go.OpenSpec.ofChange s with cond := some uptoSmall }

/-- 'laws.FnPowerOf', WHERE WHAT IT READS IS OF BULK AT MOST 1048576: true; the input reads as it did. -/
def fnPowerOfUptoRow : OpenClaim := { program := "ytjcoilabmbmbkaa", sum := "2236883e8faa85913035d3d76406ded6536dad385f46a47c3768a9e2f878da42", func := "loop.example/graphmaps/laws.FnPowerOf", spec := "fnPowerOf", unfollowed := true, recurses := true, plainKeys := false, apart := false, narrowed := true }
def FnPowerOfUptoSaid : Prop := fnPowerOfUptoRow.holds Try.pinned (OpenSpec.upto fnPowerOfSpec)

/-- 'laws.FnRowAt', WHERE WHAT IT READS IS OF BULK AT MOST 1048576: true; the input reads as it did. -/
def fnRowAtUptoRow : OpenClaim := { program := "ytjcoilabmbmbkaa", sum := "2236883e8faa85913035d3d76406ded6536dad385f46a47c3768a9e2f878da42", func := "loop.example/graphmaps/laws.FnRowAt", spec := "fnRowAt", unfollowed := true, recurses := true, plainKeys := false, apart := false, narrowed := true }
def FnRowAtUptoSaid : Prop := fnRowAtUptoRow.holds Try.pinned (OpenSpec.upto fnRowAtSpec)

/-- 'laws.FnNumberAt', WHERE WHAT IT READS IS OF BULK AT MOST 1048576: true; the input reads as it did. -/
def fnNumberAtUptoRow : OpenClaim := { program := "ytjcoilabmbmbkaa", sum := "2236883e8faa85913035d3d76406ded6536dad385f46a47c3768a9e2f878da42", func := "loop.example/graphmaps/laws.FnNumberAt", spec := "fnNumberAt", unfollowed := true, recurses := true, plainKeys := false, apart := false, narrowed := true }
def FnNumberAtUptoSaid : Prop := fnNumberAtUptoRow.holds Try.pinned (OpenSpec.upto fnNumberAtSpec)

/-- 'laws.FnLiftedOf', WHERE WHAT IT READS IS OF BULK AT MOST 1048576: true; the input reads as it did. -/
def fnLiftedOfUptoRow : OpenClaim := { program := "ytjcoilabmbmbkaa", sum := "2236883e8faa85913035d3d76406ded6536dad385f46a47c3768a9e2f878da42", func := "loop.example/graphmaps/laws.FnLiftedOf", spec := "fnLiftedOf", unfollowed := true, recurses := true, plainKeys := false, apart := false, narrowed := true }
def FnLiftedOfUptoSaid : Prop := fnLiftedOfUptoRow.holds Try.pinned (OpenSpec.upto fnLiftedOfSpec)

/-- 'laws.FnLoweredOf', WHERE WHAT IT READS IS OF BULK AT MOST 1048576: true; the input reads as it did. -/
def fnLoweredOfUptoRow : OpenClaim := { program := "ytjcoilabmbmbkaa", sum := "2236883e8faa85913035d3d76406ded6536dad385f46a47c3768a9e2f878da42", func := "loop.example/graphmaps/laws.FnLoweredOf", spec := "fnLoweredOf", unfollowed := true, recurses := true, plainKeys := false, apart := false, narrowed := true }
def FnLoweredOfUptoSaid : Prop := fnLoweredOfUptoRow.holds Try.pinned (OpenSpec.upto fnLoweredOfSpec)

/-- 'laws.FnExactPowerOf', WHERE WHAT IT READS IS OF BULK AT MOST 1048576: true; the input reads as it did. -/
def fnExactPowerOfUptoRow : OpenClaim := { program := "ytjcoilabmbmbkaa", sum := "2236883e8faa85913035d3d76406ded6536dad385f46a47c3768a9e2f878da42", func := "loop.example/graphmaps/laws.FnExactPowerOf", spec := "fnExactPowerOf", unfollowed := true, recurses := true, plainKeys := false, apart := false, narrowed := true }
def FnExactPowerOfUptoSaid : Prop := fnExactPowerOfUptoRow.holds Try.pinned (OpenSpec.upto fnExactPowerOfSpec)

/-- 'laws.FnExactRowAt', WHERE WHAT IT READS IS OF BULK AT MOST 1048576: true; the input reads as it did. -/
def fnExactRowAtUptoRow : OpenClaim := { program := "ytjcoilabmbmbkaa", sum := "2236883e8faa85913035d3d76406ded6536dad385f46a47c3768a9e2f878da42", func := "loop.example/graphmaps/laws.FnExactRowAt", spec := "fnExactRowAt", unfollowed := true, recurses := true, plainKeys := false, apart := false, narrowed := true }
def FnExactRowAtUptoSaid : Prop := fnExactRowAtUptoRow.holds Try.pinned (OpenSpec.upto fnExactRowAtSpec)

/-- 'laws.FnExactNumberAt', WHERE WHAT IT READS IS OF BULK AT MOST 1048576: true; the input reads as it did. -/
def fnExactNumberAtUptoRow : OpenClaim := { program := "ytjcoilabmbmbkaa", sum := "2236883e8faa85913035d3d76406ded6536dad385f46a47c3768a9e2f878da42", func := "loop.example/graphmaps/laws.FnExactNumberAt", spec := "fnExactNumberAt", unfollowed := true, recurses := true, plainKeys := false, apart := false, narrowed := true }
def FnExactNumberAtUptoSaid : Prop := fnExactNumberAtUptoRow.holds Try.pinned (OpenSpec.upto fnExactNumberAtSpec)

/-- 'laws.FnExactLiftedOf', WHERE WHAT IT READS IS OF BULK AT MOST 1048576: true; the input reads as it did. -/
def fnExactLiftedOfUptoRow : OpenClaim := { program := "ytjcoilabmbmbkaa", sum := "2236883e8faa85913035d3d76406ded6536dad385f46a47c3768a9e2f878da42", func := "loop.example/graphmaps/laws.FnExactLiftedOf", spec := "fnExactLiftedOf", unfollowed := true, recurses := true, plainKeys := false, apart := false, narrowed := true }
def FnExactLiftedOfUptoSaid : Prop := fnExactLiftedOfUptoRow.holds Try.pinned (OpenSpec.upto fnExactLiftedOfSpec)

/-- 'laws.FnExactLoweredOf', WHERE WHAT IT READS IS OF BULK AT MOST 1048576: true; the input reads as it did. -/
def fnExactLoweredOfUptoRow : OpenClaim := { program := "ytjcoilabmbmbkaa", sum := "2236883e8faa85913035d3d76406ded6536dad385f46a47c3768a9e2f878da42", func := "loop.example/graphmaps/laws.FnExactLoweredOf", spec := "fnExactLoweredOf", unfollowed := true, recurses := true, plainKeys := false, apart := false, narrowed := true }
def FnExactLoweredOfUptoSaid : Prop := fnExactLoweredOfUptoRow.holds Try.pinned (OpenSpec.upto fnExactLoweredOfSpec)

end Rows
end Go.Proofs.Ytjcoilabmbmbkaa
