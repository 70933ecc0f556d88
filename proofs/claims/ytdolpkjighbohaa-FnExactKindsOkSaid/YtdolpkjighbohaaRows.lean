/-
  No cell of these rows narrows 'for every input' (looked for: loops, veiled, ifaces, maps, wideKeys, modest, calm, conditions, laid).
  DERIVED. THE GIVEN ROWS OF THIS SEAT. 14 by the template 'for every input the law returns true; each argument reads behind the call as it read before'; 0 by the template 'total and deterministic' (their statements: YtdolpkjighbohaaTotals.lean).
  GIVEN WITH THE SEED: the statements are not yours to turn. If you find one false, say at which input.
  Laid BY PROGRAM, IN A SANDBOX (cutbox-rows.mjs): the forced cells as the released guide's own fill.sh prints them over the translation 775e9c136929766a… (all of the seat's roots in one cut). By AI agents, Wed Nov 11 2026. No macro, syntax, notation, axiom, sorry.
-/
import Derived.Test.YtdolpkjighbohaaChecked
import GoSem.Claim
import GoSem.ClaimJoined
import GoSem.ClaimMapViews
import Derived.JoinedTies
import Derived.KernelRfl
namespace Go.Proofs.Ytdolpkjighbohaa
/- THE CELL 'sum', in the pinned program and in every row, IS THE sha256 OF THE DUMP (.gsa) THAT YtdolpkjighbohaaProg.lean LOADS. Nothing in Lean hashes anything: it is a label: what it is worth is what the hold of that sum in a sandbox is worth. -/
noncomputable def Try.pinned : Pinned := { name := "ytdolpkjighbohaa", sum := "775e9c136929766a6b0234365fbb74f9c4ea30859144282b1ba2bd7881941156", checked := Try.checked }
namespace Rows
def none {H : Type} : Left H := { results := [], args := [] }

/-- 'laws.FnKindsOk': WHATEVER THE INPUT: true; the input reads as it did. -/
def fnKindsOkSpec : ChangeSpec := { name := "fnKindsOk", fn := fun _ => fun
  | [d] => { results := [.lit (.bool true)], args := [d] }
  | _ => none }
def fnKindsOkRow : OpenClaim := { program := "ytdolpkjighbohaa", sum := "775e9c136929766a6b0234365fbb74f9c4ea30859144282b1ba2bd7881941156", func := "loop.example/graphmaps/laws.FnKindsOk", spec := "fnKindsOk", unfollowed := true, recurses := true, apart := false }
def FnKindsOkSaid : Prop := fnKindsOkRow.holds Try.pinned (OpenSpec.ofChange fnKindsOkSpec)

/-- ITS FALSE NEIGHBOUR: 'it returns false'. Refute it at one input. -/
def fnKindsOkWrong : ChangeSpec := { name := "fnKindsOk", fn := fun _ => fun
  | [d] => { results := [.lit (.bool false)], args := [d] }
  | _ => none }
def FnKindsOkWrongFalsely : Prop := fnKindsOkRow.holds Try.pinned (OpenSpec.ofChange fnKindsOkWrong)

/-- 'laws.FnAllKinds': WHATEVER THE INPUT: true; the input reads as it did. -/
def fnAllKindsSpec : ChangeSpec := { name := "fnAllKinds", fn := fun _ => fun
  | [d] => { results := [.lit (.bool true)], args := [d] }
  | _ => none }
def fnAllKindsRow : OpenClaim := { program := "ytdolpkjighbohaa", sum := "775e9c136929766a6b0234365fbb74f9c4ea30859144282b1ba2bd7881941156", func := "loop.example/graphmaps/laws.FnAllKinds", spec := "fnAllKinds", unfollowed := true, recurses := true, apart := false }
def FnAllKindsSaid : Prop := fnAllKindsRow.holds Try.pinned (OpenSpec.ofChange fnAllKindsSpec)

/-- ITS FALSE NEIGHBOUR: 'it returns false'. Refute it at one input. -/
def fnAllKindsWrong : ChangeSpec := { name := "fnAllKinds", fn := fun _ => fun
  | [d] => { results := [.lit (.bool false)], args := [d] }
  | _ => none }
def FnAllKindsWrongFalsely : Prop := fnAllKindsRow.holds Try.pinned (OpenSpec.ofChange fnAllKindsWrong)

/-- 'laws.FnGraphOfKinds': WHATEVER THE INPUT: true; the input reads as it did. -/
def fnGraphOfKindsSpec : ChangeSpec := { name := "fnGraphOfKinds", fn := fun _ => fun
  | [d] => { results := [.lit (.bool true)], args := [d] }
  | _ => none }
def fnGraphOfKindsRow : OpenClaim := { program := "ytdolpkjighbohaa", sum := "775e9c136929766a6b0234365fbb74f9c4ea30859144282b1ba2bd7881941156", func := "loop.example/graphmaps/laws.FnGraphOfKinds", spec := "fnGraphOfKinds", unfollowed := true, recurses := true, apart := false }
def FnGraphOfKindsSaid : Prop := fnGraphOfKindsRow.holds Try.pinned (OpenSpec.ofChange fnGraphOfKindsSpec)

/-- ITS FALSE NEIGHBOUR: 'it returns false'. Refute it at one input. -/
def fnGraphOfKindsWrong : ChangeSpec := { name := "fnGraphOfKinds", fn := fun _ => fun
  | [d] => { results := [.lit (.bool false)], args := [d] }
  | _ => none }
def FnGraphOfKindsWrongFalsely : Prop := fnGraphOfKindsRow.holds Try.pinned (OpenSpec.ofChange fnGraphOfKindsWrong)

/-- 'laws.FnKindsBy': WHATEVER THE INPUT: true; the input reads as it did. -/
def fnKindsBySpec : ChangeSpec := { name := "fnKindsBy", fn := fun _ => fun
  | [d] => { results := [.lit (.bool true)], args := [d] }
  | _ => none }
def fnKindsByRow : OpenClaim := { program := "ytdolpkjighbohaa", sum := "775e9c136929766a6b0234365fbb74f9c4ea30859144282b1ba2bd7881941156", func := "loop.example/graphmaps/laws.FnKindsBy", spec := "fnKindsBy", unfollowed := true, recurses := true, apart := false }
def FnKindsBySaid : Prop := fnKindsByRow.holds Try.pinned (OpenSpec.ofChange fnKindsBySpec)

/-- ITS FALSE NEIGHBOUR: 'it returns false'. Refute it at one input. -/
def fnKindsByWrong : ChangeSpec := { name := "fnKindsBy", fn := fun _ => fun
  | [d] => { results := [.lit (.bool false)], args := [d] }
  | _ => none }
def FnKindsByWrongFalsely : Prop := fnKindsByRow.holds Try.pinned (OpenSpec.ofChange fnKindsByWrong)

/-- 'laws.FnFromKinds': WHATEVER THE INPUT: true; the input reads as it did. -/
def fnFromKindsSpec : ChangeSpec := { name := "fnFromKinds", fn := fun _ => fun
  | [d] => { results := [.lit (.bool true)], args := [d] }
  | _ => none }
def fnFromKindsRow : OpenClaim := { program := "ytdolpkjighbohaa", sum := "775e9c136929766a6b0234365fbb74f9c4ea30859144282b1ba2bd7881941156", func := "loop.example/graphmaps/laws.FnFromKinds", spec := "fnFromKinds", unfollowed := true, recurses := true, apart := false }
def FnFromKindsSaid : Prop := fnFromKindsRow.holds Try.pinned (OpenSpec.ofChange fnFromKindsSpec)

/-- ITS FALSE NEIGHBOUR: 'it returns false'. Refute it at one input. -/
def fnFromKindsWrong : ChangeSpec := { name := "fnFromKinds", fn := fun _ => fun
  | [d] => { results := [.lit (.bool false)], args := [d] }
  | _ => none }
def FnFromKindsWrongFalsely : Prop := fnFromKindsRow.holds Try.pinned (OpenSpec.ofChange fnFromKindsWrong)

/-- 'laws.FnApartOk': WHATEVER THE INPUT: true; the input reads as it did. -/
def fnApartOkSpec : ChangeSpec := { name := "fnApartOk", fn := fun _ => fun
  | [d] => { results := [.lit (.bool true)], args := [d] }
  | _ => none }
def fnApartOkRow : OpenClaim := { program := "ytdolpkjighbohaa", sum := "775e9c136929766a6b0234365fbb74f9c4ea30859144282b1ba2bd7881941156", func := "loop.example/graphmaps/laws.FnApartOk", spec := "fnApartOk", unfollowed := true, recurses := true, apart := false }
def FnApartOkSaid : Prop := fnApartOkRow.holds Try.pinned (OpenSpec.ofChange fnApartOkSpec)

/-- ITS FALSE NEIGHBOUR: 'it returns false'. Refute it at one input. -/
def fnApartOkWrong : ChangeSpec := { name := "fnApartOk", fn := fun _ => fun
  | [d] => { results := [.lit (.bool false)], args := [d] }
  | _ => none }
def FnApartOkWrongFalsely : Prop := fnApartOkRow.holds Try.pinned (OpenSpec.ofChange fnApartOkWrong)

/-- 'laws.FnCountApart': WHATEVER THE INPUT: true; the input reads as it did. -/
def fnCountApartSpec : ChangeSpec := { name := "fnCountApart", fn := fun _ => fun
  | [d] => { results := [.lit (.bool true)], args := [d] }
  | _ => none }
def fnCountApartRow : OpenClaim := { program := "ytdolpkjighbohaa", sum := "775e9c136929766a6b0234365fbb74f9c4ea30859144282b1ba2bd7881941156", func := "loop.example/graphmaps/laws.FnCountApart", spec := "fnCountApart", unfollowed := true, recurses := true, apart := false }
def FnCountApartSaid : Prop := fnCountApartRow.holds Try.pinned (OpenSpec.ofChange fnCountApartSpec)

/-- ITS FALSE NEIGHBOUR: 'it returns false'. Refute it at one input. -/
def fnCountApartWrong : ChangeSpec := { name := "fnCountApart", fn := fun _ => fun
  | [d] => { results := [.lit (.bool false)], args := [d] }
  | _ => none }
def FnCountApartWrongFalsely : Prop := fnCountApartRow.holds Try.pinned (OpenSpec.ofChange fnCountApartWrong)

/-- 'laws.FnExactKindsOk': WHATEVER THE INPUT: true; the input reads as it did. -/
def fnExactKindsOkSpec : ChangeSpec := { name := "fnExactKindsOk", fn := fun _ => fun
  | [d1, d2] => { results := [.lit (.bool true)], args := [d1, d2] }
  | _ => none }
def fnExactKindsOkRow : OpenClaim := { program := "ytdolpkjighbohaa", sum := "775e9c136929766a6b0234365fbb74f9c4ea30859144282b1ba2bd7881941156", func := "loop.example/graphmaps/laws.FnExactKindsOk", spec := "fnExactKindsOk", unfollowed := true, recurses := true, apart := false }
def FnExactKindsOkSaid : Prop := fnExactKindsOkRow.holds Try.pinned (OpenSpec.ofChange fnExactKindsOkSpec)

/-- ITS FALSE NEIGHBOUR: 'it returns false'. Refute it at one input. -/
def fnExactKindsOkWrong : ChangeSpec := { name := "fnExactKindsOk", fn := fun _ => fun
  | [d1, d2] => { results := [.lit (.bool false)], args := [d1, d2] }
  | _ => none }
def FnExactKindsOkWrongFalsely : Prop := fnExactKindsOkRow.holds Try.pinned (OpenSpec.ofChange fnExactKindsOkWrong)

/-- 'laws.FnExactAllKinds': WHATEVER THE INPUT: true; the input reads as it did. -/
def fnExactAllKindsSpec : ChangeSpec := { name := "fnExactAllKinds", fn := fun _ => fun
  | [d] => { results := [.lit (.bool true)], args := [d] }
  | _ => none }
def fnExactAllKindsRow : OpenClaim := { program := "ytdolpkjighbohaa", sum := "775e9c136929766a6b0234365fbb74f9c4ea30859144282b1ba2bd7881941156", func := "loop.example/graphmaps/laws.FnExactAllKinds", spec := "fnExactAllKinds", unfollowed := true, recurses := true, apart := false }
def FnExactAllKindsSaid : Prop := fnExactAllKindsRow.holds Try.pinned (OpenSpec.ofChange fnExactAllKindsSpec)

/-- ITS FALSE NEIGHBOUR: 'it returns false'. Refute it at one input. -/
def fnExactAllKindsWrong : ChangeSpec := { name := "fnExactAllKinds", fn := fun _ => fun
  | [d] => { results := [.lit (.bool false)], args := [d] }
  | _ => none }
def FnExactAllKindsWrongFalsely : Prop := fnExactAllKindsRow.holds Try.pinned (OpenSpec.ofChange fnExactAllKindsWrong)

/-- 'laws.FnExactGraphOfKinds': WHATEVER THE INPUT: true; the input reads as it did. -/
def fnExactGraphOfKindsSpec : ChangeSpec := { name := "fnExactGraphOfKinds", fn := fun _ => fun
  | [d1, d2] => { results := [.lit (.bool true)], args := [d1, d2] }
  | _ => none }
def fnExactGraphOfKindsRow : OpenClaim := { program := "ytdolpkjighbohaa", sum := "775e9c136929766a6b0234365fbb74f9c4ea30859144282b1ba2bd7881941156", func := "loop.example/graphmaps/laws.FnExactGraphOfKinds", spec := "fnExactGraphOfKinds", unfollowed := true, recurses := true, apart := false }
def FnExactGraphOfKindsSaid : Prop := fnExactGraphOfKindsRow.holds Try.pinned (OpenSpec.ofChange fnExactGraphOfKindsSpec)

/-- ITS FALSE NEIGHBOUR: 'it returns false'. Refute it at one input. -/
def fnExactGraphOfKindsWrong : ChangeSpec := { name := "fnExactGraphOfKinds", fn := fun _ => fun
  | [d1, d2] => { results := [.lit (.bool false)], args := [d1, d2] }
  | _ => none }
def FnExactGraphOfKindsWrongFalsely : Prop := fnExactGraphOfKindsRow.holds Try.pinned (OpenSpec.ofChange fnExactGraphOfKindsWrong)

/-- 'laws.FnExactKindsBy': WHATEVER THE INPUT: true; the input reads as it did. -/
def fnExactKindsBySpec : ChangeSpec := { name := "fnExactKindsBy", fn := fun _ => fun
  | [d1, d2, d3] => { results := [.lit (.bool true)], args := [d1, d2, d3] }
  | _ => none }
def fnExactKindsByRow : OpenClaim := { program := "ytdolpkjighbohaa", sum := "775e9c136929766a6b0234365fbb74f9c4ea30859144282b1ba2bd7881941156", func := "loop.example/graphmaps/laws.FnExactKindsBy", spec := "fnExactKindsBy", unfollowed := true, recurses := true, apart := false }
def FnExactKindsBySaid : Prop := fnExactKindsByRow.holds Try.pinned (OpenSpec.ofChange fnExactKindsBySpec)

/-- ITS FALSE NEIGHBOUR: 'it returns false'. Refute it at one input. -/
def fnExactKindsByWrong : ChangeSpec := { name := "fnExactKindsBy", fn := fun _ => fun
  | [d1, d2, d3] => { results := [.lit (.bool false)], args := [d1, d2, d3] }
  | _ => none }
def FnExactKindsByWrongFalsely : Prop := fnExactKindsByRow.holds Try.pinned (OpenSpec.ofChange fnExactKindsByWrong)

/-- 'laws.FnExactFromKinds': WHATEVER THE INPUT: true; the input reads as it did. -/
def fnExactFromKindsSpec : ChangeSpec := { name := "fnExactFromKinds", fn := fun _ => fun
  | [d1, d2, d3] => { results := [.lit (.bool true)], args := [d1, d2, d3] }
  | _ => none }
def fnExactFromKindsRow : OpenClaim := { program := "ytdolpkjighbohaa", sum := "775e9c136929766a6b0234365fbb74f9c4ea30859144282b1ba2bd7881941156", func := "loop.example/graphmaps/laws.FnExactFromKinds", spec := "fnExactFromKinds", unfollowed := true, recurses := true, apart := false }
def FnExactFromKindsSaid : Prop := fnExactFromKindsRow.holds Try.pinned (OpenSpec.ofChange fnExactFromKindsSpec)

/-- ITS FALSE NEIGHBOUR: 'it returns false'. Refute it at one input. -/
def fnExactFromKindsWrong : ChangeSpec := { name := "fnExactFromKinds", fn := fun _ => fun
  | [d1, d2, d3] => { results := [.lit (.bool false)], args := [d1, d2, d3] }
  | _ => none }
def FnExactFromKindsWrongFalsely : Prop := fnExactFromKindsRow.holds Try.pinned (OpenSpec.ofChange fnExactFromKindsWrong)

/-- 'laws.FnExactApartOk': WHATEVER THE INPUT: true; the input reads as it did. -/
def fnExactApartOkSpec : ChangeSpec := { name := "fnExactApartOk", fn := fun _ => fun
  | [d1, d2, d3] => { results := [.lit (.bool true)], args := [d1, d2, d3] }
  | _ => none }
def fnExactApartOkRow : OpenClaim := { program := "ytdolpkjighbohaa", sum := "775e9c136929766a6b0234365fbb74f9c4ea30859144282b1ba2bd7881941156", func := "loop.example/graphmaps/laws.FnExactApartOk", spec := "fnExactApartOk", unfollowed := true, recurses := true, apart := false }
def FnExactApartOkSaid : Prop := fnExactApartOkRow.holds Try.pinned (OpenSpec.ofChange fnExactApartOkSpec)

/-- ITS FALSE NEIGHBOUR: 'it returns false'. Refute it at one input. -/
def fnExactApartOkWrong : ChangeSpec := { name := "fnExactApartOk", fn := fun _ => fun
  | [d1, d2, d3] => { results := [.lit (.bool false)], args := [d1, d2, d3] }
  | _ => none }
def FnExactApartOkWrongFalsely : Prop := fnExactApartOkRow.holds Try.pinned (OpenSpec.ofChange fnExactApartOkWrong)

/-- 'laws.FnExactCountApart': WHATEVER THE INPUT: true; the input reads as it did. -/
def fnExactCountApartSpec : ChangeSpec := { name := "fnExactCountApart", fn := fun _ => fun
  | [d1, d2] => { results := [.lit (.bool true)], args := [d1, d2] }
  | _ => none }
def fnExactCountApartRow : OpenClaim := { program := "ytdolpkjighbohaa", sum := "775e9c136929766a6b0234365fbb74f9c4ea30859144282b1ba2bd7881941156", func := "loop.example/graphmaps/laws.FnExactCountApart", spec := "fnExactCountApart", unfollowed := true, recurses := true, apart := false }
def FnExactCountApartSaid : Prop := fnExactCountApartRow.holds Try.pinned (OpenSpec.ofChange fnExactCountApartSpec)

/-- ITS FALSE NEIGHBOUR: 'it returns false'. Refute it at one input. -/
def fnExactCountApartWrong : ChangeSpec := { name := "fnExactCountApart", fn := fun _ => fun
  | [d1, d2] => { results := [.lit (.bool false)], args := [d1, d2] }
  | _ => none }
def FnExactCountApartWrongFalsely : Prop := fnExactCountApartRow.holds Try.pinned (OpenSpec.ofChange fnExactCountApartWrong)

/- THE SECOND FORM. 'bulk': how many values and letters a reading holds, each counted each time it is reached (what is shared counts as often as it is met; a slice's spare places count too). A statement '..UptoSaid' is the law's where the arguments, and the package variables that the reading takes, are together of bulk at most 1048576: NARROWER than '..Said'. Prove '..Said' where nothing that the law and all that it calls make is longer than what came in: it says more and counts as full. Else prove '..UptoSaid'. A law counts once. -/
mutual
def uptoBulk {H : Type} : DataW H → Nat
  | .lit (.string bytes) => bytes.length + 1
  | .lit _ => 1
  | .nil => 1
  | .ptr d => uptoBulk d + 1
  | .slice elems spare => uptoBulkAll elems + uptoBulkAll spare + 1
  | .agg parts => uptoBulkAll parts + 1
  | .iface _ d => uptoBulk d + 1
  | .map entries => uptoBulkEntries entries + 1
  | .held _ => 1
def uptoBulkAll {H : Type} : List (DataW H) → Nat
  | [] => 0
  | d :: r => uptoBulk d + uptoBulkAll r
def uptoBulkEntries {H : Type} : List (Lit × DataW H) → Nat
  | [] => 0
  | x :: r => uptoBulkEntry x + uptoBulkEntries r
def uptoBulkEntry {H : Type} : Lit × DataW H → Nat
  | (.string bytes, d) => bytes.length + uptoBulk d + 1
  | (_, d) => uptoBulk d + 1
 end
def uptoSmall : (H : Type) → List (DataW H) → Bool := fun _ ds => decide (uptoBulkAll ds ≤ 1048576)
def OpenSpec.upto (s : _root_.Go.ChangeSpec) : _root_.Go.OpenSpec := { _root_.Go.OpenSpec.ofChange s with cond := some uptoSmall }

/-- 'laws.FnKindsOk', WHERE WHAT IT READS IS OF BULK AT MOST 1048576: true; the input reads as it did. -/
def fnKindsOkUptoRow : OpenClaim := { program := "ytdolpkjighbohaa", sum := "775e9c136929766a6b0234365fbb74f9c4ea30859144282b1ba2bd7881941156", func := "loop.example/graphmaps/laws.FnKindsOk", spec := "fnKindsOk", unfollowed := true, recurses := true, apart := false, narrowed := true }
def FnKindsOkUptoSaid : Prop := fnKindsOkUptoRow.holds Try.pinned (OpenSpec.upto fnKindsOkSpec)

/-- 'laws.FnAllKinds', WHERE WHAT IT READS IS OF BULK AT MOST 1048576: true; the input reads as it did. -/
def fnAllKindsUptoRow : OpenClaim := { program := "ytdolpkjighbohaa", sum := "775e9c136929766a6b0234365fbb74f9c4ea30859144282b1ba2bd7881941156", func := "loop.example/graphmaps/laws.FnAllKinds", spec := "fnAllKinds", unfollowed := true, recurses := true, apart := false, narrowed := true }
def FnAllKindsUptoSaid : Prop := fnAllKindsUptoRow.holds Try.pinned (OpenSpec.upto fnAllKindsSpec)

/-- 'laws.FnGraphOfKinds', WHERE WHAT IT READS IS OF BULK AT MOST 1048576: true; the input reads as it did. -/
def fnGraphOfKindsUptoRow : OpenClaim := { program := "ytdolpkjighbohaa", sum := "775e9c136929766a6b0234365fbb74f9c4ea30859144282b1ba2bd7881941156", func := "loop.example/graphmaps/laws.FnGraphOfKinds", spec := "fnGraphOfKinds", unfollowed := true, recurses := true, apart := false, narrowed := true }
def FnGraphOfKindsUptoSaid : Prop := fnGraphOfKindsUptoRow.holds Try.pinned (OpenSpec.upto fnGraphOfKindsSpec)

/-- 'laws.FnKindsBy', WHERE WHAT IT READS IS OF BULK AT MOST 1048576: true; the input reads as it did. -/
def fnKindsByUptoRow : OpenClaim := { program := "ytdolpkjighbohaa", sum := "775e9c136929766a6b0234365fbb74f9c4ea30859144282b1ba2bd7881941156", func := "loop.example/graphmaps/laws.FnKindsBy", spec := "fnKindsBy", unfollowed := true, recurses := true, apart := false, narrowed := true }
def FnKindsByUptoSaid : Prop := fnKindsByUptoRow.holds Try.pinned (OpenSpec.upto fnKindsBySpec)

/-- 'laws.FnFromKinds', WHERE WHAT IT READS IS OF BULK AT MOST 1048576: true; the input reads as it did. -/
def fnFromKindsUptoRow : OpenClaim := { program := "ytdolpkjighbohaa", sum := "775e9c136929766a6b0234365fbb74f9c4ea30859144282b1ba2bd7881941156", func := "loop.example/graphmaps/laws.FnFromKinds", spec := "fnFromKinds", unfollowed := true, recurses := true, apart := false, narrowed := true }
def FnFromKindsUptoSaid : Prop := fnFromKindsUptoRow.holds Try.pinned (OpenSpec.upto fnFromKindsSpec)

/-- 'laws.FnApartOk', WHERE WHAT IT READS IS OF BULK AT MOST 1048576: true; the input reads as it did. -/
def fnApartOkUptoRow : OpenClaim := { program := "ytdolpkjighbohaa", sum := "775e9c136929766a6b0234365fbb74f9c4ea30859144282b1ba2bd7881941156", func := "loop.example/graphmaps/laws.FnApartOk", spec := "fnApartOk", unfollowed := true, recurses := true, apart := false, narrowed := true }
def FnApartOkUptoSaid : Prop := fnApartOkUptoRow.holds Try.pinned (OpenSpec.upto fnApartOkSpec)

/-- 'laws.FnCountApart', WHERE WHAT IT READS IS OF BULK AT MOST 1048576: true; the input reads as it did. -/
def fnCountApartUptoRow : OpenClaim := { program := "ytdolpkjighbohaa", sum := "775e9c136929766a6b0234365fbb74f9c4ea30859144282b1ba2bd7881941156", func := "loop.example/graphmaps/laws.FnCountApart", spec := "fnCountApart", unfollowed := true, recurses := true, apart := false, narrowed := true }
def FnCountApartUptoSaid : Prop := fnCountApartUptoRow.holds Try.pinned (OpenSpec.upto fnCountApartSpec)

/-- 'laws.FnExactKindsOk', WHERE WHAT IT READS IS OF BULK AT MOST 1048576: true; the input reads as it did. -/
def fnExactKindsOkUptoRow : OpenClaim := { program := "ytdolpkjighbohaa", sum := "775e9c136929766a6b0234365fbb74f9c4ea30859144282b1ba2bd7881941156", func := "loop.example/graphmaps/laws.FnExactKindsOk", spec := "fnExactKindsOk", unfollowed := true, recurses := true, apart := false, narrowed := true }
def FnExactKindsOkUptoSaid : Prop := fnExactKindsOkUptoRow.holds Try.pinned (OpenSpec.upto fnExactKindsOkSpec)

/-- 'laws.FnExactAllKinds', WHERE WHAT IT READS IS OF BULK AT MOST 1048576: true; the input reads as it did. -/
def fnExactAllKindsUptoRow : OpenClaim := { program := "ytdolpkjighbohaa", sum := "775e9c136929766a6b0234365fbb74f9c4ea30859144282b1ba2bd7881941156", func := "loop.example/graphmaps/laws.FnExactAllKinds", spec := "fnExactAllKinds", unfollowed := true, recurses := true, apart := false, narrowed := true }
def FnExactAllKindsUptoSaid : Prop := fnExactAllKindsUptoRow.holds Try.pinned (OpenSpec.upto fnExactAllKindsSpec)

/-- 'laws.FnExactGraphOfKinds', WHERE WHAT IT READS IS OF BULK AT MOST 1048576: true; the input reads as it did. -/
def fnExactGraphOfKindsUptoRow : OpenClaim := { program := "ytdolpkjighbohaa", sum := "775e9c136929766a6b0234365fbb74f9c4ea30859144282b1ba2bd7881941156", func := "loop.example/graphmaps/laws.FnExactGraphOfKinds", spec := "fnExactGraphOfKinds", unfollowed := true, recurses := true, apart := false, narrowed := true }
def FnExactGraphOfKindsUptoSaid : Prop := fnExactGraphOfKindsUptoRow.holds Try.pinned (OpenSpec.upto fnExactGraphOfKindsSpec)

/-- 'laws.FnExactKindsBy', WHERE WHAT IT READS IS OF BULK AT MOST 1048576: true; the input reads as it did. -/
def fnExactKindsByUptoRow : OpenClaim := { program := "ytdolpkjighbohaa", sum := "775e9c136929766a6b0234365fbb74f9c4ea30859144282b1ba2bd7881941156", func := "loop.example/graphmaps/laws.FnExactKindsBy", spec := "fnExactKindsBy", unfollowed := true, recurses := true, apart := false, narrowed := true }
def FnExactKindsByUptoSaid : Prop := fnExactKindsByUptoRow.holds Try.pinned (OpenSpec.upto fnExactKindsBySpec)

/-- 'laws.FnExactFromKinds', WHERE WHAT IT READS IS OF BULK AT MOST 1048576: true; the input reads as it did. -/
def fnExactFromKindsUptoRow : OpenClaim := { program := "ytdolpkjighbohaa", sum := "775e9c136929766a6b0234365fbb74f9c4ea30859144282b1ba2bd7881941156", func := "loop.example/graphmaps/laws.FnExactFromKinds", spec := "fnExactFromKinds", unfollowed := true, recurses := true, apart := false, narrowed := true }
def FnExactFromKindsUptoSaid : Prop := fnExactFromKindsUptoRow.holds Try.pinned (OpenSpec.upto fnExactFromKindsSpec)

/-- 'laws.FnExactApartOk', WHERE WHAT IT READS IS OF BULK AT MOST 1048576: true; the input reads as it did. -/
def fnExactApartOkUptoRow : OpenClaim := { program := "ytdolpkjighbohaa", sum := "775e9c136929766a6b0234365fbb74f9c4ea30859144282b1ba2bd7881941156", func := "loop.example/graphmaps/laws.FnExactApartOk", spec := "fnExactApartOk", unfollowed := true, recurses := true, apart := false, narrowed := true }
def FnExactApartOkUptoSaid : Prop := fnExactApartOkUptoRow.holds Try.pinned (OpenSpec.upto fnExactApartOkSpec)

/-- 'laws.FnExactCountApart', WHERE WHAT IT READS IS OF BULK AT MOST 1048576: true; the input reads as it did. -/
def fnExactCountApartUptoRow : OpenClaim := { program := "ytdolpkjighbohaa", sum := "775e9c136929766a6b0234365fbb74f9c4ea30859144282b1ba2bd7881941156", func := "loop.example/graphmaps/laws.FnExactCountApart", spec := "fnExactCountApart", unfollowed := true, recurses := true, apart := false, narrowed := true }
def FnExactCountApartUptoSaid : Prop := fnExactCountApartUptoRow.holds Try.pinned (OpenSpec.upto fnExactCountApartSpec)

end Rows
end Go.Proofs.Ytdolpkjighbohaa
