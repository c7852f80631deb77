/-
  No cell of these rows narrows 'for every input' (looked for: loops, veiled, ifaces, maps, wideKeys, modest, calm, conditions, laid).
  DERIVED. THE GIVEN ROWS OF THIS SEAT. 12 by the template 'for every input the law returns true; each argument reads behind the call as it read before'; 0 by the template 'total and deterministic' (their statements: YtjnniilabheijaaTotals.lean).
  GIVEN WITH THE SEED: the statements are not yours to turn. If you find one false, say at which input.
  Laid BY PROGRAM, IN A SANDBOX (cutbox-rows.mjs): the forced cells as the released guide's own fill.sh prints them over the translation 69206c244f6c6d94… (all of the seat's roots in one cut). By AI agents, Wed Nov 11 2026. No macro, syntax, notation, axiom, sorry.
-/
import Derived.Test.YtjnniilabheijaaChecked
import GoSem.Claim
import GoSem.ClaimJoined
import GoSem.ClaimMapViews
import Derived.JoinedTies
import Derived.KernelRfl
namespace Go.Proofs.Ytjnniilabheijaa
/- THE CELL 'sum', in the pinned program and in every row, IS THE sha256 OF THE DUMP (.gsa) THAT YtjnniilabheijaaProg.lean LOADS. Nothing in Lean hashes anything: it is a label: what it is worth is what the hold of that sum in a sandbox is worth. -/
noncomputable def Try.pinned : Pinned := { name := "ytjnniilabheijaa", sum := "69206c244f6c6d946f242d0f00d9fbb8b54bdad1dba58bec6ac706e4844f6daf", checked := Try.checked }
namespace Rows
def none {H : Type} : Left H := { results := [], args := [] }

/-- 'laws.FnExactIsAlgorithm': WHATEVER THE INPUT: true; the input reads as it did. -/
def fnExactIsAlgorithmSpec : ChangeSpec := { name := "fnExactIsAlgorithm", fn := fun _ => fun
  | [d1, d2] => { results := [.lit (.bool true)], args := [d1, d2] }
  | _ => none }
def fnExactIsAlgorithmRow : OpenClaim := { program := "ytjnniilabheijaa", sum := "69206c244f6c6d946f242d0f00d9fbb8b54bdad1dba58bec6ac706e4844f6daf", func := "loop.example/g01087/laws.FnExactIsAlgorithm", spec := "fnExactIsAlgorithm", unfollowed := true, recurses := true, plainKeys := false, apart := false }
def FnExactIsAlgorithmSaid : Prop := fnExactIsAlgorithmRow.holds Try.pinned (OpenSpec.ofChange fnExactIsAlgorithmSpec)

/-- ITS FALSE NEIGHBOUR: 'it returns false'. Refute it at one input. -/
def fnExactIsAlgorithmWrong : ChangeSpec := { name := "fnExactIsAlgorithm", fn := fun _ => fun
  | [d1, d2] => { results := [.lit (.bool false)], args := [d1, d2] }
  | _ => none }
def FnExactIsAlgorithmWrongFalsely : Prop := fnExactIsAlgorithmRow.holds Try.pinned (OpenSpec.ofChange fnExactIsAlgorithmWrong)

/-- 'laws.FnExactAlgorithmStates': WHATEVER THE INPUT: true; the input reads as it did. -/
def fnExactAlgorithmStatesSpec : ChangeSpec := { name := "fnExactAlgorithmStates", fn := fun _ => fun
  | [d1, d2, d3, d4] => { results := [.lit (.bool true)], args := [d1, d2, d3, d4] }
  | _ => none }
def fnExactAlgorithmStatesRow : OpenClaim := { program := "ytjnniilabheijaa", sum := "69206c244f6c6d946f242d0f00d9fbb8b54bdad1dba58bec6ac706e4844f6daf", func := "loop.example/g01087/laws.FnExactAlgorithmStates", spec := "fnExactAlgorithmStates", unfollowed := true, recurses := true, plainKeys := false, apart := false }
def FnExactAlgorithmStatesSaid : Prop := fnExactAlgorithmStatesRow.holds Try.pinned (OpenSpec.ofChange fnExactAlgorithmStatesSpec)

/-- ITS FALSE NEIGHBOUR: 'it returns false'. Refute it at one input. -/
def fnExactAlgorithmStatesWrong : ChangeSpec := { name := "fnExactAlgorithmStates", fn := fun _ => fun
  | [d1, d2, d3, d4] => { results := [.lit (.bool false)], args := [d1, d2, d3, d4] }
  | _ => none }
def FnExactAlgorithmStatesWrongFalsely : Prop := fnExactAlgorithmStatesRow.holds Try.pinned (OpenSpec.ofChange fnExactAlgorithmStatesWrong)

/-- 'laws.FnExactAlgorithmCost': WHATEVER THE INPUT: true; the input reads as it did. -/
def fnExactAlgorithmCostSpec : ChangeSpec := { name := "fnExactAlgorithmCost", fn := fun _ => fun
  | [d1, d2, d3, d4] => { results := [.lit (.bool true)], args := [d1, d2, d3, d4] }
  | _ => none }
def fnExactAlgorithmCostRow : OpenClaim := { program := "ytjnniilabheijaa", sum := "69206c244f6c6d946f242d0f00d9fbb8b54bdad1dba58bec6ac706e4844f6daf", func := "loop.example/g01087/laws.FnExactAlgorithmCost", spec := "fnExactAlgorithmCost", unfollowed := true, recurses := true, plainKeys := false, apart := false }
def FnExactAlgorithmCostSaid : Prop := fnExactAlgorithmCostRow.holds Try.pinned (OpenSpec.ofChange fnExactAlgorithmCostSpec)

/-- ITS FALSE NEIGHBOUR: 'it returns false'. Refute it at one input. -/
def fnExactAlgorithmCostWrong : ChangeSpec := { name := "fnExactAlgorithmCost", fn := fun _ => fun
  | [d1, d2, d3, d4] => { results := [.lit (.bool false)], args := [d1, d2, d3, d4] }
  | _ => none }
def FnExactAlgorithmCostWrongFalsely : Prop := fnExactAlgorithmCostRow.holds Try.pinned (OpenSpec.ofChange fnExactAlgorithmCostWrong)

/-- 'laws.FnExactOffsetsOf': WHATEVER THE INPUT: true; the input reads as it did. -/
def fnExactOffsetsOfSpec : ChangeSpec := { name := "fnExactOffsetsOf", fn := fun _ => fun
  | [d1, d2] => { results := [.lit (.bool true)], args := [d1, d2] }
  | _ => none }
def fnExactOffsetsOfRow : OpenClaim := { program := "ytjnniilabheijaa", sum := "69206c244f6c6d946f242d0f00d9fbb8b54bdad1dba58bec6ac706e4844f6daf", func := "loop.example/g01087/laws.FnExactOffsetsOf", spec := "fnExactOffsetsOf", unfollowed := true, recurses := true, plainKeys := false, apart := false }
def FnExactOffsetsOfSaid : Prop := fnExactOffsetsOfRow.holds Try.pinned (OpenSpec.ofChange fnExactOffsetsOfSpec)

/-- ITS FALSE NEIGHBOUR: 'it returns false'. Refute it at one input. -/
def fnExactOffsetsOfWrong : ChangeSpec := { name := "fnExactOffsetsOf", fn := fun _ => fun
  | [d1, d2] => { results := [.lit (.bool false)], args := [d1, d2] }
  | _ => none }
def FnExactOffsetsOfWrongFalsely : Prop := fnExactOffsetsOfRow.holds Try.pinned (OpenSpec.ofChange fnExactOffsetsOfWrong)

/-- 'laws.FnExactOffsetSteps': WHATEVER THE INPUT: true; the input reads as it did. -/
def fnExactOffsetStepsSpec : ChangeSpec := { name := "fnExactOffsetSteps", fn := fun _ => fun
  | [d1, d2] => { results := [.lit (.bool true)], args := [d1, d2] }
  | _ => none }
def fnExactOffsetStepsRow : OpenClaim := { program := "ytjnniilabheijaa", sum := "69206c244f6c6d946f242d0f00d9fbb8b54bdad1dba58bec6ac706e4844f6daf", func := "loop.example/g01087/laws.FnExactOffsetSteps", spec := "fnExactOffsetSteps", unfollowed := true, recurses := true, plainKeys := false, apart := false }
def FnExactOffsetStepsSaid : Prop := fnExactOffsetStepsRow.holds Try.pinned (OpenSpec.ofChange fnExactOffsetStepsSpec)

/-- ITS FALSE NEIGHBOUR: 'it returns false'. Refute it at one input. -/
def fnExactOffsetStepsWrong : ChangeSpec := { name := "fnExactOffsetSteps", fn := fun _ => fun
  | [d1, d2] => { results := [.lit (.bool false)], args := [d1, d2] }
  | _ => none }
def FnExactOffsetStepsWrongFalsely : Prop := fnExactOffsetStepsRow.holds Try.pinned (OpenSpec.ofChange fnExactOffsetStepsWrong)

/-- 'laws.FnExactBestSchedule': WHATEVER THE INPUT: true; the input reads as it did. -/
def fnExactBestScheduleSpec : ChangeSpec := { name := "fnExactBestSchedule", fn := fun _ => fun
  | [d1, d2, d3] => { results := [.lit (.bool true)], args := [d1, d2, d3] }
  | _ => none }
def fnExactBestScheduleRow : OpenClaim := { program := "ytjnniilabheijaa", sum := "69206c244f6c6d946f242d0f00d9fbb8b54bdad1dba58bec6ac706e4844f6daf", func := "loop.example/g01087/laws.FnExactBestSchedule", spec := "fnExactBestSchedule", unfollowed := true, recurses := true, plainKeys := false, apart := false }
def FnExactBestScheduleSaid : Prop := fnExactBestScheduleRow.holds Try.pinned (OpenSpec.ofChange fnExactBestScheduleSpec)

/-- ITS FALSE NEIGHBOUR: 'it returns false'. Refute it at one input. -/
def fnExactBestScheduleWrong : ChangeSpec := { name := "fnExactBestSchedule", fn := fun _ => fun
  | [d1, d2, d3] => { results := [.lit (.bool false)], args := [d1, d2, d3] }
  | _ => none }
def FnExactBestScheduleWrongFalsely : Prop := fnExactBestScheduleRow.holds Try.pinned (OpenSpec.ofChange fnExactBestScheduleWrong)

/-- 'laws.FnExactWorstSequence': WHATEVER THE INPUT: true; the input reads as it did. -/
def fnExactWorstSequenceSpec : ChangeSpec := { name := "fnExactWorstSequence", fn := fun _ => fun
  | [d1, d2, d3, d4] => { results := [.lit (.bool true)], args := [d1, d2, d3, d4] }
  | _ => none }
def fnExactWorstSequenceRow : OpenClaim := { program := "ytjnniilabheijaa", sum := "69206c244f6c6d946f242d0f00d9fbb8b54bdad1dba58bec6ac706e4844f6daf", func := "loop.example/g01087/laws.FnExactWorstSequence", spec := "fnExactWorstSequence", unfollowed := true, recurses := true, plainKeys := false, apart := false }
def FnExactWorstSequenceSaid : Prop := fnExactWorstSequenceRow.holds Try.pinned (OpenSpec.ofChange fnExactWorstSequenceSpec)

/-- ITS FALSE NEIGHBOUR: 'it returns false'. Refute it at one input. -/
def fnExactWorstSequenceWrong : ChangeSpec := { name := "fnExactWorstSequence", fn := fun _ => fun
  | [d1, d2, d3, d4] => { results := [.lit (.bool false)], args := [d1, d2, d3, d4] }
  | _ => none }
def FnExactWorstSequenceWrongFalsely : Prop := fnExactWorstSequenceRow.holds Try.pinned (OpenSpec.ofChange fnExactWorstSequenceWrong)

/-- 'laws.FnExactPairsOf': WHATEVER THE INPUT: true; the input reads as it did. -/
def fnExactPairsOfSpec : ChangeSpec := { name := "fnExactPairsOf", fn := fun _ => fun
  | [d1, d2, d3] => { results := [.lit (.bool true)], args := [d1, d2, d3] }
  | _ => none }
def fnExactPairsOfRow : OpenClaim := { program := "ytjnniilabheijaa", sum := "69206c244f6c6d946f242d0f00d9fbb8b54bdad1dba58bec6ac706e4844f6daf", func := "loop.example/g01087/laws.FnExactPairsOf", spec := "fnExactPairsOf", unfollowed := true, recurses := true, plainKeys := false, apart := false }
def FnExactPairsOfSaid : Prop := fnExactPairsOfRow.holds Try.pinned (OpenSpec.ofChange fnExactPairsOfSpec)

/-- ITS FALSE NEIGHBOUR: 'it returns false'. Refute it at one input. -/
def fnExactPairsOfWrong : ChangeSpec := { name := "fnExactPairsOf", fn := fun _ => fun
  | [d1, d2, d3] => { results := [.lit (.bool false)], args := [d1, d2, d3] }
  | _ => none }
def FnExactPairsOfWrongFalsely : Prop := fnExactPairsOfRow.holds Try.pinned (OpenSpec.ofChange fnExactPairsOfWrong)

/-- 'laws.FnExactPairSteps': WHATEVER THE INPUT: true; the input reads as it did. -/
def fnExactPairStepsSpec : ChangeSpec := { name := "fnExactPairSteps", fn := fun _ => fun
  | [d1, d2, d3] => { results := [.lit (.bool true)], args := [d1, d2, d3] }
  | _ => none }
def fnExactPairStepsRow : OpenClaim := { program := "ytjnniilabheijaa", sum := "69206c244f6c6d946f242d0f00d9fbb8b54bdad1dba58bec6ac706e4844f6daf", func := "loop.example/g01087/laws.FnExactPairSteps", spec := "fnExactPairSteps", unfollowed := true, recurses := true, plainKeys := false, apart := false }
def FnExactPairStepsSaid : Prop := fnExactPairStepsRow.holds Try.pinned (OpenSpec.ofChange fnExactPairStepsSpec)

/-- ITS FALSE NEIGHBOUR: 'it returns false'. Refute it at one input. -/
def fnExactPairStepsWrong : ChangeSpec := { name := "fnExactPairSteps", fn := fun _ => fun
  | [d1, d2, d3] => { results := [.lit (.bool false)], args := [d1, d2, d3] }
  | _ => none }
def FnExactPairStepsWrongFalsely : Prop := fnExactPairStepsRow.holds Try.pinned (OpenSpec.ofChange fnExactPairStepsWrong)

/-- 'laws.FnExactPairAfter': WHATEVER THE INPUT: true; the input reads as it did. -/
def fnExactPairAfterSpec : ChangeSpec := { name := "fnExactPairAfter", fn := fun _ => fun
  | [d1, d2, d3, d4] => { results := [.lit (.bool true)], args := [d1, d2, d3, d4] }
  | _ => none }
def fnExactPairAfterRow : OpenClaim := { program := "ytjnniilabheijaa", sum := "69206c244f6c6d946f242d0f00d9fbb8b54bdad1dba58bec6ac706e4844f6daf", func := "loop.example/g01087/laws.FnExactPairAfter", spec := "fnExactPairAfter", unfollowed := true, recurses := true, plainKeys := false, apart := false }
def FnExactPairAfterSaid : Prop := fnExactPairAfterRow.holds Try.pinned (OpenSpec.ofChange fnExactPairAfterSpec)

/-- ITS FALSE NEIGHBOUR: 'it returns false'. Refute it at one input. -/
def fnExactPairAfterWrong : ChangeSpec := { name := "fnExactPairAfter", fn := fun _ => fun
  | [d1, d2, d3, d4] => { results := [.lit (.bool false)], args := [d1, d2, d3, d4] }
  | _ => none }
def FnExactPairAfterWrongFalsely : Prop := fnExactPairAfterRow.holds Try.pinned (OpenSpec.ofChange fnExactPairAfterWrong)

/-- 'laws.FnExactPositionsOf': WHATEVER THE INPUT: true; the input reads as it did. -/
def fnExactPositionsOfSpec : ChangeSpec := { name := "fnExactPositionsOf", fn := fun _ => fun
  | [d1, d2] => { results := [.lit (.bool true)], args := [d1, d2] }
  | _ => none }
def fnExactPositionsOfRow : OpenClaim := { program := "ytjnniilabheijaa", sum := "69206c244f6c6d946f242d0f00d9fbb8b54bdad1dba58bec6ac706e4844f6daf", func := "loop.example/g01087/laws.FnExactPositionsOf", spec := "fnExactPositionsOf", unfollowed := true, recurses := true, plainKeys := false, apart := false }
def FnExactPositionsOfSaid : Prop := fnExactPositionsOfRow.holds Try.pinned (OpenSpec.ofChange fnExactPositionsOfSpec)

/-- ITS FALSE NEIGHBOUR: 'it returns false'. Refute it at one input. -/
def fnExactPositionsOfWrong : ChangeSpec := { name := "fnExactPositionsOf", fn := fun _ => fun
  | [d1, d2] => { results := [.lit (.bool false)], args := [d1, d2] }
  | _ => none }
def FnExactPositionsOfWrongFalsely : Prop := fnExactPositionsOfRow.holds Try.pinned (OpenSpec.ofChange fnExactPositionsOfWrong)

/-- 'laws.FnExactGameSteps': WHATEVER THE INPUT: true; the input reads as it did. -/
def fnExactGameStepsSpec : ChangeSpec := { name := "fnExactGameSteps", fn := fun _ => fun
  | [d1, d2] => { results := [.lit (.bool true)], args := [d1, d2] }
  | _ => none }
def fnExactGameStepsRow : OpenClaim := { program := "ytjnniilabheijaa", sum := "69206c244f6c6d946f242d0f00d9fbb8b54bdad1dba58bec6ac706e4844f6daf", func := "loop.example/g01087/laws.FnExactGameSteps", spec := "fnExactGameSteps", unfollowed := true, recurses := true, plainKeys := false, apart := false }
def FnExactGameStepsSaid : Prop := fnExactGameStepsRow.holds Try.pinned (OpenSpec.ofChange fnExactGameStepsSpec)

/-- ITS FALSE NEIGHBOUR: 'it returns false'. Refute it at one input. -/
def fnExactGameStepsWrong : ChangeSpec := { name := "fnExactGameSteps", fn := fun _ => fun
  | [d1, d2] => { results := [.lit (.bool false)], args := [d1, d2] }
  | _ => none }
def FnExactGameStepsWrongFalsely : Prop := fnExactGameStepsRow.holds Try.pinned (OpenSpec.ofChange fnExactGameStepsWrong)

/- THE SECOND FORM. 'bulk': how many values and letters a reading holds, each counted each time it is reached (what is shared counts as often as it is met; a slice's spare places count too). A statement '..UptoSaid' is the law's where the arguments, and the package variables that the reading takes, are together of bulk at most 1048576: NARROWER than '..Said'. Prove '..Said' where nothing that the law and all that it calls make is longer than what came in: it says more and counts as full. Else prove '..UptoSaid'. A law counts once. -/
mutual
def uptoBulk {H : Type} : DataW H → Nat
  | .lit (.string bytes) => bytes.length + 1
  | .lit _ => 1
  | .nil => 1
  | .ptr d => uptoBulk d + 1
  | .slice elems spare => uptoBulkAll elems + uptoBulkAll spare + 1
  | .agg parts => uptoBulkAll parts + 1
  | .iface _ d => uptoBulk d + 1
  | .map entries => uptoBulkEntries entries + 1
  | .held _ => 1
def uptoBulkAll {H : Type} : List (DataW H) → Nat
  | [] => 0
  | d :: r => uptoBulk d + uptoBulkAll r
def uptoBulkEntries {H : Type} : List (Lit × DataW H) → Nat
  | [] => 0
  | x :: r => uptoBulkEntry x + uptoBulkEntries r
def uptoBulkEntry {H : Type} : Lit × DataW H → Nat
  | (.string bytes, d) => bytes.length + uptoBulk d + 1
  | (_, d) => uptoBulk d + 1
 end
def uptoSmall : (H : Type) → List (DataW H) → Bool := fun _ ds => decide (uptoBulkAll ds ≤ 1048576)
def OpenSpec.upto (s : _root_.Go.ChangeSpec) : _root_.Go.OpenSpec := { _root_.Go.OpenSpec.ofChange s with cond := some uptoSmall }

/-- 'laws.FnExactIsAlgorithm', WHERE WHAT IT READS IS OF BULK AT MOST 1048576: true; the input reads as it did. -/
def fnExactIsAlgorithmUptoRow : OpenClaim := { program := "ytjnniilabheijaa", sum := "69206c244f6c6d946f242d0f00d9fbb8b54bdad1dba58bec6ac706e4844f6daf", func := "loop.example/g01087/laws.FnExactIsAlgorithm", spec := "fnExactIsAlgorithm", unfollowed := true, recurses := true, plainKeys := false, apart := false, narrowed := true }
def FnExactIsAlgorithmUptoSaid : Prop := fnExactIsAlgorithmUptoRow.holds Try.pinned (OpenSpec.upto fnExactIsAlgorithmSpec)

/-- 'laws.FnExactAlgorithmStates', WHERE WHAT IT READS IS OF BULK AT MOST 1048576: true; the input reads as it did. -/
def fnExactAlgorithmStatesUptoRow : OpenClaim := { program := "ytjnniilabheijaa", sum := "69206c244f6c6d946f242d0f00d9fbb8b54bdad1dba58bec6ac706e4844f6daf", func := "loop.example/g01087/laws.FnExactAlgorithmStates", spec := "fnExactAlgorithmStates", unfollowed := true, recurses := true, plainKeys := false, apart := false, narrowed := true }
def FnExactAlgorithmStatesUptoSaid : Prop := fnExactAlgorithmStatesUptoRow.holds Try.pinned (OpenSpec.upto fnExactAlgorithmStatesSpec)

/-- 'laws.FnExactAlgorithmCost', WHERE WHAT IT READS IS OF BULK AT MOST 1048576: true; the input reads as it did. -/
def fnExactAlgorithmCostUptoRow : OpenClaim := { program := "ytjnniilabheijaa", sum := "69206c244f6c6d946f242d0f00d9fbb8b54bdad1dba58bec6ac706e4844f6daf", func := "loop.example/g01087/laws.FnExactAlgorithmCost", spec := "fnExactAlgorithmCost", unfollowed := true, recurses := true, plainKeys := false, apart := false, narrowed := true }
def FnExactAlgorithmCostUptoSaid : Prop := fnExactAlgorithmCostUptoRow.holds Try.pinned (OpenSpec.upto fnExactAlgorithmCostSpec)

/-- 'laws.FnExactOffsetsOf', WHERE WHAT IT READS IS OF BULK AT MOST 1048576: true; the input reads as it did. -/
def fnExactOffsetsOfUptoRow : OpenClaim := { program := "ytjnniilabheijaa", sum := "69206c244f6c6d946f242d0f00d9fbb8b54bdad1dba58bec6ac706e4844f6daf", func := "loop.example/g01087/laws.FnExactOffsetsOf", spec := "fnExactOffsetsOf", unfollowed := true, recurses := true, plainKeys := false, apart := false, narrowed := true }
def FnExactOffsetsOfUptoSaid : Prop := fnExactOffsetsOfUptoRow.holds Try.pinned (OpenSpec.upto fnExactOffsetsOfSpec)

/-- 'laws.FnExactOffsetSteps', WHERE WHAT IT READS IS OF BULK AT MOST 1048576: true; the input reads as it did. -/
def fnExactOffsetStepsUptoRow : OpenClaim := { program := "ytjnniilabheijaa", sum := "69206c244f6c6d946f242d0f00d9fbb8b54bdad1dba58bec6ac706e4844f6daf", func := "loop.example/g01087/laws.FnExactOffsetSteps", spec := "fnExactOffsetSteps", unfollowed := true, recurses := true, plainKeys := false, apart := false, narrowed := true }
def FnExactOffsetStepsUptoSaid : Prop := fnExactOffsetStepsUptoRow.holds Try.pinned (OpenSpec.upto fnExactOffsetStepsSpec)

/-- 'laws.FnExactBestSchedule', WHERE WHAT IT READS IS OF BULK AT MOST 1048576: true; the input reads as it did. -/
def fnExactBestScheduleUptoRow : OpenClaim := { program := "ytjnniilabheijaa", sum := "69206c244f6c6d946f242d0f00d9fbb8b54bdad1dba58bec6ac706e4844f6daf", func := "loop.example/g01087/laws.FnExactBestSchedule", spec := "fnExactBestSchedule", unfollowed := true, recurses := true, plainKeys := false, apart := false, narrowed := true }
def FnExactBestScheduleUptoSaid : Prop := fnExactBestScheduleUptoRow.holds Try.pinned (OpenSpec.upto fnExactBestScheduleSpec)

/-- 'laws.FnExactWorstSequence', WHERE WHAT IT READS IS OF BULK AT MOST 1048576: true; the input reads as it did. -/
def fnExactWorstSequenceUptoRow : OpenClaim := { program := "ytjnniilabheijaa", sum := "69206c244f6c6d946f242d0f00d9fbb8b54bdad1dba58bec6ac706e4844f6daf", func := "loop.example/g01087/laws.FnExactWorstSequence", spec := "fnExactWorstSequence", unfollowed := true, recurses := true, plainKeys := false, apart := false, narrowed := true }
def FnExactWorstSequenceUptoSaid : Prop := fnExactWorstSequenceUptoRow.holds Try.pinned (OpenSpec.upto fnExactWorstSequenceSpec)

/-- 'laws.FnExactPairsOf', WHERE WHAT IT READS IS OF BULK AT MOST 1048576: true; the input reads as it did. -/
def fnExactPairsOfUptoRow : OpenClaim := { program := "ytjnniilabheijaa", sum := "69206c244f6c6d946f242d0f00d9fbb8b54bdad1dba58bec6ac706e4844f6daf", func := "loop.example/g01087/laws.FnExactPairsOf", spec := "fnExactPairsOf", unfollowed := true, recurses := true, plainKeys := false, apart := false, narrowed := true }
def FnExactPairsOfUptoSaid : Prop := fnExactPairsOfUptoRow.holds Try.pinned (OpenSpec.upto fnExactPairsOfSpec)

/-- 'laws.FnExactPairSteps', WHERE WHAT IT READS IS OF BULK AT MOST 1048576: true; the input reads as it did. -/
def fnExactPairStepsUptoRow : OpenClaim := { program := "ytjnniilabheijaa", sum := "69206c244f6c6d946f242d0f00d9fbb8b54bdad1dba58bec6ac706e4844f6daf", func := "loop.example/g01087/laws.FnExactPairSteps", spec := "fnExactPairSteps", unfollowed := true, recurses := true, plainKeys := false, apart := false, narrowed := true }
def FnExactPairStepsUptoSaid : Prop := fnExactPairStepsUptoRow.holds Try.pinned (OpenSpec.upto fnExactPairStepsSpec)

/-- 'laws.FnExactPairAfter', WHERE WHAT IT READS IS OF BULK AT MOST 1048576: true; the input reads as it did. -/
def fnExactPairAfterUptoRow : OpenClaim := { program := "ytjnniilabheijaa", sum := "69206c244f6c6d946f242d0f00d9fbb8b54bdad1dba58bec6ac706e4844f6daf", func := "loop.example/g01087/laws.FnExactPairAfter", spec := "fnExactPairAfter", unfollowed := true, recurses := true, plainKeys := false, apart := false, narrowed := true }
def FnExactPairAfterUptoSaid : Prop := fnExactPairAfterUptoRow.holds Try.pinned (OpenSpec.upto fnExactPairAfterSpec)

/-- 'laws.FnExactPositionsOf', WHERE WHAT IT READS IS OF BULK AT MOST 1048576: true; the input reads as it did. -/
def fnExactPositionsOfUptoRow : OpenClaim := { program := "ytjnniilabheijaa", sum := "69206c244f6c6d946f242d0f00d9fbb8b54bdad1dba58bec6ac706e4844f6daf", func := "loop.example/g01087/laws.FnExactPositionsOf", spec := "fnExactPositionsOf", unfollowed := true, recurses := true, plainKeys := false, apart := false, narrowed := true }
def FnExactPositionsOfUptoSaid : Prop := fnExactPositionsOfUptoRow.holds Try.pinned (OpenSpec.upto fnExactPositionsOfSpec)

/-- 'laws.FnExactGameSteps', WHERE WHAT IT READS IS OF BULK AT MOST 1048576: true; the input reads as it did. -/
def fnExactGameStepsUptoRow : OpenClaim := { program := "ytjnniilabheijaa", sum := "69206c244f6c6d946f242d0f00d9fbb8b54bdad1dba58bec6ac706e4844f6daf", func := "loop.example/g01087/laws.FnExactGameSteps", spec := "fnExactGameSteps", unfollowed := true, recurses := true, plainKeys := false, apart := false, narrowed := true }
def FnExactGameStepsUptoSaid : Prop := fnExactGameStepsUptoRow.holds Try.pinned (OpenSpec.upto fnExactGameStepsSpec)

end Rows
end Go.Proofs.Ytjnniilabheijaa
