/-
  No cell of these rows narrows 'for every input' (looked for: loops, veiled, ifaces, maps, wideKeys, modest, calm, conditions, laid).
  DERIVED. THE GIVEN ROWS OF THIS SEAT. 12 by the template 'for every input the law returns true; each argument reads behind the call as it read before'; 0 by the template 'total and deterministic' (their statements: YthpoeeadhjnljaaTotals.lean).
  GIVEN WITH THE SEED: the statements are not yours to turn. If you find one false, say at which input.
  Laid BY PROGRAM, IN A SANDBOX (cutbox-rows.mjs): the forced cells as the released guide's own fill.sh prints them over the translation b48e043b9755e41a… (all of the seat's roots in one cut). By AI agents, Wed Nov 11 2026. No macro, syntax, notation, axiom, sorry.
-/
import Derived.Test.YthpoeeadhjnljaaChecked
import GoSem.Claim
import GoSem.ClaimJoined
import GoSem.ClaimMapViews
import Derived.JoinedTies
import Derived.KernelRfl
namespace Go.Proofs.Ythpoeeadhjnljaa
/- THE CELL 'sum', in the pinned program and in every row, IS THE sha256 OF THE DUMP (.gsa) THAT YthpoeeadhjnljaaProg.lean LOADS. Nothing in Lean hashes anything: it is a label: what it is worth is what the hold of that sum in a sandbox is worth. -/
noncomputable def Try.pinned : Pinned := { name := "ythpoeeadhjnljaa", sum := "b48e043b9755e41a984d9052f127e77f32edae561b8b806cd9eae76cd0dfb356", checked := Try.checked }
namespace Rows
def none {H : Type} : Left H := { results := [], args := [] }

/-- 'laws.FnExactIsAlgorithm': WHATEVER THE INPUT: true; the input reads as it did. -/
def fnExactIsAlgorithmSpec : ChangeSpec := { name := "fnExactIsAlgorithm", fn := fun _ => fun
  | [d1, d2] => { results := [.lit (.bool true)], args := [d1, d2] }
  | _ => none }
def fnExactIsAlgorithmRow : OpenClaim := { program := "ythpoeeadhjnljaa", sum := "b48e043b9755e41a984d9052f127e77f32edae561b8b806cd9eae76cd0dfb356", func := "loop.example/g01087/laws.FnExactIsAlgorithm", spec := "fnExactIsAlgorithm", unfollowed := true, recurses := true, plainKeys := false, apart := false }
def FnExactIsAlgorithmSaid : Prop := fnExactIsAlgorithmRow.holds Try.pinned (OpenSpec.ofChange fnExactIsAlgorithmSpec)

/-- ITS FALSE NEIGHBOUR: 'it returns false'. Refute it at one input. -/
def fnExactIsAlgorithmWrong : ChangeSpec := { name := "fnExactIsAlgorithm", fn := fun _ => fun
  | [d1, d2] => { results := [.lit (.bool false)], args := [d1, d2] }
  | _ => none }
def FnExactIsAlgorithmWrongFalsely : Prop := fnExactIsAlgorithmRow.holds Try.pinned (OpenSpec.ofChange fnExactIsAlgorithmWrong)

/-- 'laws.FnExactAlgorithmStates': WHATEVER THE INPUT: true; the input reads as it did. -/
def fnExactAlgorithmStatesSpec : ChangeSpec := { name := "fnExactAlgorithmStates", fn := fun _ => fun
  | [d1, d2, d3, d4] => { results := [.lit (.bool true)], args := [d1, d2, d3, d4] }
  | _ => none }
def fnExactAlgorithmStatesRow : OpenClaim := { program := "ythpoeeadhjnljaa", sum := "b48e043b9755e41a984d9052f127e77f32edae561b8b806cd9eae76cd0dfb356", func := "loop.example/g01087/laws.FnExactAlgorithmStates", spec := "fnExactAlgorithmStates", unfollowed := true, recurses := true, plainKeys := false, apart := false }
def FnExactAlgorithmStatesSaid : Prop := fnExactAlgorithmStatesRow.holds Try.pinned (OpenSpec.ofChange fnExactAlgorithmStatesSpec)

/-- ITS FALSE NEIGHBOUR: 'it returns false'. Refute it at one input. -/
def fnExactAlgorithmStatesWrong : ChangeSpec := { name := "fnExactAlgorithmStates", fn := fun _ => fun
  | [d1, d2, d3, d4] => { results := [.lit (.bool false)], args := [d1, d2, d3, d4] }
  | _ => none }
def FnExactAlgorithmStatesWrongFalsely : Prop := fnExactAlgorithmStatesRow.holds Try.pinned (OpenSpec.ofChange fnExactAlgorithmStatesWrong)

/-- 'laws.FnExactAlgorithmCost': WHATEVER THE INPUT: true; the input reads as it did. -/
def fnExactAlgorithmCostSpec : ChangeSpec := { name := "fnExactAlgorithmCost", fn := fun _ => fun
  | [d1, d2, d3, d4] => { results := [.lit (.bool true)], args := [d1, d2, d3, d4] }
  | _ => none }
def fnExactAlgorithmCostRow : OpenClaim := { program := "ythpoeeadhjnljaa", sum := "b48e043b9755e41a984d9052f127e77f32edae561b8b806cd9eae76cd0dfb356", func := "loop.example/g01087/laws.FnExactAlgorithmCost", spec := "fnExactAlgorithmCost", unfollowed := true, recurses := true, plainKeys := false, apart := false }
def FnExactAlgorithmCostSaid : Prop := fnExactAlgorithmCostRow.holds Try.pinned (OpenSpec.ofChange fnExactAlgorithmCostSpec)

/-- ITS FALSE NEIGHBOUR: 'it returns false'. Refute it at one input. -/
def fnExactAlgorithmCostWrong : ChangeSpec := { name := "fnExactAlgorithmCost", fn := fun _ => fun
  | [d1, d2, d3, d4] => { results := [.lit (.bool false)], args := [d1, d2, d3, d4] }
  | _ => none }
def FnExactAlgorithmCostWrongFalsely : Prop := fnExactAlgorithmCostRow.holds Try.pinned (OpenSpec.ofChange fnExactAlgorithmCostWrong)

/-- 'laws.FnExactLeastCost': WHATEVER THE INPUT: true; the input reads as it did. -/
def fnExactLeastCostSpec : ChangeSpec := { name := "fnExactLeastCost", fn := fun _ => fun
  | [d1, d2, d3] => { results := [.lit (.bool true)], args := [d1, d2, d3] }
  | _ => none }
def fnExactLeastCostRow : OpenClaim := { program := "ythpoeeadhjnljaa", sum := "b48e043b9755e41a984d9052f127e77f32edae561b8b806cd9eae76cd0dfb356", func := "loop.example/g01087/laws.FnExactLeastCost", spec := "fnExactLeastCost", unfollowed := true, recurses := true, plainKeys := false, apart := false }
def FnExactLeastCostSaid : Prop := fnExactLeastCostRow.holds Try.pinned (OpenSpec.ofChange fnExactLeastCostSpec)

/-- ITS FALSE NEIGHBOUR: 'it returns false'. Refute it at one input. -/
def fnExactLeastCostWrong : ChangeSpec := { name := "fnExactLeastCost", fn := fun _ => fun
  | [d1, d2, d3] => { results := [.lit (.bool false)], args := [d1, d2, d3] }
  | _ => none }
def FnExactLeastCostWrongFalsely : Prop := fnExactLeastCostRow.holds Try.pinned (OpenSpec.ofChange fnExactLeastCostWrong)

/-- 'laws.FnExactWorkFunction': WHATEVER THE INPUT: true; the input reads as it did. -/
def fnExactWorkFunctionSpec : ChangeSpec := { name := "fnExactWorkFunction", fn := fun _ => fun
  | [d1, d2, d3] => { results := [.lit (.bool true)], args := [d1, d2, d3] }
  | _ => none }
def fnExactWorkFunctionRow : OpenClaim := { program := "ythpoeeadhjnljaa", sum := "b48e043b9755e41a984d9052f127e77f32edae561b8b806cd9eae76cd0dfb356", func := "loop.example/g01087/laws.FnExactWorkFunction", spec := "fnExactWorkFunction", unfollowed := true, recurses := true, plainKeys := false, apart := false }
def FnExactWorkFunctionSaid : Prop := fnExactWorkFunctionRow.holds Try.pinned (OpenSpec.ofChange fnExactWorkFunctionSpec)

/-- ITS FALSE NEIGHBOUR: 'it returns false'. Refute it at one input. -/
def fnExactWorkFunctionWrong : ChangeSpec := { name := "fnExactWorkFunction", fn := fun _ => fun
  | [d1, d2, d3] => { results := [.lit (.bool false)], args := [d1, d2, d3] }
  | _ => none }
def FnExactWorkFunctionWrongFalsely : Prop := fnExactWorkFunctionRow.holds Try.pinned (OpenSpec.ofChange fnExactWorkFunctionWrong)

/-- 'laws.FnExactNextWork': WHATEVER THE INPUT: true; the input reads as it did. -/
def fnExactNextWorkSpec : ChangeSpec := { name := "fnExactNextWork", fn := fun _ => fun
  | [d1, d2, d3] => { results := [.lit (.bool true)], args := [d1, d2, d3] }
  | _ => none }
def fnExactNextWorkRow : OpenClaim := { program := "ythpoeeadhjnljaa", sum := "b48e043b9755e41a984d9052f127e77f32edae561b8b806cd9eae76cd0dfb356", func := "loop.example/g01087/laws.FnExactNextWork", spec := "fnExactNextWork", unfollowed := true, recurses := true, plainKeys := false, apart := false }
def FnExactNextWorkSaid : Prop := fnExactNextWorkRow.holds Try.pinned (OpenSpec.ofChange fnExactNextWorkSpec)

/-- ITS FALSE NEIGHBOUR: 'it returns false'. Refute it at one input. -/
def fnExactNextWorkWrong : ChangeSpec := { name := "fnExactNextWork", fn := fun _ => fun
  | [d1, d2, d3] => { results := [.lit (.bool false)], args := [d1, d2, d3] }
  | _ => none }
def FnExactNextWorkWrongFalsely : Prop := fnExactNextWorkRow.holds Try.pinned (OpenSpec.ofChange fnExactNextWorkWrong)

/-- 'laws.FnExactGreedyAlgorithm': WHATEVER THE INPUT: true; the input reads as it did. -/
def fnExactGreedyAlgorithmSpec : ChangeSpec := { name := "fnExactGreedyAlgorithm", fn := fun _ => fun
  | [d] => { results := [.lit (.bool true)], args := [d] }
  | _ => none }
def fnExactGreedyAlgorithmRow : OpenClaim := { program := "ythpoeeadhjnljaa", sum := "b48e043b9755e41a984d9052f127e77f32edae561b8b806cd9eae76cd0dfb356", func := "loop.example/g01087/laws.FnExactGreedyAlgorithm", spec := "fnExactGreedyAlgorithm", unfollowed := true, recurses := true, plainKeys := false, apart := false }
def FnExactGreedyAlgorithmSaid : Prop := fnExactGreedyAlgorithmRow.holds Try.pinned (OpenSpec.ofChange fnExactGreedyAlgorithmSpec)

/-- ITS FALSE NEIGHBOUR: 'it returns false'. Refute it at one input. -/
def fnExactGreedyAlgorithmWrong : ChangeSpec := { name := "fnExactGreedyAlgorithm", fn := fun _ => fun
  | [d] => { results := [.lit (.bool false)], args := [d] }
  | _ => none }
def FnExactGreedyAlgorithmWrongFalsely : Prop := fnExactGreedyAlgorithmRow.holds Try.pinned (OpenSpec.ofChange fnExactGreedyAlgorithmWrong)

/-- 'laws.FnExactLazyAlgorithm': WHATEVER THE INPUT: true; the input reads as it did. -/
def fnExactLazyAlgorithmSpec : ChangeSpec := { name := "fnExactLazyAlgorithm", fn := fun _ => fun
  | [d] => { results := [.lit (.bool true)], args := [d] }
  | _ => none }
def fnExactLazyAlgorithmRow : OpenClaim := { program := "ythpoeeadhjnljaa", sum := "b48e043b9755e41a984d9052f127e77f32edae561b8b806cd9eae76cd0dfb356", func := "loop.example/g01087/laws.FnExactLazyAlgorithm", spec := "fnExactLazyAlgorithm", unfollowed := true, recurses := true, plainKeys := false, apart := false }
def FnExactLazyAlgorithmSaid : Prop := fnExactLazyAlgorithmRow.holds Try.pinned (OpenSpec.ofChange fnExactLazyAlgorithmSpec)

/-- ITS FALSE NEIGHBOUR: 'it returns false'. Refute it at one input. -/
def fnExactLazyAlgorithmWrong : ChangeSpec := { name := "fnExactLazyAlgorithm", fn := fun _ => fun
  | [d] => { results := [.lit (.bool false)], args := [d] }
  | _ => none }
def FnExactLazyAlgorithmWrongFalsely : Prop := fnExactLazyAlgorithmRow.holds Try.pinned (OpenSpec.ofChange fnExactLazyAlgorithmWrong)

/-- 'laws.FnExactOffsetsOf': WHATEVER THE INPUT: true; the input reads as it did. -/
def fnExactOffsetsOfSpec : ChangeSpec := { name := "fnExactOffsetsOf", fn := fun _ => fun
  | [d1, d2] => { results := [.lit (.bool true)], args := [d1, d2] }
  | _ => none }
def fnExactOffsetsOfRow : OpenClaim := { program := "ythpoeeadhjnljaa", sum := "b48e043b9755e41a984d9052f127e77f32edae561b8b806cd9eae76cd0dfb356", func := "loop.example/g01087/laws.FnExactOffsetsOf", spec := "fnExactOffsetsOf", unfollowed := true, recurses := true, plainKeys := false, apart := false }
def FnExactOffsetsOfSaid : Prop := fnExactOffsetsOfRow.holds Try.pinned (OpenSpec.ofChange fnExactOffsetsOfSpec)

/-- ITS FALSE NEIGHBOUR: 'it returns false'. Refute it at one input. -/
def fnExactOffsetsOfWrong : ChangeSpec := { name := "fnExactOffsetsOf", fn := fun _ => fun
  | [d1, d2] => { results := [.lit (.bool false)], args := [d1, d2] }
  | _ => none }
def FnExactOffsetsOfWrongFalsely : Prop := fnExactOffsetsOfRow.holds Try.pinned (OpenSpec.ofChange fnExactOffsetsOfWrong)

/-- 'laws.FnExactOffsetSteps': WHATEVER THE INPUT: true; the input reads as it did. -/
def fnExactOffsetStepsSpec : ChangeSpec := { name := "fnExactOffsetSteps", fn := fun _ => fun
  | [d1, d2] => { results := [.lit (.bool true)], args := [d1, d2] }
  | _ => none }
def fnExactOffsetStepsRow : OpenClaim := { program := "ythpoeeadhjnljaa", sum := "b48e043b9755e41a984d9052f127e77f32edae561b8b806cd9eae76cd0dfb356", func := "loop.example/g01087/laws.FnExactOffsetSteps", spec := "fnExactOffsetSteps", unfollowed := true, recurses := true, plainKeys := false, apart := false }
def FnExactOffsetStepsSaid : Prop := fnExactOffsetStepsRow.holds Try.pinned (OpenSpec.ofChange fnExactOffsetStepsSpec)

/-- ITS FALSE NEIGHBOUR: 'it returns false'. Refute it at one input. -/
def fnExactOffsetStepsWrong : ChangeSpec := { name := "fnExactOffsetSteps", fn := fun _ => fun
  | [d1, d2] => { results := [.lit (.bool false)], args := [d1, d2] }
  | _ => none }
def FnExactOffsetStepsWrongFalsely : Prop := fnExactOffsetStepsRow.holds Try.pinned (OpenSpec.ofChange fnExactOffsetStepsWrong)

/-- 'laws.FnExactIsMixture': WHATEVER THE INPUT: true; the input reads as it did. -/
def fnExactIsMixtureSpec : ChangeSpec := { name := "fnExactIsMixture", fn := fun _ => fun
  | [d1, d2] => { results := [.lit (.bool true)], args := [d1, d2] }
  | _ => none }
def fnExactIsMixtureRow : OpenClaim := { program := "ythpoeeadhjnljaa", sum := "b48e043b9755e41a984d9052f127e77f32edae561b8b806cd9eae76cd0dfb356", func := "loop.example/g01087/laws.FnExactIsMixture", spec := "fnExactIsMixture", unfollowed := true, recurses := true, plainKeys := false, apart := false }
def FnExactIsMixtureSaid : Prop := fnExactIsMixtureRow.holds Try.pinned (OpenSpec.ofChange fnExactIsMixtureSpec)

/-- ITS FALSE NEIGHBOUR: 'it returns false'. Refute it at one input. -/
def fnExactIsMixtureWrong : ChangeSpec := { name := "fnExactIsMixture", fn := fun _ => fun
  | [d1, d2] => { results := [.lit (.bool false)], args := [d1, d2] }
  | _ => none }
def FnExactIsMixtureWrongFalsely : Prop := fnExactIsMixtureRow.holds Try.pinned (OpenSpec.ofChange fnExactIsMixtureWrong)

/-- 'laws.FnExactPayoffsOf': WHATEVER THE INPUT: true; the input reads as it did. -/
def fnExactPayoffsOfSpec : ChangeSpec := { name := "fnExactPayoffsOf", fn := fun _ => fun
  | [d1, d2, d3, d4] => { results := [.lit (.bool true)], args := [d1, d2, d3, d4] }
  | _ => none }
def fnExactPayoffsOfRow : OpenClaim := { program := "ythpoeeadhjnljaa", sum := "b48e043b9755e41a984d9052f127e77f32edae561b8b806cd9eae76cd0dfb356", func := "loop.example/g01087/laws.FnExactPayoffsOf", spec := "fnExactPayoffsOf", unfollowed := true, recurses := true, plainKeys := false, apart := false }
def FnExactPayoffsOfSaid : Prop := fnExactPayoffsOfRow.holds Try.pinned (OpenSpec.ofChange fnExactPayoffsOfSpec)

/-- ITS FALSE NEIGHBOUR: 'it returns false'. Refute it at one input. -/
def fnExactPayoffsOfWrong : ChangeSpec := { name := "fnExactPayoffsOf", fn := fun _ => fun
  | [d1, d2, d3, d4] => { results := [.lit (.bool false)], args := [d1, d2, d3, d4] }
  | _ => none }
def FnExactPayoffsOfWrongFalsely : Prop := fnExactPayoffsOfRow.holds Try.pinned (OpenSpec.ofChange fnExactPayoffsOfWrong)

/- THE SECOND FORM. 'bulk': how many values and letters a reading holds, each counted each time it is reached (what is shared counts as often as it is met; a slice's spare places count too). A statement '..UptoSaid' is the law's where the arguments, and the package variables that the reading takes, are together of bulk at most 1048576: NARROWER than '..Said'. Prove '..Said' where nothing that the law and all that it calls make is longer than what came in: it says more and counts as full. Else prove '..UptoSaid'. A law counts once. -/
mutual
def uptoBulk {H : Type} : DataW H → Nat
  | .lit (.string bytes) => bytes.length + 1
  | .lit _ => 1
  | .nil => 1
  | .ptr d => uptoBulk d + 1
  | .slice elems spare => uptoBulkAll elems + uptoBulkAll spare + 1
  | .agg parts => uptoBulkAll parts + 1
  | .iface _ d => uptoBulk d + 1
  | .map entries => uptoBulkEntries entries + 1
  | .held _ => 1
def uptoBulkAll {H : Type} : List (DataW H) → Nat
  | [] => 0
  | d :: r => uptoBulk d + uptoBulkAll r
def uptoBulkEntries {H : Type} : List (Lit × DataW H) → Nat
  | [] => 0
  | x :: r => uptoBulkEntry x + uptoBulkEntries r
def uptoBulkEntry {H : Type} : Lit × DataW H → Nat
  | (.string bytes, d) => bytes.length + uptoBulk d + 1
  | (_, d) => uptoBulk d + 1
 end
def uptoSmall : (H : Type) → List (DataW H) → Bool := fun _ ds => decide (uptoBulkAll ds ≤ 1048576)
def OpenSpec.upto (s : _root_.Go.ChangeSpec) : _root_.Go.OpenSpec := { _root_.Go.OpenSpec.ofChange s with cond := some uptoSmall }

/-- 'laws.FnExactIsAlgorithm', WHERE WHAT IT READS IS OF BULK AT MOST 1048576: true; the input reads as it did. -/
def fnExactIsAlgorithmUptoRow : OpenClaim := { program := "ythpoeeadhjnljaa", sum := "b48e043b9755e41a984d9052f127e77f32edae561b8b806cd9eae76cd0dfb356", func := "loop.example/g01087/laws.FnExactIsAlgorithm", spec := "fnExactIsAlgorithm", unfollowed := true, recurses := true, plainKeys := false, apart := false, narrowed := true }
def FnExactIsAlgorithmUptoSaid : Prop := fnExactIsAlgorithmUptoRow.holds Try.pinned (OpenSpec.upto fnExactIsAlgorithmSpec)

/-- 'laws.FnExactAlgorithmStates', WHERE WHAT IT READS IS OF BULK AT MOST 1048576: true; the input reads as it did. -/
def fnExactAlgorithmStatesUptoRow : OpenClaim := { program := "ythpoeeadhjnljaa", sum := "b48e043b9755e41a984d9052f127e77f32edae561b8b806cd9eae76cd0dfb356", func := "loop.example/g01087/laws.FnExactAlgorithmStates", spec := "fnExactAlgorithmStates", unfollowed := true, recurses := true, plainKeys := false, apart := false, narrowed := true }
def FnExactAlgorithmStatesUptoSaid : Prop := fnExactAlgorithmStatesUptoRow.holds Try.pinned (OpenSpec.upto fnExactAlgorithmStatesSpec)

/-- 'laws.FnExactAlgorithmCost', WHERE WHAT IT READS IS OF BULK AT MOST 1048576: true; the input reads as it did. -/
def fnExactAlgorithmCostUptoRow : OpenClaim := { program := "ythpoeeadhjnljaa", sum := "b48e043b9755e41a984d9052f127e77f32edae561b8b806cd9eae76cd0dfb356", func := "loop.example/g01087/laws.FnExactAlgorithmCost", spec := "fnExactAlgorithmCost", unfollowed := true, recurses := true, plainKeys := false, apart := false, narrowed := true }
def FnExactAlgorithmCostUptoSaid : Prop := fnExactAlgorithmCostUptoRow.holds Try.pinned (OpenSpec.upto fnExactAlgorithmCostSpec)

/-- 'laws.FnExactLeastCost', WHERE WHAT IT READS IS OF BULK AT MOST 1048576: true; the input reads as it did. -/
def fnExactLeastCostUptoRow : OpenClaim := { program := "ythpoeeadhjnljaa", sum := "b48e043b9755e41a984d9052f127e77f32edae561b8b806cd9eae76cd0dfb356", func := "loop.example/g01087/laws.FnExactLeastCost", spec := "fnExactLeastCost", unfollowed := true, recurses := true, plainKeys := false, apart := false, narrowed := true }
def FnExactLeastCostUptoSaid : Prop := fnExactLeastCostUptoRow.holds Try.pinned (OpenSpec.upto fnExactLeastCostSpec)

/-- 'laws.FnExactWorkFunction', WHERE WHAT IT READS IS OF BULK AT MOST 1048576: true; the input reads as it did. -/
def fnExactWorkFunctionUptoRow : OpenClaim := { program := "ythpoeeadhjnljaa", sum := "b48e043b9755e41a984d9052f127e77f32edae561b8b806cd9eae76cd0dfb356", func := "loop.example/g01087/laws.FnExactWorkFunction", spec := "fnExactWorkFunction", unfollowed := true, recurses := true, plainKeys := false, apart := false, narrowed := true }
def FnExactWorkFunctionUptoSaid : Prop := fnExactWorkFunctionUptoRow.holds Try.pinned (OpenSpec.upto fnExactWorkFunctionSpec)

/-- 'laws.FnExactNextWork', WHERE WHAT IT READS IS OF BULK AT MOST 1048576: true; the input reads as it did. -/
def fnExactNextWorkUptoRow : OpenClaim := { program := "ythpoeeadhjnljaa", sum := "b48e043b9755e41a984d9052f127e77f32edae561b8b806cd9eae76cd0dfb356", func := "loop.example/g01087/laws.FnExactNextWork", spec := "fnExactNextWork", unfollowed := true, recurses := true, plainKeys := false, apart := false, narrowed := true }
def FnExactNextWorkUptoSaid : Prop := fnExactNextWorkUptoRow.holds Try.pinned (OpenSpec.upto fnExactNextWorkSpec)

/-- 'laws.FnExactGreedyAlgorithm', WHERE WHAT IT READS IS OF BULK AT MOST 1048576: true; the input reads as it did. -/
def fnExactGreedyAlgorithmUptoRow : OpenClaim := { program := "ythpoeeadhjnljaa", sum := "b48e043b9755e41a984d9052f127e77f32edae561b8b806cd9eae76cd0dfb356", func := "loop.example/g01087/laws.FnExactGreedyAlgorithm", spec := "fnExactGreedyAlgorithm", unfollowed := true, recurses := true, plainKeys := false, apart := false, narrowed := true }
def FnExactGreedyAlgorithmUptoSaid : Prop := fnExactGreedyAlgorithmUptoRow.holds Try.pinned (OpenSpec.upto fnExactGreedyAlgorithmSpec)

/-- 'laws.FnExactLazyAlgorithm', WHERE WHAT IT READS IS OF BULK AT MOST 1048576: true; the input reads as it did. -/
def fnExactLazyAlgorithmUptoRow : OpenClaim := { program := "ythpoeeadhjnljaa", sum := "b48e043b9755e41a984d9052f127e77f32edae561b8b806cd9eae76cd0dfb356", func := "loop.example/g01087/laws.FnExactLazyAlgorithm", spec := "fnExactLazyAlgorithm", unfollowed := true, recurses := true, plainKeys := false, apart := false, narrowed := true }
def FnExactLazyAlgorithmUptoSaid : Prop := fnExactLazyAlgorithmUptoRow.holds Try.pinned (OpenSpec.upto fnExactLazyAlgorithmSpec)

/-- 'laws.FnExactOffsetsOf', WHERE WHAT IT READS IS OF BULK AT MOST 1048576: true; the input reads as it did. -/
def fnExactOffsetsOfUptoRow : OpenClaim := { program := "ythpoeeadhjnljaa", sum := "b48e043b9755e41a984d9052f127e77f32edae561b8b806cd9eae76cd0dfb356", func := "loop.example/g01087/laws.FnExactOffsetsOf", spec := "fnExactOffsetsOf", unfollowed := true, recurses := true, plainKeys := false, apart := false, narrowed := true }
def FnExactOffsetsOfUptoSaid : Prop := fnExactOffsetsOfUptoRow.holds Try.pinned (OpenSpec.upto fnExactOffsetsOfSpec)

/-- 'laws.FnExactOffsetSteps', WHERE WHAT IT READS IS OF BULK AT MOST 1048576: true; the input reads as it did. -/
def fnExactOffsetStepsUptoRow : OpenClaim := { program := "ythpoeeadhjnljaa", sum := "b48e043b9755e41a984d9052f127e77f32edae561b8b806cd9eae76cd0dfb356", func := "loop.example/g01087/laws.FnExactOffsetSteps", spec := "fnExactOffsetSteps", unfollowed := true, recurses := true, plainKeys := false, apart := false, narrowed := true }
def FnExactOffsetStepsUptoSaid : Prop := fnExactOffsetStepsUptoRow.holds Try.pinned (OpenSpec.upto fnExactOffsetStepsSpec)

/-- 'laws.FnExactIsMixture', WHERE WHAT IT READS IS OF BULK AT MOST 1048576: true; the input reads as it did. -/
def fnExactIsMixtureUptoRow : OpenClaim := { program := "ythpoeeadhjnljaa", sum := "b48e043b9755e41a984d9052f127e77f32edae561b8b806cd9eae76cd0dfb356", func := "loop.example/g01087/laws.FnExactIsMixture", spec := "fnExactIsMixture", unfollowed := true, recurses := true, plainKeys := false, apart := false, narrowed := true }
def FnExactIsMixtureUptoSaid : Prop := fnExactIsMixtureUptoRow.holds Try.pinned (OpenSpec.upto fnExactIsMixtureSpec)

/-- 'laws.FnExactPayoffsOf', WHERE WHAT IT READS IS OF BULK AT MOST 1048576: true; the input reads as it did. -/
def fnExactPayoffsOfUptoRow : OpenClaim := { program := "ythpoeeadhjnljaa", sum := "b48e043b9755e41a984d9052f127e77f32edae561b8b806cd9eae76cd0dfb356", func := "loop.example/g01087/laws.FnExactPayoffsOf", spec := "fnExactPayoffsOf", unfollowed := true, recurses := true, plainKeys := false, apart := false, narrowed := true }
def FnExactPayoffsOfUptoSaid : Prop := fnExactPayoffsOfUptoRow.holds Try.pinned (OpenSpec.upto fnExactPayoffsOfSpec)

end Rows
end Go.Proofs.Ythpoeeadhjnljaa
