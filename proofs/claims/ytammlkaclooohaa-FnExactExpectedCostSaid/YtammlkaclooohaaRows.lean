/-
  No cell of these rows narrows 'for every input' (looked for: loops, veiled, ifaces, maps, wideKeys, modest, calm, conditions, laid).
  DERIVED. THE GIVEN ROWS OF THIS SEAT. 12 by the template 'for every input the law returns true; each argument reads behind the call as it read before'; 0 by the template 'total and deterministic' (their statements: YtammlkaclooohaaTotals.lean).
  GIVEN WITH THE SEED: the statements are not yours to turn. If you find one false, say at which input.
  Laid BY PROGRAM, IN A SANDBOX (cutbox-rows.mjs): the forced cells as the released guide's own fill.sh prints them over the translation f3d2a907db12010c… (all of the seat's roots in one cut). By AI agents, Wed Nov 11 2026. No macro, syntax, notation, axiom, sorry.
-/
import Derived.Test.YtammlkaclooohaaChecked
import GoSem.Claim
import GoSem.ClaimJoined
import GoSem.ClaimMapViews
import Derived.JoinedTies
import Derived.KernelRfl
namespace Go.Proofs.Ytammlkaclooohaa
/- THE CELL 'sum', in the pinned program and in every row, IS THE sha256 OF THE DUMP (.gsa) THAT YtammlkaclooohaaProg.lean LOADS. Nothing in Lean hashes anything: it is a label: what it is worth is what the hold of that sum in a sandbox is worth. -/
noncomputable def Try.pinned : Pinned := { name := "ytammlkaclooohaa", sum := "f3d2a907db12010c3ffdcc796121673fe1d550017dd0600919f714d32f12a703", checked := Try.checked }
namespace Rows
def none {H : Type} : Left H := { results := [], args := [] }

/-- 'laws.FnExactMixtureCost': WHATEVER THE INPUT: true; the input reads as it did. -/
def fnExactMixtureCostSpec : ChangeSpec := { name := "fnExactMixtureCost", fn := fun _ => fun
  | [d1, d2, d3, d4] => { results := [.lit (.bool true)], args := [d1, d2, d3, d4] }
  | _ => none }
def fnExactMixtureCostRow : OpenClaim := { program := "ytammlkaclooohaa", sum := "f3d2a907db12010c3ffdcc796121673fe1d550017dd0600919f714d32f12a703", func := "loop.example/g01087/laws.FnExactMixtureCost", spec := "fnExactMixtureCost", unfollowed := true, recurses := true, apart := false }
def FnExactMixtureCostSaid : Prop := fnExactMixtureCostRow.holds Try.pinned (OpenSpec.ofChange fnExactMixtureCostSpec)

/-- ITS FALSE NEIGHBOUR: 'it returns false'. Refute it at one input. -/
def fnExactMixtureCostWrong : ChangeSpec := { name := "fnExactMixtureCost", fn := fun _ => fun
  | [d1, d2, d3, d4] => { results := [.lit (.bool false)], args := [d1, d2, d3, d4] }
  | _ => none }
def FnExactMixtureCostWrongFalsely : Prop := fnExactMixtureCostRow.holds Try.pinned (OpenSpec.ofChange fnExactMixtureCostWrong)

/-- 'laws.FnExactMixtureStates': WHATEVER THE INPUT: true; the input reads as it did. -/
def fnExactMixtureStatesSpec : ChangeSpec := { name := "fnExactMixtureStates", fn := fun _ => fun
  | [d1, d2, d3, d4] => { results := [.lit (.bool true)], args := [d1, d2, d3, d4] }
  | _ => none }
def fnExactMixtureStatesRow : OpenClaim := { program := "ytammlkaclooohaa", sum := "f3d2a907db12010c3ffdcc796121673fe1d550017dd0600919f714d32f12a703", func := "loop.example/g01087/laws.FnExactMixtureStates", spec := "fnExactMixtureStates", unfollowed := true, recurses := true, apart := false }
def FnExactMixtureStatesSaid : Prop := fnExactMixtureStatesRow.holds Try.pinned (OpenSpec.ofChange fnExactMixtureStatesSpec)

/-- ITS FALSE NEIGHBOUR: 'it returns false'. Refute it at one input. -/
def fnExactMixtureStatesWrong : ChangeSpec := { name := "fnExactMixtureStates", fn := fun _ => fun
  | [d1, d2, d3, d4] => { results := [.lit (.bool false)], args := [d1, d2, d3, d4] }
  | _ => none }
def FnExactMixtureStatesWrongFalsely : Prop := fnExactMixtureStatesRow.holds Try.pinned (OpenSpec.ofChange fnExactMixtureStatesWrong)

/-- 'laws.FnExactWorstOfMixture': WHATEVER THE INPUT: true; the input reads as it did. -/
def fnExactWorstOfMixtureSpec : ChangeSpec := { name := "fnExactWorstOfMixture", fn := fun _ => fun
  | [d1, d2, d3, d4] => { results := [.lit (.bool true)], args := [d1, d2, d3, d4] }
  | _ => none }
def fnExactWorstOfMixtureRow : OpenClaim := { program := "ytammlkaclooohaa", sum := "f3d2a907db12010c3ffdcc796121673fe1d550017dd0600919f714d32f12a703", func := "loop.example/g01087/laws.FnExactWorstOfMixture", spec := "fnExactWorstOfMixture", unfollowed := true, recurses := true, apart := false }
def FnExactWorstOfMixtureSaid : Prop := fnExactWorstOfMixtureRow.holds Try.pinned (OpenSpec.ofChange fnExactWorstOfMixtureSpec)

/-- ITS FALSE NEIGHBOUR: 'it returns false'. Refute it at one input. -/
def fnExactWorstOfMixtureWrong : ChangeSpec := { name := "fnExactWorstOfMixture", fn := fun _ => fun
  | [d1, d2, d3, d4] => { results := [.lit (.bool false)], args := [d1, d2, d3, d4] }
  | _ => none }
def FnExactWorstOfMixtureWrongFalsely : Prop := fnExactWorstOfMixtureRow.holds Try.pinned (OpenSpec.ofChange fnExactWorstOfMixtureWrong)

/-- 'laws.FnExactIsChances': WHATEVER THE INPUT: true; the input reads as it did. -/
def fnExactIsChancesSpec : ChangeSpec := { name := "fnExactIsChances", fn := fun _ => fun
  | [d1, d2] => { results := [.lit (.bool true)], args := [d1, d2] }
  | _ => none }
def fnExactIsChancesRow : OpenClaim := { program := "ytammlkaclooohaa", sum := "f3d2a907db12010c3ffdcc796121673fe1d550017dd0600919f714d32f12a703", func := "loop.example/g01087/laws.FnExactIsChances", spec := "fnExactIsChances", unfollowed := true, recurses := true, apart := false }
def FnExactIsChancesSaid : Prop := fnExactIsChancesRow.holds Try.pinned (OpenSpec.ofChange fnExactIsChancesSpec)

/-- ITS FALSE NEIGHBOUR: 'it returns false'. Refute it at one input. -/
def fnExactIsChancesWrong : ChangeSpec := { name := "fnExactIsChances", fn := fun _ => fun
  | [d1, d2] => { results := [.lit (.bool false)], args := [d1, d2] }
  | _ => none }
def FnExactIsChancesWrongFalsely : Prop := fnExactIsChancesRow.holds Try.pinned (OpenSpec.ofChange fnExactIsChancesWrong)

/-- 'laws.FnExactExpectedCost': WHATEVER THE INPUT: true; the input reads as it did. -/
def fnExactExpectedCostSpec : ChangeSpec := { name := "fnExactExpectedCost", fn := fun _ => fun
  | [d1, d2, d3, d4] => { results := [.lit (.bool true)], args := [d1, d2, d3, d4] }
  | _ => none }
def fnExactExpectedCostRow : OpenClaim := { program := "ytammlkaclooohaa", sum := "f3d2a907db12010c3ffdcc796121673fe1d550017dd0600919f714d32f12a703", func := "loop.example/g01087/laws.FnExactExpectedCost", spec := "fnExactExpectedCost", unfollowed := true, recurses := true, apart := false }
def FnExactExpectedCostSaid : Prop := fnExactExpectedCostRow.holds Try.pinned (OpenSpec.ofChange fnExactExpectedCostSpec)

/-- ITS FALSE NEIGHBOUR: 'it returns false'. Refute it at one input. -/
def fnExactExpectedCostWrong : ChangeSpec := { name := "fnExactExpectedCost", fn := fun _ => fun
  | [d1, d2, d3, d4] => { results := [.lit (.bool false)], args := [d1, d2, d3, d4] }
  | _ => none }
def FnExactExpectedCostWrongFalsely : Prop := fnExactExpectedCostRow.holds Try.pinned (OpenSpec.ofChange fnExactExpectedCostWrong)

/-- 'laws.FnExactExpectedLeast': WHATEVER THE INPUT: true; the input reads as it did. -/
def fnExactExpectedLeastSpec : ChangeSpec := { name := "fnExactExpectedLeast", fn := fun _ => fun
  | [d1, d2, d3] => { results := [.lit (.bool true)], args := [d1, d2, d3] }
  | _ => none }
def fnExactExpectedLeastRow : OpenClaim := { program := "ytammlkaclooohaa", sum := "f3d2a907db12010c3ffdcc796121673fe1d550017dd0600919f714d32f12a703", func := "loop.example/g01087/laws.FnExactExpectedLeast", spec := "fnExactExpectedLeast", unfollowed := true, recurses := true, apart := false }
def FnExactExpectedLeastSaid : Prop := fnExactExpectedLeastRow.holds Try.pinned (OpenSpec.ofChange fnExactExpectedLeastSpec)

/-- ITS FALSE NEIGHBOUR: 'it returns false'. Refute it at one input. -/
def fnExactExpectedLeastWrong : ChangeSpec := { name := "fnExactExpectedLeast", fn := fun _ => fun
  | [d1, d2, d3] => { results := [.lit (.bool false)], args := [d1, d2, d3] }
  | _ => none }
def FnExactExpectedLeastWrongFalsely : Prop := fnExactExpectedLeastRow.holds Try.pinned (OpenSpec.ofChange fnExactExpectedLeastWrong)

/-- 'laws.FnExactBestExpected': WHATEVER THE INPUT: true; the input reads as it did. -/
def fnExactBestExpectedSpec : ChangeSpec := { name := "fnExactBestExpected", fn := fun _ => fun
  | [d1, d2, d3] => { results := [.lit (.bool true)], args := [d1, d2, d3] }
  | _ => none }
def fnExactBestExpectedRow : OpenClaim := { program := "ytammlkaclooohaa", sum := "f3d2a907db12010c3ffdcc796121673fe1d550017dd0600919f714d32f12a703", func := "loop.example/g01087/laws.FnExactBestExpected", spec := "fnExactBestExpected", unfollowed := true, recurses := true, apart := false }
def FnExactBestExpectedSaid : Prop := fnExactBestExpectedRow.holds Try.pinned (OpenSpec.ofChange fnExactBestExpectedSpec)

/-- ITS FALSE NEIGHBOUR: 'it returns false'. Refute it at one input. -/
def fnExactBestExpectedWrong : ChangeSpec := { name := "fnExactBestExpected", fn := fun _ => fun
  | [d1, d2, d3] => { results := [.lit (.bool false)], args := [d1, d2, d3] }
  | _ => none }
def FnExactBestExpectedWrongFalsely : Prop := fnExactBestExpectedRow.holds Try.pinned (OpenSpec.ofChange fnExactBestExpectedWrong)

/-- 'laws.FnExactBestReply': WHATEVER THE INPUT: true; the input reads as it did. -/
def fnExactBestReplySpec : ChangeSpec := { name := "fnExactBestReply", fn := fun _ => fun
  | [d1, d2, d3, d4] => { results := [.lit (.bool true)], args := [d1, d2, d3, d4] }
  | _ => none }
def fnExactBestReplyRow : OpenClaim := { program := "ytammlkaclooohaa", sum := "f3d2a907db12010c3ffdcc796121673fe1d550017dd0600919f714d32f12a703", func := "loop.example/g01087/laws.FnExactBestReply", spec := "fnExactBestReply", unfollowed := true, recurses := true, apart := false }
def FnExactBestReplySaid : Prop := fnExactBestReplyRow.holds Try.pinned (OpenSpec.ofChange fnExactBestReplySpec)

/-- ITS FALSE NEIGHBOUR: 'it returns false'. Refute it at one input. -/
def fnExactBestReplyWrong : ChangeSpec := { name := "fnExactBestReply", fn := fun _ => fun
  | [d1, d2, d3, d4] => { results := [.lit (.bool false)], args := [d1, d2, d3, d4] }
  | _ => none }
def FnExactBestReplyWrongFalsely : Prop := fnExactBestReplyRow.holds Try.pinned (OpenSpec.ofChange fnExactBestReplyWrong)

/-- 'laws.FnExactIndependentBest': WHATEVER THE INPUT: true; the input reads as it did. -/
def fnExactIndependentBestSpec : ChangeSpec := { name := "fnExactIndependentBest", fn := fun _ => fun
  | [d1, d2, d3, d4] => { results := [.lit (.bool true)], args := [d1, d2, d3, d4] }
  | _ => none }
def fnExactIndependentBestRow : OpenClaim := { program := "ytammlkaclooohaa", sum := "f3d2a907db12010c3ffdcc796121673fe1d550017dd0600919f714d32f12a703", func := "loop.example/g01087/laws.FnExactIndependentBest", spec := "fnExactIndependentBest", unfollowed := true, recurses := true, apart := false }
def FnExactIndependentBestSaid : Prop := fnExactIndependentBestRow.holds Try.pinned (OpenSpec.ofChange fnExactIndependentBestSpec)

/-- ITS FALSE NEIGHBOUR: 'it returns false'. Refute it at one input. -/
def fnExactIndependentBestWrong : ChangeSpec := { name := "fnExactIndependentBest", fn := fun _ => fun
  | [d1, d2, d3, d4] => { results := [.lit (.bool false)], args := [d1, d2, d3, d4] }
  | _ => none }
def FnExactIndependentBestWrongFalsely : Prop := fnExactIndependentBestRow.holds Try.pinned (OpenSpec.ofChange fnExactIndependentBestWrong)

/-- 'laws.FnExactRowsWorst': WHATEVER THE INPUT: true; the input reads as it did. -/
def fnExactRowsWorstSpec : ChangeSpec := { name := "fnExactRowsWorst", fn := fun _ => fun
  | [d1, d2] => { results := [.lit (.bool true)], args := [d1, d2] }
  | _ => none }
def fnExactRowsWorstRow : OpenClaim := { program := "ytammlkaclooohaa", sum := "f3d2a907db12010c3ffdcc796121673fe1d550017dd0600919f714d32f12a703", func := "loop.example/g01087/laws.FnExactRowsWorst", spec := "fnExactRowsWorst", unfollowed := true, recurses := true, apart := false }
def FnExactRowsWorstSaid : Prop := fnExactRowsWorstRow.holds Try.pinned (OpenSpec.ofChange fnExactRowsWorstSpec)

/-- ITS FALSE NEIGHBOUR: 'it returns false'. Refute it at one input. -/
def fnExactRowsWorstWrong : ChangeSpec := { name := "fnExactRowsWorst", fn := fun _ => fun
  | [d1, d2] => { results := [.lit (.bool false)], args := [d1, d2] }
  | _ => none }
def FnExactRowsWorstWrongFalsely : Prop := fnExactRowsWorstRow.holds Try.pinned (OpenSpec.ofChange fnExactRowsWorstWrong)

/-- 'laws.FnExactColumnsWorst': WHATEVER THE INPUT: true; the input reads as it did. -/
def fnExactColumnsWorstSpec : ChangeSpec := { name := "fnExactColumnsWorst", fn := fun _ => fun
  | [d1, d2] => { results := [.lit (.bool true)], args := [d1, d2] }
  | _ => none }
def fnExactColumnsWorstRow : OpenClaim := { program := "ytammlkaclooohaa", sum := "f3d2a907db12010c3ffdcc796121673fe1d550017dd0600919f714d32f12a703", func := "loop.example/g01087/laws.FnExactColumnsWorst", spec := "fnExactColumnsWorst", unfollowed := true, recurses := true, apart := false }
def FnExactColumnsWorstSaid : Prop := fnExactColumnsWorstRow.holds Try.pinned (OpenSpec.ofChange fnExactColumnsWorstSpec)

/-- ITS FALSE NEIGHBOUR: 'it returns false'. Refute it at one input. -/
def fnExactColumnsWorstWrong : ChangeSpec := { name := "fnExactColumnsWorst", fn := fun _ => fun
  | [d1, d2] => { results := [.lit (.bool false)], args := [d1, d2] }
  | _ => none }
def FnExactColumnsWorstWrongFalsely : Prop := fnExactColumnsWorstRow.holds Try.pinned (OpenSpec.ofChange fnExactColumnsWorstWrong)

/-- 'laws.FnExactSolveMatrix': WHATEVER THE INPUT: true; the input reads as it did. -/
def fnExactSolveMatrixSpec : ChangeSpec := { name := "fnExactSolveMatrix", fn := fun _ => fun
  | [d] => { results := [.lit (.bool true)], args := [d] }
  | _ => none }
def fnExactSolveMatrixRow : OpenClaim := { program := "ytammlkaclooohaa", sum := "f3d2a907db12010c3ffdcc796121673fe1d550017dd0600919f714d32f12a703", func := "loop.example/g01087/laws.FnExactSolveMatrix", spec := "fnExactSolveMatrix", unfollowed := true, recurses := true, apart := false }
def FnExactSolveMatrixSaid : Prop := fnExactSolveMatrixRow.holds Try.pinned (OpenSpec.ofChange fnExactSolveMatrixSpec)

/-- ITS FALSE NEIGHBOUR: 'it returns false'. Refute it at one input. -/
def fnExactSolveMatrixWrong : ChangeSpec := { name := "fnExactSolveMatrix", fn := fun _ => fun
  | [d] => { results := [.lit (.bool false)], args := [d] }
  | _ => none }
def FnExactSolveMatrixWrongFalsely : Prop := fnExactSolveMatrixRow.holds Try.pinned (OpenSpec.ofChange fnExactSolveMatrixWrong)

/- THE SECOND FORM. 'bulk': how many values and letters a reading holds, each counted each time it is reached (what is shared counts as often as it is met; a slice's spare places count too). A statement '..UptoSaid' is the law's where the arguments, and the package variables that the reading takes, are together of bulk at most 1048576: NARROWER than '..Said'. Prove '..Said' where nothing that the law and all that it calls make is longer than what came in: it says more and counts as full. Else prove '..UptoSaid'. A law counts once. -/
mutual
def uptoBulk {H : Type} : DataW H → Nat
  | .lit (.string bytes) => bytes.length + 1
  | .lit _ => 1
  | .nil => 1
  | .ptr d => uptoBulk d + 1
  | .slice elems spare => uptoBulkAll elems + uptoBulkAll spare + 1
  | .agg parts => uptoBulkAll parts + 1
  | .iface _ d => uptoBulk d + 1
  | .map entries => uptoBulkEntries entries + 1
  | .held _ => 1
def uptoBulkAll {H : Type} : List (DataW H) → Nat
  | [] => 0
  | d :: r => uptoBulk d + uptoBulkAll r
def uptoBulkEntries {H : Type} : List (Lit × DataW H) → Nat
  | [] => 0
  | x :: r => uptoBulkEntry x + uptoBulkEntries r
def uptoBulkEntry {H : Type} : Lit × DataW H → Nat
  | (.string bytes, d) => bytes.length + uptoBulk d + 1
  | (_, d) => uptoBulk d + 1
 end
def uptoSmall : (H : Type) → List (DataW H) → Bool := fun _ ds => decide (uptoBulkAll ds ≤ 1048576)
def OpenSpec.upto (s : _root_.Go.ChangeSpec) : _root_.Go.OpenSpec := { _root_.Go.OpenSpec.ofChange s with cond := some uptoSmall }

/-- 'laws.FnExactMixtureCost', WHERE WHAT IT READS IS OF BULK AT MOST 1048576: true; the input reads as it did. -/
def fnExactMixtureCostUptoRow : OpenClaim := { program := "ytammlkaclooohaa", sum := "f3d2a907db12010c3ffdcc796121673fe1d550017dd0600919f714d32f12a703", func := "loop.example/g01087/laws.FnExactMixtureCost", spec := "fnExactMixtureCost", unfollowed := true, recurses := true, apart := false, narrowed := true }
def FnExactMixtureCostUptoSaid : Prop := fnExactMixtureCostUptoRow.holds Try.pinned (OpenSpec.upto fnExactMixtureCostSpec)

/-- 'laws.FnExactMixtureStates', WHERE WHAT IT READS IS OF BULK AT MOST 1048576: true; the input reads as it did. -/
def fnExactMixtureStatesUptoRow : OpenClaim := { program := "ytammlkaclooohaa", sum := "f3d2a907db12010c3ffdcc796121673fe1d550017dd0600919f714d32f12a703", func := "loop.example/g01087/laws.FnExactMixtureStates", spec := "fnExactMixtureStates", unfollowed := true, recurses := true, apart := false, narrowed := true }
def FnExactMixtureStatesUptoSaid : Prop := fnExactMixtureStatesUptoRow.holds Try.pinned (OpenSpec.upto fnExactMixtureStatesSpec)

/-- 'laws.FnExactWorstOfMixture', WHERE WHAT IT READS IS OF BULK AT MOST 1048576: true; the input reads as it did. -/
def fnExactWorstOfMixtureUptoRow : OpenClaim := { program := "ytammlkaclooohaa", sum := "f3d2a907db12010c3ffdcc796121673fe1d550017dd0600919f714d32f12a703", func := "loop.example/g01087/laws.FnExactWorstOfMixture", spec := "fnExactWorstOfMixture", unfollowed := true, recurses := true, apart := false, narrowed := true }
def FnExactWorstOfMixtureUptoSaid : Prop := fnExactWorstOfMixtureUptoRow.holds Try.pinned (OpenSpec.upto fnExactWorstOfMixtureSpec)

/-- 'laws.FnExactIsChances', WHERE WHAT IT READS IS OF BULK AT MOST 1048576: true; the input reads as it did. -/
def fnExactIsChancesUptoRow : OpenClaim := { program := "ytammlkaclooohaa", sum := "f3d2a907db12010c3ffdcc796121673fe1d550017dd0600919f714d32f12a703", func := "loop.example/g01087/laws.FnExactIsChances", spec := "fnExactIsChances", unfollowed := true, recurses := true, apart := false, narrowed := true }
def FnExactIsChancesUptoSaid : Prop := fnExactIsChancesUptoRow.holds Try.pinned (OpenSpec.upto fnExactIsChancesSpec)

/-- 'laws.FnExactExpectedCost', WHERE WHAT IT READS IS OF BULK AT MOST 1048576: true; the input reads as it did. -/
def fnExactExpectedCostUptoRow : OpenClaim := { program := "ytammlkaclooohaa", sum := "f3d2a907db12010c3ffdcc796121673fe1d550017dd0600919f714d32f12a703", func := "loop.example/g01087/laws.FnExactExpectedCost", spec := "fnExactExpectedCost", unfollowed := true, recurses := true, apart := false, narrowed := true }
def FnExactExpectedCostUptoSaid : Prop := fnExactExpectedCostUptoRow.holds Try.pinned (OpenSpec.upto fnExactExpectedCostSpec)

/-- 'laws.FnExactExpectedLeast', WHERE WHAT IT READS IS OF BULK AT MOST 1048576: true; the input reads as it did. -/
def fnExactExpectedLeastUptoRow : OpenClaim := { program := "ytammlkaclooohaa", sum := "f3d2a907db12010c3ffdcc796121673fe1d550017dd0600919f714d32f12a703", func := "loop.example/g01087/laws.FnExactExpectedLeast", spec := "fnExactExpectedLeast", unfollowed := true, recurses := true, apart := false, narrowed := true }
def FnExactExpectedLeastUptoSaid : Prop := fnExactExpectedLeastUptoRow.holds Try.pinned (OpenSpec.upto fnExactExpectedLeastSpec)

/-- 'laws.FnExactBestExpected', WHERE WHAT IT READS IS OF BULK AT MOST 1048576: true; the input reads as it did. -/
def fnExactBestExpectedUptoRow : OpenClaim := { program := "ytammlkaclooohaa", sum := "f3d2a907db12010c3ffdcc796121673fe1d550017dd0600919f714d32f12a703", func := "loop.example/g01087/laws.FnExactBestExpected", spec := "fnExactBestExpected", unfollowed := true, recurses := true, apart := false, narrowed := true }
def FnExactBestExpectedUptoSaid : Prop := fnExactBestExpectedUptoRow.holds Try.pinned (OpenSpec.upto fnExactBestExpectedSpec)

/-- 'laws.FnExactBestReply', WHERE WHAT IT READS IS OF BULK AT MOST 1048576: true; the input reads as it did. -/
def fnExactBestReplyUptoRow : OpenClaim := { program := "ytammlkaclooohaa", sum := "f3d2a907db12010c3ffdcc796121673fe1d550017dd0600919f714d32f12a703", func := "loop.example/g01087/laws.FnExactBestReply", spec := "fnExactBestReply", unfollowed := true, recurses := true, apart := false, narrowed := true }
def FnExactBestReplyUptoSaid : Prop := fnExactBestReplyUptoRow.holds Try.pinned (OpenSpec.upto fnExactBestReplySpec)

/-- 'laws.FnExactIndependentBest', WHERE WHAT IT READS IS OF BULK AT MOST 1048576: true; the input reads as it did. -/
def fnExactIndependentBestUptoRow : OpenClaim := { program := "ytammlkaclooohaa", sum := "f3d2a907db12010c3ffdcc796121673fe1d550017dd0600919f714d32f12a703", func := "loop.example/g01087/laws.FnExactIndependentBest", spec := "fnExactIndependentBest", unfollowed := true, recurses := true, apart := false, narrowed := true }
def FnExactIndependentBestUptoSaid : Prop := fnExactIndependentBestUptoRow.holds Try.pinned (OpenSpec.upto fnExactIndependentBestSpec)

/-- 'laws.FnExactRowsWorst', WHERE WHAT IT READS IS OF BULK AT MOST 1048576: true; the input reads as it did. -/
def fnExactRowsWorstUptoRow : OpenClaim := { program := "ytammlkaclooohaa", sum := "f3d2a907db12010c3ffdcc796121673fe1d550017dd0600919f714d32f12a703", func := "loop.example/g01087/laws.FnExactRowsWorst", spec := "fnExactRowsWorst", unfollowed := true, recurses := true, apart := false, narrowed := true }
def FnExactRowsWorstUptoSaid : Prop := fnExactRowsWorstUptoRow.holds Try.pinned (OpenSpec.upto fnExactRowsWorstSpec)

/-- 'laws.FnExactColumnsWorst', WHERE WHAT IT READS IS OF BULK AT MOST 1048576: true; the input reads as it did. -/
def fnExactColumnsWorstUptoRow : OpenClaim := { program := "ytammlkaclooohaa", sum := "f3d2a907db12010c3ffdcc796121673fe1d550017dd0600919f714d32f12a703", func := "loop.example/g01087/laws.FnExactColumnsWorst", spec := "fnExactColumnsWorst", unfollowed := true, recurses := true, apart := false, narrowed := true }
def FnExactColumnsWorstUptoSaid : Prop := fnExactColumnsWorstUptoRow.holds Try.pinned (OpenSpec.upto fnExactColumnsWorstSpec)

/-- 'laws.FnExactSolveMatrix', WHERE WHAT IT READS IS OF BULK AT MOST 1048576: true; the input reads as it did. -/
def fnExactSolveMatrixUptoRow : OpenClaim := { program := "ytammlkaclooohaa", sum := "f3d2a907db12010c3ffdcc796121673fe1d550017dd0600919f714d32f12a703", func := "loop.example/g01087/laws.FnExactSolveMatrix", spec := "fnExactSolveMatrix", unfollowed := true, recurses := true, apart := false, narrowed := true }
def FnExactSolveMatrixUptoSaid : Prop := fnExactSolveMatrixUptoRow.holds Try.pinned (OpenSpec.upto fnExactSolveMatrixSpec)

end Rows
end Go.Proofs.Ytammlkaclooohaa
