/-
  No cell of these rows narrows 'for every input' (looked for: loops, veiled, ifaces, maps, wideKeys, modest, calm, conditions, laid).
  DERIVED. THE GIVEN ROWS OF THIS SEAT. 12 by the template 'for every input the law returns true; each argument reads behind the call as it read before'; 0 by the template 'total and deterministic' (their statements: YtklpdfilhgjllaaTotals.lean).
  GIVEN WITH THE SEED: the statements are not yours to turn. If you find one false, say at which input.
  Laid BY PROGRAM, IN A SANDBOX (cutbox-rows.mjs): the forced cells as the released guide's own fill.sh prints them over the translation a75b686f3b14fe90… (all of the seat's roots in one cut). By AI agents, Wed Nov 11 2026. No macro, syntax, notation, axiom, sorry.
-/
import Derived.Test.YtklpdfilhgjllaaChecked
import GoSem.Claim
import GoSem.ClaimJoined
import GoSem.ClaimMapViews
import Derived.JoinedTies
import Derived.KernelRfl
namespace Go.Proofs.Ytklpdfilhgjllaa
/- THE CELL 'sum', in the pinned program and in every row, IS THE sha256 OF THE DUMP (.gsa) THAT YtklpdfilhgjllaaProg.lean LOADS. Nothing in Lean hashes anything: it is a label: what it is worth is what the hold of that sum in a sandbox is worth. -/
noncomputable def Try.pinned : Pinned := { name := "ytklpdfilhgjllaa", sum := "a75b686f3b14fe90b76025bac08b9efa642dc20db2602d79238f3987d1d2496a", checked := Try.checked }
namespace Rows
def none {H : Type} : Left H := { results := [], args := [] }

/-- 'laws.FnExactIsPlan': WHATEVER THE INPUT: true; the input reads as it did. -/
def fnExactIsPlanSpec : ChangeSpec := { name := "fnExactIsPlan", fn := fun _ => fun
  | [d1, d2, d3, d4] => { results := [.lit (.bool true)], args := [d1, d2, d3, d4] }
  | _ => none }
def fnExactIsPlanRow : OpenClaim := { program := "ytklpdfilhgjllaa", sum := "a75b686f3b14fe90b76025bac08b9efa642dc20db2602d79238f3987d1d2496a", func := "loop.example/g01087/laws.FnExactIsPlan", spec := "fnExactIsPlan", plainKeys := false, apart := false }
def FnExactIsPlanSaid : Prop := fnExactIsPlanRow.holds Try.pinned (OpenSpec.ofChange fnExactIsPlanSpec)

/-- ITS FALSE NEIGHBOUR: 'it returns false'. Refute it at one input. -/
def fnExactIsPlanWrong : ChangeSpec := { name := "fnExactIsPlan", fn := fun _ => fun
  | [d1, d2, d3, d4] => { results := [.lit (.bool false)], args := [d1, d2, d3, d4] }
  | _ => none }
def FnExactIsPlanWrongFalsely : Prop := fnExactIsPlanRow.holds Try.pinned (OpenSpec.ofChange fnExactIsPlanWrong)

/-- 'laws.FnExactPlanFaults': WHATEVER THE INPUT: true; the input reads as it did. -/
def fnExactPlanFaultsSpec : ChangeSpec := { name := "fnExactPlanFaults", fn := fun _ => fun
  | [d1, d2, d3, d4] => { results := [.lit (.bool true)], args := [d1, d2, d3, d4] }
  | _ => none }
def fnExactPlanFaultsRow : OpenClaim := { program := "ytklpdfilhgjllaa", sum := "a75b686f3b14fe90b76025bac08b9efa642dc20db2602d79238f3987d1d2496a", func := "loop.example/g01087/laws.FnExactPlanFaults", spec := "fnExactPlanFaults", plainKeys := false, apart := false }
def FnExactPlanFaultsSaid : Prop := fnExactPlanFaultsRow.holds Try.pinned (OpenSpec.ofChange fnExactPlanFaultsSpec)

/-- ITS FALSE NEIGHBOUR: 'it returns false'. Refute it at one input. -/
def fnExactPlanFaultsWrong : ChangeSpec := { name := "fnExactPlanFaults", fn := fun _ => fun
  | [d1, d2, d3, d4] => { results := [.lit (.bool false)], args := [d1, d2, d3, d4] }
  | _ => none }
def FnExactPlanFaultsWrongFalsely : Prop := fnExactPlanFaultsRow.holds Try.pinned (OpenSpec.ofChange fnExactPlanFaultsWrong)

/-- 'laws.FnExactPlanCaches': WHATEVER THE INPUT: true; the input reads as it did. -/
def fnExactPlanCachesSpec : ChangeSpec := { name := "fnExactPlanCaches", fn := fun _ => fun
  | [d1, d2, d3, d4] => { results := [.lit (.bool true)], args := [d1, d2, d3, d4] }
  | _ => none }
def fnExactPlanCachesRow : OpenClaim := { program := "ytklpdfilhgjllaa", sum := "a75b686f3b14fe90b76025bac08b9efa642dc20db2602d79238f3987d1d2496a", func := "loop.example/g01087/laws.FnExactPlanCaches", spec := "fnExactPlanCaches", plainKeys := false, apart := false }
def FnExactPlanCachesSaid : Prop := fnExactPlanCachesRow.holds Try.pinned (OpenSpec.ofChange fnExactPlanCachesSpec)

/-- ITS FALSE NEIGHBOUR: 'it returns false'. Refute it at one input. -/
def fnExactPlanCachesWrong : ChangeSpec := { name := "fnExactPlanCaches", fn := fun _ => fun
  | [d1, d2, d3, d4] => { results := [.lit (.bool false)], args := [d1, d2, d3, d4] }
  | _ => none }
def FnExactPlanCachesWrongFalsely : Prop := fnExactPlanCachesRow.holds Try.pinned (OpenSpec.ofChange fnExactPlanCachesWrong)

/-- 'laws.FnExactFarthestPlan': WHATEVER THE INPUT: true; the input reads as it did. -/
def fnExactFarthestPlanSpec : ChangeSpec := { name := "fnExactFarthestPlan", fn := fun _ => fun
  | [d1, d2, d3] => { results := [.lit (.bool true)], args := [d1, d2, d3] }
  | _ => none }
def fnExactFarthestPlanRow : OpenClaim := { program := "ytklpdfilhgjllaa", sum := "a75b686f3b14fe90b76025bac08b9efa642dc20db2602d79238f3987d1d2496a", func := "loop.example/g01087/laws.FnExactFarthestPlan", spec := "fnExactFarthestPlan", unfollowed := true, recurses := true, plainKeys := false, apart := false }
def FnExactFarthestPlanSaid : Prop := fnExactFarthestPlanRow.holds Try.pinned (OpenSpec.ofChange fnExactFarthestPlanSpec)

/-- ITS FALSE NEIGHBOUR: 'it returns false'. Refute it at one input. -/
def fnExactFarthestPlanWrong : ChangeSpec := { name := "fnExactFarthestPlan", fn := fun _ => fun
  | [d1, d2, d3] => { results := [.lit (.bool false)], args := [d1, d2, d3] }
  | _ => none }
def FnExactFarthestPlanWrongFalsely : Prop := fnExactFarthestPlanRow.holds Try.pinned (OpenSpec.ofChange fnExactFarthestPlanWrong)

/-- 'laws.FnExactFewestFaults': WHATEVER THE INPUT: true; the input reads as it did. -/
def fnExactFewestFaultsSpec : ChangeSpec := { name := "fnExactFewestFaults", fn := fun _ => fun
  | [d1, d2, d3] => { results := [.lit (.bool true)], args := [d1, d2, d3] }
  | _ => none }
def fnExactFewestFaultsRow : OpenClaim := { program := "ytklpdfilhgjllaa", sum := "a75b686f3b14fe90b76025bac08b9efa642dc20db2602d79238f3987d1d2496a", func := "loop.example/g01087/laws.FnExactFewestFaults", spec := "fnExactFewestFaults", recurses := true, plainKeys := false, apart := false }
def FnExactFewestFaultsSaid : Prop := fnExactFewestFaultsRow.holds Try.pinned (OpenSpec.ofChange fnExactFewestFaultsSpec)

/-- ITS FALSE NEIGHBOUR: 'it returns false'. Refute it at one input. -/
def fnExactFewestFaultsWrong : ChangeSpec := { name := "fnExactFewestFaults", fn := fun _ => fun
  | [d1, d2, d3] => { results := [.lit (.bool false)], args := [d1, d2, d3] }
  | _ => none }
def FnExactFewestFaultsWrongFalsely : Prop := fnExactFewestFaultsRow.holds Try.pinned (OpenSpec.ofChange fnExactFewestFaultsWrong)

/-- 'laws.FnExactBestPlan': WHATEVER THE INPUT: true; the input reads as it did. -/
def fnExactBestPlanSpec : ChangeSpec := { name := "fnExactBestPlan", fn := fun _ => fun
  | [d1, d2, d3] => { results := [.lit (.bool true)], args := [d1, d2, d3] }
  | _ => none }
def fnExactBestPlanRow : OpenClaim := { program := "ytklpdfilhgjllaa", sum := "a75b686f3b14fe90b76025bac08b9efa642dc20db2602d79238f3987d1d2496a", func := "loop.example/g01087/laws.FnExactBestPlan", spec := "fnExactBestPlan", unfollowed := true, recurses := true, plainKeys := false, apart := false }
def FnExactBestPlanSaid : Prop := fnExactBestPlanRow.holds Try.pinned (OpenSpec.ofChange fnExactBestPlanSpec)

/-- ITS FALSE NEIGHBOUR: 'it returns false'. Refute it at one input. -/
def fnExactBestPlanWrong : ChangeSpec := { name := "fnExactBestPlan", fn := fun _ => fun
  | [d1, d2, d3] => { results := [.lit (.bool false)], args := [d1, d2, d3] }
  | _ => none }
def FnExactBestPlanWrongFalsely : Prop := fnExactBestPlanRow.holds Try.pinned (OpenSpec.ofChange fnExactBestPlanWrong)

/-- 'laws.FnExactOptimalCurve': WHATEVER THE INPUT: true; the input reads as it did. -/
def fnExactOptimalCurveSpec : ChangeSpec := { name := "fnExactOptimalCurve", fn := fun _ => fun
  | [d1, d2] => { results := [.lit (.bool true)], args := [d1, d2] }
  | _ => none }
def fnExactOptimalCurveRow : OpenClaim := { program := "ytklpdfilhgjllaa", sum := "a75b686f3b14fe90b76025bac08b9efa642dc20db2602d79238f3987d1d2496a", func := "loop.example/g01087/laws.FnExactOptimalCurve", spec := "fnExactOptimalCurve", recurses := true, plainKeys := false, apart := false }
def FnExactOptimalCurveSaid : Prop := fnExactOptimalCurveRow.holds Try.pinned (OpenSpec.ofChange fnExactOptimalCurveSpec)

/-- ITS FALSE NEIGHBOUR: 'it returns false'. Refute it at one input. -/
def fnExactOptimalCurveWrong : ChangeSpec := { name := "fnExactOptimalCurve", fn := fun _ => fun
  | [d1, d2] => { results := [.lit (.bool false)], args := [d1, d2] }
  | _ => none }
def FnExactOptimalCurveWrongFalsely : Prop := fnExactOptimalCurveRow.holds Try.pinned (OpenSpec.ofChange fnExactOptimalCurveWrong)

/-- 'laws.FnExactIntervalsOf': WHATEVER THE INPUT: true; the input reads as it did. -/
def fnExactIntervalsOfSpec : ChangeSpec := { name := "fnExactIntervalsOf", fn := fun _ => fun
  | [d1, d2] => { results := [.lit (.bool true)], args := [d1, d2] }
  | _ => none }
def fnExactIntervalsOfRow : OpenClaim := { program := "ytklpdfilhgjllaa", sum := "a75b686f3b14fe90b76025bac08b9efa642dc20db2602d79238f3987d1d2496a", func := "loop.example/g01087/laws.FnExactIntervalsOf", spec := "fnExactIntervalsOf", plainKeys := false, apart := false }
def FnExactIntervalsOfSaid : Prop := fnExactIntervalsOfRow.holds Try.pinned (OpenSpec.ofChange fnExactIntervalsOfSpec)

/-- ITS FALSE NEIGHBOUR: 'it returns false'. Refute it at one input. -/
def fnExactIntervalsOfWrong : ChangeSpec := { name := "fnExactIntervalsOf", fn := fun _ => fun
  | [d1, d2] => { results := [.lit (.bool false)], args := [d1, d2] }
  | _ => none }
def FnExactIntervalsOfWrongFalsely : Prop := fnExactIntervalsOfRow.holds Try.pinned (OpenSpec.ofChange fnExactIntervalsOfWrong)

/-- 'laws.FnExactMarksBound': WHATEVER THE INPUT: true; the input reads as it did. -/
def fnExactMarksBoundSpec : ChangeSpec := { name := "fnExactMarksBound", fn := fun _ => fun
  | [d1, d2, d3, d4] => { results := [.lit (.bool true)], args := [d1, d2, d3, d4] }
  | _ => none }
def fnExactMarksBoundRow : OpenClaim := { program := "ytklpdfilhgjllaa", sum := "a75b686f3b14fe90b76025bac08b9efa642dc20db2602d79238f3987d1d2496a", func := "loop.example/g01087/laws.FnExactMarksBound", spec := "fnExactMarksBound", plainKeys := false, apart := false }
def FnExactMarksBoundSaid : Prop := fnExactMarksBoundRow.holds Try.pinned (OpenSpec.ofChange fnExactMarksBoundSpec)

/-- ITS FALSE NEIGHBOUR: 'it returns false'. Refute it at one input. -/
def fnExactMarksBoundWrong : ChangeSpec := { name := "fnExactMarksBound", fn := fun _ => fun
  | [d1, d2, d3, d4] => { results := [.lit (.bool false)], args := [d1, d2, d3, d4] }
  | _ => none }
def FnExactMarksBoundWrongFalsely : Prop := fnExactMarksBoundRow.holds Try.pinned (OpenSpec.ofChange fnExactMarksBoundWrong)

/-- 'laws.FnExactFindMarks': WHATEVER THE INPUT: true; the input reads as it did. -/
def fnExactFindMarksSpec : ChangeSpec := { name := "fnExactFindMarks", fn := fun _ => fun
  | [d1, d2, d3] => { results := [.lit (.bool true)], args := [d1, d2, d3] }
  | _ => none }
def fnExactFindMarksRow : OpenClaim := { program := "ytklpdfilhgjllaa", sum := "a75b686f3b14fe90b76025bac08b9efa642dc20db2602d79238f3987d1d2496a", func := "loop.example/g01087/laws.FnExactFindMarks", spec := "fnExactFindMarks", plainKeys := false, apart := false }
def FnExactFindMarksSaid : Prop := fnExactFindMarksRow.holds Try.pinned (OpenSpec.ofChange fnExactFindMarksSpec)

/-- ITS FALSE NEIGHBOUR: 'it returns false'. Refute it at one input. -/
def fnExactFindMarksWrong : ChangeSpec := { name := "fnExactFindMarks", fn := fun _ => fun
  | [d1, d2, d3] => { results := [.lit (.bool false)], args := [d1, d2, d3] }
  | _ => none }
def FnExactFindMarksWrongFalsely : Prop := fnExactFindMarksRow.holds Try.pinned (OpenSpec.ofChange fnExactFindMarksWrong)

/-- 'laws.FnExactProvesFewest': WHATEVER THE INPUT: true; the input reads as it did. -/
def fnExactProvesFewestSpec : ChangeSpec := { name := "fnExactProvesFewest", fn := fun _ => fun
  | [d1, d2, d3, d4, d5] => { results := [.lit (.bool true)], args := [d1, d2, d3, d4, d5] }
  | _ => none }
def fnExactProvesFewestRow : OpenClaim := { program := "ytklpdfilhgjllaa", sum := "a75b686f3b14fe90b76025bac08b9efa642dc20db2602d79238f3987d1d2496a", func := "loop.example/g01087/laws.FnExactProvesFewest", spec := "fnExactProvesFewest", plainKeys := false, apart := false }
def FnExactProvesFewestSaid : Prop := fnExactProvesFewestRow.holds Try.pinned (OpenSpec.ofChange fnExactProvesFewestSpec)

/-- ITS FALSE NEIGHBOUR: 'it returns false'. Refute it at one input. -/
def fnExactProvesFewestWrong : ChangeSpec := { name := "fnExactProvesFewest", fn := fun _ => fun
  | [d1, d2, d3, d4, d5] => { results := [.lit (.bool false)], args := [d1, d2, d3, d4, d5] }
  | _ => none }
def FnExactProvesFewestWrongFalsely : Prop := fnExactProvesFewestRow.holds Try.pinned (OpenSpec.ofChange fnExactProvesFewestWrong)

/-- 'laws.FnExactLazyPlan': WHATEVER THE INPUT: true; the input reads as it did. -/
def fnExactLazyPlanSpec : ChangeSpec := { name := "fnExactLazyPlan", fn := fun _ => fun
  | [d1, d2, d3, d4] => { results := [.lit (.bool true)], args := [d1, d2, d3, d4] }
  | _ => none }
def fnExactLazyPlanRow : OpenClaim := { program := "ytklpdfilhgjllaa", sum := "a75b686f3b14fe90b76025bac08b9efa642dc20db2602d79238f3987d1d2496a", func := "loop.example/g01087/laws.FnExactLazyPlan", spec := "fnExactLazyPlan", unfollowed := true, recurses := true, plainKeys := false, apart := false }
def FnExactLazyPlanSaid : Prop := fnExactLazyPlanRow.holds Try.pinned (OpenSpec.ofChange fnExactLazyPlanSpec)

/-- ITS FALSE NEIGHBOUR: 'it returns false'. Refute it at one input. -/
def fnExactLazyPlanWrong : ChangeSpec := { name := "fnExactLazyPlan", fn := fun _ => fun
  | [d1, d2, d3, d4] => { results := [.lit (.bool false)], args := [d1, d2, d3, d4] }
  | _ => none }
def FnExactLazyPlanWrongFalsely : Prop := fnExactLazyPlanRow.holds Try.pinned (OpenSpec.ofChange fnExactLazyPlanWrong)

/- THE SECOND FORM. 'bulk': how many values and letters a reading holds, each counted each time it is reached (what is shared counts as often as it is met; a slice's spare places count too). A statement '..UptoSaid' is the law's where the arguments, and the package variables that the reading takes, are together of bulk at most 1048576: NARROWER than '..Said'. Prove '..Said' where nothing that the law and all that it calls make is longer than what came in: it says more and counts as full. Else prove '..UptoSaid'. A law counts once. -/
mutual
def uptoBulk {H : Type} : DataW H → Nat
  | .lit (.string bytes) => bytes.length + 1
  | .lit _ => 1
  | .nil => 1
  | .ptr d => uptoBulk d + 1
  | .slice elems spare => uptoBulkAll elems + uptoBulkAll spare + 1
  | .agg parts => uptoBulkAll parts + 1
  | .iface _ d => uptoBulk d + 1
  | .map entries => uptoBulkEntries entries + 1
  | .held _ => 1
def uptoBulkAll {H : Type} : List (DataW H) → Nat
  | [] => 0
  | d :: r => uptoBulk d + uptoBulkAll r
def uptoBulkEntries {H : Type} : List (Lit × DataW H) → Nat
  | [] => 0
  | x :: r => uptoBulkEntry x + uptoBulkEntries r
def uptoBulkEntry {H : Type} : Lit × DataW H → Nat
  | (.string bytes, d) => bytes.length + uptoBulk d + 1
  | (_, d) => uptoBulk d + 1
 end
def uptoSmall : (H : Type) → List (DataW H) → Bool := fun _ ds => decide (uptoBulkAll ds ≤ 1048576)
def OpenSpec.upto (s : _root_.Go.ChangeSpec) : _root_.Go.OpenSpec := { _root_.Go.OpenSpec.ofChange s with cond := some uptoSmall }

/-- 'laws.FnExactIsPlan', WHERE WHAT IT READS IS OF BULK AT MOST 1048576: true; the input reads as it did. -/
def fnExactIsPlanUptoRow : OpenClaim := { program := "ytklpdfilhgjllaa", sum := "a75b686f3b14fe90b76025bac08b9efa642dc20db2602d79238f3987d1d2496a", func := "loop.example/g01087/laws.FnExactIsPlan", spec := "fnExactIsPlan", plainKeys := false, apart := false, narrowed := true }
def FnExactIsPlanUptoSaid : Prop := fnExactIsPlanUptoRow.holds Try.pinned (OpenSpec.upto fnExactIsPlanSpec)

/-- 'laws.FnExactPlanFaults', WHERE WHAT IT READS IS OF BULK AT MOST 1048576: true; the input reads as it did. -/
def fnExactPlanFaultsUptoRow : OpenClaim := { program := "ytklpdfilhgjllaa", sum := "a75b686f3b14fe90b76025bac08b9efa642dc20db2602d79238f3987d1d2496a", func := "loop.example/g01087/laws.FnExactPlanFaults", spec := "fnExactPlanFaults", plainKeys := false, apart := false, narrowed := true }
def FnExactPlanFaultsUptoSaid : Prop := fnExactPlanFaultsUptoRow.holds Try.pinned (OpenSpec.upto fnExactPlanFaultsSpec)

/-- 'laws.FnExactPlanCaches', WHERE WHAT IT READS IS OF BULK AT MOST 1048576: true; the input reads as it did. -/
def fnExactPlanCachesUptoRow : OpenClaim := { program := "ytklpdfilhgjllaa", sum := "a75b686f3b14fe90b76025bac08b9efa642dc20db2602d79238f3987d1d2496a", func := "loop.example/g01087/laws.FnExactPlanCaches", spec := "fnExactPlanCaches", plainKeys := false, apart := false, narrowed := true }
def FnExactPlanCachesUptoSaid : Prop := fnExactPlanCachesUptoRow.holds Try.pinned (OpenSpec.upto fnExactPlanCachesSpec)

/-- 'laws.FnExactFarthestPlan', WHERE WHAT IT READS IS OF BULK AT MOST 1048576: true; the input reads as it did. -/
def fnExactFarthestPlanUptoRow : OpenClaim := { program := "ytklpdfilhgjllaa", sum := "a75b686f3b14fe90b76025bac08b9efa642dc20db2602d79238f3987d1d2496a", func := "loop.example/g01087/laws.FnExactFarthestPlan", spec := "fnExactFarthestPlan", unfollowed := true, recurses := true, plainKeys := false, apart := false, narrowed := true }
def FnExactFarthestPlanUptoSaid : Prop := fnExactFarthestPlanUptoRow.holds Try.pinned (OpenSpec.upto fnExactFarthestPlanSpec)

/-- 'laws.FnExactFewestFaults', WHERE WHAT IT READS IS OF BULK AT MOST 1048576: true; the input reads as it did. -/
def fnExactFewestFaultsUptoRow : OpenClaim := { program := "ytklpdfilhgjllaa", sum := "a75b686f3b14fe90b76025bac08b9efa642dc20db2602d79238f3987d1d2496a", func := "loop.example/g01087/laws.FnExactFewestFaults", spec := "fnExactFewestFaults", recurses := true, plainKeys := false, apart := false, narrowed := true }
def FnExactFewestFaultsUptoSaid : Prop := fnExactFewestFaultsUptoRow.holds Try.pinned (OpenSpec.upto fnExactFewestFaultsSpec)

/-- 'laws.FnExactBestPlan', WHERE WHAT IT READS IS OF BULK AT MOST 1048576: true; the input reads as it did. -/
def fnExactBestPlanUptoRow : OpenClaim := { program := "ytklpdfilhgjllaa", sum := "a75b686f3b14fe90b76025bac08b9efa642dc20db2602d79238f3987d1d2496a", func := "loop.example/g01087/laws.FnExactBestPlan", spec := "fnExactBestPlan", unfollowed := true, recurses := true, plainKeys := false, apart := false, narrowed := true }
def FnExactBestPlanUptoSaid : Prop := fnExactBestPlanUptoRow.holds Try.pinned (OpenSpec.upto fnExactBestPlanSpec)

/-- 'laws.FnExactOptimalCurve', WHERE WHAT IT READS IS OF BULK AT MOST 1048576: true; the input reads as it did. -/
def fnExactOptimalCurveUptoRow : OpenClaim := { program := "ytklpdfilhgjllaa", sum := "a75b686f3b14fe90b76025bac08b9efa642dc20db2602d79238f3987d1d2496a", func := "loop.example/g01087/laws.FnExactOptimalCurve", spec := "fnExactOptimalCurve", recurses := true, plainKeys := false, apart := false, narrowed := true }
def FnExactOptimalCurveUptoSaid : Prop := fnExactOptimalCurveUptoRow.holds Try.pinned (OpenSpec.upto fnExactOptimalCurveSpec)

/-- 'laws.FnExactIntervalsOf', WHERE WHAT IT READS IS OF BULK AT MOST 1048576: true; the input reads as it did. -/
def fnExactIntervalsOfUptoRow : OpenClaim := { program := "ytklpdfilhgjllaa", sum := "a75b686f3b14fe90b76025bac08b9efa642dc20db2602d79238f3987d1d2496a", func := "loop.example/g01087/laws.FnExactIntervalsOf", spec := "fnExactIntervalsOf", plainKeys := false, apart := false, narrowed := true }
def FnExactIntervalsOfUptoSaid : Prop := fnExactIntervalsOfUptoRow.holds Try.pinned (OpenSpec.upto fnExactIntervalsOfSpec)

/-- 'laws.FnExactMarksBound', WHERE WHAT IT READS IS OF BULK AT MOST 1048576: true; the input reads as it did. -/
def fnExactMarksBoundUptoRow : OpenClaim := { program := "ytklpdfilhgjllaa", sum := "a75b686f3b14fe90b76025bac08b9efa642dc20db2602d79238f3987d1d2496a", func := "loop.example/g01087/laws.FnExactMarksBound", spec := "fnExactMarksBound", plainKeys := false, apart := false, narrowed := true }
def FnExactMarksBoundUptoSaid : Prop := fnExactMarksBoundUptoRow.holds Try.pinned (OpenSpec.upto fnExactMarksBoundSpec)

/-- 'laws.FnExactFindMarks', WHERE WHAT IT READS IS OF BULK AT MOST 1048576: true; the input reads as it did. -/
def fnExactFindMarksUptoRow : OpenClaim := { program := "ytklpdfilhgjllaa", sum := "a75b686f3b14fe90b76025bac08b9efa642dc20db2602d79238f3987d1d2496a", func := "loop.example/g01087/laws.FnExactFindMarks", spec := "fnExactFindMarks", plainKeys := false, apart := false, narrowed := true }
def FnExactFindMarksUptoSaid : Prop := fnExactFindMarksUptoRow.holds Try.pinned (OpenSpec.upto fnExactFindMarksSpec)

/-- 'laws.FnExactProvesFewest', WHERE WHAT IT READS IS OF BULK AT MOST 1048576: true; the input reads as it did. -/
def fnExactProvesFewestUptoRow : OpenClaim := { program := "ytklpdfilhgjllaa", sum := "a75b686f3b14fe90b76025bac08b9efa642dc20db2602d79238f3987d1d2496a", func := "loop.example/g01087/laws.FnExactProvesFewest", spec := "fnExactProvesFewest", plainKeys := false, apart := false, narrowed := true }
def FnExactProvesFewestUptoSaid : Prop := fnExactProvesFewestUptoRow.holds Try.pinned (OpenSpec.upto fnExactProvesFewestSpec)

/-- 'laws.FnExactLazyPlan', WHERE WHAT IT READS IS OF BULK AT MOST 1048576: true; the input reads as it did. -/
def fnExactLazyPlanUptoRow : OpenClaim := { program := "ytklpdfilhgjllaa", sum := "a75b686f3b14fe90b76025bac08b9efa642dc20db2602d79238f3987d1d2496a", func := "loop.example/g01087/laws.FnExactLazyPlan", spec := "fnExactLazyPlan", unfollowed := true, recurses := true, plainKeys := false, apart := false, narrowed := true }
def FnExactLazyPlanUptoSaid : Prop := fnExactLazyPlanUptoRow.holds Try.pinned (OpenSpec.upto fnExactLazyPlanSpec)

end Rows
end Go.Proofs.Ytklpdfilhgjllaa
