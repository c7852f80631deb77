/-
  No cell of these rows narrows 'for every input' (looked for: loops, veiled, ifaces, maps, wideKeys, modest, calm, conditions, laid).
  DERIVED. THE GIVEN ROWS OF THIS SEAT. 10 by the template 'for every input the law returns true; each argument reads behind the call as it read before'; 0 by the template 'total and deterministic' (their statements: YtgnfmbdomofgcaaTotals.lean).
  GIVEN WITH THE SEED: the statements are not yours to turn. If you find one false, say at which input.
  Laid BY PROGRAM, IN A SANDBOX (cutbox-rows.mjs): the forced cells as the released guide's own fill.sh prints them over the translation e64725f3376ff82f… (all of the seat's roots in one cut). By AI agents, Wed Nov 11 2026. No macro, syntax, notation, axiom, sorry.
-/
import Derived.Test.YtgnfmbdomofgcaaChecked
import GoSem.Claim
import GoSem.ClaimJoined
import GoSem.ClaimMapViews
import Derived.JoinedTies
import Derived.KernelRfl
namespace Go.Proofs.Ytgnfmbdomofgcaa
/- THE CELL 'sum', in the pinned program and in every row, IS THE sha256 OF THE DUMP (.gsa) THAT YtgnfmbdomofgcaaProg.lean LOADS. Nothing in Lean hashes anything: it is a label: what it is worth is what the hold of that sum in a sandbox is worth. -/
noncomputable def Try.pinned : Pinned := { name := "ytgnfmbdomofgcaa", sum := "e64725f3376ff82f8a6f7c2a28cbdc4e28495a7103eaf186f700396b920c7133", checked := Try.checked }
namespace Rows
def none {H : Type} : Left H := { results := [], args := [] }

/-- 'laws.FnRunsAndUses': WHATEVER THE INPUT: true; the input reads as it did. -/
def fnRunsAndUsesSpec : ChangeSpec := { name := "fnRunsAndUses", fn := fun _ => fun
  | [d] => { results := [.lit (.bool true)], args := [d] }
  | _ => none }
def fnRunsAndUsesRow : OpenClaim := { program := "ytgnfmbdomofgcaa", sum := "e64725f3376ff82f8a6f7c2a28cbdc4e28495a7103eaf186f700396b920c7133", func := "loop.example/g01087/laws.FnRunsAndUses", spec := "fnRunsAndUses", apart := false }
def FnRunsAndUsesSaid : Prop := fnRunsAndUsesRow.holds Try.pinned (OpenSpec.ofChange fnRunsAndUsesSpec)

/-- ITS FALSE NEIGHBOUR: 'it returns false'. Refute it at one input. -/
def fnRunsAndUsesWrong : ChangeSpec := { name := "fnRunsAndUses", fn := fun _ => fun
  | [d] => { results := [.lit (.bool false)], args := [d] }
  | _ => none }
def FnRunsAndUsesWrongFalsely : Prop := fnRunsAndUsesRow.holds Try.pinned (OpenSpec.ofChange fnRunsAndUsesWrong)

/-- 'laws.FnRequestParts': WHATEVER THE INPUT: true; the input reads as it did. -/
def fnRequestPartsSpec : ChangeSpec := { name := "fnRequestParts", fn := fun _ => fun
  | [d] => { results := [.lit (.bool true)], args := [d] }
  | _ => none }
def fnRequestPartsRow : OpenClaim := { program := "ytgnfmbdomofgcaa", sum := "e64725f3376ff82f8a6f7c2a28cbdc4e28495a7103eaf186f700396b920c7133", func := "loop.example/g01087/laws.FnRequestParts", spec := "fnRequestParts", apart := false }
def FnRequestPartsSaid : Prop := fnRequestPartsRow.holds Try.pinned (OpenSpec.ofChange fnRequestPartsSpec)

/-- ITS FALSE NEIGHBOUR: 'it returns false'. Refute it at one input. -/
def fnRequestPartsWrong : ChangeSpec := { name := "fnRequestParts", fn := fun _ => fun
  | [d] => { results := [.lit (.bool false)], args := [d] }
  | _ => none }
def FnRequestPartsWrongFalsely : Prop := fnRequestPartsRow.holds Try.pinned (OpenSpec.ofChange fnRequestPartsWrong)

/-- 'laws.FnExactIsRequests': WHATEVER THE INPUT: true; the input reads as it did. -/
def fnExactIsRequestsSpec : ChangeSpec := { name := "fnExactIsRequests", fn := fun _ => fun
  | [d1, d2] => { results := [.lit (.bool true)], args := [d1, d2] }
  | _ => none }
def fnExactIsRequestsRow : OpenClaim := { program := "ytgnfmbdomofgcaa", sum := "e64725f3376ff82f8a6f7c2a28cbdc4e28495a7103eaf186f700396b920c7133", func := "loop.example/g01087/laws.FnExactIsRequests", spec := "fnExactIsRequests", apart := false }
def FnExactIsRequestsSaid : Prop := fnExactIsRequestsRow.holds Try.pinned (OpenSpec.ofChange fnExactIsRequestsSpec)

/-- ITS FALSE NEIGHBOUR: 'it returns false'. Refute it at one input. -/
def fnExactIsRequestsWrong : ChangeSpec := { name := "fnExactIsRequests", fn := fun _ => fun
  | [d1, d2] => { results := [.lit (.bool false)], args := [d1, d2] }
  | _ => none }
def FnExactIsRequestsWrongFalsely : Prop := fnExactIsRequestsRow.holds Try.pinned (OpenSpec.ofChange fnExactIsRequestsWrong)

/-- 'laws.FnExactParseRequests': WHATEVER THE INPUT: true; the input reads as it did. -/
def fnExactParseRequestsSpec : ChangeSpec := { name := "fnExactParseRequests", fn := fun _ => fun
  | [d1, d2] => { results := [.lit (.bool true)], args := [d1, d2] }
  | _ => none }
def fnExactParseRequestsRow : OpenClaim := { program := "ytgnfmbdomofgcaa", sum := "e64725f3376ff82f8a6f7c2a28cbdc4e28495a7103eaf186f700396b920c7133", func := "loop.example/g01087/laws.FnExactParseRequests", spec := "fnExactParseRequests", recurses := true, apart := false }
def FnExactParseRequestsSaid : Prop := fnExactParseRequestsRow.holds Try.pinned (OpenSpec.ofChange fnExactParseRequestsSpec)

/-- ITS FALSE NEIGHBOUR: 'it returns false'. Refute it at one input. -/
def fnExactParseRequestsWrong : ChangeSpec := { name := "fnExactParseRequests", fn := fun _ => fun
  | [d1, d2] => { results := [.lit (.bool false)], args := [d1, d2] }
  | _ => none }
def FnExactParseRequestsWrongFalsely : Prop := fnExactParseRequestsRow.holds Try.pinned (OpenSpec.ofChange fnExactParseRequestsWrong)

/-- 'laws.FnExactLoopRequests': WHATEVER THE INPUT: true; the input reads as it did. -/
def fnExactLoopRequestsSpec : ChangeSpec := { name := "fnExactLoopRequests", fn := fun _ => fun
  | [d1, d2, d3] => { results := [.lit (.bool true)], args := [d1, d2, d3] }
  | _ => none }
def fnExactLoopRequestsRow : OpenClaim := { program := "ytgnfmbdomofgcaa", sum := "e64725f3376ff82f8a6f7c2a28cbdc4e28495a7103eaf186f700396b920c7133", func := "loop.example/g01087/laws.FnExactLoopRequests", spec := "fnExactLoopRequests", apart := false }
def FnExactLoopRequestsSaid : Prop := fnExactLoopRequestsRow.holds Try.pinned (OpenSpec.ofChange fnExactLoopRequestsSpec)

/-- ITS FALSE NEIGHBOUR: 'it returns false'. Refute it at one input. -/
def fnExactLoopRequestsWrong : ChangeSpec := { name := "fnExactLoopRequests", fn := fun _ => fun
  | [d1, d2, d3] => { results := [.lit (.bool false)], args := [d1, d2, d3] }
  | _ => none }
def FnExactLoopRequestsWrongFalsely : Prop := fnExactLoopRequestsRow.holds Try.pinned (OpenSpec.ofChange fnExactLoopRequestsWrong)

/-- 'laws.FnExactSeededRequests': WHATEVER THE INPUT: true; the input reads as it did. -/
def fnExactSeededRequestsSpec : ChangeSpec := { name := "fnExactSeededRequests", fn := fun _ => fun
  | [d1, d2, d3] => { results := [.lit (.bool true)], args := [d1, d2, d3] }
  | _ => none }
def fnExactSeededRequestsRow : OpenClaim := { program := "ytgnfmbdomofgcaa", sum := "e64725f3376ff82f8a6f7c2a28cbdc4e28495a7103eaf186f700396b920c7133", func := "loop.example/g01087/laws.FnExactSeededRequests", spec := "fnExactSeededRequests", unfollowed := true, recurses := true, apart := false }
def FnExactSeededRequestsSaid : Prop := fnExactSeededRequestsRow.holds Try.pinned (OpenSpec.ofChange fnExactSeededRequestsSpec)

/-- ITS FALSE NEIGHBOUR: 'it returns false'. Refute it at one input. -/
def fnExactSeededRequestsWrong : ChangeSpec := { name := "fnExactSeededRequests", fn := fun _ => fun
  | [d1, d2, d3] => { results := [.lit (.bool false)], args := [d1, d2, d3] }
  | _ => none }
def FnExactSeededRequestsWrongFalsely : Prop := fnExactSeededRequestsRow.holds Try.pinned (OpenSpec.ofChange fnExactSeededRequestsWrong)

/-- 'laws.FnExactNearRequests': WHATEVER THE INPUT: true; the input reads as it did. -/
def fnExactNearRequestsSpec : ChangeSpec := { name := "fnExactNearRequests", fn := fun _ => fun
  | [d1, d2, d3, d4] => { results := [.lit (.bool true)], args := [d1, d2, d3, d4] }
  | _ => none }
def fnExactNearRequestsRow : OpenClaim := { program := "ytgnfmbdomofgcaa", sum := "e64725f3376ff82f8a6f7c2a28cbdc4e28495a7103eaf186f700396b920c7133", func := "loop.example/g01087/laws.FnExactNearRequests", spec := "fnExactNearRequests", unfollowed := true, recurses := true, apart := false }
def FnExactNearRequestsSaid : Prop := fnExactNearRequestsRow.holds Try.pinned (OpenSpec.ofChange fnExactNearRequestsSpec)

/-- ITS FALSE NEIGHBOUR: 'it returns false'. Refute it at one input. -/
def fnExactNearRequestsWrong : ChangeSpec := { name := "fnExactNearRequests", fn := fun _ => fun
  | [d1, d2, d3, d4] => { results := [.lit (.bool false)], args := [d1, d2, d3, d4] }
  | _ => none }
def FnExactNearRequestsWrongFalsely : Prop := fnExactNearRequestsRow.holds Try.pinned (OpenSpec.ofChange fnExactNearRequestsWrong)

/-- 'laws.FnExactRunsOf': WHATEVER THE INPUT: true; the input reads as it did. -/
def fnExactRunsOfSpec : ChangeSpec := { name := "fnExactRunsOf", fn := fun _ => fun
  | [d1, d2] => { results := [.lit (.bool true)], args := [d1, d2] }
  | _ => none }
def fnExactRunsOfRow : OpenClaim := { program := "ytgnfmbdomofgcaa", sum := "e64725f3376ff82f8a6f7c2a28cbdc4e28495a7103eaf186f700396b920c7133", func := "loop.example/g01087/laws.FnExactRunsOf", spec := "fnExactRunsOf", apart := false }
def FnExactRunsOfSaid : Prop := fnExactRunsOfRow.holds Try.pinned (OpenSpec.ofChange fnExactRunsOfSpec)

/-- ITS FALSE NEIGHBOUR: 'it returns false'. Refute it at one input. -/
def fnExactRunsOfWrong : ChangeSpec := { name := "fnExactRunsOf", fn := fun _ => fun
  | [d1, d2] => { results := [.lit (.bool false)], args := [d1, d2] }
  | _ => none }
def FnExactRunsOfWrongFalsely : Prop := fnExactRunsOfRow.holds Try.pinned (OpenSpec.ofChange fnExactRunsOfWrong)

/-- 'laws.FnExactFromRuns': WHATEVER THE INPUT: true; the input reads as it did. -/
def fnExactFromRunsSpec : ChangeSpec := { name := "fnExactFromRuns", fn := fun _ => fun
  | [d1, d2] => { results := [.lit (.bool true)], args := [d1, d2] }
  | _ => none }
def fnExactFromRunsRow : OpenClaim := { program := "ytgnfmbdomofgcaa", sum := "e64725f3376ff82f8a6f7c2a28cbdc4e28495a7103eaf186f700396b920c7133", func := "loop.example/g01087/laws.FnExactFromRuns", spec := "fnExactFromRuns", apart := false }
def FnExactFromRunsSaid : Prop := fnExactFromRunsRow.holds Try.pinned (OpenSpec.ofChange fnExactFromRunsSpec)

/-- ITS FALSE NEIGHBOUR: 'it returns false'. Refute it at one input. -/
def fnExactFromRunsWrong : ChangeSpec := { name := "fnExactFromRuns", fn := fun _ => fun
  | [d1, d2] => { results := [.lit (.bool false)], args := [d1, d2] }
  | _ => none }
def FnExactFromRunsWrongFalsely : Prop := fnExactFromRunsRow.holds Try.pinned (OpenSpec.ofChange fnExactFromRunsWrong)

/-- 'laws.FnExactCountsOf': WHATEVER THE INPUT: true; the input reads as it did. -/
def fnExactCountsOfSpec : ChangeSpec := { name := "fnExactCountsOf", fn := fun _ => fun
  | [d1, d2] => { results := [.lit (.bool true)], args := [d1, d2] }
  | _ => none }
def fnExactCountsOfRow : OpenClaim := { program := "ytgnfmbdomofgcaa", sum := "e64725f3376ff82f8a6f7c2a28cbdc4e28495a7103eaf186f700396b920c7133", func := "loop.example/g01087/laws.FnExactCountsOf", spec := "fnExactCountsOf", apart := false }
def FnExactCountsOfSaid : Prop := fnExactCountsOfRow.holds Try.pinned (OpenSpec.ofChange fnExactCountsOfSpec)

/-- ITS FALSE NEIGHBOUR: 'it returns false'. Refute it at one input. -/
def fnExactCountsOfWrong : ChangeSpec := { name := "fnExactCountsOf", fn := fun _ => fun
  | [d1, d2] => { results := [.lit (.bool false)], args := [d1, d2] }
  | _ => none }
def FnExactCountsOfWrongFalsely : Prop := fnExactCountsOfRow.holds Try.pinned (OpenSpec.ofChange fnExactCountsOfWrong)

/- THE SECOND FORM. 'bulk': how many values and letters a reading holds, each counted each time it is reached (what is shared counts as often as it is met; a slice's spare places count too). A statement '..UptoSaid' is the law's where the arguments, and the package variables that the reading takes, are together of bulk at most 1048576: NARROWER than '..Said'. Prove '..Said' where nothing that the law and all that it calls make is longer than what came in: it says more and counts as full. Else prove '..UptoSaid'. A law counts once. -/
mutual
def uptoBulk {H : Type} : DataW H → Nat
  | .lit (.string bytes) => bytes.length + 1
  | .lit _ => 1
  | .nil => 1
  | .ptr d => uptoBulk d + 1
  | .slice elems spare => uptoBulkAll elems + uptoBulkAll spare + 1
  | .agg parts => uptoBulkAll parts + 1
  | .iface _ d => uptoBulk d + 1
  | .map entries => uptoBulkEntries entries + 1
  | .held _ => 1
def uptoBulkAll {H : Type} : List (DataW H) → Nat
  | [] => 0
  | d :: r => uptoBulk d + uptoBulkAll r
def uptoBulkEntries {H : Type} : List (Lit × DataW H) → Nat
  | [] => 0
  | x :: r => uptoBulkEntry x + uptoBulkEntries r
def uptoBulkEntry {H : Type} : Lit × DataW H → Nat
  | (.string bytes, d) => bytes.length + uptoBulk d + 1
  | (_, d) => uptoBulk d + 1
 end
def uptoSmall : (H : Type) → List (DataW H) → Bool := fun _ ds => decide (uptoBulkAll ds ≤ 1048576)
def OpenSpec.upto (s : _root_.Go.ChangeSpec) : _root_.Go.OpenSpec := { _root_.Go.OpenSpec.ofChange s with cond := some uptoSmall }

/-- 'laws.FnRunsAndUses', WHERE WHAT IT READS IS OF BULK AT MOST 1048576: true; the input reads as it did. -/
def fnRunsAndUsesUptoRow : OpenClaim := { program := "ytgnfmbdomofgcaa", sum := "e64725f3376ff82f8a6f7c2a28cbdc4e28495a7103eaf186f700396b920c7133", func := "loop.example/g01087/laws.FnRunsAndUses", spec := "fnRunsAndUses", apart := false, narrowed := true }
def FnRunsAndUsesUptoSaid : Prop := fnRunsAndUsesUptoRow.holds Try.pinned (OpenSpec.upto fnRunsAndUsesSpec)

/-- 'laws.FnRequestParts', WHERE WHAT IT READS IS OF BULK AT MOST 1048576: true; the input reads as it did. -/
def fnRequestPartsUptoRow : OpenClaim := { program := "ytgnfmbdomofgcaa", sum := "e64725f3376ff82f8a6f7c2a28cbdc4e28495a7103eaf186f700396b920c7133", func := "loop.example/g01087/laws.FnRequestParts", spec := "fnRequestParts", apart := false, narrowed := true }
def FnRequestPartsUptoSaid : Prop := fnRequestPartsUptoRow.holds Try.pinned (OpenSpec.upto fnRequestPartsSpec)

/-- 'laws.FnExactIsRequests', WHERE WHAT IT READS IS OF BULK AT MOST 1048576: true; the input reads as it did. -/
def fnExactIsRequestsUptoRow : OpenClaim := { program := "ytgnfmbdomofgcaa", sum := "e64725f3376ff82f8a6f7c2a28cbdc4e28495a7103eaf186f700396b920c7133", func := "loop.example/g01087/laws.FnExactIsRequests", spec := "fnExactIsRequests", apart := false, narrowed := true }
def FnExactIsRequestsUptoSaid : Prop := fnExactIsRequestsUptoRow.holds Try.pinned (OpenSpec.upto fnExactIsRequestsSpec)

/-- 'laws.FnExactParseRequests', WHERE WHAT IT READS IS OF BULK AT MOST 1048576: true; the input reads as it did. -/
def fnExactParseRequestsUptoRow : OpenClaim := { program := "ytgnfmbdomofgcaa", sum := "e64725f3376ff82f8a6f7c2a28cbdc4e28495a7103eaf186f700396b920c7133", func := "loop.example/g01087/laws.FnExactParseRequests", spec := "fnExactParseRequests", recurses := true, apart := false, narrowed := true }
def FnExactParseRequestsUptoSaid : Prop := fnExactParseRequestsUptoRow.holds Try.pinned (OpenSpec.upto fnExactParseRequestsSpec)

/-- 'laws.FnExactLoopRequests', WHERE WHAT IT READS IS OF BULK AT MOST 1048576: true; the input reads as it did. -/
def fnExactLoopRequestsUptoRow : OpenClaim := { program := "ytgnfmbdomofgcaa", sum := "e64725f3376ff82f8a6f7c2a28cbdc4e28495a7103eaf186f700396b920c7133", func := "loop.example/g01087/laws.FnExactLoopRequests", spec := "fnExactLoopRequests", apart := false, narrowed := true }
def FnExactLoopRequestsUptoSaid : Prop := fnExactLoopRequestsUptoRow.holds Try.pinned (OpenSpec.upto fnExactLoopRequestsSpec)

/-- 'laws.FnExactSeededRequests', WHERE WHAT IT READS IS OF BULK AT MOST 1048576: true; the input reads as it did. -/
def fnExactSeededRequestsUptoRow : OpenClaim := { program := "ytgnfmbdomofgcaa", sum := "e64725f3376ff82f8a6f7c2a28cbdc4e28495a7103eaf186f700396b920c7133", func := "loop.example/g01087/laws.FnExactSeededRequests", spec := "fnExactSeededRequests", unfollowed := true, recurses := true, apart := false, narrowed := true }
def FnExactSeededRequestsUptoSaid : Prop := fnExactSeededRequestsUptoRow.holds Try.pinned (OpenSpec.upto fnExactSeededRequestsSpec)

/-- 'laws.FnExactNearRequests', WHERE WHAT IT READS IS OF BULK AT MOST 1048576: true; the input reads as it did. -/
def fnExactNearRequestsUptoRow : OpenClaim := { program := "ytgnfmbdomofgcaa", sum := "e64725f3376ff82f8a6f7c2a28cbdc4e28495a7103eaf186f700396b920c7133", func := "loop.example/g01087/laws.FnExactNearRequests", spec := "fnExactNearRequests", unfollowed := true, recurses := true, apart := false, narrowed := true }
def FnExactNearRequestsUptoSaid : Prop := fnExactNearRequestsUptoRow.holds Try.pinned (OpenSpec.upto fnExactNearRequestsSpec)

/-- 'laws.FnExactRunsOf', WHERE WHAT IT READS IS OF BULK AT MOST 1048576: true; the input reads as it did. -/
def fnExactRunsOfUptoRow : OpenClaim := { program := "ytgnfmbdomofgcaa", sum := "e64725f3376ff82f8a6f7c2a28cbdc4e28495a7103eaf186f700396b920c7133", func := "loop.example/g01087/laws.FnExactRunsOf", spec := "fnExactRunsOf", apart := false, narrowed := true }
def FnExactRunsOfUptoSaid : Prop := fnExactRunsOfUptoRow.holds Try.pinned (OpenSpec.upto fnExactRunsOfSpec)

/-- 'laws.FnExactFromRuns', WHERE WHAT IT READS IS OF BULK AT MOST 1048576: true; the input reads as it did. -/
def fnExactFromRunsUptoRow : OpenClaim := { program := "ytgnfmbdomofgcaa", sum := "e64725f3376ff82f8a6f7c2a28cbdc4e28495a7103eaf186f700396b920c7133", func := "loop.example/g01087/laws.FnExactFromRuns", spec := "fnExactFromRuns", apart := false, narrowed := true }
def FnExactFromRunsUptoSaid : Prop := fnExactFromRunsUptoRow.holds Try.pinned (OpenSpec.upto fnExactFromRunsSpec)

/-- 'laws.FnExactCountsOf', WHERE WHAT IT READS IS OF BULK AT MOST 1048576: true; the input reads as it did. -/
def fnExactCountsOfUptoRow : OpenClaim := { program := "ytgnfmbdomofgcaa", sum := "e64725f3376ff82f8a6f7c2a28cbdc4e28495a7103eaf186f700396b920c7133", func := "loop.example/g01087/laws.FnExactCountsOf", spec := "fnExactCountsOf", apart := false, narrowed := true }
def FnExactCountsOfUptoSaid : Prop := fnExactCountsOfUptoRow.holds Try.pinned (OpenSpec.upto fnExactCountsOfSpec)

end Rows
end Go.Proofs.Ytgnfmbdomofgcaa
