/-
  No cell of these rows narrows 'for every input' (looked for: loops, veiled, ifaces, maps, wideKeys, modest, calm, conditions, laid).
  DERIVED. THE GIVEN ROWS OF THIS SEAT. 10 by the template 'for every input the law returns true; each argument reads behind the call as it read before'; 0 by the template 'total and deterministic' (their statements: YtdjafooabpcbmabTotals.lean).
  GIVEN WITH THE SEED: the statements are not yours to turn. If you find one false, say at which input.
  Laid BY PROGRAM, IN A SANDBOX (cutbox-rows.mjs): the forced cells as the released guide's own fill.sh prints them over the translation 158e38f147d61c2e… (all of the seat's roots in one cut). By AI agents, Wed Nov 11 2026. No macro, syntax, notation, axiom, sorry.
-/
import Derived.Test.YtdjafooabpcbmabChecked
import GoSem.Claim
import GoSem.ClaimJoined
import GoSem.ClaimMapViews
import Derived.JoinedTies
import Derived.KernelRfl
namespace Go.Proofs.Ytdjafooabpcbmab
/- THE CELL 'sum', in the pinned program and in every row, IS THE sha256 OF THE DUMP (.gsa) THAT YtdjafooabpcbmabProg.lean LOADS. Nothing in Lean hashes anything: it is a label: what it is worth is what the hold of that sum in a sandbox is worth. -/
noncomputable def Try.pinned : Pinned := { name := "ytdjafooabpcbmab", sum := "158e38f147d61c2ed2eacf631a099265ec57c39bcba6c20c0e4608b63e72649a", checked := Try.checked }
namespace Rows
def none {H : Type} : Left H := { results := [], args := [] }

/-- 'laws.FnExactIsCache': WHATEVER THE INPUT: true; the input reads as it did. -/
def fnExactIsCacheSpec : ChangeSpec := { name := "fnExactIsCache", fn := fun _ => fun
  | [d1, d2] => { results := [.lit (.bool true)], args := [d1, d2] }
  | _ => none }
def fnExactIsCacheRow : OpenClaim := { program := "ytdjafooabpcbmab", sum := "158e38f147d61c2ed2eacf631a099265ec57c39bcba6c20c0e4608b63e72649a", func := "loop.example/g01087/laws.FnExactIsCache", spec := "fnExactIsCache", apart := false }
def FnExactIsCacheSaid : Prop := fnExactIsCacheRow.holds Try.pinned (OpenSpec.ofChange fnExactIsCacheSpec)

/-- ITS FALSE NEIGHBOUR: 'it returns false'. Refute it at one input. -/
def fnExactIsCacheWrong : ChangeSpec := { name := "fnExactIsCache", fn := fun _ => fun
  | [d1, d2] => { results := [.lit (.bool false)], args := [d1, d2] }
  | _ => none }
def FnExactIsCacheWrongFalsely : Prop := fnExactIsCacheRow.holds Try.pinned (OpenSpec.ofChange fnExactIsCacheWrong)

/-- 'laws.FnExactNewCache': WHATEVER THE INPUT: true; the input reads as it did. -/
def fnExactNewCacheSpec : ChangeSpec := { name := "fnExactNewCache", fn := fun _ => fun
  | [d1, d2, d3] => { results := [.lit (.bool true)], args := [d1, d2, d3] }
  | _ => none }
def fnExactNewCacheRow : OpenClaim := { program := "ytdjafooabpcbmab", sum := "158e38f147d61c2ed2eacf631a099265ec57c39bcba6c20c0e4608b63e72649a", func := "loop.example/g01087/laws.FnExactNewCache", spec := "fnExactNewCache", apart := false }
def FnExactNewCacheSaid : Prop := fnExactNewCacheRow.holds Try.pinned (OpenSpec.ofChange fnExactNewCacheSpec)

/-- ITS FALSE NEIGHBOUR: 'it returns false'. Refute it at one input. -/
def fnExactNewCacheWrong : ChangeSpec := { name := "fnExactNewCache", fn := fun _ => fun
  | [d1, d2, d3] => { results := [.lit (.bool false)], args := [d1, d2, d3] }
  | _ => none }
def FnExactNewCacheWrongFalsely : Prop := fnExactNewCacheRow.holds Try.pinned (OpenSpec.ofChange fnExactNewCacheWrong)

/-- 'laws.FnExactIsHit': WHATEVER THE INPUT: true; the input reads as it did. -/
def fnExactIsHitSpec : ChangeSpec := { name := "fnExactIsHit", fn := fun _ => fun
  | [d1, d2, d3] => { results := [.lit (.bool true)], args := [d1, d2, d3] }
  | _ => none }
def fnExactIsHitRow : OpenClaim := { program := "ytdjafooabpcbmab", sum := "158e38f147d61c2ed2eacf631a099265ec57c39bcba6c20c0e4608b63e72649a", func := "loop.example/g01087/laws.FnExactIsHit", spec := "fnExactIsHit", apart := false }
def FnExactIsHitSaid : Prop := fnExactIsHitRow.holds Try.pinned (OpenSpec.ofChange fnExactIsHitSpec)

/-- ITS FALSE NEIGHBOUR: 'it returns false'. Refute it at one input. -/
def fnExactIsHitWrong : ChangeSpec := { name := "fnExactIsHit", fn := fun _ => fun
  | [d1, d2, d3] => { results := [.lit (.bool false)], args := [d1, d2, d3] }
  | _ => none }
def FnExactIsHitWrongFalsely : Prop := fnExactIsHitRow.holds Try.pinned (OpenSpec.ofChange fnExactIsHitWrong)

/-- 'laws.FnExactLastOrder': WHATEVER THE INPUT: true; the input reads as it did. -/
def fnExactLastOrderSpec : ChangeSpec := { name := "fnExactLastOrder", fn := fun _ => fun
  | [d1, d2] => { results := [.lit (.bool true)], args := [d1, d2] }
  | _ => none }
def fnExactLastOrderRow : OpenClaim := { program := "ytdjafooabpcbmab", sum := "158e38f147d61c2ed2eacf631a099265ec57c39bcba6c20c0e4608b63e72649a", func := "loop.example/g01087/laws.FnExactLastOrder", spec := "fnExactLastOrder", unfollowed := true, recurses := true, apart := false }
def FnExactLastOrderSaid : Prop := fnExactLastOrderRow.holds Try.pinned (OpenSpec.ofChange fnExactLastOrderSpec)

/-- ITS FALSE NEIGHBOUR: 'it returns false'. Refute it at one input. -/
def fnExactLastOrderWrong : ChangeSpec := { name := "fnExactLastOrder", fn := fun _ => fun
  | [d1, d2] => { results := [.lit (.bool false)], args := [d1, d2] }
  | _ => none }
def FnExactLastOrderWrongFalsely : Prop := fnExactLastOrderRow.holds Try.pinned (OpenSpec.ofChange fnExactLastOrderWrong)

/-- 'laws.FnExactStackDistances': WHATEVER THE INPUT: true; the input reads as it did. -/
def fnExactStackDistancesSpec : ChangeSpec := { name := "fnExactStackDistances", fn := fun _ => fun
  | [d1, d2] => { results := [.lit (.bool true)], args := [d1, d2] }
  | _ => none }
def fnExactStackDistancesRow : OpenClaim := { program := "ytdjafooabpcbmab", sum := "158e38f147d61c2ed2eacf631a099265ec57c39bcba6c20c0e4608b63e72649a", func := "loop.example/g01087/laws.FnExactStackDistances", spec := "fnExactStackDistances", apart := false }
def FnExactStackDistancesSaid : Prop := fnExactStackDistancesRow.holds Try.pinned (OpenSpec.ofChange fnExactStackDistancesSpec)

/-- ITS FALSE NEIGHBOUR: 'it returns false'. Refute it at one input. -/
def fnExactStackDistancesWrong : ChangeSpec := { name := "fnExactStackDistances", fn := fun _ => fun
  | [d1, d2] => { results := [.lit (.bool false)], args := [d1, d2] }
  | _ => none }
def FnExactStackDistancesWrongFalsely : Prop := fnExactStackDistancesRow.holds Try.pinned (OpenSpec.ofChange fnExactStackDistancesWrong)

/-- 'laws.FnExactDistanceCounts': WHATEVER THE INPUT: true; the input reads as it did. -/
def fnExactDistanceCountsSpec : ChangeSpec := { name := "fnExactDistanceCounts", fn := fun _ => fun
  | [d1, d2] => { results := [.lit (.bool true)], args := [d1, d2] }
  | _ => none }
def fnExactDistanceCountsRow : OpenClaim := { program := "ytdjafooabpcbmab", sum := "158e38f147d61c2ed2eacf631a099265ec57c39bcba6c20c0e4608b63e72649a", func := "loop.example/g01087/laws.FnExactDistanceCounts", spec := "fnExactDistanceCounts", apart := false }
def FnExactDistanceCountsSaid : Prop := fnExactDistanceCountsRow.holds Try.pinned (OpenSpec.ofChange fnExactDistanceCountsSpec)

/-- ITS FALSE NEIGHBOUR: 'it returns false'. Refute it at one input. -/
def fnExactDistanceCountsWrong : ChangeSpec := { name := "fnExactDistanceCounts", fn := fun _ => fun
  | [d1, d2] => { results := [.lit (.bool false)], args := [d1, d2] }
  | _ => none }
def FnExactDistanceCountsWrongFalsely : Prop := fnExactDistanceCountsRow.holds Try.pinned (OpenSpec.ofChange fnExactDistanceCountsWrong)

/-- 'laws.FnExactCurveOf': WHATEVER THE INPUT: true; the input reads as it did. -/
def fnExactCurveOfSpec : ChangeSpec := { name := "fnExactCurveOf", fn := fun _ => fun
  | [d1, d2] => { results := [.lit (.bool true)], args := [d1, d2] }
  | _ => none }
def fnExactCurveOfRow : OpenClaim := { program := "ytdjafooabpcbmab", sum := "158e38f147d61c2ed2eacf631a099265ec57c39bcba6c20c0e4608b63e72649a", func := "loop.example/g01087/laws.FnExactCurveOf", spec := "fnExactCurveOf", apart := false }
def FnExactCurveOfSaid : Prop := fnExactCurveOfRow.holds Try.pinned (OpenSpec.ofChange fnExactCurveOfSpec)

/-- ITS FALSE NEIGHBOUR: 'it returns false'. Refute it at one input. -/
def fnExactCurveOfWrong : ChangeSpec := { name := "fnExactCurveOf", fn := fun _ => fun
  | [d1, d2] => { results := [.lit (.bool false)], args := [d1, d2] }
  | _ => none }
def FnExactCurveOfWrongFalsely : Prop := fnExactCurveOfRow.holds Try.pinned (OpenSpec.ofChange fnExactCurveOfWrong)

/-- 'laws.FnExactPhasesOf': WHATEVER THE INPUT: true; the input reads as it did. -/
def fnExactPhasesOfSpec : ChangeSpec := { name := "fnExactPhasesOf", fn := fun _ => fun
  | [d1, d2, d3] => { results := [.lit (.bool true)], args := [d1, d2, d3] }
  | _ => none }
def fnExactPhasesOfRow : OpenClaim := { program := "ytdjafooabpcbmab", sum := "158e38f147d61c2ed2eacf631a099265ec57c39bcba6c20c0e4608b63e72649a", func := "loop.example/g01087/laws.FnExactPhasesOf", spec := "fnExactPhasesOf", apart := false }
def FnExactPhasesOfSaid : Prop := fnExactPhasesOfRow.holds Try.pinned (OpenSpec.ofChange fnExactPhasesOfSpec)

/-- ITS FALSE NEIGHBOUR: 'it returns false'. Refute it at one input. -/
def fnExactPhasesOfWrong : ChangeSpec := { name := "fnExactPhasesOf", fn := fun _ => fun
  | [d1, d2, d3] => { results := [.lit (.bool false)], args := [d1, d2, d3] }
  | _ => none }
def FnExactPhasesOfWrongFalsely : Prop := fnExactPhasesOfRow.holds Try.pinned (OpenSpec.ofChange fnExactPhasesOfWrong)

/-- 'laws.FnRunsAndUses': WHATEVER THE INPUT: true; the input reads as it did. -/
def fnRunsAndUsesSpec : ChangeSpec := { name := "fnRunsAndUses", fn := fun _ => fun
  | [d] => { results := [.lit (.bool true)], args := [d] }
  | _ => none }
def fnRunsAndUsesRow : OpenClaim := { program := "ytdjafooabpcbmab", sum := "158e38f147d61c2ed2eacf631a099265ec57c39bcba6c20c0e4608b63e72649a", func := "loop.example/g01087/laws.FnRunsAndUses", spec := "fnRunsAndUses", apart := false }
def FnRunsAndUsesSaid : Prop := fnRunsAndUsesRow.holds Try.pinned (OpenSpec.ofChange fnRunsAndUsesSpec)

/-- ITS FALSE NEIGHBOUR: 'it returns false'. Refute it at one input. -/
def fnRunsAndUsesWrong : ChangeSpec := { name := "fnRunsAndUses", fn := fun _ => fun
  | [d] => { results := [.lit (.bool false)], args := [d] }
  | _ => none }
def FnRunsAndUsesWrongFalsely : Prop := fnRunsAndUsesRow.holds Try.pinned (OpenSpec.ofChange fnRunsAndUsesWrong)

/-- 'laws.FnRequestParts': WHATEVER THE INPUT: true; the input reads as it did. -/
def fnRequestPartsSpec : ChangeSpec := { name := "fnRequestParts", fn := fun _ => fun
  | [d] => { results := [.lit (.bool true)], args := [d] }
  | _ => none }
def fnRequestPartsRow : OpenClaim := { program := "ytdjafooabpcbmab", sum := "158e38f147d61c2ed2eacf631a099265ec57c39bcba6c20c0e4608b63e72649a", func := "loop.example/g01087/laws.FnRequestParts", spec := "fnRequestParts", apart := false }
def FnRequestPartsSaid : Prop := fnRequestPartsRow.holds Try.pinned (OpenSpec.ofChange fnRequestPartsSpec)

/-- ITS FALSE NEIGHBOUR: 'it returns false'. Refute it at one input. -/
def fnRequestPartsWrong : ChangeSpec := { name := "fnRequestParts", fn := fun _ => fun
  | [d] => { results := [.lit (.bool false)], args := [d] }
  | _ => none }
def FnRequestPartsWrongFalsely : Prop := fnRequestPartsRow.holds Try.pinned (OpenSpec.ofChange fnRequestPartsWrong)

/- THE SECOND FORM. 'bulk': how many values and letters a reading holds, each counted each time it is reached (what is shared counts as often as it is met; a slice's spare places count too). A statement '..UptoSaid' is the law's where the arguments, and the package variables that the reading takes, are together of bulk at most 1048576: NARROWER than '..Said'. Prove '..Said' where nothing that the law and all that it calls make is longer than what came in: it says more and counts as full. Else prove '..UptoSaid'. A law counts once. -/
mutual
def uptoBulk {H : Type} : DataW H → Nat
  | .lit (.string bytes) => bytes.length + 1
  | .lit _ => 1
  | .nil => 1
  | .ptr d => uptoBulk d + 1
  | .slice elems spare => uptoBulkAll elems + uptoBulkAll spare + 1
  | .agg parts => uptoBulkAll parts + 1
  | .iface _ d => uptoBulk d + 1
  | .map entries => uptoBulkEntries entries + 1
  | .held _ => 1
def uptoBulkAll {H : Type} : List (DataW H) → Nat
  | [] => 0
  | d :: r => uptoBulk d + uptoBulkAll r
def uptoBulkEntries {H : Type} : List (Lit × DataW H) → Nat
  | [] => 0
  | x :: r => uptoBulkEntry x + uptoBulkEntries r
def uptoBulkEntry {H : Type} : Lit × DataW H → Nat
  | (.string bytes, d) => bytes.length + uptoBulk d + 1
  | (_, d) => uptoBulk d + 1
 end
def uptoSmall : (H : Type) → List (DataW H) → Bool := fun _ ds => decide (uptoBulkAll ds ≤ 1048576)
def OpenSpec.upto (s : _root_.Go.ChangeSpec) : _root_.Go.OpenSpec := { _root_.Go.OpenSpec.ofChange s with cond := some uptoSmall }

/-- 'laws.FnExactIsCache', WHERE WHAT IT READS IS OF BULK AT MOST 1048576: true; the input reads as it did. -/
def fnExactIsCacheUptoRow : OpenClaim := { program := "ytdjafooabpcbmab", sum := "158e38f147d61c2ed2eacf631a099265ec57c39bcba6c20c0e4608b63e72649a", func := "loop.example/g01087/laws.FnExactIsCache", spec := "fnExactIsCache", apart := false, narrowed := true }
def FnExactIsCacheUptoSaid : Prop := fnExactIsCacheUptoRow.holds Try.pinned (OpenSpec.upto fnExactIsCacheSpec)

/-- 'laws.FnExactNewCache', WHERE WHAT IT READS IS OF BULK AT MOST 1048576: true; the input reads as it did. -/
def fnExactNewCacheUptoRow : OpenClaim := { program := "ytdjafooabpcbmab", sum := "158e38f147d61c2ed2eacf631a099265ec57c39bcba6c20c0e4608b63e72649a", func := "loop.example/g01087/laws.FnExactNewCache", spec := "fnExactNewCache", apart := false, narrowed := true }
def FnExactNewCacheUptoSaid : Prop := fnExactNewCacheUptoRow.holds Try.pinned (OpenSpec.upto fnExactNewCacheSpec)

/-- 'laws.FnExactIsHit', WHERE WHAT IT READS IS OF BULK AT MOST 1048576: true; the input reads as it did. -/
def fnExactIsHitUptoRow : OpenClaim := { program := "ytdjafooabpcbmab", sum := "158e38f147d61c2ed2eacf631a099265ec57c39bcba6c20c0e4608b63e72649a", func := "loop.example/g01087/laws.FnExactIsHit", spec := "fnExactIsHit", apart := false, narrowed := true }
def FnExactIsHitUptoSaid : Prop := fnExactIsHitUptoRow.holds Try.pinned (OpenSpec.upto fnExactIsHitSpec)

/-- 'laws.FnExactLastOrder', WHERE WHAT IT READS IS OF BULK AT MOST 1048576: true; the input reads as it did. -/
def fnExactLastOrderUptoRow : OpenClaim := { program := "ytdjafooabpcbmab", sum := "158e38f147d61c2ed2eacf631a099265ec57c39bcba6c20c0e4608b63e72649a", func := "loop.example/g01087/laws.FnExactLastOrder", spec := "fnExactLastOrder", unfollowed := true, recurses := true, apart := false, narrowed := true }
def FnExactLastOrderUptoSaid : Prop := fnExactLastOrderUptoRow.holds Try.pinned (OpenSpec.upto fnExactLastOrderSpec)

/-- 'laws.FnExactStackDistances', WHERE WHAT IT READS IS OF BULK AT MOST 1048576: true; the input reads as it did. -/
def fnExactStackDistancesUptoRow : OpenClaim := { program := "ytdjafooabpcbmab", sum := "158e38f147d61c2ed2eacf631a099265ec57c39bcba6c20c0e4608b63e72649a", func := "loop.example/g01087/laws.FnExactStackDistances", spec := "fnExactStackDistances", apart := false, narrowed := true }
def FnExactStackDistancesUptoSaid : Prop := fnExactStackDistancesUptoRow.holds Try.pinned (OpenSpec.upto fnExactStackDistancesSpec)

/-- 'laws.FnExactDistanceCounts', WHERE WHAT IT READS IS OF BULK AT MOST 1048576: true; the input reads as it did. -/
def fnExactDistanceCountsUptoRow : OpenClaim := { program := "ytdjafooabpcbmab", sum := "158e38f147d61c2ed2eacf631a099265ec57c39bcba6c20c0e4608b63e72649a", func := "loop.example/g01087/laws.FnExactDistanceCounts", spec := "fnExactDistanceCounts", apart := false, narrowed := true }
def FnExactDistanceCountsUptoSaid : Prop := fnExactDistanceCountsUptoRow.holds Try.pinned (OpenSpec.upto fnExactDistanceCountsSpec)

/-- 'laws.FnExactCurveOf', WHERE WHAT IT READS IS OF BULK AT MOST 1048576: true; the input reads as it did. -/
def fnExactCurveOfUptoRow : OpenClaim := { program := "ytdjafooabpcbmab", sum := "158e38f147d61c2ed2eacf631a099265ec57c39bcba6c20c0e4608b63e72649a", func := "loop.example/g01087/laws.FnExactCurveOf", spec := "fnExactCurveOf", apart := false, narrowed := true }
def FnExactCurveOfUptoSaid : Prop := fnExactCurveOfUptoRow.holds Try.pinned (OpenSpec.upto fnExactCurveOfSpec)

/-- 'laws.FnExactPhasesOf', WHERE WHAT IT READS IS OF BULK AT MOST 1048576: true; the input reads as it did. -/
def fnExactPhasesOfUptoRow : OpenClaim := { program := "ytdjafooabpcbmab", sum := "158e38f147d61c2ed2eacf631a099265ec57c39bcba6c20c0e4608b63e72649a", func := "loop.example/g01087/laws.FnExactPhasesOf", spec := "fnExactPhasesOf", apart := false, narrowed := true }
def FnExactPhasesOfUptoSaid : Prop := fnExactPhasesOfUptoRow.holds Try.pinned (OpenSpec.upto fnExactPhasesOfSpec)

/-- 'laws.FnRunsAndUses', WHERE WHAT IT READS IS OF BULK AT MOST 1048576: true; the input reads as it did. -/
def fnRunsAndUsesUptoRow : OpenClaim := { program := "ytdjafooabpcbmab", sum := "158e38f147d61c2ed2eacf631a099265ec57c39bcba6c20c0e4608b63e72649a", func := "loop.example/g01087/laws.FnRunsAndUses", spec := "fnRunsAndUses", apart := false, narrowed := true }
def FnRunsAndUsesUptoSaid : Prop := fnRunsAndUsesUptoRow.holds Try.pinned (OpenSpec.upto fnRunsAndUsesSpec)

/-- 'laws.FnRequestParts', WHERE WHAT IT READS IS OF BULK AT MOST 1048576: true; the input reads as it did. -/
def fnRequestPartsUptoRow : OpenClaim := { program := "ytdjafooabpcbmab", sum := "158e38f147d61c2ed2eacf631a099265ec57c39bcba6c20c0e4608b63e72649a", func := "loop.example/g01087/laws.FnRequestParts", spec := "fnRequestParts", apart := false, narrowed := true }
def FnRequestPartsUptoSaid : Prop := fnRequestPartsUptoRow.holds Try.pinned (OpenSpec.upto fnRequestPartsSpec)

end Rows
end Go.Proofs.Ytdjafooabpcbmab
