/-
  No cell of these rows narrows 'for every input' (looked for: loops, veiled, ifaces, maps, wideKeys, modest, calm, conditions, laid).
  DERIVED. THE GIVEN ROWS OF THIS SEAT. 12 by the template 'for every input the law returns true; each argument reads behind the call as it read before'; 0 by the template 'total and deterministic' (their statements: YtphfjhnmnehfkaaTotals.lean).
  GIVEN WITH THE SEED: the statements are not yours to turn. If you find one false, say at which input.
  Laid BY PROGRAM, IN A SANDBOX (cutbox-rows.mjs): the forced cells as the released guide's own fill.sh prints them over the translation c0a73d9d341efa5e… (all of the seat's roots in one cut). By AI agents, Wed Nov 11 2026. No macro, syntax, notation, axiom, sorry.
-/
import Derived.Test.YtphfjhnmnehfkaaChecked
import GoSem.Claim
import GoSem.ClaimJoined
import GoSem.ClaimMapViews
import Derived.JoinedTies
import Derived.KernelRfl
namespace Go.Proofs.Ytphfjhnmnehfkaa
/- THE CELL 'sum', in the pinned program and in every row, IS THE sha256 OF THE DUMP (.gsa) THAT YtphfjhnmnehfkaaProg.lean LOADS. Nothing in Lean hashes anything: it is a label: what it is worth is what the hold of that sum in a sandbox is worth. -/
noncomputable def Try.pinned : Pinned := { name := "ytphfjhnmnehfkaa", sum := "c0a73d9d341efa5e262dba713d2c3517d0eba9fff86537c7b06fbb5f4ba9e8c4", checked := Try.checked }
namespace Rows
def none {H : Type} : Left H := { results := [], args := [] }

/-- 'laws.FnExactIsWork': WHATEVER THE INPUT: true; the input reads as it did. -/
def fnExactIsWorkSpec : ChangeSpec := { name := "fnExactIsWork", fn := fun _ => fun
  | [d1, d2, d3] => { results := [.lit (.bool true)], args := [d1, d2, d3] }
  | _ => none }
def fnExactIsWorkRow : OpenClaim := { program := "ytphfjhnmnehfkaa", sum := "c0a73d9d341efa5e262dba713d2c3517d0eba9fff86537c7b06fbb5f4ba9e8c4", func := "loop.example/g01087/laws.FnExactIsWork", spec := "fnExactIsWork", unfollowed := true, recurses := true, plainKeys := false, apart := false }
def FnExactIsWorkSaid : Prop := fnExactIsWorkRow.holds Try.pinned (OpenSpec.ofChange fnExactIsWorkSpec)

/-- ITS FALSE NEIGHBOUR: 'it returns false'. Refute it at one input. -/
def fnExactIsWorkWrong : ChangeSpec := { name := "fnExactIsWork", fn := fun _ => fun
  | [d1, d2, d3] => { results := [.lit (.bool false)], args := [d1, d2, d3] }
  | _ => none }
def FnExactIsWorkWrongFalsely : Prop := fnExactIsWorkRow.holds Try.pinned (OpenSpec.ofChange fnExactIsWorkWrong)

/-- 'laws.FnExactStartWork': WHATEVER THE INPUT: true; the input reads as it did. -/
def fnExactStartWorkSpec : ChangeSpec := { name := "fnExactStartWork", fn := fun _ => fun
  | [d1, d2] => { results := [.lit (.bool true)], args := [d1, d2] }
  | _ => none }
def fnExactStartWorkRow : OpenClaim := { program := "ytphfjhnmnehfkaa", sum := "c0a73d9d341efa5e262dba713d2c3517d0eba9fff86537c7b06fbb5f4ba9e8c4", func := "loop.example/g01087/laws.FnExactStartWork", spec := "fnExactStartWork", unfollowed := true, recurses := true, plainKeys := false, apart := false }
def FnExactStartWorkSaid : Prop := fnExactStartWorkRow.holds Try.pinned (OpenSpec.ofChange fnExactStartWorkSpec)

/-- ITS FALSE NEIGHBOUR: 'it returns false'. Refute it at one input. -/
def fnExactStartWorkWrong : ChangeSpec := { name := "fnExactStartWork", fn := fun _ => fun
  | [d1, d2] => { results := [.lit (.bool false)], args := [d1, d2] }
  | _ => none }
def FnExactStartWorkWrongFalsely : Prop := fnExactStartWorkRow.holds Try.pinned (OpenSpec.ofChange fnExactStartWorkWrong)

/-- 'laws.FnExactStepWork': WHATEVER THE INPUT: true; the input reads as it did. -/
def fnExactStepWorkSpec : ChangeSpec := { name := "fnExactStepWork", fn := fun _ => fun
  | [d1, d2, d3, d4] => { results := [.lit (.bool true)], args := [d1, d2, d3, d4] }
  | _ => none }
def fnExactStepWorkRow : OpenClaim := { program := "ytphfjhnmnehfkaa", sum := "c0a73d9d341efa5e262dba713d2c3517d0eba9fff86537c7b06fbb5f4ba9e8c4", func := "loop.example/g01087/laws.FnExactStepWork", spec := "fnExactStepWork", unfollowed := true, recurses := true, plainKeys := false, apart := false }
def FnExactStepWorkSaid : Prop := fnExactStepWorkRow.holds Try.pinned (OpenSpec.ofChange fnExactStepWorkSpec)

/-- ITS FALSE NEIGHBOUR: 'it returns false'. Refute it at one input. -/
def fnExactStepWorkWrong : ChangeSpec := { name := "fnExactStepWork", fn := fun _ => fun
  | [d1, d2, d3, d4] => { results := [.lit (.bool false)], args := [d1, d2, d3, d4] }
  | _ => none }
def FnExactStepWorkWrongFalsely : Prop := fnExactStepWorkRow.holds Try.pinned (OpenSpec.ofChange fnExactStepWorkWrong)

/-- 'laws.FnExactWorkOf': WHATEVER THE INPUT: true; the input reads as it did. -/
def fnExactWorkOfSpec : ChangeSpec := { name := "fnExactWorkOf", fn := fun _ => fun
  | [d1, d2, d3, d4] => { results := [.lit (.bool true)], args := [d1, d2, d3, d4] }
  | _ => none }
def fnExactWorkOfRow : OpenClaim := { program := "ytphfjhnmnehfkaa", sum := "c0a73d9d341efa5e262dba713d2c3517d0eba9fff86537c7b06fbb5f4ba9e8c4", func := "loop.example/g01087/laws.FnExactWorkOf", spec := "fnExactWorkOf", unfollowed := true, recurses := true, plainKeys := false, apart := false }
def FnExactWorkOfSaid : Prop := fnExactWorkOfRow.holds Try.pinned (OpenSpec.ofChange fnExactWorkOfSpec)

/-- ITS FALSE NEIGHBOUR: 'it returns false'. Refute it at one input. -/
def fnExactWorkOfWrong : ChangeSpec := { name := "fnExactWorkOf", fn := fun _ => fun
  | [d1, d2, d3, d4] => { results := [.lit (.bool false)], args := [d1, d2, d3, d4] }
  | _ => none }
def FnExactWorkOfWrongFalsely : Prop := fnExactWorkOfRow.holds Try.pinned (OpenSpec.ofChange fnExactWorkOfWrong)

/-- 'laws.FnExactLeastWork': WHATEVER THE INPUT: true; the input reads as it did. -/
def fnExactLeastWorkSpec : ChangeSpec := { name := "fnExactLeastWork", fn := fun _ => fun
  | [d1, d2, d3] => { results := [.lit (.bool true)], args := [d1, d2, d3] }
  | _ => none }
def fnExactLeastWorkRow : OpenClaim := { program := "ytphfjhnmnehfkaa", sum := "c0a73d9d341efa5e262dba713d2c3517d0eba9fff86537c7b06fbb5f4ba9e8c4", func := "loop.example/g01087/laws.FnExactLeastWork", spec := "fnExactLeastWork", unfollowed := true, recurses := true, plainKeys := false, apart := false }
def FnExactLeastWorkSaid : Prop := fnExactLeastWorkRow.holds Try.pinned (OpenSpec.ofChange fnExactLeastWorkSpec)

/-- ITS FALSE NEIGHBOUR: 'it returns false'. Refute it at one input. -/
def fnExactLeastWorkWrong : ChangeSpec := { name := "fnExactLeastWork", fn := fun _ => fun
  | [d1, d2, d3] => { results := [.lit (.bool false)], args := [d1, d2, d3] }
  | _ => none }
def FnExactLeastWorkWrongFalsely : Prop := fnExactLeastWorkRow.holds Try.pinned (OpenSpec.ofChange fnExactLeastWorkWrong)

/-- 'laws.FnExactWorkLists': WHATEVER THE INPUT: true; the input reads as it did. -/
def fnExactWorkListsSpec : ChangeSpec := { name := "fnExactWorkLists", fn := fun _ => fun
  | [d1, d2, d3] => { results := [.lit (.bool true)], args := [d1, d2, d3] }
  | _ => none }
def fnExactWorkListsRow : OpenClaim := { program := "ytphfjhnmnehfkaa", sum := "c0a73d9d341efa5e262dba713d2c3517d0eba9fff86537c7b06fbb5f4ba9e8c4", func := "loop.example/g01087/laws.FnExactWorkLists", spec := "fnExactWorkLists", unfollowed := true, recurses := true, plainKeys := false, apart := false }
def FnExactWorkListsSaid : Prop := fnExactWorkListsRow.holds Try.pinned (OpenSpec.ofChange fnExactWorkListsSpec)

/-- ITS FALSE NEIGHBOUR: 'it returns false'. Refute it at one input. -/
def fnExactWorkListsWrong : ChangeSpec := { name := "fnExactWorkLists", fn := fun _ => fun
  | [d1, d2, d3] => { results := [.lit (.bool false)], args := [d1, d2, d3] }
  | _ => none }
def FnExactWorkListsWrongFalsely : Prop := fnExactWorkListsRow.holds Try.pinned (OpenSpec.ofChange fnExactWorkListsWrong)

/-- 'laws.FnExactChainCost': WHATEVER THE INPUT: true; the input reads as it did. -/
def fnExactChainCostSpec : ChangeSpec := { name := "fnExactChainCost", fn := fun _ => fun
  | [d1, d2, d3, d4] => { results := [.lit (.bool true)], args := [d1, d2, d3, d4] }
  | _ => none }
def fnExactChainCostRow : OpenClaim := { program := "ytphfjhnmnehfkaa", sum := "c0a73d9d341efa5e262dba713d2c3517d0eba9fff86537c7b06fbb5f4ba9e8c4", func := "loop.example/g01087/laws.FnExactChainCost", spec := "fnExactChainCost", unfollowed := true, recurses := true, plainKeys := false, apart := false }
def FnExactChainCostSaid : Prop := fnExactChainCostRow.holds Try.pinned (OpenSpec.ofChange fnExactChainCostSpec)

/-- ITS FALSE NEIGHBOUR: 'it returns false'. Refute it at one input. -/
def fnExactChainCostWrong : ChangeSpec := { name := "fnExactChainCost", fn := fun _ => fun
  | [d1, d2, d3, d4] => { results := [.lit (.bool false)], args := [d1, d2, d3, d4] }
  | _ => none }
def FnExactChainCostWrongFalsely : Prop := fnExactChainCostRow.holds Try.pinned (OpenSpec.ofChange fnExactChainCostWrong)

/-- 'laws.FnExactPriceBound': WHATEVER THE INPUT: true; the input reads as it did. -/
def fnExactPriceBoundSpec : ChangeSpec := { name := "fnExactPriceBound", fn := fun _ => fun
  | [d1, d2, d3, d4] => { results := [.lit (.bool true)], args := [d1, d2, d3, d4] }
  | _ => none }
def fnExactPriceBoundRow : OpenClaim := { program := "ytphfjhnmnehfkaa", sum := "c0a73d9d341efa5e262dba713d2c3517d0eba9fff86537c7b06fbb5f4ba9e8c4", func := "loop.example/g01087/laws.FnExactPriceBound", spec := "fnExactPriceBound", unfollowed := true, recurses := true, plainKeys := false, apart := false }
def FnExactPriceBoundSaid : Prop := fnExactPriceBoundRow.holds Try.pinned (OpenSpec.ofChange fnExactPriceBoundSpec)

/-- ITS FALSE NEIGHBOUR: 'it returns false'. Refute it at one input. -/
def fnExactPriceBoundWrong : ChangeSpec := { name := "fnExactPriceBound", fn := fun _ => fun
  | [d1, d2, d3, d4] => { results := [.lit (.bool false)], args := [d1, d2, d3, d4] }
  | _ => none }
def FnExactPriceBoundWrongFalsely : Prop := fnExactPriceBoundRow.holds Try.pinned (OpenSpec.ofChange fnExactPriceBoundWrong)

/-- 'laws.FnExactMoveCost': WHATEVER THE INPUT: true; the input reads as it did. -/
def fnExactMoveCostSpec : ChangeSpec := { name := "fnExactMoveCost", fn := fun _ => fun
  | [d1, d2, d3] => { results := [.lit (.bool true)], args := [d1, d2, d3] }
  | _ => none }
def fnExactMoveCostRow : OpenClaim := { program := "ytphfjhnmnehfkaa", sum := "c0a73d9d341efa5e262dba713d2c3517d0eba9fff86537c7b06fbb5f4ba9e8c4", func := "loop.example/g01087/laws.FnExactMoveCost", spec := "fnExactMoveCost", unfollowed := true, recurses := true, plainKeys := false, apart := false }
def FnExactMoveCostSaid : Prop := fnExactMoveCostRow.holds Try.pinned (OpenSpec.ofChange fnExactMoveCostSpec)

/-- ITS FALSE NEIGHBOUR: 'it returns false'. Refute it at one input. -/
def fnExactMoveCostWrong : ChangeSpec := { name := "fnExactMoveCost", fn := fun _ => fun
  | [d1, d2, d3] => { results := [.lit (.bool false)], args := [d1, d2, d3] }
  | _ => none }
def FnExactMoveCostWrongFalsely : Prop := fnExactMoveCostRow.holds Try.pinned (OpenSpec.ofChange fnExactMoveCostWrong)

/-- 'laws.FnExactMatchConfigs': WHATEVER THE INPUT: true; the input reads as it did. -/
def fnExactMatchConfigsSpec : ChangeSpec := { name := "fnExactMatchConfigs", fn := fun _ => fun
  | [d1, d2, d3] => { results := [.lit (.bool true)], args := [d1, d2, d3] }
  | _ => none }
def fnExactMatchConfigsRow : OpenClaim := { program := "ytphfjhnmnehfkaa", sum := "c0a73d9d341efa5e262dba713d2c3517d0eba9fff86537c7b06fbb5f4ba9e8c4", func := "loop.example/g01087/laws.FnExactMatchConfigs", spec := "fnExactMatchConfigs", unfollowed := true, recurses := true, plainKeys := false, apart := false }
def FnExactMatchConfigsSaid : Prop := fnExactMatchConfigsRow.holds Try.pinned (OpenSpec.ofChange fnExactMatchConfigsSpec)

/-- ITS FALSE NEIGHBOUR: 'it returns false'. Refute it at one input. -/
def fnExactMatchConfigsWrong : ChangeSpec := { name := "fnExactMatchConfigs", fn := fun _ => fun
  | [d1, d2, d3] => { results := [.lit (.bool false)], args := [d1, d2, d3] }
  | _ => none }
def FnExactMatchConfigsWrongFalsely : Prop := fnExactMatchConfigsRow.holds Try.pinned (OpenSpec.ofChange fnExactMatchConfigsWrong)

/-- 'laws.FnExactScheduleMoves': WHATEVER THE INPUT: true; the input reads as it did. -/
def fnExactScheduleMovesSpec : ChangeSpec := { name := "fnExactScheduleMoves", fn := fun _ => fun
  | [d1, d2, d3, d4] => { results := [.lit (.bool true)], args := [d1, d2, d3, d4] }
  | _ => none }
def fnExactScheduleMovesRow : OpenClaim := { program := "ytphfjhnmnehfkaa", sum := "c0a73d9d341efa5e262dba713d2c3517d0eba9fff86537c7b06fbb5f4ba9e8c4", func := "loop.example/g01087/laws.FnExactScheduleMoves", spec := "fnExactScheduleMoves", unfollowed := true, recurses := true, plainKeys := false, apart := false }
def FnExactScheduleMovesSaid : Prop := fnExactScheduleMovesRow.holds Try.pinned (OpenSpec.ofChange fnExactScheduleMovesSpec)

/-- ITS FALSE NEIGHBOUR: 'it returns false'. Refute it at one input. -/
def fnExactScheduleMovesWrong : ChangeSpec := { name := "fnExactScheduleMoves", fn := fun _ => fun
  | [d1, d2, d3, d4] => { results := [.lit (.bool false)], args := [d1, d2, d3, d4] }
  | _ => none }
def FnExactScheduleMovesWrongFalsely : Prop := fnExactScheduleMovesRow.holds Try.pinned (OpenSpec.ofChange fnExactScheduleMovesWrong)

/-- 'laws.FnExactGreedyServers': WHATEVER THE INPUT: true; the input reads as it did. -/
def fnExactGreedyServersSpec : ChangeSpec := { name := "fnExactGreedyServers", fn := fun _ => fun
  | [d1, d2, d3] => { results := [.lit (.bool true)], args := [d1, d2, d3] }
  | _ => none }
def fnExactGreedyServersRow : OpenClaim := { program := "ytphfjhnmnehfkaa", sum := "c0a73d9d341efa5e262dba713d2c3517d0eba9fff86537c7b06fbb5f4ba9e8c4", func := "loop.example/g01087/laws.FnExactGreedyServers", spec := "fnExactGreedyServers", unfollowed := true, recurses := true, plainKeys := false, apart := false }
def FnExactGreedyServersSaid : Prop := fnExactGreedyServersRow.holds Try.pinned (OpenSpec.ofChange fnExactGreedyServersSpec)

/-- ITS FALSE NEIGHBOUR: 'it returns false'. Refute it at one input. -/
def fnExactGreedyServersWrong : ChangeSpec := { name := "fnExactGreedyServers", fn := fun _ => fun
  | [d1, d2, d3] => { results := [.lit (.bool false)], args := [d1, d2, d3] }
  | _ => none }
def FnExactGreedyServersWrongFalsely : Prop := fnExactGreedyServersRow.holds Try.pinned (OpenSpec.ofChange fnExactGreedyServersWrong)

/- THE SECOND FORM. 'bulk': how many values and letters a reading holds, each counted each time it is reached (what is shared counts as often as it is met; a slice's spare places count too). A statement '..UptoSaid' is the law's where the arguments, and the package variables that the reading takes, are together of bulk at most 1048576: NARROWER than '..Said'. Prove '..Said' where nothing that the law and all that it calls make is longer than what came in: it says more and counts as full. Else prove '..UptoSaid'. A law counts once. -/
mutual
def uptoBulk {H : Type} : DataW H → Nat
  | .lit (.string bytes) => bytes.length + 1
  | .lit _ => 1
  | .nil => 1
  | .ptr d => uptoBulk d + 1
  | .slice elems spare => uptoBulkAll elems + uptoBulkAll spare + 1
  | .agg parts => uptoBulkAll parts + 1
  | .iface _ d => uptoBulk d + 1
  | .map entries => uptoBulkEntries entries + 1
  | .held _ => 1
def uptoBulkAll {H : Type} : List (DataW H) → Nat
  | [] => 0
  | d :: r => uptoBulk d + uptoBulkAll r
def uptoBulkEntries {H : Type} : List (Lit × DataW H) → Nat
  | [] => 0
  | x :: r => uptoBulkEntry x + uptoBulkEntries r
def uptoBulkEntry {H : Type} : Lit × DataW H → Nat
  | (.string bytes, d) => bytes.length + uptoBulk d + 1
  | (_, d) => uptoBulk d + 1
 end
def uptoSmall : (H : Type) → List (DataW H) → Bool := fun _ ds => decide (uptoBulkAll ds ≤ 1048576)
def OpenSpec.upto (s : _root_.Go.ChangeSpec) : _root_.Go.OpenSpec := { _root_.Go.OpenSpec.ofChange s with cond := some uptoSmall }

/-- 'laws.FnExactIsWork', WHERE WHAT IT READS IS OF BULK AT MOST 1048576: true; the input reads as it did. -/
def fnExactIsWorkUptoRow : OpenClaim := { program := "ytphfjhnmnehfkaa", sum := "c0a73d9d341efa5e262dba713d2c3517d0eba9fff86537c7b06fbb5f4ba9e8c4", func := "loop.example/g01087/laws.FnExactIsWork", spec := "fnExactIsWork", unfollowed := true, recurses := true, plainKeys := false, apart := false, narrowed := true }
def FnExactIsWorkUptoSaid : Prop := fnExactIsWorkUptoRow.holds Try.pinned (OpenSpec.upto fnExactIsWorkSpec)

/-- 'laws.FnExactStartWork', WHERE WHAT IT READS IS OF BULK AT MOST 1048576: true; the input reads as it did. -/
def fnExactStartWorkUptoRow : OpenClaim := { program := "ytphfjhnmnehfkaa", sum := "c0a73d9d341efa5e262dba713d2c3517d0eba9fff86537c7b06fbb5f4ba9e8c4", func := "loop.example/g01087/laws.FnExactStartWork", spec := "fnExactStartWork", unfollowed := true, recurses := true, plainKeys := false, apart := false, narrowed := true }
def FnExactStartWorkUptoSaid : Prop := fnExactStartWorkUptoRow.holds Try.pinned (OpenSpec.upto fnExactStartWorkSpec)

/-- 'laws.FnExactStepWork', WHERE WHAT IT READS IS OF BULK AT MOST 1048576: true; the input reads as it did. -/
def fnExactStepWorkUptoRow : OpenClaim := { program := "ytphfjhnmnehfkaa", sum := "c0a73d9d341efa5e262dba713d2c3517d0eba9fff86537c7b06fbb5f4ba9e8c4", func := "loop.example/g01087/laws.FnExactStepWork", spec := "fnExactStepWork", unfollowed := true, recurses := true, plainKeys := false, apart := false, narrowed := true }
def FnExactStepWorkUptoSaid : Prop := fnExactStepWorkUptoRow.holds Try.pinned (OpenSpec.upto fnExactStepWorkSpec)

/-- 'laws.FnExactWorkOf', WHERE WHAT IT READS IS OF BULK AT MOST 1048576: true; the input reads as it did. -/
def fnExactWorkOfUptoRow : OpenClaim := { program := "ytphfjhnmnehfkaa", sum := "c0a73d9d341efa5e262dba713d2c3517d0eba9fff86537c7b06fbb5f4ba9e8c4", func := "loop.example/g01087/laws.FnExactWorkOf", spec := "fnExactWorkOf", unfollowed := true, recurses := true, plainKeys := false, apart := false, narrowed := true }
def FnExactWorkOfUptoSaid : Prop := fnExactWorkOfUptoRow.holds Try.pinned (OpenSpec.upto fnExactWorkOfSpec)

/-- 'laws.FnExactLeastWork', WHERE WHAT IT READS IS OF BULK AT MOST 1048576: true; the input reads as it did. -/
def fnExactLeastWorkUptoRow : OpenClaim := { program := "ytphfjhnmnehfkaa", sum := "c0a73d9d341efa5e262dba713d2c3517d0eba9fff86537c7b06fbb5f4ba9e8c4", func := "loop.example/g01087/laws.FnExactLeastWork", spec := "fnExactLeastWork", unfollowed := true, recurses := true, plainKeys := false, apart := false, narrowed := true }
def FnExactLeastWorkUptoSaid : Prop := fnExactLeastWorkUptoRow.holds Try.pinned (OpenSpec.upto fnExactLeastWorkSpec)

/-- 'laws.FnExactWorkLists', WHERE WHAT IT READS IS OF BULK AT MOST 1048576: true; the input reads as it did. -/
def fnExactWorkListsUptoRow : OpenClaim := { program := "ytphfjhnmnehfkaa", sum := "c0a73d9d341efa5e262dba713d2c3517d0eba9fff86537c7b06fbb5f4ba9e8c4", func := "loop.example/g01087/laws.FnExactWorkLists", spec := "fnExactWorkLists", unfollowed := true, recurses := true, plainKeys := false, apart := false, narrowed := true }
def FnExactWorkListsUptoSaid : Prop := fnExactWorkListsUptoRow.holds Try.pinned (OpenSpec.upto fnExactWorkListsSpec)

/-- 'laws.FnExactChainCost', WHERE WHAT IT READS IS OF BULK AT MOST 1048576: true; the input reads as it did. -/
def fnExactChainCostUptoRow : OpenClaim := { program := "ytphfjhnmnehfkaa", sum := "c0a73d9d341efa5e262dba713d2c3517d0eba9fff86537c7b06fbb5f4ba9e8c4", func := "loop.example/g01087/laws.FnExactChainCost", spec := "fnExactChainCost", unfollowed := true, recurses := true, plainKeys := false, apart := false, narrowed := true }
def FnExactChainCostUptoSaid : Prop := fnExactChainCostUptoRow.holds Try.pinned (OpenSpec.upto fnExactChainCostSpec)

/-- 'laws.FnExactPriceBound', WHERE WHAT IT READS IS OF BULK AT MOST 1048576: true; the input reads as it did. -/
def fnExactPriceBoundUptoRow : OpenClaim := { program := "ytphfjhnmnehfkaa", sum := "c0a73d9d341efa5e262dba713d2c3517d0eba9fff86537c7b06fbb5f4ba9e8c4", func := "loop.example/g01087/laws.FnExactPriceBound", spec := "fnExactPriceBound", unfollowed := true, recurses := true, plainKeys := false, apart := false, narrowed := true }
def FnExactPriceBoundUptoSaid : Prop := fnExactPriceBoundUptoRow.holds Try.pinned (OpenSpec.upto fnExactPriceBoundSpec)

/-- 'laws.FnExactMoveCost', WHERE WHAT IT READS IS OF BULK AT MOST 1048576: true; the input reads as it did. -/
def fnExactMoveCostUptoRow : OpenClaim := { program := "ytphfjhnmnehfkaa", sum := "c0a73d9d341efa5e262dba713d2c3517d0eba9fff86537c7b06fbb5f4ba9e8c4", func := "loop.example/g01087/laws.FnExactMoveCost", spec := "fnExactMoveCost", unfollowed := true, recurses := true, plainKeys := false, apart := false, narrowed := true }
def FnExactMoveCostUptoSaid : Prop := fnExactMoveCostUptoRow.holds Try.pinned (OpenSpec.upto fnExactMoveCostSpec)

/-- 'laws.FnExactMatchConfigs', WHERE WHAT IT READS IS OF BULK AT MOST 1048576: true; the input reads as it did. -/
def fnExactMatchConfigsUptoRow : OpenClaim := { program := "ytphfjhnmnehfkaa", sum := "c0a73d9d341efa5e262dba713d2c3517d0eba9fff86537c7b06fbb5f4ba9e8c4", func := "loop.example/g01087/laws.FnExactMatchConfigs", spec := "fnExactMatchConfigs", unfollowed := true, recurses := true, plainKeys := false, apart := false, narrowed := true }
def FnExactMatchConfigsUptoSaid : Prop := fnExactMatchConfigsUptoRow.holds Try.pinned (OpenSpec.upto fnExactMatchConfigsSpec)

/-- 'laws.FnExactScheduleMoves', WHERE WHAT IT READS IS OF BULK AT MOST 1048576: true; the input reads as it did. -/
def fnExactScheduleMovesUptoRow : OpenClaim := { program := "ytphfjhnmnehfkaa", sum := "c0a73d9d341efa5e262dba713d2c3517d0eba9fff86537c7b06fbb5f4ba9e8c4", func := "loop.example/g01087/laws.FnExactScheduleMoves", spec := "fnExactScheduleMoves", unfollowed := true, recurses := true, plainKeys := false, apart := false, narrowed := true }
def FnExactScheduleMovesUptoSaid : Prop := fnExactScheduleMovesUptoRow.holds Try.pinned (OpenSpec.upto fnExactScheduleMovesSpec)

/-- 'laws.FnExactGreedyServers', WHERE WHAT IT READS IS OF BULK AT MOST 1048576: true; the input reads as it did. -/
def fnExactGreedyServersUptoRow : OpenClaim := { program := "ytphfjhnmnehfkaa", sum := "c0a73d9d341efa5e262dba713d2c3517d0eba9fff86537c7b06fbb5f4ba9e8c4", func := "loop.example/g01087/laws.FnExactGreedyServers", spec := "fnExactGreedyServers", unfollowed := true, recurses := true, plainKeys := false, apart := false, narrowed := true }
def FnExactGreedyServersUptoSaid : Prop := fnExactGreedyServersUptoRow.holds Try.pinned (OpenSpec.upto fnExactGreedyServersSpec)

end Rows
end Go.Proofs.Ytphfjhnmnehfkaa
