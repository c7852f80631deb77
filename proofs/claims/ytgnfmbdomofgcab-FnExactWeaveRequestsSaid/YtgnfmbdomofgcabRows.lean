/-
  No cell of these rows narrows 'for every input' (looked for: loops, veiled, ifaces, maps, wideKeys, modest, calm, conditions, laid).
  DERIVED. THE GIVEN ROWS OF THIS SEAT. 7 by the template 'for every input the law returns true; each argument reads behind the call as it read before'; 0 by the template 'total and deterministic' (their statements: YtgnfmbdomofgcabTotals.lean).
  GIVEN WITH THE SEED: the statements are not yours to turn. If you find one false, say at which input.
  Laid BY PROGRAM, IN A SANDBOX (cutbox-rows.mjs): the forced cells as the released guide's own fill.sh prints them over the translation 90ee671e9b53b00f… (all of the seat's roots in one cut). By AI agents, Wed Nov 11 2026. No macro, syntax, notation, axiom, sorry.
-/
import Derived.Test.YtgnfmbdomofgcabChecked
import GoSem.Claim
import GoSem.ClaimJoined
import GoSem.ClaimMapViews
import Derived.JoinedTies
import Derived.KernelRfl
namespace Go.Proofs.Ytgnfmbdomofgcab
/- THE CELL 'sum', in the pinned program and in every row, IS THE sha256 OF THE DUMP (.gsa) THAT YtgnfmbdomofgcabProg.lean LOADS. Nothing in Lean hashes anything: it is a label: what it is worth is what the hold of that sum in a sandbox is worth. -/
noncomputable def Try.pinned : Pinned := { name := "ytgnfmbdomofgcab", sum := "90ee671e9b53b00f54210f7e94ad415d3b80550182a4b1ff96b4fc35c6817602", checked := Try.checked }
namespace Rows
def none {H : Type} : Left H := { results := [], args := [] }

/-- 'laws.FnExactLastUses': WHATEVER THE INPUT: true; the input reads as it did. -/
def fnExactLastUsesSpec : ChangeSpec := { name := "fnExactLastUses", fn := fun _ => fun
  | [d1, d2] => { results := [.lit (.bool true)], args := [d1, d2] }
  | _ => none }
def fnExactLastUsesRow : OpenClaim := { program := "ytgnfmbdomofgcab", sum := "90ee671e9b53b00f54210f7e94ad415d3b80550182a4b1ff96b4fc35c6817602", func := "loop.example/g01087/laws.FnExactLastUses", spec := "fnExactLastUses", apart := false }
def FnExactLastUsesSaid : Prop := fnExactLastUsesRow.holds Try.pinned (OpenSpec.ofChange fnExactLastUsesSpec)

/-- ITS FALSE NEIGHBOUR: 'it returns false'. Refute it at one input. -/
def fnExactLastUsesWrong : ChangeSpec := { name := "fnExactLastUses", fn := fun _ => fun
  | [d1, d2] => { results := [.lit (.bool false)], args := [d1, d2] }
  | _ => none }
def FnExactLastUsesWrongFalsely : Prop := fnExactLastUsesRow.holds Try.pinned (OpenSpec.ofChange fnExactLastUsesWrong)

/-- 'laws.FnExactNextUses': WHATEVER THE INPUT: true; the input reads as it did. -/
def fnExactNextUsesSpec : ChangeSpec := { name := "fnExactNextUses", fn := fun _ => fun
  | [d1, d2] => { results := [.lit (.bool true)], args := [d1, d2] }
  | _ => none }
def fnExactNextUsesRow : OpenClaim := { program := "ytgnfmbdomofgcab", sum := "90ee671e9b53b00f54210f7e94ad415d3b80550182a4b1ff96b4fc35c6817602", func := "loop.example/g01087/laws.FnExactNextUses", spec := "fnExactNextUses", apart := false }
def FnExactNextUsesSaid : Prop := fnExactNextUsesRow.holds Try.pinned (OpenSpec.ofChange fnExactNextUsesSpec)

/-- ITS FALSE NEIGHBOUR: 'it returns false'. Refute it at one input. -/
def fnExactNextUsesWrong : ChangeSpec := { name := "fnExactNextUses", fn := fun _ => fun
  | [d1, d2] => { results := [.lit (.bool false)], args := [d1, d2] }
  | _ => none }
def FnExactNextUsesWrongFalsely : Prop := fnExactNextUsesRow.holds Try.pinned (OpenSpec.ofChange fnExactNextUsesWrong)

/-- 'laws.FnExactWindowSizes': WHATEVER THE INPUT: true; the input reads as it did. -/
def fnExactWindowSizesSpec : ChangeSpec := { name := "fnExactWindowSizes", fn := fun _ => fun
  | [d1, d2, d3] => { results := [.lit (.bool true)], args := [d1, d2, d3] }
  | _ => none }
def fnExactWindowSizesRow : OpenClaim := { program := "ytgnfmbdomofgcab", sum := "90ee671e9b53b00f54210f7e94ad415d3b80550182a4b1ff96b4fc35c6817602", func := "loop.example/g01087/laws.FnExactWindowSizes", spec := "fnExactWindowSizes", apart := false }
def FnExactWindowSizesSaid : Prop := fnExactWindowSizesRow.holds Try.pinned (OpenSpec.ofChange fnExactWindowSizesSpec)

/-- ITS FALSE NEIGHBOUR: 'it returns false'. Refute it at one input. -/
def fnExactWindowSizesWrong : ChangeSpec := { name := "fnExactWindowSizes", fn := fun _ => fun
  | [d1, d2, d3] => { results := [.lit (.bool false)], args := [d1, d2, d3] }
  | _ => none }
def FnExactWindowSizesWrongFalsely : Prop := fnExactWindowSizesRow.holds Try.pinned (OpenSpec.ofChange fnExactWindowSizesWrong)

/-- 'laws.FnExactJoinRequests': WHATEVER THE INPUT: true; the input reads as it did. -/
def fnExactJoinRequestsSpec : ChangeSpec := { name := "fnExactJoinRequests", fn := fun _ => fun
  | [d1, d2, d3] => { results := [.lit (.bool true)], args := [d1, d2, d3] }
  | _ => none }
def fnExactJoinRequestsRow : OpenClaim := { program := "ytgnfmbdomofgcab", sum := "90ee671e9b53b00f54210f7e94ad415d3b80550182a4b1ff96b4fc35c6817602", func := "loop.example/g01087/laws.FnExactJoinRequests", spec := "fnExactJoinRequests", apart := false }
def FnExactJoinRequestsSaid : Prop := fnExactJoinRequestsRow.holds Try.pinned (OpenSpec.ofChange fnExactJoinRequestsSpec)

/-- ITS FALSE NEIGHBOUR: 'it returns false'. Refute it at one input. -/
def fnExactJoinRequestsWrong : ChangeSpec := { name := "fnExactJoinRequests", fn := fun _ => fun
  | [d1, d2, d3] => { results := [.lit (.bool false)], args := [d1, d2, d3] }
  | _ => none }
def FnExactJoinRequestsWrongFalsely : Prop := fnExactJoinRequestsRow.holds Try.pinned (OpenSpec.ofChange fnExactJoinRequestsWrong)

/-- 'laws.FnExactProjectRequests': WHATEVER THE INPUT: true; the input reads as it did. -/
def fnExactProjectRequestsSpec : ChangeSpec := { name := "fnExactProjectRequests", fn := fun _ => fun
  | [d1, d2, d3] => { results := [.lit (.bool true)], args := [d1, d2, d3] }
  | _ => none }
def fnExactProjectRequestsRow : OpenClaim := { program := "ytgnfmbdomofgcab", sum := "90ee671e9b53b00f54210f7e94ad415d3b80550182a4b1ff96b4fc35c6817602", func := "loop.example/g01087/laws.FnExactProjectRequests", spec := "fnExactProjectRequests", apart := false }
def FnExactProjectRequestsSaid : Prop := fnExactProjectRequestsRow.holds Try.pinned (OpenSpec.ofChange fnExactProjectRequestsSpec)

/-- ITS FALSE NEIGHBOUR: 'it returns false'. Refute it at one input. -/
def fnExactProjectRequestsWrong : ChangeSpec := { name := "fnExactProjectRequests", fn := fun _ => fun
  | [d1, d2, d3] => { results := [.lit (.bool false)], args := [d1, d2, d3] }
  | _ => none }
def FnExactProjectRequestsWrongFalsely : Prop := fnExactProjectRequestsRow.holds Try.pinned (OpenSpec.ofChange fnExactProjectRequestsWrong)

/-- 'laws.FnExactRenameRequests': WHATEVER THE INPUT: true; the input reads as it did. -/
def fnExactRenameRequestsSpec : ChangeSpec := { name := "fnExactRenameRequests", fn := fun _ => fun
  | [d1, d2, d3] => { results := [.lit (.bool true)], args := [d1, d2, d3] }
  | _ => none }
def fnExactRenameRequestsRow : OpenClaim := { program := "ytgnfmbdomofgcab", sum := "90ee671e9b53b00f54210f7e94ad415d3b80550182a4b1ff96b4fc35c6817602", func := "loop.example/g01087/laws.FnExactRenameRequests", spec := "fnExactRenameRequests", apart := false }
def FnExactRenameRequestsSaid : Prop := fnExactRenameRequestsRow.holds Try.pinned (OpenSpec.ofChange fnExactRenameRequestsSpec)

/-- ITS FALSE NEIGHBOUR: 'it returns false'. Refute it at one input. -/
def fnExactRenameRequestsWrong : ChangeSpec := { name := "fnExactRenameRequests", fn := fun _ => fun
  | [d1, d2, d3] => { results := [.lit (.bool false)], args := [d1, d2, d3] }
  | _ => none }
def FnExactRenameRequestsWrongFalsely : Prop := fnExactRenameRequestsRow.holds Try.pinned (OpenSpec.ofChange fnExactRenameRequestsWrong)

/-- 'laws.FnExactWeaveRequests': WHATEVER THE INPUT: true; the input reads as it did. -/
def fnExactWeaveRequestsSpec : ChangeSpec := { name := "fnExactWeaveRequests", fn := fun _ => fun
  | [d1, d2, d3] => { results := [.lit (.bool true)], args := [d1, d2, d3] }
  | _ => none }
def fnExactWeaveRequestsRow : OpenClaim := { program := "ytgnfmbdomofgcab", sum := "90ee671e9b53b00f54210f7e94ad415d3b80550182a4b1ff96b4fc35c6817602", func := "loop.example/g01087/laws.FnExactWeaveRequests", spec := "fnExactWeaveRequests", apart := false }
def FnExactWeaveRequestsSaid : Prop := fnExactWeaveRequestsRow.holds Try.pinned (OpenSpec.ofChange fnExactWeaveRequestsSpec)

/-- ITS FALSE NEIGHBOUR: 'it returns false'. Refute it at one input. -/
def fnExactWeaveRequestsWrong : ChangeSpec := { name := "fnExactWeaveRequests", fn := fun _ => fun
  | [d1, d2, d3] => { results := [.lit (.bool false)], args := [d1, d2, d3] }
  | _ => none }
def FnExactWeaveRequestsWrongFalsely : Prop := fnExactWeaveRequestsRow.holds Try.pinned (OpenSpec.ofChange fnExactWeaveRequestsWrong)

/- THE SECOND FORM. 'bulk': how many values and letters a reading holds, each counted each time it is reached (what is shared counts as often as it is met; a slice's spare places count too). A statement '..UptoSaid' is the law's where the arguments, and the package variables that the reading takes, are together of bulk at most 1048576: NARROWER than '..Said'. Prove '..Said' where nothing that the law and all that it calls make is longer than what came in: it says more and counts as full. Else prove '..UptoSaid'. A law counts once. -/
mutual
def uptoBulk {H : Type} : DataW H → Nat
  | .lit (.string bytes) => bytes.length + 1
  | .lit _ => 1
  | .nil => 1
  | .ptr d => uptoBulk d + 1
  | .slice elems spare => uptoBulkAll elems + uptoBulkAll spare + 1
  | .agg parts => uptoBulkAll parts + 1
  | .iface _ d => uptoBulk d + 1
  | .map entries => uptoBulkEntries entries + 1
  | .held _ => 1
def uptoBulkAll {H : Type} : List (DataW H) → Nat
  | [] => 0
  | d :: r => uptoBulk d + uptoBulkAll r
def uptoBulkEntries {H : Type} : List (Lit × DataW H) → Nat
  | [] => 0
  | x :: r => uptoBulkEntry x + uptoBulkEntries r
def uptoBulkEntry {H : Type} : Lit × DataW H → Nat
  | (.string bytes, d) => bytes.length + uptoBulk d + 1
  | (_, d) => uptoBulk d + 1
 end
def uptoSmall : (H : Type) → List (DataW H) → Bool := fun _ ds => decide (uptoBulkAll ds ≤ 1048576)
def OpenSpec.upto (s : _root_.Go.ChangeSpec) : _root_.Go.OpenSpec := { _root_.Go.OpenSpec.ofChange s with cond := some uptoSmall }

/-- 'laws.FnExactLastUses', WHERE WHAT IT READS IS OF BULK AT MOST 1048576: true; the input reads as it did. -/
def fnExactLastUsesUptoRow : OpenClaim := { program := "ytgnfmbdomofgcab", sum := "90ee671e9b53b00f54210f7e94ad415d3b80550182a4b1ff96b4fc35c6817602", func := "loop.example/g01087/laws.FnExactLastUses", spec := "fnExactLastUses", apart := false, narrowed := true }
def FnExactLastUsesUptoSaid : Prop := fnExactLastUsesUptoRow.holds Try.pinned (OpenSpec.upto fnExactLastUsesSpec)

/-- 'laws.FnExactNextUses', WHERE WHAT IT READS IS OF BULK AT MOST 1048576: true; the input reads as it did. -/
def fnExactNextUsesUptoRow : OpenClaim := { program := "ytgnfmbdomofgcab", sum := "90ee671e9b53b00f54210f7e94ad415d3b80550182a4b1ff96b4fc35c6817602", func := "loop.example/g01087/laws.FnExactNextUses", spec := "fnExactNextUses", apart := false, narrowed := true }
def FnExactNextUsesUptoSaid : Prop := fnExactNextUsesUptoRow.holds Try.pinned (OpenSpec.upto fnExactNextUsesSpec)

/-- 'laws.FnExactWindowSizes', WHERE WHAT IT READS IS OF BULK AT MOST 1048576: true; the input reads as it did. -/
def fnExactWindowSizesUptoRow : OpenClaim := { program := "ytgnfmbdomofgcab", sum := "90ee671e9b53b00f54210f7e94ad415d3b80550182a4b1ff96b4fc35c6817602", func := "loop.example/g01087/laws.FnExactWindowSizes", spec := "fnExactWindowSizes", apart := false, narrowed := true }
def FnExactWindowSizesUptoSaid : Prop := fnExactWindowSizesUptoRow.holds Try.pinned (OpenSpec.upto fnExactWindowSizesSpec)

/-- 'laws.FnExactJoinRequests', WHERE WHAT IT READS IS OF BULK AT MOST 1048576: true; the input reads as it did. -/
def fnExactJoinRequestsUptoRow : OpenClaim := { program := "ytgnfmbdomofgcab", sum := "90ee671e9b53b00f54210f7e94ad415d3b80550182a4b1ff96b4fc35c6817602", func := "loop.example/g01087/laws.FnExactJoinRequests", spec := "fnExactJoinRequests", apart := false, narrowed := true }
def FnExactJoinRequestsUptoSaid : Prop := fnExactJoinRequestsUptoRow.holds Try.pinned (OpenSpec.upto fnExactJoinRequestsSpec)

/-- 'laws.FnExactProjectRequests', WHERE WHAT IT READS IS OF BULK AT MOST 1048576: true; the input reads as it did. -/
def fnExactProjectRequestsUptoRow : OpenClaim := { program := "ytgnfmbdomofgcab", sum := "90ee671e9b53b00f54210f7e94ad415d3b80550182a4b1ff96b4fc35c6817602", func := "loop.example/g01087/laws.FnExactProjectRequests", spec := "fnExactProjectRequests", apart := false, narrowed := true }
def FnExactProjectRequestsUptoSaid : Prop := fnExactProjectRequestsUptoRow.holds Try.pinned (OpenSpec.upto fnExactProjectRequestsSpec)

/-- 'laws.FnExactRenameRequests', WHERE WHAT IT READS IS OF BULK AT MOST 1048576: true; the input reads as it did. -/
def fnExactRenameRequestsUptoRow : OpenClaim := { program := "ytgnfmbdomofgcab", sum := "90ee671e9b53b00f54210f7e94ad415d3b80550182a4b1ff96b4fc35c6817602", func := "loop.example/g01087/laws.FnExactRenameRequests", spec := "fnExactRenameRequests", apart := false, narrowed := true }
def FnExactRenameRequestsUptoSaid : Prop := fnExactRenameRequestsUptoRow.holds Try.pinned (OpenSpec.upto fnExactRenameRequestsSpec)

/-- 'laws.FnExactWeaveRequests', WHERE WHAT IT READS IS OF BULK AT MOST 1048576: true; the input reads as it did. -/
def fnExactWeaveRequestsUptoRow : OpenClaim := { program := "ytgnfmbdomofgcab", sum := "90ee671e9b53b00f54210f7e94ad415d3b80550182a4b1ff96b4fc35c6817602", func := "loop.example/g01087/laws.FnExactWeaveRequests", spec := "fnExactWeaveRequests", apart := false, narrowed := true }
def FnExactWeaveRequestsUptoSaid : Prop := fnExactWeaveRequestsUptoRow.holds Try.pinned (OpenSpec.upto fnExactWeaveRequestsSpec)

end Rows
end Go.Proofs.Ytgnfmbdomofgcab
