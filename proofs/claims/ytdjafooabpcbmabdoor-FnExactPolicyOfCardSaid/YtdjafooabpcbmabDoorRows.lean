/-
  NARROWER THAN 'FOR EVERY INPUT', by the rows' own cells (each row's printed sentence says how): FnExactPolicyName: laid · FnExactPolicyOf: laid.
  DERIVED. THE GIVEN ROWS OF THIS SEAT. 2 by the template 'for every input the law returns true; each argument reads behind the call as it read before'; 0 by the template 'total and deterministic' (their statements: YtdjafooabpcbmabDoorTotals.lean).
  GIVEN WITH THE SEED: the statements are not yours to turn. If you find one false, say at which input.
  Laid BY PROGRAM, IN A SANDBOX (cutbox-rows.mjs): the forced cells as the released guide's own fill.sh prints them over the translation 7d6d92a49ab2f700… (all of the seat's roots in one cut). By AI agents, Wed Nov 11 2026. No macro, syntax, notation, axiom, sorry.
-/
import Derived.Test.YtdjafooabpcbmabDoorChecked
import GoSem.Claim
import GoSem.ClaimJoined
import GoSem.ClaimMapViews
import Derived.JoinedTies
import Derived.KernelRfl
namespace Go.Proofs.YtdjafooabpcbmabDoor
/- THE CELL 'sum', in the pinned program and in every row, IS THE sha256 OF THE DUMP (.gsa) THAT YtdjafooabpcbmabDoorProg.lean LOADS. Nothing in Lean hashes anything: it is a label: what it is worth is what the hold of that sum in a sandbox is worth. -/
noncomputable def Tryd.pinned : Pinned := { name := "ytdjafooabpcbmabdoor", sum := "7d6d92a49ab2f700a3d6b7d8c56b7f34eaa9ca3ecabe051c8440c027de37baef", checked := Tryd.checked }
namespace Rows
def none {H : Type} : Left H := { results := [], args := [] }

/- WHAT THE LISTED PACKAGE-LEVEL VARIABLES READ AS WHEN THE CALL BEGINS. Each datum BY PROGRAM (the guide's laid-datum.mjs) off the statement by which the dump's own 'gosem.cut.vars' lays the variable. In a bare row this is a premise. The card (YtdjafooabpcbmabDoorCards.lean) ties it to the program's text. -/
def laid_loop_example_g01087_impl_policyNames {H : Type} : DataW H := .agg [.lit (.string []), .lit (.string [108, 114, 117]), .lit (.string [102, 105, 102, 111]), .lit (.string [108, 105, 102, 111]), .lit (.string [102, 108, 117, 115, 104]), .lit (.string [108, 102, 117]), .lit (.string [99, 108, 111, 99, 107]), .lit (.string [109, 114, 117])]

/-- 'laws.FnExactPolicyName': WHATEVER THE INPUT: true; the input reads as it did. -/
def fnExactPolicyNameSpec : ChangeSpec := { name := "fnExactPolicyName", vars := ["loop.example/g01087/impl.policyNames"], fn := fun _ => fun
  | [d, g1] => { results := [.lit (.bool true)], args := [d], vars := [g1] }
  | _ => none }
def fnExactPolicyNameRow : OpenClaim := { program := "ytdjafooabpcbmabdoor", sum := "7d6d92a49ab2f700a3d6b7d8c56b7f34eaa9ca3ecabe051c8440c027de37baef", func := "loop.example/g01087/laws.FnExactPolicyName", spec := "fnExactPolicyName", named := ["loop.example/g01087/impl.policyNames"], apart := false, laid := [("loop.example/g01087/impl.policyNames", laid_loop_example_g01087_impl_policyNames)] }
def FnExactPolicyNameSaid : Prop := fnExactPolicyNameRow.holds Tryd.pinned (OpenSpec.ofChange fnExactPolicyNameSpec)

/-- ITS FALSE NEIGHBOUR: 'it returns false'. Refute it at one input. -/
def fnExactPolicyNameWrong : ChangeSpec := { name := "fnExactPolicyName", vars := ["loop.example/g01087/impl.policyNames"], fn := fun _ => fun
  | [d, g1] => { results := [.lit (.bool false)], args := [d], vars := [g1] }
  | _ => none }
def FnExactPolicyNameWrongFalsely : Prop := fnExactPolicyNameRow.holds Tryd.pinned (OpenSpec.ofChange fnExactPolicyNameWrong)

/-- 'laws.FnExactPolicyOf': WHATEVER THE INPUT: true; the input reads as it did. -/
def fnExactPolicyOfSpec : ChangeSpec := { name := "fnExactPolicyOf", vars := ["loop.example/g01087/impl.policyNames"], fn := fun _ => fun
  | [d, g1] => { results := [.lit (.bool true)], args := [d], vars := [g1] }
  | _ => none }
def fnExactPolicyOfRow : OpenClaim := { program := "ytdjafooabpcbmabdoor", sum := "7d6d92a49ab2f700a3d6b7d8c56b7f34eaa9ca3ecabe051c8440c027de37baef", func := "loop.example/g01087/laws.FnExactPolicyOf", spec := "fnExactPolicyOf", named := ["loop.example/g01087/impl.policyNames"], apart := false, laid := [("loop.example/g01087/impl.policyNames", laid_loop_example_g01087_impl_policyNames)] }
def FnExactPolicyOfSaid : Prop := fnExactPolicyOfRow.holds Tryd.pinned (OpenSpec.ofChange fnExactPolicyOfSpec)

/-- ITS FALSE NEIGHBOUR: 'it returns false'. Refute it at one input. -/
def fnExactPolicyOfWrong : ChangeSpec := { name := "fnExactPolicyOf", vars := ["loop.example/g01087/impl.policyNames"], fn := fun _ => fun
  | [d, g1] => { results := [.lit (.bool false)], args := [d], vars := [g1] }
  | _ => none }
def FnExactPolicyOfWrongFalsely : Prop := fnExactPolicyOfRow.holds Tryd.pinned (OpenSpec.ofChange fnExactPolicyOfWrong)

/- THE SECOND FORM. 'bulk': how many values and letters a reading holds, each counted each time it is reached (what is shared counts as often as it is met; a slice's spare places count too). A statement '..UptoSaid' is the law's where the arguments, and the package variables that the reading takes, are together of bulk at most 1048576: NARROWER than '..Said'. Prove '..Said' where nothing that the law and all that it calls make is longer than what came in: it says more and counts as full. Else prove '..UptoSaid'. A law counts once. -/
mutual
def uptoBulk {H : Type} : DataW H → Nat
  | .lit (.string bytes) => bytes.length + 1
  | .lit _ => 1
  | .nil => 1
  | .ptr d => uptoBulk d + 1
  | .slice elems spare => uptoBulkAll elems + uptoBulkAll spare + 1
  | .agg parts => uptoBulkAll parts + 1
  | .iface _ d => uptoBulk d + 1
  | .map entries => uptoBulkEntries entries + 1
  | .held _ => 1
def uptoBulkAll {H : Type} : List (DataW H) → Nat
  | [] => 0
  | d :: r => uptoBulk d + uptoBulkAll r
def uptoBulkEntries {H : Type} : List (Lit × DataW H) → Nat
  | [] => 0
  | x :: r => uptoBulkEntry x + uptoBulkEntries r
def uptoBulkEntry {H : Type} : Lit × DataW H → Nat
  | (.string bytes, d) => bytes.length + uptoBulk d + 1
  | (_, d) => uptoBulk d + 1
 end
def uptoSmall : (H : Type) → List (DataW H) → Bool := fun _ ds => decide (uptoBulkAll ds ≤ 1048576)
def OpenSpec.upto (s : _root_.Go.ChangeSpec) : _root_.Go.OpenSpec := { _root_.Go.OpenSpec.ofChange s with cond := some uptoSmall }

/-- 'laws.FnExactPolicyName', WHERE WHAT IT READS IS OF BULK AT MOST 1048576: true; the input reads as it did. -/
def fnExactPolicyNameUptoRow : OpenClaim := { program := "ytdjafooabpcbmabdoor", sum := "7d6d92a49ab2f700a3d6b7d8c56b7f34eaa9ca3ecabe051c8440c027de37baef", func := "loop.example/g01087/laws.FnExactPolicyName", spec := "fnExactPolicyName", named := ["loop.example/g01087/impl.policyNames"], apart := false, laid := [("loop.example/g01087/impl.policyNames", laid_loop_example_g01087_impl_policyNames)], narrowed := true }
def FnExactPolicyNameUptoSaid : Prop := fnExactPolicyNameUptoRow.holds Tryd.pinned (OpenSpec.upto fnExactPolicyNameSpec)

/-- 'laws.FnExactPolicyOf', WHERE WHAT IT READS IS OF BULK AT MOST 1048576: true; the input reads as it did. -/
def fnExactPolicyOfUptoRow : OpenClaim := { program := "ytdjafooabpcbmabdoor", sum := "7d6d92a49ab2f700a3d6b7d8c56b7f34eaa9ca3ecabe051c8440c027de37baef", func := "loop.example/g01087/laws.FnExactPolicyOf", spec := "fnExactPolicyOf", named := ["loop.example/g01087/impl.policyNames"], apart := false, laid := [("loop.example/g01087/impl.policyNames", laid_loop_example_g01087_impl_policyNames)], narrowed := true }
def FnExactPolicyOfUptoSaid : Prop := fnExactPolicyOfUptoRow.holds Tryd.pinned (OpenSpec.upto fnExactPolicyOfSpec)

end Rows
end Go.Proofs.YtdjafooabpcbmabDoor
