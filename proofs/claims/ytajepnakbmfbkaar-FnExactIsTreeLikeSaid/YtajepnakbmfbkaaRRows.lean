/-
  No cell of these rows narrows 'for every input' (looked for: loops, veiled, ifaces, maps, wideKeys, modest, calm, conditions, laid).
  DERIVED. THE GIVEN ROWS OF THIS SEAT. 4 by the template 'for every input the law returns true; each argument reads behind the call as it read before'; 0 by the template 'total and deterministic' (their statements: YtajepnakbmfbkaaRTotals.lean).
  GIVEN WITH THE SEED: the statements are not yours to turn. If you find one false, say at which input.
  Laid BY PROGRAM, IN A SANDBOX (cutbox-rows.mjs): the forced cells as the released guide's own fill.sh prints them over the translation 3f181a2f2a00efcc… (all of the seat's roots in one cut). By AI agents, Wed Nov 11 2026. No macro, syntax, notation, axiom, sorry.
-/
import Derived.Test.YtajepnakbmfbkaaRChecked
import GoSem.Claim
import GoSem.ClaimJoined
import GoSem.ClaimMapViews
import Derived.JoinedTies
import Derived.KernelRfl
namespace Go.Proofs.YtajepnakbmfbkaaR
/- THE CELL 'sum', in the pinned program and in every row, IS THE sha256 OF THE DUMP (.gsa) THAT YtajepnakbmfbkaaRProg.lean LOADS. Nothing in Lean hashes anything: it is a label: what it is worth is what the hold of that sum in a sandbox is worth. -/
noncomputable def Try.pinned : Pinned := { name := "ytajepnakbmfbkaar", sum := "3f181a2f2a00efcc7ad09e3e30a5bfb921d00d368e94ec11d019adf223380dfc", checked := Try.checked }
namespace Rows
def none {H : Type} : Left H := { results := [], args := [] }

/-- 'laws.FnExactIsTreeLike': WHATEVER THE INPUT: true; the input reads as it did. -/
def fnExactIsTreeLikeSpec : ChangeSpec := { name := "fnExactIsTreeLike", fn := fun _ => fun
  | [d] => { results := [.lit (.bool true)], args := [d] }
  | _ => none }
def fnExactIsTreeLikeRow : OpenClaim := { program := "ytajepnakbmfbkaar", sum := "3f181a2f2a00efcc7ad09e3e30a5bfb921d00d368e94ec11d019adf223380dfc", func := "loop.example/g01087/laws.FnExactIsTreeLike", spec := "fnExactIsTreeLike", unfollowed := true, recurses := true, apart := false }
def FnExactIsTreeLikeSaid : Prop := fnExactIsTreeLikeRow.holds Try.pinned (OpenSpec.ofChange fnExactIsTreeLikeSpec)

/-- ITS FALSE NEIGHBOUR: 'it returns false'. Refute it at one input. -/
def fnExactIsTreeLikeWrong : ChangeSpec := { name := "fnExactIsTreeLike", fn := fun _ => fun
  | [d] => { results := [.lit (.bool false)], args := [d] }
  | _ => none }
def FnExactIsTreeLikeWrongFalsely : Prop := fnExactIsTreeLikeRow.holds Try.pinned (OpenSpec.ofChange fnExactIsTreeLikeWrong)

/-- 'laws.FnExactVictimsOf': WHATEVER THE INPUT: true; the input reads as it did. -/
def fnExactVictimsOfSpec : ChangeSpec := { name := "fnExactVictimsOf", fn := fun _ => fun
  | [d1, d2, d3] => { results := [.lit (.bool true)], args := [d1, d2, d3] }
  | _ => none }
def fnExactVictimsOfRow : OpenClaim := { program := "ytajepnakbmfbkaar", sum := "3f181a2f2a00efcc7ad09e3e30a5bfb921d00d368e94ec11d019adf223380dfc", func := "loop.example/g01087/laws.FnExactVictimsOf", spec := "fnExactVictimsOf", inPlace := ["slices.overlaps[int]"], unfollowed := true, recurses := true, apart := false }
def FnExactVictimsOfSaid : Prop := fnExactVictimsOfRow.holds Try.pinned (OpenSpec.ofChange fnExactVictimsOfSpec)

/-- ITS FALSE NEIGHBOUR: 'it returns false'. Refute it at one input. -/
def fnExactVictimsOfWrong : ChangeSpec := { name := "fnExactVictimsOf", fn := fun _ => fun
  | [d1, d2, d3] => { results := [.lit (.bool false)], args := [d1, d2, d3] }
  | _ => none }
def FnExactVictimsOfWrongFalsely : Prop := fnExactVictimsOfRow.holds Try.pinned (OpenSpec.ofChange fnExactVictimsOfWrong)

/-- 'laws.FnExactContentsOf': WHATEVER THE INPUT: true; the input reads as it did. -/
def fnExactContentsOfSpec : ChangeSpec := { name := "fnExactContentsOf", fn := fun _ => fun
  | [d1, d2, d3, d4] => { results := [.lit (.bool true)], args := [d1, d2, d3, d4] }
  | _ => none }
def fnExactContentsOfRow : OpenClaim := { program := "ytajepnakbmfbkaar", sum := "3f181a2f2a00efcc7ad09e3e30a5bfb921d00d368e94ec11d019adf223380dfc", func := "loop.example/g01087/laws.FnExactContentsOf", spec := "fnExactContentsOf", inPlace := ["slices.overlaps[int]"], unfollowed := true, recurses := true, apart := false }
def FnExactContentsOfSaid : Prop := fnExactContentsOfRow.holds Try.pinned (OpenSpec.ofChange fnExactContentsOfSpec)

/-- ITS FALSE NEIGHBOUR: 'it returns false'. Refute it at one input. -/
def fnExactContentsOfWrong : ChangeSpec := { name := "fnExactContentsOf", fn := fun _ => fun
  | [d1, d2, d3, d4] => { results := [.lit (.bool false)], args := [d1, d2, d3, d4] }
  | _ => none }
def FnExactContentsOfWrongFalsely : Prop := fnExactContentsOfRow.holds Try.pinned (OpenSpec.ofChange fnExactContentsOfWrong)

/-- 'laws.FnExactInclusionBreak': WHATEVER THE INPUT: true; the input reads as it did. -/
def fnExactInclusionBreakSpec : ChangeSpec := { name := "fnExactInclusionBreak", fn := fun _ => fun
  | [d1, d2, d3, d4] => { results := [.lit (.bool true)], args := [d1, d2, d3, d4] }
  | _ => none }
def fnExactInclusionBreakRow : OpenClaim := { program := "ytajepnakbmfbkaar", sum := "3f181a2f2a00efcc7ad09e3e30a5bfb921d00d368e94ec11d019adf223380dfc", func := "loop.example/g01087/laws.FnExactInclusionBreak", spec := "fnExactInclusionBreak", inPlace := ["slices.overlaps[int]"], unfollowed := true, recurses := true, apart := false }
def FnExactInclusionBreakSaid : Prop := fnExactInclusionBreakRow.holds Try.pinned (OpenSpec.ofChange fnExactInclusionBreakSpec)

/-- ITS FALSE NEIGHBOUR: 'it returns false'. Refute it at one input. -/
def fnExactInclusionBreakWrong : ChangeSpec := { name := "fnExactInclusionBreak", fn := fun _ => fun
  | [d1, d2, d3, d4] => { results := [.lit (.bool false)], args := [d1, d2, d3, d4] }
  | _ => none }
def FnExactInclusionBreakWrongFalsely : Prop := fnExactInclusionBreakRow.holds Try.pinned (OpenSpec.ofChange fnExactInclusionBreakWrong)

/- THE SECOND FORM. 'bulk': how many values and letters a reading holds, each counted each time it is reached (what is shared counts as often as it is met; a slice's spare places count too). A statement '..UptoSaid' is the law's where the arguments, and the package variables that the reading takes, are together of bulk at most 1048576: NARROWER than '..Said'. Prove '..Said' where nothing that the law and all that it calls make is longer than what came in: it says more and counts as full. Else prove '..UptoSaid'. A law counts once. -/
mutual
def uptoBulk {H : Type} : DataW H → Nat
  | .lit (.string bytes) => bytes.length + 1
  | .lit _ => 1
  | .nil => 1
  | .ptr d => uptoBulk d + 1
  | .slice elems spare => uptoBulkAll elems + uptoBulkAll spare + 1
  | .agg parts => uptoBulkAll parts + 1
  | .iface _ d => uptoBulk d + 1
  | .map entries => uptoBulkEntries entries + 1
  | .held _ => 1
def uptoBulkAll {H : Type} : List (DataW H) → Nat
  | [] => 0
  | d :: r => uptoBulk d + uptoBulkAll r
def uptoBulkEntries {H : Type} : List (Lit × DataW H) → Nat
  | [] => 0
  | x :: r => uptoBulkEntry x + uptoBulkEntries r
def uptoBulkEntry {H : Type} : Lit × DataW H → Nat
  | (.string bytes, d) => bytes.length + uptoBulk d + 1
  | (_, d) => uptoBulk d + 1
 end
def uptoSmall : (H : Type) → List (DataW H) → Bool := fun _ ds => decide (uptoBulkAll ds ≤ 1048576)
def OpenSpec.upto (s : _root_.Go.ChangeSpec) : _root_.Go.OpenSpec := { _root_.Go.OpenSpec.ofChange s with cond := some uptoSmall }

/-- 'laws.FnExactIsTreeLike', WHERE WHAT IT READS IS OF BULK AT MOST 1048576: true; the input reads as it did. -/
def fnExactIsTreeLikeUptoRow : OpenClaim := { program := "ytajepnakbmfbkaar", sum := "3f181a2f2a00efcc7ad09e3e30a5bfb921d00d368e94ec11d019adf223380dfc", func := "loop.example/g01087/laws.FnExactIsTreeLike", spec := "fnExactIsTreeLike", unfollowed := true, recurses := true, apart := false, narrowed := true }
def FnExactIsTreeLikeUptoSaid : Prop := fnExactIsTreeLikeUptoRow.holds Try.pinned (OpenSpec.upto fnExactIsTreeLikeSpec)

/-- 'laws.FnExactVictimsOf', WHERE WHAT IT READS IS OF BULK AT MOST 1048576: true; the input reads as it did. -/
def fnExactVictimsOfUptoRow : OpenClaim := { program := "ytajepnakbmfbkaar", sum := "3f181a2f2a00efcc7ad09e3e30a5bfb921d00d368e94ec11d019adf223380dfc", func := "loop.example/g01087/laws.FnExactVictimsOf", spec := "fnExactVictimsOf", inPlace := ["slices.overlaps[int]"], unfollowed := true, recurses := true, apart := false, narrowed := true }
def FnExactVictimsOfUptoSaid : Prop := fnExactVictimsOfUptoRow.holds Try.pinned (OpenSpec.upto fnExactVictimsOfSpec)

/-- 'laws.FnExactContentsOf', WHERE WHAT IT READS IS OF BULK AT MOST 1048576: true; the input reads as it did. -/
def fnExactContentsOfUptoRow : OpenClaim := { program := "ytajepnakbmfbkaar", sum := "3f181a2f2a00efcc7ad09e3e30a5bfb921d00d368e94ec11d019adf223380dfc", func := "loop.example/g01087/laws.FnExactContentsOf", spec := "fnExactContentsOf", inPlace := ["slices.overlaps[int]"], unfollowed := true, recurses := true, apart := false, narrowed := true }
def FnExactContentsOfUptoSaid : Prop := fnExactContentsOfUptoRow.holds Try.pinned (OpenSpec.upto fnExactContentsOfSpec)

/-- 'laws.FnExactInclusionBreak', WHERE WHAT IT READS IS OF BULK AT MOST 1048576: true; the input reads as it did. -/
def fnExactInclusionBreakUptoRow : OpenClaim := { program := "ytajepnakbmfbkaar", sum := "3f181a2f2a00efcc7ad09e3e30a5bfb921d00d368e94ec11d019adf223380dfc", func := "loop.example/g01087/laws.FnExactInclusionBreak", spec := "fnExactInclusionBreak", inPlace := ["slices.overlaps[int]"], unfollowed := true, recurses := true, apart := false, narrowed := true }
def FnExactInclusionBreakUptoSaid : Prop := fnExactInclusionBreakUptoRow.holds Try.pinned (OpenSpec.upto fnExactInclusionBreakSpec)

end Rows
end Go.Proofs.YtajepnakbmfbkaaR
