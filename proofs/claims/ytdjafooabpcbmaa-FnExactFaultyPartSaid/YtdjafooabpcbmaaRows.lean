/-
  No cell of these rows narrows 'for every input' (looked for: loops, veiled, ifaces, maps, wideKeys, modest, calm, conditions, laid).
  DERIVED. THE GIVEN ROWS OF THIS SEAT. 12 by the template 'for every input the law returns true; each argument reads behind the call as it read before'; 0 by the template 'total and deterministic' (their statements: YtdjafooabpcbmaaTotals.lean).
  GIVEN WITH THE SEED: the statements are not yours to turn. If you find one false, say at which input.
  Laid BY PROGRAM, IN A SANDBOX (cutbox-rows.mjs): the forced cells as the released guide's own fill.sh prints them over the translation 176aee8a52e24a34… (all of the seat's roots in one cut). By AI agents, Wed Nov 11 2026. No macro, syntax, notation, axiom, sorry.
-/
import Derived.Test.YtdjafooabpcbmaaChecked
import GoSem.Claim
import GoSem.ClaimJoined
import GoSem.ClaimMapViews
import Derived.JoinedTies
import Derived.KernelRfl
namespace Go.Proofs.Ytdjafooabpcbmaa
/- THE CELL 'sum', in the pinned program and in every row, IS THE sha256 OF THE DUMP (.gsa) THAT YtdjafooabpcbmaaProg.lean LOADS. Nothing in Lean hashes anything: it is a label: what it is worth is what the hold of that sum in a sandbox is worth. -/
noncomputable def Try.pinned : Pinned := { name := "ytdjafooabpcbmaa", sum := "176aee8a52e24a34bac988826fc893c90a435160041b07c29bb5407c9479abef", checked := Try.checked }
namespace Rows
def none {H : Type} : Left H := { results := [], args := [] }

/-- 'laws.FnExactStepCache': WHATEVER THE INPUT: true; the input reads as it did. -/
def fnExactStepCacheSpec : ChangeSpec := { name := "fnExactStepCache", fn := fun _ => fun
  | [d1, d2, d3] => { results := [.lit (.bool true)], args := [d1, d2, d3] }
  | _ => none }
def fnExactStepCacheRow : OpenClaim := { program := "ytdjafooabpcbmaa", sum := "176aee8a52e24a34bac988826fc893c90a435160041b07c29bb5407c9479abef", func := "loop.example/g01087/laws.FnExactStepCache", spec := "fnExactStepCache", inPlace := ["slices.overlaps[int]"], unfollowed := true, recurses := true, apart := false }
def FnExactStepCacheSaid : Prop := fnExactStepCacheRow.holds Try.pinned (OpenSpec.ofChange fnExactStepCacheSpec)

/-- ITS FALSE NEIGHBOUR: 'it returns false'. Refute it at one input. -/
def fnExactStepCacheWrong : ChangeSpec := { name := "fnExactStepCache", fn := fun _ => fun
  | [d1, d2, d3] => { results := [.lit (.bool false)], args := [d1, d2, d3] }
  | _ => none }
def FnExactStepCacheWrongFalsely : Prop := fnExactStepCacheRow.holds Try.pinned (OpenSpec.ofChange fnExactStepCacheWrong)

/-- 'laws.FnExactRunCache': WHATEVER THE INPUT: true; the input reads as it did. -/
def fnExactRunCacheSpec : ChangeSpec := { name := "fnExactRunCache", fn := fun _ => fun
  | [d1, d2, d3] => { results := [.lit (.bool true)], args := [d1, d2, d3] }
  | _ => none }
def fnExactRunCacheRow : OpenClaim := { program := "ytdjafooabpcbmaa", sum := "176aee8a52e24a34bac988826fc893c90a435160041b07c29bb5407c9479abef", func := "loop.example/g01087/laws.FnExactRunCache", spec := "fnExactRunCache", inPlace := ["slices.overlaps[int]"], unfollowed := true, recurses := true, apart := false }
def FnExactRunCacheSaid : Prop := fnExactRunCacheRow.holds Try.pinned (OpenSpec.ofChange fnExactRunCacheSpec)

/-- ITS FALSE NEIGHBOUR: 'it returns false'. Refute it at one input. -/
def fnExactRunCacheWrong : ChangeSpec := { name := "fnExactRunCache", fn := fun _ => fun
  | [d1, d2, d3] => { results := [.lit (.bool false)], args := [d1, d2, d3] }
  | _ => none }
def FnExactRunCacheWrongFalsely : Prop := fnExactRunCacheRow.holds Try.pinned (OpenSpec.ofChange fnExactRunCacheWrong)

/-- 'laws.FnExactVictimsOf': WHATEVER THE INPUT: true; the input reads as it did. -/
def fnExactVictimsOfSpec : ChangeSpec := { name := "fnExactVictimsOf", fn := fun _ => fun
  | [d1, d2, d3] => { results := [.lit (.bool true)], args := [d1, d2, d3] }
  | _ => none }
def fnExactVictimsOfRow : OpenClaim := { program := "ytdjafooabpcbmaa", sum := "176aee8a52e24a34bac988826fc893c90a435160041b07c29bb5407c9479abef", func := "loop.example/g01087/laws.FnExactVictimsOf", spec := "fnExactVictimsOf", inPlace := ["slices.overlaps[int]"], unfollowed := true, recurses := true, apart := false }
def FnExactVictimsOfSaid : Prop := fnExactVictimsOfRow.holds Try.pinned (OpenSpec.ofChange fnExactVictimsOfSpec)

/-- ITS FALSE NEIGHBOUR: 'it returns false'. Refute it at one input. -/
def fnExactVictimsOfWrong : ChangeSpec := { name := "fnExactVictimsOf", fn := fun _ => fun
  | [d1, d2, d3] => { results := [.lit (.bool false)], args := [d1, d2, d3] }
  | _ => none }
def FnExactVictimsOfWrongFalsely : Prop := fnExactVictimsOfRow.holds Try.pinned (OpenSpec.ofChange fnExactVictimsOfWrong)

/-- 'laws.FnExactFaultPlaces': WHATEVER THE INPUT: true; the input reads as it did. -/
def fnExactFaultPlacesSpec : ChangeSpec := { name := "fnExactFaultPlaces", fn := fun _ => fun
  | [d1, d2, d3, d4] => { results := [.lit (.bool true)], args := [d1, d2, d3, d4] }
  | _ => none }
def fnExactFaultPlacesRow : OpenClaim := { program := "ytdjafooabpcbmaa", sum := "176aee8a52e24a34bac988826fc893c90a435160041b07c29bb5407c9479abef", func := "loop.example/g01087/laws.FnExactFaultPlaces", spec := "fnExactFaultPlaces", inPlace := ["slices.overlaps[int]"], unfollowed := true, recurses := true, apart := false }
def FnExactFaultPlacesSaid : Prop := fnExactFaultPlacesRow.holds Try.pinned (OpenSpec.ofChange fnExactFaultPlacesSpec)

/-- ITS FALSE NEIGHBOUR: 'it returns false'. Refute it at one input. -/
def fnExactFaultPlacesWrong : ChangeSpec := { name := "fnExactFaultPlaces", fn := fun _ => fun
  | [d1, d2, d3, d4] => { results := [.lit (.bool false)], args := [d1, d2, d3, d4] }
  | _ => none }
def FnExactFaultPlacesWrongFalsely : Prop := fnExactFaultPlacesRow.holds Try.pinned (OpenSpec.ofChange fnExactFaultPlacesWrong)

/-- 'laws.FnExactContentsOf': WHATEVER THE INPUT: true; the input reads as it did. -/
def fnExactContentsOfSpec : ChangeSpec := { name := "fnExactContentsOf", fn := fun _ => fun
  | [d1, d2, d3, d4] => { results := [.lit (.bool true)], args := [d1, d2, d3, d4] }
  | _ => none }
def fnExactContentsOfRow : OpenClaim := { program := "ytdjafooabpcbmaa", sum := "176aee8a52e24a34bac988826fc893c90a435160041b07c29bb5407c9479abef", func := "loop.example/g01087/laws.FnExactContentsOf", spec := "fnExactContentsOf", inPlace := ["slices.overlaps[int]"], unfollowed := true, recurses := true, apart := false }
def FnExactContentsOfSaid : Prop := fnExactContentsOfRow.holds Try.pinned (OpenSpec.ofChange fnExactContentsOfSpec)

/-- ITS FALSE NEIGHBOUR: 'it returns false'. Refute it at one input. -/
def fnExactContentsOfWrong : ChangeSpec := { name := "fnExactContentsOf", fn := fun _ => fun
  | [d1, d2, d3, d4] => { results := [.lit (.bool false)], args := [d1, d2, d3, d4] }
  | _ => none }
def FnExactContentsOfWrongFalsely : Prop := fnExactContentsOfRow.holds Try.pinned (OpenSpec.ofChange fnExactContentsOfWrong)

/-- 'laws.FnExactFaultsBySize': WHATEVER THE INPUT: true; the input reads as it did. -/
def fnExactFaultsBySizeSpec : ChangeSpec := { name := "fnExactFaultsBySize", fn := fun _ => fun
  | [d1, d2, d3] => { results := [.lit (.bool true)], args := [d1, d2, d3] }
  | _ => none }
def fnExactFaultsBySizeRow : OpenClaim := { program := "ytdjafooabpcbmaa", sum := "176aee8a52e24a34bac988826fc893c90a435160041b07c29bb5407c9479abef", func := "loop.example/g01087/laws.FnExactFaultsBySize", spec := "fnExactFaultsBySize", inPlace := ["slices.overlaps[int]"], unfollowed := true, recurses := true, apart := false }
def FnExactFaultsBySizeSaid : Prop := fnExactFaultsBySizeRow.holds Try.pinned (OpenSpec.ofChange fnExactFaultsBySizeSpec)

/-- ITS FALSE NEIGHBOUR: 'it returns false'. Refute it at one input. -/
def fnExactFaultsBySizeWrong : ChangeSpec := { name := "fnExactFaultsBySize", fn := fun _ => fun
  | [d1, d2, d3] => { results := [.lit (.bool false)], args := [d1, d2, d3] }
  | _ => none }
def FnExactFaultsBySizeWrongFalsely : Prop := fnExactFaultsBySizeRow.holds Try.pinned (OpenSpec.ofChange fnExactFaultsBySizeWrong)

/-- 'laws.FnExactHitShare': WHATEVER THE INPUT: true; the input reads as it did. -/
def fnExactHitShareSpec : ChangeSpec := { name := "fnExactHitShare", fn := fun _ => fun
  | [d1, d2, d3, d4] => { results := [.lit (.bool true)], args := [d1, d2, d3, d4] }
  | _ => none }
def fnExactHitShareRow : OpenClaim := { program := "ytdjafooabpcbmaa", sum := "176aee8a52e24a34bac988826fc893c90a435160041b07c29bb5407c9479abef", func := "loop.example/g01087/laws.FnExactHitShare", spec := "fnExactHitShare", inPlace := ["slices.overlaps[int]"], unfollowed := true, recurses := true, apart := false }
def FnExactHitShareSaid : Prop := fnExactHitShareRow.holds Try.pinned (OpenSpec.ofChange fnExactHitShareSpec)

/-- ITS FALSE NEIGHBOUR: 'it returns false'. Refute it at one input. -/
def fnExactHitShareWrong : ChangeSpec := { name := "fnExactHitShare", fn := fun _ => fun
  | [d1, d2, d3, d4] => { results := [.lit (.bool false)], args := [d1, d2, d3, d4] }
  | _ => none }
def FnExactHitShareWrongFalsely : Prop := fnExactHitShareRow.holds Try.pinned (OpenSpec.ofChange fnExactHitShareWrong)

/-- 'laws.FnExactInclusionBreak': WHATEVER THE INPUT: true; the input reads as it did. -/
def fnExactInclusionBreakSpec : ChangeSpec := { name := "fnExactInclusionBreak", fn := fun _ => fun
  | [d1, d2, d3, d4] => { results := [.lit (.bool true)], args := [d1, d2, d3, d4] }
  | _ => none }
def fnExactInclusionBreakRow : OpenClaim := { program := "ytdjafooabpcbmaa", sum := "176aee8a52e24a34bac988826fc893c90a435160041b07c29bb5407c9479abef", func := "loop.example/g01087/laws.FnExactInclusionBreak", spec := "fnExactInclusionBreak", inPlace := ["slices.overlaps[int]"], unfollowed := true, recurses := true, apart := false }
def FnExactInclusionBreakSaid : Prop := fnExactInclusionBreakRow.holds Try.pinned (OpenSpec.ofChange fnExactInclusionBreakSpec)

/-- ITS FALSE NEIGHBOUR: 'it returns false'. Refute it at one input. -/
def fnExactInclusionBreakWrong : ChangeSpec := { name := "fnExactInclusionBreak", fn := fun _ => fun
  | [d1, d2, d3, d4] => { results := [.lit (.bool false)], args := [d1, d2, d3, d4] }
  | _ => none }
def FnExactInclusionBreakWrongFalsely : Prop := fnExactInclusionBreakRow.holds Try.pinned (OpenSpec.ofChange fnExactInclusionBreakWrong)

/-- 'laws.FnExactAnomalyOf': WHATEVER THE INPUT: true; the input reads as it did. -/
def fnExactAnomalyOfSpec : ChangeSpec := { name := "fnExactAnomalyOf", fn := fun _ => fun
  | [d1, d2, d3] => { results := [.lit (.bool true)], args := [d1, d2, d3] }
  | _ => none }
def fnExactAnomalyOfRow : OpenClaim := { program := "ytdjafooabpcbmaa", sum := "176aee8a52e24a34bac988826fc893c90a435160041b07c29bb5407c9479abef", func := "loop.example/g01087/laws.FnExactAnomalyOf", spec := "fnExactAnomalyOf", inPlace := ["slices.overlaps[int]"], unfollowed := true, recurses := true, apart := false }
def FnExactAnomalyOfSaid : Prop := fnExactAnomalyOfRow.holds Try.pinned (OpenSpec.ofChange fnExactAnomalyOfSpec)

/-- ITS FALSE NEIGHBOUR: 'it returns false'. Refute it at one input. -/
def fnExactAnomalyOfWrong : ChangeSpec := { name := "fnExactAnomalyOf", fn := fun _ => fun
  | [d1, d2, d3] => { results := [.lit (.bool false)], args := [d1, d2, d3] }
  | _ => none }
def FnExactAnomalyOfWrongFalsely : Prop := fnExactAnomalyOfRow.holds Try.pinned (OpenSpec.ofChange fnExactAnomalyOfWrong)

/-- 'laws.FnExactMarkingBreak': WHATEVER THE INPUT: true; the input reads as it did. -/
def fnExactMarkingBreakSpec : ChangeSpec := { name := "fnExactMarkingBreak", fn := fun _ => fun
  | [d1, d2, d3, d4] => { results := [.lit (.bool true)], args := [d1, d2, d3, d4] }
  | _ => none }
def fnExactMarkingBreakRow : OpenClaim := { program := "ytdjafooabpcbmaa", sum := "176aee8a52e24a34bac988826fc893c90a435160041b07c29bb5407c9479abef", func := "loop.example/g01087/laws.FnExactMarkingBreak", spec := "fnExactMarkingBreak", inPlace := ["slices.overlaps[int]"], unfollowed := true, recurses := true, apart := false }
def FnExactMarkingBreakSaid : Prop := fnExactMarkingBreakRow.holds Try.pinned (OpenSpec.ofChange fnExactMarkingBreakSpec)

/-- ITS FALSE NEIGHBOUR: 'it returns false'. Refute it at one input. -/
def fnExactMarkingBreakWrong : ChangeSpec := { name := "fnExactMarkingBreak", fn := fun _ => fun
  | [d1, d2, d3, d4] => { results := [.lit (.bool false)], args := [d1, d2, d3, d4] }
  | _ => none }
def FnExactMarkingBreakWrongFalsely : Prop := fnExactMarkingBreakRow.holds Try.pinned (OpenSpec.ofChange fnExactMarkingBreakWrong)

/-- 'laws.FnExactFaultyPart': WHATEVER THE INPUT: true; the input reads as it did. -/
def fnExactFaultyPartSpec : ChangeSpec := { name := "fnExactFaultyPart", fn := fun _ => fun
  | [d1, d2, d3, d4] => { results := [.lit (.bool true)], args := [d1, d2, d3, d4] }
  | _ => none }
def fnExactFaultyPartRow : OpenClaim := { program := "ytdjafooabpcbmaa", sum := "176aee8a52e24a34bac988826fc893c90a435160041b07c29bb5407c9479abef", func := "loop.example/g01087/laws.FnExactFaultyPart", spec := "fnExactFaultyPart", inPlace := ["slices.overlaps[int]"], unfollowed := true, recurses := true, apart := false }
def FnExactFaultyPartSaid : Prop := fnExactFaultyPartRow.holds Try.pinned (OpenSpec.ofChange fnExactFaultyPartSpec)

/-- ITS FALSE NEIGHBOUR: 'it returns false'. Refute it at one input. -/
def fnExactFaultyPartWrong : ChangeSpec := { name := "fnExactFaultyPart", fn := fun _ => fun
  | [d1, d2, d3, d4] => { results := [.lit (.bool false)], args := [d1, d2, d3, d4] }
  | _ => none }
def FnExactFaultyPartWrongFalsely : Prop := fnExactFaultyPartRow.holds Try.pinned (OpenSpec.ofChange fnExactFaultyPartWrong)

/-- 'laws.FnRenamedCaches': WHATEVER THE INPUT: true; the input reads as it did. -/
def fnRenamedCachesSpec : ChangeSpec := { name := "fnRenamedCaches", fn := fun _ => fun
  | [d] => { results := [.lit (.bool true)], args := [d] }
  | _ => none }
def fnRenamedCachesRow : OpenClaim := { program := "ytdjafooabpcbmaa", sum := "176aee8a52e24a34bac988826fc893c90a435160041b07c29bb5407c9479abef", func := "loop.example/g01087/laws.FnRenamedCaches", spec := "fnRenamedCaches", inPlace := ["slices.overlaps[int]"], unfollowed := true, recurses := true, apart := false }
def FnRenamedCachesSaid : Prop := fnRenamedCachesRow.holds Try.pinned (OpenSpec.ofChange fnRenamedCachesSpec)

/-- ITS FALSE NEIGHBOUR: 'it returns false'. Refute it at one input. -/
def fnRenamedCachesWrong : ChangeSpec := { name := "fnRenamedCaches", fn := fun _ => fun
  | [d] => { results := [.lit (.bool false)], args := [d] }
  | _ => none }
def FnRenamedCachesWrongFalsely : Prop := fnRenamedCachesRow.holds Try.pinned (OpenSpec.ofChange fnRenamedCachesWrong)

/- THE SECOND FORM. 'bulk': how many values and letters a reading holds, each counted each time it is reached (what is shared counts as often as it is met; a slice's spare places count too). A statement '..UptoSaid' is the law's where the arguments, and the package variables that the reading takes, are together of bulk at most 1048576: NARROWER than '..Said'. Prove '..Said' where nothing that the law and all that it calls make is longer than what came in: it says more and counts as full. Else prove '..UptoSaid'. A law counts once. -/
mutual
def uptoBulk {H : Type} : DataW H → Nat
  | .lit (.string bytes) => bytes.length + 1
  | .lit _ => 1
  | .nil => 1
  | .ptr d => uptoBulk d + 1
  | .slice elems spare => uptoBulkAll elems + uptoBulkAll spare + 1
  | .agg parts => uptoBulkAll parts + 1
  | .iface _ d => uptoBulk d + 1
  | .map entries => uptoBulkEntries entries + 1
  | .held _ => 1
def uptoBulkAll {H : Type} : List (DataW H) → Nat
  | [] => 0
  | d :: r => uptoBulk d + uptoBulkAll r
def uptoBulkEntries {H : Type} : List (Lit × DataW H) → Nat
  | [] => 0
  | x :: r => uptoBulkEntry x + uptoBulkEntries r
def uptoBulkEntry {H : Type} : Lit × DataW H → Nat
  | (.string bytes, d) => bytes.length + uptoBulk d + 1
  | (_, d) => uptoBulk d + 1
 end
def uptoSmall : (H : Type) → List (DataW H) → Bool := fun _ ds => decide (uptoBulkAll ds ≤ 1048576)
def OpenSpec.upto (s : _root_.Go.ChangeSpec) : _root_.Go.OpenSpec := { _root_.Go.OpenSpec.ofChange s with cond := some uptoSmall }

/-- 'laws.FnExactStepCache', WHERE WHAT IT READS IS OF BULK AT MOST 1048576: true; the input reads as it did. -/
def fnExactStepCacheUptoRow : OpenClaim := { program := "ytdjafooabpcbmaa", sum := "176aee8a52e24a34bac988826fc893c90a435160041b07c29bb5407c9479abef", func := "loop.example/g01087/laws.FnExactStepCache", spec := "fnExactStepCache", inPlace := ["slices.overlaps[int]"], unfollowed := true, recurses := true, apart := false, narrowed := true }
def FnExactStepCacheUptoSaid : Prop := fnExactStepCacheUptoRow.holds Try.pinned (OpenSpec.upto fnExactStepCacheSpec)

/-- 'laws.FnExactRunCache', WHERE WHAT IT READS IS OF BULK AT MOST 1048576: true; the input reads as it did. -/
def fnExactRunCacheUptoRow : OpenClaim := { program := "ytdjafooabpcbmaa", sum := "176aee8a52e24a34bac988826fc893c90a435160041b07c29bb5407c9479abef", func := "loop.example/g01087/laws.FnExactRunCache", spec := "fnExactRunCache", inPlace := ["slices.overlaps[int]"], unfollowed := true, recurses := true, apart := false, narrowed := true }
def FnExactRunCacheUptoSaid : Prop := fnExactRunCacheUptoRow.holds Try.pinned (OpenSpec.upto fnExactRunCacheSpec)

/-- 'laws.FnExactVictimsOf', WHERE WHAT IT READS IS OF BULK AT MOST 1048576: true; the input reads as it did. -/
def fnExactVictimsOfUptoRow : OpenClaim := { program := "ytdjafooabpcbmaa", sum := "176aee8a52e24a34bac988826fc893c90a435160041b07c29bb5407c9479abef", func := "loop.example/g01087/laws.FnExactVictimsOf", spec := "fnExactVictimsOf", inPlace := ["slices.overlaps[int]"], unfollowed := true, recurses := true, apart := false, narrowed := true }
def FnExactVictimsOfUptoSaid : Prop := fnExactVictimsOfUptoRow.holds Try.pinned (OpenSpec.upto fnExactVictimsOfSpec)

/-- 'laws.FnExactFaultPlaces', WHERE WHAT IT READS IS OF BULK AT MOST 1048576: true; the input reads as it did. -/
def fnExactFaultPlacesUptoRow : OpenClaim := { program := "ytdjafooabpcbmaa", sum := "176aee8a52e24a34bac988826fc893c90a435160041b07c29bb5407c9479abef", func := "loop.example/g01087/laws.FnExactFaultPlaces", spec := "fnExactFaultPlaces", inPlace := ["slices.overlaps[int]"], unfollowed := true, recurses := true, apart := false, narrowed := true }
def FnExactFaultPlacesUptoSaid : Prop := fnExactFaultPlacesUptoRow.holds Try.pinned (OpenSpec.upto fnExactFaultPlacesSpec)

/-- 'laws.FnExactContentsOf', WHERE WHAT IT READS IS OF BULK AT MOST 1048576: true; the input reads as it did. -/
def fnExactContentsOfUptoRow : OpenClaim := { program := "ytdjafooabpcbmaa", sum := "176aee8a52e24a34bac988826fc893c90a435160041b07c29bb5407c9479abef", func := "loop.example/g01087/laws.FnExactContentsOf", spec := "fnExactContentsOf", inPlace := ["slices.overlaps[int]"], unfollowed := true, recurses := true, apart := false, narrowed := true }
def FnExactContentsOfUptoSaid : Prop := fnExactContentsOfUptoRow.holds Try.pinned (OpenSpec.upto fnExactContentsOfSpec)

/-- 'laws.FnExactFaultsBySize', WHERE WHAT IT READS IS OF BULK AT MOST 1048576: true; the input reads as it did. -/
def fnExactFaultsBySizeUptoRow : OpenClaim := { program := "ytdjafooabpcbmaa", sum := "176aee8a52e24a34bac988826fc893c90a435160041b07c29bb5407c9479abef", func := "loop.example/g01087/laws.FnExactFaultsBySize", spec := "fnExactFaultsBySize", inPlace := ["slices.overlaps[int]"], unfollowed := true, recurses := true, apart := false, narrowed := true }
def FnExactFaultsBySizeUptoSaid : Prop := fnExactFaultsBySizeUptoRow.holds Try.pinned (OpenSpec.upto fnExactFaultsBySizeSpec)

/-- 'laws.FnExactHitShare', WHERE WHAT IT READS IS OF BULK AT MOST 1048576: true; the input reads as it did. -/
def fnExactHitShareUptoRow : OpenClaim := { program := "ytdjafooabpcbmaa", sum := "176aee8a52e24a34bac988826fc893c90a435160041b07c29bb5407c9479abef", func := "loop.example/g01087/laws.FnExactHitShare", spec := "fnExactHitShare", inPlace := ["slices.overlaps[int]"], unfollowed := true, recurses := true, apart := false, narrowed := true }
def FnExactHitShareUptoSaid : Prop := fnExactHitShareUptoRow.holds Try.pinned (OpenSpec.upto fnExactHitShareSpec)

/-- 'laws.FnExactInclusionBreak', WHERE WHAT IT READS IS OF BULK AT MOST 1048576: true; the input reads as it did. -/
def fnExactInclusionBreakUptoRow : OpenClaim := { program := "ytdjafooabpcbmaa", sum := "176aee8a52e24a34bac988826fc893c90a435160041b07c29bb5407c9479abef", func := "loop.example/g01087/laws.FnExactInclusionBreak", spec := "fnExactInclusionBreak", inPlace := ["slices.overlaps[int]"], unfollowed := true, recurses := true, apart := false, narrowed := true }
def FnExactInclusionBreakUptoSaid : Prop := fnExactInclusionBreakUptoRow.holds Try.pinned (OpenSpec.upto fnExactInclusionBreakSpec)

/-- 'laws.FnExactAnomalyOf', WHERE WHAT IT READS IS OF BULK AT MOST 1048576: true; the input reads as it did. -/
def fnExactAnomalyOfUptoRow : OpenClaim := { program := "ytdjafooabpcbmaa", sum := "176aee8a52e24a34bac988826fc893c90a435160041b07c29bb5407c9479abef", func := "loop.example/g01087/laws.FnExactAnomalyOf", spec := "fnExactAnomalyOf", inPlace := ["slices.overlaps[int]"], unfollowed := true, recurses := true, apart := false, narrowed := true }
def FnExactAnomalyOfUptoSaid : Prop := fnExactAnomalyOfUptoRow.holds Try.pinned (OpenSpec.upto fnExactAnomalyOfSpec)

/-- 'laws.FnExactMarkingBreak', WHERE WHAT IT READS IS OF BULK AT MOST 1048576: true; the input reads as it did. -/
def fnExactMarkingBreakUptoRow : OpenClaim := { program := "ytdjafooabpcbmaa", sum := "176aee8a52e24a34bac988826fc893c90a435160041b07c29bb5407c9479abef", func := "loop.example/g01087/laws.FnExactMarkingBreak", spec := "fnExactMarkingBreak", inPlace := ["slices.overlaps[int]"], unfollowed := true, recurses := true, apart := false, narrowed := true }
def FnExactMarkingBreakUptoSaid : Prop := fnExactMarkingBreakUptoRow.holds Try.pinned (OpenSpec.upto fnExactMarkingBreakSpec)

/-- 'laws.FnExactFaultyPart', WHERE WHAT IT READS IS OF BULK AT MOST 1048576: true; the input reads as it did. -/
def fnExactFaultyPartUptoRow : OpenClaim := { program := "ytdjafooabpcbmaa", sum := "176aee8a52e24a34bac988826fc893c90a435160041b07c29bb5407c9479abef", func := "loop.example/g01087/laws.FnExactFaultyPart", spec := "fnExactFaultyPart", inPlace := ["slices.overlaps[int]"], unfollowed := true, recurses := true, apart := false, narrowed := true }
def FnExactFaultyPartUptoSaid : Prop := fnExactFaultyPartUptoRow.holds Try.pinned (OpenSpec.upto fnExactFaultyPartSpec)

/-- 'laws.FnRenamedCaches', WHERE WHAT IT READS IS OF BULK AT MOST 1048576: true; the input reads as it did. -/
def fnRenamedCachesUptoRow : OpenClaim := { program := "ytdjafooabpcbmaa", sum := "176aee8a52e24a34bac988826fc893c90a435160041b07c29bb5407c9479abef", func := "loop.example/g01087/laws.FnRenamedCaches", spec := "fnRenamedCaches", inPlace := ["slices.overlaps[int]"], unfollowed := true, recurses := true, apart := false, narrowed := true }
def FnRenamedCachesUptoSaid : Prop := fnRenamedCachesUptoRow.holds Try.pinned (OpenSpec.upto fnRenamedCachesSpec)

end Rows
end Go.Proofs.Ytdjafooabpcbmaa
