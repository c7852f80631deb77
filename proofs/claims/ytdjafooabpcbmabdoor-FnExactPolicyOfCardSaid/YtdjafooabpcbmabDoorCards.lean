/-
  DERIVED. GIVEN WITH THE SEED: THE CARDS: each row of YtdjafooabpcbmabDoorRows.lean that lists a variable, with what it lists TIED to the program's text (the seventh form; the later family's looks); each row that meets fmt, with fmt's text TOLD by the authors' own Lean function (tested against real Go, not proved from fmt's source: count such statements apart). THE CARD IS WHAT COUNTS. Prove the row's statement (the work); the ties are given (YtdjafooabpcbmabDoorTie.lean); close each card by the builder's one call (the guide's Derived/Test/ToyasCard.lean, 'card_holds'). Laid BY PROGRAM, IN A SANDBOX (cutbox-door.mjs). By AI agents, Wed Nov 11 2026. No macro, syntax, notation, axiom, sorry.
-/
import Derived.Test.YtdjafooabpcbmabDoorRows
import GoSem.ClaimSeven
namespace Go.Proofs.YtdjafooabpcbmabDoor
namespace Rows

/-- THE TIED CARD OF 'laws.FnExactPolicyName'. -/
def fnExactPolicyNameCard : Claim7 := { stood := { row := fnExactPolicyNameRow, standIns := [], harness := (true, "4dd74a9decd313ccacc37cc32205a72bec4dce71c91b5707c85c787e3bb8842d"), looks := false }, kinds := [], alts := [], laidByText := true, laidKinds := [.data], laidTests := true, laidLooks := .later }
def FnExactPolicyNameCardSaid : Prop := Claim7.holds Tryd.pinned (.plain (OpenSpec.ofChange fnExactPolicyNameSpec)) fnExactPolicyNameCard

/-- THE TIED CARD OF 'laws.FnExactPolicyOf'. -/
def fnExactPolicyOfCard : Claim7 := { stood := { row := fnExactPolicyOfRow, standIns := [], harness := (true, "4dd74a9decd313ccacc37cc32205a72bec4dce71c91b5707c85c787e3bb8842d"), looks := false }, kinds := [], alts := [], laidByText := true, laidKinds := [.data], laidTests := true, laidLooks := .later }
def FnExactPolicyOfCardSaid : Prop := Claim7.holds Tryd.pinned (.plain (OpenSpec.ofChange fnExactPolicyOfSpec)) fnExactPolicyOfCard

/-- THE SECOND FORM's CARD OF 'laws.FnExactPolicyName'. -/
def fnExactPolicyNameUptoCard : Claim7 := { stood := { row := fnExactPolicyNameUptoRow, standIns := [], harness := (true, "4dd74a9decd313ccacc37cc32205a72bec4dce71c91b5707c85c787e3bb8842d"), looks := false }, kinds := [], alts := [], laidByText := true, laidKinds := [.data], laidTests := true, laidLooks := .later }
def FnExactPolicyNameUptoCardSaid : Prop := Claim7.holds Tryd.pinned (.plain (OpenSpec.upto fnExactPolicyNameSpec)) fnExactPolicyNameUptoCard

/-- THE SECOND FORM's CARD OF 'laws.FnExactPolicyOf'. -/
def fnExactPolicyOfUptoCard : Claim7 := { stood := { row := fnExactPolicyOfUptoRow, standIns := [], harness := (true, "4dd74a9decd313ccacc37cc32205a72bec4dce71c91b5707c85c787e3bb8842d"), looks := false }, kinds := [], alts := [], laidByText := true, laidKinds := [.data], laidTests := true, laidLooks := .later }
def FnExactPolicyOfUptoCardSaid : Prop := Claim7.holds Tryd.pinned (.plain (OpenSpec.upto fnExactPolicyOfSpec)) fnExactPolicyOfUptoCard
end Rows
end Go.Proofs.YtdjafooabpcbmabDoor
