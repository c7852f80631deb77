/-
  DERIVED. GIVEN WITH THE SEED: THE CARDS: each row of YtgnfmbdomofgcaaDoorRows.lean that lists a variable, with what it lists TIED to the program's text (the seventh form; the later family's looks); each row that meets fmt, with fmt's text TOLD by the authors' own Lean function (tested against real Go, not proved from fmt's source: count such statements apart). THE CARD IS WHAT COUNTS. Prove the row's statement (the work); the ties are given (YtgnfmbdomofgcaaDoorTie.lean); close each card by the builder's one call (the guide's Derived/Test/ToyasCard.lean, 'card_holds'). Laid BY PROGRAM, IN A SANDBOX (cutbox-door.mjs). By AI agents, Wed Nov 11 2026. No macro, syntax, notation, axiom, sorry.
-/
import Derived.Test.YtgnfmbdomofgcaaDoorRows
import GoSem.ClaimSeven
namespace Go.Proofs.YtgnfmbdomofgcaaDoor
namespace Rows

/-- THE TIED CARD OF 'laws.FnRequestTexts'. -/
def fnRequestTextsCard : Claim7 := { stood := { row := fnRequestTextsRow, standIns := [], harness := (true, "77287e9ab634f60ab21f7ab8c0e56c24ccd57dc22b8a727a3664d684adc4860a"), looks := false }, kinds := [], alts := [], laidByText := true, laidKinds := [.data, .data, .data], laidTests := true, laidLooks := .later }
def FnRequestTextsCardSaid : Prop := Claim7.holds Tryd.pinned (.plain (OpenSpec.ofChange fnRequestTextsSpec)) fnRequestTextsCard

/-- THE TIED CARD OF 'laws.FnExactRequestsText'. -/
def fnExactRequestsTextCard : Claim7 := { stood := { row := fnExactRequestsTextRow, standIns := [], harness := (true, "77287e9ab634f60ab21f7ab8c0e56c24ccd57dc22b8a727a3664d684adc4860a"), looks := false }, kinds := [], alts := [], laidByText := true, laidKinds := [.data, .data, .data], laidTests := true, laidLooks := .later }
def FnExactRequestsTextCardSaid : Prop := Claim7.holds Tryd.pinned (.plain (OpenSpec.ofChange fnExactRequestsTextSpec)) fnExactRequestsTextCard

/-- THE SECOND FORM's CARD OF 'laws.FnRequestTexts'. -/
def fnRequestTextsUptoCard : Claim7 := { stood := { row := fnRequestTextsUptoRow, standIns := [], harness := (true, "77287e9ab634f60ab21f7ab8c0e56c24ccd57dc22b8a727a3664d684adc4860a"), looks := false }, kinds := [], alts := [], laidByText := true, laidKinds := [.data, .data, .data], laidTests := true, laidLooks := .later }
def FnRequestTextsUptoCardSaid : Prop := Claim7.holds Tryd.pinned (.plain (OpenSpec.upto fnRequestTextsSpec)) fnRequestTextsUptoCard

/-- THE SECOND FORM's CARD OF 'laws.FnExactRequestsText'. -/
def fnExactRequestsTextUptoCard : Claim7 := { stood := { row := fnExactRequestsTextUptoRow, standIns := [], harness := (true, "77287e9ab634f60ab21f7ab8c0e56c24ccd57dc22b8a727a3664d684adc4860a"), looks := false }, kinds := [], alts := [], laidByText := true, laidKinds := [.data, .data, .data], laidTests := true, laidLooks := .later }
def FnExactRequestsTextUptoCardSaid : Prop := Claim7.holds Tryd.pinned (.plain (OpenSpec.upto fnExactRequestsTextSpec)) fnExactRequestsTextUptoCard
end Rows
end Go.Proofs.YtgnfmbdomofgcaaDoor
