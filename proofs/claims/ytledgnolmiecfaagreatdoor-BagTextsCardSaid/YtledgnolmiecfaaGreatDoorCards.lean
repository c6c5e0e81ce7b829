/-
  DERIVED. GIVEN WITH THE SEED: THE CARDS: each row of YtledgnolmiecfaaGreatDoorRows.lean that lists a variable, with what it lists TIED to the program's text (the seventh form; the later family's looks); each row that meets fmt, with fmt's text TOLD by the authors' own Lean function (tested against real Go, not proved from fmt's source: count such statements apart). THE CARD IS WHAT COUNTS. Prove the row's statement (the work); the ties are given (YtledgnolmiecfaaGreatDoorTie.lean); close each card by the builder's one call (the guide's Derived/Test/ToyasCard.lean, 'card_holds'). Laid BY PROGRAM, IN A SANDBOX (cutbox-door.mjs). By AI agents, Wed Nov 11 2026. No macro, syntax, notation, axiom, sorry.
-/
import Derived.Test.YtledgnolmiecfaaGreatDoorRows
import GoSem.ClaimSeven
namespace Go.Proofs.YtledgnolmiecfaaGreatDoor
namespace Rows

/-- THE TIED CARD OF 'tidewrightlaw03.BagTexts'. -/
def bagTextsCard : Claim7 := { stood := { row := bagTextsRow, standIns := [], harness := (true, "dbd4650efb66e6c64290e3aea78fee2d343264fa891a31398539f274641fa932"), looks := true }, kinds := [], alts := [], laidByText := true, laidKinds := [.data, .data, .data, .sentinel, .sentinel], laidTests := true, laidLooks := .later }
def BagTextsCardSaid : Prop := Claim7.holds Tryz.pinned (.plain (OpenSpec.ofChange bagTextsSpec)) bagTextsCard

/-- THE SECOND FORM's CARD OF 'tidewrightlaw03.BagTexts'. -/
def bagTextsUptoCard : Claim7 := { stood := { row := bagTextsUptoRow, standIns := [], harness := (true, "dbd4650efb66e6c64290e3aea78fee2d343264fa891a31398539f274641fa932"), looks := true }, kinds := [], alts := [], laidByText := true, laidKinds := [.data, .data, .data, .sentinel, .sentinel], laidTests := true, laidLooks := .later }
def BagTextsUptoCardSaid : Prop := Claim7.holds Tryz.pinned (.plain (OpenSpec.upto bagTextsSpec)) bagTextsUptoCard
end Rows
end Go.Proofs.YtledgnolmiecfaaGreatDoor
