/-
  DERIVED. GIVEN WITH THE SEED: THE CARDS: each row of YtlhhkiglpehnfaaDoorRows.lean that lists a variable, with what it lists TIED to the program's text (the seventh form; the later family's looks); each row that meets fmt, with fmt's text TOLD by the authors' own Lean function (tested against real Go, not proved from fmt's source: count such statements apart). THE CARD IS WHAT COUNTS. Prove the row's statement (the work); the ties are given (YtlhhkiglpehnfaaDoorTie.lean); close each card by the builder's one call (the guide's Derived/Test/ToyasCard.lean, 'card_holds'). Laid BY PROGRAM, IN A SANDBOX (cutbox-door.mjs). By AI agents, Wed Nov 11 2026. No macro, syntax, notation, axiom, sorry.
-/
import Derived.Test.YtlhhkiglpehnfaaDoorRows
import GoSem.ClaimSeven
namespace Go.Proofs.YtlhhkiglpehnfaaDoor
namespace Rows

/-- THE TIED CARD OF 'tidewrightlaw02.RowSchemaTexts'. -/
def rowSchemaTextsCard : Claim7 := { stood := { row := rowSchemaTextsRow, standIns := [], harness := (true, "4428313a2305b6f3cd1d2e183d57a18389f16df8aef180633d3bfaeff915a1b8"), looks := false }, kinds := [], alts := [], laidByText := true, laidKinds := [.data, .data, .data, .data, .pinned], laidTests := true, laidLooks := .later }
def RowSchemaTextsCardSaid : Prop := Claim7.holds Tryd.pinned (.plain (OpenSpec.ofChange rowSchemaTextsSpec)) rowSchemaTextsCard

/-- THE SECOND FORM's CARD OF 'tidewrightlaw02.RowSchemaTexts'. -/
def rowSchemaTextsUptoCard : Claim7 := { stood := { row := rowSchemaTextsUptoRow, standIns := [], harness := (true, "4428313a2305b6f3cd1d2e183d57a18389f16df8aef180633d3bfaeff915a1b8"), looks := false }, kinds := [], alts := [], laidByText := true, laidKinds := [.data, .data, .data, .data, .pinned], laidTests := true, laidLooks := .later }
def RowSchemaTextsUptoCardSaid : Prop := Claim7.holds Tryd.pinned (.plain (OpenSpec.upto rowSchemaTextsSpec)) rowSchemaTextsUptoCard
end Rows
end Go.Proofs.YtlhhkiglpehnfaaDoor
