/-
  DERIVED. GIVEN WITH THE SEED: THE CARDS: each row of YtmnbcofonhlplaaDoorRows.lean that lists a variable, with what it lists TIED to the program's text (the seventh form; the later family's looks); each row that meets fmt, with fmt's text TOLD by the authors' own Lean function (tested against real Go, not proved from fmt's source: count such statements apart). THE CARD IS WHAT COUNTS. Prove the row's statement (the work); the ties are given (YtmnbcofonhlplaaDoorTie.lean); close each card by the builder's one call (the guide's Derived/Test/ToyasCard.lean, 'card_holds'). Laid BY PROGRAM, IN A SANDBOX (cutbox-door.mjs). By AI agents, Wed Nov 11 2026. No macro, syntax, notation, axiom, sorry.
-/
import Derived.Test.YtmnbcofonhlplaaDoorRows
import GoSem.ClaimSeven
namespace Go.Proofs.YtmnbcofonhlplaaDoor
namespace Rows

/-- THE TIED CARD OF 'tidewrightlaw06.MarkGauges'. -/
def markGaugesCard : Claim7 := { stood := { row := markGaugesRow, standIns := [], harness := (true, "a3ef8d6e740bf219f9cd999a7ef3e0a3880c4fa27ae72a95f0bbc68838a515fd"), looks := true }, kinds := [], alts := [], laidByText := true, laidKinds := [.data, .data, .data, .sentinel, .sentinel], laidTests := true, laidLooks := .later }
def MarkGaugesCardSaid : Prop := Claim7.holds Tryd.pinned (.plain (OpenSpec.ofChange markGaugesSpec)) markGaugesCard

/-- THE TIED CARD OF 'tidewrightlaw06.MarkReads'. -/
def markReadsCard : Claim7 := { stood := { row := markReadsRow, standIns := [], harness := (true, "a3ef8d6e740bf219f9cd999a7ef3e0a3880c4fa27ae72a95f0bbc68838a515fd"), looks := true }, kinds := [], alts := [], laidByText := true, laidKinds := [.data, .data, .data, .sentinel, .sentinel], laidTests := true, laidLooks := .later }
def MarkReadsCardSaid : Prop := Claim7.holds Tryd.pinned (.plain (OpenSpec.ofChange markReadsSpec)) markReadsCard

/-- THE SECOND FORM's CARD OF 'tidewrightlaw06.MarkGauges'. -/
def markGaugesUptoCard : Claim7 := { stood := { row := markGaugesUptoRow, standIns := [], harness := (true, "a3ef8d6e740bf219f9cd999a7ef3e0a3880c4fa27ae72a95f0bbc68838a515fd"), looks := true }, kinds := [], alts := [], laidByText := true, laidKinds := [.data, .data, .data, .sentinel, .sentinel], laidTests := true, laidLooks := .later }
def MarkGaugesUptoCardSaid : Prop := Claim7.holds Tryd.pinned (.plain (OpenSpec.upto markGaugesSpec)) markGaugesUptoCard

/-- THE SECOND FORM's CARD OF 'tidewrightlaw06.MarkReads'. -/
def markReadsUptoCard : Claim7 := { stood := { row := markReadsUptoRow, standIns := [], harness := (true, "a3ef8d6e740bf219f9cd999a7ef3e0a3880c4fa27ae72a95f0bbc68838a515fd"), looks := true }, kinds := [], alts := [], laidByText := true, laidKinds := [.data, .data, .data, .sentinel, .sentinel], laidTests := true, laidLooks := .later }
def MarkReadsUptoCardSaid : Prop := Claim7.holds Tryd.pinned (.plain (OpenSpec.upto markReadsSpec)) markReadsUptoCard
end Rows
end Go.Proofs.YtmnbcofonhlplaaDoor
