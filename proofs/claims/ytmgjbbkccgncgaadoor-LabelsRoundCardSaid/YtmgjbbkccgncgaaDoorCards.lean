/-
  DERIVED. GIVEN WITH THE SEED: THE CARDS: each row of YtmgjbbkccgncgaaDoorRows.lean that lists a variable, with what it lists TIED to the program's text (the seventh form; the later family's looks); each row that meets fmt, with fmt's text TOLD by the authors' own Lean function (tested against real Go, not proved from fmt's source: count such statements apart). THE CARD IS WHAT COUNTS. Prove the row's statement (the work); the ties are given (YtmgjbbkccgncgaaDoorTie.lean); close each card by the builder's one call (the guide's Derived/Test/ToyasCard.lean, 'card_holds'). Laid BY PROGRAM, IN A SANDBOX (cutbox-door.mjs). By AI agents, Wed Nov 11 2026. No macro, syntax, notation, axiom, sorry.
-/
import Derived.Test.YtmgjbbkccgncgaaDoorRows
import GoSem.ClaimSeven
namespace Go.Proofs.YtmgjbbkccgncgaaDoor
namespace Rows

/-- THE TIED CARD OF 'intervalmonlaw05.LabelsRound'. -/
def labelsRoundCard : Claim7 := { stood := { row := labelsRoundRow, standIns := [], harness := (true, "1bfb931e743ab37841a09335563ddc2a96159b5a940ed4800b01a579ea04416f"), looks := false }, kinds := [], alts := [], laidByText := true, laidKinds := [.data, .pinned], laidTests := true, laidLooks := .later }
def LabelsRoundCardSaid : Prop := Claim7.holds Tryd.pinned (.plain (OpenSpec.ofChange labelsRoundSpec)) labelsRoundCard

/-- THE SECOND FORM's CARD OF 'intervalmonlaw05.LabelsRound'. -/
def labelsRoundUptoCard : Claim7 := { stood := { row := labelsRoundUptoRow, standIns := [], harness := (true, "1bfb931e743ab37841a09335563ddc2a96159b5a940ed4800b01a579ea04416f"), looks := false }, kinds := [], alts := [], laidByText := true, laidKinds := [.data, .pinned], laidTests := true, laidLooks := .later }
def LabelsRoundUptoCardSaid : Prop := Claim7.holds Tryd.pinned (.plain (OpenSpec.upto labelsRoundSpec)) labelsRoundUptoCard
end Rows
end Go.Proofs.YtmgjbbkccgncgaaDoor
