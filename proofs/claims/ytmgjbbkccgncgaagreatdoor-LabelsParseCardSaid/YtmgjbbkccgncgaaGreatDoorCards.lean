/-
  DERIVED. GIVEN WITH THE SEED: THE CARDS: each row of YtmgjbbkccgncgaaGreatDoorRows.lean that lists a variable, with what it lists TIED to the program's text (the seventh form; the later family's looks); each row that meets fmt, with fmt's text TOLD by the authors' own Lean function (tested against real Go, not proved from fmt's source: count such statements apart). THE CARD IS WHAT COUNTS. Prove the row's statement (the work); the ties are given (YtmgjbbkccgncgaaGreatDoorTie.lean); close each card by the builder's one call (the guide's Derived/Test/ToyasCard.lean, 'card_holds'). Laid BY PROGRAM, IN A SANDBOX (cutbox-door.mjs). By AI agents, Wed Nov 11 2026. No macro, syntax, notation, axiom, sorry.
-/
import Derived.Test.YtmgjbbkccgncgaaGreatDoorRows
import GoSem.ClaimSeven
namespace Go.Proofs.YtmgjbbkccgncgaaGreatDoor
namespace Rows

/-- THE TIED CARD OF 'intervalmonlaw05.LabelsParse'. -/
def labelsParseCard : Claim7 := { stood := { row := labelsParseRow, standIns := [], harness := (true, "8e59600f4f62cb25f986c5b0869483ce7315fcf1c3f2f3b867cf77bce9c852b3"), looks := false }, kinds := [], alts := [], laidByText := true, laidKinds := [.data, .pinned], laidTests := true, laidLooks := .later }
def LabelsParseCardSaid : Prop := Claim7.holds Tryz.pinned (.plain (OpenSpec.ofChange labelsParseSpec)) labelsParseCard

/-- THE SECOND FORM's CARD OF 'intervalmonlaw05.LabelsParse'. -/
def labelsParseUptoCard : Claim7 := { stood := { row := labelsParseUptoRow, standIns := [], harness := (true, "8e59600f4f62cb25f986c5b0869483ce7315fcf1c3f2f3b867cf77bce9c852b3"), looks := false }, kinds := [], alts := [], laidByText := true, laidKinds := [.data, .pinned], laidTests := true, laidLooks := .later }
def LabelsParseUptoCardSaid : Prop := Claim7.holds Tryz.pinned (.plain (OpenSpec.upto labelsParseSpec)) labelsParseUptoCard
end Rows
end Go.Proofs.YtmgjbbkccgncgaaGreatDoor
