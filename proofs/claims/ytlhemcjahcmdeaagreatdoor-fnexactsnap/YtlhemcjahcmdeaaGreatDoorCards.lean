/-
  DERIVED. GIVEN WITH THE SEED: THE CARDS: each row of YtlhemcjahcmdeaaGreatDoorRows.lean that lists a variable, with what it lists TIED to the program's text (the seventh form; the later family's looks); each row that meets fmt, with fmt's text TOLD by the authors' own Lean function (tested against real Go, not proved from fmt's source: count such statements apart). THE CARD IS WHAT COUNTS. Prove the row's statement (the work); the ties are given (YtlhemcjahcmdeaaGreatDoorTie.lean); close each card by the builder's one call (the guide's Derived/Test/ToyasCard.lean, 'card_holds'). Laid BY PROGRAM, IN A SANDBOX (cutbox-door.mjs). By AI agents, Wed Nov 11 2026. No macro, syntax, notation, axiom, sorry.
-/
import Derived.Test.YtlhemcjahcmdeaaGreatDoorRows
import GoSem.ClaimSeven
namespace Go.Proofs.YtlhemcjahcmdeaaGreatDoor
namespace Rows

/-- THE TIED CARD OF 'laws.FnReads'. -/
def fnReadsCard : Claim7 := { stood := { row := fnReadsRow, standIns := [], harness := (true, "a681bfdbc629810b532d3079e37cf942820d4760eabd68541505832f93a4a496"), looks := true }, kinds := [], alts := [], laidByText := true, laidKinds := [.handle], laidTests := true, laidLooks := .later }
def FnReadsCardSaid : Prop := Claim7.holds Tryz.pinned (.plain (OpenSpec.ofChange fnReadsSpec)) fnReadsCard

/-- THE TIED CARD OF 'laws.FnDoesBent'. -/
def fnDoesBentCard : Claim7 := { stood := { row := fnDoesBentRow, standIns := [], harness := (true, "a681bfdbc629810b532d3079e37cf942820d4760eabd68541505832f93a4a496"), looks := true }, kinds := [], alts := [], laidByText := true, laidKinds := [.handle], laidTests := true, laidLooks := .later }
def FnDoesBentCardSaid : Prop := Claim7.holds Tryz.pinned (.plain (OpenSpec.ofChange fnDoesBentSpec)) fnDoesBentCard

/-- THE TIED CARD OF 'laws.FnExactCreate'. -/
def fnExactCreateCard : Claim7 := { stood := { row := fnExactCreateRow, standIns := [], harness := (true, "a681bfdbc629810b532d3079e37cf942820d4760eabd68541505832f93a4a496"), looks := true }, kinds := [], alts := [], laidByText := true, laidKinds := [.handle], laidTests := true, laidLooks := .later }
def FnExactCreateCardSaid : Prop := Claim7.holds Tryz.pinned (.plain (OpenSpec.ofChange fnExactCreateSpec)) fnExactCreateCard

/-- THE TIED CARD OF 'laws.FnExactSnap'. -/
def fnExactSnapCard : Claim7 := { stood := { row := fnExactSnapRow, standIns := [], harness := (true, "a681bfdbc629810b532d3079e37cf942820d4760eabd68541505832f93a4a496"), looks := true }, kinds := [], alts := [], laidByText := true, laidKinds := [.handle], laidTests := true, laidLooks := .later }
def FnExactSnapCardSaid : Prop := Claim7.holds Tryz.pinned (.plain (OpenSpec.ofChange fnExactSnapSpec)) fnExactSnapCard

/-- THE TIED CARD OF 'laws.FnExactKill'. -/
def fnExactKillCard : Claim7 := { stood := { row := fnExactKillRow, standIns := [], harness := (true, "a681bfdbc629810b532d3079e37cf942820d4760eabd68541505832f93a4a496"), looks := true }, kinds := [], alts := [], laidByText := true, laidKinds := [.handle], laidTests := true, laidLooks := .later }
def FnExactKillCardSaid : Prop := Claim7.holds Tryz.pinned (.plain (OpenSpec.ofChange fnExactKillSpec)) fnExactKillCard

/-- THE TIED CARD OF 'laws.FnExactWrite'. -/
def fnExactWriteCard : Claim7 := { stood := { row := fnExactWriteRow, standIns := [], harness := (true, "a681bfdbc629810b532d3079e37cf942820d4760eabd68541505832f93a4a496"), looks := true }, kinds := [], alts := [], laidByText := true, laidKinds := [.handle], laidTests := true, laidLooks := .later }
def FnExactWriteCardSaid : Prop := Claim7.holds Tryz.pinned (.plain (OpenSpec.ofChange fnExactWriteSpec)) fnExactWriteCard

/-- THE TIED CARD OF 'laws.FnExactRead'. -/
def fnExactReadCard : Claim7 := { stood := { row := fnExactReadRow, standIns := [], harness := (true, "a681bfdbc629810b532d3079e37cf942820d4760eabd68541505832f93a4a496"), looks := true }, kinds := [], alts := [], laidByText := true, laidKinds := [.handle], laidTests := true, laidLooks := .later }
def FnExactReadCardSaid : Prop := Claim7.holds Tryz.pinned (.plain (OpenSpec.ofChange fnExactReadSpec)) fnExactReadCard

/-- THE TIED CARD OF 'laws.FnExactDiscard'. -/
def fnExactDiscardCard : Claim7 := { stood := { row := fnExactDiscardRow, standIns := [], harness := (true, "a681bfdbc629810b532d3079e37cf942820d4760eabd68541505832f93a4a496"), looks := true }, kinds := [], alts := [], laidByText := true, laidKinds := [.handle], laidTests := true, laidLooks := .later }
def FnExactDiscardCardSaid : Prop := Claim7.holds Tryz.pinned (.plain (OpenSpec.ofChange fnExactDiscardSpec)) fnExactDiscardCard

/-- THE TIED CARD OF 'laws.FnExactResize'. -/
def fnExactResizeCard : Claim7 := { stood := { row := fnExactResizeRow, standIns := [], harness := (true, "a681bfdbc629810b532d3079e37cf942820d4760eabd68541505832f93a4a496"), looks := true }, kinds := [], alts := [], laidByText := true, laidKinds := [.handle], laidTests := true, laidLooks := .later }
def FnExactResizeCardSaid : Prop := Claim7.holds Tryz.pinned (.plain (OpenSpec.ofChange fnExactResizeSpec)) fnExactResizeCard

/-- THE SECOND FORM's CARD OF 'laws.FnReads'. -/
def fnReadsUptoCard : Claim7 := { stood := { row := fnReadsUptoRow, standIns := [], harness := (true, "a681bfdbc629810b532d3079e37cf942820d4760eabd68541505832f93a4a496"), looks := true }, kinds := [], alts := [], laidByText := true, laidKinds := [.handle], laidTests := true, laidLooks := .later }
def FnReadsUptoCardSaid : Prop := Claim7.holds Tryz.pinned (.plain (OpenSpec.upto fnReadsSpec)) fnReadsUptoCard

/-- THE SECOND FORM's CARD OF 'laws.FnDoesBent'. -/
def fnDoesBentUptoCard : Claim7 := { stood := { row := fnDoesBentUptoRow, standIns := [], harness := (true, "a681bfdbc629810b532d3079e37cf942820d4760eabd68541505832f93a4a496"), looks := true }, kinds := [], alts := [], laidByText := true, laidKinds := [.handle], laidTests := true, laidLooks := .later }
def FnDoesBentUptoCardSaid : Prop := Claim7.holds Tryz.pinned (.plain (OpenSpec.upto fnDoesBentSpec)) fnDoesBentUptoCard

/-- THE SECOND FORM's CARD OF 'laws.FnExactCreate'. -/
def fnExactCreateUptoCard : Claim7 := { stood := { row := fnExactCreateUptoRow, standIns := [], harness := (true, "a681bfdbc629810b532d3079e37cf942820d4760eabd68541505832f93a4a496"), looks := true }, kinds := [], alts := [], laidByText := true, laidKinds := [.handle], laidTests := true, laidLooks := .later }
def FnExactCreateUptoCardSaid : Prop := Claim7.holds Tryz.pinned (.plain (OpenSpec.upto fnExactCreateSpec)) fnExactCreateUptoCard

/-- THE SECOND FORM's CARD OF 'laws.FnExactSnap'. -/
def fnExactSnapUptoCard : Claim7 := { stood := { row := fnExactSnapUptoRow, standIns := [], harness := (true, "a681bfdbc629810b532d3079e37cf942820d4760eabd68541505832f93a4a496"), looks := true }, kinds := [], alts := [], laidByText := true, laidKinds := [.handle], laidTests := true, laidLooks := .later }
def FnExactSnapUptoCardSaid : Prop := Claim7.holds Tryz.pinned (.plain (OpenSpec.upto fnExactSnapSpec)) fnExactSnapUptoCard

/-- THE SECOND FORM's CARD OF 'laws.FnExactKill'. -/
def fnExactKillUptoCard : Claim7 := { stood := { row := fnExactKillUptoRow, standIns := [], harness := (true, "a681bfdbc629810b532d3079e37cf942820d4760eabd68541505832f93a4a496"), looks := true }, kinds := [], alts := [], laidByText := true, laidKinds := [.handle], laidTests := true, laidLooks := .later }
def FnExactKillUptoCardSaid : Prop := Claim7.holds Tryz.pinned (.plain (OpenSpec.upto fnExactKillSpec)) fnExactKillUptoCard

/-- THE SECOND FORM's CARD OF 'laws.FnExactWrite'. -/
def fnExactWriteUptoCard : Claim7 := { stood := { row := fnExactWriteUptoRow, standIns := [], harness := (true, "a681bfdbc629810b532d3079e37cf942820d4760eabd68541505832f93a4a496"), looks := true }, kinds := [], alts := [], laidByText := true, laidKinds := [.handle], laidTests := true, laidLooks := .later }
def FnExactWriteUptoCardSaid : Prop := Claim7.holds Tryz.pinned (.plain (OpenSpec.upto fnExactWriteSpec)) fnExactWriteUptoCard

/-- THE SECOND FORM's CARD OF 'laws.FnExactRead'. -/
def fnExactReadUptoCard : Claim7 := { stood := { row := fnExactReadUptoRow, standIns := [], harness := (true, "a681bfdbc629810b532d3079e37cf942820d4760eabd68541505832f93a4a496"), looks := true }, kinds := [], alts := [], laidByText := true, laidKinds := [.handle], laidTests := true, laidLooks := .later }
def FnExactReadUptoCardSaid : Prop := Claim7.holds Tryz.pinned (.plain (OpenSpec.upto fnExactReadSpec)) fnExactReadUptoCard

/-- THE SECOND FORM's CARD OF 'laws.FnExactDiscard'. -/
def fnExactDiscardUptoCard : Claim7 := { stood := { row := fnExactDiscardUptoRow, standIns := [], harness := (true, "a681bfdbc629810b532d3079e37cf942820d4760eabd68541505832f93a4a496"), looks := true }, kinds := [], alts := [], laidByText := true, laidKinds := [.handle], laidTests := true, laidLooks := .later }
def FnExactDiscardUptoCardSaid : Prop := Claim7.holds Tryz.pinned (.plain (OpenSpec.upto fnExactDiscardSpec)) fnExactDiscardUptoCard

/-- THE SECOND FORM's CARD OF 'laws.FnExactResize'. -/
def fnExactResizeUptoCard : Claim7 := { stood := { row := fnExactResizeUptoRow, standIns := [], harness := (true, "a681bfdbc629810b532d3079e37cf942820d4760eabd68541505832f93a4a496"), looks := true }, kinds := [], alts := [], laidByText := true, laidKinds := [.handle], laidTests := true, laidLooks := .later }
def FnExactResizeUptoCardSaid : Prop := Claim7.holds Tryz.pinned (.plain (OpenSpec.upto fnExactResizeSpec)) fnExactResizeUptoCard
end Rows
end Go.Proofs.YtlhemcjahcmdeaaGreatDoor
