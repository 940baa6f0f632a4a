/-
  DERIVED. GIVEN WITH THE SEED: THE CARDS: each row of YtmjjefnmabbgdaaGreatDoorRows.lean that lists a variable, with what it lists TIED to the program's text (the seventh form; the later family's looks); each row that meets fmt, with fmt's text TOLD by the authors' own Lean function (tested against real Go, not proved from fmt's source: count such statements apart). THE CARD IS WHAT COUNTS. Prove the row's statement (the work); the ties are given (YtmjjefnmabbgdaaGreatDoorTie.lean); close each card by the builder's one call (the guide's Derived/Test/ToyasCard.lean, 'card_holds'). Laid BY PROGRAM, IN A SANDBOX (cutbox-door.mjs). By AI agents, Wed Nov 11 2026. No macro, syntax, notation, axiom, sorry.
-/
import Derived.Test.YtmjjefnmabbgdaaGreatDoorRows
import GoSem.ClaimSeven
namespace Go.Proofs.YtmjjefnmabbgdaaGreatDoor
namespace Rows

/-- THE TIED CARD OF 'escheatlaw16.AuditReads'. -/
def auditReadsCard : Claim7 := { stood := { row := auditReadsRow, standIns := [], harness := (true, "7a9e541145a0e7dd0ab5bf064c534f23c700e44d1de42241679338212120378d"), looks := false }, kinds := [], alts := [], laidByText := true, laidKinds := [.data, .data, .data, .data, .pinned], laidTests := true, laidLooks := .later }
def AuditReadsCardSaid : Prop := Claim7.holds Tryz.pinned (.plain (OpenSpec.ofChange auditReadsSpec)) auditReadsCard

/-- THE TIED CARD OF 'escheatlaw16.AuditReplays'. -/
def auditReplaysCard : Claim7 := { stood := { row := auditReplaysRow, standIns := [], harness := (true, "7a9e541145a0e7dd0ab5bf064c534f23c700e44d1de42241679338212120378d"), looks := false }, kinds := [], alts := [], laidByText := true, laidKinds := [.data, .data, .data, .data, .pinned], laidTests := true, laidLooks := .later }
def AuditReplaysCardSaid : Prop := Claim7.holds Tryz.pinned (.plain (OpenSpec.ofChange auditReplaysSpec)) auditReplaysCard

/-- THE TIED CARD OF 'escheatlaw16.AuditTwo'. -/
def auditTwoCard : Claim7 := { stood := { row := auditTwoRow, standIns := [], harness := (true, "7a9e541145a0e7dd0ab5bf064c534f23c700e44d1de42241679338212120378d"), looks := false }, kinds := [], alts := [], laidByText := true, laidKinds := [.data, .data, .data, .data, .pinned], laidTests := true, laidLooks := .later }
def AuditTwoCardSaid : Prop := Claim7.holds Tryz.pinned (.plain (OpenSpec.ofChange auditTwoSpec)) auditTwoCard

/-- THE TIED CARD OF 'escheatlaw16.AuditTurned'. -/
def auditTurnedCard : Claim7 := { stood := { row := auditTurnedRow, standIns := [], harness := (true, "7a9e541145a0e7dd0ab5bf064c534f23c700e44d1de42241679338212120378d"), looks := false }, kinds := [], alts := [], laidByText := true, laidKinds := [.data, .data, .data, .data, .pinned], laidTests := true, laidLooks := .later }
def AuditTurnedCardSaid : Prop := Claim7.holds Tryz.pinned (.plain (OpenSpec.ofChange auditTurnedSpec)) auditTurnedCard

/-- THE TIED CARD OF 'escheatlaw16.AuditBegins'. -/
def auditBeginsCard : Claim7 := { stood := { row := auditBeginsRow, standIns := [], harness := (true, "7a9e541145a0e7dd0ab5bf064c534f23c700e44d1de42241679338212120378d"), looks := false }, kinds := [], alts := [], laidByText := true, laidKinds := [.data, .data, .data, .data, .pinned], laidTests := true, laidLooks := .later }
def AuditBeginsCardSaid : Prop := Claim7.holds Tryz.pinned (.plain (OpenSpec.ofChange auditBeginsSpec)) auditBeginsCard

/-- THE SECOND FORM's CARD OF 'escheatlaw16.AuditReads'. -/
def auditReadsUptoCard : Claim7 := { stood := { row := auditReadsUptoRow, standIns := [], harness := (true, "7a9e541145a0e7dd0ab5bf064c534f23c700e44d1de42241679338212120378d"), looks := false }, kinds := [], alts := [], laidByText := true, laidKinds := [.data, .data, .data, .data, .pinned], laidTests := true, laidLooks := .later }
def AuditReadsUptoCardSaid : Prop := Claim7.holds Tryz.pinned (.plain (OpenSpec.upto auditReadsSpec)) auditReadsUptoCard

/-- THE SECOND FORM's CARD OF 'escheatlaw16.AuditReplays'. -/
def auditReplaysUptoCard : Claim7 := { stood := { row := auditReplaysUptoRow, standIns := [], harness := (true, "7a9e541145a0e7dd0ab5bf064c534f23c700e44d1de42241679338212120378d"), looks := false }, kinds := [], alts := [], laidByText := true, laidKinds := [.data, .data, .data, .data, .pinned], laidTests := true, laidLooks := .later }
def AuditReplaysUptoCardSaid : Prop := Claim7.holds Tryz.pinned (.plain (OpenSpec.upto auditReplaysSpec)) auditReplaysUptoCard

/-- THE SECOND FORM's CARD OF 'escheatlaw16.AuditTwo'. -/
def auditTwoUptoCard : Claim7 := { stood := { row := auditTwoUptoRow, standIns := [], harness := (true, "7a9e541145a0e7dd0ab5bf064c534f23c700e44d1de42241679338212120378d"), looks := false }, kinds := [], alts := [], laidByText := true, laidKinds := [.data, .data, .data, .data, .pinned], laidTests := true, laidLooks := .later }
def AuditTwoUptoCardSaid : Prop := Claim7.holds Tryz.pinned (.plain (OpenSpec.upto auditTwoSpec)) auditTwoUptoCard

/-- THE SECOND FORM's CARD OF 'escheatlaw16.AuditTurned'. -/
def auditTurnedUptoCard : Claim7 := { stood := { row := auditTurnedUptoRow, standIns := [], harness := (true, "7a9e541145a0e7dd0ab5bf064c534f23c700e44d1de42241679338212120378d"), looks := false }, kinds := [], alts := [], laidByText := true, laidKinds := [.data, .data, .data, .data, .pinned], laidTests := true, laidLooks := .later }
def AuditTurnedUptoCardSaid : Prop := Claim7.holds Tryz.pinned (.plain (OpenSpec.upto auditTurnedSpec)) auditTurnedUptoCard

/-- THE SECOND FORM's CARD OF 'escheatlaw16.AuditBegins'. -/
def auditBeginsUptoCard : Claim7 := { stood := { row := auditBeginsUptoRow, standIns := [], harness := (true, "7a9e541145a0e7dd0ab5bf064c534f23c700e44d1de42241679338212120378d"), looks := false }, kinds := [], alts := [], laidByText := true, laidKinds := [.data, .data, .data, .data, .pinned], laidTests := true, laidLooks := .later }
def AuditBeginsUptoCardSaid : Prop := Claim7.holds Tryz.pinned (.plain (OpenSpec.upto auditBeginsSpec)) auditBeginsUptoCard
end Rows
end Go.Proofs.YtmjjefnmabbgdaaGreatDoor
