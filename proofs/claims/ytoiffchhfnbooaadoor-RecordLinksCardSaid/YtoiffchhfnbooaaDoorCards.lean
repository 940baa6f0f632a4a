/-
  DERIVED. GIVEN WITH THE SEED: THE CARDS: each row of YtoiffchhfnbooaaDoorRows.lean that lists a variable, with what it lists TIED to the program's text (the seventh form; the later family's looks); each row that meets fmt, with fmt's text TOLD by the authors' own Lean function (tested against real Go, not proved from fmt's source: count such statements apart). THE CARD IS WHAT COUNTS. Prove the row's statement (the work); the ties are given (YtoiffchhfnbooaaDoorTie.lean); close each card by the builder's one call (the guide's Derived/Test/ToyasCard.lean, 'card_holds'). Laid BY PROGRAM, IN A SANDBOX (cutbox-door.mjs). By AI agents, Wed Nov 11 2026. No macro, syntax, notation, axiom, sorry.
-/
import Derived.Test.YtoiffchhfnbooaaDoorRows
import GoSem.ClaimSeven
namespace Go.Proofs.YtoiffchhfnbooaaDoor
namespace Rows

/-- THE TIED CARD OF 'escheatlaw15.RecordLinks'. -/
def recordLinksCard : Claim7 := { stood := { row := recordLinksRow, standIns := [], harness := (true, "a2c600fa43a4d6ba545ee50998c5ba70251c83a002ab78ab0826a077c41510af"), looks := false }, kinds := [], alts := [], laidByText := true, laidKinds := [.data, .data, .data, .data, .pinned], laidTests := true, laidLooks := .later }
def RecordLinksCardSaid : Prop := Claim7.holds Tryd.pinned (.plain (OpenSpec.ofChange recordLinksSpec)) recordLinksCard

/-- THE SECOND FORM's CARD OF 'escheatlaw15.RecordLinks'. -/
def recordLinksUptoCard : Claim7 := { stood := { row := recordLinksUptoRow, standIns := [], harness := (true, "a2c600fa43a4d6ba545ee50998c5ba70251c83a002ab78ab0826a077c41510af"), looks := false }, kinds := [], alts := [], laidByText := true, laidKinds := [.data, .data, .data, .data, .pinned], laidTests := true, laidLooks := .later }
def RecordLinksUptoCardSaid : Prop := Claim7.holds Tryd.pinned (.plain (OpenSpec.upto recordLinksSpec)) recordLinksUptoCard
end Rows
end Go.Proofs.YtoiffchhfnbooaaDoor
