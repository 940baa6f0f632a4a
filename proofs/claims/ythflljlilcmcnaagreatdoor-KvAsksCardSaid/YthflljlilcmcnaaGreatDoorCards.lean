/-
  DERIVED. GIVEN WITH THE SEED: THE CARDS: each row of YthflljlilcmcnaaGreatDoorRows.lean that lists a variable, with what it lists TIED to the program's text (the seventh form; the later family's looks); each row that meets fmt, with fmt's text TOLD by the authors' own Lean function (tested against real Go, not proved from fmt's source: count such statements apart). THE CARD IS WHAT COUNTS. Prove the row's statement (the work); the ties are given (YthflljlilcmcnaaGreatDoorTie.lean); close each card by the builder's one call (the guide's Derived/Test/ToyasCard.lean, 'card_holds'). Laid BY PROGRAM, IN A SANDBOX (cutbox-door.mjs). By AI agents, Wed Nov 11 2026. No macro, syntax, notation, axiom, sorry.
-/
import Derived.Test.YthflljlilcmcnaaGreatDoorRows
import GoSem.ClaimSeven
namespace Go.Proofs.YthflljlilcmcnaaGreatDoor
namespace Rows

/-- THE TIED CARD OF 'escheatlaw06.KvAsks'. -/
def kvAsksCard : Claim7 := { stood := { row := kvAsksRow, standIns := [], harness := (true, "ece35a72a785b5f3ff94a7eec7728b4b66045a50e923e814ae4276e31ce10a83"), looks := true }, kinds := [], alts := [], laidByText := true, laidKinds := [.data], laidTests := true, laidLooks := .later }
def KvAsksCardSaid : Prop := Claim7.holds Tryz.pinned (.plain (OpenSpec.ofChange kvAsksSpec)) kvAsksCard

/-- THE TIED CARD OF 'escheatlaw06.KvWhole'. -/
def kvWholeCard : Claim7 := { stood := { row := kvWholeRow, standIns := [], harness := (true, "ece35a72a785b5f3ff94a7eec7728b4b66045a50e923e814ae4276e31ce10a83"), looks := true }, kinds := [], alts := [], laidByText := true, laidKinds := [.data], laidTests := true, laidLooks := .later }
def KvWholeCardSaid : Prop := Claim7.holds Tryz.pinned (.plain (OpenSpec.ofChange kvWholeSpec)) kvWholeCard

/-- THE SECOND FORM's CARD OF 'escheatlaw06.KvAsks'. -/
def kvAsksUptoCard : Claim7 := { stood := { row := kvAsksUptoRow, standIns := [], harness := (true, "ece35a72a785b5f3ff94a7eec7728b4b66045a50e923e814ae4276e31ce10a83"), looks := true }, kinds := [], alts := [], laidByText := true, laidKinds := [.data], laidTests := true, laidLooks := .later }
def KvAsksUptoCardSaid : Prop := Claim7.holds Tryz.pinned (.plain (OpenSpec.upto kvAsksSpec)) kvAsksUptoCard

/-- THE SECOND FORM's CARD OF 'escheatlaw06.KvWhole'. -/
def kvWholeUptoCard : Claim7 := { stood := { row := kvWholeUptoRow, standIns := [], harness := (true, "ece35a72a785b5f3ff94a7eec7728b4b66045a50e923e814ae4276e31ce10a83"), looks := true }, kinds := [], alts := [], laidByText := true, laidKinds := [.data], laidTests := true, laidLooks := .later }
def KvWholeUptoCardSaid : Prop := Claim7.holds Tryz.pinned (.plain (OpenSpec.upto kvWholeSpec)) kvWholeUptoCard
end Rows
end Go.Proofs.YthflljlilcmcnaaGreatDoor
