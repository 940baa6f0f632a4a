/-
  DERIVED. GIVEN WITH THE SEED: THE CARDS: each row of YtcdehejgnnnimaaGreatDoorRows.lean that lists a variable, with what it lists TIED to the program's text (the seventh form; the later family's looks); each row that meets fmt, with fmt's text TOLD by the authors' own Lean function (tested against real Go, not proved from fmt's source: count such statements apart). THE CARD IS WHAT COUNTS. Prove the row's statement (the work); the ties are given (YtcdehejgnnnimaaGreatDoorTie.lean); close each card by the builder's one call (the guide's Derived/Test/ToyasCard.lean, 'card_holds'). Laid BY PROGRAM, IN A SANDBOX (cutbox-door.mjs). By AI agents, Wed Nov 11 2026. No macro, syntax, notation, axiom, sorry.
-/
import Derived.Test.YtcdehejgnnnimaaGreatDoorRows
import GoSem.ClaimSeven
namespace Go.Proofs.YtcdehejgnnnimaaGreatDoor
namespace Rows

/-- THE TIED CARD OF 'escheatlaw06.KvWhole'. -/
def kvWholeCard : Claim7 := { stood := { row := kvWholeRow, standIns := [], harness := (true, "8f8f7aaaa8f46e383b502d05d0345c75c2d781d0152d95b1775f535fe2d58495"), looks := true }, kinds := [], alts := [], laidByText := true, laidKinds := [.data], laidTests := true, laidLooks := .later }
def KvWholeCardSaid : Prop := Claim7.holds Tryz.pinned (.plain (OpenSpec.ofChange kvWholeSpec)) kvWholeCard

/-- THE SECOND FORM's CARD OF 'escheatlaw06.KvWhole'. -/
def kvWholeUptoCard : Claim7 := { stood := { row := kvWholeUptoRow, standIns := [], harness := (true, "8f8f7aaaa8f46e383b502d05d0345c75c2d781d0152d95b1775f535fe2d58495"), looks := true }, kinds := [], alts := [], laidByText := true, laidKinds := [.data], laidTests := true, laidLooks := .later }
def KvWholeUptoCardSaid : Prop := Claim7.holds Tryz.pinned (.plain (OpenSpec.upto kvWholeSpec)) kvWholeUptoCard
end Rows
end Go.Proofs.YtcdehejgnnnimaaGreatDoor
