/-
  DERIVED. GIVEN WITH THE SEED: THE CARDS: each row of YtfcdogkakjmplaaGreatDoorRows.lean that lists a variable, with what it lists TIED to the program's text (the seventh form; the later family's looks); each row that meets fmt, with fmt's text TOLD by the authors' own Lean function (tested against real Go, not proved from fmt's source: count such statements apart). THE CARD IS WHAT COUNTS. Prove the row's statement (the work); the ties are given (YtfcdogkakjmplaaGreatDoorTie.lean); close each card by the builder's one call (the guide's Derived/Test/ToyasCard.lean, 'card_holds'). Laid BY PROGRAM, IN A SANDBOX (cutbox-door.mjs). By AI agents, Wed Nov 11 2026. No macro, syntax, notation, axiom, sorry.
-/
import Derived.Test.YtfcdogkakjmplaaGreatDoorRows
import GoSem.ClaimSeven
namespace Go.Proofs.YtfcdogkakjmplaaGreatDoor
namespace Rows

/-- THE TIED CARD OF 'escheatlaw06.KvBytes'. -/
def kvBytesCard : Claim7 := { stood := { row := kvBytesRow, standIns := [], harness := (true, "c3ebe15ef893065ab521ebdefef1206dc2289a381bb8ebae52b6e09258f6e8fd"), looks := true }, kinds := [], alts := [], laidByText := true, laidKinds := [.data], laidTests := true, laidLooks := .later }
def KvBytesCardSaid : Prop := Claim7.holds Tryz.pinned (.plain (OpenSpec.ofChange kvBytesSpec)) kvBytesCard

/-- THE TIED CARD OF 'escheatlaw06.KvAsks'. -/
def kvAsksCard : Claim7 := { stood := { row := kvAsksRow, standIns := [], harness := (true, "c3ebe15ef893065ab521ebdefef1206dc2289a381bb8ebae52b6e09258f6e8fd"), looks := true }, kinds := [], alts := [], laidByText := true, laidKinds := [.data], laidTests := true, laidLooks := .later }
def KvAsksCardSaid : Prop := Claim7.holds Tryz.pinned (.plain (OpenSpec.ofChange kvAsksSpec)) kvAsksCard

/-- THE TIED CARD OF 'escheatlaw06.KvWhole'. -/
def kvWholeCard : Claim7 := { stood := { row := kvWholeRow, standIns := [], harness := (true, "c3ebe15ef893065ab521ebdefef1206dc2289a381bb8ebae52b6e09258f6e8fd"), looks := true }, kinds := [], alts := [], laidByText := true, laidKinds := [.data], laidTests := true, laidLooks := .later }
def KvWholeCardSaid : Prop := Claim7.holds Tryz.pinned (.plain (OpenSpec.ofChange kvWholeSpec)) kvWholeCard

/-- THE TIED CARD OF 'escheatlaw06.KvSnaps'. -/
def kvSnapsCard : Claim7 := { stood := { row := kvSnapsRow, standIns := [], harness := (true, "c3ebe15ef893065ab521ebdefef1206dc2289a381bb8ebae52b6e09258f6e8fd"), looks := true }, kinds := [], alts := [], laidByText := true, laidKinds := [.data], laidTests := true, laidLooks := .later }
def KvSnapsCardSaid : Prop := Claim7.holds Tryz.pinned (.plain (OpenSpec.ofChange kvSnapsSpec)) kvSnapsCard

/-- THE TIED CARD OF 'escheatlaw06.KvKeys'. -/
def kvKeysCard : Claim7 := { stood := { row := kvKeysRow, standIns := [], harness := (true, "c3ebe15ef893065ab521ebdefef1206dc2289a381bb8ebae52b6e09258f6e8fd"), looks := true }, kinds := [], alts := [], laidByText := true, laidKinds := [.data], laidTests := true, laidLooks := .later }
def KvKeysCardSaid : Prop := Claim7.holds Tryz.pinned (.plain (OpenSpec.ofChange kvKeysSpec)) kvKeysCard

/-- THE SECOND FORM's CARD OF 'escheatlaw06.KvBytes'. -/
def kvBytesUptoCard : Claim7 := { stood := { row := kvBytesUptoRow, standIns := [], harness := (true, "c3ebe15ef893065ab521ebdefef1206dc2289a381bb8ebae52b6e09258f6e8fd"), looks := true }, kinds := [], alts := [], laidByText := true, laidKinds := [.data], laidTests := true, laidLooks := .later }
def KvBytesUptoCardSaid : Prop := Claim7.holds Tryz.pinned (.plain (OpenSpec.upto kvBytesSpec)) kvBytesUptoCard

/-- THE SECOND FORM's CARD OF 'escheatlaw06.KvAsks'. -/
def kvAsksUptoCard : Claim7 := { stood := { row := kvAsksUptoRow, standIns := [], harness := (true, "c3ebe15ef893065ab521ebdefef1206dc2289a381bb8ebae52b6e09258f6e8fd"), looks := true }, kinds := [], alts := [], laidByText := true, laidKinds := [.data], laidTests := true, laidLooks := .later }
def KvAsksUptoCardSaid : Prop := Claim7.holds Tryz.pinned (.plain (OpenSpec.upto kvAsksSpec)) kvAsksUptoCard

/-- THE SECOND FORM's CARD OF 'escheatlaw06.KvWhole'. -/
def kvWholeUptoCard : Claim7 := { stood := { row := kvWholeUptoRow, standIns := [], harness := (true, "c3ebe15ef893065ab521ebdefef1206dc2289a381bb8ebae52b6e09258f6e8fd"), looks := true }, kinds := [], alts := [], laidByText := true, laidKinds := [.data], laidTests := true, laidLooks := .later }
def KvWholeUptoCardSaid : Prop := Claim7.holds Tryz.pinned (.plain (OpenSpec.upto kvWholeSpec)) kvWholeUptoCard

/-- THE SECOND FORM's CARD OF 'escheatlaw06.KvSnaps'. -/
def kvSnapsUptoCard : Claim7 := { stood := { row := kvSnapsUptoRow, standIns := [], harness := (true, "c3ebe15ef893065ab521ebdefef1206dc2289a381bb8ebae52b6e09258f6e8fd"), looks := true }, kinds := [], alts := [], laidByText := true, laidKinds := [.data], laidTests := true, laidLooks := .later }
def KvSnapsUptoCardSaid : Prop := Claim7.holds Tryz.pinned (.plain (OpenSpec.upto kvSnapsSpec)) kvSnapsUptoCard

/-- THE SECOND FORM's CARD OF 'escheatlaw06.KvKeys'. -/
def kvKeysUptoCard : Claim7 := { stood := { row := kvKeysUptoRow, standIns := [], harness := (true, "c3ebe15ef893065ab521ebdefef1206dc2289a381bb8ebae52b6e09258f6e8fd"), looks := true }, kinds := [], alts := [], laidByText := true, laidKinds := [.data], laidTests := true, laidLooks := .later }
def KvKeysUptoCardSaid : Prop := Claim7.holds Tryz.pinned (.plain (OpenSpec.upto kvKeysSpec)) kvKeysUptoCard
end Rows
end Go.Proofs.YtfcdogkakjmplaaGreatDoor
