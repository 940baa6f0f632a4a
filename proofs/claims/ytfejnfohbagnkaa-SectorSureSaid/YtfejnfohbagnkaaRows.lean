/-
  No cell of these rows narrows 'for every input' (looked for: loops, veiled, ifaces, maps, wideKeys, modest, calm, conditions, laid).
  DERIVED. THE GIVEN ROWS OF THIS SEAT. 6 by the template 'for every input the law returns true; each argument reads behind the call as it read before'; 0 by the template 'total and deterministic' (their statements: YtfejnfohbagnkaaTotals.lean).
  GIVEN WITH THE SEED: the statements are not yours to turn. If you find one false, say at which input.
  Laid BY PROGRAM, IN A SANDBOX (cutbox-rows.mjs): the forced cells as the released guide's own fill.sh prints them over the translation b951b221dcc2af07… (all of the seat's roots in one cut). By AI agents, Wed Nov 11 2026. No macro, syntax, notation, axiom, sorry.
-/
import Derived.Test.YtfejnfohbagnkaaChecked
import GoSem.Claim
import GoSem.ClaimJoined
import GoSem.ClaimMapViews
import Derived.JoinedTies
import Derived.KernelRfl
namespace Go.Proofs.Ytfejnfohbagnkaa
/- THE CELL 'sum', in the pinned program and in every row, IS THE sha256 OF THE DUMP (.gsa) THAT YtfejnfohbagnkaaProg.lean LOADS. Nothing in Lean hashes anything: it is a label: what it is worth is what the hold of that sum in a sandbox is worth. -/
noncomputable def Try.pinned : Pinned := { name := "ytfejnfohbagnkaa", sum := "b951b221dcc2af07ee20d338802bf5ac3c741e0789fa97c2104b10edf8c043da", checked := Try.checked }
namespace Rows
def none {H : Type} : Left H := { results := [], args := [] }

/-- 'escheatlaw01.SectorReads': WHATEVER THE INPUT: true; the input reads as it did. -/
def sectorReadsSpec : ChangeSpec := { name := "sectorReads", fn := fun _ => fun
  | [d1, d2, d3] => { results := [.lit (.bool true)], args := [d1, d2, d3] }
  | _ => none }
def sectorReadsRow : OpenClaim := { program := "ytfejnfohbagnkaa", sum := "b951b221dcc2af07ee20d338802bf5ac3c741e0789fa97c2104b10edf8c043da", func := "escheat/escheatlaw01.SectorReads", spec := "sectorReads", unfollowed := true, recurses := true, apart := false }
def SectorReadsSaid : Prop := sectorReadsRow.holds Try.pinned (OpenSpec.ofChange sectorReadsSpec)

/-- ITS FALSE NEIGHBOUR: 'it returns false'. Refute it at one input. -/
def sectorReadsWrong : ChangeSpec := { name := "sectorReads", fn := fun _ => fun
  | [d1, d2, d3] => { results := [.lit (.bool false)], args := [d1, d2, d3] }
  | _ => none }
def SectorReadsWrongFalsely : Prop := sectorReadsRow.holds Try.pinned (OpenSpec.ofChange sectorReadsWrong)

/-- 'escheatlaw01.SectorPuts': WHATEVER THE INPUT: true; the input reads as it did. -/
def sectorPutsSpec : ChangeSpec := { name := "sectorPuts", fn := fun _ => fun
  | [d1, d2] => { results := [.lit (.bool true)], args := [d1, d2] }
  | _ => none }
def sectorPutsRow : OpenClaim := { program := "ytfejnfohbagnkaa", sum := "b951b221dcc2af07ee20d338802bf5ac3c741e0789fa97c2104b10edf8c043da", func := "escheat/escheatlaw01.SectorPuts", spec := "sectorPuts", unfollowed := true, recurses := true, apart := false }
def SectorPutsSaid : Prop := sectorPutsRow.holds Try.pinned (OpenSpec.ofChange sectorPutsSpec)

/-- ITS FALSE NEIGHBOUR: 'it returns false'. Refute it at one input. -/
def sectorPutsWrong : ChangeSpec := { name := "sectorPuts", fn := fun _ => fun
  | [d1, d2] => { results := [.lit (.bool false)], args := [d1, d2] }
  | _ => none }
def SectorPutsWrongFalsely : Prop := sectorPutsRow.holds Try.pinned (OpenSpec.ofChange sectorPutsWrong)

/-- 'escheatlaw01.SectorStarts': WHATEVER THE INPUT: true; the input reads as it did. -/
def sectorStartsSpec : ChangeSpec := { name := "sectorStarts", fn := fun _ => fun
  | [d1, d2, d3] => { results := [.lit (.bool true)], args := [d1, d2, d3] }
  | _ => none }
def sectorStartsRow : OpenClaim := { program := "ytfejnfohbagnkaa", sum := "b951b221dcc2af07ee20d338802bf5ac3c741e0789fa97c2104b10edf8c043da", func := "escheat/escheatlaw01.SectorStarts", spec := "sectorStarts", unfollowed := true, recurses := true, apart := false }
def SectorStartsSaid : Prop := sectorStartsRow.holds Try.pinned (OpenSpec.ofChange sectorStartsSpec)

/-- ITS FALSE NEIGHBOUR: 'it returns false'. Refute it at one input. -/
def sectorStartsWrong : ChangeSpec := { name := "sectorStarts", fn := fun _ => fun
  | [d1, d2, d3] => { results := [.lit (.bool false)], args := [d1, d2, d3] }
  | _ => none }
def SectorStartsWrongFalsely : Prop := sectorStartsRow.holds Try.pinned (OpenSpec.ofChange sectorStartsWrong)

/-- 'escheatlaw01.SectorSure': WHATEVER THE INPUT: true; the input reads as it did. -/
def sectorSureSpec : ChangeSpec := { name := "sectorSure", fn := fun _ => fun
  | [d1, d2, d3] => { results := [.lit (.bool true)], args := [d1, d2, d3] }
  | _ => none }
def sectorSureRow : OpenClaim := { program := "ytfejnfohbagnkaa", sum := "b951b221dcc2af07ee20d338802bf5ac3c741e0789fa97c2104b10edf8c043da", func := "escheat/escheatlaw01.SectorSure", spec := "sectorSure", unfollowed := true, recurses := true, apart := false }
def SectorSureSaid : Prop := sectorSureRow.holds Try.pinned (OpenSpec.ofChange sectorSureSpec)

/-- ITS FALSE NEIGHBOUR: 'it returns false'. Refute it at one input. -/
def sectorSureWrong : ChangeSpec := { name := "sectorSure", fn := fun _ => fun
  | [d1, d2, d3] => { results := [.lit (.bool false)], args := [d1, d2, d3] }
  | _ => none }
def SectorSureWrongFalsely : Prop := sectorSureRow.holds Try.pinned (OpenSpec.ofChange sectorSureWrong)

/-- 'escheatlaw01.SectorView': WHATEVER THE INPUT: true; the input reads as it did. -/
def sectorViewSpec : ChangeSpec := { name := "sectorView", fn := fun _ => fun
  | [d1, d2, d3] => { results := [.lit (.bool true)], args := [d1, d2, d3] }
  | _ => none }
def sectorViewRow : OpenClaim := { program := "ytfejnfohbagnkaa", sum := "b951b221dcc2af07ee20d338802bf5ac3c741e0789fa97c2104b10edf8c043da", func := "escheat/escheatlaw01.SectorView", spec := "sectorView", unfollowed := true, recurses := true, apart := false }
def SectorViewSaid : Prop := sectorViewRow.holds Try.pinned (OpenSpec.ofChange sectorViewSpec)

/-- ITS FALSE NEIGHBOUR: 'it returns false'. Refute it at one input. -/
def sectorViewWrong : ChangeSpec := { name := "sectorView", fn := fun _ => fun
  | [d1, d2, d3] => { results := [.lit (.bool false)], args := [d1, d2, d3] }
  | _ => none }
def SectorViewWrongFalsely : Prop := sectorViewRow.holds Try.pinned (OpenSpec.ofChange sectorViewWrong)

/-- 'escheatlaw01.SectorFuse': WHATEVER THE INPUT: true; the input reads as it did. -/
def sectorFuseSpec : ChangeSpec := { name := "sectorFuse", fn := fun _ => fun
  | [d1, d2] => { results := [.lit (.bool true)], args := [d1, d2] }
  | _ => none }
def sectorFuseRow : OpenClaim := { program := "ytfejnfohbagnkaa", sum := "b951b221dcc2af07ee20d338802bf5ac3c741e0789fa97c2104b10edf8c043da", func := "escheat/escheatlaw01.SectorFuse", spec := "sectorFuse", unfollowed := true, recurses := true, apart := false }
def SectorFuseSaid : Prop := sectorFuseRow.holds Try.pinned (OpenSpec.ofChange sectorFuseSpec)

/-- ITS FALSE NEIGHBOUR: 'it returns false'. Refute it at one input. -/
def sectorFuseWrong : ChangeSpec := { name := "sectorFuse", fn := fun _ => fun
  | [d1, d2] => { results := [.lit (.bool false)], args := [d1, d2] }
  | _ => none }
def SectorFuseWrongFalsely : Prop := sectorFuseRow.holds Try.pinned (OpenSpec.ofChange sectorFuseWrong)

/- THE SECOND FORM. 'bulk': how many values and letters a reading holds, each counted each time it is reached (what is shared counts as often as it is met; a slice's spare places count too). A statement '..UptoSaid' is the law's where the arguments, and the package variables that the reading takes, are together of bulk at most 1048576: NARROWER than '..Said'. Prove '..Said' where nothing that the law and all that it calls make is longer than what came in: it says more and counts as full. Else prove '..UptoSaid'. A law counts once. -/
mutual
def uptoBulk {H : Type} : DataW H → Nat
  | .lit (.string bytes) => bytes.length + 1
  | .lit _ => 1
  | .nil => 1
  | .ptr d => uptoBulk d + 1
  | .slice elems spare => uptoBulkAll elems + uptoBulkAll spare + 1
  | .agg parts => uptoBulkAll parts + 1
  | .iface _ d => uptoBulk d + 1
  | .map entries => uptoBulkEntries entries + 1
  | .held _ => 1
def uptoBulkAll {H : Type} : List (DataW H) → Nat
  | [] => 0
  | d :: r => uptoBulk d + uptoBulkAll r
def uptoBulkEntries {H : Type} : List (Lit × DataW H) → Nat
  | [] => 0
  | x :: r => uptoBulkEntry x + uptoBulkEntries r
def uptoBulkEntry {H : Type} : Lit × DataW H → Nat
  | (.string bytes, d) => bytes.length + uptoBulk d + 1
  | (_, d) => uptoBulk d + 1
 end
def uptoSmall : (H : Type) → List (DataW H) → Bool := fun _ ds => decide (uptoBulkAll ds ≤ 1048576)
def OpenSpec.upto (s : _root_.Go.ChangeSpec) : _root_.Go.OpenSpec := { _root_.Go.OpenSpec.ofChange s with cond := some uptoSmall }

/-- 'escheatlaw01.SectorReads', WHERE WHAT IT READS IS OF BULK AT MOST 1048576: true; the input reads as it did. -/
def sectorReadsUptoRow : OpenClaim := { program := "ytfejnfohbagnkaa", sum := "b951b221dcc2af07ee20d338802bf5ac3c741e0789fa97c2104b10edf8c043da", func := "escheat/escheatlaw01.SectorReads", spec := "sectorReads", unfollowed := true, recurses := true, apart := false, narrowed := true }
def SectorReadsUptoSaid : Prop := sectorReadsUptoRow.holds Try.pinned (OpenSpec.upto sectorReadsSpec)

/-- 'escheatlaw01.SectorPuts', WHERE WHAT IT READS IS OF BULK AT MOST 1048576: true; the input reads as it did. -/
def sectorPutsUptoRow : OpenClaim := { program := "ytfejnfohbagnkaa", sum := "b951b221dcc2af07ee20d338802bf5ac3c741e0789fa97c2104b10edf8c043da", func := "escheat/escheatlaw01.SectorPuts", spec := "sectorPuts", unfollowed := true, recurses := true, apart := false, narrowed := true }
def SectorPutsUptoSaid : Prop := sectorPutsUptoRow.holds Try.pinned (OpenSpec.upto sectorPutsSpec)

/-- 'escheatlaw01.SectorStarts', WHERE WHAT IT READS IS OF BULK AT MOST 1048576: true; the input reads as it did. -/
def sectorStartsUptoRow : OpenClaim := { program := "ytfejnfohbagnkaa", sum := "b951b221dcc2af07ee20d338802bf5ac3c741e0789fa97c2104b10edf8c043da", func := "escheat/escheatlaw01.SectorStarts", spec := "sectorStarts", unfollowed := true, recurses := true, apart := false, narrowed := true }
def SectorStartsUptoSaid : Prop := sectorStartsUptoRow.holds Try.pinned (OpenSpec.upto sectorStartsSpec)

/-- 'escheatlaw01.SectorSure', WHERE WHAT IT READS IS OF BULK AT MOST 1048576: true; the input reads as it did. -/
def sectorSureUptoRow : OpenClaim := { program := "ytfejnfohbagnkaa", sum := "b951b221dcc2af07ee20d338802bf5ac3c741e0789fa97c2104b10edf8c043da", func := "escheat/escheatlaw01.SectorSure", spec := "sectorSure", unfollowed := true, recurses := true, apart := false, narrowed := true }
def SectorSureUptoSaid : Prop := sectorSureUptoRow.holds Try.pinned (OpenSpec.upto sectorSureSpec)

/-- 'escheatlaw01.SectorView', WHERE WHAT IT READS IS OF BULK AT MOST 1048576: true; the input reads as it did. -/
def sectorViewUptoRow : OpenClaim := { program := "ytfejnfohbagnkaa", sum := "b951b221dcc2af07ee20d338802bf5ac3c741e0789fa97c2104b10edf8c043da", func := "escheat/escheatlaw01.SectorView", spec := "sectorView", unfollowed := true, recurses := true, apart := false, narrowed := true }
def SectorViewUptoSaid : Prop := sectorViewUptoRow.holds Try.pinned (OpenSpec.upto sectorViewSpec)

/-- 'escheatlaw01.SectorFuse', WHERE WHAT IT READS IS OF BULK AT MOST 1048576: true; the input reads as it did. -/
def sectorFuseUptoRow : OpenClaim := { program := "ytfejnfohbagnkaa", sum := "b951b221dcc2af07ee20d338802bf5ac3c741e0789fa97c2104b10edf8c043da", func := "escheat/escheatlaw01.SectorFuse", spec := "sectorFuse", unfollowed := true, recurses := true, apart := false, narrowed := true }
def SectorFuseUptoSaid : Prop := sectorFuseUptoRow.holds Try.pinned (OpenSpec.upto sectorFuseSpec)

end Rows
end Go.Proofs.Ytfejnfohbagnkaa
