/-
  NARROWER THAN 'FOR EVERY INPUT', by the rows' own cells (each row's printed sentence says how): FlagAsks: laid · FlagBack: laid · FlagOnce: laid.
  DERIVED. THE GIVEN ROWS OF THIS SEAT. 3 by the template 'for every input the law returns true; each argument reads behind the call as it read before'; 0 by the template 'total and deterministic' (their statements: YtloghgfcgkfefaaDoorTotals.lean).
  GIVEN WITH THE SEED: the statements are not yours to turn. If you find one false, say at which input.
  Laid BY PROGRAM, IN A SANDBOX (cutbox-rows.mjs): the forced cells as the released guide's own fill.sh prints them over the translation 94ea4604e725ac98… (all of the seat's roots in one cut). By AI agents, Wed Nov 11 2026. No macro, syntax, notation, axiom, sorry.
-/
import Derived.Test.YtloghgfcgkfefaaDoorChecked
import GoSem.Claim
import GoSem.ClaimJoined
import GoSem.ClaimMapViews
import Derived.JoinedTies
import Derived.KernelRfl
namespace Go.Proofs.YtloghgfcgkfefaaDoor
/- THE CELL 'sum', in the pinned program and in every row, IS THE sha256 OF THE DUMP (.gsa) THAT YtloghgfcgkfefaaDoorProg.lean LOADS. Nothing in Lean hashes anything: it is a label: what it is worth is what the hold of that sum in a sandbox is worth. -/
noncomputable def Tryd.pinned : Pinned := { name := "ytloghgfcgkfefaadoor", sum := "94ea4604e725ac985c914d2358937c571fd505d5a93c6db818e8e2bf67259f6c", checked := Tryd.checked }
namespace Rows
def none {H : Type} : Left H := { results := [], args := [] }

/- WHAT THE LISTED PACKAGE-LEVEL VARIABLES READ AS WHEN THE CALL BEGINS. Each datum BY PROGRAM (the guide's laid-datum.mjs) off the statement by which the dump's own 'gosem.cut.vars' lays the variable. In a bare row this is a premise. The card (YtloghgfcgkfefaaDoorCards.lean) ties it to the program's text. -/
def laid_escheat_flag_all {H : Type} : DataW H := .agg [.agg [.lit (.int .i64 2), .lit (.string [92, 65, 110, 115, 119, 101, 114, 101, 100])], .agg [.lit (.int .i64 4), .lit (.string [92, 70, 108, 97, 103, 103, 101, 100])], .agg [.lit (.int .i64 8), .lit (.string [92, 68, 101, 108, 101, 116, 101, 100])], .agg [.lit (.int .i64 1), .lit (.string [92, 83, 101, 101, 110])], .agg [.lit (.int .i64 16), .lit (.string [92, 68, 114, 97, 102, 116])]]

/-- 'escheatlaw08.FlagAsks': WHATEVER THE INPUT: true; the input reads as it did. -/
def flagAsksSpec : ChangeSpec := { name := "flagAsks", fn := fun _ => fun
  | [d1, d2, d3] => { results := [.lit (.bool true)], args := [d1, d2, d3] }
  | _ => none }
def flagAsksRow : OpenClaim := { program := "ytloghgfcgkfefaadoor", sum := "94ea4604e725ac985c914d2358937c571fd505d5a93c6db818e8e2bf67259f6c", func := "escheat/escheatlaw08.FlagAsks", spec := "flagAsks", inPlace := ["internal/abi.NoEscape", "internal/bytealg.MakeNoZero"], named := ["escheat/flag.all"], apart := false, laid := [("escheat/flag.all", laid_escheat_flag_all)] }
def FlagAsksSaid : Prop := flagAsksRow.holds Tryd.pinned (OpenSpec.ofChange flagAsksSpec)

/-- ITS FALSE NEIGHBOUR: 'it returns false'. Refute it at one input. -/
def flagAsksWrong : ChangeSpec := { name := "flagAsks", fn := fun _ => fun
  | [d1, d2, d3] => { results := [.lit (.bool false)], args := [d1, d2, d3] }
  | _ => none }
def FlagAsksWrongFalsely : Prop := flagAsksRow.holds Tryd.pinned (OpenSpec.ofChange flagAsksWrong)

/-- 'escheatlaw08.FlagBack': WHATEVER THE INPUT: true; the input reads as it did. -/
def flagBackSpec : ChangeSpec := { name := "flagBack", fn := fun _ => fun
  | [d1, d2] => { results := [.lit (.bool true)], args := [d1, d2] }
  | _ => none }
def flagBackRow : OpenClaim := { program := "ytloghgfcgkfefaadoor", sum := "94ea4604e725ac985c914d2358937c571fd505d5a93c6db818e8e2bf67259f6c", func := "escheat/escheatlaw08.FlagBack", spec := "flagBack", inPlace := ["internal/abi.NoEscape", "internal/bytealg.MakeNoZero"], named := ["escheat/flag.all"], apart := false, laid := [("escheat/flag.all", laid_escheat_flag_all)] }
def FlagBackSaid : Prop := flagBackRow.holds Tryd.pinned (OpenSpec.ofChange flagBackSpec)

/-- ITS FALSE NEIGHBOUR: 'it returns false'. Refute it at one input. -/
def flagBackWrong : ChangeSpec := { name := "flagBack", fn := fun _ => fun
  | [d1, d2] => { results := [.lit (.bool false)], args := [d1, d2] }
  | _ => none }
def FlagBackWrongFalsely : Prop := flagBackRow.holds Tryd.pinned (OpenSpec.ofChange flagBackWrong)

/-- 'escheatlaw08.FlagOnce': WHATEVER THE INPUT: true; the input reads as it did. -/
def flagOnceSpec : ChangeSpec := { name := "flagOnce", fn := fun _ => fun
  | [d1, d2] => { results := [.lit (.bool true)], args := [d1, d2] }
  | _ => none }
def flagOnceRow : OpenClaim := { program := "ytloghgfcgkfefaadoor", sum := "94ea4604e725ac985c914d2358937c571fd505d5a93c6db818e8e2bf67259f6c", func := "escheat/escheatlaw08.FlagOnce", spec := "flagOnce", inPlace := ["internal/abi.NoEscape", "internal/bytealg.MakeNoZero"], named := ["escheat/flag.all"], apart := false, laid := [("escheat/flag.all", laid_escheat_flag_all)] }
def FlagOnceSaid : Prop := flagOnceRow.holds Tryd.pinned (OpenSpec.ofChange flagOnceSpec)

/-- ITS FALSE NEIGHBOUR: 'it returns false'. Refute it at one input. -/
def flagOnceWrong : ChangeSpec := { name := "flagOnce", fn := fun _ => fun
  | [d1, d2] => { results := [.lit (.bool false)], args := [d1, d2] }
  | _ => none }
def FlagOnceWrongFalsely : Prop := flagOnceRow.holds Tryd.pinned (OpenSpec.ofChange flagOnceWrong)

/- THE SECOND FORM. 'bulk': how many values and letters a reading holds, each counted each time it is reached (what is shared counts as often as it is met; a slice's spare places count too). A statement '..UptoSaid' is the law's where the arguments, and the package variables that the reading takes, are together of bulk at most 1048576: NARROWER than '..Said'. Prove '..Said' where nothing that the law and all that it calls make is longer than what came in: it says more and counts as full. Else prove '..UptoSaid'. A law counts once. -/
mutual
def uptoBulk {H : Type} : DataW H → Nat
  | .lit (.string bytes) => bytes.length + 1
  | .lit _ => 1
  | .nil => 1
  | .ptr d => uptoBulk d + 1
  | .slice elems spare => uptoBulkAll elems + uptoBulkAll spare + 1
  | .agg parts => uptoBulkAll parts + 1
  | .iface _ d => uptoBulk d + 1
  | .map entries => uptoBulkEntries entries + 1
  | .held _ => 1
def uptoBulkAll {H : Type} : List (DataW H) → Nat
  | [] => 0
  | d :: r => uptoBulk d + uptoBulkAll r
def uptoBulkEntries {H : Type} : List (Lit × DataW H) → Nat
  | [] => 0
  | x :: r => uptoBulkEntry x + uptoBulkEntries r
def uptoBulkEntry {H : Type} : Lit × DataW H → Nat
  | (.string bytes, d) => bytes.length + uptoBulk d + 1
  | (_, d) => uptoBulk d + 1
 end
def uptoSmall : (H : Type) → List (DataW H) → Bool := fun _ ds => decide (uptoBulkAll ds ≤ 1048576)
def OpenSpec.upto (s : _root_.Go.ChangeSpec) : _root_.Go.OpenSpec := { _root_.Go.OpenSpec.ofChange s with cond := some uptoSmall }

/-- 'escheatlaw08.FlagAsks', WHERE WHAT IT READS IS OF BULK AT MOST 1048576: true; the input reads as it did. -/
def flagAsksUptoRow : OpenClaim := { program := "ytloghgfcgkfefaadoor", sum := "94ea4604e725ac985c914d2358937c571fd505d5a93c6db818e8e2bf67259f6c", func := "escheat/escheatlaw08.FlagAsks", spec := "flagAsks", inPlace := ["internal/abi.NoEscape", "internal/bytealg.MakeNoZero"], named := ["escheat/flag.all"], apart := false, laid := [("escheat/flag.all", laid_escheat_flag_all)], narrowed := true }
def FlagAsksUptoSaid : Prop := flagAsksUptoRow.holds Tryd.pinned (OpenSpec.upto flagAsksSpec)

/-- 'escheatlaw08.FlagBack', WHERE WHAT IT READS IS OF BULK AT MOST 1048576: true; the input reads as it did. -/
def flagBackUptoRow : OpenClaim := { program := "ytloghgfcgkfefaadoor", sum := "94ea4604e725ac985c914d2358937c571fd505d5a93c6db818e8e2bf67259f6c", func := "escheat/escheatlaw08.FlagBack", spec := "flagBack", inPlace := ["internal/abi.NoEscape", "internal/bytealg.MakeNoZero"], named := ["escheat/flag.all"], apart := false, laid := [("escheat/flag.all", laid_escheat_flag_all)], narrowed := true }
def FlagBackUptoSaid : Prop := flagBackUptoRow.holds Tryd.pinned (OpenSpec.upto flagBackSpec)

/-- 'escheatlaw08.FlagOnce', WHERE WHAT IT READS IS OF BULK AT MOST 1048576: true; the input reads as it did. -/
def flagOnceUptoRow : OpenClaim := { program := "ytloghgfcgkfefaadoor", sum := "94ea4604e725ac985c914d2358937c571fd505d5a93c6db818e8e2bf67259f6c", func := "escheat/escheatlaw08.FlagOnce", spec := "flagOnce", inPlace := ["internal/abi.NoEscape", "internal/bytealg.MakeNoZero"], named := ["escheat/flag.all"], apart := false, laid := [("escheat/flag.all", laid_escheat_flag_all)], narrowed := true }
def FlagOnceUptoSaid : Prop := flagOnceUptoRow.holds Tryd.pinned (OpenSpec.upto flagOnceSpec)

end Rows
end Go.Proofs.YtloghgfcgkfefaaDoor
