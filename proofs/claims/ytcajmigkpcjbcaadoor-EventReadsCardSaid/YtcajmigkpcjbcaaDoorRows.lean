/-
  NARROWER THAN 'FOR EVERY INPUT', by the rows' own cells (each row's printed sentence says how): EventAsks: laid · EventReads: laid · EventBack: laid · EventEnds: laid.
  DERIVED. THE GIVEN ROWS OF THIS SEAT. 4 by the template 'for every input the law returns true; each argument reads behind the call as it read before'; 0 by the template 'total and deterministic' (their statements: YtcajmigkpcjbcaaDoorTotals.lean).
  GIVEN WITH THE SEED: the statements are not yours to turn. If you find one false, say at which input.
  Laid BY PROGRAM, IN A SANDBOX (cutbox-rows.mjs): the forced cells as the released guide's own fill.sh prints them over the translation 3442d231c36765a0… (all of the seat's roots in one cut). By AI agents, Wed Nov 11 2026. No macro, syntax, notation, axiom, sorry.
-/
import Derived.Test.YtcajmigkpcjbcaaDoorChecked
import GoSem.PinnedTables
import GoSem.Claim
import GoSem.ClaimJoined
import GoSem.ClaimMapViews
import Derived.JoinedTies
import Derived.KernelRfl
namespace Go.Proofs.YtcajmigkpcjbcaaDoor
/- THE CELL 'sum', in the pinned program and in every row, IS THE sha256 OF THE DUMP (.gsa) THAT YtcajmigkpcjbcaaDoorProg.lean LOADS. Nothing in Lean hashes anything: it is a label: what it is worth is what the hold of that sum in a sandbox is worth. -/
noncomputable def Tryd.pinned : Pinned := { name := "ytcajmigkpcjbcaadoor", sum := "3442d231c36765a05e3fab275e5e7b934ce0cef49c8c9c08408f12c61ca1d9be", checked := Tryd.checked }
namespace Rows
def none {H : Type} : Left H := { results := [], args := [] }

/- WHAT THE LISTED PACKAGE-LEVEL VARIABLES READ AS WHEN THE CALL BEGINS. Each datum BY PROGRAM (the guide's laid-datum.mjs) off the statement by which the dump's own 'gosem.cut.vars' lays the variable. In a bare row this is a premise. The card (YtcajmigkpcjbcaaDoorCards.lean) ties it to the program's text. -/
def laid_unicode_utf8_acceptRanges {H : Type} : DataW H := .agg [.agg [.lit (.int .u8 128), .lit (.int .u8 191)], .agg [.lit (.int .u8 160), .lit (.int .u8 191)], .agg [.lit (.int .u8 128), .lit (.int .u8 159)], .agg [.lit (.int .u8 144), .lit (.int .u8 191)], .agg [.lit (.int .u8 128), .lit (.int .u8 143)], .agg [.lit (.int .u8 0), .lit (.int .u8 0)], .agg [.lit (.int .u8 0), .lit (.int .u8 0)], .agg [.lit (.int .u8 0), .lit (.int .u8 0)], .agg [.lit (.int .u8 0), .lit (.int .u8 0)], .agg [.lit (.int .u8 0), .lit (.int .u8 0)], .agg [.lit (.int .u8 0), .lit (.int .u8 0)], .agg [.lit (.int .u8 0), .lit (.int .u8 0)], .agg [.lit (.int .u8 0), .lit (.int .u8 0)], .agg [.lit (.int .u8 0), .lit (.int .u8 0)], .agg [.lit (.int .u8 0), .lit (.int .u8 0)], .agg [.lit (.int .u8 0), .lit (.int .u8 0)]]
def laid_escheat_event_all {H : Type} : DataW H := .agg [.agg [.lit (.int .i64 1), .lit (.string [98])], .agg [.lit (.int .i64 2), .lit (.string [98])], .agg [.lit (.int .i64 3), .lit (.string [98, 116])], .agg [.lit (.int .i64 4), .lit (.string [98])], .agg [.lit (.int .i64 5), .lit (.string [98])], .agg [.lit (.int .i64 6), .lit (.string [98, 102, 100, 121])], .agg [.lit (.int .i64 7), .lit (.string [98, 105, 109, 102])], .agg [.lit (.int .i64 8), .lit (.string [98, 116, 105])], .agg [.lit (.int .i64 9), .lit (.string [98, 105])], .agg [.lit (.int .i64 10), .lit (.string [110])], .agg [.lit (.int .i64 11), .lit (.string [98, 110])], .agg [.lit (.int .i64 12), .lit (.string [98, 115])], .agg [.lit (.int .i64 13), .lit (.string [110])], .agg [.lit (.int .i64 14), .lit (.string [105])]]
/-- One of Go's own tables, pinned by name: the form's constant. -/
def laid_unicode_utf8_first : DataW Unit := Go.Pinned.utf8First

/-- 'escheatlaw12.EventAsks': WHATEVER THE INPUT: true; the input reads as it did. -/
def eventAsksSpec : ChangeSpec := { name := "eventAsks", fn := fun _ => fun
  | [d1, d2, d3] => { results := [.lit (.bool true)], args := [d1, d2, d3] }
  | _ => none }
def eventAsksRow : OpenClaim := { program := "ytcajmigkpcjbcaadoor", sum := "3442d231c36765a05e3fab275e5e7b934ce0cef49c8c9c08408f12c61ca1d9be", func := "escheat/escheatlaw12.EventAsks", spec := "eventAsks", inPlace := ["internal/bytealg.IndexByteString", "internal/bytealg.CountString", "internal/bytealg.IndexString"], unfollowed := true, recurses := true, named := ["escheat/event.all", "unicode/utf8.first", "unicode/utf8.acceptRanges", "internal/bytealg.MaxLen"], apart := false, laid := [("unicode/utf8.acceptRanges", laid_unicode_utf8_acceptRanges), ("escheat/event.all", laid_escheat_event_all), ("unicode/utf8.first", laid_unicode_utf8_first)] }
def EventAsksSaid : Prop := eventAsksRow.holds Tryd.pinned (OpenSpec.ofChange eventAsksSpec)

/-- ITS FALSE NEIGHBOUR: 'it returns false'. Refute it at one input. -/
def eventAsksWrong : ChangeSpec := { name := "eventAsks", fn := fun _ => fun
  | [d1, d2, d3] => { results := [.lit (.bool false)], args := [d1, d2, d3] }
  | _ => none }
def EventAsksWrongFalsely : Prop := eventAsksRow.holds Tryd.pinned (OpenSpec.ofChange eventAsksWrong)

/-- 'escheatlaw12.EventReads': WHATEVER THE INPUT: true; the input reads as it did. -/
def eventReadsSpec : ChangeSpec := { name := "eventReads", fn := fun _ => fun
  | [d] => { results := [.lit (.bool true)], args := [d] }
  | _ => none }
def eventReadsRow : OpenClaim := { program := "ytcajmigkpcjbcaadoor", sum := "3442d231c36765a05e3fab275e5e7b934ce0cef49c8c9c08408f12c61ca1d9be", func := "escheat/escheatlaw12.EventReads", spec := "eventReads", inPlace := ["internal/bytealg.IndexByteString", "internal/bytealg.CountString", "internal/bytealg.IndexString"], unfollowed := true, recurses := true, named := ["escheat/event.all", "unicode/utf8.first", "unicode/utf8.acceptRanges", "internal/bytealg.MaxLen"], apart := false, laid := [("unicode/utf8.acceptRanges", laid_unicode_utf8_acceptRanges), ("escheat/event.all", laid_escheat_event_all), ("unicode/utf8.first", laid_unicode_utf8_first)] }
def EventReadsSaid : Prop := eventReadsRow.holds Tryd.pinned (OpenSpec.ofChange eventReadsSpec)

/-- ITS FALSE NEIGHBOUR: 'it returns false'. Refute it at one input. -/
def eventReadsWrong : ChangeSpec := { name := "eventReads", fn := fun _ => fun
  | [d] => { results := [.lit (.bool false)], args := [d] }
  | _ => none }
def EventReadsWrongFalsely : Prop := eventReadsRow.holds Tryd.pinned (OpenSpec.ofChange eventReadsWrong)

/-- 'escheatlaw12.EventBack': WHATEVER THE INPUT: true; the input reads as it did. -/
def eventBackSpec : ChangeSpec := { name := "eventBack", fn := fun _ => fun
  | [d1, d2] => { results := [.lit (.bool true)], args := [d1, d2] }
  | _ => none }
def eventBackRow : OpenClaim := { program := "ytcajmigkpcjbcaadoor", sum := "3442d231c36765a05e3fab275e5e7b934ce0cef49c8c9c08408f12c61ca1d9be", func := "escheat/escheatlaw12.EventBack", spec := "eventBack", inPlace := ["internal/bytealg.IndexByteString", "internal/bytealg.CountString", "internal/bytealg.IndexString"], unfollowed := true, recurses := true, named := ["escheat/event.all", "unicode/utf8.first", "unicode/utf8.acceptRanges", "internal/bytealg.MaxLen"], apart := false, laid := [("unicode/utf8.acceptRanges", laid_unicode_utf8_acceptRanges), ("escheat/event.all", laid_escheat_event_all), ("unicode/utf8.first", laid_unicode_utf8_first)] }
def EventBackSaid : Prop := eventBackRow.holds Tryd.pinned (OpenSpec.ofChange eventBackSpec)

/-- ITS FALSE NEIGHBOUR: 'it returns false'. Refute it at one input. -/
def eventBackWrong : ChangeSpec := { name := "eventBack", fn := fun _ => fun
  | [d1, d2] => { results := [.lit (.bool false)], args := [d1, d2] }
  | _ => none }
def EventBackWrongFalsely : Prop := eventBackRow.holds Tryd.pinned (OpenSpec.ofChange eventBackWrong)

/-- 'escheatlaw12.EventEnds': WHATEVER THE INPUT: true; the input reads as it did. -/
def eventEndsSpec : ChangeSpec := { name := "eventEnds", fn := fun _ => fun
  | [d1, d2, d3] => { results := [.lit (.bool true)], args := [d1, d2, d3] }
  | _ => none }
def eventEndsRow : OpenClaim := { program := "ytcajmigkpcjbcaadoor", sum := "3442d231c36765a05e3fab275e5e7b934ce0cef49c8c9c08408f12c61ca1d9be", func := "escheat/escheatlaw12.EventEnds", spec := "eventEnds", inPlace := ["internal/bytealg.IndexByteString", "internal/bytealg.CountString", "internal/bytealg.IndexString"], unfollowed := true, recurses := true, named := ["escheat/event.all", "unicode/utf8.first", "unicode/utf8.acceptRanges", "internal/bytealg.MaxLen"], apart := false, laid := [("unicode/utf8.acceptRanges", laid_unicode_utf8_acceptRanges), ("escheat/event.all", laid_escheat_event_all), ("unicode/utf8.first", laid_unicode_utf8_first)] }
def EventEndsSaid : Prop := eventEndsRow.holds Tryd.pinned (OpenSpec.ofChange eventEndsSpec)

/-- ITS FALSE NEIGHBOUR: 'it returns false'. Refute it at one input. -/
def eventEndsWrong : ChangeSpec := { name := "eventEnds", fn := fun _ => fun
  | [d1, d2, d3] => { results := [.lit (.bool false)], args := [d1, d2, d3] }
  | _ => none }
def EventEndsWrongFalsely : Prop := eventEndsRow.holds Tryd.pinned (OpenSpec.ofChange eventEndsWrong)

/- THE SECOND FORM. 'bulk': how many values and letters a reading holds, each counted each time it is reached (what is shared counts as often as it is met; a slice's spare places count too). A statement '..UptoSaid' is the law's where the arguments, and the package variables that the reading takes, are together of bulk at most 1048576: NARROWER than '..Said'. Prove '..Said' where nothing that the law and all that it calls make is longer than what came in: it says more and counts as full. Else prove '..UptoSaid'. A law counts once. -/
mutual
def uptoBulk {H : Type} : DataW H → Nat
  | .lit (.string bytes) => bytes.length + 1
  | .lit _ => 1
  | .nil => 1
  | .ptr d => uptoBulk d + 1
  | .slice elems spare => uptoBulkAll elems + uptoBulkAll spare + 1
  | .agg parts => uptoBulkAll parts + 1
  | .iface _ d => uptoBulk d + 1
  | .map entries => uptoBulkEntries entries + 1
  | .held _ => 1
def uptoBulkAll {H : Type} : List (DataW H) → Nat
  | [] => 0
  | d :: r => uptoBulk d + uptoBulkAll r
def uptoBulkEntries {H : Type} : List (Lit × DataW H) → Nat
  | [] => 0
  | x :: r => uptoBulkEntry x + uptoBulkEntries r
def uptoBulkEntry {H : Type} : Lit × DataW H → Nat
  | (.string bytes, d) => bytes.length + uptoBulk d + 1
  | (_, d) => uptoBulk d + 1
 end
def uptoSmall : (H : Type) → List (DataW H) → Bool := fun _ ds => decide (uptoBulkAll ds ≤ 1048576)
def OpenSpec.upto (s : _root_.Go.ChangeSpec) : _root_.Go.OpenSpec := { _root_.Go.OpenSpec.ofChange s with cond := some uptoSmall }

/-- 'escheatlaw12.EventAsks', WHERE WHAT IT READS IS OF BULK AT MOST 1048576: true; the input reads as it did. -/
def eventAsksUptoRow : OpenClaim := { program := "ytcajmigkpcjbcaadoor", sum := "3442d231c36765a05e3fab275e5e7b934ce0cef49c8c9c08408f12c61ca1d9be", func := "escheat/escheatlaw12.EventAsks", spec := "eventAsks", inPlace := ["internal/bytealg.IndexByteString", "internal/bytealg.CountString", "internal/bytealg.IndexString"], unfollowed := true, recurses := true, named := ["escheat/event.all", "unicode/utf8.first", "unicode/utf8.acceptRanges", "internal/bytealg.MaxLen"], apart := false, laid := [("unicode/utf8.acceptRanges", laid_unicode_utf8_acceptRanges), ("escheat/event.all", laid_escheat_event_all), ("unicode/utf8.first", laid_unicode_utf8_first)], narrowed := true }
def EventAsksUptoSaid : Prop := eventAsksUptoRow.holds Tryd.pinned (OpenSpec.upto eventAsksSpec)

/-- 'escheatlaw12.EventReads', WHERE WHAT IT READS IS OF BULK AT MOST 1048576: true; the input reads as it did. -/
def eventReadsUptoRow : OpenClaim := { program := "ytcajmigkpcjbcaadoor", sum := "3442d231c36765a05e3fab275e5e7b934ce0cef49c8c9c08408f12c61ca1d9be", func := "escheat/escheatlaw12.EventReads", spec := "eventReads", inPlace := ["internal/bytealg.IndexByteString", "internal/bytealg.CountString", "internal/bytealg.IndexString"], unfollowed := true, recurses := true, named := ["escheat/event.all", "unicode/utf8.first", "unicode/utf8.acceptRanges", "internal/bytealg.MaxLen"], apart := false, laid := [("unicode/utf8.acceptRanges", laid_unicode_utf8_acceptRanges), ("escheat/event.all", laid_escheat_event_all), ("unicode/utf8.first", laid_unicode_utf8_first)], narrowed := true }
def EventReadsUptoSaid : Prop := eventReadsUptoRow.holds Tryd.pinned (OpenSpec.upto eventReadsSpec)

/-- 'escheatlaw12.EventBack', WHERE WHAT IT READS IS OF BULK AT MOST 1048576: true; the input reads as it did. -/
def eventBackUptoRow : OpenClaim := { program := "ytcajmigkpcjbcaadoor", sum := "3442d231c36765a05e3fab275e5e7b934ce0cef49c8c9c08408f12c61ca1d9be", func := "escheat/escheatlaw12.EventBack", spec := "eventBack", inPlace := ["internal/bytealg.IndexByteString", "internal/bytealg.CountString", "internal/bytealg.IndexString"], unfollowed := true, recurses := true, named := ["escheat/event.all", "unicode/utf8.first", "unicode/utf8.acceptRanges", "internal/bytealg.MaxLen"], apart := false, laid := [("unicode/utf8.acceptRanges", laid_unicode_utf8_acceptRanges), ("escheat/event.all", laid_escheat_event_all), ("unicode/utf8.first", laid_unicode_utf8_first)], narrowed := true }
def EventBackUptoSaid : Prop := eventBackUptoRow.holds Tryd.pinned (OpenSpec.upto eventBackSpec)

/-- 'escheatlaw12.EventEnds', WHERE WHAT IT READS IS OF BULK AT MOST 1048576: true; the input reads as it did. -/
def eventEndsUptoRow : OpenClaim := { program := "ytcajmigkpcjbcaadoor", sum := "3442d231c36765a05e3fab275e5e7b934ce0cef49c8c9c08408f12c61ca1d9be", func := "escheat/escheatlaw12.EventEnds", spec := "eventEnds", inPlace := ["internal/bytealg.IndexByteString", "internal/bytealg.CountString", "internal/bytealg.IndexString"], unfollowed := true, recurses := true, named := ["escheat/event.all", "unicode/utf8.first", "unicode/utf8.acceptRanges", "internal/bytealg.MaxLen"], apart := false, laid := [("unicode/utf8.acceptRanges", laid_unicode_utf8_acceptRanges), ("escheat/event.all", laid_escheat_event_all), ("unicode/utf8.first", laid_unicode_utf8_first)], narrowed := true }
def EventEndsUptoSaid : Prop := eventEndsUptoRow.holds Tryd.pinned (OpenSpec.upto eventEndsSpec)

end Rows
end Go.Proofs.YtcajmigkpcjbcaaDoor
