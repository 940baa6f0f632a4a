/- A part of the proof. -/
import Derived.Test.YtmjjefnmabbgdaaGreatDoorSStH
namespace Go.Proofs.YtmjjefnmabbgdaaGreatDoor
set_option linter.unusedVariables false
set_option linter.unusedSimpArgs false
set_option maxRecDepth 100000
set_option maxHeartbeats 16000000
open Go.RowKit
def RowNow (bs g i:Nat)(tA:Option Addr)(tn tc:Nat)(nm:ByteArray)(u f d:Int)(xA:Option Addr)(xn xc:Nat)(W:World):Prop :=
 W.cell? ⟨bs,4,none⟩=some (.slice tA tn tc)∧W.cell? ⟨g,i*7+1,none⟩=some (.string nm)∧W.cell? ⟨g,i*7+3,none⟩=some (.int .i64 u)∧W.cell? ⟨g,i*7+4,none⟩=some (.int .i64 f)∧W.cell? ⟨g,i*7+5,none⟩=some (.int .i64 d)∧W.cell? ⟨g,i*7+6,none⟩=some (.slice xA xn xc)
theorem RowNow.of {bs g i:Nat}{tA:Option Addr}{tn tc:Nat}{nm:ByteArray}{u f d:Int}{xA:Option Addr}{xn xc:Nat}{W W':World}(h:RowNow bs g i tA tn tc nm u f d xA xn xc W)(h1:W'.heap[bs]?=W.heap[bs]?)(h2:W'.heap[g]?=W.heap[g]?):RowNow bs g i tA tn tc nm u f d xA xn xc W':=by
 obtain⟨a,b,c,d',e,f'⟩:=h;exact⟨(World.cell?_of_block (a:=⟨bs,4,none⟩) h1).trans a,(World.cell?_of_block (a:=⟨g,i*7+1,none⟩) h2).trans b,(World.cell?_of_block (a:=⟨g,i*7+3,none⟩) h2).trans c,(World.cell?_of_block (a:=⟨g,i*7+4,none⟩) h2).trans d',(World.cell?_of_block (a:=⟨g,i*7+5,none⟩) h2).trans e,(World.cell?_of_block (a:=⟨g,i*7+6,none⟩) h2).trans f'⟩
end Go.Proofs.YtmjjefnmabbgdaaGreatDoor
