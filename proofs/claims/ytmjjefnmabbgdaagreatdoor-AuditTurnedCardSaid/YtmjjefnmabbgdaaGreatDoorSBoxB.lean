/- A part of the proof. -/
import Derived.Test.YtmjjefnmabbgdaaGreatDoorSBoxRows
import Derived.Laws.EntriesVeiled
namespace Go.Proofs.YtmjjefnmabbgdaaGreatDoor
set_option linter.unusedVariables false
set_option linter.unusedSimpArgs false
set_option maxRecDepth 100000
set_option maxHeartbeats 16000000
open Go.RowKit
theorem row4 {w:World}{b o:Nat}{x:Hd}(h:w.rangeAt b o (hdC x)):w.cell? ⟨b,o,none⟩=some (.int .i64 x.m.uid)∧w.cell? ⟨b,o+1,none⟩=some (.int .i64 x.m.flags)∧w.cell? ⟨b,o+2,none⟩=some (.int .i64 x.m.date)∧w.cell? ⟨b,o+3,none⟩=some (.slice x.A x.n x.c) :=
 ⟨h 0 _ rfl,h 1 _ rfl,h 2 _ rfl,h 3 _ rfl⟩
def IsIn (w:World)(bs bl bm:Nat)(A:Option Addr)(m c:Nat)(last:Int):Prop :=
 w.cell? ⟨bs,0,none⟩=some (.slice A m c)∧w.cell? ⟨bl,0,none⟩=some (.int .i64 last)∧w.cell? ⟨bm,0,none⟩=some (.func (.func 358) #[] #[.pointer (some ⟨bl,0,none⟩)])
theorem IsIn.below {w w':World}{bs bl bm m c:Nat}{A:Option Addr}{last:Int}(h:IsIn w bs bl bm A m c last)(hb:Below w.heap.size w w'):IsIn w' bs bl bm A m c last :=
 ⟨(hb.cell (p:=⟨bs,0,none⟩) (World.block_lt_of_cell? _ _ h.1)).trans h.1,(hb.cell (p:=⟨bl,0,none⟩) (World.block_lt_of_cell? _ _ h.2.1)).trans h.2.1,(hb.cell (p:=⟨bm,0,none⟩) (World.block_lt_of_cell? _ _ h.2.2)).trans h.2.2⟩
def AskIn (w:World)(bb bu:Nat)(box:ByteArray)(uid:Int):Prop:=w.cell? ⟨bb,0,none⟩=some (.string box)∧w.cell? ⟨bu,0,none⟩=some (.int .i64 uid)
theorem AskIn.below {w w':World}{bb bu:Nat}{box:ByteArray}{uid:Int}(h:AskIn w bb bu box uid)(hb:Below w.heap.size w w'):AskIn w' bb bu box uid :=
 ⟨(hb.cell (p:=⟨bb,0,none⟩) (World.block_lt_of_cell? _ _ h.1)).trans h.1,(hb.cell (p:=⟨bu,0,none⟩) (World.block_lt_of_cell? _ _ h.2)).trans h.2⟩
def hhA (h:Hh):Array Value:=#[.int .i64 h.id,.string h.box,.slice h.A h.n h.c]
theorem zlu (h:Hh):(hhC h).toArray=hhA h:=rfl
end Go.Proofs.YtmjjefnmabbgdaaGreatDoor
