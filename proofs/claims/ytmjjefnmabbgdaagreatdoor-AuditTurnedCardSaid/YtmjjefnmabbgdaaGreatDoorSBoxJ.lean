/- A part of the proof. -/
import Derived.Test.YtmjjefnmabbgdaaGreatDoorSBoxI
namespace Go.Proofs.YtmjjefnmabbgdaaGreatDoor
set_option linter.unusedVariables false
set_option linter.unusedSimpArgs false
set_option maxRecDepth 100000
set_option maxHeartbeats 16000000
open Go.RowKit
def StoreIs (b:Bx)(ids:List Int)(mode flags:Int)(w:World)(e:Ending)(w':World):Prop :=
 ∃ (A':Option Addr) (n' c':Nat),e=.returned (.tuple #[.agg #[.string (zbd b ids mode flags).name,.int .i64 (zbd b ids mode flags).valid,.int .i64 (zbd b ids mode flags).next,.slice A' n' c'],.int .i64 (zbn b ids mode flags)])∧MsgsIn w' w'.heap.size A' n' (zbd b ids mode flags).msgs∧Below w.heap.size w w'
theorem StoreIs.no {b:Bx}{ids:List Int}{mode flags:Int}{w w':World}{A':Option Addr}{n' c':Nat}{z:Int}(h:zbn b ids mode flags=z)(hz:z≠0)(hm:MsgsIn w' w'.heap.size A' n' b.msgs)(hb:Below w.heap.size w w'):StoreIs b ids mode flags w (.returned (.tuple #[.agg #[.string b.name,.int .i64 b.valid,.int .i64 b.next,.slice A' n' c'],.int .i64 z])) w':=by
 have hn:=zpl (b:=b) (ids:=ids) (mode:=mode) (flags:=flags) (by rw[h];exact hz);refine⟨A',n',c',?_,by rw[hn];exact hm,hb⟩;rw[hn,h]
theorem StoreIs.yes {b:Bx}{ids:List Int}{mode flags:Int}{w w':World}{A':Option Addr}{n' c':Nat}(h:zbn b ids mode flags=0)(hm:MsgsIn w' w'.heap.size A' n' (zc9 b.msgs ids mode flags))(hb:Below w.heap.size w w'):StoreIs b ids mode flags w (.returned (.tuple #[.agg #[.string b.name,.int .i64 b.valid,.int .i64 b.next,.slice A' n' c'],.int .i64 0])) w':=by
 have hn:=zgi (b:=b) (ids:=ids) (mode:=mode) (flags:=flags) h;refine⟨A',n',c',?_,by rw[hn];exact hm,hb⟩;rw[hn,h]
def StoreO (b:Bx)(ids:List Int)(mode flags:Int)(w:World)(e:Ending)(w':World):Prop :=
 ∃ (A':Option Addr) (n' c':Nat),e=.returned (.tuple #[.agg #[.string (zbd b ids mode flags).name,.int .i64 (zbd b ids mode flags).valid,.int .i64 (zbd b ids mode flags).next,.slice A' n' c'],.int .i64 (zbn b ids mode flags)])∧MsgsIn w' w'.heap.size A' n' (zbd b ids mode flags).msgs∧Below w.heap.size w w'∧(zbn b ids mode flags=0→OwnM w' w.heap.size A' n' c' (zbd b ids mode flags).msgs)
theorem StoreO.is {b:Bx}{ids:List Int}{mode flags:Int}{w w':World}{e:Ending}(h:StoreO b ids mode flags w e w'):StoreIs b ids mode flags w e w':=by
 obtain⟨A',n',c',h1,h2,h3,_⟩:=h;exact⟨A',n',c',h1,h2,h3⟩
theorem StoreO.no {b:Bx}{ids:List Int}{mode flags:Int}{w w':World}{A':Option Addr}{n' c':Nat}{z:Int}(h:zbn b ids mode flags=z)(hz:z≠0)(hm:MsgsIn w' w'.heap.size A' n' b.msgs)(hb:Below w.heap.size w w'):StoreO b ids mode flags w (.returned (.tuple #[.agg #[.string b.name,.int .i64 b.valid,.int .i64 b.next,.slice A' n' c'],.int .i64 z])) w':=by
 have hn:=zpl (b:=b) (ids:=ids) (mode:=mode) (flags:=flags) (by rw[h];exact hz);refine⟨A',n',c',?_,by rw[hn];exact hm,hb,fun h0=>absurd (h.symm.trans h0) hz⟩;rw[hn,h]
theorem StoreO.yes {b:Bx}{ids:List Int}{mode flags:Int}{w w':World}{A':Option Addr}{n' c':Nat}(h:zbn b ids mode flags=0)(hm:OwnM w' w.heap.size A' n' c' (zc9 b.msgs ids mode flags))(hs:∀ m∈zc9 b.msgs ids mode flags,m.body.length≤140737488355328)(hb:Below w.heap.size w w'):StoreO b ids mode flags w (.returned (.tuple #[.agg #[.string b.name,.int .i64 b.valid,.int .i64 b.next,.slice A' n' c'],.int .i64 0])) w':=by
 have hn:=zgi (b:=b) (ids:=ids) (mode:=mode) (flags:=flags) h;refine⟨A',n',c',?_,by rw[hn];exact hm.msgs hs,hb,fun _=>by rw[hn];exact hm⟩;rw[hn,h]
def StoAt (w:World)(nm:ByteArray)(v nx:Int)(A:Option Addr)(n c:Nat)(A':Option Addr)(c' bo:Nat)(L:List Mg)(wx:World):Prop :=
 TwoAt w nm v nx A n c (w.heap.size+2) wx∧Bk wx bo 76 #[.string nm,.int .i64 v,.int .i64 nx,.slice A' n c']∧OwnM wx (w.heap.size+2) A' n c' L∧w.heap.size+2≤bo
theorem StoAt.below {w wx W:World}{nm:ByteArray}{v nx:Int}{A A':Option Addr}{n c c' bo:Nat}{L:List Mg}(h:StoAt w nm v nx A n c A' c' bo L wx)(hb:Below wx.heap.size wx W):StoAt w nm v nx A n c A' c' bo L W :=
 ⟨h.1.below hb,h.2.1.below hb h.2.1.lt,h.2.2.1.below hb,h.2.2.2⟩
theorem StoAt.put {w wx:World}{nm:ByteArray}{v nx:Int}{A:Option Addr}{n c c' bo g i:Nat}{L:List Mg}{a:Mg}(h:StoAt w nm v nx A n c (some ⟨g,0,none⟩) c' bo L wx)(hi:L[i]?=some a)(z:Int) :
 StoAt w nm v nx A n c (some ⟨g,0,none⟩) c' bo (L.set i { a with flags:=z }) (wx.setCell ⟨g,i*4+1,none⟩ (.int .i64 z)):=by
 obtain⟨h1,h2,h3,h4⟩:=h;obtain⟨hg,hl,_,_,ho⟩:=h3.putF hi z;exact⟨h1.below2 (Nat.le_refl _) (z6g hg _ _),h2.keptM h3 (show 108≠76 by decide) (jk wx g _ _),ho,h4⟩
end Go.Proofs.YtmjjefnmabbgdaaGreatDoor
