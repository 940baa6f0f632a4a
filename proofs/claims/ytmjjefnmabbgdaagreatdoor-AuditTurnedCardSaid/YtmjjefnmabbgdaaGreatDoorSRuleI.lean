/- A part of the proof. -/
import Derived.Test.YtmjjefnmabbgdaaGreatDoorSBoxRows
import Derived.Lib.Overlaps
import Derived.Deep.RegionHeld3
namespace Go.Proofs.YtmjjefnmabbgdaaGreatDoor
set_option linter.unusedVariables false
set_option linter.unusedSimpArgs false
set_option maxRecDepth 100000
set_option maxHeartbeats 16000000
open Go.RowKit
theorem zi4 {P:Program}{o:Oper}{a:Act}{w w':World}{K:Act→World→Prop}{Q:Exit→Act→World→Prop}{d s:Operand}{t t':TypeId}{u v z:Value}(ho:o.op=.call { callee:=.builtin .copy,args:=#[d,s],argTypes:=#[t,t'] })
 (hd:a.eval d=u) (hs:a.eval s=v) (hrun:(Builtin.copy_ #[t,t'] o.type #[u,v]).run P w=.ok z w') (hK:K (a.put o.dst z) w'):o.wp P a w K Q:=by
 unfold Oper.wp execOp;simp only[ho,resolve,invoke,builtin,Sem.run_bind,Sem.run_pure,Result.andThen_ok,List.map_toArray,List.map_cons,List.map_nil,hd,hs,hrun];exact hK
theorem z7r {P:Program}{o:Oper}{a:Act}{w w':World}{K:Act→World→Prop}{Q:Exit→Act→World→Prop}{s x:Operand}{t t':TypeId}{v y z:Value}(ho:o.op=.call { callee:=.builtin .append,args:=#[s,x],argTypes:=#[t,t'] })
 (hs:a.eval s=v) (hx:a.eval x=y) (hrun:(Builtin.append_ #[t,t'] o.type #[v,y]).run P w=.ok z w') (hK:K (a.put o.dst z) w'):o.wp P a w K Q:=by
 unfold Oper.wp execOp;simp only[ho,resolve,invoke,builtin,Sem.run_bind,Sem.run_pure,Result.andThen_ok,List.map_toArray,List.map_cons,List.map_nil,hs,hx,hrun];exact hK
theorem Bk.shape {w:World}{b:Nat}{t:TypeId}{cs:Array Value}(h:Bk w b t cs):w.shape? b=some (t,cs.size):=by
 unfold Bk at h;simp[World.shape?,h]
end Go.Proofs.YtmjjefnmabbgdaaGreatDoor
