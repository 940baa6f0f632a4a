/- A part of the proof. -/
import Derived.Deep.RegionHeld3
import Derived.Deep.AppendLies
import Derived.Test.YtmjjefnmabbgdaaGreatDoorSShaRefF
namespace Go.Proofs.YtmjjefnmabbgdaaGreatDoor
set_option linter.unusedVariables false
set_option linter.unusedSimpArgs false
set_option maxRecDepth 100000
set_option maxHeartbeats 16000000
open Go.RowKit
theorem Bytes.two (w:World){a b:Nat}(ha:a<256)(hb:b<256)(t:TypeId):Bytes (w.alloc (.cells #[.int .u8 (a:Int),.int .u8 (b:Int)] t)) (w.heap.size+1) (some ⟨w.heap.size,0,none⟩) 2 [a,b]:=by
 refine⟨rfl,by simp;omega,fun _=>⟨w.heap.size,0,rfl,by omega,fun i hi=>?_⟩⟩;rw[cell_of_row _ _ _ _ _ _ (heap_alloc_new w _)]
 match i,hi with
 | 0,_ | 1,_=>rfl
theorem Bk.bytes {w:World}{g:Nat}{t:TypeId}{l:List Nat}(h:Bk w g t (cb l))(hb:∀ x∈l,x<256){n:Nat}(hn:l.length=n){B:Nat}(hB:g<B):Bytes w B (some ⟨g,0,none⟩) n l :=
 ⟨hn,hb,fun _=>⟨g,0,rfl,hB,fun i hi=>by rw[Nat.zero_add];exact h.byte (by omega)⟩⟩
theorem z8a {W w5:World}(h:Below W.drew.heap.size W.drew w5):Below W.heap.size W w5:=((Below.refl _ _).drew).trans h
theorem z8b {P:Program}{W:World}{g:Nat}{t:TypeId}{cur ds:Array Value}(h:Bk W g t cur)(hs:ds.size=cur.size)(h1:∀ v∈ds.toList,v.oneCell'=true):(storeCells ⟨g,0,none⟩ ds.toList).run P W=.ok () (W.setRow g ds):=by
 have:=run_storeCells_at P g 0 t ds.toList 0 cur W h (by simp[hs]) h1;rw[this]
 congr 2
 have e:cur.toList.take (0+0)++ds.toList++cur.toList.drop (0+0+ds.toList.length)=ds.toList:=by
  rw[Nat.add_zero,List.take_zero,List.nil_append,Nat.zero_add,List.drop_eq_nil_of_le (by simp[hs]),List.append_nil]
 rw[e,Array.toArray_toList]
end Go.Proofs.YtmjjefnmabbgdaaGreatDoor
