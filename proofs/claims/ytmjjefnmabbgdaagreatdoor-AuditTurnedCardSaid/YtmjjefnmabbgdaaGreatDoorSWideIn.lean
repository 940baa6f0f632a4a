/- A part of the proof. -/
import Derived.Test.YtmjjefnmabbgdaaGreatDoorSWide
import Derived.RangeFuncNested
import Derived.RangeFuncBound
import Derived.RangeFuncCalls
import Derived.RangeFuncLeaves
import Derived.Shelf.Abstract
import Derived.Shelf.RegionOpen
import Derived.OwnWalkIn
import Derived.TacticsInMore
import Derived.LoopNIn
import Derived.LoopIn
namespace Go.Proofs.YtmjjefnmabbgdaaGreatDoor
set_option linter.unusedVariables false
set_option linter.unusedSimpArgs false
set_option maxRecDepth 100000
set_option maxHeartbeats 16000000
open Go.RowKit Go.Shelf
structure Keeps (S:Nat→Prop)(w w':World):Prop where
 os:w'.os=w.os
 tape:w'.tape=w.tape
 output:w'.output=w.output
 size:w.heap.size≤w'.heap.size
 block:∀ k,S k→w'.heap[k]?=w.heap[k]?
theorem Keeps.refl (S:Nat→Prop)(w:World):Keeps S w w:=⟨rfl,rfl,rfl,Nat.le_refl _,fun _ _=>rfl⟩
theorem Keeps.trans {S:Nat→Prop}{a b c:World}(h:Keeps S a b)(k:Keeps S b c):Keeps S a c :=
 ⟨k.os.trans h.os,k.tape.trans h.tape,k.output.trans h.output,Nat.le_trans h.size k.size,fun i hi=>(k.block i hi).trans (h.block i hi)⟩
theorem Keeps.cell {S:Nat→Prop}{w w':World}(h:Keeps S w w'){p:Addr}(hp:S p.block):w'.cell? p=w.cell? p:=World.cell?_of_block (w:=w) (h.block p.block hp)
theorem Keeps.frozen {S:Nat→Prop}{w w':World}(h:Keeps S w w'){p:Addr}(hp:S p.block):w'.frozen? p=w.frozen? p:=World.frozen?_of_block (w:=w) (h.block p.block hp)
theorem Keeps.of_below {S:Nat→Prop}{B:Nat}{w w':World}(h:Below B w w')(hS:∀ b,S b→b<B):Keeps S w w':=⟨h.os,h.tape,h.output,h.size,fun k hk=>h.block k (hS k hk)⟩
theorem Keeps.below {S:Nat→Prop}{B:Nat}{w w':World}(h:Keeps S w w')(hS:∀ b,b<B→S b):Below B w w':=⟨h.os,h.tape,h.output,h.size,fun k hk=>h.block k (hS k hk)⟩
theorem Keeps.alloc {S:Nat→Prop}{a w:World}(h:Keeps S a w)(hS:∀ b,S b→b<w.heap.size)(o:Obj):Keeps S a (w.alloc o) :=
 h.trans ⟨rfl,rfl,rfl,by simp,fun k hk=>Below.heap_alloc _ _ _ (hS k hk)⟩
theorem Keeps.setCell {S:Nat→Prop}{a w:World}(h:Keeps S a w){p:Addr}(hp:¬ S p.block)(u:Value):Keeps S a (w.setCell p u) :=
 h.trans ⟨rfl,rfl,rfl,by simp[World.setCell],fun k hk=>Below.heap_setCell _ _ _ _ (fun e=>hp (e ▸ hk))⟩
theorem Keeps.setRow {S:Nat→Prop}{a w:World}(h:Keeps S a w){g:Nat}(hp:¬ S g)(cs:Array Value):Keeps S a (w.setRow g cs) :=
 h.trans ⟨rfl,rfl,rfl,by simp,fun k hk=>Go.setRow_other w g k cs (fun e=>hp (e ▸ hk))⟩
theorem Bk.keptW {w w':World}{row:Option Nat}{b:Nat}{t:TypeId}{cs:Array Value}(h:Bk w b t cs)(hg:w.grownBy w' row)(hr:∀ r,row=some r→∃ o:Obj,w.heap[r]?=some o∧o.isCells=false):Bk w' b t cs :=
 (hg.block b h.lt (fun e=>by obtain⟨o,ho,hc⟩:=hr b e.symm;rw[show w.heap[b]?=_ from h] at ho;cases ho;cases hc)).trans h
theorem z74 {β:Type}{S:Nat→Prop}{B:Nat}{w0:World}(hS:∀ b,S b→b<B)(h0:B≤w0.heap.size):OwnFrom B (fun (_:β) W=>Keeps S w0 W) :=
 fun _ A C row hs hg hr=>hs.trans ⟨hg.os,hg.tape,hg.output,hg.size,fun k hk=>hg.block k (by have:=hS k hk;have:=hs.size;omega) (fun e=>by have:=(hr k e.symm).1;have:=hS k hk;omega)⟩
theorem z75 (W:World)(g:Nat)(t:TypeId)(cs cs':Array Value)(h:Bk W g t cs):KeepsOthers W (W.setRow g cs') :=
 ⟨by simp,fun k o hk ho=>by
  by_cases e:k=g
  ·subst e
   rw[show W.heap[k]?=_ from h] at hk;cases hk
   cases ho
  ·exact(Go.setRow_other W g k cs' e).trans hk⟩
theorem z78 {S:Nat→Prop}{B:Nat}(hS:∀ b,S b→b<B)(W:World)(l:Nat)(o o':Obj)(hl:B≤l)(_:W.heap[l]?=some o)(_:o.isCells=false)(_:o.isWalk=false):Keeps S W (W.putObj l o'):=by
 have hg:=grownBy_putObj' W l o';refine⟨hg.os,hg.tape,hg.output,hg.size,fun k hk=>?_⟩;have hkB:=hS k hk;by_cases hkl:k<W.heap.size
 ·exact hg.block k hkl (fun e=>by cases e;omega)
 ·have h1:W.heap[k]?=none:=Array.getElem?_eq_none (by omega)
  have h2:(W.putObj l o').heap.size=W.heap.size:=by simp[World.putObj]
  rw[h1,Array.getElem?_eq_none (by omega)]
section
variable {P:Program} {F:Fence} {n:Nat}
theorem z79 {c:Code}{a:Act}{W:World}{Q:Exit→Act→World→Prop}(G:World→Prop)(hF:G W)(h:∀ W',G W'→c.wpIn F n P Q a W'):c.wpIn F n P Q a W:=h W hF
theorem zly {ops:Array Oper}{rest:List Oper}{o:Oper}{a:Act}{w:World}{Q:Exit→Act→World→Prop}(hw:Region.wanted o (yielded ops a.tmps)=true)
 (h:∀ K:Act→World→Prop,(∀ a w,wpListIn F n P ops Q rest a w→K a w)→o.wpIn F n P a w K Q):wpListIn F n P ops Q (o::rest) a w :=
 wpListIn_step fun K hK=>by rw[if_pos hw];exact h K hK
theorem zlz {o:Oper}{a:Act}{w w':World}{K:Act→World→Prop}{Q:Exit→Act→World→Prop}{v:Value}
 (hab:o.about P w a.eval=none) (hd:∀ c,o.op≠.defer c) (h:(execOp a.eval o).run P w=.ok (.value v) w') (hK:K (a.put o.dst v) w'):o.wpIn F n P a w K Q:=by
 refine⟨fun f hf=>(by rw[hab] at hf;cases hf),?_⟩;rw[Oper.semAt_plain F _ _ hd,h];exact hK
theorem zs1 {o:Oper}{a:Act}{w w':World}{K:Act→World→Prop}{Q:Exit→Act→World→Prop}
 (hab:o.about P w a.eval=none) (hd:∀ c,o.op≠.defer c) (h:(execOp a.eval o).run P w=.ok .skip w') (hK:K (a.put o.dst undef) w'):o.wpIn F n P a w K Q:=by
 refine⟨fun f hf=>(by rw[hab] at hf;cases hf),?_⟩;rw[Oper.semAt_plain F _ _ hd,h];exact hK
theorem zs2 {ops:Array Oper}{rest:List Oper}{op:Oper}{a:Act}{w:World}{Q:Exit→Act→World→Prop}(hgd:Region.wanted op (yielded ops a.tmps)=true)(ty:TypeId)(x:Operand)(ho:op.op=.load ty x)
 (b o:Nat) (hx:a.eval x=.pointer (some ⟨b,o,none⟩)) (cs:List Value) (d:TypeDesc) (hc:w.rangeAt b o cs)
 (hu:P.underlying ty=some d) (hd:d.isRow=true) (hi:(P.info? ty).map (·.size)=some cs.length)
 (h:wpListIn F n P ops Q rest (a.put op.dst (.agg cs.toArray)) w):wpListIn F n P ops Q (op::rest) a w :=
 zly hgd fun _ hK=>by
  refine zlz (v:=.agg cs.toArray) (w':=w) (by simp[Oper.about,ho]) (by rw[ho];intro c hc';cases hc') ?_ (hK _ _ h);unfold execOp;simp only[ho,hx,Instr.loadAt,Instr.sureAddr,Sem.run_bind,Sem.run_pure,Result.andThen_ok,run_loadVar_mid w b o ty cs d hc hu hd hi]
theorem zs3 {ops:Array Oper}{rest:List Oper}{o:Oper}{a:Act}{w:World}{Q:Exit→Act→World→Prop}(hgd:Region.wanted o (yielded ops a.tmps)=true)(ty:TypeId)(ho:o.op=.alloc ty)(z:Array Value)
 (hz:(P.info? ty).map (·.zero)=some (some (.agg z))) (h:wpListIn F n P ops Q rest (a.put o.dst (.pointer (some ⟨w.heap.size,0,none⟩))) (w.alloc (.cells z ty))):wpListIn F n P ops Q (o::rest) a w :=
 zly hgd fun _ hK=>by
  cases hq:P.info? ty with
  | none=>simp[hq] at hz
  | some i =>
    have hz':i.zero=some (.agg z):=by simpa [hq] using hz
    refine zlz (v:=.pointer (some ⟨w.heap.size,0,none⟩)) (w':=w.alloc (.cells z ty)) (by simp[Oper.about,ho]) (by rw[ho];intro c hc';cases hc') ?_ (hK _ _ h);unfold execOp;simp only[ho];simp[Instr.alloc,zeroValue,typeInfo,hq,hz',newVar,Value.cells,newRow]
theorem zs4 {ops:Array Oper}{rest:List Oper}{o:Oper}{a:Act}{w:World}{Q:Exit→Act→World→Prop}(hgd:Region.wanted o (yielded ops a.tmps)=true)(ty:TypeId)(x y:Operand)(ho:o.op=.store ty x y)
 (g off:Nat) (cells:Array Value) (hx:a.eval x=.pointer (some ⟨g,off,none⟩)) (hy:a.eval y=.agg cells)
 (t:TypeId) (cur:Array Value) (hg:Bk w g t cur) (hfit:off+cells.size≤cur.size) (hi:(P.info? ty).map (·.size)=some cells.size) (h1:∀ v∈cells.toList,v.oneCell'=true)
 (h:∀ w',Hid (w'=w.setRow g (splice cur.toList off cells.toList).toArray)→wpListIn F n P ops Q rest (a.put o.dst undef) w'):wpListIn F n P ops Q (o::rest) a w :=
 zly hgd fun _ hK=>by
  refine zs1 (w':=w.setRow g (splice cur.toList off cells.toList).toArray) (by simp[Oper.about,ho]) (by rw[ho];intro c hc';cases hc') ?_ (hK _ _ (h _ rfl));have:=run_storeCells_at P g off t cells.toList 0 cur w hg (by simpa using hfit) h1;simp only[Nat.add_zero,List.append_assoc] at this;cases hq:P.info? ty with
  | none=>simp[hq] at hi
  | some i =>
    have hs:cells.size=i.size:=by simp[hq] at hi;omega
    unfold execOp;simp only[ho,hx,hy,Instr.storeAt,Instr.sureAddr,Sem.run_bind,Sem.run_pure,Result.andThen_ok];simp[storeVar,sizeOf,typeInfo,hq,Value.cells,hs,this,splice]
end
end Go.Proofs.YtmjjefnmabbgdaaGreatDoor
