/- A part of the proof. -/
import Derived.Test.YtmjjefnmabbgdaaGreatDoorSBytes
import Derived.Laws.CopyOwn
import Derived.Lib.AppendZerosOnto
namespace Go.Proofs.YtmjjefnmabbgdaaGreatDoor
set_option linter.unusedVariables false
set_option linter.unusedSimpArgs false
set_option maxRecDepth 100000
set_option maxHeartbeats 16000000
open Go.RowKit
def Bk (w:World)(b:Nat)(t:TypeId)(cs:Array Value):Prop:=w.heap[b]?=some (.cells cs t (0,0))
theorem Bk.below {w w':World}{b B:Nat}{t:TypeId}{cs:Array Value}(h:Bk w b t cs)(hb:Below B w w')(hl:b<B):Bk w' b t cs:=(hb.block b hl).trans h
theorem Bk.cell {w:World}{b:Nat}{t:TypeId}{cs:Array Value}(h:Bk w b t cs)(i:Nat):w.cell? ⟨b,i,none⟩=cs[i]?:=by
 unfold Bk at h;simp[World.cell?,h]
theorem Bk.frozen {w:World}{b:Nat}{t:TypeId}{cs:Array Value}(h:Bk w b t cs)(i:Nat):w.frozen? ⟨b,i,none⟩=false:=by
 unfold Bk at h;simp[World.frozen?,h]
theorem Bk.new (w:World)(t:TypeId)(cs:Array Value):Bk (w.alloc (.cells cs t)) w.heap.size t cs:=heap_alloc_new w _
theorem Bk.lt {w:World}{b:Nat}{t:TypeId}{cs:Array Value}(h:Bk w b t cs):b<w.heap.size:=(Array.getElem?_eq_some_iff.1 h).1
theorem Bk.alloc {w:World}{b:Nat}{t:TypeId}{cs:Array Value}(h:Bk w b t cs)(o:Obj):Bk (w.alloc o) b t cs:=(Below.heap_alloc w o b h.lt).trans h
theorem Bk.drew {w:World}{b:Nat}{t:TypeId}{cs:Array Value}(h:Bk w b t cs):Bk w.drew b t cs:=h
theorem Bk.far {w:World}{b:Nat}{t:TypeId}{cs:Array Value}(h:Bk w b t cs){p:Addr}(hp:b≠p.block)(u:Value):Bk (w.setCell p u) b t cs:=(Below.heap_setCell w p u b hp).trans h
theorem Bk.put {w:World}{b:Nat}{t:TypeId}{cs:Array Value}(h:Bk w b t cs)(i:Nat)(u:Value):Bk (w.setCell ⟨b,i,none⟩ u) b t (cs.setIfInBounds i u):=by
 unfold Bk at h ⊢;simp[World.setCell,Array.getElem?_modify,h]
theorem Bk.new2 (w:World)(o:Obj)(t:TypeId)(cs:Array Value):Bk ((w.alloc o).alloc (.cells cs t)) (w.heap.size+1) t cs:=by
 have:=Bk.new (w.alloc o) t cs
 rwa [World.size_alloc] at this
theorem Bk.new3 (w:World)(o o2:Obj)(t:TypeId)(cs:Array Value):Bk (((w.alloc o).alloc o2).alloc (.cells cs t)) (w.heap.size+1+1) t cs:=by
 have:=Bk.new2 (w.alloc o) o2 t cs
 rwa [World.size_alloc] at this
theorem Bk.new4 (w:World)(o o2 o3:Obj)(t:TypeId)(cs:Array Value):Bk ((((w.alloc o).alloc o2).alloc o3).alloc (.cells cs t)) (w.heap.size+1+1+1) t cs:=by
 have:=Bk.new3 (w.alloc o) o2 o3 t cs
 rwa [World.size_alloc] at this
theorem Bk.four {w:World}{b:Nat}{t:TypeId}{v0 v1 v2 v3:Value}(h:Bk w b t #[v0,v1,v2,v3]) :
 (w.cell? ⟨b,0,none⟩=some v0∧w.cell? ⟨b,1,none⟩=some v1∧w.cell? ⟨b,2,none⟩=some v2∧w.cell? ⟨b,3,none⟩=some v3) ∧
 w.frozen? ⟨b,0,none⟩=false∧w.frozen? ⟨b,1,none⟩=false∧w.frozen? ⟨b,2,none⟩=false∧w.frozen? ⟨b,3,none⟩=false :=
 ⟨⟨h.cell 0,h.cell 1,h.cell 2,h.cell 3⟩,h.frozen 0,h.frozen 1,h.frozen 2,h.frozen 3⟩
theorem setRow_other' (w:World)(g k:Nat)(cs:Array Value)(h:k≠g):(w.setRow g cs).heap[k]?=w.heap[k]?:=Go.setRow_other w g k cs h
section
variable {P:Program}
theorem zju {o:Oper}{a:Act}{w w':World}{K:Act→World→Prop}{Q:Exit→Act→World→Prop}{v:Value}
 (h:(execOp a.eval o).run P w=.ok (.value v) w') (hK:K (a.put o.dst v) w'):o.wp P a w K Q:=by
 unfold Oper.wp;simp only[h];exact hK
theorem qh {o:Oper}{a:Act}{w w':World}{K:Act→World→Prop}{Q:Exit→Act→World→Prop}
 (h:(execOp a.eval o).run P w=.ok .skip w') (hK:K (a.put o.dst undef) w'):o.wp P a w K Q:=by
 unfold Oper.wp;simp only[h];exact hK
theorem zbc {ops:Array Oper}{rest:List Oper}{o:Oper}{a:Act}{w:World}{Q:Exit→Act→World→Prop}(hgd:o.guard=none)(ty:TypeId)(ho:o.op=.alloc ty)(z:Array Value)
 (hz:(P.info? ty).map (·.zero)=some (some (.agg z))) (h:wpList P ops Q rest (a.put o.dst (.pointer (some ⟨w.heap.size,0,none⟩))) (w.alloc (.cells z ty))):wpList P ops Q (o::rest) a w :=
 wpList_plain hgd fun _ hK=>by
  cases hq:P.info? ty with
  | none=>simp[hq] at hz
  | some i =>
    have hz':i.zero=some (.agg z):=by simpa [hq] using hz
    refine zju (v:=.pointer (some ⟨w.heap.size,0,none⟩)) (w':=w.alloc (.cells z ty)) ?_ (hK _ _ h);unfold execOp;simp only[ho];simp[Instr.alloc,zeroValue,typeInfo,hq,hz',newVar,Value.cells,newRow]
theorem j9 {ops:Array Oper}{rest:List Oper}{o:Oper}{a:Act}{w:World}{Q:Exit→Act→World→Prop}(hgd:o.guard=none)(t:TypeId)(parts:Array (Nat×Operand))(ho:o.op=.build t parts)
 (vals:List (Nat×Value)) (hv:(parts.toList.map fun p=>(p.1,a.eval p.2))=vals) (cells:Array Value) (hb:P.built t vals=some cells)
 (h:wpList P ops Q rest (a.put o.dst (.agg cells)) w):wpList P ops Q (o::rest) a w :=
 wpList_plain hgd fun _ hK=>by
  refine zju (v:=.agg cells) (w':=w) ?_ (hK _ _ h);unfold execOp;simp only[ho,Sem.run_bind,run_build w t _ cells (by rw[Array.toList_map];exact hv ▸ hb),Result.andThen_ok];rfl
theorem Bk.setRow_other {w:World}{b g:Nat}{t:TypeId}{cs:Array Value}(h:Bk w b t cs)(hne:b≠g)(cs':Array Value):Bk (w.setRow g cs') b t cs:=(YtmjjefnmabbgdaaGreatDoor.setRow_other' w g b cs' hne).trans h
theorem Bk.setRow_same {w:World}{g:Nat}{t:TypeId}{cs:Array Value}(h:Bk w g t cs)(cs':Array Value):Bk (w.setRow g cs') g t cs':=setRow_heap w g cs cs' t (0,0) h
theorem zi {ops:Array Oper}{rest:List Oper}{o:Oper}{a:Act}{w:World}{Q:Exit→Act→World→Prop}(hgd:o.guard=none)(ty:TypeId)(x y:Operand)(ho:o.op=.store ty x y)
 (g off:Nat) (cells:Array Value) (hx:a.eval x=.pointer (some ⟨g,off,none⟩)) (hy:a.eval y=.agg cells)
 (t:TypeId) (cur:Array Value) (hg:Bk w g t cur) (hfit:off+cells.size≤cur.size) (hi:(P.info? ty).map (·.size)=some cells.size) (h1:∀ v∈cells.toList,v.oneCell'=true)
 (h:∀ w',Hid (w'=w.setRow g (splice cur.toList off cells.toList).toArray)→wpList P ops Q rest (a.put o.dst undef) w'):wpList P ops Q (o::rest) a w :=
 wpList_plain hgd fun _ hK=>by
  refine qh (w':=w.setRow g (splice cur.toList off cells.toList).toArray) ?_ (hK _ _ (h _ rfl));have:=run_storeCells_at P g off t cells.toList 0 cur w hg (by simpa using hfit) h1;simp only[Nat.add_zero,List.append_assoc] at this;cases hq:P.info? ty with
  | none=>simp[hq] at hi
  | some i =>
    have hs:cells.size=i.size:=by simp[hq] at hi;omega
    unfold execOp;simp only[ho,hx,hy,Instr.storeAt,Instr.sureAddr,Sem.run_bind,Sem.run_pure,Result.andThen_ok];simp[storeVar,sizeOf,typeInfo,hq,Value.cells,hs,this,splice]
theorem zhv {l m:List Value}(h:m.length=l.length):splice l 0 m=m:=by
 unfold splice;rw[List.take_zero,List.nil_append,Nat.zero_add,List.drop_eq_nil_of_le (by omega),List.append_nil]
theorem zbl {w:World}{g:Nat}{cs ds:Array Value}(h:ds.size=cs.size):w.setRow g (splice cs.toList 0 ds.toList).toArray=w.setRow g ds:=by
 rw[zhv (by rw[Array.length_toList,Array.length_toList,h]),Array.toArray_toList]
theorem below_setRow {B:Nat}{w w':World}(h:Below B w w'){g:Nat}(hg:B≤g)(cs:Array Value):Below B w (w'.setRow g cs) :=
 h.trans ⟨rfl,rfl,rfl,by simp,fun k hk=>YtmjjefnmabbgdaaGreatDoor.setRow_other' w' g k cs (by omega)⟩
theorem qi {fn:Func}{p:Tmp}{t:TypeId}(h:fn.results=#[.cell p t]){tmps:Array Value}{w:World}{a:Addr}{v:Value}(hp:tmps.getD p undef=.pointer (some a))(hl:(loadVar t a).run P w=.ok v w) :
 (results fn tmps).run P w=.ok v w:=by
 have hp':tmps[p]?.getD undef=.pointer (some a):=by simpa using hp
 simp[results,h,hp',asAddr,hl]
theorem Bk.load {w:World}{b:Nat}{t:TypeId}{cs:Array Value}(h:Bk w b t cs){ty:TypeId}{d:TypeDesc}(hu:P.underlying ty=some d)(hd:d.isRow=true)(hi:(P.info? ty).map (·.size)=some cs.size) :
 (loadVar ty ⟨b,0,none⟩).run P w=.ok (.agg cs) w:=by
 rw[run_loadVar_mid w b 0 ty cs.toList d (fun i v hv=>by rw[Nat.zero_add,h.cell,← Array.getElem?_toList];exact hv) hu hd (by rw[Array.length_toList];exact hi),Array.toArray_toList]
theorem Bk.range {w:World}{b:Nat}{t:TypeId}{cs:Array Value}(h:Bk w b t cs):w.rangeAt b 0 cs.toList:=fun i v hv=>by
 rw[Nat.zero_add,h.cell,← Array.getElem?_toList];exact hv
end
section
variable {α:Type} {k:Nat} {f:α→List Value}
theorem zjv (hk:∀ a,(f a).length=k):∀ (l:List α) (j:Nat),(l.flatMap f).take (j*k)=(l.take j).flatMap f
 | [],j=>by simp
 | a::l,0=>by simp
 | a :: l, j + 1 => by
   rw[List.flatMap_cons,List.take_append,hk,List.take_succ_cons,List.flatMap_cons,← zjv hk l j,Nat.succ_mul,Nat.add_sub_cancel];rw[List.take_of_length_le (by rw[hk];omega)]
theorem zhw (hk:∀ a,(f a).length=k):∀ (l:List α) (j:Nat),(l.flatMap f).drop (j*k)=(l.drop j).flatMap f
 | [],j=>by simp
 | a::l,0=>by simp
 | a :: l, j + 1 => by
   rw[List.flatMap_cons,List.drop_append,hk,List.drop_succ_cons,← zhw hk l j,Nat.succ_mul,Nat.add_sub_cancel];rw[List.drop_eq_nil_of_le (by rw[hk];omega),List.nil_append]
theorem zxc (hk:∀ a,(f a).length=k)(l:List α)(rest:List Value){j:Nat}(hj:j≤l.length)(us:List α) :
 splice (l.flatMap f++rest) (j*k) (us.flatMap f)=(l.take j++us++l.drop (j+us.length)).flatMap f++rest.drop ((j+us.length)*k-l.length*k):=by
 have h1:j*k≤(l.flatMap f).length:=by rw[ju hk];exact Nat.mul_le_mul_right _ hj
 unfold splice;rw[List.take_append_of_le_length h1,zjv hk,ju hk,← Nat.add_mul,List.drop_append,zhw hk,ju hk];simp only[List.flatMap_append,List.append_assoc]
theorem zxd (hk:∀ a,(f a).length=k)(l:List α)(rest:List Value){j:Nat}(hj:j≤l.length)(cs:List Value) :
 ∃ rest',splice (l.flatMap f++rest) (j*k) cs=(l.take j).flatMap f++rest':=by
 have h1:j*k≤(l.flatMap f).length:=by rw[ju hk];exact Nat.mul_le_mul_right _ hj
 unfold splice;rw[List.take_append_of_le_length h1,zjv hk];exact⟨_,rfl⟩
def RowsK (k:Nat)(f:α→List Value)(w:World)(e:TypeId)(g c:Nat)(l:List α):Prop :=
 (∀ a,(f a).length=k)∧l.length≤c∧c≤maxLen∧∃ cur rest,Bk w g e cur∧cur.size=c*k∧cur.toList=l.flatMap f++rest
variable {w w':World} {e:TypeId} {g c n:Nat} {l:List α}
theorem RowsK.own (h:RowsK k f w e g c l){base:Nat}(hb:base≤g):OwnK k f w base e (some ⟨g,0,none⟩) l.length c l:=by
 obtain⟨hk,hl,hm,cur,rest,hc,hs,ht⟩:=h;refine⟨⟨ju hk l,.inr ⟨g,c,cur,rfl,hb,hc,hl,hm,hs,?_⟩⟩,rfl,hk⟩;rw[ht,List.take_left' (ju hk l)]
theorem OwnK.rows {base:Nat}{A:Option Addr}(h:OwnK k f w base e A n c l)(hn:0<n):∃ g,A=some ⟨g,0,none⟩∧base≤g∧RowsK k f w e g c l:=by
 obtain⟨g,cur,rfl,hb,hc,hs,ht⟩:=h.block hn;refine⟨g,rfl,hb,h.2.2,by rw[h.len];exact h.cap.1,h.cap.2,cur,cur.toList.drop (n*k),hc,hs,?_⟩;rw[← ht,List.take_append_drop]
theorem RowsK.lt (h:RowsK k f w e g c l):g<w.heap.size:=by
 obtain⟨_,_,_,cur,rest,hc,_⟩:=h;exact hc.lt
theorem RowsK.below (h:RowsK k f w e g c l)(hb:Below w.heap.size w w'):RowsK k f w' e g c l:=by
 obtain⟨hk,hl,hm,cur,rest,hc,hr⟩:=h;exact⟨hk,hl,hm,cur,rest,hc.below hb hc.lt,hr⟩
theorem RowsK.drew (h:RowsK k f w e g c l):RowsK k f w.drew e g c l:=h
theorem RowsK.to (h:RowsK k f w e g c l)(j:Nat):RowsK k f w e g c (l.take j):=by
 obtain⟨hk,hl,hm,cur,rest,hc,hs,ht⟩:=h;refine⟨hk,by rw[List.length_take];omega,hm,cur,(l.drop j).flatMap f++rest,hc,hs,?_⟩;rw[ht,← List.append_assoc,← List.flatMap_append,List.take_append_drop]
theorem RowsK.range (h:RowsK k f w e g c l){i:Nat}{a:α}(ha:l[i]?=some a):w.rangeAt g (i*k) (f a):=by
 have hi:i<l.length:=(List.getElem?_eq_some_iff.1 ha).1;obtain⟨g',e',hb,hg,hr⟩:=(h.own (Nat.le_refl g)).range (by omega);injection e' with e';injection e' with e' _ _;subst e';exact hr i a ha
theorem RowsK.flat (h:RowsK k f w e g c l)(i:Nat):w.rangeAt g (i*k) ((l.drop i).flatMap f):=by
 obtain⟨hk,hl,hm,cur,rest,hc,hs,ht⟩:=h;intro j v hv
 rw[hc.cell,← Array.getElem?_toList,ht,List.getElem?_append_left (by
  rw[← zhw hk,List.getElem?_drop] at hv
  exact(List.getElem?_eq_some_iff.1 hv).1)]
 rw[← zhw hk,List.getElem?_drop] at hv;exact hv
theorem RowsK.put (h:RowsK k f w e g c l){j:Nat}(hj:j≤l.length)(us:List α)(hc:j+us.length≤c):∃ cur,Bk w g e cur∧cur.size=c*k ∧
 RowsK k f (w.setRow g (splice cur.toList (j*k) (us.flatMap f)).toArray) e g c (l.take j++us++l.drop (j+us.length)):=by
 obtain⟨hk,hl,hm,cur,rest,hB,hs,ht⟩:=h;have hfit:j*k+(us.flatMap f).length≤cur.toList.length:=by
  rw[ju hk,← Nat.add_mul,show cur.toList.length=c*k from hs];exact Nat.mul_le_mul_right _ hc
 refine⟨cur,hB,hs,hk,?_,hm,_,rest.drop ((j+us.length)*k - l.length*k),hB.setRow_same _,?_,?_⟩
 ·simp only[List.length_append,List.length_take,List.length_drop];omega
 ·rw[List.size_toArray,length_splice _ _ _ hfit];exact hs
 ·show splice cur.toList (j*k) (us.flatMap f)=_
  rw[ht,zxc hk l rest hj us]
theorem RowsK.cut (h:RowsK k f w e g c l){j:Nat}(hj:j≤l.length):∃ cur,Bk w g e cur∧cur.size=c*k∧∀ (cs:List Value),j*k+cs.length≤c*k →
 RowsK k f (w.setRow g (splice cur.toList (j*k) cs).toArray) e g c (l.take j):=by
 obtain⟨hk,hl,hm,cur,rest,hB,hs,ht⟩:=h;refine⟨cur,hB,hs,fun cs hcs=>?_⟩;obtain⟨rest',hr⟩:=zxd hk l rest hj cs;refine⟨hk,by rw[List.length_take];omega,hm,_,rest',hB.setRow_same _,?_,?_⟩
 ·rw[List.size_toArray,length_splice _ _ _ (by rw[show cur.toList.length=c*k from hs];exact hcs)];exact hs
 ·show splice cur.toList (j*k) cs=_
  rw[ht,hr]
theorem zgd (w:World)(g:Nat)(cs:Array Value):w.grownBy (w.setRow g cs) (some g) :=
 ⟨rfl,rfl,rfl,by simp,fun i hi hne=>YtmjjefnmabbgdaaGreatDoor.setRow_other' w g i cs (fun e=>hne (by rw[e]))⟩
end
section
variable {P:Program} {α:Type} {k:Nat} {f:α→List Value}
theorem zjw {ops:Array Oper}{rest:List Oper}{o:Oper}{a:Act}{w:World}{Q:Exit→Act→World→Prop}(hgd:o.guard=none)(ty:TypeId)(x y:Operand)(ho:o.op=.store ty x y)
 {e:TypeId} {g c:Nat} {l:List α} (hR:RowsK k f w e g c l) (j:Nat) (hj:j<l.length) (u:α) (hx:a.eval x=.pointer (some ⟨g,j*k,none⟩)) (hy:a.eval y=.agg (f u).toArray)
 (hi:(P.info? ty).map (·.size)=some k) (h1:∀ v∈f u,v.oneCell'=true)
 (h:∀ w',RowsK k f w' e g c (l.set j u)→w.grownBy w' (some g)→wpList P ops Q rest (a.put o.dst undef) w'):wpList P ops Q (o::rest) a w:=by
 have hlc:=hR.2.1;obtain⟨cur,hB,hs,hP⟩:=hR.put (j:=j) (by omega) [u] (by simp;omega);have hlen:(f u).toArray.size=k:=by rw[List.size_toArray,hR.1]
 refine zi hgd ty x y ho g (j*k) (f u).toArray hx hy e cur hB (by
  rw[hlen,hs,← Nat.succ_mul];exact Nat.mul_le_mul_right _ (by omega)) (by rw[hlen];exact hi) h1 ?_
 intro w' hw';have e1:w'=w.setRow g (splice cur.toList (j*k) ([u].flatMap f)).toArray:=by rw[hw'.out];simp
 have e2:l.take j++[u]++l.drop (j+[u].length)=l.set j u:=by
  rw[List.set_eq_take_append_cons_drop,if_pos hj,List.append_assoc];rfl
 rw[e2,← e1] at hP;exact h w' hP (by rw[e1];exact zgd _ _ _)
theorem zxe (w:World)(dT sT ty elem:TypeId)(g o dLen dCap:Nat)(a:Addr)(sLen sCap:Nat)(cur:Array Value)(t:TypeId)(cs:List Value)
 (hu:P.underlying dT=some (.slice elem)) (hs:(P.info? elem).map (·.size)=some k) {m:Nat} (hm:Nat.min sLen dLen=m)
 (hg:Bk w g t cur) (hn:cs.length=m*k)
 (hsrc:∀ j v,cs[j]?=some v→w.cell? (a.add j)=some v) (hfit:o+cs.length≤cur.size) (h1:∀ v∈cs,v.oneCell'=true) :
 (Builtin.copy_ #[dT,sT] ty #[.slice (some ⟨g,o,none⟩) dLen dCap,.slice (some a) sLen sCap]).run P w =
  .ok (goInt m) (w.setRow g (splice cur.toList o cs).toArray):=by
 have hl:=run_loadCells_list (P:=P) w a cs hsrc;have hst:=run_storeCells_at P g o t cs 0 cur w hg (by simpa using hfit) h1;simp only[Nat.add_zero,List.append_assoc] at hst;cases hq:P.info? elem with
 | none=>simp[hq] at hs
 | some i =>
   have hi:i.size=k:=by simpa [hq] using hs
   rw[hn] at hl;simp[Builtin.copy_,run_underlying hu,Builtin.lenOf,Builtin.firstCells,sizeOf,typeInfo,hq,hi,hm,hl,hst,splice]
theorem zxf {z:Array Value}(h:∀ v∈z.toList,v.oneCell'=true)(hz:0<z.size)(n:Nat):∀ v∈(Builtin.zeroCells z n).toList,v.oneCell'=true:=by
 intro v hv;unfold Builtin.zeroCells at hv;simp only[Array.toList_map,List.mem_map] at hv;obtain⟨i,_,rfl⟩:=hv;have hi:i % z.size<z.size:=Nat.mod_lt _ hz;rw[getElem!_pos z _ hi];exact h _ (by simp)
theorem zxg (w:World)(t e ty:TypeId)(z:Value)(ht:P.underlying t=some (.slice e))(hv:∀ w,(zeroValue e).run P w=.ok z w)(g o n c:Nat)(hn:0<n)(cur:Array Value)(et:TypeId)(hg:Bk w g et cur)
 (h1:∀ v∈(Builtin.zeroCells z.cells n).toList,v.oneCell'=true) (hfit:o+(Builtin.zeroCells z.cells n).size≤cur.size) :
 (Builtin.clear_ #[t] ty #[.slice (some ⟨g,o,none⟩) n c]).run P w=.ok (.tuple #[]) (w.setRow g (splice cur.toList o (Builtin.zeroCells z.cells n).toList).toArray):=by
 have hst:=run_storeCells_at P g o et (Builtin.zeroCells z.cells n).toList 0 cur w hg (by simpa using hfit) h1;simp only[Nat.add_zero,List.append_assoc] at hst;obtain⟨m,rfl⟩:∃ m,n=m+1:=⟨n - 1,by omega⟩;simp[Builtin.clear_,run_underlying ht,hv,hst,splice]
end
end Go.Proofs.YtmjjefnmabbgdaaGreatDoor
