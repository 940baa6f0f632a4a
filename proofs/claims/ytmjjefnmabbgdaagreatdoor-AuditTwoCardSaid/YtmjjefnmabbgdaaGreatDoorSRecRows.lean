/- A part of the proof. -/
import Derived.Test.YtmjjefnmabbgdaaGreatDoorSRecMath
import Derived.Test.YtmjjefnmabbgdaaGreatDoorSEventO
import Derived.Test.YtmjjefnmabbgdaaGreatDoorSShaIter
import Derived.ChangeKeysEq
namespace Go.Proofs.YtmjjefnmabbgdaaGreatDoor
set_option linter.unusedVariables false
set_option linter.unusedSimpArgs false
set_option maxRecDepth 100000
set_option maxHeartbeats 16000000
open Go.RowKit
def chC (c:Ch):Array Value:=(c.head.map bv++[Value.int .i64 c.count]).toArray
theorem zx {c:Ch}(h:c.Ok):(chC c).size=33:=by unfold chC;simp[h.1]
theorem zt (c:Ch):∀ v∈(chC c).toList,v.oneCell'=true:=by
 intro v hv;unfold chC at hv;rcases List.mem_append.1 hv with h|h
 ·exact zht _ v h
 ·rw[List.mem_singleton.1 h];rfl
theorem zu8 (l:List Nat):∀ v∈(cb l).toList,v.oneCell'=true:=by unfold cb;exact zht l
theorem zjb {c:Ch}(h:c.Ok):(chC c)[32]?=some (.int .i64 c.count):=by
 unfold chC;rw[List.getElem?_toArray,List.getElem?_append_right (by rw[List.length_map,h.1];exact Nat.le_refl _),List.length_map,h.1];rfl
theorem zjc {c:Ch}(h:c.Ok){i:Nat}(hi:i<32):(chC c)[i]?=some (.int .u8 ((zf c.head i:Nat):Int)):=by
 unfold chC;rw[List.getElem?_toArray,List.getElem?_append_left (by rw[List.length_map,h.1];exact hi)];have:=zdw (l:=c.head) (i:=i) (by rw[h.1];exact hi);unfold cb at this
 rwa [List.getElem?_toArray] at this
theorem zmk {c:Ch}(h:c.Ok):(chC c).extract 0 32=cb c.head:=by
 apply Array.ext'
 unfold chC cb;simp only[Array.toList_extract,List.extract_eq_take_drop,List.drop_zero];rw[List.take_append_of_le_length (by rw[List.length_map,h.1];exact Nat.le_refl _),List.take_of_length_le (by rw[List.length_map,h.1];exact Nat.le_refl _)]
theorem zu9:chC ch0=(List.replicate 32 (Value.int .u8 0)++[Value.int .i64 0]).toArray:=by
 unfold chC ch0 bv;rw[List.map_replicate];rfl
theorem zva:(Tryz.prog.info? 27).map (·.size)=some 33:=by kernel_rfl
theorem info_ch' {c:Ch}(h:c.Ok):(Tryz.prog.info? 27).map (·.size)=some (chC c).size:=by rw[zx h];exact zva
theorem zcd {c:Ch}(h:c.Ok):(Tryz.prog.info? 27).map (·.size)=some (chC c).toList.length:=by rw[Array.length_toList];exact info_ch' h
theorem zb2:(Tryz.prog.info? 25).map (·.size)=some 32:=by kernel_rfl
theorem Bk.ch {w:World}{b:Nat}{c:Ch}(H:Bk w b 27 (chC c))(h:c.Ok):(loadVar 27 ⟨b,0,none⟩).run Tryz.prog w=.ok (.agg (chC c)) w:=H.load Tryz.underlying27 rfl (info_ch' h)
theorem Bk.headRange {w:World}{b:Nat}{t:TypeId}{c:Ch}(H:Bk w b t (chC c))(h:c.Ok):w.rangeAt b 0 (cb c.head).toList:=fun i v hv=>by
 have hi:i<32:=by
  have:=(List.getElem?_eq_some_iff.1 hv).1;rw[Array.length_toList,qn,h.1] at this;exact this
 rw[Nat.zero_add,H.cell i,zjc h hi];rw[Array.getElem?_toList,zdw (by rw[h.1];exact hi)] at hv;exact hv
theorem Bk.headBytes {w:World}{b B:Nat}{t:TypeId}{c:Ch}(H:Bk w b t (chC c))(h:c.Ok)(hB:b<B):Bytes w B (some ⟨b,0,none⟩) 32 c.head :=
 ⟨h.1,h.2,fun _=>⟨b,0,rfl,hB,fun i hi=>by rw[Nat.zero_add,H.cell i];exact zjc h hi⟩⟩
theorem Bk.count {w:World}{b:Nat}{t:TypeId}{c:Ch}(H:Bk w b t (chC c))(h:c.Ok):w.cell? ⟨b,32,none⟩=some (.int .i64 c.count):=(H.cell 32).trans (zjb h)
theorem zjd:(Tryz.prog.info? 5).map (·.size)=some 1:=by kernel_rfl
theorem Bytes.from15 {w:World}{B n c k:Nat}{A:Option Addr}{l:List Nat}(hl:Bytes w B A n l)(hk:k≤n)(hnc:n≤c):Bytes w B (if c=k then A else A.map (·.add k)) (n-k) (l.drop k):=by
 have hB:=hl.rest hk;by_cases hck:c=k
 ·have h0:n-k=0:=by omega
  rw[h0] at hB ⊢;exact⟨hB.1,hB.2.1,fun h=>absurd h (Nat.lt_irrefl _)⟩
 ·rw[if_neg hck];exact hB
theorem zvb {P:Program}{t e:TypeId}(ht:P.underlying t=some (.slice e))(hsz:(P.info? e).map (·.size)=some 1)(w:World)(A:Option Addr)(n c k:Nat)(hk:k≤n)(hnc:n≤c) :
 (Instr.sliceAt t (.slice A n c) (some (.int .i64 (k:Int))) none none).run P w=.ok (.slice (if c=k then A else A.map (·.add k)) (n-k) (c-k)) w:=by
 have hel:P.elem t=e:=by simp[Program.elem,ht]
 have ht':P.underlying t=some (.slice (P.elem t)):=by rw[hel];exact ht
 have hs:∀ W:World,(sizeOf (P.elem t)).run P W=.ok 1 W:=by
  intro W;rw[hel];cases hq:P.info? e with
  | none=>simp[hq] at hsz
  | some i =>
    have:i.size=1:=by simpa [hq] using hsz
    simp[sizeOf,hq,this,go_sem,run_typeInfo _ hq]
 rw[run_sliceAt_slice w t _ _ _ _ ht',run_slice_l w t A n c ht' .i64 (k:Int) (by omega) (by omega),hs];simp only[Result.andThen_ok,sliced,Int.toNat_natCast,Nat.mul_one]
theorem zml {P:Program}{o:Oper}{ρ:Operand→Value}{w:World}{x lo:Operand}{t e:TypeId}(ho:o.op=.slice t x (some lo) none none)(ht:P.underlying t=some (.slice e))(hsz:(P.info? e).map (·.size)=some 1)
 {A:Option Addr} {n c k:Nat} (hx:ρ x=.slice A n c) (hlo:ρ lo=.int .i64 (k:Int)) (hk:k≤n) (hnc:n≤c):(execOp ρ o).run P w=.ok (.value (.slice (if c=k then A else A.map (·.add k)) (n-k) (c-k))) w:=by
 unfold execOp;simp[ho,hx,hlo,zvb ht hsz w A n c k hk hnc]
theorem zmm {P:Program}{ops:Array Oper}{rest:List Oper}{o:Oper}{a:Act}{w:World}{Q:Exit→Act→World→Prop}(hgd:o.guard=none)(x lo:Operand)(t e:TypeId)
 (ho:o.op=.slice t x (some lo) none none) (ht:P.underlying t=some (.slice e)) (hsz:(P.info? e).map (·.size)=some 1)
 (A:Option Addr) (n c k B:Nat) (l:List Nat) (hx:a.eval x=.slice A n c) (hlo:a.eval lo=.int .i64 (k:Int)) (hl:Bytes w B A n l) (hk:k≤n) (hnc:n≤c)
 (h:∀ A' c',n-k≤c'→c'≤c→Bytes w B A' (n-k) (l.drop k)→wpList P ops Q rest (a.put o.dst (.slice A' (n-k) c')) w):wpList P ops Q (o::rest) a w :=
 wpList_plain hgd fun _ hK=>zju (zml ho ht hsz hx hlo hk hnc) (hK _ _ (h _ _ (by omega) (by omega) (Bytes.from15 hl hk hnc)))
theorem zvc {P:Program}{o:Oper}{ρ:Operand→Value}{w:World}{ty e:TypeId}{x:Operand}(ho:o.op=.sliceToArrayPointer ty x){a:Option Addr}{m k c:Nat}(hx:ρ x=.slice a m c)(hu:P.underlying ty=some (.array k e))(hk:k≤m):(execOp ρ o).run P w=.ok (.value (.pointer a)) w:=by
 have hn:¬ m<k:=by omega
 unfold execOp;simp[ho,hx,Instr.arrayAt,run_underlying hu,hn]
theorem Tabs.later15 {w w':World}(h:Tabs w)(hb:Below w.heap.size w w'):Tabs w':=h.below hb h.pos
theorem zhk {P:Program}(w:World){e:TypeId}{k:IntKind}(he:P.underlying e=some (.int k))(cs:Array Value)(off:Nat)(v:Value)(hv:cs[off]?=some v):(part e cs off).run P w=.ok v w:=by
 have hagg:(isAgg e).run P w=.ok false w:=by
  unfold isAgg;rw[Sem.run_bind,run_underlying he w];simp
 simp[part,hagg,hv]
theorem zmn {P:Program}(d:Nat){e:TypeId}(he:P.underlying e=some (.int .u8))(a b:List Nat):∀ (is:List Nat) (w:World),(∀ i∈is,i<a.length∧i<b.length) →
 (Op.eqItems (d+1) e 1 (cb a) (cb b) is).run P w=.ok (is.all fun i=>zf a i == zf b i) w
 | [],w,_=>by simp[Op.eqItems]
 | i :: r, w, h => by
   obtain⟨ha,hb⟩:=h i (by simp);have h1:(cb a)[i*1]?=some (.int .u8 ((zf a i:Nat):Int)):=by rw[Nat.mul_one];exact zdw ha
   have h2:(cb b)[i*1]?=some (.int .u8 ((zf b i:Nat):Int)):=by rw[Nat.mul_one];exact zdw hb
   have ih:=zmn d he a b r w (fun j hj=>h j (by simp[hj]));simp only[Op.eqItems,Sem.run_bind,zhk w he _ _ _ h1,zhk w he _ _ _ h2,Result.andThen_ok,run_equalIn_int w d e .u8 .u8 _ _ he];have hc:(((zf a i:Nat):Int) == ((zf b i:Nat):Int))=(zf a i == zf b i):=by
    rw[Bool.eq_iff_iff];simp;omega
   rw[hc];by_cases hab:(zf a i == zf b i)=true
   ·rw[hab]
    simp only[Bool.not_true,Bool.false_eq_true,if_false,ih,List.all_cons,hab,Bool.true_and]
   ·have hab':(zf a i == zf b i)=false:=by simpa using hab
    rw[hab'];simp only[Bool.not_false,if_true,Sem.run_pure,List.all_cons,hab',Bool.false_and]
theorem zvd {n:Nat}{a b:List Nat}(ha:a.length=n)(hb:b.length=n):((List.range n).all fun i=>zf a i == zf b i)=decide (a=b):=by
 rw[Bool.eq_iff_iff,List.all_eq_true,decide_eq_true_eq];constructor
 ·intro h
  apply List.ext_getElem
  ·rw[ha,hb]
  ·intro i h1 h2
   have:=h i (by simp;omega)
   simpa [zf,h1,h2] using this
 ·rintro rfl i _
  simp
theorem zje {P:Program}(w:World)(d:Nat){t e:TypeId}{n:Nat}{i:TypeInfo}(ht:P.underlying t=some (.array n e))(he:P.underlying e=some (.int .u8))(hi:P.info? e=some i)(hc:P.cellsOf e=1){a b:List Nat}(ha:a.length=n)(hb:b.length=n) :
 (Op.equalIn (d+2) t (.agg (cb a)) (.agg (cb b))).run P w=.ok (decide (a=b)) w:=by
 rw[run_equalIn_array w (d+1) _ _ ht hi,hc,zmn d he a b _ w (fun j hj=>by simp at hj;omega),zvd ha hb]
theorem zmo {P:Program}(w:World){t:TypeId}{n:Nat}{e:TypeId}{i:TypeInfo}(ht:P.underlying t=some (.array n e))(hi:P.info? t=some i)(cs:Array Value)(off:Nat):(part t cs off).run P w=.ok (.agg (cs.extract off (off+i.size))) w:=by
 have hagg:(isAgg t).run P w=.ok true w:=by
  unfold isAgg;rw[Sem.run_bind,run_underlying ht w];simp
 simp[part,hagg,sizeOf,typeInfo,hi]
theorem zmp {P:Program}(w:World)(d:Nat)(xs ys:Array Value)(f:Field)(fs:List Field)(x y:Value)(r:Bool)(hn:f.name≠ "_")(ha:(part f.type xs f.offset).run P w=.ok x w)(hb:(part f.type ys f.offset).run P w=.ok y w)
 (hr:(Op.equalIn d f.type x y).run P w=.ok r w):(Op.eqFields d xs ys (f::fs)).run P w=if r=true then (Op.eqFields d xs ys fs).run P w else .ok false w:=by
 simp only[Op.eqFields,hn,ne_eq,not_false_eq_true,if_true,Sem.run_bind,ha,hb,hr,Result.andThen_ok];cases r<;>simp
def fHead:Field:={ name:= "Head",type:=25,offset:=0,embedded:=false,tag:= "",pkgPath:= "",byteOffset:=0 }
def fCount:Field:={ name:= "Count",type:=3,offset:=32,embedded:=false,tag:= "",pkgPath:= "",byteOffset:=32 }
theorem zmq:Tryz.prog.fieldsOf 27=#[fHead,fCount]:=by kernel_rfl
theorem zve:Tryz.prog.stoodInHeld 27=false:=by kernel_rfl
theorem zvf:Tryz.prog.underlying 27=some (.struct (Tryz.prog.fieldsOf 27)):=by rw[zmq];exact Tryz.underlying27
theorem zvg:(Tryz.prog.fieldsOf 27).toList=[fHead,fCount]:=by rw[zmq]
theorem zvh:fHead.name≠ "_":=by decide
theorem zvi:fCount.name≠ "_":=by decide
theorem zvj:Tryz.prog.cellsOf 5=1:=by kernel_rfl
theorem zvk (x y:Ch):decide (x=y)=(decide (x.head=y.head) && decide (x.count=y.count)):=by
 obtain⟨a,b⟩:=x;obtain⟨c,d⟩:=y;rw[Bool.eq_iff_iff];simp
theorem zmr (w:World)(d:Nat)(x y:Ch)(hx:x.Ok)(hy:y.Ok) :
 (Op.equalIn (d+3) 27 (.agg (chC x)) (.agg (chC y))).run Tryz.prog w=.ok (decide (x=y)) w:=by
 obtain⟨i8,hi8⟩:∃ i,Tryz.prog.info? 5=some i:=Option.isSome_iff_exists.1 (by kernel_rfl);obtain⟨iS,hiS⟩:∃ i,Tryz.prog.info? 25=some i:=Option.isSome_iff_exists.1 (by kernel_rfl);have hS:iS.size=32:=by
  have:=zb2;rw[hiS] at this
  simpa using this
 have p1:(part fCount.type (chC x) fCount.offset).run Tryz.prog w=.ok (.int .i64 x.count) w:=zhk w Tryz.underlying3 (chC x) 32 (.int .i64 x.count) (zjb hx);have p2:(part fCount.type (chC y) fCount.offset).run Tryz.prog w=.ok (.int .i64 y.count) w:=zhk w Tryz.underlying3 (chC y) 32 (.int .i64 y.count) (zjb hy);have p3:(part fHead.type (chC x) fHead.offset).run Tryz.prog w=.ok (.agg (cb x.head)) w:=by
  have:=zmo w Tryz.underlying25 hiS (chC x) 0;rw[hS,Nat.zero_add,zmk hx] at this;exact this
 have p4:(part fHead.type (chC y) fHead.offset).run Tryz.prog w=.ok (.agg (cb y.head)) w:=by
  have:=zmo w Tryz.underlying25 hiS (chC y) 0;rw[hS,Nat.zero_add,zmk hy] at this;exact this
 have q1:(Op.equalIn (d+2) fCount.type (.int .i64 x.count) (.int .i64 y.count)).run Tryz.prog w=.ok (decide (x.count=y.count)) w:=by
  have:=run_equalIn_int w (d+1) 3 .i64 .i64 x.count y.count Tryz.underlying3
  rwa [show(x.count == y.count)=decide (x.count=y.count)from rfl] at this
 have q2:(Op.equalIn (d+2) fHead.type (.agg (cb x.head)) (.agg (cb y.head))).run Tryz.prog w=.ok (decide (x.head=y.head)) w:=zje w d Tryz.underlying25 Tryz.underlying5 hi8 zvj hx.1 hy.1;rw[run_equalIn_struct w (d+2) 27 _ _ zvf zve,zvg,zmp w _ _ _ fHead _ _ _ _ zvh p3 p4 q2,zmp w _ _ _ fCount _ _ _ _ zvi p1 p2 q1,zvk];have hnil:(Op.eqFields (d+2) (chC x) (chC y) []).run Tryz.prog w=.ok true w:=by unfold Op.eqFields;rfl
 rw[hnil];by_cases h1:x.count=y.count<;>by_cases h2:x.head=y.head<;>simp[h1,h2]
theorem zms (w:World)(x y:Ch)(hx:x.Ok)(hy:y.Ok):(binOp .neq 27 (.agg (chC x)) (.agg (chC y))).run Tryz.prog w=.ok (.bool (!decide (x=y))) w:=by
 simp only[binOp];simp[Op.equal,Op.maxDepth,zmr w 9997 x y hx hy]
theorem zvl (w:World)(x y:Ch)(hx:x.Ok)(hy:y.Ok):(binOp .eql 27 (.agg (chC x)) (.agg (chC y))).run Tryz.prog w=.ok (.bool (decide (x=y))) w:=by
 simp only[binOp];simp[Op.equal,Op.maxDepth,zmr w 9997 x y hx hy]
theorem zjf (off:Nat):∀ (l:List Value) (i:Nat) (cs:Array Value),off+i+l.length≤cs.size →
 ((l.zipIdx i).foldl (fun (cs:Array Value) (x:Value×Nat)=>cs.setIfInBounds (off+x.2) x.1) cs).toList=splice cs.toList (off+i) l
 | [],i,cs,h=>by simp[splice]
 | v :: r, i, cs, h => by
   have h':off+(i+1)+r.length≤(cs.setIfInBounds (off+i) v).size:=by simp at h ⊢;omega
   rw[List.zipIdx_cons,List.foldl_cons,zjf off r (i+1) _ h'];have e:=list_seg_step cs.toList (off+i) v r (by simp at h ⊢;omega);simp only[splice,Array.toList_setIfInBounds,List.length_cons];have e1:off+(i+1)=off+i+1:=by omega
   rw[e1]
   simpa [Nat.add_assoc] using e
theorem zak:Tryz.prog.built 27 []=some (chC ch0):=by kernel_rfl
theorem zvm (z:Int):Tryz.prog.built 27 [(1,.int .i64 z)]=some (chC ⟨List.replicate 32 0,z⟩):=by kernel_rfl
theorem zhl {l:List Nat}(z:Int)(hl:l.length=32):Tryz.prog.built 27 [(0,.agg (cb l)),(1,.int .i64 z)]=some (chC ⟨l,z⟩):=by
 have h:∀ parts,Tryz.prog.built 27 parts=Instr.fill (#[((0:Nat),(32:Nat)),(32,1)][·]?) (chC ch0) parts:=fun _=>by kernel_rfl
 rw[h];have hl2:(cb l).size=32:=by rw[qn,hl]
 have hz:(chC ch0).size=33:=rfl;have h1:=zjf 0 (l.map bv) 0 (chC ch0) (by rw[hz,List.length_map,hl];omega);have e1:((cb l).zipIdx.foldl (fun (cs:Array Value) (x:Value×Nat)=>cs.setIfInBounds (0+x.2) x.1) (chC ch0))=(l.map bv++[Value.int .i64 0]).toArray:=by
  apply Array.ext'
  rw[← Array.foldl_toList,Array.toList_zipIdx]
  show((l.map bv).zipIdx.foldl (fun (cs:Array Value) (x:Value×Nat)=>cs.setIfInBounds (0+x.2) x.1) (chC ch0)).toList=_
  rw[h1,zu9];simp[splice,hl]
 have hf0:Instr.fill (#[((0:Nat),(32:Nat)),(32,1)][·]?) (chC ch0) [(0,.agg (cb l)),(1,.int .i64 z)]=Instr.fill (#[((0:Nat),(32:Nat)),(32,1)][·]?) (l.map bv++[Value.int .i64 0]).toArray [(1,.int .i64 z)]:=by
  conv=>lhs;unfold Instr.fill
  have hc:(Value.agg (cb l)).cells=cb l:=rfl;simp only[hc,hl2,hz]
  show(if (32≠32 || 0+32 > 33)=true then none else Instr.fill _ _ _)=_
  rw[if_neg (by decide)];exact congrArg (fun a=>Instr.fill (#[((0:Nat),(32:Nat)),(32,1)][·]?) a [(1,Value.int .i64 z)]) e1
 rw[hf0];simp[Instr.fill,Value.cells,hl,chC]
theorem zev {P:Program}{o:Oper}{ρ:Operand→Value}{w:World}{t:TypeId}{parts:Array (Nat×Operand)}(ho:o.op=.build t parts){vals:List (Nat×Value)}(hv:(parts.toList.map fun p=>(p.1,ρ p.2))=vals){cells:Array Value}(hb:P.built t vals=some cells) :
 (execOp ρ o).run P w=.ok (.value (.agg cells)) w:=by
 unfold execOp;simp only[ho,Sem.run_bind,run_build w t _ cells (by rw[Array.toList_map];exact hv ▸ hb),Result.andThen_ok];rfl
theorem ql {P:Program}{o:Oper}{ρ:Operand→Value}{w:World}{ty:TypeId}{x y:Operand}(ho:o.op=.store ty x y){g:Nat}(hx:ρ x=.pointer (some ⟨g,0,none⟩)){ds cur:Array Value}(hy:ρ y=.agg ds){t:TypeId}(hg:Bk w g t cur)(hs:ds.size=cur.size)
 (hi:(P.info? ty).map (·.size)=some ds.size) (h1:∀ v∈ds.toList,v.oneCell'=true):(execOp ρ o).run P w=.ok .skip (w.setRow g ds):=zs0 ho hx hy hg hs hi h1
theorem q9 {w w':World}{g:Nat}{x y:Ch}(h:Hid (w'=w.setRow g (splice (chC x).toList 0 (chC y).toList).toArray))(hx:x.Ok)(hy:y.Ok):w'=w.setRow g (chC y):=qa h (by rw[zx hx,zx hy])
theorem za1 {w w':World}{c:Ch}(hc:c.Ok)(hw:Hid (w'=(w.alloc (.cells (chC ch0) 27)).setRow w.heap.size (splice (chC ch0).toList 0 (chC c).toList).toArray)):Bk w' w.heap.size 27 (chC c)∧Below w.heap.size w w':=by
 have hw':=q9 hw zj hc;exact⟨by rw[hw'];exact(Bk.new w 27 (chC ch0)).setRow_same _,by rw[hw'];exact below_setRow ((Below.refl _ _).alloc (Nat.le_refl _) _) (Nat.le_refl _) _⟩
theorem zjg {w w1 w':World}{c:Ch}{E:Ev}{H:Eh}(hc:c.Ok)(hv:H.e=E)(hin:EvIn w w.heap.size H)
 (hw:Hid (w1=((w.alloc (.cells (chC ch0) 27)).alloc (.cells (evC (ze 0 0)) 50)).setRow w.heap.size (splice (chC ch0).toList 0 (chC c).toList).toArray))
 (hw2:Hid (w'=w1.setRow (w.heap.size+1) (splice (evC (ze 0 0)).toList 0 (evC H).toList).toArray)) :
 Bk w' w.heap.size 27 (chC c)∧Bk w' (w.heap.size+1) 50 (evC H)∧EvIn w' w'.heap.size H∧Below w.heap.size w w':=by
 have e1:=q9 hw zj hc;have e2:=qa hw2 (by rw[zd,zd]);have k1:Bk w1 w.heap.size 27 (chC c):=by rw[e1];exact((Bk.new w 27 (chC ch0)).alloc _).setRow_same _
 have k2:Bk w1 (w.heap.size+1) 50 (evC (ze 0 0)):=by rw[e1];exact(Bk.new2 w _ _ _).setRow_other (by omega) _
 have hb1:Below w.heap.size w w1:=by rw[e1];exact below_setRow (((Below.refl _ _).alloc (Nat.le_refl _) _).alloc (by simp) _) (Nat.le_refl _) _
 have hb2:Below w.heap.size w w':=by rw[e2];exact below_setRow hb1 (Nat.le_succ _) _
 exact⟨by rw[e2];exact k1.setRow_other (by omega) _,by rw[e2];exact k2.setRow_same _,hin.later hb2,hb2⟩
theorem zmt {w:World}{g b o:Nat}(cs:Array Value)(h:b≠g):(w.setRow g cs).cell? ⟨b,o,none⟩=w.cell? ⟨b,o,none⟩:=by
 unfold World.cell?;rw[setRow_other' w g b cs h]
theorem zhm {P:Program}{fn:Func}{p q r:Tmp}{t1:TypeId}(h:fn.results=#[.tmp p,.cell q t1,.tmp r])(tmps:Array Value)(w:World)(a1:Addr)(v0 v1 v2:Value)
 (hp:tmps.getD p undef=v0) (hq:tmps.getD q undef=.pointer (some a1)) (hr:tmps.getD r undef=v2) (h1:(loadVar t1 a1).run P w=.ok v1 w) :
 (results fn tmps).run P w=.ok (.tuple #[v0,v1,v2]) w:=by
 have hp':tmps[p]?.getD undef=v0:=by simpa using hp
 have hq':tmps[q]?.getD undef=.pointer (some a1):=by simpa using hq
 have hr':tmps[r]?.getD undef=v2:=by simpa using hr
 simp[results,h,hp',hq',hr',asAddr,h1]
theorem zau {P:Program}{fn:Func}{p q r:Tmp}{t1 t2:TypeId}(h:fn.results=#[.cell p t1,.cell q t2,.tmp r])(tmps:Array Value)(w:World)(a1 a2:Addr)(v0 v1 v2:Value)
 (hp:tmps.getD p undef=.pointer (some a1)) (hq:tmps.getD q undef=.pointer (some a2)) (hr:tmps.getD r undef=v2) (h1:(loadVar t1 a1).run P w=.ok v0 w) (h2:(loadVar t2 a2).run P w=.ok v1 w) :
 (results fn tmps).run P w=.ok (.tuple #[v0,v1,v2]) w:=by
 have hp':tmps[p]?.getD undef=.pointer (some a1):=by simpa using hp
 have hq':tmps[q]?.getD undef=.pointer (some a2):=by simpa using hq
 have hr':tmps[r]?.getD undef=v2:=by simpa using hr
 simp[results,h,hp',hq',hr',asAddr,h1,h2]
open Go.ChangeShapes Go.WideShapes Go.ChangeAt Go.Deep
end Go.Proofs.YtmjjefnmabbgdaaGreatDoor
namespace Go.Proofs.YtmjjefnmabbgdaaGreatDoor
set_option linter.unusedVariables false
set_option linter.unusedSimpArgs false
set_option maxRecDepth 100000
set_option maxHeartbeats 16000000
open Go.RowKit
def RcdIs (l:List Nat)(w:World)(e:Ending)(w':World):Prop :=
 ∃ H,e=.returned (.tuple #[.agg (chC (qy l)),.agg (evC H),.int .i64 ((qg l:Nat):Int)])∧H.e=zav l∧EvFar w' w.heap.size H∧Below w.heap.size w w'
def RdBx (w W:World):Prop:=Bk W w.heap.size 27 (chC ch0)∧Bk W (w.heap.size+1) 50 (evC (ze 0 0))∧Below w.heap.size w W
theorem RdBx.next {w W W':World}(d:RdBx w W)(hb:Below W.heap.size W W'):RdBx w W':=⟨d.1.below hb d.1.lt,d.2.1.below hb d.2.1.lt,d.2.2.trans (hb.mono d.2.2.size)⟩
theorem RdBx.drew {w W:World}(d:RdBx w W):RdBx w W.drew:=d.next (Below.refl _ _).drew
theorem RdBx.new (w:World):RdBx w ((w.alloc (.cells (chC ch0) 27)).alloc (.cells (evC (ze 0 0)) 50)):=⟨(Bk.new _ _ _).alloc _,Bk.new2 _ _ _ _,((Below.refl _ _).alloc (Nat.le_refl _) _).alloc (by simp) _⟩
theorem RdBx.grown {w W W':World}{g:Nat}(d:RdBx w W)(hg:W.grownBy W' (some g))(h:w.heap.size+1<g):RdBx w W' :=
 ⟨d.1.kept hg (by omega),d.2.1.kept hg (by omega),d.2.2.grown hg d.2.2.size (fun k hk=>by cases hk;omega)⟩
theorem RdBx.set {w W:World}{g:Nat}(d:RdBx w W)(h:w.heap.size+1<g)(cs:Array Value):RdBx w (W.setRow g cs):=⟨d.1.setRow_other (by omega) _,d.2.1.setRow_other (by omega) _,below_setRow d.2.2 (by omega) _⟩
def RcAt (w:World)(b5:Nat)(hd:List Nat)(g:Nat)(r:List Nat)(er:Nat)(W:World):Prop:=RdBx w W∧Bk W b5 25 (cb hd)∧RdP W g r er
theorem RcAt.next {w W W':World}{b5 g er:Nat}{hd r:List Nat}(d:RcAt w b5 hd g r er W)(hb:Below W.heap.size W W'):RcAt w b5 hd g r er W':=⟨d.1.next hb,d.2.1.below hb d.2.1.lt,d.2.2.below hb d.2.2.lt⟩
theorem RcAt.grown {w W W':World}{b5 g er er':Nat}{hd r r':List Nat}(d:RcAt w b5 hd g r er W)(hg:W.grownBy W' (some g))(h:RdP W' g r' er')(hb5:w.heap.size+1<b5∧b5<g):RcAt w b5 hd g r' er' W':=⟨d.1.grown hg (by omega),d.2.1.kept hg (by omega),h⟩
theorem zvn (A:Option Addr)(n k:Nat)(l:List Nat)(w:World)(hl:Bytes w w.heap.size A n l)(hn:n≤140737488355328)(hnk:n≤k)(hk:k≤maxLen)(hK:Kinds w):Calls Tryz.prog 93 #[.slice A n k] w (RcdIs l w):=by
 have hmx:Tryz.prog.follows .mixedOrders=true:=by kernel_rfl
 have HL:=hiD hl;have HN:=hiD hn;have HNK:=hiD hnk;have HKM:=hiD hk;have HK:=hiD hK;have H256:=hiD hl.2.1;have HLN:Hid (l.length=n):=hiD hl.1;clear hl hn hnk hk hK;go_enter Tryz.func93,Tryz.ntmps93
 by_cases h32:(n:Int)<32
 ·have HE:Hid (qg l=2):=hiD (zf1 (by rw[HLN.o];omega))
  have HCC:Hid (qy l=ch0):=hiD (zec (by rw[HE.o];decide));have HV:Hid (zav l=bare 0 0):=hiD (zew (by rw[HE.o];decide));go_wp2_with (with_reducible refine stn 15 ?_)
  refine held (qk (fun W=>RdBx w W) (RdBx.new w) ?_);rintro W q;have Q:=hiD q;clear q;refine hold ?_;go_wp2_with (with_reducible refine stn 15 ?_)
  refine held (j9 rfl 27 #[] rfl [] rfl (chC ch0) zak ?_);go_wp2_with (with_reducible refine st0 ?_)
  refine held (zi rfl 27 (.tmp 2) (.tmp 15) rfl (w.heap.size) 0 (chC ch0) rfl rfl 27 _ Q.o.1 (by rw[Nat.zero_add];exact Nat.le_refl _) (info_ch' zj) (zt _) ?_);intro w10 hw10;obtain rfl:=q9 hw10 zj zj;go_wp2_with (with_reducible refine st0 ?_)
  refine held (zi rfl 50 (.tmp 3) (.tmp 16) rfl (w.heap.size+1) 0 (evC (ze 0 0)) rfl rfl 50 _ (Q.o.2.1.setRow_other (by omega) _) (by rw[zd];decide) (by rw[zd];exact zr) (zw _) ?_);intro w11 hw11;obtain rfl:=qa hw11 (by rw[zd]);go_wp2_with fail
  exact bodyPost_ret (zau rfl _ _ ⟨w.heap.size,0,none⟩ ⟨w.heap.size+1,0,none⟩ _ _ _ rfl rfl rfl (Bk.ch ((Bk.setRow_same Q.o.1 _).setRow_other (by omega) _) zj) (Bk.ev (Bk.setRow_same (Q.o.2.1.setRow_other (by omega) _) _))) rfl ⟨ze 0 0,by rw[HE.o,HCC.o]<;>rfl,by rw[HV.o];rfl,EvFar.bare _ _ _ _,below_setRow (below_setRow Q.o.2.2 (by omega) _) (by omega) _⟩
 have H32:Hid (¬ l.length<32∧32≤n):=hiD ⟨by rw[HLN.o];omega,by omega⟩;go_wp2_with fail
 refine zil (fun W=>RdBx w W) (RdBx.new w) ?_;rintro W q;have Q:=hiD q;clear q;obtain⟨ab,ao,rfl,hab,_⟩:=HL.o.2.2 (by have:=H32.o;omega);have HAB:=hiD hab;obtain⟨hd,hhd⟩:∃ hd,l.take 32=hd:=⟨_,rfl⟩;have HHD:=hiD hhd;clear hhd;have HH32:Hid (hd.length=32):=hiD (by rw[← HHD.o,List.length_take,HLN.o];exact Nat.min_eq_left H32.o.2);have HBH:Hid (Bytes w w.heap.size (some ⟨ab,ao,none⟩) 32 hd):=hiD (by rw[← HHD.o];exact HL.o.to H32.o.2);obtain⟨A5,hA5⟩:∃ A5,A5=(if k=32 then some ⟨ab,ao,none⟩else (some ⟨ab,ao,none⟩:Option Addr).map (·.add 32)):=⟨_,rfl⟩;have HL5:Hid (Bytes w w.heap.size A5 (n-32) (l.drop 32)):=hiD (by rw[hA5];exact Bytes.from15 HL.o H32.o.2 HNK.o);have HA5:=hiD hA5;clear hA5 hab;refine wp_region_held_drew (S:=fun W'=>RdBx w W') hmx (RdBx.drew Q.o) (fun qch=>?_);clear Q;generalize hW0:W.drew=W1 at *
 clear hW0;simp only[List.size_toArray,List.length_cons,List.length_nil,Nat.reduceAdd];refine tks (i:=0) (v:=.slice (some ⟨ab,ao,none⟩) n k) (s:=qch) (h:=?_);try simp only[nm0]
 refine tkx (i:=1) (v:=.pointer (some ⟨ab,ao,none⟩)) (x:=fun w0 hC=>zvc rfl rfl Tryz.underlying25 H32.o.2) (s:=qch) (h:=?_);try simp only[nm0]
 refine tkx (i:=2) (v:=.agg (cb hd)) (x:=fun w0 hC=>jc rfl rfl (HBH.o.range (fun p hp=>hC.2.2.cell (by rw[hp];exact HAB.o))) Tryz.underlying25 rfl (by rw[qn,HH32.o];exact zb2)) (s:=qch) (h:=?_);try simp only[nm0]
 refine tks (i:=3) (v:=.slice (some ⟨ab,ao,none⟩) n k) (s:=qch) (h:=?_);try simp only[nm0]
 refine tkx (i:=4) (v:=.slice A5 (n-32) (k-32)) (x:=fun w0 hC=>by rw[HA5.o];exact zml rfl Tryz.underlying48 zjd rfl rfl H32.o.2 HNK.o) (s:=qch) (h:=?_);try simp only[nm0]
 refine rd1 (r:=5) (h:=fun K hK=>?_);go_wp2_with fail
 have HB5:Hid (w.heap.size+1<W1.heap.size):=hiD qch.2.1.lt;refine jg (fun W=>RdBx w W∧Bk W W1.heap.size 25 (cb (List.replicate 32 0))) ⟨qch.next ((Below.refl _ _).alloc (Nat.le_refl _) _),Bk.new _ _ _⟩ ?_;obtain⟨b5,hb5⟩:∃ b5,W1.heap.size=b5:=⟨_,rfl⟩;rw[hb5] at HB5 ⊢;clear hb5 qch;rintro W2 ⟨hS,q2⟩;have K5:=hiD q2;clear q2;refine bkk hK hS fun qch=>?_;clear hK K;try simp only[nm0]
 clear hS;refine rd1 (r:=6) (h:=fun K hK=>?_);have hS:=qch.set HB5.o (cb hd);have R5:=hiD (K5.o.setRow_same (cb hd));refine qh (ql rfl rfl rfl K5.o (by rw[qn,qn,HH32.o];rfl) (by rw[qn,HH32.o];exact zb2) (zu8 _)) ?_;clear qch K5;refine bkk hK hS fun qch=>?_;clear hK K;try simp only[nm0]
 clear hS;refine rd1 (r:=7) (h:=fun K hK=>?_);go_wp2_with fail
 have hS:=qch;clear qch;refine bkk hK hS fun qch=>?_;clear hK K;try simp only[nm0]
 clear hS;refine wpAnyH_done (by kernel_rfl) ?_ _;have Q:=hiD qch;clear qch;generalize W2.setRow b5 (cb hd)=W3 at *;go_wp2_with fail
 refine(zo7 A5 (n-32) (k-32) w.heap.size (l.drop 32) W3 (HL5.o.below Q.o.2.2 (Nat.le_refl _))).mono ?_;rintro e W4 ⟨rfl,hr4,hb4⟩;obtain⟨g,hg⟩:∃ g,g=W3.heap.size:=⟨_,rfl⟩;have HG:Hid (w.heap.size+1<b5∧b5<g):=hiD ⟨HB5.o,by rw[hg];exact R5.o.lt⟩;rw[← hg] at hr4 ⊢;have S:Hid (RcAt w b5 hd g (l.drop 32) 0 W4):=hiD ⟨Q.o.next hb4,R5.o.below hb4 R5.o.lt,hr4⟩;clear hg hr4 hb4 Q R5 HB5;have HDL:Hid ((l.drop 32).length=n-32∧(l.drop 32).length≤140737488355328∧∀ x∈l.drop 32,x<256):=hiD ⟨by rw[List.length_drop,HLN.o],by rw[List.length_drop,HLN.o];have:=HN.o;omega,fun x hx=>H256.o x (List.mem_of_mem_drop hx)⟩;go_wp2_with fail
 refine(zch g 0 (l.drop 32) W4 S.o.2.2 HDL.o.2.1 HDL.o.2.2).mono ?_;rintro e W5 ⟨rfl,hr5,hg5⟩;have T:=hiD (S.o.grown hg5 hr5 HG.o);clear hr5 hg5 S;obtain⟨v,hv⟩:∃ v,numV (l.drop 32) 0=v:=⟨_,rfl⟩;have HVN:Hid (numR l=v):=hiD hv;rw[hv];clear hv;obtain⟨er,her⟩:∃ er,numE (l.drop 32) 0=er:=⟨_,rfl⟩;have HER:=hiD her;rw[her] at T;clear her
 go_upto_region 6 with (fail)
 go_cut [] (fun wx=>RcAt w b5 hd g (za7 l) (errR l) wx)
 case first =>
  by_cases h1:(v:Int)<1
  case pos =>
   have HBD:Hid (errR l=jl er true):=hiD (by unfold errR;rw[HER.o];congr 1;unfold badR;rw[HVN.o,decide_eq_true (show v<1 by omega)];rfl);go_wp2_with fail
   refine(zj4 g er true _ W5 T.o.2.2).mono ?_;rintro e W6 ⟨rfl,hr6,hg6⟩;have U:=hiD (T.o.grown hg6 hr6 HG.o);clear hr6 hg6 T;go_wp2_with fail
   go_meet;rw[HBD.o];exact U.o
  by_cases h2:(1099511627776:Int)<(v:Int)
  case pos =>
   have HBD:Hid (errR l=jl er true):=hiD (by unfold errR;rw[HER.o];congr 1;unfold badR;rw[HVN.o,decide_eq_true (show 1099511627776<v by omega),Bool.or_true]);go_wp2_with fail
   refine(zj4 g er true _ W5 T.o.2.2).mono ?_;rintro e W6 ⟨rfl,hr6,hg6⟩;have U:=hiD (T.o.grown hg6 hr6 HG.o);clear hr6 hg6 T;go_wp2_with fail
   go_meet;rw[HBD.o];exact U.o
  have HBD:Hid (errR l=jl er false):=hiD (by unfold errR;rw[HER.o];congr 1;unfold badR;rw[HVN.o,decide_eq_false (show ¬ v<1 by omega),decide_eq_false (show ¬ 1099511627776<v by omega)];rfl);go_wp2_with fail
  refine(zj4 g er false _ W5 T.o.2.2).mono ?_;rintro e W6 ⟨rfl,hr6,hg6⟩;have U:=hiD (T.o.grown hg6 hr6 HG.o);clear hr6 hg6 T;go_wp2_with fail
  go_meet;rw[HBD.o];exact U.o
 case rest =>
 clear T;generalize wc=W6 at *;have S:=hiD hcut;clear hcut;obtain⟨er2,her2⟩:∃ er2,errR l=er2:=⟨_,rfl⟩;have HE2:=hiD her2;rw[her2] at S;clear her2;go_wp2_with fail
 refine(zx2 g er2 _ W6 S.o.2.2).mono ?_;rintro e w' ⟨rfl,rfl⟩;by_cases he:er2=0
 case neg =>
  have HE:Hid (qg l=er2):=hiD (by rw[zjh H32.o.1 (by rw[HE2.o];exact he),HE2.o]);have HCC:Hid (qy l=ch0):=hiD (zec (by rw[HE.o];exact he));have HV:Hid (zav l=bare 0 0):=hiD (zew (by rw[HE.o];exact he));have hne:(((er2:Nat):Int) != 0)=true:=by simpa using he
  have Q:=hiD S.o.1;clear he S;go_wp2_with (with_reducible refine stn 38 ?_)
  refine held (j9 rfl 27 #[] rfl [] rfl (chC ch0) zak ?_);go_wp2_with (with_reducible refine st0 ?_)
  refine held (zi rfl 27 (.tmp 2) (.tmp 38) rfl (w.heap.size) 0 (chC ch0) rfl rfl 27 _ Q.o.1 (by rw[Nat.zero_add];exact Nat.le_refl _) (info_ch' zj) (zt _) ?_);intro w10 hw10;obtain rfl:=q9 hw10 zj zj;go_wp2_with (with_reducible refine st0 ?_)
  refine held (zi rfl 50 (.tmp 3) (.tmp 39) rfl (w.heap.size+1) 0 (evC (ze 0 0)) rfl rfl 50 _ (Q.o.2.1.setRow_other (by omega) _) (by rw[zd];decide) (by rw[zd];exact zr) (zw _) ?_);intro w11 hw11;obtain rfl:=qa hw11 (by rw[zd]);go_wp2_with fail
  exact bodyPost_ret (zau rfl _ _ ⟨w.heap.size,0,none⟩ ⟨w.heap.size+1,0,none⟩ _ _ _ rfl rfl rfl (Bk.ch ((Bk.setRow_same Q.o.1 _).setRow_other (by omega) _) zj) (Bk.ev (Bk.setRow_same (Q.o.2.1.setRow_other (by omega) _) _))) rfl ⟨ze 0 0,by rw[HE.o,HCC.o]<;>rfl,by rw[HV.o];rfl,EvFar.bare _ _ _ _,below_setRow (below_setRow Q.o.2.2 (by omega) _) (by omega) _⟩
 subst he;have H0:=hiD (zjj HE2.o);have H8:Hid (8≤n-32):=hiD (by have:=zmz H0.o.1;rw[HDL.o.1] at this;exact this);have HRS:Hid (za7 l=(l.drop 32).drop 8):=hiD (zvr H0.o.1);have hal:Below W6.heap.size W6 (W6.alloc (.cells #[.int .i64 (v:Int)] 3)):=(Below.refl _ _).alloc (Nat.le_refl _) _;have hbi:Bk (W6.alloc (.cells #[.int .i64 (v:Int)] 3)) W6.heap.size 3 #[.int .i64 (v:Int)]:=Bk.new _ _ _
 have CN:=hiD (zx8 none 0 0 [] (some ⟨W6.heap.size,0,none⟩) 1 1 [(v:Int)] (W6.alloc (.cells #[.int .i64 (v:Int)] 3)) Bytes.nil ⟨rfl,fun _=>⟨_,_,rfl,by simp,fun i a ha=>by
  rw[Nat.zero_add,hbi.cell i]
  match i,ha with
  | 0,ha=>cases ha;rfl⟩⟩ (by omega))
 have S2:=hiD (S.o.next hal);clear hal hbi S;go_wp2_with fail
 refine CN.o.mono ?_;rintro e W7 ⟨A2,c2,rfl,ho,hb⟩;have T:=hiD (S2.o.next hb);clear ho hb CN S2;go_wp2_with (with_reducible refine stn 47 ?_)
 refine held (zmm rfl (.tmp 42) (.tmp 46) 48 5 rfl Tryz.underlying48 zjd A5 (n-32) (k-32) 8 w.heap.size (l.drop 32) rfl rfl (HL5.o.below T.o.1.2.2 (Nat.le_refl _)) H8.o (by have:=HNK.o;omega) ?_);intro A6 c6 h61 h62 hby
 rw[← HRS.o] at hby
 have HBY:=hiD (hby.more T.o.1.2.2.size);clear h61 h62 hby
 go_wp2_with fail
 refine(z1r A6 (n-32-8) c6 (za7 l) W7 HBY.o (by have:=HN.o;omega) (HK.o.below T.o.1.2.2)).mono ?_;rintro e W8 ⟨H,rfl,hv,hin,hb⟩;have U:=hiD (T.o.next hb);have HVV:=hiD hv;have HI:=hiD hin;have HB7:Hid (w.heap.size+1<W7.heap.size):=hiD T.o.1.2.1.lt;clear hv hin hb T HBY;obtain⟨dz,hdz⟩:∃ dz,decE (za7 l)=dz:=⟨_,rfl⟩;have HDZ:=hiD hdz;rw[hdz];clear hdz;go_wp2_with (with_reducible refine st0 ?_)
 refine held (zi rfl 50 (.tmp 10) (.tmp 49) rfl W8.heap.size 0 (evC H) rfl rfl 50 (evC (ze 0 0)) (Bk.new W8 50 (evC (ze 0 0))) (by rw[zd,zd];decide) (by rw[zd];exact zr) (zw _) ?_);intro W9 hw9;have hw9':=qa hw9 (by rw[zd,zd]);have hb9:Below W8.heap.size W8 W9:=by rw[hw9'];exact below_setRow ((Below.refl _ _).alloc (Nat.le_refl _) _) (Nat.le_refl _) _
 have hk10:Bk W9 W8.heap.size 50 (evC H):=by rw[hw9'];exact(Bk.new W8 50 (evC (ze 0 0))).setRow_same _
 have S:=hiD (U.o.next hb9);have SI:=hiD (HI.o.below hb9);have S10:=hiD hk10;have HB10:Hid (b5<W8.heap.size):=hiD U.o.2.1.lt;obtain⟨b10,hb10⟩:∃ b,W8.heap.size=b:=⟨_,rfl⟩;rw[hb10] at S10 HB10 ⊢;clear hb10 hw9 hw9' hb9 hk10 U HI;by_cases hz:dz=0
 case neg =>
  have HE:Hid (qg l=dz):=hiD (by rw[zf2 H32.o.1 HE2.o,HDZ.o]);have HCC:Hid (qy l=ch0):=hiD (zec (by rw[HE.o];exact hz));have HV:Hid (zav l=bare 0 0):=hiD (zew (by rw[HE.o];exact hz));have hne:(((dz:Nat):Int) != 0)=true:=by simpa using hz
  have Q:=hiD S.o.1;clear hz S;go_wp2_with (with_reducible refine stn 53 ?_)
  refine held (j9 rfl 27 #[] rfl [] rfl (chC ch0) zak ?_);go_wp2_with (with_reducible refine st0 ?_)
  refine held (zi rfl 27 (.tmp 2) (.tmp 53) rfl (w.heap.size) 0 (chC ch0) rfl rfl 27 _ Q.o.1 (by rw[Nat.zero_add];exact Nat.le_refl _) (info_ch' zj) (zt _) ?_);intro w10 hw10;obtain rfl:=q9 hw10 zj zj;go_wp2_with (with_reducible refine st0 ?_)
  refine held (zi rfl 50 (.tmp 3) (.tmp 54) rfl (w.heap.size+1) 0 (evC (ze 0 0)) rfl rfl 50 _ (Q.o.2.1.setRow_other (by omega) _) (by rw[zd];decide) (by rw[zd];exact zr) (zw _) ?_);intro w11 hw11;obtain rfl:=qa hw11 (by rw[zd]);go_wp2_with fail
  exact bodyPost_ret (zau rfl _ _ ⟨w.heap.size,0,none⟩ ⟨w.heap.size+1,0,none⟩ _ _ _ rfl rfl rfl (Bk.ch ((Bk.setRow_same Q.o.1 _).setRow_other (by omega) _) zj) (Bk.ev (Bk.setRow_same (Q.o.2.1.setRow_other (by omega) _) _))) rfl ⟨ze 0 0,by rw[HE.o,HCC.o]<;>rfl,by rw[HV.o];rfl,EvFar.bare _ _ _ _,below_setRow (below_setRow Q.o.2.2 (by omega) _) (by omega) _⟩
 subst hz;have HE:Hid (qg l=0):=hiD (by rw[zf2 H32.o.1 HE2.o,HDZ.o]);have HCC:Hid (qy l=⟨hd,(v:Int) - 1⟩):=hiD (by rw[zf3 HE.o,HVN.o,HHD.o]);have HV:Hid (zav l=H.e):=hiD (by rw[zji HE.o,HVV.o]);have HOK:Hid ((⟨hd,(v:Int) - 1⟩:Ch).Ok):=hiD ⟨HH32.o,HBH.o.2.1⟩;have HW:=hiD (IntWalk.i64_in ((v:Int) - 1) (by have:=H0.o.2;rw[HVN.o] at this;omega));go_wp2_with fail
 have E:=hiD S.o.1.drew;have EI:=hiD (SI.o.below (Below.refl _ _).drew);refine wp_region_held_drew (S:=fun W'=>Bk W' b5 25 (cb hd)∧Bk W' b10 50 (evC H)) hmx ⟨S.o.2.1.drew,S10.o.drew⟩ (fun qch=>?_);clear S S10 SI;generalize hW0:W9.drew=W1b at *;clear hW0;simp only[List.size_toArray,List.length_cons,List.length_nil,Nat.reduceAdd];refine tkx (i:=0) (v:=.agg (cb hd)) (x:=fun w0 hC=>jc rfl rfl hC.1.range Tryz.underlying25 rfl (by rw[qn,HH32.o];exact zb2)) (s:=qch) (h:=?_);try simp only[nm0]
 refine tks (i:=1) (v:=.int .i64 (v:Int)) (s:=qch) (h:=?_);try simp only[nm0]
 refine tkx (i:=2) (v:=.int .i64 ((v:Int)-1)) (x:=fun w0 hC=>by simp[execOp,Act.eval,Act.put,go_sem,HW.o]) (s:=qch) (h:=?_);try simp only[nm0]
 refine tkx (i:=3) (v:=.agg (chC ⟨hd,(v:Int) - 1⟩)) (x:=fun w0 hC=>zev rfl rfl (zhl _ HH32.o)) (s:=qch) (h:=?_);try simp only[nm0]
 refine tkx (i:=4) (v:=.agg (evC H)) (x:=fun w0 hC=>jc rfl rfl hC.2.range Tryz.underlying50 rfl (by rw[zd];exact zr)) (s:=qch) (h:=?_);try simp only[nm0]
 refine rd1 (r:=5) (h:=fun K hK=>?_);refine qh (ql rfl rfl rfl E.o.1 (by rw[zx HOK.o];rfl) (info_ch' HOK.o) (zt _)) ?_;have hS:Bk (W1b.setRow w.heap.size (chC ⟨hd,(v:Int) - 1⟩)) b5 25 (cb hd)∧Bk (W1b.setRow w.heap.size (chC ⟨hd,(v:Int) - 1⟩)) b10 50 (evC H):=⟨qch.1.setRow_other (by have:=HG.o;omega) _,qch.2.setRow_other (by have:=HG.o;have:=HB10.o;omega) _⟩;have F1:=hiD (E.o.1.setRow_same (chC ⟨hd,(v:Int) - 1⟩));have F2:=hiD (E.o.2.1.setRow_other (show w.heap.size+1≠w.heap.size by omega) (chC ⟨hd,(v:Int) - 1⟩));have F3:=hiD (below_setRow E.o.2.2 (Nat.le_refl _) (chC ⟨hd,(v:Int) - 1⟩));have hb0:W1b.grownBy (W1b.setRow w.heap.size (chC ⟨hd,(v:Int) - 1⟩)) (some w.heap.size):=jy E.o.1 _;have F4:=hiD (EI.o.kept hb0 (by have:=HB7.o;omega));clear qch E EI hb0;refine bkk hK hS fun qch=>?_;clear hK K;try simp only[nm0]
 clear hS;generalize W1b.setRow w.heap.size (chC ⟨hd,(v:Int) - 1⟩)=W2b at *;refine rd1 (r:=6) (h:=fun K hK=>?_);refine qh (ql rfl rfl rfl F2.o (by rw[zd,zd]) (by rw[zd];exact zr) (zw _)) ?_;have hS:Bk (W2b.setRow (w.heap.size+1) (evC H)) b5 25 (cb hd)∧Bk (W2b.setRow (w.heap.size+1) (evC H)) b10 50 (evC H):=⟨qch.1.setRow_other (by have:=HG.o;omega) _,qch.2.setRow_other (by have:=HG.o;have:=HB10.o;omega) _⟩;have G1:=hiD (F1.o.setRow_other (show w.heap.size≠w.heap.size+1 by omega) (evC H));have G2:=hiD (F2.o.setRow_same (evC H));have G3:=hiD (below_setRow F3.o (Nat.le_succ _) (evC H));have G4:=hiD ((F4.o.kept (jy F2.o (evC H)) HB7.o).mono (base':=w.heap.size) (by have:=HB7.o;omega));clear qch F1 F2 F3 F4;refine bkk hK hS fun qch=>?_;clear hK K;try simp only[nm0]
 clear hS;refine rd1 (r:=7) (h:=fun K hK=>?_);go_wp2_with fail
 have hS:=qch;clear qch;refine bkk hK hS fun qch=>?_;clear hK K;try simp only[nm0]
 clear hS;refine wpAnyH_done (by kernel_rfl) ?_ _;go_wp2_with fail
 exact bodyPost_ret (zau rfl _ _ ⟨w.heap.size,0,none⟩ ⟨w.heap.size+1,0,none⟩ _ _ _ rfl rfl rfl (Bk.ch G1.o HOK.o) (Bk.ev G2.o)) rfl ⟨H,by rw[HE.o,HCC.o];rfl,HV.o.symm,G4.o,G3.o⟩
def NextIs (c:Ch)(h:Eh)(w:World)(e:Ending)(w':World):Prop :=
 ∃ A N k,e=.returned (.tuple #[.slice A N k,.agg (chC (jt c h.e)),.int .i64 ((qx c h.e:Nat):Int)])∧OwnB w' w.heap.size 5 A N k (zal c h.e)∧Below w.heap.size w w'
def NxAt (w:World)(c:Ch)(h:Eh)(W:World):Prop:=Bk W w.heap.size 27 (chC c)∧Bk W (w.heap.size+1) 50 (evC h)∧Bk W (w.heap.size+1+1) 27 (chC ch0)∧Below w.heap.size w W
theorem NxAt.next {w W W':World}{c:Ch}{h:Eh}(d:NxAt w c h W)(hb:Below W.heap.size W W'):NxAt w c h W':=⟨d.1.below hb d.1.lt,d.2.1.below hb d.2.1.lt,d.2.2.1.below hb d.2.2.1.lt,d.2.2.2.trans (hb.mono d.2.2.2.size)⟩
theorem NxAt.under {w W W':World}{c:Ch}{h:Eh}{B:Nat}(d:NxAt w c h W)(hb:Below B W W')(hB:w.heap.size+1+1<B):NxAt w c h W':=⟨d.1.below hb (by omega),d.2.1.below hb (by omega),d.2.2.1.below hb hB,d.2.2.2.trans (hb.mono (by omega))⟩
theorem NxAt.drew {w W:World}{c:Ch}{h:Eh}(d:NxAt w c h W):NxAt w c h W.drew:=d.next (Below.refl _ _).drew
theorem zvo (c:Ch)(A:Option Addr)(n k:Nat)(l:List Nat)(w:World)(hc:c.Ok)(hl:Bytes w w.heap.size A n l)(hn:n≤1000000)(h1:0≤c.count)(h2:c.count≤1099511627776)(ht:Tabs w) :
 Calls Tryz.prog 94 #[.agg (chC c),.slice A n k] w fun e w'=>e=.returned (.agg (chC (qw c l)))∧Below w.heap.size w w':=by
 have hmx:Tryz.prog.follows .mixedOrders=true:=by kernel_rfl
 have HC:=hiD hc;have HL:=hiD hl;have HT:=hiD ht;have HN:=hiD hn;have HW:=hiD (IntWalk.i64_in (c.count+1) (by omega));clear hc hl ht hn h1 h2;go_enter Tryz.func94,Tryz.ntmps94
 go_wp2_with fail
 refine zil (fun W=>Bk W w.heap.size 27 (chC c)∧Bk W (w.heap.size+1) 27 (chC ch0)∧Below w.heap.size w W) ⟨(Bk.new _ _ _).alloc _,Bk.new2 _ _ _ _,((Below.refl _ _).alloc (Nat.le_refl _) _).alloc (by simp) _⟩ ?_;rintro W ⟨q1,q2,q3⟩;have Q:=hiD (And.intro q1 q3);have Q4:=hiD (q2.drew);clear q1 q2 q3;refine wp_region_held_drew (S:=fun W'=>Bk W' w.heap.size 27 (chC c)∧Below w.heap.size w W') hmx ⟨Q.o.1.drew,Q.o.2.drew⟩ (fun qch=>?_);clear Q;generalize hW0:W.drew=W1 at *;clear hW0;simp only[List.size_toArray,List.length_cons,List.length_nil,Nat.reduceAdd];refine tks (i:=0) (v:=.slice A n k) (s:=qch) (h:=?_);try simp only[nm0]
 refine tks (i:=2) (v:=.pointer (some ⟨w.heap.size,32,none⟩)) (s:=qch) (h:=?_);try simp only[nm0]
 refine tkx (i:=3) (v:=.int .i64 c.count) (x:=fun w0 hC=>by simp[execOp,Act.eval,Act.put,go_sem,hC.1.count HC.o]) (s:=qch) (h:=?_);try simp only[nm0]
 refine tkx (i:=4) (v:=.int .i64 (c.count+1)) (x:=fun w0 hC=>by simp[execOp,Act.eval,Act.put,go_sem,HW.o]) (s:=qch) (h:=?_);try simp only[nm0]
 refine rd1 (r:=1) (h:=fun K hK=>?_);go_wp2_with fail
 refine(z73 A n k W1.heap.size l W1 (HL.o.later qch.2) (Nat.le_refl _) HN.o (Tabs.later15 HT.o qch.2)).mono ?_;rintro e W2 ⟨rfl,hb⟩;have hS:=And.intro (qch.1.below hb qch.1.lt) (qch.2.trans (hb.mono qch.2.size));have P4:=hiD (Q4.o.below hb Q4.o.lt);clear qch hb Q4;refine bkk hK hS fun qch=>?_;clear hK K;try simp only[nm0]
 clear hS;refine tkx (i:=5) (v:=.agg (chC (qw c l))) (x:=fun w0 hC=>zev rfl rfl (zhl _ (zc5 l))) (s:=qch) (h:=?_);try simp only[nm0]
 refine rd1 (r:=6) (h:=fun K hK=>?_);have hS:Bk (W2.setRow (w.heap.size+1) (chC (qw c l))) w.heap.size 27 (chC c)∧Below w.heap.size w (W2.setRow (w.heap.size+1) (chC (qw c l))):=⟨qch.1.setRow_other (by omega) _,below_setRow qch.2 (Nat.le_succ _) _⟩;have R4:=hiD (P4.o.setRow_same (chC (qw c l)));refine qh (ql rfl rfl rfl P4.o (by rw[zx (zb3 c l)];rfl) (info_ch' (zb3 c l)) (zt _)) ?_;clear qch P4;refine bkk hK hS fun qch=>?_;clear hK K;try simp only[nm0]
 clear hS;refine wpAnyH_done (by kernel_rfl) ?_ _;go_wp2_with fail
 exact bodyPost_ret (qi rfl rfl (Bk.ch R4.o (zb3 c l))) rfl ⟨rfl,qch.2⟩
def LinkIs (c:Ch)(l:List Nat)(w:World)(e:Ending)(w':World):Prop :=
 ∃ H,e=.returned (.tuple #[.agg (chC (zam c l)),.agg (evC H),.int .i64 ((qp c l:Nat):Int)])∧H.e=zbi c l∧EvFar w' w.heap.size H∧Below w.heap.size w w'
def LkBx (w:World)(c:Ch)(W:World):Prop:=Bk W w.heap.size 27 (chC c)∧Bk W (w.heap.size+1) 27 (chC ch0)∧Bk W (w.heap.size+1+1) 50 (evC (ze 0 0))∧Below w.heap.size w W
theorem LkBx.next {w W W':World}{c:Ch}(d:LkBx w c W)(hb:Below W.heap.size W W'):LkBx w c W':=⟨d.1.below hb d.1.lt,d.2.1.below hb d.2.1.lt,d.2.2.1.below hb d.2.2.1.lt,d.2.2.2.trans (hb.mono d.2.2.2.size)⟩
theorem LkBx.drew {w W:World}{c:Ch}(d:LkBx w c W):LkBx w c W.drew:=d.next (Below.refl _ _).drew
theorem zvp (c:Ch)(A:Option Addr)(n k:Nat)(l:List Nat)(w:World)(hc:c.Ok)(hl:Bytes w w.heap.size A n l)(hn:n≤1000000)(hnk:n≤k)(hk:k≤maxLen)(hK:Kinds w)(ht:Tabs w):Calls Tryz.prog 50 #[.agg (chC c),.slice A n k] w (LinkIs c l w):=by
 have hmx:Tryz.prog.follows .mixedOrders=true:=by kernel_rfl
 have HC:=hiD hc;have HL:=hiD hl;have HN:Hid (n≤1000000∧n≤140737488355328):=hiD ⟨hn,by omega⟩;have HNK:=hiD hnk;have HKM:=hiD hk;have HK:=hiD hK;have HT:=hiD ht;have HRO:=hiD (zm0 hl.2.1);clear hc hl hn hnk hk hK ht;go_enter Tryz.func50,Tryz.ntmps50
 go_wp2_with fail
 refine qb (fun W=>LkBx w c W) ⟨((Bk.new _ _ _).alloc _).alloc _,(Bk.new2 _ _ _ _).alloc _,Bk.new3 _ _ _ _ _,(((Below.refl _ _).alloc (Nat.le_refl _) _).alloc (by simp) _).alloc (by simp;omega) _⟩ ?_;rintro W q;have Q:=hiD q;clear q;refine(zvn A n k l W (HL.o.later Q.o.2.2.2) HN.o.2 HNK.o HKM.o (HK.o.below Q.o.2.2.2)).mono ?_;rintro e W1 ⟨H,rfl,hv,hin,hb⟩;have R:=hiD (Q.o.next hb);have HBW:Hid (w.heap.size+1+1<W.heap.size):=hiD Q.o.2.2.1.lt;have HI:=hiD hin;have HV0:=hiD hv;clear hv hin hb Q;obtain⟨x,hx⟩:∃ x,qy l=x:=⟨_,rfl⟩;have HX:=hiD hx;rw[hx] at HRO ⊢;clear hx;obtain⟨er,her⟩:∃ er,qg l=er:=⟨_,rfl⟩;have HER:=hiD her;rw[her];clear her;go_wp2_with (with_reducible refine st0 ?_)
 refine held (zi rfl 27 (.tmp 7) (.tmp 13) rfl W1.heap.size 0 (chC x) rfl rfl 27 (chC ch0) ((Bk.new W1 27 (chC ch0)).alloc _) (by rw[zx HRO.o];exact Nat.le_refl _) (info_ch' HRO.o) (zt _) ?_);intro W2 hw2;have hk2:Bk W2 (W1.heap.size+1) 50 (evC (ze 0 0)):=by rw[q9 hw2 zj HRO.o];exact(Bk.new2 _ _ _ _).setRow_other (by omega) _
 go_wp2_with (with_reducible refine st0 ?_)
 refine held (zi rfl 50 (.tmp 8) (.tmp 14) rfl (W1.heap.size+1) 0 (evC H) rfl rfl 50 _ hk2 (by rw[zd,zd];decide) (by rw[zd];exact zr) (zw _) ?_);intro W3 hw3;obtain⟨k7,k8,-,hb⟩:=zjg HRO.o rfl HI.o.inn hw2 hw3;have Q:=hiD (R.o.next hb);have QI:=hiD (HI.o.below hb);have K7:=hiD k7;have K8:=hiD k8;have HB7:Hid (w.heap.size+1+1<W1.heap.size):=hiD R.o.2.2.1.lt;clear k7 k8 hb hw2 hw3 hk2 R HI;obtain⟨b7,hb7⟩:∃ b,W1.heap.size=b:=⟨_,rfl⟩;rw[hb7] at K7 K8 HB7 ⊢;clear hb7;by_cases he:er=0
 case neg =>
  have HLK:=hiD (zm2 (c:=c) (l:=l) (by rw[HER.o];exact he));have HE:Hid (qp c l=er):=hiD (by rw[HLK.o.1,HER.o]);have HCC:Hid (zam c l=ch0):=hiD HLK.o.2.1;have HV:Hid (zbi c l=bare 0 0):=hiD HLK.o.2.2;have hne:(((er:Nat):Int) != 0)=true:=by simpa using he
  have S:=hiD Q.o.2;clear he Q;go_wp2_with (with_reducible refine stn 18 ?_)
  refine held (j9 rfl 27 #[] rfl [] rfl (chC ch0) zak ?_);go_wp2_with (with_reducible refine st0 ?_)
  refine held (zi rfl 27 (.tmp 4) (.tmp 18) rfl (w.heap.size+1) 0 (chC ch0) rfl rfl 27 _ S.o.1 (by rw[Nat.zero_add];exact Nat.le_refl _) (info_ch' zj) (zt _) ?_);intro w10 hw10;obtain rfl:=q9 hw10 zj zj;go_wp2_with (with_reducible refine st0 ?_)
  refine held (zi rfl 50 (.tmp 5) (.tmp 19) rfl (w.heap.size+1+1) 0 (evC (ze 0 0)) rfl rfl 50 _ (S.o.2.1.setRow_other (by omega) _) (by rw[zd];decide) (by rw[zd];exact zr) (zw _) ?_);intro w11 hw11;obtain rfl:=qa hw11 (by rw[zd]);go_wp2_with fail
  exact bodyPost_ret (zau rfl _ _ ⟨w.heap.size+1,0,none⟩ ⟨w.heap.size+1+1,0,none⟩ _ _ _ rfl rfl rfl (Bk.ch ((Bk.setRow_same S.o.1 _).setRow_other (by omega) _) zj) (Bk.ev (Bk.setRow_same (S.o.2.1.setRow_other (by omega) _) _))) rfl ⟨ze 0 0,by rw[HE.o,HCC.o]<;>rfl,by rw[HV.o];rfl,EvFar.bare _ _ _ _,below_setRow (below_setRow S.o.2.2 (by omega) _) (by omega) _⟩
 subst he;obtain⟨q,hq⟩:∃ q,decide (x=c)=q:=⟨_,rfl⟩;have hneq:∀ W,(binOp .neq 27 (.agg (chC x)) (.agg (chC c))).run Tryz.prog W=.ok (.bool (!q)) W:=fun W=>by rw[← hq];exact zms W x c HRO.o HC.o
 have HQ:=hiD hq;clear hq;go_wp2_with (with_reducible refine stn 21 ?_)
 refine held (wpList_load_mid rfl 27 (.tmp 7) rfl b7 0 rfl _ _ K7.o.range Tryz.underlying27 rfl (zcd HRO.o) ?_);refine wpList_load_mid rfl 27 (.tmp 2) rfl w.heap.size 0 rfl _ _ Q.o.1.range Tryz.underlying27 rfl (zcd HC.o) ?_;cases q
 case false =>
  have hxc:qy l≠c:=by rw[HX.o];exact of_decide_eq_false HQ.o
  have HLK:=hiD (zjk (c:=c) (l:=l) HER.o hxc);have HE:Hid (qp c l=11):=hiD HLK.o.1;have HCC:Hid (zam c l=ch0):=hiD HLK.o.2.1;have HV:Hid (zbi c l=bare 0 0):=hiD HLK.o.2.2;have S:=hiD Q.o.2;clear hxc Q;go_wp2_with (with_reducible refine stn 24 ?_)
  refine held (j9 rfl 27 #[] rfl [] rfl (chC ch0) zak ?_);go_wp2_with (with_reducible refine st0 ?_)
  refine held (zi rfl 27 (.tmp 4) (.tmp 24) rfl (w.heap.size+1) 0 (chC ch0) rfl rfl 27 _ S.o.1 (by rw[Nat.zero_add];exact Nat.le_refl _) (info_ch' zj) (zt _) ?_);intro w10 hw10;obtain rfl:=q9 hw10 zj zj;go_wp2_with (with_reducible refine st0 ?_)
  refine held (zi rfl 50 (.tmp 5) (.tmp 25) rfl (w.heap.size+1+1) 0 (evC (ze 0 0)) rfl rfl 50 _ (S.o.2.1.setRow_other (by omega) _) (by rw[zd];decide) (by rw[zd];exact zr) (zw _) ?_);intro w11 hw11;obtain rfl:=qa hw11 (by rw[zd]);go_wp2_with fail
  exact bodyPost_ret (zau rfl _ _ ⟨w.heap.size+1,0,none⟩ ⟨w.heap.size+1+1,0,none⟩ _ _ _ rfl rfl rfl (Bk.ch ((Bk.setRow_same S.o.1 _).setRow_other (by omega) _) zj) (Bk.ev (Bk.setRow_same (S.o.2.1.setRow_other (by omega) _) _))) rfl ⟨ze 0 0,by rw[HE.o,HCC.o]<;>rfl,by rw[HV.o];rfl,EvFar.bare _ _ _ _,below_setRow (below_setRow S.o.2.2 (by omega) _) (by omega) _⟩
 case true =>
 have hxc:qy l=c:=by rw[HX.o];exact of_decide_eq_true HQ.o
 have HLK:=hiD (zf4 (c:=c) (l:=l) HER.o hxc);have HCN:=hiD (zm1 HER.o);rw[hxc] at HCN;have HE:Hid (qp c l=0):=hiD HLK.o.1;have HCC:Hid (zam c l=qw c l):=hiD HLK.o.2.1;have HV:Hid (zbi c l=H.e):=hiD (by rw[HLK.o.2.2,← HV0.o]);have HGO:Hid ((qw c l).Ok):=hiD (zb3 c l);clear hxc;go_wp2_with fail
 have E:=hiD (And.intro Q.o.2.1.drew Q.o.2.2.1.drew);have EI:=hiD (QI.o.below (Below.refl _ _).drew);clear hneq;refine wp_region_held_drew (S:=fun W'=>Bk W' w.heap.size 27 (chC c)∧Bk W' (b7+1) 50 (evC H)∧Below w.heap.size w W') hmx ⟨Q.o.1.drew,K8.o.drew,Q.o.2.2.2.drew⟩ (fun qch=>?_);clear Q K7 K8 QI;generalize hW0:W3.drew=W4 at *;clear hW0;simp only[List.size_toArray,List.length_cons,List.length_nil,Nat.reduceAdd];refine tkx (i:=0) (v:=.agg (chC c)) (x:=fun w0 hC=>jc rfl rfl hC.1.range Tryz.underlying27 rfl (info_ch' HC.o)) (s:=qch) (h:=?_);try simp only[nm0]
 refine tks (i:=1) (v:=.slice A n k) (s:=qch) (h:=?_);try simp only[nm0]
 refine tkx (i:=3) (v:=.agg (evC H)) (x:=fun w0 hC=>jc rfl rfl hC.2.1.range Tryz.underlying50 rfl (by rw[zd];exact zr)) (s:=qch) (h:=?_);try simp only[nm0]
 refine rd1 (r:=2) (h:=fun K hK=>?_);go_wp2_with fail
 refine(zvo c A n k l W4 HC.o (HL.o.later qch.2.2) HN.o.1 HCN.o.1 (Int.le_of_lt HCN.o.2) (Tabs.later15 HT.o qch.2.2)).mono ?_;rintro e W5 ⟨rfl,hb⟩;have hS:=And.intro (qch.1.below hb qch.1.lt) (And.intro (qch.2.1.below hb qch.2.1.lt) (qch.2.2.trans (hb.mono qch.2.2.size)));have F:=hiD (And.intro (E.o.1.below hb E.o.1.lt) (E.o.2.below hb E.o.2.lt));have FI:=hiD (EI.o.below hb);clear qch hb E EI;refine bkk hK hS fun qch=>?_;clear hK K;try simp only[nm0]
 clear hS;obtain⟨y,hy⟩:∃ y,qw c l=y:=⟨_,rfl⟩;rw[hy] at HGO HCC ⊢;clear hy;refine rd1 (r:=4) (h:=fun K hK=>?_);refine qh (ql rfl rfl rfl F.o.1 (by rw[zx HGO.o];rfl) (info_ch' HGO.o) (zt _)) ?_;have hS:Bk (W5.setRow (w.heap.size+1) (chC y)) w.heap.size 27 (chC c)∧Bk (W5.setRow (w.heap.size+1) (chC y)) (b7+1) 50 (evC H)∧Below w.heap.size w (W5.setRow (w.heap.size+1) (chC y)):=⟨qch.1.setRow_other (by omega) _,qch.2.1.setRow_other (by have:=HB7.o;omega) _,below_setRow qch.2.2 (by omega) _⟩;have F1:=hiD (F.o.1.setRow_same (chC y));have F2:=hiD (F.o.2.setRow_other (show w.heap.size+1+1≠w.heap.size+1 by omega) (chC y));have F4:=hiD (FI.o.kept (jy F.o.1 (chC y)) (by have:=HBW.o;omega));clear qch F FI;refine bkk hK hS fun qch=>?_;clear hK K;try simp only[nm0]
 clear hS;generalize W5.setRow (w.heap.size+1) (chC y)=W6 at *;refine rd1 (r:=5) (h:=fun K hK=>?_);refine qh (ql rfl rfl rfl F2.o (by rw[zd,zd]) (by rw[zd];exact zr) (zw _)) ?_;have hS:Bk (W6.setRow (w.heap.size+1+1) (evC H)) w.heap.size 27 (chC c)∧Bk (W6.setRow (w.heap.size+1+1) (evC H)) (b7+1) 50 (evC H)∧Below w.heap.size w (W6.setRow (w.heap.size+1+1) (evC H)):=⟨qch.1.setRow_other (by omega) _,qch.2.1.setRow_other (by have:=HB7.o;omega) _,below_setRow qch.2.2 (by omega) _⟩;have G1:=hiD (F1.o.setRow_other (show w.heap.size+1≠w.heap.size+1+1 by omega) (evC H));have G2:=hiD (F2.o.setRow_same (evC H));have G4:=hiD ((F4.o.kept (jy F2.o (evC H)) HBW.o).mono (base':=w.heap.size) (by have:=HBW.o;omega));clear qch F1 F2 F4;refine bkk hK hS fun qch=>?_;clear hK K;try simp only[nm0]
 clear hS;refine rd1 (r:=6) (h:=fun K hK=>?_);go_wp2_with fail
 have hS:=qch;clear qch;refine bkk hK hS fun qch=>?_;clear hK K;try simp only[nm0]
 clear hS;refine wpAnyH_done (by kernel_rfl) ?_ _;go_wp2_with fail
 exact bodyPost_ret (zau rfl _ _ ⟨w.heap.size+1,0,none⟩ ⟨w.heap.size+1+1,0,none⟩ _ _ _ rfl rfl rfl (Bk.ch G1.o HGO.o) (Bk.ev G2.o)) rfl ⟨H,by rw[HE.o,HCC.o];rfl,HV.o.symm,G4.o,qch.2.2⟩
end Go.Proofs.YtmjjefnmabbgdaaGreatDoor
