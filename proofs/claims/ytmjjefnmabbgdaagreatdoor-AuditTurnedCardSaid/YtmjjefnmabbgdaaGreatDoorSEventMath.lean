/- A part of the proof. -/
import Derived.Test.YtmjjefnmabbgdaaGreatDoorSDateText
namespace Go.Proofs.YtmjjefnmabbgdaaGreatDoor
open List renaming set_cons_zero → jB, set_cons_succ → jC
set_option linter.unusedVariables false
set_option linter.unusedSimpArgs false
set_option maxRecDepth 100000
set_option maxHeartbeats 16000000
structure Ev where
 kind:Int
 at_:Int
 box:ByteArray
 to_:ByteArray
 ids:List Int
 set:List Rg
 mode:Int
 flags:Int
 date:Int
 n:Int
 body:List Nat
def evEq (a b:Ev):Bool:=decide (a.kind=b.kind) && (decide (a.at_=b.at_) && (decide (a.box=b.box) && (decide (a.to_=b.to_) && (decide (a.ids=b.ids) && (decide (a.set=b.set) && (decide (a.mode=b.mode) && (decide (a.flags=b.flags) && (decide (a.date=b.date) && (decide (a.n=b.n) && decide (a.body=b.body))))))))))
theorem zpo (a b:Ev):evEq a b=true↔a=b:=by
 obtain⟨a1,a2,a3,a4,a5,a6,a7,a8,a9,a10,a11⟩:=a;obtain⟨b1,b2,b3,b4,b5,b6,b7,b8,b9,b10,b11⟩:=b;unfold evEq;simp only[Bool.and_eq_true,decide_eq_true_eq,Ev.mk.injEq]
theorem zyo (a:Ev):evEq a a=true:=(zpo a a).2 rfl
def letK:Nat→List Nat
 | 0=>[98]
 | 1=>[98]
 | 2=>[98,116]
 | 3=>[98]
 | 4=>[98]
 | 5=>[98,102,100,121]
 | 6=>[98,105,109,102]
 | 7=>[98,116,105]
 | 8=>[98,105]
 | 9=>[110]
 | 10=>[98,110]
 | 11=>[98,115]
 | 12=>[110]
 | 13=>[105]
 | _=>[]
def nineL:List Nat:=[98,116,105,115,109,102,100,110,121]
def zg (k:Int):List Nat:=if 1≤k∧k≤14 then letK (k.toNat-1)else []
theorem zyp (j:Nat):∀ x∈letK j,x<128:=by
 by_cases h:j<14
 ·have:∀ j:Fin 14,∀ x∈letK j.val,x<128:=by decide
  exact this ⟨j,h⟩
 ·obtain⟨i,rfl⟩:=Nat.exists_eq_add_of_le (by omega:14≤j)
  rw[show 14+i=i+14 by omega];intro x hx;cases hx
theorem zkg (k:Int):∀ x∈zg k,x<128:=by
 unfold zg
 split
 ·exact zyp _
 ·intro x hx;cases hx
theorem zyq (j:Nat):(∀ x∈letK j,x∈nineL)∧(letK j).Nodup∧(letK j).length≤4:=by
 by_cases h:j<14
 ·have:∀ j:Fin 14,(∀ x∈letK j.val,x∈nineL)∧(letK j.val).Nodup∧(letK j.val).length≤4:=by decide
  exact this ⟨j,h⟩
 ·obtain⟨i,rfl⟩:=Nat.exists_eq_add_of_le (by omega:14≤j)
  rw[show 14+i=i+14 by omega];exact⟨(by intro x hx;cases hx),List.nodup_nil,Nat.zero_le _⟩
theorem zgk (k:Int):(∀ x∈zg k,x∈nineL)∧(zg k).Nodup∧(zg k).length≤4:=by
 unfold zg
 split
 ·exact zyq _
 ·exact⟨(by intro x hx;cases hx),List.nodup_nil,Nat.zero_le _⟩
theorem zfd {k:Int}(h:1≤k∧k≤14):k=1∨k=2∨k=3∨k=4∨k=5∨k=6∨k=7∨k=8∨k=9∨k=10∨k=11∨k=12∨k=13∨k=14:=by omega
def tmB (z:Int):Bool:=decide (0≤z∧z≤1099511627776)
def idsB (l:List Int):Bool:=decide (1≤l.length∧l.length≤60) && zel l
def setB (l:List Rg):Bool:=decide (l.length≤60∧∀ r∈l,okR r)
def zda (z:Int):Bool:=decide (0≤z∧z≤2)
def zby:ByteArray:=⟨#[]⟩
def okQ (e:Ev)(c:Nat):Bool :=
 if c=98 then js (nats e.box)else if c=116 then js (nats e.to_)else if c=105 then idsB e.ids else if c=115 then setB e.set else if c=109 then zda e.mode else
 if c=102 then okF e.flags else if c=100 then tmB e.date else if c=110 then tmB e.n else decide (e.body.length≤2000)
def jm (e:Ev)(c:Nat):Bool :=
 if c=98 then decide (e.box=zby)else if c=116 then decide (e.to_=zby)else if c=105 then decide (e.ids=[])else if c=115 then decide (e.set=[])else if c=109 then decide (e.mode=0)else
 if c=102 then decide (e.flags=0)else if c=100 then decide (e.date=0)else if c=110 then decide (e.n=0)else decide (e.body=[])
def outP (e:Ev)(c:Nat):Ev :=
 if c=98 then { e with box:=zby } else if c=116 then { e with to_:=zby } else if c=105 then { e with ids:=[] } else if c=115 then { e with set:=[] } else if c=109 then { e with mode:=0 } else
 if c=102 then { e with flags:=0 } else if c=100 then { e with date:=0 } else if c=110 then { e with n:=0 } else if c=121 then { e with body:=[] } else e
def bare (k t:Int):Ev:=⟨k,t,zby,zby,[],[],0,0,0,0,[]⟩
def z7 (e:Ev):Bool:=!(zg e.kind).isEmpty && (tmB e.at_ && ((zg e.kind).all (okQ e) && evEq ((zg e.kind).foldl outP e) (bare e.kind e.at_)))
def zkh (e:Ev):Bool:=!(zg e.kind).isEmpty && (tmB e.at_ && nineL.all fun c=>if c∈zg e.kind then okQ e c else jm e c)
theorem zyr (e:Ev):zkh e=z7 e:=by
 obtain⟨k,t,a1,a2,a3,a4,a5,a6,a7,a8,a9⟩:=e;by_cases h:1≤k∧k≤14
 ·rcases zfd h with rfl|rfl|rfl|rfl|rfl|rfl|rfl|rfl|rfl|rfl|rfl|rfl|rfl|rfl <;>
  ·rw[Bool.eq_iff_iff]
   simp[zkh,z7,zg,letK,nineL,jm,outP,evEq,bare,okQ]
   try grind
 ·have hp:zg k=[]:=if_neg h
  unfold zkh z7;simp[hp]
theorem zb9 {e:Ev}(h:z7 e=true):zg e.kind≠[]∧tmB e.at_=true∧(∀ c∈zg e.kind,okQ e c=true)∧(zg e.kind).foldl outP e=bare e.kind e.at_:=by
 unfold z7 at h;simp only[Bool.and_eq_true,List.all_eq_true] at h;exact⟨by simpa using h.1,h.2.1,h.2.2.1,(zpo _ _).1 h.2.2.2⟩
theorem zpp {e:Ev}(h:z7 e=true):1≤e.kind∧e.kind≤14:=by
 have:=(zb9 h).1;unfold zg at this
 split at this
 ·assumption
 ·exact absurd rfl this
def qc (l:List Rg):List Int:=l.flatMap fun r=>[r.1,r.2]
theorem zd3 (l:List Rg):(qc l).length=2*l.length:=by
 unfold qc
 induction l with
 | nil=>rfl
 | cons r l ih=>rw[List.flatMap_cons,List.length_append,ih,List.length_cons];simp;omega
theorem zki (l:List Rg)(r:Rg):qc (l++[r])=qc l++[r.1,r.2]:=by unfold qc;rw[List.flatMap_append];rfl
def layP (e:Ev)(c:Nat):List Nat :=
 if c=98 then jd (nats e.box)else if c=116 then jd (nats e.to_)else if c=105 then zk [(e.ids.length:Int)]++zk e.ids else if c=115 then zk [(e.set.length:Int)]++zk (qc e.set)else if c=109 then zk [e.mode] else
 if c=102 then zk [e.flags] else if c=100 then zk [e.date] else if c=110 then zk [e.n] else jd e.body
def layD (e:Ev)(c:Nat):List Nat:=if c∈zg e.kind then layP e c else []
def zac (e:Ev):List Nat:=zk [e.kind,e.at_]++(zg e.kind).flatMap (layP e)
def zkj (e:Ev):List Nat:=zk [e.kind,e.at_]++nineL.flatMap (layD e)
theorem zys (e:Ev):zkj e=zac e:=by
 obtain⟨k,t,a1,a2,a3,a4,a5,a6,a7,a8,a9⟩:=e;by_cases h:1≤k∧k≤14
 ·rcases zfd h with rfl | rfl | rfl | rfl | rfl | rfl | rfl | rfl | rfl | rfl | rfl | rfl | rfl | rfl <;>
   simp[zkj,zac,layD,zg,letK,nineL,layP]
 ·have hp:zg k=[]:=if_neg h
  unfold zkj zac layD;simp[hp]
def encE (e:Ev):Nat:=if z7 e=true then 0 else 1
def encV (e:Ev):List Nat:=if z7 e=true then zac e else []
theorem zkk {l:List Int}(h:idsB l=true):1≤l.length∧l.length≤60:=by
 unfold idsB at h;rw[Bool.and_eq_true] at h;exact of_decide_eq_true h.1
theorem zkl {l:List Rg}(h:setB l=true):l.length≤60:=by
 unfold setB at h;exact(of_decide_eq_true h).1
theorem zpq {e:Ev}{c:Nat}(h:okQ e c=true):(layP e c).length≤5000:=by
 unfold okQ at h;unfold layP
 split<;>rename_i h1
 ·have:=zj7 (nats e.box);omega
 rw[if_neg h1] at h
 split<;>rename_i h2
 ·have:=zj7 (nats e.to_);omega
 rw[if_neg h2] at h
 split<;>rename_i h3
 ·rw[if_pos h3] at h
  have:=zkk h;rw[List.length_append,za4,za4,List.length_singleton];omega
 rw[if_neg h3] at h
 split<;>rename_i h4
 ·rw[if_pos h4] at h
  have:=zkl h;rw[List.length_append,za4,za4,List.length_singleton,zd3];omega
 rw[if_neg h4] at h
 split
 ·rw[za4,List.length_singleton];omega
 split
 ·rw[za4,List.length_singleton];omega
 split
 ·rw[za4,List.length_singleton];omega
 split
 ·rw[za4,List.length_singleton];omega
 ·have:=zj7 e.body;omega
theorem zkm {f:Nat→List Nat}{m:Nat}:∀ {p:List Nat},(∀ c∈p,(f c).length≤m)→(p.flatMap f).length≤m*p.length
 | [],_=>Nat.zero_le _
 | c :: p, h => by
   rw[List.flatMap_cons,List.length_append,List.length_cons,Nat.mul_succ];have:=h c (List.mem_cons_self ..);have:=zkm fun d hd=>h d (List.mem_cons_of_mem c hd);omega
theorem zpr {e:Ev}(h:z7 e=true):16≤(zac e).length∧(zac e).length≤20016:=by
 have h1:=zkm (f:=layP e) fun c hc=>zpq ((zb9 h).2.2.1 c hc);have h2:=(zgk e.kind).2.2;unfold zac;rw[List.length_append,za4,List.length_cons,List.length_singleton];omega
def rdI:Nat→List Nat→Nat→List Int×List Nat×Nat
 | 0,l,e=>([],l,e)
 | k+1,l,e=>((rdI k l e).1++[((numV (rdI k l e).2.1 (rdI k l e).2.2:Nat):Int)],zh (rdI k l e).2.1 (rdI k l e).2.2 8,numE (rdI k l e).2.1 (rdI k l e).2.2)
def rdS:Nat→List Nat→Nat→List Rg
 | 0,l,e=>[]
 | k+1,l,e=>rdS k l e++[(((numV (rdI (2*k) l e).2.1 (rdI (2*k) l e).2.2:Nat):Int),((numV (rdI (2*k+1) l e).2.1 (rdI (2*k+1) l e).2.2:Nat):Int))]
theorem zps (l:List Nat)(e:Nat):∀ k,qc (rdS k l e)=(rdI (2*k) l e).1
 | 0=>rfl
 | k + 1 => by
   show qc (rdS k l e++[_])=_
   rw[zki,zps l e k,show 2*(k+1)=2*k+1+1 by omega]
   show _=((rdI (2*k) l e).1++[_])++[_]
   rw[List.append_assoc];rfl
theorem zpt (l:List Nat)(e:Nat):∀ k,(rdS k l e).length=k
 | 0=>rfl
 | k+1=>by show(rdS k l e++[_]).length=_;rw[List.length_append,zpt l e k];rfl
theorem zpu (l:List Nat)(e:Nat):∀ k,(rdI k l e).1.length=k
 | 0=>rfl
 | k+1=>by show((rdI k l e).1++[_]).length=_;rw[List.length_append,zpu l e k];rfl
theorem zgl {e:Nat}(l:List Nat)(h:e≠0):∀ k,(rdI k l e).2.1=l∧(rdI k l e).2.2=e
 | 0=>⟨rfl,rfl⟩
 | k + 1 => by
   obtain⟨h1,h2⟩:=zgl l h k;refine⟨?_,?_⟩
   ·show zh (rdI k l e).2.1 (rdI k l e).2.2 8=l
    rw[h1,h2,zb8 h]
   ·show numE (rdI k l e).2.1 (rdI k l e).2.2=e
    rw[h1,h2,ze9 h]
theorem zfe {l:List Nat}{e:Nat}(h:∀ x∈l,x<256):∀ k,∀ x∈(rdI k l e).2.1,x<256
 | 0=>h
 | k+1=>zab (zfe h k)
theorem zff {l:List Nat}{e:Nat}:∀ k,(rdI k l e).2.1.length≤l.length
 | 0=>Nat.le_refl _
 | k+1=>Nat.le_trans zaf (zff k)
theorem zpv (l:List Nat)(e:Nat):∀ k,(rdI (k+1) l e).1=((numV l e:Nat):Int)::(rdI k (zh l e 8) (numE l e)).1∧(rdI (k+1) l e).2=(rdI k (zh l e 8) (numE l e)).2
 | 0=>⟨rfl,rfl⟩
 | k + 1 => by
   obtain⟨h1,h2⟩:=zpv l e k;have h3:(rdI (k+1) l e).2.1=(rdI k (zh l e 8) (numE l e)).2.1:=by rw[h2]
   have h4:(rdI (k+1) l e).2.2=(rdI k (zh l e 8) (numE l e)).2.2:=by rw[h2]
   refine⟨?_,?_⟩
   ·show(rdI (k+1) l e).1++[_]=_::((rdI k (zh l e 8) (numE l e)).1++[_])
    rw[h1,h3,h4];rfl
   ·show(zh (rdI (k+1) l e).2.1 (rdI (k+1) l e).2.2 8,numE (rdI (k+1) l e).2.1 (rdI (k+1) l e).2.2)=_
    rw[h3,h4];rfl
def numK (z:Int):Prop:=0≤z∧z≤4611686018427387904
theorem zpw {z:Int}(h:numK z):((qt z:Nat):Int)=z:=by unfold numK at h;unfold qt;omega
theorem zh8 (r:List Nat):∀ (l:List Int),(∀ z∈l,numK z)→rdI l.length (zk l++r) 0=(l,r,0)
 | [],_=>rfl
 | z :: l, h => by
   obtain⟨h1,h2,h3⟩:=zkc (qt z) (zh2 z) (zk l++r);obtain⟨m1,m2⟩:=zpv (zk (z::l)++r) 0 l.length;rw[zd0,List.append_assoc] at *;rw[h1,h2,h3,zh8 r l (fun x hx=>h x (List.mem_cons_of_mem _ hx)),zpw (h z (List.mem_cons_self ..))] at m1;rw[h2,h3,zh8 r l (fun x hx=>h x (List.mem_cons_of_mem _ hx))] at m2;exact Prod.ext m1 m2
theorem zpx:∀ {a b:List Rg},qc a=qc b→a=b
 | [],[],_=>rfl
 | [],r::b,h=>by exact absurd (congrArg List.length h) (by rw[zd3,zd3,List.length_cons,List.length_nil];omega)
 | r::a,[],h=>by exact absurd (congrArg List.length h) (by rw[zd3,zd3,List.length_cons,List.length_nil];omega)
 | r :: a, s :: b, h => by
   have h':r.1::r.2::qc a=s.1::s.2::qc b:=h;injection h' with h1 h2;injection h2 with h2 h3;rw[zpx h3,Prod.ext h1 h2]
theorem zyt (r:List Nat)(l:List Rg)(h:∀ z∈qc l,numK z):rdS l.length (zk (qc l)++r) 0=l∧(rdI (2*l.length) (zk (qc l)++r) 0).2=(r,0):=by
 have h1:=zh8 r (qc l) h;rw[zd3] at h1;have h2:=zps (zk (qc l)++r) 0 l.length;rw[h1] at h2;exact⟨zpx h2,by rw[h1]⟩
abbrev St3:=Ev×List Nat×Nat
def zo (e:Ev)(c:Nat)(l:List Nat)(er:Nat):St3 :=
 if c=98 then ({ e with box:=za (zl l er) },zar l er,zbm l er)
 else if c=116 then ({ e with to_:=za (zl l er) },zar l er,zbm l er)
 else if c=105 then ({ e with ids:=(rdI (qu l er 60) (zh l er 8) (qs l er 60)).1 },(rdI (qu l er 60) (zh l er 8) (qs l er 60)).2)
 else if c=115 then ({ e with set:=rdS (qu l er 60) (zh l er 8) (qs l er 60) },(rdI (2*qu l er 60) (zh l er 8) (qs l er 60)).2)
 else if c=109 then ({ e with mode:=((numV l er:Nat):Int) },zh l er 8,numE l er)
 else if c=102 then ({ e with flags:=((numV l er:Nat):Int) },zh l er 8,numE l er)
 else if c=100 then ({ e with date:=((numV l er:Nat):Int) },zh l er 8,numE l er)
 else if c=110 then ({ e with n:=((numV l er:Nat):Int) },zh l er 8,numE l er)
 else if c=121 then ({ e with body:=zl l er },zar l er,zbm l er)
 else (e,l,er)
def zad (x:St3)(c:Nat):St3:=zo x.1 c x.2.1 x.2.2
def zh9 (x e:Ev)(c:Nat):Ev :=
 if c=98 then { x with box:=e.box } else if c=116 then { x with to_:=e.to_ } else if c=105 then { x with ids:=e.ids } else if c=115 then { x with set:=e.set } else if c=109 then { x with mode:=e.mode } else
 if c=102 then { x with flags:=e.flags } else if c=100 then { x with date:=e.date } else if c=110 then { x with n:=e.n } else if c=121 then { x with body:=e.body } else x
theorem zkn {z:Int}(h:tmB z=true):numK z:=by
 unfold tmB at h;have:=of_decide_eq_true h;exact⟨by omega,by omega⟩
theorem zgm {c:Nat}(h:c∈nineL):c=98∨c=116∨c=105∨c=115∨c=109∨c=102∨c=100∨c=110∨c=121:=by
 simpa [nineL] using h
theorem zej {z:Int}(h:numK z)(r:List Nat):((numV (zk [z]++r) 0:Nat):Int)=z∧zh (zk [z]++r) 0 8=r∧numE (zk [z]++r) 0=0:=by
 obtain⟨h1,h2,h3⟩:=zkc (qt z) (zh2 z) r;rw[zd0,zh3,List.append_nil,h1,h2,h3];exact⟨zpw h,rfl,rfl⟩
theorem zpy {n:Nat}(h:n≤60)(r:List Nat):qu (zk [(n:Int)]++r) 0 60=n∧zh (zk [(n:Int)]++r) 0 8=r∧qs (zk [(n:Int)]++r) 0 60=0:=by
 obtain⟨h1,h2,h3⟩:=zej (z:=(n:Int)) ⟨by omega,by omega⟩ r;have h1':numV (zk [(n:Int)]++r) 0=n:=by omega
 unfold qu qs;rw[h1',h3,if_neg (by omega),if_neg (by omega)];exact⟨rfl,h2,rfl⟩
theorem zpz {s:ByteArray}(h:js (nats s)=true):(nats s).length≤40:=by
 unfold js at h;have:=(of_decide_eq_true h).1;unfold qd at this;exact(of_decide_eq_true this).2.1
theorem zyu {z:Int}(h:okF z=true):numK z:=by
 unfold okF at h;have:=of_decide_eq_true h;exact⟨by omega,by omega⟩
theorem zyv {z:Int}(h:zda z=true):numK z:=by
 unfold zda at h;have:=of_decide_eq_true h;exact⟨by omega,by omega⟩
theorem zyw {l:List Int}(h:idsB l=true):∀ z∈l,numK z:=by
 intro z hz;unfold idsB at h;rw[Bool.and_eq_true] at h;have h2:=of_decide_eq_true h.2;obtain⟨i,hi,rfl⟩:=List.mem_iff_getElem.1 hz;have h3:=of_decide_eq_true (h2 i hi);have e:l.getD i 0=l[i]:=by simp[hi]
 rw[e] at h3;exact⟨by omega,by omega⟩
theorem zyx {l:List Rg}(h:setB l=true):∀ z∈qc l,numK z:=by
 intro z hz;unfold setB at h;have h2:=(of_decide_eq_true h).2;unfold qc at hz;obtain⟨r,hr,hz⟩:=List.mem_flatMap.1 hz;obtain⟨⟨a,b⟩,⟨c,d⟩⟩:=h2 r hr;simp only[List.mem_cons,List.not_mem_nil,or_false] at hz;rcases hz with rfl|rfl
 ·exact⟨a,by omega⟩
 ·exact⟨c,by omega⟩
theorem zyy (x e:Ev){c:Nat}(hc:c∈nineL)(h:okQ e c=true)(hb:∀ y∈e.body,y<256)(r:List Nat):zo x c (layP e c++r) 0=(zh9 x e c,r,0):=by
 rcases zgm hc with rfl|rfl|rfl|rfl|rfl|rfl|rfl|rfl|rfl
 ·have h':js (nats e.box)=true:=h
  obtain⟨h1,h2,h3⟩:=zkd (nats e.box) r;rw[List.take_of_length_le (by have:=zpz h';omega)] at h1
  show(({ x with box:=za (zl (jd (nats e.box)++r) 0) }:Ev),zar (jd (nats e.box)++r) 0,zbm (jd (nats e.box)++r) 0)=_
  rw[h1,h2,h3,zaw];rfl
 ·have h':js (nats e.to_)=true:=h
  obtain⟨h1,h2,h3⟩:=zkd (nats e.to_) r;rw[List.take_of_length_le (by have:=zpz h';omega)] at h1
  show(({ x with to_:=za (zl (jd (nats e.to_)++r) 0) }:Ev),zar (jd (nats e.to_)++r) 0,zbm (jd (nats e.to_)++r) 0)=_
  rw[h1,h2,h3,zaw];rfl
 ·have h':idsB e.ids=true:=h
  obtain⟨h1,h2,h3⟩:=zpy (zkk h').2 (zk e.ids++r);have h4:=zh8 r e.ids (zyw h');have e1:layP e 105++r=zk [(e.ids.length:Int)]++(zk e.ids++r):=List.append_assoc _ _ _;rw[e1]
  show(({ x with ids:=(rdI (qu _ 0 60) (zh _ 0 8) (qs _ 0 60)).1 }:Ev),(rdI (qu _ 0 60) (zh _ 0 8) (qs _ 0 60)).2)=_
  rw[h1,h2,h3,h4];rfl
 ·have h':setB e.set=true:=h
  obtain⟨h1,h2,h3⟩:=zpy (zkl h') (zk (qc e.set)++r);obtain⟨h4,h5⟩:=zyt r e.set (zyx h');have e1:layP e 115++r=zk [(e.set.length:Int)]++(zk (qc e.set)++r):=List.append_assoc _ _ _;rw[e1]
  show(({ x with set:=rdS (qu _ 0 60) (zh _ 0 8) (qs _ 0 60) }:Ev),(rdI (2*qu _ 0 60) (zh _ 0 8) (qs _ 0 60)).2)=_
  rw[h1,h2,h3,h4,h5];rfl
 ·obtain⟨h1,h2,h3⟩:=zej (zyv (z:=e.mode) h) r
  show(({ x with mode:=((numV (zk [e.mode]++r) 0:Nat):Int) }:Ev),zh (zk [e.mode]++r) 0 8,numE (zk [e.mode]++r) 0)=_
  rw[h1,h2,h3];rfl
 ·obtain⟨h1,h2,h3⟩:=zej (zyu (z:=e.flags) h) r
  show(({ x with flags:=((numV (zk [e.flags]++r) 0:Nat):Int) }:Ev),zh (zk [e.flags]++r) 0 8,numE (zk [e.flags]++r) 0)=_
  rw[h1,h2,h3];rfl
 ·obtain⟨h1,h2,h3⟩:=zej (zkn (z:=e.date) h) r
  show(({ x with date:=((numV (zk [e.date]++r) 0:Nat):Int) }:Ev),zh (zk [e.date]++r) 0 8,numE (zk [e.date]++r) 0)=_
  rw[h1,h2,h3];rfl
 ·obtain⟨h1,h2,h3⟩:=zej (zkn (z:=e.n) h) r
  show(({ x with n:=((numV (zk [e.n]++r) 0:Nat):Int) }:Ev),zh (zk [e.n]++r) 0 8,numE (zk [e.n]++r) 0)=_
  rw[h1,h2,h3];rfl
 ·have h':e.body.length≤2000:=of_decide_eq_true h
  obtain⟨h1,h2,h3⟩:=zkd e.body r;rw[List.take_of_length_le (by omega)] at h1
  show(({ x with body:=zl (jd e.body++r) 0 }:Ev),zar (jd e.body++r) 0,zbm (jd e.body++r) 0)=_
  rw[h1,h2,h3];rfl
theorem zp0 (e:Ev)(hb:∀ y∈e.body,y<256)(r:List Nat):∀ (p:List Nat) (x:Ev),(∀ c∈p,c∈nineL)→(∀ c∈p,okQ e c=true)→p.foldl zad (x,p.flatMap (layP e)++r,0)=(p.foldl (fun x c=>zh9 x e c) x,r,0)
 | [],x,_,_=>rfl
 | c :: p, x, h1, h2 => by
   rw[List.flatMap_cons,List.append_assoc,List.foldl_cons,List.foldl_cons,show zad (x,layP e c++(p.flatMap (layP e)++r),0) c=zo x c (layP e c++(p.flatMap (layP e)++r)) 0 from rfl,zyy x e (h1 c (List.mem_cons_self ..)) (h2 c (List.mem_cons_self ..)) hb];exact zp0 e hb r p _ (fun d hd=>h1 d (List.mem_cons_of_mem _ hd)) (fun d hd=>h2 d (List.mem_cons_of_mem _ hd))
theorem zyz {e:Ev}(h:z7 e=true):(zg e.kind).foldl (fun x c=>zh9 x e c) (bare e.kind e.at_)=e:=by
 have h1:=(zb9 h).2.2.2;have h2:=zpp h;obtain⟨k,t,a1,a2,a3,a4,a5,a6,a7,a8,a9⟩:=e;rcases zfd h2 with rfl|rfl|rfl|rfl|rfl|rfl|rfl|rfl|rfl|rfl|rfl|rfl|rfl|rfl <;>
 ·simp[zg,letK,outP,bare] at h1
  simp[zg,letK,zh9,bare,h1]
theorem zp1 {e:Nat}{l:List Nat}{m:Int}(h:e≠0):qs l e m=e:=by
 unfold qs;rw[ze9 h,if_neg fun x=>h x.1]
theorem zko {e:Nat}{l:List Nat}(h:e≠0):zar l e=l:=by
 unfold zar;rw[zb8 h,zei h,zb8 h]
 split<;>rfl
theorem zy0 (x:Ev)(c:Nat)(l:List Nat){er:Nat}(h:er≠0):(zo x c l er).2=(l,er):=by
 unfold zo
 split
 ·rw[zko h,zkb h]
 split
 ·rw[zko h,zkb h]
 split
 ·rw[zb8 h,zp1 h]
  exact Prod.ext (zgl l h _).1 (zgl l h _).2
 split
 ·rw[zb8 h,zp1 h]
  exact Prod.ext (zgl l h _).1 (zgl l h _).2
 split
 ·rw[zb8 h,ze9 h]
 split
 ·rw[zb8 h,ze9 h]
 split
 ·rw[zb8 h,ze9 h]
 split
 ·rw[zb8 h,ze9 h]
 split
 ·rw[zko h,zkb h]
 ·rfl
theorem zp2:∀ (p:List Nat) (x:Ev) (l:List Nat) {er:Nat},er≠0→(p.foldl zad (x,l,er)).2=(l,er)
 | [],x,l,er,h=>rfl
 | c :: p, x, l, er, h => by
   have h1:=zy0 x c l h;have h2:zad (x,l,er) c=((zo x c l er).1,l,er):=Prod.ext rfl h1;rw[List.foldl_cons,h2];exact zp2 p _ l h
def jp (l:List Nat):List Nat:=zh (zh l 0 8) (numE l 0) 8
def zm (l:List Nat):Int:=((numV l 0:Nat):Int)
def jq (l:List Nat):Int:=((numV (zh l 0 8) (numE l 0):Nat):Int)
def zcj (l:List Nat):Nat:=numE (zh l 0 8) (numE l 0)
def zai (l:List Nat):Nat:=jl (zcj l) (decide (zg (zm l)=[]))
def decS (l:List Nat):St3:=(zg (zm l)).foldl zad (bare (zm l) (jq l),jp l,zai l)
def decD (l:List Nat):Nat:=zcw (decS l).2.1 (decS l).2.2
def decE (l:List Nat):Nat:=if decD l=0 then (if z7 (decS l).1=true then 0 else 3)else decD l
def decV (l:List Nat):Ev:=if decE l=0 then (decS l).1 else bare 0 0
def zax (k:Int)(x:St3)(c:Nat):St3:=if c∈zg k then zad x c else x
def docS (l:List Nat):St3:=if zai l=0 then nineL.foldl (zax (zm l)) (bare (zm l) (jq l),jp l,0)else (bare 0 0,jp l,zai l)
theorem zy1 (k:Int)(x:St3):nineL.foldl (zax k) x=(zg k).foldl zad x:=by
 by_cases h:1≤k∧k≤14
 ·rcases zfd h with rfl|rfl|rfl|rfl|rfl|rfl|rfl|rfl|rfl|rfl|rfl|rfl|rfl|rfl<;>rfl
 ·have hp:zg k=[]:=if_neg h
  unfold nineL zax;simp[hp]
theorem zp3 (l:List Nat):(docS l).2=(decS l).2∧(decD l=0→(docS l).1=(decS l).1):=by
 unfold docS;by_cases h:zai l=0
 ·rw[if_pos h,zy1]
  unfold decS;rw[h];exact⟨rfl,fun _=>rfl⟩
 ·rw[if_neg h]
  have h1:=zp2 (zg (zm l)) (bare (zm l) (jq l)) (jp l) h;refine⟨h1.symm,fun h0=>?_⟩;have h2:decD l=zcw (jp l) (zai l):=by
   unfold decD decS;rw[h1]
  rw[h2] at h0;unfold zcw at h0;rw[if_neg fun x=>h x.1] at h0;exact absurd h0 h
theorem docD (l:List Nat):zcw (docS l).2.1 (docS l).2.2=decD l:=by rw[(zp3 l).1];rfl
theorem zy2 {e:Ev}(h:z7 e=true)(r:List Nat):zm (zk [e.kind,e.at_]++r)=e.kind∧jq (zk [e.kind,e.at_]++r)=e.at_∧jp (zk [e.kind,e.at_]++r)=r∧zai (zk [e.kind,e.at_]++r)=0:=by
 have hk:=zpp h;have ht:=zkn (zb9 h).2.1;have e1:zk [e.kind,e.at_]++r=zk [e.kind]++(zk [e.at_]++r):=by
  rw[zd0 [e.at_] e.kind,zd0 [] e.at_,zd0 [] e.kind,zh3,List.append_nil,List.append_nil,List.append_assoc]
 obtain⟨a1,a2,a3⟩:=zej (z:=e.kind) ⟨by omega,by omega⟩ (zk [e.at_]++r);obtain⟨b1,b2,b3⟩:=zej ht r;have c1:zm (zk [e.kind,e.at_]++r)=e.kind:=by rw[e1];exact a1
 refine⟨c1,?_,?_,?_⟩
 ·rw[e1];unfold jq;rw[a2,a3];exact b1
 ·rw[e1];unfold jp;rw[a2,a3];exact b2
 ·unfold zai
  rw[c1,decide_eq_false (zb9 h).1];have:zcj (zk [e.kind,e.at_]++r)=0:=by rw[e1];unfold zcj;rw[a2,a3];exact b3
  rw[this];rfl
theorem zy3 {e:Ev}(h:z7 e=true)(hb:∀ y∈e.body,y<256)(r:List Nat):decS (zac e++r)=(e,r,0):=by
 have e1:zac e++r=zk [e.kind,e.at_]++((zg e.kind).flatMap (layP e)++r):=List.append_assoc _ _ _;obtain⟨h1,h2,h3,h4⟩:=zy2 h ((zg e.kind).flatMap (layP e)++r);rw[e1];unfold decS;rw[h1,h2,h3,h4,zp0 e hb r _ _ (zgk e.kind).1 (zb9 h).2.2.1,zyz h]
theorem zy4 {e:Ev}(h:z7 e=true)(hb:∀ y∈e.body,y<256):decE (zac e)=0∧decV (zac e)=e:=by
 have h1:=zy3 h hb [];rw[List.append_nil] at h1;have h2:decD (zac e)=0:=by unfold decD;rw[h1];rfl
 have h3:decE (zac e)=0:=by unfold decE;rw[h2,h1,if_pos rfl,if_pos h]
 exact⟨h3,by unfold decV;rw[h3,h1,if_pos rfl]⟩
theorem zp4 (x:Ev)(c:Nat){l:List Nat}(er:Nat)(hl:∀ y∈l,y<256):∀ y∈(zo x c l er).2.1,y<256:=by
 unfold zo
 split
 ·exact zj9 hl
 split
 ·exact zj9 hl
 split
 ·exact zfe (zab hl) _
 split
 ·exact zfe (zab hl) _
 split
 ·exact zab hl
 split
 ·exact zab hl
 split
 ·exact zab hl
 split
 ·exact zab hl
 split
 ·exact zj9 hl
 ·exact hl
theorem zp5 (x:Ev)(c:Nat){l:List Nat}(er:Nat):(zo x c l er).2.1.length≤l.length:=by
 unfold zo
 split
 ·exact zka
 split
 ·exact zka
 split
 ·exact Nat.le_trans (zff _) zaf
 split
 ·exact Nat.le_trans (zff _) zaf
 split
 ·exact zaf
 split
 ·exact zaf
 split
 ·exact zaf
 split
 ·exact zaf
 split
 ·exact zka
 ·exact Nat.le_refl _
structure Tmb where
 id:Int
 box:ByteArray
 at_:Int
 msg:Mg
structure Hol where
 id:Int
 box:ByteArray
 set:List Rg
structure Sta where
 clock:Int
 boxes:List Bx
 subs:List ByteArray
 rules:List Rul
 tombs:List Tmb
 holds:List Hol
 nv:Int
 nt:Int
 nh:Int
def je:ByteArray:=⟨#[73,78,66,79,88]⟩
def zck:Sta:=⟨0,[⟨je,1,1,[]⟩],[],[],[],[],2,1,1⟩
def qj (b:ByteArray):Bool:=js (nats b)
def NextOk (n:Int):Prop:=1≤n∧n≤4294967296
structure OkBoxes (nv:Int)(l:List Bx):Prop where
 each:∀ b∈l,OkBx b∧qj b.name=true∧b.valid<nv
 rise:l.Pairwise (fun a b=>ltS a.name b.name)
 vals:l.Pairwise (fun a b=>a.valid≠b.valid)
 inbox:∃ b∈l,b.name=je
def OkSubs (l:List ByteArray):Prop:=(∀ x∈l,qj x=true)∧l.Pairwise ltS
def OkRules (l:List Rul):Prop:=(∀ r∈l,qj r.1=true∧1≤r.2∧r.2≤1099511627776)∧zdd l
def OkTombs (clock nt:Int)(l:List Tmb):Prop:=(∀ t∈l,1≤t.id∧t.id<nt∧qj t.box=true∧0≤t.at_∧t.at_≤clock∧okMg t.msg=true)∧l.Pairwise (fun a b=>a.id<b.id)
def OkHolds (nh:Int)(l:List Hol):Prop:=(∀ h∈l,1≤h.id∧h.id<nh∧qj h.box=true∧(h.set≠[]→jr h.set=true))∧l.Pairwise (fun a b=>a.id<b.id)
structure OkSta (s:Sta):Prop where
 clock:0≤s.clock∧s.clock≤1099511627776
 nv:NextOk s.nv
 nt:NextOk s.nt
 nh:NextOk s.nh
 lens:s.boxes.length≤16∧s.subs.length≤16∧s.rules.length≤16∧s.tombs.length≤60∧s.holds.length≤16
 boxes:OkBoxes s.nv s.boxes
 subs:OkSubs s.subs
 rules:OkRules s.rules
 tombs:OkTombs s.clock s.nt s.tombs
 holds:OkHolds s.nh s.holds
def boxN:List Bx→ByteArray→Nat
 | [],_=>0
 | b::l,u=>if b.name=u then 1 else if boxN l u=0 then 0 else boxN l u+1
def noBx:Bx:=⟨zby,0,0,[]⟩
def qz (l:List Bx)(name:ByteArray):Bx:=l.getD (boxN l name-1) noBx
def putB (l:List Bx)(b:Bx):List Bx:=l.takeWhile (fun x=>decide (ltS x.name b.name))++b::l.dropWhile (fun x=>decide (ltS x.name b.name))
def zcy (s:Sta)(n:Nat):Int:=if 60<s.tombs.length+n then 8 else if 4294967296<s.nt+n then 13 else 0
def zdb (nt:Int)(box:ByteArray)(clock:Int):List Mg→List Tmb
 | []=>[]
 | m::l=>⟨nt,box,clock,m⟩::zdb (nt+1) box clock l
def zp6 (s:Sta)(box:ByteArray)(l:List Mg):Sta:={ s with tombs:=s.tombs++zdb s.nt box s.clock l,nt:=s.nt+l.length }
def zbe (s:Sta)(name:ByteArray):Sta×Int :=
 if boxN s.boxes name≠0 then (s,7)else if s.boxes.length=16 then (s,8)else if 4294967295<s.nv then (s,13)else ({ s with boxes:=putB s.boxes ⟨name,s.nv,1,[]⟩,nv:=s.nv+1 },0)
def zgn (s:Sta)(name:ByteArray):Sta×Int :=
 if boxN s.boxes name=0 then (s,6)else if name=je then (s,1)else
 let l:=(qz s.boxes name).msgs
 if zcy s l.length≠0 then (s,zcy s l.length)else (zp6 { s with boxes:=s.boxes.eraseIdx (boxN s.boxes name-1) } name l,0)
def zia (l top:ByteArray):Bool:=zid (nats l) (nats top)
def zdc (a:ByteArray)(b:Bx):Bool:=decide (b.name=a) || zia b.name a
def zib (a to_ name:ByteArray):ByteArray:=⟨(to_.data.toList++name.data.toList.drop a.data.toList.length).toArray⟩
def goL (s:Sta)(a to_:ByteArray):List Bx:=(s.boxes.filter (zdc a)).map fun b=>{ b with name:=zib a to_ b.name }
def zd4 (s:Sta)(a:ByteArray):List Bx:=s.boxes.filter fun b=>!zdc a b
def zgo (s:Sta)(a to_:ByteArray):Sta×Int :=
 if boxN s.boxes a=0 then (s,6)else if a=je∨to_=a∨zia to_ a=true then (s,1)else
 if ¬ (∀ b∈goL s a to_,qj b.name=true)then (s,3)else
 if ¬ (∀ b∈goL s a to_,boxN (zd4 s a) b.name=0)then (s,7)else ({ s with boxes:=(goL s a to_).foldl putB (zd4 s a) },0)
def subS (s:Sta)(name:ByteArray):Sta×Int :=
 if ∃ x∈s.subs,x=name then (s,7)else if s.subs.length=16 then (s,8)else
 ({ s with subs:=s.subs.filter (fun x=>decide (ltS x name))++name::s.subs.filter (fun x=>decide (ltS name x)) },0)
def zca (s:Sta)(name:ByteArray):Sta×Int :=
 if ∃ x∈s.subs,x=name then ({ s with subs:=s.subs.filter (fun x=>decide (ltS x name))++s.subs.filter (fun x=>decide (ltS name x)) },0)else (s,6)
def zfg (s:Sta)(name:ByteArray)(b:Bx):Sta:={ s with boxes:=s.boxes.set (boxN s.boxes name-1) b }
noncomputable def zgp (s:Sta)(name:ByteArray)(m:Mg):Sta×Int :=
 if boxN s.boxes name=0 then (s,6)else (zfg s name (addB (qz s.boxes name) m),addE (qz s.boxes name) m)
noncomputable def zgq (s:Sta)(e:Ev):Sta×Int :=
 if boxN s.boxes e.box=0 then (s,6)else (zfg s e.box (zbd (qz s.boxes e.box) e.ids e.mode e.flags),zbn (qz s.boxes e.box) e.ids e.mode e.flags)
noncomputable def zgr (s:Sta)(e:Ev):Sta×Int :=
 if boxN s.boxes e.box=0 then (s,6)else
 if tkE (qz s.boxes e.box) e.ids≠0 then (s,tkE (qz s.boxes e.box) e.ids)else
 let l:=tkM (qz s.boxes e.box) e.ids
 if zcy s l.length≠0 then (s,zcy s l.length)else (zp6 (zfg s e.box (tkB (qz s.boxes e.box) e.ids)) e.box l,0)
def zy5 (l:List Mg)(u:Int):Mg:=l.getD (zh5 l u-1) noMg
noncomputable def zek (b:Bx):List Mg→Bx×Int
 | []=>(b,0)
 | m::l=>if addE b m=0 then zek (addB b m) l else (b,addE b m)
noncomputable def zgs (s:Sta)(e:Ev):Sta×Int :=
 if boxN s.boxes e.box=0∨boxN s.boxes e.to_=0∨zd2 (qz s.boxes e.box).msgs e.ids=false then (s,6)else
 let x:=zek (qz s.boxes e.to_) (e.ids.map (zy5 (qz s.boxes e.box).msgs))
 (zfg s e.to_ x.1,x.2)
def zp7 (s:Sta)(id:Int):Option Tmb:=s.tombs.find? fun t=>decide (t.id=id)
noncomputable def zgt (s:Sta)(id:Int):Sta×Int :=
 match zp7 s id with
 | none=>(s,6)
 | some t => if boxN s.boxes t.box = 0 then (s, 6) else
   ({ zfg s t.box (addB (qz s.boxes t.box) t.msg)with tombs:=s.tombs.filter fun x=>decide (x.id≠id) },addE (qz s.boxes t.box) t.msg)
def zgu (s:Sta)(box:ByteArray)(keep:Int):Sta×Int:=({ s with rules:=setR s.rules box keep },if 16<(setR s.rules box keep).length then 8 else 0)
def zgv (s:Sta)(e:Ev):Sta×Int :=
 if s.holds.length=16 then (s,8)else if 4294967295<s.nh then (s,13)else ({ s with holds:=s.holds++[⟨s.nh,e.box,e.set⟩],nh:=s.nh+1 },0)
def zgw (s:Sta)(id:Int):Sta×Int :=
 if ∃ h∈s.holds,h.id=id then ({ s with holds:=s.holds.filter fun h=>decide (h.id≠id) },0)else (s,6)
def Tmb.tm (t:Tmb):Tm:=⟨t.id,t.box,t.at_,t.msg.uid,t.msg.flags,t.msg.date,none,0,0⟩
def Hol.hh (h:Hol):Hh:=⟨h.id,h.box,none,0,0,h.set⟩
def zy6 (s:Sta)(t:Tmb):Bool:=z0k s.rules (s.holds.map Hol.hh) s.clock t.tm
def zgx (s:Sta)(ids:List Int):Sta×Int :=
 if ¬ (∀ u∈ids,∃ t∈s.tombs,t.id=u)then (s,6)else
 if ¬ (∀ t∈s.tombs,t.id∈ids→zy6 s t=true)then (s,12)else ({ s with tombs:=s.tombs.filter fun t=>decide (t.id ∉ ids) },0)
noncomputable def doS (s:Sta)(e:Ev):Sta×Int :=
 if e.kind=1 then zbe s e.box else if e.kind=2 then zgn s e.box else if e.kind=3 then zgo s e.box e.to_ else
 if e.kind=4 then subS s e.box else if e.kind=5 then zca s e.box else
 if e.kind=6 then zgp s e.box ⟨0,e.flags,e.date,e.body⟩else if e.kind=7 then zgq s e else if e.kind=8 then zgs s e else
 if e.kind=9 then zgr s e else if e.kind=10 then zgt s e.n else if e.kind=11 then zgu s e.box e.n else
 if e.kind=12 then zgv s e else if e.kind=13 then zgw s e.n else if e.kind=14 then zgx s e.ids else (s,0)
def tick (s:Sta)(t:Int):Sta:={ s with clock:=max s.clock t }
open Classical in
noncomputable def appE (s:Sta)(e:Ev):Int:=if OkSta s∧z7 e=true then (doS (tick s e.at_) e).2 else 1
noncomputable def appS (s:Sta)(e:Ev):Sta:=if appE s e=0 then (doS (tick s e.at_) e).1 else s
theorem boxN_none {l:List Bx}{u:ByteArray}:boxN l u=0↔∀ b∈l,b.name≠u:=by
 induction l with
 | nil=>exact⟨fun _ b hb=>(by cases hb),fun _=>rfl⟩
 | cons b l ih =>
   unfold boxN;by_cases h1:b.name=u
   ·rw[if_pos h1]
    exact⟨fun h=>by omega,fun h=>absurd h1 (h b List.mem_cons_self)⟩
   ·rw[if_neg h1]
    by_cases h2:boxN l u=0
    ·rw[if_pos h2]
     refine⟨fun _ x hx=>?_,fun _=>rfl⟩;rcases List.mem_cons.1 hx with rfl|hx
     ·exact h1
     ·exact ih.1 h2 x hx
    ·rw[if_neg h2]
     refine⟨fun h=>by omega,fun h=>absurd (ih.2 fun x hx=>h x (List.mem_cons_of_mem _ hx)) h2⟩
theorem zp8 {l:List Bx}{u:ByteArray}(h:boxN l u≠0):∃ b,l[boxN l u-1]?=some b∧b.name=u:=by
 induction l with
 | nil=>exact absurd rfl h
 | cons b l ih =>
   unfold boxN at h ⊢;by_cases h1:b.name=u
   ·rw[if_pos h1];exact⟨b,rfl,h1⟩
   ·rw[if_neg h1] at h ⊢
    by_cases h2:boxN l u=0
    ·rw[if_pos h2] at h;exact absurd rfl h
    ·rw[if_neg h2]
     obtain⟨a,ha,hu⟩:=ih h2;refine⟨a,?_,hu⟩;obtain⟨j,hj⟩:∃ j,boxN l u=j+1:=⟨boxN l u - 1,by omega⟩;rw[hj] at ha ⊢
     simpa using ha
theorem zkp {l:List Bx}{u:ByteArray}(h:boxN l u≠0):l[boxN l u-1]?=some (qz l u)∧(qz l u).name=u∧qz l u∈l:=by
 obtain⟨b,hb,hu⟩:=zp8 h;have e:qz l u=b:=by unfold qz;simp[hb]
 rw[e];exact⟨hb,hu,List.mem_of_getElem? hb⟩
theorem zp9 {α:Type}{R:α→α→Prop}{l:List α}{i:Nat}{a b:α}(h:l.Pairwise R)(hi:l[i]?=some a)(h1:∀ x,R a x→R b x)(h2:∀ x,R x a→R x b):(l.set i b).Pairwise R:=by
 induction l generalizing i with
 | nil=>simp at hi
 | cons x l ih =>
   rw[List.pairwise_cons] at h;cases i with
   | zero =>
     have e:x=a:=by simpa using hi
     subst e;rw[jB,List.pairwise_cons];exact⟨fun y hy=>h1 y (h.1 y hy),h.2⟩
   | succ i =>
     rw[jC,List.pairwise_cons];have hi':l[i]?=some a:=by simpa using hi
     refine⟨fun y hy=>?_,ih h.2 hi'⟩;rcases List.mem_or_eq_of_mem_set hy with hy|rfl
     ·exact h.1 y hy
     ·exact h2 x (h.1 a (List.mem_of_getElem? hi'))
theorem OkBoxes.set {nv:Int}{l:List Bx}(h:OkBoxes nv l){i:Nat}{a b:Bx}(hi:l[i]?=some a)(hb:OkBx b)(hn:b.name=a.name)(hv:b.valid=a.valid):OkBoxes nv (l.set i b):=by
 have ha:=h.each a (List.mem_of_getElem? hi);refine⟨fun x hx=>?_,zp9 h.rise hi (fun x hx=>by rw[hn];exact hx) (fun x hx=>by rw[hn];exact hx),zp9 h.vals hi (fun x hx=>by rw[hv];exact hx) (fun x hx=>by rw[hv];exact hx),?_⟩
 ·rcases List.mem_or_eq_of_mem_set hx with hx|rfl
  ·exact h.each x hx
  ·exact⟨hb,by rw[hn];exact ha.2.1,by rw[hv];exact ha.2.2⟩
 ·obtain⟨x,hx,he⟩:=h.inbox
  obtain⟨j,hj⟩:=List.mem_iff_getElem?.1 hx;by_cases hij:i=j
  ·subst hij
   have:a=x:=Option.some.inj (hi.symm.trans hj);subst this;exact⟨b,List.mem_of_getElem? (i:=i) (by rw[List.getElem?_set_self (List.getElem?_eq_some_iff.1 hi).1]),by rw[hn];exact he⟩
  ·exact⟨x,List.mem_of_getElem? (i:=j) (by rw[List.getElem?_set_ne hij];exact hj),he⟩
theorem zy7 {c c2 nt nt2:Int}{l:List Tmb}(h:OkTombs c nt l)(hc:c≤c2)(hn:nt≤nt2):OkTombs c2 nt2 l :=
 ⟨fun t ht=>by have:=h.1 t ht;exact⟨this.1,by omega,this.2.2.1,this.2.2.2.1,by omega,this.2.2.2.2.2⟩,h.2⟩
theorem zkq {nt:Int}{box:ByteArray}{clock:Int}{l:List Mg}{t:Tmb}(h:t∈zdb nt box clock l):nt≤t.id∧t.id<nt+l.length∧t.box=box∧t.at_=clock∧t.msg∈l:=by
 induction l generalizing nt with
 | nil=>cases h
 | cons m l ih =>
   unfold zdb at h;rw[List.length_cons];rcases List.mem_cons.1 h with rfl|h
   ·exact⟨Int.le_refl _,by simp;omega,rfl,rfl,List.mem_cons_self⟩
   ·have:=ih h
    exact⟨by omega,by push_cast;omega,this.2.2.1,this.2.2.2.1,List.mem_cons_of_mem _ this.2.2.2.2⟩
theorem zy8 (nt:Int)(box:ByteArray)(clock:Int)(l:List Mg):(zdb nt box clock l).Pairwise (fun a b=>a.id<b.id):=by
 induction l generalizing nt with
 | nil=>exact List.Pairwise.nil
 | cons m l ih =>
   unfold zdb;rw[List.pairwise_cons];exact⟨fun t ht=>by have:=(zkq ht).1;show nt<t.id;omega,ih _⟩
theorem zqa (nt:Int)(box:ByteArray)(clock:Int)(l:List Mg):(zdb nt box clock l).length=l.length:=by
 induction l generalizing nt with
 | nil=>rfl
 | cons m l ih=>unfold zdb;rw[List.length_cons,List.length_cons,ih]
theorem zqb {s:Sta}{n:Nat}(h:zcy s n=0):s.tombs.length+n≤60∧s.nt+n≤4294967296:=by
 unfold zcy at h
 split at h
 ·omega
 ·split at h
  ·omega
  ·omega
theorem zqc {c nt:Int}{l:List Tmb}(h:OkTombs c nt l)(h0:0≤c){box:ByteArray}(hb:qj box=true){ms:List Mg}(hm:∀ m∈ms,okMg m=true)(hn:1≤nt):OkTombs c (nt+ms.length) (l++zdb nt box c ms):=by
 refine⟨fun t ht=>?_,?_⟩
 ·rcases List.mem_append.1 ht with ht|ht
  ·have:=h.1 t ht;exact⟨this.1,by omega,this.2.2⟩
  ·obtain⟨h1,h2,h3,h4,h5⟩:=zkq ht
   exact⟨by omega,h2,by rw[h3];exact hb,by omega,by omega,hm _ h5⟩
 ·rw[List.pairwise_append]
  exact⟨h.2,zy8 _ _ _ _,fun a ha b hb2=>by have h1:=(h.1 a ha).2.1;have h2:=(zkq hb2).1;omega⟩
theorem zqd {c nt:Int}{l:List Tmb}(h:OkTombs c nt l)(p:Tmb→Bool):OkTombs c nt (l.filter p) :=
 ⟨fun t ht=>h.1 t (List.mem_filter.1 ht).1,h.2.filter p⟩
theorem zy9 {nh:Int}{l:List Hol}(h:OkHolds nh l)(p:Hol→Bool):OkHolds nh (l.filter p) :=
 ⟨fun t ht=>h.1 t (List.mem_filter.1 ht).1,h.2.filter p⟩
def OkL {α:Type}(ok:α→Prop)(R:α→α→Prop)(l:List α):Prop:=(∀ x∈l,ok x)∧l.Pairwise R
section
variable {α:Type} {ok:α→Prop} {R:α→α→Prop} {l:List α} {k j:Nat} {a b:α}
theorem OkL.nil:OkL ok R []:=⟨fun x hx=>(by cases hx),List.Pairwise.nil⟩
theorem zqe (tr:∀ a b c,R a b→R b c→R a c):∀ {l:List α} {a:α},l.Pairwise R→(∀ b,l.getLast?=some b→R b a)→(l++[a]).Pairwise R:=by
 intro l a h hl;rw[List.pairwise_append];refine⟨h,List.pairwise_singleton _ _,fun x hx y hy=>?_⟩;rw[List.mem_singleton.1 hy];obtain⟨i,hi⟩:=List.mem_iff_getElem?.1 hx;have hin:=(List.getElem?_eq_some_iff.1 hi).1;by_cases he:i=l.length-1
 ·exact hl x (by rw[List.getLast?_eq_getElem?,← he];exact hi)
 ·have hz:l[l.length-1]?=some l[l.length-1]:=List.getElem?_eq_getElem (by omega)
  have h1:=List.pairwise_iff_getElem.1 h i (l.length-1) hin (by omega) (by omega);rw[(List.getElem?_eq_some_iff.1 hi).2] at h1;exact tr _ _ _ h1 (hl _ (by rw[List.getLast?_eq_getElem?];exact hz))
theorem zcz (h:l[k]?=some a):l.take (k+1)=l.take k++[a]:=by
 rw[List.take_add_one,h];rfl
theorem zqf (hb:l[j]?=some b):(l.take (j+1)).getLast?=some b:=by
 rw[zcz hb,List.getLast?_append];rfl
theorem OkL.first (ha:l[0]?=some a)(h:ok a):OkL ok R (l.take 1):=by
 rw[zcz ha];exact⟨fun x hx=>by simp at hx;rw[hx];exact h,List.pairwise_singleton _ _⟩
theorem OkL.next (tr:∀ a b c,R a b→R b c→R a c)(H:OkL ok R (l.take (j+1)))(hb:l[j]?=some b)(ha:l[j+1]?=some a)(h:ok a)(hr:R b a):OkL ok R (l.take (j+2)):=by
 rw[zcz ha];refine⟨fun x hx=>?_,zqe tr H.2 (fun c hc=>?_)⟩
 ·rcases List.mem_append.1 hx with hx|hx
  ·exact H.1 x hx
  ·rw[List.mem_singleton.1 hx];exact h
 ·rw[zqf hb] at hc
  injection hc with hc;rw[← hc];exact hr
theorem OkL.bad (ha:l[k]?=some a)(h:¬ ok a):¬ OkL ok R l:=fun H=>h (H.1 a (List.mem_of_getElem? ha))
theorem zfh (hb:l[j]?=some b)(ha:l[j+1]?=some a)(h:¬ R b a):¬ l.Pairwise R:=fun H=>by
 obtain⟨h1,e1⟩:=List.getElem?_eq_some_iff.1 hb;obtain⟨h2,e2⟩:=List.getElem?_eq_some_iff.1 ha;have:=List.pairwise_iff_getElem.1 H j (j+1) h1 h2 (by omega);rw[e1,e2] at this;exact h this
theorem OkL.low (hb:l[j]?=some b)(ha:l[j+1]?=some a)(h:¬ R b a):¬ OkL ok R l:=fun H=>zfh hb ha h H.2
theorem OkL.all {n:Nat}(H:OkL ok R (l.take k))(hl:l.length=n)(hk:¬ k<n):OkL ok R l:=by
 rwa [List.take_of_length_le (by omega)] at H
end
open Classical in
noncomputable def okS (s:Sta):Bool:=decide (OkSta s)
theorem zza {s:Sta}(h:¬ OkSta s):okS s=false:=@decide_eq_false _ (Classical.propDecidable _) h
theorem zqg {s:Sta}(h:OkSta s):okS s=true:=@decide_eq_true _ (Classical.propDecidable _) h
theorem zzb {s:Sta}(h:okS s=true):OkSta s:=@of_decide_eq_true _ (Classical.propDecidable _) h
theorem zzc {s:Sta}{b:Bool}(h:OkSta s↔b=true):okS s=b:=by
 cases b
 ·exact zza fun q=>by have:=h.1 q;cases this
 ·exact zqg (h.2 rfl)
theorem zzd {x b:Bx}{l:List Bx}(h:ltS x.name b.name):putB (x::l) b=x::putB l b:=by
 unfold putB;rw[List.takeWhile_cons,List.dropWhile_cons];simp[h]
theorem zze {x b:Bx}{l:List Bx}(h:¬ ltS x.name b.name):putB (x::l) b=b::x::l:=by
 unfold putB;rw[List.takeWhile_cons,List.dropWhile_cons];simp[h]
theorem zfi (l:List Bx)(b:Bx):(putB l b).Perm (b::l):=by
 unfold putB;refine List.perm_middle.trans ?_;rw[List.takeWhile_append_dropWhile]
theorem mem_putB {l:List Bx}{b x:Bx}:x∈putB l b↔x=b∨x∈l:=by rw[(zfi l b).mem_iff,List.mem_cons]
theorem zzf (l:List Bx)(b:Bx):(putB l b).length=l.length+1:=by rw[(zfi l b).length_eq,List.length_cons]
theorem zkr {l:List Bx}{b:Bx}(h:l.Pairwise (fun a b=>ltS a.name b.name))(hn:∀ x∈l,x.name≠b.name):(putB l b).Pairwise (fun a b=>ltS a.name b.name):=by
 induction l with
 | nil=>exact List.pairwise_singleton ..
 | cons x l ih =>
   rw[List.pairwise_cons] at h;by_cases hx:ltS x.name b.name
   ·rw[zzd hx,List.pairwise_cons]
    refine⟨fun y hy=>?_,ih h.2 fun y hy=>hn y (List.mem_cons_of_mem _ hy)⟩;rcases mem_putB.1 hy with rfl|hy
    ·exact hx
    ·exact h.1 y hy
   ·have hb : ltS b.name x.name := by
     rcases zfm x.name b.name with h1|h1|h1
     ·exact absurd h1 hx
     ·exact absurd h1 (hn x List.mem_cons_self)
     ·exact h1
    rw[zze hx,List.pairwise_cons,List.pairwise_cons];refine⟨fun y hy=>?_,h⟩;rcases List.mem_cons.1 hy with rfl|hy
    ·exact hb
    ·exact zbp hb (h.1 y hy)
theorem zqh:∀ (g l:List Bx),l.Pairwise (fun a b=>ltS a.name b.name)→g.Pairwise (fun a b=>a.name≠b.name)→(∀ x∈g,∀ y∈l,y.name≠x.name) →
 (g.foldl putB l).Pairwise (fun a b=>ltS a.name b.name)∧(g.foldl putB l).Perm (g++l)
 | [],l,hl,_,_=>⟨hl,List.Perm.refl _⟩
 | x :: g, l, hl, hg, hd => by
   rw[List.pairwise_cons] at hg;rw[List.foldl_cons];have hx:∀ y∈l,y.name≠x.name:=hd x List.mem_cons_self
   obtain⟨h1,h2⟩:=zqh g (putB l x) (zkr hl hx) hg.2 (fun z hz y hy=>by
    rcases mem_putB.1 hy with rfl|hy
    ·exact hg.1 z hz
    ·exact hd z (List.mem_cons_of_mem _ hz) y hy)
   refine⟨h1,h2.trans ?_⟩;exact((zfi l x).append_left g).trans List.perm_middle
theorem OkSta.tick {s:Sta}(h:OkSta s){t:Int}(ht:tmB t=true):OkSta (tick s t):=by
 unfold tmB at ht;have ht:=of_decide_eq_true ht;have hc:=h.clock;refine⟨?_,h.nv,h.nt,h.nh,h.lens,h.boxes,h.subs,h.rules,zy7 h.tombs ?_ (Int.le_refl _),h.holds⟩
 ·show 0≤max s.clock t∧max s.clock t≤_;omega
 ·show s.clock≤max s.clock t;omega
theorem zzg {s:Sta}(h:OkSta s){name:ByteArray}(hn:qj name=true)(he:(zbe s name).2=0):OkSta (zbe s name).1:=by
 unfold zbe at he ⊢;by_cases h1:boxN s.boxes name=0
 ·have h1':¬ boxN s.boxes name≠0:=by omega
  rw[if_neg h1'] at he ⊢;by_cases h2:s.boxes.length=16
  ·rw[if_pos h2] at he;simp at he
  ·rw[if_neg h2] at he ⊢
   by_cases h3:4294967295<s.nv
   ·rw[if_pos h3] at he;simp at he
   ·rw[if_neg h3]
    have hnv:=h.nv;have hfree:=boxN_none.1 h1;have hl:=h.lens;refine⟨h.clock,⟨by show 1≤s.nv+1;have:=hnv.1;omega,by show s.nv+1≤_;omega⟩,h.nt,h.nh,⟨by show(putB _ _).length≤16;rw[zzf];omega,hl.2⟩,?_,h.subs,h.rules,h.tombs,h.holds⟩;have hb:=h.boxes;refine⟨fun b hb2=>?_,zkr hb.rise (fun x hx=>hfree x hx),?_,?_⟩
    ·rcases mem_putB.1 hb2 with rfl|hb2
     ·refine⟨⟨hnv.1,by show s.nv≤_;omega,by show(1:Int)≤1;omega,by show(1:Int)≤_;omega,by show(0:Nat)≤40;omega,(fun m hm=>by cases hm),List.Pairwise.nil⟩,hn,by show s.nv<s.nv+1;omega⟩
     ·have:=hb.each b hb2
      exact⟨this.1,this.2.1,by have:=this.2.2;show b.valid<s.nv+1;omega⟩
    ·rw[(zfi s.boxes ⟨name,s.nv,1,[]⟩).pairwise_iff (fun {x y} hxy=>Ne.symm hxy),List.pairwise_cons]
     exact⟨fun x hx=>by have:=(hb.each x hx).2.2;show s.nv≠x.valid;omega,hb.vals⟩
    ·obtain⟨x,hx,he2⟩:=hb.inbox
     exact⟨x,mem_putB.2 (.inr hx),he2⟩
 ·rw[if_pos h1] at he;simp at he
theorem zqi {b:Bx}(h:OkBx b):∀ m∈b.msgs,okMg m=true:=fun m hm=>(h.2.2.2.2.2.1 m hm).1
theorem zzh {s:Sta}(h:OkSta s){name:ByteArray}(hn:qj name=true)(he:(zgn s name).2=0):OkSta (zgn s name).1:=by
 unfold zgn at he ⊢;by_cases h1:boxN s.boxes name=0
 ·rw[if_pos h1] at he;simp at he
 ·rw[if_neg h1] at he ⊢
  by_cases h2:name=je
  ·rw[if_pos h2] at he;simp at he
  ·rw[if_neg h2] at he ⊢
   simp only at he ⊢;by_cases h3:zcy s (qz s.boxes name).msgs.length≠0
   ·rw[if_pos h3] at he;exact absurd he h3
   ·rw[if_neg h3]
    have h3':zcy s (qz s.boxes name).msgs.length=0:=by omega
    obtain⟨q1,q2⟩:=zqb h3';obtain⟨g1,g2,g3⟩:=zkp h1;have hb:=h.boxes;have hl:=h.lens;have hsub:(s.boxes.eraseIdx (boxN s.boxes name-1)).Sublist s.boxes:=List.eraseIdx_sublist ..;refine⟨h.clock,h.nv,⟨by show 1≤s.nt+_;have:=h.nt.1;omega,by show s.nt+_≤_;omega⟩,h.nh,⟨Nat.le_trans hsub.length_le hl.1,hl.2.1,hl.2.2.1,by show(s.tombs++_).length≤60;rw[List.length_append,zqa];omega,hl.2.2.2.2⟩,?_,h.subs,h.rules,zqc h.tombs h.clock.1 hn (zqi (hb.each _ g3).1) h.nt.1,h.holds⟩;refine⟨fun b hb2=>hb.each b (hsub.subset hb2),hb.rise.sublist hsub,hb.vals.sublist hsub,?_⟩;obtain⟨x,hx,he2⟩:=hb.inbox;obtain⟨j,hj⟩:=List.mem_iff_getElem?.1 hx;refine⟨x,?_,he2⟩;have hne:j≠boxN s.boxes name-1:=fun e=>by
     rw[e,g1] at hj;have:=Option.some.inj hj;rw[← this,g2] at he2;exact h2 he2
    exact List.mem_eraseIdx_iff_getElem?.2 ⟨j,hne,hj⟩
theorem zgy {s:Sta}(h:OkSta s){name:ByteArray}(h1:boxN s.boxes name≠0){b:Bx}(hb:OkBx b)(hn:b.name=(qz s.boxes name).name)(hv:b.valid=(qz s.boxes name).valid):OkSta (zfg s name b):=by
 obtain⟨g1,g2,g3⟩:=zkp h1;exact⟨h.clock,h.nv,h.nt,h.nh,⟨by show(s.boxes.set _ _).length≤16;rw[List.length_set];exact h.lens.1,h.lens.2⟩,h.boxes.set g1 hb hn hv,h.subs,h.rules,h.tombs,h.holds⟩
theorem zfj {b:Bx}{m:Mg}(h:addE b m=0):(addB b m).name=b.name∧(addB b m).valid=b.valid:=by rw[(zh6 h).1];exact⟨rfl,rfl⟩
theorem zzi {s:Sta}(h:OkSta s){name:ByteArray}{m:Mg}(he:(zgp s name m).2=0):OkSta (zgp s name m).1:=by
 unfold zgp at he ⊢;by_cases h1:boxN s.boxes name=0
 ·rw[if_pos h1] at he;simp at he
 ·rw[if_neg h1] at he ⊢
  exact zgy h h1 (zkf he) (zfj he).1 (zfj he).2
theorem zzj {m g f:Int}(h:apE 0 m g=0)(hf:okF f=true):okF (apV f m g)=true:=by
 unfold apE at h
 split at h
 ·rename_i hq
  obtain⟨_,hg,hm0,hm2⟩:=hq;unfold apV;rw[if_pos ⟨hf,hg⟩];have hf':0≤f∧f≤31:=by unfold okF at hf;exact of_decide_eq_true hf
  have hg':0≤g∧g≤31:=by unfold okF at hg;exact of_decide_eq_true hg
  obtain⟨a,rfl⟩:=Int.eq_ofNat_of_zero_le hf'.1;obtain⟨c,rfl⟩:=Int.eq_ofNat_of_zero_le hg'.1;have ha:a≤31:=by omega
  have hc:c≤31:=by omega
  have all:∀ x:Fin 32,∀ y:Fin 32,okF (bits .or .i64 (x.val:Int) (y.val:Int))=true∧okF (bits .andNot .i64 (x.val:Int) (y.val:Int))=true:=by decide +kernel
  have:=all ⟨a,by omega⟩ ⟨c,by omega⟩
  split
  ·exact hg
  ·split
   ·exact this.1
   ·split
    ·exact this.2
    ·omega
 ·omega
theorem zzk {b:Bx}{ids:List Int}{mode flags:Int}(h:zbn b ids mode flags=0):OkBx (zbd b ids mode flags):=by
 obtain⟨hb,ha,_⟩:=zym h;rw[zgi h];obtain⟨h1,h2,h3,h4,h5,h6,h7⟩:=hb;have hu:∀ m,(if m.uid∈ids then setF mode flags m else m).uid=m.uid:=fun m=>by split<;>rfl
 refine⟨h1,h2,h3,h4,by show(zc9 _ _ _ _).length≤40;unfold zc9;rw[List.length_map];exact h5,?_,?_⟩
 ·intro x hx
  obtain⟨m,hm,rfl⟩:=List.mem_map.1 hx;have hk:=h6 m hm;have ho:=zfb hk.1;refine⟨?_,by rw[hu];exact hk.2⟩
  split
  ·exact zke ⟨ho.1,ho.2.1,zzj ha ho.2.2.1,ho.2.2.2⟩
  ·exact hk.1
 ·show(zc9 _ _ _ _).Pairwise _
  unfold zc9;rw[List.pairwise_map];exact h7.imp fun {a c} hac=>by rw[hu,hu];exact hac
theorem zzl {b:Bx}{ids:List Int}(h:tkE b ids=0):OkBx (tkB b ids):=by
 obtain⟨h1,h2,h3,h4,h5,h6,h7⟩:=(zpm h).1;rw[(zfc h).1];refine⟨h1,h2,h3,h4,Nat.le_trans (zyn _ _) h5,fun m hm=>h6 m (List.mem_filter.1 hm).1,h7.filter _⟩
theorem zzm {s:Sta}(h:OkSta s){e:Ev}(he:(zgq s e).2=0):OkSta (zgq s e).1:=by
 unfold zgq at he ⊢;by_cases h1:boxN s.boxes e.box=0
 ·rw[if_pos h1] at he;simp at he
 ·rw[if_neg h1] at he ⊢
  exact zgy h h1 (zzk he) (by rw[zgi he]) (by rw[zgi he])
theorem zzn {s:Sta}(h:OkSta s){e:Ev}(hn:qj e.box=true)(he:(zgr s e).2=0):OkSta (zgr s e).1:=by
 unfold zgr at he ⊢;by_cases h1:boxN s.boxes e.box=0
 ·rw[if_pos h1] at he;simp at he
 ·rw[if_neg h1] at he ⊢
  by_cases h2:tkE (qz s.boxes e.box) e.ids≠0
  ·rw[if_pos h2] at he;exact absurd he h2
  ·rw[if_neg h2] at he ⊢
   simp only at he ⊢;have h2':tkE (qz s.boxes e.box) e.ids=0:=by omega
   by_cases h3:zcy s (tkM (qz s.boxes e.box) e.ids).length≠0
   ·rw[if_pos h3] at he;exact absurd he h3
   ·rw[if_neg h3]
    have h3':zcy s (tkM (qz s.boxes e.box) e.ids).length=0:=by omega
    obtain⟨q1,q2⟩:=zqb h3';have hS:=zgy h h1 (zzl h2') (by rw[(zfc h2').1]) (by rw[(zfc h2').1]);have hm:∀ m∈tkM (qz s.boxes e.box) e.ids,okMg m=true:=by
     rw[(zfc h2').2];exact fun m hm=>zqi (zpm h2').1 m (List.mem_filter.1 hm).1
    have hl:=hS.lens;exact⟨hS.clock,hS.nv,⟨by show 1≤s.nt+_;have:=h.nt.1;omega,by show s.nt+_≤_;omega⟩,hS.nh,⟨hl.1,hl.2.1,hl.2.2.1,by show(s.tombs++_).length≤60;rw[List.length_append,zqa];omega,hl.2.2.2.2⟩,hS.boxes,hS.subs,hS.rules,zqc hS.tombs hS.clock.1 hn hm hS.nt.1,hS.holds⟩
theorem zzo {b:Bx}:∀ {l:List Mg},OkBx b→(zek b l).2=0→OkBx (zek b l).1∧(zek b l).1.name=b.name∧(zek b l).1.valid=b.valid:=by
 intro l
 induction l generalizing b with
 | nil=>exact fun h _=>⟨h,rfl,rfl⟩
 | cons m l ih =>
   intro h he;unfold zek at he ⊢;by_cases h1:addE b m=0
   ·rw[if_pos h1] at he ⊢
    obtain⟨a1,a2,a3⟩:=ih (zkf h1) he;exact⟨a1,a2.trans (zfj h1).1,a3.trans (zfj h1).2⟩
   ·rw[if_neg h1] at he;exact absurd he h1
theorem zzp {s:Sta}(h:OkSta s){e:Ev}(he:(zgs s e).2=0):OkSta (zgs s e).1:=by
 unfold zgs at he ⊢;by_cases h1:boxN s.boxes e.box=0∨boxN s.boxes e.to_=0∨zd2 (qz s.boxes e.box).msgs e.ids=false
 ·rw[if_pos h1] at he;simp at he
 ·rw[if_neg h1] at he ⊢
  simp only at he ⊢;have h2:boxN s.boxes e.to_≠0:=fun e2=>h1 (.inr (.inl e2));obtain⟨a1,a2,a3⟩:=zzo (h.boxes.each _ (zkp h2).2.2).1 he;exact zgy h h2 a1 a2 a3
theorem zzq {s:Sta}(h:OkSta s){id:Int}(he:(zgt s id).2=0):OkSta (zgt s id).1:=by
 unfold zgt at he ⊢;cases hq:zp7 s id with
 | none=>rw[hq] at he;simp at he
 | some t =>
   rw[hq] at he;simp only at he ⊢;by_cases h1:boxN s.boxes t.box=0
   ·rw[if_pos h1] at he;simp at he
   ·rw[if_neg h1] at he ⊢
    have hS:=zgy h h1 (zkf he) (zfj he).1 (zfj he).2;have hl:=hS.lens;exact⟨hS.clock,hS.nv,hS.nt,hS.nh,⟨hl.1,hl.2.1,hl.2.2.1,Nat.le_trans (List.length_filter_le ..) hl.2.2.2.1,hl.2.2.2.2⟩,hS.boxes,hS.subs,hS.rules,zqd hS.tombs _,hS.holds⟩
theorem zzr {s:Sta}(h:OkSta s){box:ByteArray}{keep:Int}(hb:qj box=true)(hk:tmB keep=true)(he:(zgu s box keep).2=0):OkSta (zgu s box keep).1:=by
 unfold zgu at he ⊢;simp only at he;have hlen:(setR s.rules box keep).length≤16:=by
  split at he
  ·omega
  ·omega
 have hk:=of_decide_eq_true hk;have hl:=h.lens;refine⟨h.clock,h.nv,h.nt,h.nh,⟨hl.1,hl.2.1,hlen,hl.2.2.2⟩,h.boxes,h.subs,⟨fun r hr=>?_,z0h h.rules.2 _ _⟩,h.tombs,h.holds⟩;rcases mem_setR.1 hr with ⟨hr,_⟩|⟨h0,rfl⟩
 ·exact h.rules.1 r hr
 ·exact⟨hb,by show 1≤keep;omega,hk.2⟩
theorem zzs {s:Sta}(h:OkSta s){e:Ev}(hb:qj e.box=true)(hs:setB e.set=true)(he:(zgv s e).2=0):OkSta (zgv s e).1:=by
 unfold zgv at he ⊢;by_cases h1:s.holds.length=16
 ·rw[if_pos h1] at he;simp at he
 ·rw[if_neg h1] at he ⊢
  by_cases h2:4294967295<s.nh
  ·rw[if_pos h2] at he;simp at he
  ·rw[if_neg h2]
   have hl:=h.lens;have hn:=h.nh;have hs:=of_decide_eq_true hs;refine⟨h.clock,h.nv,h.nt,⟨by show 1≤s.nh+1;have:=hn.1;omega,by show s.nh+1≤_;omega⟩,⟨hl.1,hl.2.1,hl.2.2.1,hl.2.2.2.1,by show(s.holds++_).length≤16;rw[List.length_append];simp;omega⟩,h.boxes,h.subs,h.rules,h.tombs,⟨fun x hx=>?_,?_⟩⟩
   ·rcases List.mem_append.1 hx with hx|hx
    ·have:=h.holds.1 x hx;exact⟨this.1,by show x.id<s.nh+1;omega,this.2.2⟩
    ·rw[List.mem_singleton.1 hx]
     refine⟨hn.1,by show s.nh<s.nh+1;omega,hb,fun hne=>?_⟩;unfold jr;have:1≤e.set.length:=List.length_pos_iff.2 hne;exact decide_eq_true ⟨this,hs.1,hs.2⟩
   ·rw[List.pairwise_append]
    exact⟨h.holds.2,List.pairwise_singleton ..,fun a ha b hb=>by rw[List.mem_singleton.1 hb];exact(h.holds.1 a ha).2.1⟩
theorem zzt {s:Sta}(h:OkSta s){id:Int}(he:(zgw s id).2=0):OkSta (zgw s id).1:=by
 unfold zgw at he ⊢
 split
 ·have hl:=h.lens
  exact⟨h.clock,h.nv,h.nt,h.nh,⟨hl.1,hl.2.1,hl.2.2.1,hl.2.2.2.1,Nat.le_trans (List.length_filter_le ..) hl.2.2.2.2⟩,h.boxes,h.subs,h.rules,h.tombs,zy9 h.holds _⟩
 ·rename_i hq;rw[if_neg hq] at he;simp at he
theorem zzu {s:Sta}(h:OkSta s){ids:List Int}(he:(zgx s ids).2=0):OkSta (zgx s ids).1:=by
 unfold zgx at he ⊢
 split
 ·rename_i hq;rw[if_pos hq] at he;simp at he
 ·rename_i hq
  rw[if_neg hq] at he
  split
  ·rename_i hq2;rw[if_pos hq2] at he;simp at he
  ·have hl:=h.lens
   exact⟨h.clock,h.nv,h.nt,h.nh,⟨hl.1,hl.2.1,hl.2.2.1,Nat.le_trans (List.length_filter_le ..) hl.2.2.2.1,hl.2.2.2.2⟩,h.boxes,h.subs,h.rules,zqd h.tombs _,h.holds⟩
theorem zzv {s:Sta}(h:OkSta s){name:ByteArray}(hn:qj name=true)(he:(subS s name).2=0):OkSta (subS s name).1:=by
 unfold subS at he ⊢;by_cases h1:∃ x∈s.subs,x=name
 ·rw[if_pos h1] at he;simp at he
 ·rw[if_neg h1] at he ⊢
  by_cases h2:s.subs.length=16
  ·rw[if_pos h2] at he;simp at he
  ·rw[if_neg h2]
   have hl:=h.lens;have hlen:(s.subs.filter (fun x=>decide (ltS x name))).length+(s.subs.filter (fun x=>decide (ltS name x))).length≤s.subs.length:=by
    have e:s.subs.filter (fun x=>decide (ltS name x))=(s.subs.filter (fun x=>decide (ltS name x))).filter (fun x=>!decide (ltS x name)):=by
     rw[List.filter_filter];refine List.filter_congr fun x hx=>?_;by_cases hq:ltS name x
     ·have:=zd5 hq;simp[hq,this]
     ·simp[hq]
    have e2:=(List.filter_append_perm (fun x=>decide (ltS x name)) s.subs).length_eq;rw[List.length_append] at e2;have e3:(s.subs.filter (fun x=>decide (ltS name x))).length≤(s.subs.filter (fun x=>!decide (ltS x name))).length:=by
     rw[e,List.filter_filter];have e4:s.subs.filter (fun a=>(!decide (ltS a name)) && decide (ltS name a))=(s.subs.filter (fun x=>!decide (ltS x name))).filter (fun x=>decide (ltS name x)):=by
      rw[List.filter_filter];exact List.filter_congr fun x hx=>Bool.and_comm _ _
     rw[e4];exact List.length_filter_le ..
    omega
   refine⟨h.clock,h.nv,h.nt,h.nh,⟨hl.1,by show(_++_::_).length≤16;rw[List.length_append,List.length_cons];omega,hl.2.2⟩,h.boxes,⟨fun x hx=>?_,?_⟩,h.rules,h.tombs,h.holds⟩
   ·rcases List.mem_append.1 hx with hx|hx
    ·exact h.subs.1 x (List.mem_filter.1 hx).1
    ·rcases List.mem_cons.1 hx with rfl|hx
     ·exact hn
     ·exact h.subs.1 x (List.mem_filter.1 hx).1
   ·rw[List.pairwise_append,List.pairwise_cons]
    refine⟨h.subs.2.filter _,⟨fun x hx=>of_decide_eq_true (List.mem_filter.1 hx).2,h.subs.2.filter _⟩,fun a ha b hb=>?_⟩;have h1:=of_decide_eq_true (List.mem_filter.1 ha).2;rcases List.mem_cons.1 hb with rfl|hb
    ·exact h1
    ·exact zbp h1 (of_decide_eq_true (List.mem_filter.1 hb).2)
theorem zzw {s:Sta}(h:OkSta s){name:ByteArray}(he:(zca s name).2=0):OkSta (zca s name).1:=by
 unfold zca at he ⊢
 split
 ·have hl:=h.lens
  have e:s.subs.filter (fun x=>decide (ltS x name))++s.subs.filter (fun x=>decide (ltS name x))=s.subs.filter (fun x=>decide (ltS x name))++s.subs.filter (fun x=>decide (ltS name x)):=rfl;have hlen:(s.subs.filter (fun x=>decide (ltS x name))++s.subs.filter (fun x=>decide (ltS name x))).length≤s.subs.length:=by
   have e2:=(List.filter_append_perm (fun x=>decide (ltS x name)) s.subs).length_eq;rw[List.length_append] at e2 ⊢;have e3:(s.subs.filter (fun x=>decide (ltS name x))).length≤(s.subs.filter (fun x=>!decide (ltS x name))).length:=by
    have e4:s.subs.filter (fun x=>decide (ltS name x))=(s.subs.filter (fun x=>!decide (ltS x name))).filter (fun x=>decide (ltS name x)):=by
     rw[List.filter_filter];refine List.filter_congr fun x hx=>?_;by_cases hq:ltS name x
     ·have:=zd5 hq;simp[hq,this]
     ·simp[hq]
    rw[e4];exact List.length_filter_le ..
   omega
  refine⟨h.clock,h.nv,h.nt,h.nh,⟨hl.1,Nat.le_trans hlen hl.2.1,hl.2.2⟩,h.boxes,⟨fun x hx=>?_,?_⟩,h.rules,h.tombs,h.holds⟩
  ·rcases List.mem_append.1 hx with hx|hx<;>exact h.subs.1 x (List.mem_filter.1 hx).1
  ·rw[List.pairwise_append]
   exact⟨h.subs.2.filter _,h.subs.2.filter _,fun a ha b hb=>zbp (of_decide_eq_true (List.mem_filter.1 ha).2) (of_decide_eq_true (List.mem_filter.1 hb).2)⟩
 ·rename_i hq;rw[if_neg hq] at he;simp at he
theorem zzx {l t:List Nat}(h:zid l t=true):t <+: l:=by
 unfold zid at h;have h:=of_decide_eq_true h;unfold zkw at h
 split at h
 ·unfold zqp at h
  obtain⟨i,_,hi⟩:=List.mem_filterMap.1 h
  split at hi
  ·rw[← Option.some.inj hi];exact List.take_prefix ..
  ·cases hi
 ·cases h
theorem zqj {a:ByteArray}{b:Bx}(h:zdc a b=true):a.data.toList <+: b.name.data.toList:=by
 unfold zdc at h;rw[Bool.or_eq_true] at h;rcases h with h|h
 ·rw[of_decide_eq_true h];exact List.prefix_refl _
 ·have hp:=zzx h
  unfold nats at hp;rw[List.prefix_iff_eq_take] at hp ⊢;have hq:(a.data.toList).map (·.toNat)=(b.name.data.toList.take a.data.toList.length).map (·.toNat):=by
   rw[List.map_take]
   simpa using hp
  exact(List.map_inj_right (fun x y hxy=>UInt8.toNat_inj.1 hxy)).1 hq
theorem zzy {a to_:ByteArray}{x y:Bx}(hx:zdc a x=true)(hy:zdc a y=true)(h:zib a to_ x.name=zib a to_ y.name):x.name=y.name:=by
 obtain⟨u,hu⟩:=zqj hx;obtain⟨v,hv⟩:=zqj hy;have h1:to_.data.toList++x.name.data.toList.drop a.data.toList.length=to_.data.toList++y.name.data.toList.drop a.data.toList.length:=by
  have:=congrArg (fun z:ByteArray=>z.data.toList) h
  simpa [zib] using this
 have h2:=List.append_cancel_left h1;rw[← hu,← hv,List.drop_left,List.drop_left] at h2;exact zqv (by rw[← hu,← hv,h2])
theorem zzz {a:ByteArray}(ha:a≠je){b:Bx}(hb:b.name=je):zdc a b=false:=by
 unfold zdc;rw[hb,decide_eq_false (fun e=>ha e.symm),Bool.false_or];unfold zia zid;have e:zkw (nats je)=[]:=by decide +kernel
 rw[e];simp
theorem zz0 {s:Sta}(h:OkSta s){a to_:ByteArray}(he:(zgo s a to_).2=0):OkSta (zgo s a to_).1:=by
 unfold zgo at he ⊢;by_cases h1:boxN s.boxes a=0
 ·rw[if_pos h1] at he;simp at he
 ·rw[if_neg h1] at he ⊢
  by_cases h2:a=je∨to_=a∨zia to_ a=true
  ·rw[if_pos h2] at he;simp at he
  ·rw[if_neg h2] at he ⊢
   by_cases h3:¬ (∀ b∈goL s a to_,qj b.name=true)
   ·rw[if_pos h3] at he;simp at he
   ·rw[if_neg h3] at he ⊢
    by_cases h4:¬ (∀ b∈goL s a to_,boxN (zd4 s a) b.name=0)
    ·rw[if_pos h4] at he;simp at he
    ·rw[if_neg h4]
     have h3':=Classical.not_not.1 h3;have h4':=Classical.not_not.1 h4;have ha:a≠je:=fun e=>h2 (.inl e);have hb:=h.boxes;have hl:=h.lens;have hgo:(goL s a to_).Pairwise (fun x y=>x.name≠y.name):=by
      unfold goL;rw[List.pairwise_map];refine List.Pairwise.imp_of_mem (R:=fun x y=>ltS x.name y.name) (fun {x y} hx hy hxy hn=>?_) (hb.rise.filter _);exact zig hxy (zzy (List.mem_filter.1 hx).2 (List.mem_filter.1 hy).2 hn)
     obtain⟨r1,r2⟩:=zqh (goL s a to_) (zd4 s a) (hb.rise.filter _) hgo (fun x hx y hy=>boxN_none.1 (h4' x hx) y hy);have hp:=List.filter_append_perm (zdc a) s.boxes;have hlen:((goL s a to_).foldl putB (zd4 s a)).length=s.boxes.length:=by
      rw[r2.length_eq,← hp.length_eq,List.length_append,List.length_append];unfold goL zd4;rw[List.length_map]
     refine⟨h.clock,h.nv,h.nt,h.nh,⟨by show((goL s a to_).foldl putB (zd4 s a)).length≤16;rw[hlen];exact hl.1,hl.2⟩,⟨fun x hx=>?_,r1,?_,?_⟩,h.subs,h.rules,h.tombs,h.holds⟩
     ·rcases List.mem_append.1 (r2.mem_iff.1 hx)with hx|hx
      ·have hx0:=hx
       unfold goL at hx;obtain⟨b,hb2,rfl⟩:=List.mem_map.1 hx;have:=hb.each b (List.mem_filter.1 hb2).1;exact⟨this.1,h3' _ hx0,this.2.2⟩
      ·exact hb.each x (List.mem_filter.1 hx).1
     ·rw[r2.pairwise_iff (fun {x y} hxy=>Ne.symm hxy),List.pairwise_append]
      have hv:=(hp.pairwise_iff (fun {x y} hxy=>Ne.symm hxy)).2 hb.vals;rw[List.pairwise_append] at hv;refine⟨?_,hv.2.1,fun x hx y hy=>?_⟩
      ·unfold goL
       rw[List.pairwise_map];exact hv.1
      ·unfold goL at hx
       obtain⟨b,hb2,rfl⟩:=List.mem_map.1 hx;exact hv.2.2 b hb2 y hy
     ·obtain⟨x,hx,he2⟩:=hb.inbox
      refine⟨x,r2.mem_iff.2 (List.mem_append.2 (.inr ?_)),he2⟩;unfold zd4;exact List.mem_filter.2 ⟨hx,by rw[zzz ha he2];rfl⟩
theorem zks {e:Ev}(h:z7 e=true):(1≤e.kind∧e.kind≤14)∧tmB e.at_=true∧∀ c∈zg e.kind,okQ e c=true:=by
 unfold z7 at h;simp only[Bool.and_eq_true,List.all_eq_true] at h;refine⟨?_,h.2.1,h.2.2.1⟩;have h1:=h.1;unfold zg at h1;by_cases hk:1≤e.kind∧e.kind≤14
 ·exact hk
 ·rw[if_neg hk] at h1;simp at h1
theorem do_1 {s:Sta}{e:Ev}(h:e.kind=1):doS s e=zbe s e.box:=by unfold doS;simp[h]
theorem do_2 {s:Sta}{e:Ev}(h:e.kind=2):doS s e=zgn s e.box:=by unfold doS;simp[h]
theorem do_3 {s:Sta}{e:Ev}(h:e.kind=3):doS s e=zgo s e.box e.to_:=by unfold doS;simp[h]
theorem do_4 {s:Sta}{e:Ev}(h:e.kind=4):doS s e=subS s e.box:=by unfold doS;simp[h]
theorem do_5 {s:Sta}{e:Ev}(h:e.kind=5):doS s e=zca s e.box:=by unfold doS;simp[h]
theorem do_6 {s:Sta}{e:Ev}(h:e.kind=6):doS s e=zgp s e.box ⟨0,e.flags,e.date,e.body⟩:=by unfold doS;simp[h]
theorem do_7 {s:Sta}{e:Ev}(h:e.kind=7):doS s e=zgq s e:=by unfold doS;simp[h]
theorem do_8 {s:Sta}{e:Ev}(h:e.kind=8):doS s e=zgs s e:=by unfold doS;simp[h]
theorem do_9 {s:Sta}{e:Ev}(h:e.kind=9):doS s e=zgr s e:=by unfold doS;simp[h]
theorem zz1 {s:Sta}{e:Ev}(h:e.kind=10):doS s e=zgt s e.n:=by unfold doS;simp[h]
theorem zz2 {s:Sta}{e:Ev}(h:e.kind=11):doS s e=zgu s e.box e.n:=by unfold doS;simp[h]
theorem zz3 {s:Sta}{e:Ev}(h:e.kind=12):doS s e=zgv s e:=by unfold doS;simp[h]
theorem zz4 {s:Sta}{e:Ev}(h:e.kind=13):doS s e=zgw s e.n:=by unfold doS;simp[h]
theorem zz5 {s:Sta}{e:Ev}(h:e.kind=14):doS s e=zgx s e.ids:=by unfold doS;simp[h]
theorem zz6 {s:Sta}(h:OkSta s){e:Ev}(hr:z7 e=true)(he:(doS s e).2=0):OkSta (doS s e).1:=by
 obtain⟨hk,_,hp⟩:=zks hr;have box:(98:Nat)∈zg e.kind→qj e.box=true:=fun hm=>by
  have:=hp 98 hm;unfold okQ at this;simpa [qj] using this
 rcases zfd hk with hq|hq|hq|hq|hq|hq|hq|hq|hq|hq|hq|hq|hq|hq<;>rw[hq] at box hp
 ·rw[do_1 hq] at he ⊢;exact zzg h (box (by decide)) he
 ·rw[do_2 hq] at he ⊢;exact zzh h (box (by decide)) he
 ·rw[do_3 hq] at he ⊢;exact zz0 h he
 ·rw[do_4 hq] at he ⊢;exact zzv h (box (by decide)) he
 ·rw[do_5 hq] at he ⊢;exact zzw h he
 ·rw[do_6 hq] at he ⊢;exact zzi h he
 ·rw[do_7 hq] at he ⊢;exact zzm h he
 ·rw[do_8 hq] at he ⊢;exact zzp h he
 ·rw[do_9 hq] at he ⊢;exact zzn h (box (by decide)) he
 ·rw[zz1 hq] at he ⊢;exact zzq h he
 ·rw[zz2 hq] at he ⊢;exact zzr h (box (by decide)) (by have:=hp 110 (by decide);unfold okQ at this;simpa using this) he
 ·rw[zz3 hq] at he ⊢;exact zzs h (box (by decide)) (by have:=hp 115 (by decide);unfold okQ at this;simpa using this) he
 ·rw[zz4 hq] at he ⊢;exact zzt h he
 ·rw[zz5 hq] at he ⊢;exact zzu h he
theorem zz7 {s:Sta}{e:Ev}(h:appE s e=0):OkSta s∧z7 e=true∧(doS (tick s e.at_) e).2=0∧appS s e=(doS (tick s e.at_) e).1:=by
 have h0:=h;unfold appE at h
 split at h
 ·rename_i hq
  refine⟨hq.1,hq.2,h,?_⟩;unfold appS;rw[if_pos h0]
 ·omega
theorem zqk {s:Sta}{e:Ev}(h:appE s e=0):OkSta (appS s e):=by
 obtain⟨h1,h2,h3,h4⟩:=zz7 h;rw[h4];exact zz6 (h1.tick (zks h2).2.1) h2 h3
theorem zz8 {s:Sta}{e:Ev}(h:appE s e≠0):appS s e=s:=by unfold appS;rw[if_neg h]
theorem zql {s:Sta}{e:Ev}(h:OkSta s):OkSta (appS s e):=by
 by_cases he:appE s e=0
 ·exact zqk he
 ·rw[zz8 he];exact h
theorem zkt:OkSta zck:=by
 refine⟨⟨Int.le_refl _,by show(0:Int)≤_;omega⟩,⟨by show(1:Int)≤2;omega,by show(2:Int)≤_;omega⟩,⟨Int.le_refl _,by show(1:Int)≤_;omega⟩,⟨Int.le_refl _,by show(1:Int)≤_;omega⟩,⟨by show(1:Nat)≤16;omega,Nat.zero_le _,Nat.zero_le _,Nat.zero_le _,Nat.zero_le _⟩,⟨fun b hb=>?_,List.pairwise_singleton ..,List.pairwise_singleton ..,⟨_,List.mem_singleton_self _,rfl⟩⟩,⟨(fun x hx=>by cases hx),List.Pairwise.nil⟩,⟨(fun x hx=>by cases hx),List.Pairwise.nil⟩,⟨(fun x hx=>by cases hx),List.Pairwise.nil⟩,⟨(fun x hx=>by cases hx),List.Pairwise.nil⟩⟩;rw[List.mem_singleton.1 hb];refine⟨⟨Int.le_refl _,by show(1:Int)≤_;omega,Int.le_refl _,by show(1:Int)≤_;omega,Nat.zero_le _,(fun m hm=>by cases hm),List.Pairwise.nil⟩,by show qj je=true;decide +kernel,by show(1:Int)<2;omega⟩
theorem zku {s t:Sta}{e:Ev}(h1:OkSta s)(h2:z7 e=true)(h3:doS (tick s e.at_) e=(t,0)):appE s e=0∧appS s e=t:=by
 have h4:appE s e=0:=by unfold appE;rw[if_pos ⟨h1,h2⟩,h3]
 refine⟨h4,?_⟩;unfold appS;rw[if_pos h4,h3]
end Go.Proofs.YtmjjefnmabbgdaaGreatDoor
