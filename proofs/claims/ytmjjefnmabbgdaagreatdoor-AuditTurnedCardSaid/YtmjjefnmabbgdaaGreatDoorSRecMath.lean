/- A part of the proof. -/
import Derived.Test.YtmjjefnmabbgdaaGreatDoorSShaRefF
import Derived.Test.YtmjjefnmabbgdaaGreatDoorSEventMath
namespace Go.Proofs.YtmjjefnmabbgdaaGreatDoor
set_option linter.unusedVariables false
set_option linter.unusedSimpArgs false
set_option maxRecDepth 100000
set_option maxHeartbeats 16000000
structure Ch where
 head:List Nat
 count:Int
 deriving DecidableEq
def Ch.Ok (c:Ch):Prop:=c.head.length=32∧∀ x∈c.head,x<256
def ch0:Ch:=⟨List.replicate 32 0,0⟩
theorem zj:ch0.Ok:=⟨rfl,fun x hx=>by have:=List.eq_of_mem_replicate hx;omega⟩
def zcs (c:Ch):Bool:=decide (0≤c.count) && decide (c.count≤1099511627776)
theorem zmu (c:Ch):zcs c=true↔0≤c.count∧c.count≤1099511627776:=by unfold zcs;simp
def recB (c:Ch)(e:Ev):List Nat:=c.head++encB 8 (qt (c.count+1))++zac e
def qw (c:Ch)(l:List Nat):Ch:=⟨sumB l,c.count+1⟩
theorem zb3 (c:Ch)(l:List Nat):(qw c l).Ok:=⟨zc5 l,zv2 l⟩
def qx (c:Ch)(e:Ev):Nat:=if zcs c=true∧encE e=0 then (if c.count=1099511627776 then 15 else 0)else 1
def zal (c:Ch)(e:Ev):List Nat:=if qx c e=0 then recB c e else []
def jt (c:Ch)(e:Ev):Ch:=if qx c e=0 then qw c (recB c e)else ch0
theorem zmv {e:Ev}(h:encE e=0):z7 e=true∧encV e=zac e:=by
 unfold encE at h;cases hr:z7 e
 ·rw[hr] at h;exact absurd h (by decide)
 ·exact⟨rfl,if_pos hr⟩
theorem zmw {c:Ch}{e:Ev}(h:qx c e=0):(0≤c.count∧c.count<1099511627776)∧z7 e=true:=by
 unfold qx at h;by_cases h1:zcs c=true∧encE e=0
 ·rw[if_pos h1] at h
  by_cases h2:c.count=1099511627776
  ·rw[if_pos h2] at h;exact absurd h (by decide)
  ·have:=(zmu c).1 h1.1
   exact⟨⟨this.1,by omega⟩,(zmv h1.2).1⟩
 ·rw[if_neg h1] at h;exact absurd h (by decide)
theorem zmx (c:Ch)(e:Ev):(jt c e).Ok:=by
 unfold jt;by_cases h:qx c e=0
 ·rw[if_pos h];exact zb3 _ _
 ·rw[if_neg h];exact zj
theorem zvq {c:Ch}{e:Ev}(h:qx c e=0):(jt c e).count=c.count+1:=by unfold jt;rw[if_pos h];rfl
theorem zmy {c:Ch}{e:Ev}(hc:c.Ok):(recB c e).length=40+(zac e).length:=by
 unfold recB;rw[List.length_append,List.length_append,hc.1,zbv]
def numR (l:List Nat):Nat:=numV (l.drop 32) 0
def badR (l:List Nat):Bool:=decide (numR l<1) || decide (1099511627776<numR l)
def errR (l:List Nat):Nat:=jl (numE (l.drop 32) 0) (badR l)
def za7 (l:List Nat):List Nat:=zh (l.drop 32) 0 8
def qg (l:List Nat):Nat:=if l.length<32 then 2 else if errR l=0 then decE (za7 l)else errR l
def qy (l:List Nat):Ch:=if qg l=0 then ⟨l.take 32,(numR l:Int) - 1⟩else ch0
def zav (l:List Nat):Ev:=if qg l=0 then decV (za7 l)else bare 0 0
theorem zf1 {l:List Nat}(h:l.length<32):qg l=2:=if_pos h
theorem zjh {l:List Nat}(h:¬ l.length<32)(he:errR l≠0):qg l=errR l:=by unfold qg;rw[if_neg h,if_neg he]
theorem zf2 {l:List Nat}(h:¬ l.length<32)(he:errR l=0):qg l=decE (za7 l):=by unfold qg;rw[if_neg h,if_pos he]
theorem zec {l:List Nat}(h:qg l≠0):qy l=ch0:=if_neg h
theorem zew {l:List Nat}(h:qg l≠0):zav l=bare 0 0:=if_neg h
theorem zf3 {l:List Nat}(h:qg l=0):qy l=⟨l.take 32,(numR l:Int) - 1⟩:=if_pos h
theorem zji {l:List Nat}(h:qg l=0):zav l=decV (za7 l):=if_pos h
theorem zjj {l:List Nat}(h:errR l=0):numE (l.drop 32) 0=0∧1≤numR l∧numR l≤1099511627776:=by
 unfold errR jl at h;by_cases h1:numE (l.drop 32) 0=0∧badR l=true
 ·rw[if_pos h1] at h;exact absurd h (by decide)
 ·rw[if_neg h1] at h
  have h2:badR l=false:=by cases hb:badR l;rfl;exact absurd ⟨h,hb⟩ h1
  unfold badR at h2;simp at h2;exact⟨h,by omega,by omega⟩
theorem zmz {l:List Nat}(h:numE l 0=0):8≤l.length:=by
 unfold numE at h;by_cases h1:4611686018427387904<decB (zq l 0 8)
 ·rw[if_pos h1] at h;exact absurd h (by decide)
 ·rw[if_neg h1] at h
  unfold qf at h;by_cases h2:(0:Nat)=0∧l.length<8
  ·rw[if_pos h2] at h;exact absurd h (by decide)
  ·have:¬ l.length<8:=fun h3=>h2 ⟨rfl,h3⟩
   omega
theorem zvr {l:List Nat}(h:numE (l.drop 32) 0=0):za7 l=(l.drop 32).drop 8:=by
 unfold za7 zh;rw[if_pos ⟨rfl,zmz h⟩]
theorem zm0 {l:List Nat}(hl:∀ x∈l,x<256):(qy l).Ok:=by
 by_cases h:qg l=0
 ·rw[zf3 h]
  have h1:¬ l.length<32:=fun h2=>by rw[zf1 h2] at h;exact absurd h (by decide)
  exact⟨by simp;omega,fun x hx=>hl x (List.mem_of_mem_take hx)⟩
 ·rw[zec h];exact zj
theorem zm1 {l:List Nat}(h:qg l=0):0≤(qy l).count∧(qy l).count<1099511627776:=by
 have h1:¬ l.length<32:=fun h2=>by rw[zf1 h2] at h;exact absurd h (by decide)
 have h2:errR l=0:=by
  by_cases h3:errR l=0
  ·exact h3
  ·rw[zjh h1 h3] at h;exact absurd h h3
 have h3:=zjj h2;rw[zf3 h];constructor
 ·show(0:Int)≤(numR l:Int)-1
  omega
 ·show(numR l:Int)-1<1099511627776
  omega
def qp (c:Ch)(l:List Nat):Nat:=if qg l=0 then (if qy l=c then 0 else 11)else qg l
def zam (c:Ch)(l:List Nat):Ch:=if qp c l=0 then qw c l else ch0
def zbi (c:Ch)(l:List Nat):Ev:=if qp c l=0 then zav l else bare 0 0
theorem zm2 {c:Ch}{l:List Nat}(h:qg l≠0):qp c l=qg l∧zam c l=ch0∧zbi c l=bare 0 0:=by
 have h1:qp c l=qg l:=if_neg h;exact⟨h1,if_neg (by rw[h1];exact h),if_neg (by rw[h1];exact h)⟩
theorem zjk {c:Ch}{l:List Nat}(h:qg l=0)(hc:qy l≠c):qp c l=11∧zam c l=ch0∧zbi c l=bare 0 0:=by
 have h1:qp c l=11:=by unfold qp;rw[if_pos h,if_neg hc]
 exact⟨h1,if_neg (by rw[h1];decide),if_neg (by rw[h1];decide)⟩
theorem zf4 {c:Ch}{l:List Nat}(h:qg l=0)(hc:qy l=c):qp c l=0∧zam c l=qw c l∧zbi c l=zav l:=by
 have h1:qp c l=0:=by unfold qp;rw[if_pos h,if_pos hc]
 exact⟨h1,if_pos h1,if_pos h1⟩
theorem linkE_0 {c:Ch}{l:List Nat}:qp c l=0↔qg l=0∧qy l=c:=by
 constructor
 ·intro h
  unfold qp at h;by_cases h1:qg l=0
  ·rw[if_pos h1] at h
   by_cases h2:qy l=c
   ·exact⟨h1,h2⟩
   ·rw[if_neg h2] at h;exact absurd h (by decide)
  ·rw[if_neg h1] at h;exact absurd h h1
 ·intro h;exact(zf4 h.1 h.2).1
theorem zm3 {c:Ch}{e:Ev}(hc:c.Ok)(h:qx c e=0)(hb:∀ y∈e.body,y<256):qg (recB c e)=0∧qy (recB c e)=c∧zav (recB c e)=e:=by
 obtain⟨⟨h0,h1⟩,h2⟩:=zmw h;have hcl:qt (c.count+1)=(c.count+1).toNat:=zxv (by omega) (by omega);have hd:(recB c e).drop 32=encB 8 (c.count+1).toNat++zac e:=by
  unfold recB;rw[List.append_assoc,List.drop_append_of_le_length (by rw[hc.1];exact Nat.le_refl _),List.drop_of_length_le (by rw[hc.1];exact Nat.le_refl _),List.nil_append,hcl]
 have ht:(recB c e).take 32=c.head:=by
  unfold recB;rw[List.append_assoc,List.take_append_of_le_length (by rw[hc.1];exact Nat.le_refl _),List.take_of_length_le (by rw[hc.1];exact Nat.le_refl _)]
 obtain⟨n1,n2,n3⟩:=zkc (c.count+1).toNat (by omega) (zac e);have hn:numR (recB c e)=(c.count+1).toNat:=by unfold numR;rw[hd,n1]
 have hr:za7 (recB c e)=zac e:=by unfold za7;rw[hd,n2]
 have hbad:badR (recB c e)=false:=by
  unfold badR;rw[hn];simp;omega
 have he:errR (recB c e)=0:=by
  unfold errR jl;rw[hd,n3,hbad];rfl
 have hlen:¬ (recB c e).length<32:=by rw[zmy hc];omega
 have hdb:=zy4 h2 hb;have hE:qg (recB c e)=0:=by rw[zf2 hlen he,hr];exact hdb.1
 refine⟨hE,?_,?_⟩
 ·rw[zf3 hE,ht,hn]
  obtain⟨hd,ct⟩:=c;simp only[Ch.mk.injEq,true_and];simp only at h0 h1;omega
 ·rw[zji hE,hr]
  exact hdb.2
theorem zvs {c:Ch}{e:Ev}(hc:c.Ok)(h:qx c e=0)(hb:∀ y∈e.body,y<256):qp c (recB c e)=0∧zam c (recB c e)=jt c e∧zbi c (recB c e)=e:=by
 obtain⟨h1,h2,h3⟩:=zm3 hc h hb;obtain⟨l1,l2,l3⟩:=zf4 h1 h2;exact⟨l1,by rw[l2];unfold jt;rw[if_pos h],by rw[l3,h3]⟩
structure Fo where
 c:Ch
 v:List Ev
 e:Nat
def zb4 (a:Fo)(b:List Nat):Fo:=if a.e=0 then (if qp a.c b=0 then ⟨zam a.c b,a.v++[zbi a.c b],0⟩else ⟨a.c,a.v,qp a.c b⟩)else a
def fo0:Fo:=⟨ch0,[],0⟩
def foL (l:List (List Nat)):Fo:=l.foldl zb4 fo0
theorem zex (l:List (List Nat))(b:List Nat):foL (l++[b])=zb4 (foL l) b:=by unfold foL;rw[List.foldl_append];rfl
theorem zf5 {a:Fo}{b:List Nat}(h:a.e=0)(hl:qp a.c b=0):zb4 a b=⟨zam a.c b,a.v++[zbi a.c b],0⟩:=by unfold zb4;rw[if_pos h,if_pos hl]
theorem zf6 {a:Fo}{b:List Nat}(h:a.e=0)(hl:qp a.c b≠0):zb4 a b=⟨a.c,a.v,qp a.c b⟩:=by unfold zb4;rw[if_pos h,if_neg hl]
theorem zm4 {a:Fo}{b:List Nat}(h:a.e≠0):zb4 a b=a:=by unfold zb4;rw[if_neg h]
theorem zm5:∀ (r:List (List Nat)) (a:Fo),a.e≠0→r.foldl zb4 a=a
 | [],_,_=>rfl
 | b::r,a,h=>by rw[List.foldl_cons,zm4 h];exact zm5 r a h
theorem zvt (l r:List (List Nat)):foL (l++r)=r.foldl zb4 (foL l):=by unfold foL;rw[List.foldl_append]
theorem zm6 {l:List (List Nat)}(r:List (List Nat))(h:(foL l).e≠0):foL (l++r)=foL l:=by rw[zvt];exact zm5 r _ h
theorem zm7 {l r:List (List Nat)}(h:(foL (l++r)).e=0):(foL l).e=0:=by
 by_cases h1:(foL l).e=0
 ·exact h1
 ·rw[zm6 r h1] at h;exact absurd h h1
theorem zhn {l:List (List Nat)}(h:(foL l).e=0)(k:Nat):(foL (l.take k)).e=0:=by
 rw[← List.take_append_drop k l] at h;exact zm7 h
theorem zm8 {l:List (List Nat)}{k:Nat}(h:(foL (l.take k)).e≠0):foL l=foL (l.take k):=by
 conv=>lhs;rw[← List.take_append_drop k l]
 exact zm6 _ h
structure FoOk (l:List (List Nat))(a:Fo):Prop where
 ok:a.c.Ok
 count:a.c.count=(a.v.length:Int)
 le:a.v.length≤l.length
 all:a.e=0→a.v.length=l.length
theorem zjl (c:Ch)(b:List Nat):(zam c b).Ok:=by
 unfold zam
 split
 ·exact zb3 c b
 ·exact zj
theorem zan (l:List (List Nat)):FoOk l (foL l):=by
 induction hn:l.length generalizing l with
 | zero =>
   obtain rfl:=List.eq_nil_of_length_eq_zero hn;exact⟨zj,rfl,Nat.le_refl _,fun _=>rfl⟩
 | succ n ih =>
   have hne:l≠[]:=fun h=>by rw[h] at hn;cases hn
   obtain⟨q,b,rfl⟩:∃ q b,l=q++[b]:=⟨l.dropLast,l.getLast hne,(List.dropLast_concat_getLast hne).symm⟩;have hq:q.length=n:=by simpa using hn
   have H:=ih q hq;rw[zex];by_cases h0:(foL q).e=0
   ·by_cases h1:qp (foL q).c b=0
    ·rw[zf5 h0 h1]
     have hc:zam (foL q).c b=qw (foL q).c b:=if_pos h1;refine⟨zjl _ _,?_,?_,fun _=>?_⟩
     ·simp only[hc]
      show(foL q).c.count+1=_
      rw[H.count];simp
     ·have:=H.all h0;simp;omega
     ·have:=H.all h0;simp;omega
    ·rw[zf6 h0 h1]
     exact⟨H.ok,H.count,by have:=H.le;simp;omega,fun h=>absurd h h1⟩
   ·rw[zm4 h0]
    exact⟨H.ok,H.count,by have:=H.le;simp;omega,fun h=>absurd h h0⟩
def verE (l:List (List Nat)):Nat:=(foL l).e
def verC (l:List (List Nat)):Ch:=if (foL l).e=0 then (foL l).c else ch0
def evsV (l:List (List Nat)):List Ev:=if (foL l).e=0 then (foL l).v else []
def zey (l:List (List Nat)):Nat:=(foL l).v.length
theorem zdu (l:List (List Nat)):(verC l).Ok:=by
 unfold verC
 split
 ·exact(zan l).ok
 ·exact zj
theorem zce {q:List (List Nat)}{b:List Nat}(h:(foL (q++[b])).e=0):(foL q).e=0∧qp (foL q).c b=0∧qy b=(foL q).c∧(foL (q++[b])).c=qw (foL q).c b∧(foL (q++[b])).v=(foL q).v++[zav b]:=by
 have h0:=zm7 h;rw[zex] at h ⊢;by_cases h1:qp (foL q).c b=0
 ·rw[zf5 h0 h1]
  have h2:=linkE_0.1 h1;exact⟨h0,h1,h2.2,if_pos h1,by rw[(zf4 h2.1 h2.2).2.2]⟩
 ·rw[zf6 h0 h1] at h
  exact absurd h h1
theorem zcf {l:List (List Nat)}{k:Nat}(h:k<l.length):l.take (k+1)=l.take k++[zp l k]:=by
 rw[List.take_add_one,List.getElem?_eq_getElem h];simp[zp,h]
theorem zm9 {l:List (List Nat)}(h:(foL l).e=0){i:Nat}{x y:List Nat}(hx:l[i]?=some x)(hy:l[i+1]?=some y):(qy y).head=sumB x:=by
 have hi:i+1<l.length:=(List.getElem?_eq_some_iff.1 hy).1;have t1:zp l i=x:=by unfold zp;rw[List.getD_eq_getElem?_getD,hx];rfl
 have t2:zp l (i+1)=y:=by unfold zp;rw[List.getD_eq_getElem?_getD,hy];rfl
 have h2:=zhn h (i+1+1);rw[zcf hi] at h2;have h3:=zce h2;have h1:=h3.1;rw[zcf (show i<l.length by omega)] at h1;have h4:=zce h1;rw[t2] at h3;rw[h3.2.2.1,zcf (show i<l.length by omega),h4.2.2.2.1,t1];rfl
theorem zvu {l:List (List Nat)}{k:Nat}{x t:List Nat}(h:(foL l).e=0)(hk:k+1<l.length)(hx:l[k]?=some x)(h2:(foL (l.set k t)).e=0):sumB t=sumB x:=by
 have hy:l[k+1]?=some l[k+1]:=List.getElem?_eq_getElem hk;have e1:=zm9 h hx hy;have hkl:k<l.length:=by omega
 have e2:=zm9 (i:=k) (x:=t) (y:=l[k+1]) h2 (by simp[hkl]) (by rw[List.getElem?_set_ne (by omega)];exact hy);rw[← e2,e1]
def unlK:List (List Nat)→List (List Nat)→Option (List Nat×List Nat)
 | x::r,y::s=>if x=y then unlK r s else some (x,y)
 | _,_=>none
def colX (a b:List (List Nat)):Option (List Nat×List Nat) :=
 if verE a=0∧verE b=0∧a≠[]∧b≠[]∧(verC a).head=(verC b).head then unlK a.reverse b.reverse else none
theorem zna:∀ (p q:List (List Nat)) (x y:List Nat),(foL p.reverse).e=0→(foL q.reverse).e=0→(foL p.reverse).c.head=(foL q.reverse).c.head→unlK p q=some (x,y)→x≠y∧sumB x=sumB y
 | [],_,_,_,_,_,_,h=>by simp[unlK] at h
 | _::_,[],_,_,_,_,_,h=>by simp[unlK] at h
 | a :: p, b :: q, x, y, h1, h2, hh, h => by
   simp only[List.reverse_cons] at h1 h2 hh;have k1:=zce h1;have k2:=zce h2;rw[k1.2.2.2.1,k2.2.2.2.1] at hh;have hs:sumB a=sumB b:=hh;simp only[unlK] at h;by_cases hab:a=b
   ·rw[if_pos hab] at h
    refine zna p q x y k1.1 k2.1 ?_ h;rw[← k1.2.2.1,← k2.2.2.1,hab]
   ·rw[if_neg hab] at h
    injection h with h;injection h with h3 h4;subst h3;subst h4;exact⟨hab,hs⟩
theorem znb:∀ (p q:List (List Nat)),(foL p.reverse).e=0→(foL q.reverse).e=0→(foL p.reverse).c=(foL q.reverse).c→unlK p q=none→p=q
 | [],[],_,_,_,_=>rfl
 | [], b :: q, h1, h2, hh, _ => by
   exfalso
   have k1:=(zan ([]:List (List Nat)).reverse);have k2:=(zan (b::q).reverse);have e1:=k1.all h1;have e2:=k2.all h2;have c1:=k1.count;have c2:=k2.count;rw[hh] at c1;rw[List.length_reverse] at e1 e2;simp only[List.length_cons,List.length_nil] at e1 e2;omega
 | a :: p, [], h1, h2, hh, _ => by
   exfalso
   have k1:=(zan (a::p).reverse);have k2:=(zan ([]:List (List Nat)).reverse);have e1:=k1.all h1;have e2:=k2.all h2;have c1:=k1.count;have c2:=k2.count;rw[hh] at c1;rw[List.length_reverse] at e1 e2;simp only[List.length_cons,List.length_nil] at e1 e2;omega
 | a :: p, b :: q, h1, h2, hh, h => by
   simp only[List.reverse_cons] at h1 h2 hh;have k1:=zce h1;have k2:=zce h2;simp only[unlK] at h;by_cases hab:a=b
   ·rw[if_pos hab] at h
    rw[hab,znb p q k1.1 k2.1 (by rw[← k1.2.2.1,← k2.2.2.1,hab]) h]
   ·rw[if_neg hab] at h
    cases h
theorem znc:∀ p:List (List Nat),unlK p p=none
 | []=>rfl
 | a::p=>by simp only[unlK,if_true];exact znc p
theorem zvv {a b:List (List Nat)}(h1:verE a=0)(h2:verE b=0)(ha:a≠[])(hb:b≠[])(hh:(verC a).head=(verC b).head):colX a b=none↔a=b:=by
 unfold colX;rw[if_pos ⟨h1,h2,ha,hb,hh⟩];constructor
 ·intro h
  obtain⟨x,p,hp⟩:∃ x p,a.reverse=x::p:=by
   cases hq:a.reverse with
   | nil=>exact absurd (List.reverse_eq_nil_iff.1 hq) ha
   | cons x p=>exact⟨x,p,rfl⟩
  obtain⟨y,q,hq⟩:∃ y q,b.reverse=y::q:=by
   cases hq:b.reverse with
   | nil=>exact absurd (List.reverse_eq_nil_iff.1 hq) hb
   | cons x p=>exact⟨x,p,rfl⟩
  rw[hp,hq] at h;simp only[unlK] at h;have ea:a=p.reverse++[x]:=by have:=congrArg List.reverse hp;simpa using this
  have eb:b=q.reverse++[y]:=by have:=congrArg List.reverse hq;simpa using this
  have h1':(foL (p.reverse++[x])).e=0:=by rw[← ea];exact h1
  have h2':(foL (q.reverse++[y])).e=0:=by rw[← eb];exact h2
  have k1:=zce h1';have k2:=zce h2';by_cases hxy:x=y
  ·rw[if_pos hxy] at h
   have:=znb p q k1.1 k2.1 (by rw[← k1.2.2.1,← k2.2.2.1,hxy]) h;rw[ea,eb,this,hxy]
  ·rw[if_neg hxy] at h
   cases h
 ·intro h
  rw[h];exact znc _
theorem zvw {a b:List (List Nat)}{x y:List Nat}(h:colX a b=some (x,y)):x≠y∧sumB x=sumB y:=by
 unfold colX at h
 split at h
 next hc =>
  obtain⟨h1,h2,_,_,hh⟩:=hc;have e1:verC a=(foL a).c:=if_pos h1;have e2:verC b=(foL b).c:=if_pos h2;rw[e1,e2] at hh;exact zna a.reverse b.reverse x y (by rw[List.reverse_reverse];exact h1) (by rw[List.reverse_reverse];exact h2) (by rw[List.reverse_reverse,List.reverse_reverse];exact hh) h
 ·cases h
theorem zho {a:List (List Nat)}{k:Nat}(hk:k<a.length):a.reverse.drop k=zp a (a.length-(k+1))::a.reverse.drop (k+1):=by
 have h1:k<a.reverse.length:=by simpa using hk
 rw[List.drop_eq_getElem_cons h1]
 congr 1
 rw[List.getElem_reverse];unfold zp;rw[List.getD_eq_getElem?_getD,List.getElem?_eq_getElem (by omega)];simp only[Option.getD_some]
 congr 1
 omega
theorem znd {a b:List (List Nat)}{k:Nat}(h:a.length≤k∨b.length≤k):unlK (a.reverse.drop k) (b.reverse.drop k)=none:=by
 rcases h with h|h
 ·rw[List.drop_of_length_le (by simpa using h)];simp[unlK]
 ·rw[List.drop_of_length_le (l:=b.reverse) (by simpa using h)]
  cases a.reverse.drop k<;>simp[unlK]
theorem zne {a b:List (List Nat)}{k:Nat}(ha:k<a.length)(hb:k<b.length)(he:zp a (a.length-(k+1))=zp b (b.length-(k+1))):unlK (a.reverse.drop k) (b.reverse.drop k)=unlK (a.reverse.drop (k+1)) (b.reverse.drop (k+1)):=by
 rw[zho ha,zho hb];simp only[unlK,he,if_true]
theorem znf {a b:List (List Nat)}{k:Nat}(ha:k<a.length)(hb:k<b.length)(he:zp a (a.length-(k+1))≠zp b (b.length-(k+1))):unlK (a.reverse.drop k) (b.reverse.drop k)=some (zp a (a.length-(k+1)),zp b (b.length-(k+1))):=by
 rw[zho ha,zho hb];simp only[unlK,he,if_false]
structure Al where
 l:List (List Nat)
 c:Ch
 v:List Ev
def zct (a:Al)(e:Ev):Al:=if qx a.c e=0 then ⟨a.l++[zal a.c e],jt a.c e,a.v++[e]⟩else a
def al0:Al:=⟨[],ch0,[]⟩
def alL (l:List Ev):Al:=l.foldl zct al0
theorem zng (l:List Ev)(e:Ev):alL (l++[e])=zct (alL l) e:=by unfold alL;rw[List.foldl_append];rfl
theorem zed {a:Al}{e:Ev}(h:qx a.c e=0):zct a e=⟨a.l++[zal a.c e],jt a.c e,a.v++[e]⟩:=if_pos h
theorem znh {a:Al}{e:Ev}(h:qx a.c e≠0):zct a e=a:=if_neg h
structure AlOk (l:List Ev)(a:Al):Prop where
 fo:foL a.l=⟨a.c,a.v,0⟩
 ok:a.c.Ok
 len:a.l.length=a.v.length
 le:a.l.length≤l.length
 count:a.c.count=(a.l.length:Int)
theorem zhp (l:List Ev)(hb:∀ e∈l,∀ y∈e.body,y<256):AlOk l (alL l):=by
 induction hn:l.length generalizing l with
 | zero =>
   obtain rfl:=List.eq_nil_of_length_eq_zero hn;exact⟨rfl,zj,rfl,Nat.le_refl _,rfl⟩
 | succ n ih =>
   have hne:l≠[]:=fun h=>by rw[h] at hn;cases hn
   obtain⟨q,e,rfl⟩:∃ q b,l=q++[b]:=⟨l.dropLast,l.getLast hne,(List.dropLast_concat_getLast hne).symm⟩;have H:=ih q (fun x hx=>hb x (List.mem_append_left _ hx)) (by simpa using hn);rw[zng];by_cases h0:qx (alL q).c e=0
   ·rw[zed h0]
    have hB:zal (alL q).c e=recB (alL q).c e:=if_pos h0;have hlk:=zvs H.ok h0 (hb e (List.mem_append_right _ (List.mem_singleton_self _)));refine⟨?_,zmx _ _,by have:=H.len;simp;omega,by have:=H.le;simp;omega,?_⟩
    ·show foL ((alL q).l++[zal (alL q).c e])=_
     rw[zex,H.fo,hB,zf5 rfl hlk.1];simp only;rw[hlk.2.1,hlk.2.2]
    ·show(jt (alL q).c e).count=(((alL q).l++[zal (alL q).c e]).length:Int)
     rw[zvq h0,H.count];simp
   ·rw[znh h0]
    exact⟨H.fo,H.ok,H.len,by have:=H.le;simp;omega,H.count⟩
theorem zni {l:List (List Nat)}(h:(foL l).e=0):∀ k:Nat,(foL (l.take k)).v=(foL l).v.take k:=by
 intro k;rcases Nat.lt_or_ge k l.length with hk|hk
 case inr =>
  have:=(zan l).le;rw[List.take_of_length_le hk,List.take_of_length_le (by omega)]
 obtain⟨d,hd⟩:∃ d,d+k=l.length:=⟨l.length - k,by omega⟩
 induction d generalizing k with
 | zero=>omega
 | succ d ih =>
   by_cases h1:k+1=l.length
   ·have e2:=zcf hk
    rw[h1,List.take_length] at e2;have h2:=h;rw[e2] at h2;have h3:=zce h2;have hv:(foL l).v=(foL (l.take k)).v++[zav (zp l k)]:=by
     conv=>lhs;rw[e2]
     exact h3.2.2.2.2
    have hl:=(zan (l.take k)).all h3.1;rw[List.length_take,Nat.min_eq_left (by omega)] at hl;rw[hv];exact(List.take_left' hl).symm
   ·have h4:=ih (k+1) (by omega) (by omega)
    have h2:=zhn h (k+1);rw[zcf hk] at h2;have h3:=zce h2;have hl:=(zan (l.take k)).all h3.1;rw[List.length_take,Nat.min_eq_left (by omega)] at hl;rw[zcf hk,h3.2.2.2.2] at h4;have h5:=congrArg (List.take k) h4;rw[List.take_take,Nat.min_eq_left (by omega)] at h5;rw[← h5];exact(List.take_left' hl).symm
theorem zvx {l:List (List Nat)}(h:(foL l).e=0){k:Nat}(hk:k<l.length):qg (zp l k)=0∧(foL l).v[k]?=some (zav (zp l k)):=by
 have h2:=zhn h (k+1);have hv:=zni h (k+1);rw[zcf hk] at h2;have h3:=zce h2;have hl:=(zan (l.take k)).all h3.1;rw[List.length_take,Nat.min_eq_left (by omega)] at hl;rw[zcf hk,h3.2.2.2.2] at hv;refine⟨(linkE_0.1 h3.2.1).1,?_⟩;have h5:=congrArg (fun x=>x[k]?) hv;rw[List.getElem?_take_of_lt (by omega),List.getElem?_append_right (by omega),hl,Nat.sub_self] at h5;rw[← h5];rfl
structure Rc where
 c:{ c:Ch // c.Ok }
 e:Ev
def Rc.bytes (r:Rc):List Nat:=recB r.c.1 r.e
def RcOk (l:List Rc):Prop:=∀ (i:Nat) (r:Rc),l[i]?=some r→r.c.1.count=(i:Int)∧qx r.c.1 r.e=0∧∀ y∈r.e.body,y<256
theorem RcOk.nil:RcOk []:=fun i r h=>by simp at h
theorem RcOk.snoc {l:List Rc}(h:RcOk l){r:Rc}(h1:r.c.1.count=(l.length:Int))(h2:qx r.c.1 r.e=0)(h3:∀ y∈r.e.body,y<256):RcOk (l++[r]):=by
 intro i x hx;by_cases hi:i<l.length
 ·rw[List.getElem?_append_left hi] at hx
  exact h i x hx
 ·rw[List.getElem?_append_right (by omega)] at hx
  have hil:i<l.length+1:=by
   have:=(List.getElem?_eq_some_iff.1 hx).1;simp only[List.length_singleton] at this;omega
  obtain rfl:i=l.length:=by omega
  rw[Nat.sub_self] at hx;cases hx
  exact⟨h1,h2,h3⟩
end Go.Proofs.YtmjjefnmabbgdaaGreatDoor
