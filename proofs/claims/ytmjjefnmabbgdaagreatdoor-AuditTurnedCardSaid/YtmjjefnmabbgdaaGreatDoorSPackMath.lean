/- A part of the proof. -/
import Derived.Laws.BytesArg
import Derived.Laws.Strings
import Derived.Test.YtmjjefnmabbgdaaGreatDoorSRgW
namespace Go.Proofs.YtmjjefnmabbgdaaGreatDoor
set_option linter.unusedVariables false
set_option linter.unusedSimpArgs false
set_option maxRecDepth 100000
set_option maxHeartbeats 16000000
def encB:Nat→Nat→List Nat
 | 0,_=>[]
 | k+1,v=>encB k (v / 256)++[v % 256]
def decB (l:List Nat):Nat:=l.foldl (fun a b=>a*256+b) 0
def numB (l:List Nat):Int:=if 4611686018427387904<decB l then -1 else (decB l:Int)
theorem zbv:∀ (k v:Nat),(encB k v).length=k
 | 0,_=>rfl
 | k+1,v=>by rw[encB,List.length_append,zbv k];rfl
theorem zo9:∀ (k v:Nat),∀ x∈encB k v,x<256
 | 0,_=>by intro x hx;cases hx
 | k + 1, v => by
   intro x hx;rcases List.mem_append.1 hx with h|h
   ·exact zo9 k _ x h
   ·rw[List.mem_singleton.1 h];omega
theorem zpa:∀ (k v:Nat),encB (k+1) v=(v / 256 ^ k % 256)::encB k v
 | 0,v=>by simp[encB]
 | k + 1, v => by
   have e:encB (k+1) v=encB k (v / 256)++[v % 256]:=rfl;rw[encB,zpa k (v / 256),Nat.div_div_eq_div_mul,← Nat.pow_succ',List.cons_append,e]
theorem zh1 (l:List Nat)(b:Nat):decB (l++[b])=decB l*256+b:=by unfold decB;rw[List.foldl_append];rfl
theorem zeh:decB []=0:=rfl
theorem zpb {p:List Nat→Prop}(h0:p [])(h1:∀ l b,p l→p (l++[b]))(l:List Nat):p l:=by
 have:∀ r:List Nat,p r.reverse:=by
  intro r
  induction r with
  | nil=>exact h0
  | cons b r ih=>rw[List.reverse_cons];exact h1 _ _ ih
 have h:=this l.reverse
 rwa [List.reverse_reverse] at h
theorem zpc (l:List Nat):(∀ x∈l,x<256)→decB l<256 ^ l.length:=by
 induction l using zpb with
 | h0=>intro _;exact Nat.one_pos
 | h1 l b ih =>
   intro h;have h1:=ih fun x hx=>h x (List.mem_append_left _ hx);have h2:=h b (List.mem_append_right _ (List.mem_singleton_self b));rw[zh1,List.length_append,List.length_singleton,Nat.pow_succ];omega
theorem zj6:∀ (k v:Nat),v<256 ^ k→decB (encB k v)=v
 | 0,v,h=>by rw[Nat.pow_zero] at h;rw[encB,zeh];omega
 | k + 1, v, h => by
   rw[encB,zh1,zj6 k (v / 256) (by rw[Nat.pow_succ'] at h;exact Nat.div_lt_of_lt_mul h)];omega
theorem zx9 (l r:List Nat):decB l*256 ^ r.length≤decB (l++r):=by
 induction r using zpb with
 | h0=>simp
 | h1 r b ih =>
   rw[← List.append_assoc,zh1,List.length_append,List.length_singleton,Nat.pow_succ,← Nat.mul_assoc];omega
theorem zya (l:List Nat)(k:Nat)(hk:k<l.length)(h:36028797018963968≤decB (l.take k)):4611686018427387904<decB l:=by
 have h1:=zx9 (l.take k) (l.drop k);rw[List.take_append_drop,List.length_drop] at h1;have h2:256 ^ 1≤256 ^ (l.length-k):=Nat.pow_le_pow_right (by omega) (by omega);have h3:36028797018963968*256 ^ 1≤decB (l.take k)*256 ^ (l.length-k):=Nat.mul_le_mul h h2;omega
def qt (z:Int):Nat:=(min (max z 0) 4611686018427387904).toNat
theorem zh2 (z:Int):qt z≤4611686018427387904:=by unfold qt;omega
def zk (l:List Int):List Nat:=(l.map fun z=>encB 8 (qt z)).flatten
theorem zh3:zk []=[]:=rfl
theorem zh4 (l:List Int)(z:Int):zk (l++[z])=zk l++encB 8 (qt z):=by unfold zk;simp
theorem zd0 (l:List Int)(z:Int):zk (z::l)=encB 8 (qt z)++zk l:=by unfold zk;simp
theorem za4:∀ l:List Int,(zk l).length=8*l.length
 | []=>rfl
 | z::l=>by rw[zd0,List.length_append,zbv,za4 l,List.length_cons];omega
def nats (s:ByteArray):List Nat:=s.data.toList.map (·.toNat)
def za (l:List Nat):ByteArray:=strOfNums (l.map fun x:Nat=>(x:Int))
theorem jn (s:ByteArray):(nats s).length=s.size:=by unfold nats;rw[List.length_map,Array.length_toList];rfl
theorem zd1 (s:ByteArray):∀ x∈nats s,x<256:=by
 intro x hx;obtain⟨b,_,rfl⟩:=List.mem_map.1 hx;exact b.toNat_lt
theorem zc7 (l:List Nat):(za l).size=l.length:=by unfold za;rw[strOfNums_size,List.length_map]
theorem zci (l:List Nat):(za l).data.toList=l.map UInt8.ofNat:=by
 unfold za;rw[strOfNums_data,List.map_map];rfl
theorem zbw (l:List Nat)(h:∀ x∈l,x<256):nats (za l)=l:=by
 unfold nats;rw[zci,List.map_map]
 conv=>rhs;rw[← List.map_id l]
 refine List.map_congr_left fun x hx=>?_;have:=h x hx;simp[Nat.mod_eq_of_lt this]
theorem zc8 {a b:ByteArray}(h:a.data.toList=b.data.toList):a=b:=by
 cases a;cases b
 simp only at h;rw[Array.toList_inj.1 h]
theorem zaw (s:ByteArray):za (nats s)=s:=by
 refine zc8 ?_;rw[zci];unfold nats;rw[List.map_map]
 conv=>rhs;rw[← List.map_id s.data.toList]
 refine List.map_congr_left fun x _=>?_;simp
theorem zyb {a b:List Nat}(ha:∀ x∈a,x<256)(hb:∀ x∈b,x<256)(h:za a=za b):a=b:=by
 rw[← zbw a ha,← zbw b hb,h]
theorem zpd (l:List Nat)(n:Nat):(za l).extract 0 n=za (l.take n):=by
 refine zc8 ?_;rw[zci,ByteArray.data_extract,Array.toList_extract,zci];simp[List.map_take]
theorem zyc (l:List Nat)(n:Nat)(k:Nat)(hk:l.length≤k):(za l).extract n k=za (l.drop n):=by
 refine zc8 ?_;rw[zci,ByteArray.data_extract,Array.toList_extract,zci];rw[List.map_drop,List.extract_eq_take_drop,List.take_of_length_le];simp;omega
theorem ze8 (a b:List Nat)(ha:∀ x∈a,x<256)(hb:∀ x∈b,x<256):((za a).toList == (za b).toList)=decide (a=b):=by
 rw[ByteArray.toList_eq,ByteArray.toList_eq];by_cases h:a=b
 ·subst h;simp
 ·have:¬ (za a).data.toList=(za b).data.toList:=fun e=>h (zyb ha hb (zc8 e))
  have h2:¬ (za a).data=(za b).data:=fun e=>this (by rw[e]);simp[h,h2]
def jd (s:List Nat):List Nat:=encB 4 (s.take 4096).length++s.take 4096
theorem zj7 (s:List Nat):(jd s).length≤4100:=by
 unfold jd;rw[List.length_append,zbv,List.length_take];omega
def zq (l:List Nat)(e n:Nat):List Nat:=if e=0∧n≤l.length then l.take n else []
def zh (l:List Nat)(e n:Nat):List Nat:=if e=0∧n≤l.length then l.drop n else l
def qf (l:List Nat)(e n:Nat):Nat:=if e=0∧l.length<n then 2 else e
def numV (l:List Nat)(e:Nat):Nat:=if 4611686018427387904<decB (zq l e 8)then 0 else decB (zq l e 8)
def numE (l:List Nat)(e:Nat):Nat:=if 4611686018427387904<decB (zq l e 8)then 3 else qf l e 8
def zl (l:List Nat)(e:Nat):List Nat:=if 4096<decB (zq l e 4)then [] else zq (zh l e 4) (qf l e 4) (decB (zq l e 4))
def zar (l:List Nat)(e:Nat):List Nat:=if 4096<decB (zq l e 4)then zh l e 4 else zh (zh l e 4) (qf l e 4) (decB (zq l e 4))
def zbm (l:List Nat)(e:Nat):Nat:=if 4096<decB (zq l e 4)then 4 else qf (zh l e 4) (qf l e 4) (decB (zq l e 4))
def qu (l:List Nat)(e:Nat)(most:Int):Nat:=if most<(numV l e:Int)then 0 else numV l e
def qs (l:List Nat)(e:Nat)(most:Int):Nat:=if numE l e=0∧most<(numV l e:Int)then 4 else numE l e
def jl (e:Nat)(bad:Bool):Nat:=if e=0∧bad=true then 3 else e
def zcw (l:List Nat)(e:Nat):Nat:=if e=0∧l≠[] then 3 else e
section
variable {l:List Nat} {e n:Nat}
theorem zj8 (h:∀ x∈l,x<256):∀ x∈zq l e n,x<256:=by
 unfold zq
 split
 ·exact fun x hx=>h x (List.mem_of_mem_take hx)
 ·intro x hx;cases hx
theorem zab (h:∀ x∈l,x<256):∀ x∈zh l e n,x<256:=by
 unfold zh
 split
 ·exact fun x hx=>h x (List.mem_of_mem_drop hx)
 ·exact h
theorem zaf:(zh l e n).length≤l.length:=by
 unfold zh
 split
 ·rw[List.length_drop];omega
 ·exact Nat.le_refl _
theorem zpe:(zq l e n).length≤n:=by
 unfold zq
 split
 ·rw[List.length_take];omega
 ·exact Nat.zero_le _
theorem zgf (h:qf l e n≠0):zq l e n=[]:=by
 unfold qf at h;unfold zq
 split
 ·rename_i h2
  rw[if_neg (by omega)] at h;exact absurd h2.1 h
 ·rfl
theorem zj9 (h:∀ x∈l,x<256):∀ x∈zar l e,x<256:=by
 unfold zar
 split
 ·exact zab h
 ·exact zab (zab h)
theorem zka:(zar l e).length≤l.length:=by
 unfold zar
 split
 ·exact zaf
 ·exact Nat.le_trans zaf zaf
theorem zpf (h:∀ x∈l,x<256):∀ x∈zl l e,x<256:=by
 unfold zl
 split
 ·intro x hx;cases hx
 ·exact zj8 (zab h)
theorem zei (h:e≠0):qf l e n=e:=if_neg (by omega)
theorem zb8 (h:e≠0):zh l e n=l:=if_neg (by omega)
theorem zgg (h:e≠0):zq l e n=[]:=if_neg (by omega)
theorem ze9 (h:e≠0):numE l e=e:=by unfold numE;rw[zgg h,zeh,if_neg (by omega),zei h]
theorem zkb (h:e≠0):zbm l e=e:=by unfold zbm;rw[zgg h,zeh,if_neg (by omega),zei h,zei h]
theorem zkc (v:Nat)(hv:v≤4611686018427387904)(r:List Nat):numV (encB 8 v++r) 0=v∧zh (encB 8 v++r) 0 8=r∧numE (encB 8 v++r) 0=0:=by
 have hl:8≤(encB 8 v++r).length:=by rw[List.length_append,zbv];omega
 have e1:zq (encB 8 v++r) 0 8=encB 8 v:=by
  unfold zq;rw[if_pos ⟨rfl,hl⟩];exact List.take_left' (zbv 8 v)
 have e2:decB (encB 8 v)=v:=zj6 8 v (by omega);refine⟨?_,?_,?_⟩
 ·unfold numV;rw[e1,e2,if_neg (by omega)]
 ·unfold zh
  rw[if_pos ⟨rfl,hl⟩];exact List.drop_left' (zbv 8 v)
 ·unfold numE qf;rw[e1,e2,if_neg (by omega),if_neg (by omega)]
theorem zkd (s r:List Nat):zl (jd s++r) 0=s.take 4096∧zar (jd s++r) 0=r∧zbm (jd s++r) 0=0:=by
 unfold jd;have hq:(s.take 4096).length≤4096:=by rw[List.length_take];omega
 generalize s.take 4096=q at hq;rw[List.append_assoc];have hl:4≤(encB 4 q.length++(q++r)).length:=by rw[List.length_append,zbv];omega
 have e1:zq (encB 4 q.length++(q++r)) 0 4=encB 4 q.length:=by
  unfold zq;rw[if_pos ⟨rfl,hl⟩];exact List.take_left' (zbv 4 _)
 have e2:decB (encB 4 q.length)=q.length:=zj6 4 _ (by omega);have e3:zh (encB 4 q.length++(q++r)) 0 4=q++r:=by
  unfold zh;rw[if_pos ⟨rfl,hl⟩];exact List.drop_left' (zbv 4 _)
 have e4:qf (encB 4 q.length++(q++r)) 0 4=0:=by unfold qf;rw[if_neg (by omega)]
 have hl2:q.length≤(q++r).length:=by rw[List.length_append];omega
 refine⟨?_,?_,?_⟩
 ·unfold zl;rw[e1,e2,if_neg (by omega),e3,e4];unfold zq;rw[if_pos ⟨rfl,hl2⟩,List.take_left]
 ·unfold zar;rw[e1,e2,if_neg (by omega),e3,e4];unfold zh;rw[if_pos ⟨rfl,hl2⟩,List.drop_left]
 ·unfold zbm;rw[e1,e2,if_neg (by omega),e3,e4];unfold qf;rw[if_neg (by omega)]
end
def ahead (y:Nat):Nat:=y*365+(y+3) / 4+(y+399) / 400-(y+99) / 100
def jw (x:Nat):Nat:=if 65≤x∧x≤90 then x+32 else x
def zbx (a b:List Nat):Bool:=decide (a.map jw=b.map jw)
theorem zyd {a b:List Nat}(h:zbx a b=true):a.length=b.length:=by
 have:=congrArg List.length (of_decide_eq_true h)
 simpa using this
def zag (c:Nat):List Nat→List Nat→List (List Nat)
 | cur,[]=>[cur]
 | cur,x::l=>if x=c then cur::zag c [] l else zag c (cur++[x]) l
def zah (c:Nat)(l:List Nat):List (List Nat):=zag c [] l
theorem zpg {c:Nat}:∀ (p cur:List Nat),(∀ x∈p,x≠c)→zag c cur p=[cur++p]
 | [],cur,_=>by simp[zag]
 | x :: p, cur, h => by
   unfold zag;rw[if_neg (h x (List.mem_cons_self ..)),zpg p _ fun y hy=>h y (List.mem_cons_of_mem _ hy),List.append_assoc];rfl
theorem zph {c:Nat}:∀ (p cur r:List Nat),(∀ x∈p,x≠c)→zag c cur (p++c::r)=(cur++p)::zag c [] r
 | [], cur, r, _ => by rw [List.nil_append, List.append_nil]; conv => lhs; unfold zag
                       rw[if_pos rfl]
 | x :: p, cur, r, h => by
   rw[List.cons_append]
   conv=>lhs;unfold zag
   rw[if_neg (h x (List.mem_cons_self ..)),zph p _ r fun y hy=>h y (List.mem_cons_of_mem _ hy),List.append_assoc];rfl
theorem zpi {c:Nat}{p:List Nat}(h:∀ x∈p,x≠c):zah c p=[p]:=zpg p [] h
theorem zye {c:Nat}{p:List Nat}(r:List Nat)(h:∀ x∈p,x≠c):zah c (p++c::r)=p::zah c r:=zph p [] r h
def okF (f:Int):Bool:=decide (0≤f∧f≤31)
def apE (f m g:Int):Int:=if okF f=true∧okF g=true∧0≤m∧m≤2 then 0 else 1
def apV (f m g:Int):Int:=if okF f=true∧okF g=true then (if m=0 then g else if m=1 then bits .or .i64 f g else if m=2 then bits .andNot .i64 f g else 0)else 0
structure Mg where
 uid:Int
 flags:Int
 date:Int
 body:List Nat
theorem Mg.ext' {a b:Mg}(h1:a.uid=b.uid)(h2:a.flags=b.flags)(h3:a.date=b.date)(h4:a.body=b.body):a=b:=by
 obtain⟨a1,a2,a3,a4⟩:=a;obtain⟨b1,b2,b3,b4⟩:=b;simp only at h1 h2 h3 h4;rw[h1,h2,h3,h4]
instance:DecidableEq Mg:=fun a b =>
 if h:a.uid=b.uid∧a.flags=b.flags∧a.date=b.date∧a.body=b.body then .isTrue (Mg.ext' h.1 h.2.1 h.2.2.1 h.2.2.2)else .isFalse (fun e=>h (by rw[e];exact⟨rfl,rfl,rfl,rfl⟩))
def noMg:Mg:=⟨0,0,0,[]⟩
structure Bx where
 name:ByteArray
 valid:Int
 next:Int
 msgs:List Mg
theorem Bx.ext' {a b:Bx}(h1:a.name=b.name)(h2:a.valid=b.valid)(h3:a.next=b.next)(h4:a.msgs=b.msgs):a=b:=by
 obtain⟨a1,a2,a3,a4⟩:=a;obtain⟨b1,b2,b3,b4⟩:=b;simp only at h1 h2 h3 h4;rw[h1,h2,h3,h4]
instance:DecidableEq Bx:=fun a b =>
 if h:a.name=b.name∧a.valid=b.valid∧a.next=b.next∧a.msgs=b.msgs then .isTrue (Bx.ext' h.1 h.2.1 h.2.2.1 h.2.2.2)else .isFalse (fun e=>h (by rw[e];exact⟨rfl,rfl,rfl,rfl⟩))
def zcx (n:Int):Bool:=decide (1≤n∧n≤4294967295)
def okMg (m:Mg):Bool:=decide (1≤m.uid∧m.uid≤4294967295∧okF m.flags=true∧0≤m.date∧m.date≤1099511627776∧m.body.length≤2000)
def OkTo (next:Int)(l:List Mg):Prop:=(∀ m∈l,okMg m=true∧m.uid<next)∧l.Pairwise (fun a b=>a.uid<b.uid)
def OkBx (b:Bx):Prop:=1≤b.valid∧b.valid≤4294967295∧1≤b.next∧b.next≤4294967296∧b.msgs.length≤40∧OkTo b.next b.msgs
open Classical in
noncomputable def okBx (b:Bx):Bool:=decide (OkBx b)
theorem zpj {b:Bx}(h:OkBx b):okBx b=true:=by unfold okBx;simpa using h
theorem zfa {b:Bx}(h:¬ OkBx b):okBx b=false:=by unfold okBx;simpa using h
theorem zyf {b:Bx}:okBx b=true↔OkBx b:=by unfold okBx;simp
theorem zfb {m:Mg}(h:okMg m=true):1≤m.uid∧m.uid≤4294967295∧okF m.flags=true∧0≤m.date∧m.date≤1099511627776∧m.body.length≤2000:=by
 unfold okMg at h;simpa using h
theorem zke {m:Mg}(h:1≤m.uid∧m.uid≤4294967295∧okF m.flags=true∧0≤m.date∧m.date≤1099511627776∧m.body.length≤2000):okMg m=true:=by
 unfold okMg;exact decide_eq_true h
theorem zgh {m:Mg}(h:¬ (1≤m.uid∧m.uid≤4294967295∧okF m.flags=true∧0≤m.date∧m.date≤1099511627776∧m.body.length≤2000)):okMg m=false:=by
 unfold okMg;exact decide_eq_false h
theorem zyg (next:Int)(l:List Mg):OkTo next (l.take 0):=⟨fun m h=>(by cases h),List.Pairwise.nil⟩
theorem zyh {next:Int}{l:List Mg}{a:Mg}(ha:l[0]?=some a)(h1:okMg a=true)(h2:a.uid<next):OkTo next (l.take 1):=by
 rw[List.take_add_one,ha];refine⟨fun m hm=>?_,by simp⟩;have e:m=a:=by simpa using hm
 rw[e];exact⟨h1,h2⟩
theorem zyi {next:Int}{l:List Mg}{k:Nat}{p a:Mg}(h:OkTo next (l.take (k+1)))(hp:l[k]?=some p)(ha:l[k+1]?=some a)(h1:okMg a=true)(h2:a.uid<next)(h3:p.uid<a.uid):OkTo next (l.take (k+2)):=by
 rw[List.take_add_one,ha];have e:l.take (k+1)=l.take k++[p]:=by rw[List.take_add_one,hp];rfl
 refine⟨fun m hm=>?_,?_⟩
 ·rcases List.mem_append.1 hm with hm|hm
  ·exact h.1 m hm
  ·have e2:m=a:=by simpa using hm
   rw[e2];exact⟨h1,h2⟩
 ·have hpw:=h.2
  rw[e] at hpw ⊢
  show(l.take k++[p]++[a]).Pairwise _
  rw[List.pairwise_append];refine⟨hpw,List.pairwise_singleton ..,fun x hx y hy=>?_⟩;rw[List.mem_singleton.1 hy];rcases List.mem_append.1 hx with hx|hx
  ·have:=(List.pairwise_append.1 hpw).2.2 x hx p (List.mem_singleton_self p)
   omega
  ·rw[List.mem_singleton.1 hx];exact h3
theorem zyj {next:Int}{l:List Mg}{k:Nat}(h:OkTo next (l.take k))(hk:l.length≤k):OkTo next l:=by
 rwa [List.take_of_length_le hk] at h
theorem zyk {next:Int}{l:List Mg}{k:Nat}{p a:Mg}(hp:l[k]?=some p)(ha:l[k+1]?=some a)(h:a.uid≤p.uid):¬ OkTo next l:=fun H=>by
 have h1:k+1<l.length:=(List.getElem?_eq_some_iff.1 ha).1;have h2:k<l.length:=by omega
 have:=List.pairwise_iff_getElem.1 H.2 k (k+1) h2 h1 (by omega);have e1:l[k]'h2=p:=Option.some.inj (by rw[← List.getElem?_eq_getElem h2];exact hp);have e2:l[k+1]'h1=a:=Option.some.inj (by rw[← List.getElem?_eq_getElem h1];exact ha);rw[e1,e2] at this;omega
def zh5:List Mg→Int→Nat
 | [],_=>0
 | m::l,u=>if m.uid=u then 1 else if zh5 l u=0 then 0 else zh5 l u+1
noncomputable def addE (b:Bx)(m:Mg):Int :=
 open Classical in
 if ¬ (OkBx b∧okMg { m with uid:=1 }=true)then 1 else if 4294967295<b.next then 13 else if b.msgs.length=40 then 8 else 0
noncomputable def addB (b:Bx)(m:Mg):Bx:=if addE b m=0 then { b with next:=b.next+1,msgs:=b.msgs++[{ m with uid:=b.next }] } else b
noncomputable def addN (b:Bx)(m:Mg):Int:=if addE b m=0 then b.next else 0
theorem zyl {b:Bx}{m:Mg}(h:addE b m=0):OkBx b∧okMg { m with uid:=1 }=true∧b.next≤4294967295∧b.msgs.length<40:=by
 unfold addE at h;by_cases h1:OkBx b∧okMg { m with uid:=1 }=true
 ·rw[if_neg (fun e=>e h1)] at h
  by_cases h2:4294967295<b.next
  ·rw[if_pos h2] at h;omega
  ·rw[if_neg h2] at h
   by_cases h3:b.msgs.length=40
   ·rw[if_pos h3] at h;omega
   ·have:=h1.1.2.2.2.2.1
    exact⟨h1.1,h1.2,by omega,by omega⟩
 ·rw[if_pos h1] at h;omega
theorem zpk {b:Bx}{m:Mg}(h:addE b m≠0):addB b m=b∧addN b m=0:=by unfold addB addN;rw[if_neg h,if_neg h];exact⟨rfl,rfl⟩
theorem zh6 {b:Bx}{m:Mg}(h:addE b m=0):addB b m={ b with next:=b.next+1,msgs:=b.msgs++[{ m with uid:=b.next }] }∧addN b m=b.next:=by unfold addB addN;rw[if_pos h,if_pos h];exact⟨rfl,rfl⟩
theorem zkf {b:Bx}{m:Mg}(h:addE b m=0):OkBx (addB b m):=by
 obtain⟨hb,hm,hn,hl⟩:=zyl h;rw[(zh6 h).1];obtain⟨h1,h2,h3,h4,h5,h6,h7⟩:=hb;have hk:=zfb hm;refine⟨h1,h2,by show 1≤b.next+1;omega,by show b.next+1≤_;omega,by show(b.msgs++_).length≤40;simp;omega,?_,?_⟩
 ·intro x hx
  show okMg x=true∧x.uid<b.next+1
  rcases List.mem_append.1 hx with hx|hx
  ·have:=h6 x hx;exact⟨this.1,by omega⟩
  ·rw[List.mem_singleton.1 hx]
   exact⟨zke ⟨by show 1≤b.next;omega,by show b.next≤_;omega,hk.2.2⟩,by show b.next<_;omega⟩
 ·show(b.msgs++[_]).Pairwise _
  rw[List.pairwise_append];refine⟨h7,List.pairwise_singleton ..,fun x hx y hy=>?_⟩;rw[List.mem_singleton.1 hy];exact(h6 x hx).2
def zd2 (l:List Mg)(ids:List Int):Bool:=ids.all (fun u=>zh5 l u != 0)
def setF (mode flags:Int)(m:Mg):Mg:={ m with flags:=apV m.flags mode flags }
def zc9 (l:List Mg)(ids:List Int)(mode flags:Int):List Mg:=l.map (fun m=>if m.uid∈ids then setF mode flags m else m)
noncomputable def zbn (b:Bx)(ids:List Int)(mode flags:Int):Int :=
 open Classical in
 if ¬ (OkBx b∧apE 0 mode flags=0)then 1 else if zd2 b.msgs ids=false then 6 else 0
noncomputable def zbd (b:Bx)(ids:List Int)(mode flags:Int):Bx:=if zbn b ids mode flags=0 then { b with msgs:=zc9 b.msgs ids mode flags } else b
theorem zym {b:Bx}{ids:List Int}{mode flags:Int}(h:zbn b ids mode flags=0):OkBx b∧apE 0 mode flags=0∧zd2 b.msgs ids=true:=by
 unfold zbn at h;by_cases h1:OkBx b∧apE 0 mode flags=0
 ·rw[if_neg (fun e=>e h1)] at h
  cases h2:zd2 b.msgs ids
  ·rw[h2,if_pos rfl] at h;omega
  ·exact⟨h1.1,h1.2,rfl⟩
 ·rw[if_pos h1] at h;omega
theorem zpl {b:Bx}{ids:List Int}{mode flags:Int}(h:zbn b ids mode flags≠0):zbd b ids mode flags=b:=by unfold zbd;rw[if_neg h]
theorem zgi {b:Bx}{ids:List Int}{mode flags:Int}(h:zbn b ids mode flags=0):zbd b ids mode flags={ b with msgs:=zc9 b.msgs ids mode flags }:=by unfold zbd;rw[if_pos h]
def zh7 (l:List Mg)(ids:List Int):List Mg:=l.filter (fun m=>decide (m.uid∈ids))
def zgj (l:List Mg)(ids:List Int):List Mg:=l.filter (fun m=>decide (m.uid ∉ ids))
noncomputable def tkE (b:Bx)(ids:List Int):Int :=
 open Classical in
 if ¬ OkBx b then 1 else if zd2 b.msgs ids=false then 6 else 0
noncomputable def tkB (b:Bx)(ids:List Int):Bx:=if tkE b ids=0 then { b with msgs:=zgj b.msgs ids } else b
noncomputable def tkM (b:Bx)(ids:List Int):List Mg:=if tkE b ids=0 then zh7 b.msgs ids else []
theorem zpm {b:Bx}{ids:List Int}(h:tkE b ids=0):OkBx b∧zd2 b.msgs ids=true:=by
 unfold tkE at h;by_cases h1:OkBx b
 ·rw[if_neg (fun e=>e h1)] at h
  cases h2:zd2 b.msgs ids
  ·rw[h2,if_pos rfl] at h;omega
  ·exact⟨h1,rfl⟩
 ·rw[if_pos h1] at h;omega
theorem zpn {b:Bx}{ids:List Int}(h:tkE b ids≠0):tkB b ids=b∧tkM b ids=[]:=by unfold tkB tkM;rw[if_neg h,if_neg h];exact⟨rfl,rfl⟩
theorem zfc {b:Bx}{ids:List Int}(h:tkE b ids=0):tkB b ids={ b with msgs:=zgj b.msgs ids }∧tkM b ids=zh7 b.msgs ids:=by unfold tkB tkM;rw[if_pos h,if_pos h];exact⟨rfl,rfl⟩
theorem zyn (l:List Mg)(ids:List Int):(zgj l ids).length≤l.length:=List.length_filter_le ..
end Go.Proofs.YtmjjefnmabbgdaaGreatDoor
