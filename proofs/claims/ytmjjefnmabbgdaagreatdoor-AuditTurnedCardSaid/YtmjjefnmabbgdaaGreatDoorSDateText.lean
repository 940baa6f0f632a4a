/- A part of the proof. -/
import Derived.Test.YtmjjefnmabbgdaaGreatDoorSPackMath
import Derived.Lib.Strings
import Derived.Lib.Split
import Derived.Lib.SplitLaws
import Derived.Lib.FieldsP
import Derived.Lib.DecodeN
import Derived.Lib.ItoaNum
import Derived.Lib.ParseIntBCases
namespace Go.Proofs.YtmjjefnmabbgdaaGreatDoor
set_option linter.unusedVariables false
set_option linter.unusedSimpArgs false
set_option maxRecDepth 100000
set_option maxHeartbeats 16000000
open Go.Lib
theorem zfk (s:ByteArray)(a b:Nat):nats (s.extract a b)=((nats s).drop a).take (b-a):=by
 unfold nats;rw[extract_data,List.map_take,List.map_drop]
theorem nats_mem {s:ByteArray}{c:UInt8}:c.toNat∈nats s↔c∈s.data.toList:=by
 unfold nats;rw[List.mem_map];exact⟨fun ⟨x,hx,e⟩=>by rw[← UInt8.toNat_inj.1 e];exact hx,fun h=>⟨c,h,rfl⟩⟩
theorem zqm {a b:ByteArray}(h:nats a=nats b):a=b:=by rw[← zaw a,← zaw b,h]
theorem zas (s:ByteArray)(i:Nat)(h:i<s.size):(nats s)[i]?=some s[i].toNat:=by
 unfold nats;rw[List.getElem?_map,data_getElem? s i h];rfl
theorem zqn (c:UInt8):∀ l:List UInt8,(c ∉ l∧indexByte l c=-1)∨∃ p r,l=p++c::r∧c ∉ p∧indexByte l c=(p.length:Int)
 | []=>.inl ⟨by simp,rfl⟩
 | b :: l => by
   by_cases hb:b=c
   ·subst hb
    exact .inr ⟨[],l,rfl,by simp,by unfold indexByte;simp⟩
   ·have hbc:(b == c)=false:=by simpa using hb
    rcases zqn c l with ⟨h1,h2⟩|⟨p,r,rfl,h2,h3⟩
    ·refine .inl ⟨by simp only[List.mem_cons,not_or];exact⟨fun e=>hb e.symm,h1⟩,?_⟩
     unfold indexByte;rw[hbc,h2];simp
    ·refine .inr ⟨b::p,r,rfl,by simp only[List.mem_cons,not_or];exact⟨fun e=>hb e.symm,h2⟩,?_⟩
     unfold indexByte;rw[hbc,h3];have:((p.length:Int) == -1)=false:=by simp
     rw[this];simp
theorem zkv (s:ByteArray)(c:UInt8):((∀ x∈nats s,x≠c.toNat)∧indexB s ⟨#[c]⟩=-1) ∨
 ∃ i:Nat,indexB s ⟨#[c]⟩=i∧i<s.size∧(∀ x∈(nats s).take i,x≠c.toNat)∧nats s=(nats s).take i++c.toNat::(nats s).drop (i+1):=by
 have e:indexB s ⟨#[c]⟩=indexByte s.data.toList c:=index_one _ _;rw[e];rcases zqn c s.data.toList with ⟨h1,h2⟩|⟨p,r,hl,h2,h3⟩
 ·exact .inl ⟨fun x hx hc=>h1 (nats_mem.1 (by rw[← hc];exact hx)),h2⟩
 ·have hn:nats s=p.map (·.toNat)++c.toNat::r.map (·.toNat):=by unfold nats;rw[hl];simp
  have hp:(p.map (·.toNat)).length=p.length:=List.length_map ..;refine .inr ⟨p.length,h3,?_,?_,?_⟩
  ·have:=congrArg List.length hn
   rw[jn] at this;simp at this;omega
  ·rw[hn,← hp,List.take_left']
   ·intro x hx hc
    obtain⟨y,hy,rfl⟩:=List.mem_map.1 hx;exact h2 (by rw[← UInt8.toNat_inj.1 hc];exact hy)
   ·rfl
  ·rw[hn,← hp,List.take_left' rfl]
   congr 1
   rw[← List.drop_drop,List.drop_left' rfl];rfl
theorem zqo (c:UInt8):∀ (k:Nat) (s:ByteArray),countB s ⟨#[c]⟩≤k→(splitB ⟨#[c]⟩ 0 k s).map nats=zah c.toNat (nats s)
 | 0, s, hk => by
   rcases zkv s c with ⟨h1,h2⟩|⟨i,h1,h2,h3,h4⟩
   ·rw[zpi h1];rfl
   ·have:=countB_hit s ⟨#[c]⟩ i (Nat.le_refl _) h1
    omega
 | k + 1, s, hk => by
   rcases zkv s c with ⟨h1,h2⟩|⟨i,h1,h2,h3,h4⟩
   ·rw[splitB_miss _ _ _ _ h2,zpi h1];rfl
   ·have hc:=countB_hit s ⟨#[c]⟩ i (Nat.le_refl _) h1
    rw[splitB_hit _ _ _ _ i h1,List.map_cons,zqo c k _ (by have:(⟨#[c]⟩:ByteArray).size=1:=rfl;rw[this] at hc ⊢;omega)]
    conv=>rhs;rw[h4,zye _ h3]
    rw[zfk,zfk]
    congr 1
    congr 1
    refine List.take_of_length_le ?_;rw[List.length_drop,jn];exact Nat.le_refl _
theorem zz9 {c:Nat}{l:List Nat}(h:∀ x∈l,x<256):∀ p∈zah c l,∀ x∈p,x<256:=by
 have:∀ (l cur:List Nat),(∀ x∈l,x<256)→(∀ x∈cur,x<256)→∀ p∈zag c cur l,∀ x∈p,x<256:=by
  intro l
  induction l with
  | nil=>intro cur _ hc p hp;simp only[zag,List.mem_singleton] at hp;subst hp;exact hc
  | cons a l ih =>
    intro cur hl hc p hp;unfold zag at hp
    split at hp
    ·rcases List.mem_cons.1 hp with rfl|hp
     ·exact hc
     ·exact ih [] (fun x hx=>hl x (List.mem_cons_of_mem _ hx)) (by simp) p hp
    ·refine ih _ (fun x hx=>hl x (List.mem_cons_of_mem _ hx)) (fun x hx=>?_) p hp
     rcases List.mem_append.1 hx with hx|hx
     ·exact hc x hx
     ·rw[List.mem_singleton.1 hx];exact hl a (List.mem_cons_self ..)
 exact this l [] h (by simp)
def okE (z:Int):Prop:=0≤z∧z≤4294967295
abbrev Rg:=Int×Int
def okR (r:Rg):Prop:=okE r.1∧okE r.2
instance (z:Int):Decidable (okE z):=by unfold okE;infer_instance
instance (r:Rg):Decidable (okR r):=by unfold okR;infer_instance
def jr (l:List Rg):Bool:=decide (1≤l.length∧l.length≤60∧∀ r∈l,okR r)
def zic (last z:Int):Int:=if z=0 then last else z
def inR (last n:Int)(r:Rg):Bool:=decide (min (zic last r.1) (zic last r.2)≤n∧n≤max (zic last r.1) (zic last r.2))
def hasZ (l:List Rg)(n last:Int):Bool:=decide (1≤n) && l.any (inR last n)
def zcl (l:List Int)(i:Nat):Bool:=decide (1≤l.getD i 0∧l.getD i 0≤4294967295∧(i=0∨l.getD (i-1) 0<l.getD i 0))
def zel (l:List Int):Bool:=decide (∀ i,i<l.length→zcl l i=true)
theorem zgz {l:List Int}{k:Nat}(hk:k<l.length)(h:zcl l k=false):zel l=false:=decide_eq_false fun e=>by rw[e k hk] at h;cases h
end Go.Proofs.YtmjjefnmabbgdaaGreatDoor
namespace Go.Proofs.YtmjjefnmabbgdaaGreatDoor
set_option linter.unusedVariables false
set_option linter.unusedSimpArgs false
set_option maxRecDepth 100000
set_option maxHeartbeats 16000000
def jh (c:Nat):Bool:=decide (32<c∧c≤126∧c≠40∧c≠41∧c≠123∧c≠37∧c≠42∧c≠34∧c≠92)
def zbo (l:List Nat)(i:Nat):Bool:=jh (l.getD i 0) && !decide (l.getD i 0=47∧(i=0∨i+1=l.length∨l.getD (i-1) 0=47))
def qd (l:List Nat):Bool:=decide (1≤l.length∧l.length≤40∧(∀ i,i<l.length→zbo l i=true)∧l.count 47≤3)
def upC (c:Nat):Nat:=if 97≤c∧c≤122 then c-32 else c
def inboxL:List Nat:=[73,78,66,79,88]
def zay (l:List Nat):Bool:=decide ((l.take 5).map upC=inboxL∧(l.length=5∨l[5]?=some 47))
def zcm (l:List Nat):List Nat:=if zay l=true then inboxL++l.drop 5 else l
def jx (l:List Nat):Int:=if qd l=true then 0 else 3
def zu (l:List Nat):List Nat:=if qd l=true then zcm l else []
def js (l:List Nat):Bool:=decide (qd l=true∧zcm l=l)
def zqp (l:List Nat):List (List Nat):=(List.range l.length).filterMap fun i=>if l[i]?=some 47 then some (l.take i)else none
def zkw (l:List Nat):List (List Nat):=if js l=true then zqp l else []
def zid (l top:List Nat):Bool:=decide (top∈zkw l)
theorem zie {l:List Nat}{i:Nat}(h:zbo l i=true):jh (l.getD i 0)=true∧¬ (l.getD i 0=47∧(i=0∨i+1=l.length∨l.getD (i-1) 0=47)):=by
 unfold zbo at h;rw[Bool.and_eq_true,Bool.not_eq_true'] at h;exact⟨h.1,of_decide_eq_false h.2⟩
theorem zg0 {l:List Nat}{i:Nat}(h1:jh (l.getD i 0)=true)(h2:¬ (l.getD i 0=47∧(i=0∨i+1=l.length∨l.getD (i-1) 0=47))):zbo l i=true:=by
 unfold zbo;rw[Bool.and_eq_true,Bool.not_eq_true'];exact⟨h1,decide_eq_false h2⟩
theorem z0a {l:List Nat}(h:qd l=true):∀ c∈l,jh c=true:=fun c hc=>by
 obtain⟨i,hi,rfl⟩:=List.mem_iff_getElem.1 hc;have:=(zie ((of_decide_eq_true h).2.2.1 i hi)).1
 rwa [List.getD_eq_getElem?_getD,List.getElem?_eq_getElem hi] at this
theorem z0b {c:Nat}(h:jh c=true):32<c∧c≤126∧c≠42∧c≠37:=by
 have:=of_decide_eq_true h;omega
theorem z0c {l:List Nat}(h:zay l=true):∃ a r,l=a++r∧a.length=5∧a.map upC=inboxL∧(r=[]∨∃ r',r=47::r'):=by
 obtain⟨h1,h2⟩:=of_decide_eq_true h;have hl:(l.take 5).length=5:=by have:=congrArg List.length h1;simpa [inboxL] using this
 refine⟨l.take 5,l.drop 5,(List.take_append_drop 5 l).symm,hl,h1,?_⟩;rcases h2 with h2|h2
 ·exact .inl (List.drop_eq_nil_of_le (by omega))
 ·obtain⟨h5,he⟩:=List.getElem?_eq_some_iff.1 h2
  exact .inr ⟨l.drop 6,by rw[List.drop_eq_getElem_cons h5,he]⟩
theorem z0d {l a r:List Nat}(h:zay l=true)(e:l=a++r)(ha:a.length=5):zcm l=inboxL++r:=by
 unfold zcm;rw[if_pos h,e,List.drop_append_of_le_length (by omega),List.drop_eq_nil_of_le (by omega),List.nil_append]
theorem z0e {c d:Nat}(h:upC c=d)(hd:65≤d∧d≤90):65≤c∧c≤122∧¬ (90<c∧c<97):=by
 unfold upC at h
 split at h<;>omega
theorem zqq {a:List Nat}(h:a.map upC=inboxL):∀ i,i<5→65≤a.getD i 0∧a.getD i 0≤122∧¬ (90<a.getD i 0∧a.getD i 0<97):=by
 intro i hi;have hl:a.length=5:=by have:=congrArg List.length h;simpa [inboxL] using this
 have hx:=congrArg (·[i]?) h;simp only[List.getElem?_map] at hx;rw[List.getElem?_eq_getElem (by omega)] at hx;rw[List.getD_eq_getElem?_getD,List.getElem?_eq_getElem (by omega)]
 show 65≤a[i]∧a[i]≤122∧_
 simp only[Option.map_some] at hx;have hd:∀ j,j<5→∃ d,inboxL[j]?=some d∧65≤d∧d≤90:=by decide
 obtain⟨d,e1,e2⟩:=hd i hi;rw[e1] at hx;injection hx with hx;exact z0e hx e2
theorem zqr:inboxL.map upC=inboxL:=by decide
theorem zqs {c:Nat}(h:65≤c∧c≤122∧¬ (90<c∧c<97)):jh c=true∧c≠47:=by
 refine⟨decide_eq_true ?_,?_⟩<;>omega
theorem zkx (a r:List Nat){i:Nat}(h:i<a.length):(a++r).getD i 0=a.getD i 0:=by
 rw[List.getD_eq_getElem?_getD,List.getD_eq_getElem?_getD,List.getElem?_append_left h]
theorem zg1 (a r:List Nat){i:Nat}(h:a.length≤i):(a++r).getD i 0=r.getD (i-a.length) 0:=by
 rw[List.getD_eq_getElem?_getD,List.getD_eq_getElem?_getD,List.getElem?_append_right h]
theorem zqt {a b r:List Nat}(ha:a.map upC=inboxL)(hb:b.map upC=inboxL)(h:qd (a++r)=true):qd (b++r)=true:=by
 have hla:a.length=5:=by have:=congrArg List.length ha;simpa [inboxL] using this
 have hlb:b.length=5:=by have:=congrArg List.length hb;simpa [inboxL] using this
 have hA:=zqq ha;have hB:=zqq hb;obtain⟨h1,h2,h3,h4⟩:=of_decide_eq_true h;rw[List.length_append] at h1 h2 h3;have hcnt:∀ c:List Nat,c.map upC=inboxL→c.count 47=0:=by
  intro c hc;rw[List.count_eq_zero];intro hm;have:upC 47∈c.map upC:=List.mem_map_of_mem hm;rw[hc] at this;exact absurd this (by decide)
 refine decide_eq_true ⟨by rw[List.length_append];omega,by rw[List.length_append];omega,fun i hi=>?_,?_⟩
 ·rw[List.length_append] at hi
  by_cases h5:i<5
  ·obtain⟨p1,p2⟩:=zqs (hB i h5)
   refine zg0 ?_ ?_
   ·rw[zkx b r (by omega)];exact p1
   ·rw[zkx b r (by omega)];exact fun hx=>p2 hx.1
  ·obtain⟨p1,p2⟩:=zie (h3 i (by omega))
   rw[zg1 a r (by omega),hla] at p1 p2;rw[List.length_append,hla] at p2;refine zg0 ?_ ?_
   ·rw[zg1 b r (by omega),hlb];exact p1
   ·rw[zg1 b r (by omega),hlb,List.length_append,hlb]
    rintro⟨e,e2⟩;refine p2 ⟨e,?_⟩;rcases e2 with e2|e2|e2
    ·omega
    ·exact .inr (.inl e2)
    ·by_cases h6:i=5
     ·subst h6
      rw[zkx b r (by omega)] at e2;exact absurd e2 (zqs (hB 4 (by omega))).2
     ·rw[zg1 b r (by omega),hlb] at e2
      rw[zg1 a r (by omega),hla];exact .inr (.inr e2)
 ·rw[List.count_append,hcnt a ha] at h4
  rw[List.count_append,hcnt b hb];exact h4
theorem z0f (l:List Nat):qd (zcm l)=qd l:=by
 by_cases h:zay l=true
 ·obtain⟨a,r,e,hl,ha,_⟩:=z0c h
  rw[z0d h e hl,e,Bool.eq_iff_iff];exact⟨zqt zqr ha,zqt ha zqr⟩
 ·unfold zcm;rw[if_neg h]
theorem zqu {l:List Nat}(h:qd l=false):js l=false:=decide_eq_false fun e=>by rw[h] at e;cases e.1
def zky (f:List Nat→Bool)(g:Nat→Bool):List Nat→Bool
 | []=>f []
 | x::t=>f (x::t) || (g x && zky f g t)
def oneF (f:List Nat→Bool)(c:Nat):List Nat→Bool
 | []=>false
 | x::t=>decide (x=c) && f t
def zif:List Nat→List Nat→Bool
 | [],s=>s.isEmpty
 | c::p,s=>if c=42 then zky (zif p) (fun _=>true) s else if c=37 then zky (zif p) (fun x=>decide (x≠47)) s else oneF (zif p) c s
def ltS (a b:ByteArray):Prop:=a.data.toList<b.data.toList
instance (a b:ByteArray):Decidable (ltS a b):=inferInstanceAs (Decidable (a.data.toList<b.data.toList))
theorem zfl (a:ByteArray):¬ ltS a a:=List.lt_irrefl _
theorem zbp {a b c:ByteArray}(h:ltS a b)(h2:ltS b c):ltS a c:=List.lt_trans h h2
theorem zqv {a b:ByteArray}(h:a.data.toList=b.data.toList):a=b:=by
 obtain⟨⟨x⟩⟩:=a;obtain⟨⟨y⟩⟩:=b;simp only at h;rw[h]
theorem zfm (a b:ByteArray):ltS a b∨a=b∨ltS b a:=by
 by_cases h:ltS a b
 ·exact .inl h
 ·by_cases h2:ltS b a
  ·exact .inr (.inr h2)
  ·exact .inr (.inl (zqv (List.le_antisymm (List.not_lt.1 h2) (List.not_lt.1 h))))
theorem zig {a b:ByteArray}(h:ltS a b):a≠b:=fun e=>zfl b (by rw[e] at h;exact h)
theorem zd5 {a b:ByteArray}(h:ltS a b):¬ ltS b a:=fun h2=>zfl a (zbp h h2)
abbrev Rul:=ByteArray×Int
def z0g (l:List Rul)(box:ByteArray):Int:=match l.find? (fun r=>decide (r.1=box))with|some r=>r.2|none=>0
def zdd (l:List Rul):Prop:=l.Pairwise (fun p q=>ltS p.1 q.1)
def newR (box:ByteArray)(keep:Int):List Rul:=if 0<keep then [(box,keep)] else []
def setR (l:List Rul)(box:ByteArray)(keep:Int):List Rul:=l.filter (fun r=>decide (ltS r.1 box))++(newR box keep++l.filter (fun r=>decide (ltS box r.1)))
theorem mem_newR {p:Rul}{b:ByteArray}{k:Int}:p∈newR b k↔0<k∧p=(b,k):=by
 unfold newR
 split
 ·rename_i h
  simp[h]
 ·rename_i h
  simp[h]
theorem mem_setR {p:Rul}{l:List Rul}{b:ByteArray}{k:Int}:p∈setR l b k↔(p∈l∧p.1≠b)∨(0<k∧p=(b,k)):=by
 unfold setR;rw[List.mem_append,List.mem_append,List.mem_filter,List.mem_filter,mem_newR,decide_eq_true_iff,decide_eq_true_iff];constructor
 ·rintro(⟨h1,h2⟩|h|⟨h1,h2⟩)
  ·exact .inl ⟨h1,zig h2⟩
  ·exact .inr h
  ·exact .inl ⟨h1,fun e=>zig h2 e.symm⟩
 ·rintro(⟨h1,h2⟩|h)
  ·rcases zfm p.1 b with h3|h3|h3
   ·exact .inl ⟨h1,h3⟩
   ·exact absurd h3 h2
   ·exact .inr (.inr ⟨h1,h3⟩)
  ·exact .inr (.inl h)
theorem z0h {l:List Rul}(h:zdd l)(b:ByteArray)(k:Int):zdd (setR l b k):=by
 unfold setR zdd;have h1:∀ p∈newR b k,p.1=b:=fun p hp=>by rw[(mem_newR.1 hp).2]
 rw[List.pairwise_append];refine⟨h.filter _,?_,?_⟩
 ·rw[List.pairwise_append]
  refine⟨?_,h.filter _,fun p hp q hq=>?_⟩
  ·unfold newR
   split
   ·exact List.pairwise_singleton _ _
   ·exact List.Pairwise.nil
  ·rw[h1 p hp]
   exact of_decide_eq_true (List.mem_filter.1 hq).2
 ·intro p hp q hq
  have h2:ltS p.1 b:=of_decide_eq_true (List.mem_filter.1 hp).2;rcases List.mem_append.1 hq with hq|hq
  ·rw[h1 q hq];exact h2
  ·exact zbp h2 (of_decide_eq_true (List.mem_filter.1 hq).2)
def z0i (at_ keep now:Int):Bool:=decide (min (max at_ 0+max keep 0) 4611686018427387904≤now)
structure Hh where
 id:Int
 box:ByteArray
 A:Option Addr
 n:Nat
 c:Nat
 set:List Rg
def oneB (h:Hh)(box:ByteArray)(uid:Int):Bool:=decide (h.box=box) && (decide (h.set=[]) || hasZ h.set uid 4294967295)
def z0j (l:List Hh)(box:ByteArray)(uid:Int):Bool:=l.any fun h=>oneB h box uid
structure Tm where
 id:Int
 box:ByteArray
 at_:Int
 uid:Int
 flags:Int
 date:Int
 A:Option Addr
 n:Nat
 c:Nat
def z0k (rs:List Rul)(hs:List Hh)(now:Int)(t:Tm):Bool:=z0i t.at_ (z0g rs t.box) now && !z0j hs t.box t.uid
end Go.Proofs.YtmjjefnmabbgdaaGreatDoor
