/- A part of the proof. -/
import Derived.Test.YtmjjefnmabbgdaaGreatDoorSBoxDr
import Derived.BigRegion
namespace Go.Proofs.YtmjjefnmabbgdaaGreatDoor
set_option linter.unusedVariables false
set_option linter.unusedSimpArgs false
set_option maxRecDepth 100000
set_option maxHeartbeats 16000000
open Go.RowKit
def Chg (e:TypeId)(base:Nat)(w w':World):Prop:=Below base w w'∧∃ row,w.grownBy w' row∧∀ b cs t fr,row=some b→base≤b→w.heap[b]?=some (.cells cs t fr)→t=e
theorem Chg.cell {w:World}{b base:Nat}{e:TypeId}{cs:Array Value}(h:Bk w b e cs)(hb:base≤b)(i:Nat)(v:Value):Chg e base w (w.setCell ⟨b,i,none⟩ v) :=
 ⟨(Below.refl base w).setCell hb v, some b, jk w b i v, fun b' cs' t fr q _ hh => by
   injection q with q;subst q;unfold Bk at h;rw[h] at hh;injection hh with hh;injection hh with _ q2 _
   exact q2.symm⟩
theorem Chg.of {w w':World}{b base:Nat}{e:TypeId}{cs:Array Value}(h:Bk w b e cs)(hg:w.grownBy w' (some b))(hb:Below base w w'):Chg e base w w' :=
 ⟨hb,some b,hg,fun b' cs' t fr q _ hh=>by
  injection q with q;subst q;unfold Bk at h;rw[h] at hh;injection hh with hh;injection hh with _ q2 _
  exact q2.symm⟩
theorem Chg.row {w w':World}{base k n:Nat}{e:TypeId}{v:Value}{xs:List Value}(h:w.ownsRow base e k v n xs)(hg:w.grownBy w' v.ownBlock)(hb:Below base w w'):Chg e base w w' :=
 ⟨hb,v.ownBlock,hg,fun b cs t fr q _ hh=>Classical.byContradiction fun hne=>ziy h (fun q2=>hne q2.symm) b cs fr q hh⟩
theorem Bk.chg {w w':World}{b base:Nat}{e t:TypeId}{cs:Array Value}(h:Bk w b t cs)(hc:Chg e base w w')(hne:t≠e):Bk w' b t cs:=by
 by_cases hb:base≤b
 ·obtain⟨_,row,hg,ht⟩:=hc
  unfold Bk at h ⊢;exact(hg.block b (Array.getElem?_eq_some_iff.1 h).1 (fun q=>hne (ht b cs t (0,0) q.symm hb h))).trans h
 ·exact h.below hc.1 (by omega)
section
variable {α β:Type} {k:Nat} {f:α→List Value} {w w':World} {base base' n c:Nat} {e:TypeId} {A:Option Addr}
theorem OwnK.chg {t:TypeId}{l:List α}(h:OwnK k f w base e A n c l)(hc:Chg t base w w')(hne:e≠t):OwnK k f w' base e A n c l:=by
 obtain⟨_,row,hg,ht⟩:=hc;exact⟨zcc h.1 hg (fun b cs fr q hb hh=>hne (ht b cs e fr q hb hh)),h.2⟩
theorem OwnB.chg {t:TypeId}{l:List Nat}(h:OwnB w base e A n c l)(hc:Chg t base w w')(hne:e≠t):OwnB w' base e A n c l:=by
 obtain⟨_,row,hg,ht⟩:=hc;exact⟨zcc h.1 hg (fun b cs fr q hb hh=>hne (ht b cs e fr q hb hh)),h.2⟩
theorem OwnM.chg {t:TypeId}{l:List Mg}(h:OwnM w base A n c l)(hc:Chg t base w w')(h1:108≠t)(h2:5≠t):OwnM w' base A n c l:=by
 obtain⟨hs,a1,a2,a3⟩:=h;exact⟨hs,a1.chg hc h1,fun x hx=>(a2 x hx).chg hc h2,a3⟩
end
structure OwnsP {α:Type}(T:TypeId→Prop)(P:World→Nat→α→Prop):Prop where
 below:∀ {w w':World} {base:Nat} {a:α},P w base a→Below w.heap.size w w'→P w' base a
 chg:∀ {w w':World} {base:Nat} {a:α} {t:TypeId},P w base a→Chg t base w w'→¬ T t→P w' base a
 from_:∀ {w:World} {base base':Nat} {a:α},P w base a→base'≤base→P w base' a
def NestO {α β:Type}(k:Nat)(f:α→List Value)(e:TypeId)(P:World→Nat→α→Prop)(g:α→β)(w:World)(base:Nat)(A:Option Addr)(n c:Nat)(l:List β):Prop :=
 ∃ hs:List α,OwnK k f w base e A n c hs∧(∀ h∈hs,P w base h)∧hs.map g=l
section
variable {α β:Type} {k:Nat} {f:α→List Value} {P:World→Nat→α→Prop} {P':World→Nat→α→Prop} {g:α→β} {w w':World} {base base' n c:Nat} {A:Option Addr} {l:List β} {e:TypeId} {T:TypeId→Prop}
theorem NestO.nil (hk:∀ a,(f a).length=k):NestO k f e P g w base none 0 0 []:=⟨[],OwnK.nil hk,fun h hh=>(by cases hh),rfl⟩
theorem NestO.len (h:NestO k f e P g w base A n c l):l.length=n:=by
 obtain⟨hs,h1,_,h3⟩:=h;rw[← h3,List.length_map,h1.len]
theorem NestO.cap (h:NestO k f e P g w base A n c l):n≤c∧c≤maxLen:=by
 obtain⟨hs,h1,_,_⟩:=h;exact h1.cap
theorem NestO.below (S:OwnsP T P)(h:NestO k f e P g w base A n c l)(hb:Below w.heap.size w w'):NestO k f e P g w' base A n c l:=by
 obtain⟨hs,h1,h2,h3⟩:=h;exact⟨hs,h1.below hb,fun x hx=>S.below (h2 x hx) hb,h3⟩
theorem NestO.chg {t:TypeId}(S:OwnsP T P)(h:NestO k f e P g w base A n c l)(hc:Chg t base w w')(h1:e≠t)(h2:¬ T t):NestO k f e P g w' base A n c l:=by
 obtain⟨hs,a1,a2,a3⟩:=h;exact⟨hs,a1.chg hc h1,fun x hx=>S.chg (a2 x hx) hc h2,a3⟩
theorem NestO.from_ (S:OwnsP T P)(h:NestO k f e P g w base A n c l)(hb:base'≤base):NestO k f e P g w base' A n c l:=by
 obtain⟨hs,h1,h2,h3⟩:=h;exact⟨hs,h1.from_ hb,fun x hx=>S.from_ (h2 x hx) hb,h3⟩
theorem NestO.nest (h:NestO k f e P g w base A n c l)(hP:∀ x,g x∈l→P w base x→P' w w.heap.size x):Nest k f P' g w w.heap.size A n l:=by
 obtain⟨hs,h1,h2,h3⟩:=h;refine⟨hs,h1.col,fun x hx=>hP x ?_ (h2 x hx),h3⟩;rw[← h3];exact List.mem_map_of_mem hx
theorem NestO.at_ {j:Nat}(h:NestO k f e P g w base A n c l)(hj:j<n):∃ b x,A=some ⟨b,0,none⟩∧base≤b∧b<w.heap.size∧l[j]?=some (g x)∧l.take (j+1)=l.take j++[g x]∧w.rangeAt b (j*k) (f x)∧P w base x∧∃ cs,Bk w b e cs∧cs.size=c*k:=by
 obtain⟨hs,h1,h2,rfl⟩:=h;obtain⟨b,cur,hA,hb,hh,hz,ht⟩:=h1.block (by omega);obtain⟨b',hA',_,hl',hr⟩:=h1.range (by omega);rw[hA] at hA';injection hA' with hA';injection hA' with hA';subst hA';obtain⟨x,hx⟩:∃ x,hs[j]?=some x:=⟨_,List.getElem?_eq_getElem (by rw[h1.len];exact hj)⟩;have hx':(hs.map g)[j]?=some (g x):=by rw[List.getElem?_map,hx];rfl
 exact⟨b,x,hA,hb,hl',hx',zdo _ _ _ hx',hr j x hx,h2 x (List.mem_of_getElem? hx),cur,hh,hz⟩
end
def BhO (w:World)(base:Nat)(h:Bh):Prop:=OwnM w base h.A h.n h.c h.b.msgs
def ThO (w:World)(base:Nat)(h:Th):Prop:=OwnB w base 5 h.A h.n h.c h.t.msg.body
def HhO (w:World)(base:Nat)(h:Hh):Prop:=OwnK 2 rgC w base 114 h.A h.n h.c h.set
theorem bhOwns:OwnsP (fun t=>t=108∨t=5) BhO :=
 ⟨fun h hb=>OwnM.below h hb,fun h hc hn=>OwnM.chg h hc (fun q=>hn (.inl q.symm)) (fun q=>hn (.inr q.symm)),fun h hb=>OwnM.from_ h hb⟩
theorem thOwns:OwnsP (fun t=>t=5) ThO :=
 ⟨fun h hb=>OwnB.below h hb,fun h hc hn=>OwnB.chg h hc (fun q=>hn q.symm),fun h hb=>OwnB.base_le h hb⟩
theorem hhOwns:OwnsP (fun t=>t=114) HhO :=
 ⟨fun h hb=>OwnK.below h hb,fun h hc hn=>OwnK.chg h hc (fun q=>hn q.symm),fun h hb=>OwnK.from_ h hb⟩
abbrev BoxesO (w:World)(base:Nat)(A:Option Addr)(n c:Nat)(l:List Bx):Prop:=NestO 4 bhC 76 BhO Bh.b w base A n c l
abbrev TombsO (w:World)(base:Nat)(A:Option Addr)(n c:Nat)(l:List Tmb):Prop:=NestO 7 thC 110 ThO Th.t w base A n c l
abbrev HolsO (w:World)(base:Nat)(A:Option Addr)(n c:Nat)(l:List Hol):Prop:=NestO 3 hhC 78 HhO Hh.hol w base A n c l
structure SmSta (s:Sta):Prop where
 lens:s.boxes.length≤1000∧s.subs.length≤1000∧s.rules.length≤1000∧s.tombs.length≤1000∧s.holds.length≤1000
 bx:∀ b∈s.boxes,b.msgs.length≤100000∧∀ m∈b.msgs,m.body.length≤100000
 tb:∀ t∈s.tombs,t.msg.body.length≤100000
 ho:∀ h∈s.holds,h.set.length≤100000
structure StaO (w:World)(base:Nat)(s:Sta)(p:StaAt):Prop where
 bx:BoxesO w base p.bx.A p.bx.n p.bx.c s.boxes
 sb:OwnK 1 strC w base 9 p.sb.A p.sb.n p.sb.c s.subs
 ru:OwnK 2 rulC w base 106 p.ru.A p.ru.n p.ru.c s.rules
 tb:TombsO w base p.tb.A p.tb.n p.tb.c s.tombs
 ho:HolsO w base p.ho.A p.ho.n p.ho.c s.holds
def StaT (t:TypeId):Prop:=t=76∨t=108∨t=5∨t=9∨t=106∨t=110∨t=78∨t=114
section
variable {w w':World} {base base':Nat} {s:Sta} {p:StaAt}
theorem StaO.below (h:StaO w base s p)(hb:Below w.heap.size w w'):StaO w' base s p :=
 ⟨h.bx.below bhOwns hb,h.sb.below hb,h.ru.below hb,h.tb.below thOwns hb,h.ho.below hhOwns hb⟩
theorem StaO.from_ (h:StaO w base s p)(hb:base'≤base):StaO w base' s p :=
 ⟨h.bx.from_ bhOwns hb,h.sb.from_ hb,h.ru.from_ hb,h.tb.from_ thOwns hb,h.ho.from_ hhOwns hb⟩
theorem StaO.chg {t:TypeId}(h:StaO w base s p)(hc:Chg t base w w')(ht:¬ StaT t):StaO w' base s p:=by
 unfold StaT at ht;refine⟨h.bx.chg bhOwns hc ?_ ?_,h.sb.chg hc ?_,h.ru.chg hc ?_,h.tb.chg thOwns hc ?_ ?_,h.ho.chg hhOwns hc ?_ ?_⟩<;>intro q<;>apply ht<;>(first|(subst q;simp;done)|(rcases q with q|q<;>(subst q;simp)))
theorem BoxesO.in_ {A:Option Addr}{n c:Nat}{l:List Bx}(h:BoxesO w base A n c l)(hs:∀ b∈l,b.msgs.length≤100000∧∀ m∈b.msgs,m.body.length≤100000)(hb:base≤w.heap.size):BoxesIn w w.heap.size A n l :=
 h.nest fun x hx hP=>⟨OwnM.msgs hP fun m hm=>Nat.le_trans ((hs _ hx).2 m hm) (by omega),by have:=(hs _ hx).1;rw[OwnM.len hP] at this;omega⟩
theorem TombsO.in_ {A:Option Addr}{n c:Nat}{l:List Tmb}(h:TombsO w base A n c l)(hs:∀ t∈l,t.msg.body.length≤100000)(hb:base≤w.heap.size):TombsIn w w.heap.size A n l :=
 h.nest fun x hx hP=>⟨OwnB.bytes hP,by have:=hs _ hx;rw[OwnB.len hP] at this;omega⟩
theorem HolsO.in_ {A:Option Addr}{n c:Nat}{l:List Hol}(h:HolsO w base A n c l)(hs:∀ t∈l,t.set.length≤100000)(hb:base≤w.heap.size):HolsIn w w.heap.size A n l :=
 h.nest fun x hx hP=>⟨OwnK.col hP,by have h1:=hs _ hx;have h2:x.set.length=x.n:=OwnK.len hP;have h3:(Hh.hol x).set=x.set:=rfl;rw[h3] at h1;omega⟩
theorem StaO.in_ (h:StaO w base s p)(hs:SmSta s)(hb:base≤w.heap.size):StaIn w w.heap.size s p :=
 ⟨h.bx.in_ hs.bx hb,h.sb.col,h.ru.col,h.tb.in_ hs.tb hb,h.ho.in_ hs.ho hb,by
  have h1:=hs.lens;rw[h.bx.len,h.sb.len,h.ru.len,h.tb.len,h.ho.len] at h1
  omega⟩
end
def staA (s:Sta)(p:StaAt):Array Value:=#[.int .i64 s.clock,.slice p.bx.A p.bx.n p.bx.c,.slice p.sb.A p.sb.n p.sb.c,.slice p.ru.A p.ru.n p.ru.c,.slice p.tb.A p.tb.n p.tb.c,.slice p.ho.A p.ho.n p.ho.c,.int .i64 s.nv,.int .i64 s.nt,.int .i64 s.nh]
def idxN {β:Type}(p:β→Bool):List β→Nat
 | []=>0
 | b::l=>if p b=true then 1 else if idxN p l=0 then 0 else idxN p l+1
section
variable {β:Type} {p:β→Bool} {l:List β} {k n:Nat} {a:β}
theorem zsk (h:∀ b∈l,p b=false):idxN p l=0:=by
 induction l with
 | nil=>rfl
 | cons b l ih =>
   unfold idxN;rw[h b List.mem_cons_self,ih fun x hx=>h x (List.mem_cons_of_mem _ hx)];rfl
theorem zfu:∀ {l:List β} {k:Nat},(∀ b∈l.take k,p b=false)→l[k]?=some a→p a=true→idxN p l=k+1
 | [],k,_,h,_=>by simp at h
 | b :: l, 0, _, h, ha => by
   have e:b=a:=by simpa using h
   subst e;unfold idxN;rw[if_pos ha]
 | b :: l, k + 1, h, hk, ha => by
   have h0:p b=false:=h b (by rw[List.take_succ_cons];exact List.mem_cons_self);have h1:=zfu (l:=l) (k:=k) (fun x hx=>h x (by rw[List.take_succ_cons];exact List.mem_cons_of_mem _ hx)) (by simpa using hk) ha;unfold idxN;rw[h0,h1];simp
theorem z6e (h:idxN p l≠0):∃ k a,idxN p l=k+1∧l[k]?=some a∧p a=true∧∀ b∈l.take k,p b=false:=by
 induction l with
 | nil=>exact absurd rfl h
 | cons b l ih =>
   unfold idxN at h ⊢;cases hb:p b with
   | true=>exact⟨0,b,by simp,by simp,hb,fun x hx=>by simp at hx⟩
   | false =>
     rw[hb] at h;simp only[Bool.false_eq_true,if_false] at h ⊢;have h2:idxN p l≠0:=fun e=>h (by rw[e];rfl);obtain⟨k,a,e,hk,ha,hm⟩:=ih h2;refine⟨k+1,a,by rw[if_neg h2,e],by simpa using hk,ha,fun x hx=>?_⟩;rw[List.take_succ_cons] at hx;rcases List.mem_cons.1 hx with rfl|hx
     ·exact hb
     ·exact hm x hx
theorem idx_zero:idxN p l=0↔∀ b∈l,p b=false:=by
 refine⟨fun h=>?_,zsk⟩;intro b hb;cases hq:p b with
 | false=>rfl
 | true =>
   exfalso
   obtain⟨i,hi⟩:=List.mem_iff_getElem?.1 hb
   induction l generalizing i with
   | nil=>cases hb
   | cons x l ih =>
     unfold idxN at h;by_cases hx:p x=true
     ·rw[if_pos hx] at h;omega
     ·rw[if_neg hx] at h
      by_cases h2:idxN p l=0
      ·cases i with
       | zero => have e : x = b := by simpa using hi
                 rw[e] at hx;exact hx hq
       | succ i=>exact ih h2 (List.mem_of_getElem? (i:=i) (by simpa using hi)) i (by simpa using hi)
      ·rw[if_neg h2] at h;omega
theorem zc3:(decide (idxN p l≠0))=l.any p:=by
 by_cases h:idxN p l=0
 ·rw[decide_eq_false (by rw[h];simp)]
  symm
  rw[List.any_eq_false];intro b hb;rw[idx_zero.1 h b hb];simp
 ·rw[decide_eq_true h]
  obtain⟨k,a,_,hk,ha,_⟩:=z6e h
  symm
  rw[List.any_eq_true];exact⟨a,List.mem_of_getElem? hk,ha⟩
theorem zg4 {l:List β}(h:∀ b∈l.take k,p b=false)(ht:l.take (k+1)=l.take k++[a])(ha:p a=false):∀ b∈l.take (k+1),p b=false:=by
 intro b hb;rw[ht] at hb;rcases List.mem_append.1 hb with hb|hb
 ·exact h b hb
 ·rw[List.mem_singleton.1 hb];exact ha
theorem zg5 (h:∀ b∈l.take k,p b=false)(hl:l.length=n)(hk:¬ k<n):idxN p l=0:=by
 rw[List.take_of_length_le (by omega)] at h;exact zsk h
end
theorem zsl (l:List Bx)(u:ByteArray):boxN l u=idxN (fun b=>decide (b.name=u)) l:=by
 induction l with
 | nil=>rfl
 | cons b l ih =>
   unfold boxN idxN;rw[ih];simp only[decide_eq_true_eq]
def IsAt {β:Type}(l:List β)(p:β→Bool)(w:World)(e:Ending)(w':World):Prop:=∃ z:Int,e=.returned (.int .i64 z)∧z+1=(idxN p l:Int)∧-1≤z∧z≤140737488355328∧Below w.heap.size w w'
def Enters (P:Program)(g:Nat):Prop:=∀ (args:Array Value) (W:World),(callFunc g args).run P W=.ok (.enter g args) W
theorem enters_of {P:Program}{g:Nat}{fn:Func}(hf:P.funcs[g]?=some fn)(hname:(fn.name == "runtime.NumGoroutine")=false)(hb:fn.body.isSome=true):Enters P g:=by
 intro args W;obtain⟨c,hb⟩:=Option.isSome_iff_exists.1 hb;have h1:fn.name≠ "runtime.NumGoroutine":=by simpa using hname
 simp[callFunc,hf,h1,hb]
theorem zc4 (j:Nat)(h:j≤4611686018427387904):IntKind.i64.wrap (j:Int)=j:=IntWalk.i64_in _ (by omega)
def CallP (P:Program){α β:Type}(g:Nat)(caps:Array Value)(v:α→Value)(Q:World→Nat→α→Prop)(G:α→β)(l:List β)(p:β→Bool)(w:World):Prop :=
 ∀ (W:World) (x:α),Below w.heap.size w W→G x∈l→Q W W.heap.size x→Calls P g (#[v x]++caps) W fun e W'=>e=.returned (.bool (p (G x)))∧Below W.heap.size W W'
theorem CallP.later {P:Program}{α β:Type}{g:Nat}{caps:Array Value}{v:α→Value}{Q:World→Nat→α→Prop}{G:α→β}{l:List β}{p:β→Bool}{w w':World}(h:CallP P g caps v Q G l p w)(hb:Below w.heap.size w w'):CallP P g caps v Q G l p w' :=
 fun W x hW hx hQ=>h W x (hb.trans (hW.mono hb.size)) hx hQ
def CallK (P:Program){α β:Type}(g:Nat)(v:α→Value)(Q:World→Nat→α→Prop)(G:α→β)(key:β→Value):Prop :=
 ∀ (W:World) (x:α),Q W W.heap.size x→Calls P g #[v x] W fun e W'=>e=.returned (key (G x))∧Below W.heap.size W W'
def bhA (h:Bh):Array Value:=#[.string h.b.name,.int .i64 h.b.valid,.int .i64 h.b.next,.slice h.A h.n h.c]
theorem zlo (h:Bh):(bhC h).toArray=bhA h:=rfl
def thA (h:Th):Array Value:=#[.int .i64 h.t.id,.string h.t.box,.int .i64 h.t.at_,.int .i64 h.t.msg.uid,.int .i64 h.t.msg.flags,.int .i64 h.t.msg.date,.slice h.A h.n h.c]
theorem zlp (h:Th):(thC h).toArray=thA h:=rfl
def rulA' (h:Rul):Array Value:=#[.string h.1,.int .i64 h.2]
theorem rulC_A' (h:Rul):(rulC h).toArray=rulA' h:=rfl
def TrueP {α:Type}(_:World)(_:Nat)(_:α):Prop:=True
theorem trueStays {α:Type}:Stays (@TrueP α):=⟨fun _ _=>trivial,fun _ _=>trivial⟩
abbrev RulesIn (w:World)(B:Nat)(A:Option Addr)(n:Nat)(l:List Rul):Prop:=Nest 2 rulC TrueP (id:Rul→Rul) w B A n l
abbrev StrsIn (w:World)(B:Nat)(A:Option Addr)(n:Nat)(l:List ByteArray):Prop:=Nest 1 strC TrueP (id:ByteArray→ByteArray) w B A n l
theorem ColK.nest {α:Type}{k:Nat}{f:α→List Value}{w:World}{B n:Nat}{A:Option Addr}{l:List α}(h:ColK k f w B A n l):Nest k f TrueP (id:α→α) w B A n l:=⟨l,h,fun _ _=>trivial,List.map_id _⟩
theorem row1 {w:World}{b o:Nat}{x:ByteArray}(h:w.rangeAt b o (strC x)):w.cell? ⟨b,o,none⟩=some (.string x):=h 0 _ rfl
def jb {β:Type}(most:Nat)(R:β→β→Prop)(p:β→Bool)(l:List β):Prop:=l.length≤most∧OkL (fun b=>p b=true) R l
theorem Stays.later_ {α:Type}{P:World→Nat→α→Prop}(S:Stays P){w w':World}{a:α}(h:P w w.heap.size a)(hb:Below w.heap.size w w'):P w' w'.heap.size a :=
 S.more (S.keep h fun p hp=>hb.cell (p:=p) hp) hb.size
theorem Nest.later_ {α β:Type}{k:Nat}{f:α→List Value}{P:World→Nat→α→Prop}{g:α→β}{w w':World}{n:Nat}{A:Option Addr}{l:List β}(h:Nest k f P g w w.heap.size A n l)(s:Stays P)(hb:Below w.heap.size w w'):Nest k f P g w' w'.heap.size A n l:=h.later s hb
theorem zg6 {β:Type}{R:β→β→Prop}(l:List β):(l.take 1).Pairwise R:=by
 cases l with
 | nil=>exact List.Pairwise.nil
 | cons a l=>exact List.pairwise_singleton _ _
theorem zg7 {β:Type}{R:β→β→Prop}(tr:∀ a b c,R a b→R b c→R a c){l:List β}{j:Nat}{b a:β}(H:(l.take (j+1)).Pairwise R)(hb:l[j]?=some b)(ha:l[j+1]?=some a)(hr:R b a):(l.take (j+1+1)).Pairwise R:=by
 rw[zcz ha];exact zqe tr H (fun c hc=>by rw[zqf hb] at hc;injection hc with hc;rw[← hc];exact hr)
theorem zg8 {β:Type}{most:Nat}{R:β→β→Prop}{p:β→Bool}{l:List β}{q:Bool}(h1:l.length≤most)(h2:l.Pairwise R)(hq:jb most R p l↔q=true):(!(l.any fun b=>!p b))=q:=by
 have e:(l.any fun b=>!p b)=!(l.all p):=List.not_all_eq_any_not.symm;rw[e,Bool.not_not];cases hl:l.all p with
 | true =>
   refine(hq.1 ⟨h1,?_,h2⟩).symm;intro x hx;exact List.all_eq_true.1 hl x hx
 | false =>
   cases hq2:q with
   | false=>rfl
   | true =>
     have:=(hq.2 hq2).2.1;rw[List.all_eq_false] at hl;obtain⟨x,hx,hn⟩:=hl;exact absurd (this x hx) hn
theorem z6f (a b:ByteArray):(decide (ltS a b) || (a.toList == b.toList))=!decide (ltS b a):=by
 rw[zr9];by_cases h1:ltS a b
 ·rw[decide_eq_true h1,decide_eq_false (zd5 h1)];rfl
 ·by_cases h2:a=b
  ·subst h2
   rw[decide_eq_false h1];simp
  ·rw[decide_eq_false h1,decide_eq_false h2]
   rcases zfm a b with h|h|h
   ·exact absurd h h1
   ·exact absurd h h2
   ·rw[decide_eq_true h];rfl
theorem zfv (a b:ByteArray)(W:World):(binOp .leq 9 (.string a) (.string b)).run Tryz.prog W=.ok (.bool (!decide (ltS b a))) W:=by
 rw[← z6f]
 show(Op.stringOp .leq a b).run Tryz.prog W=_
 unfold Op.stringOp;rw[zlg];rfl
theorem zix {P:Program}{fn:Func}{p q:Tmp}{t1:TypeId}(h:fn.results=#[.cell p t1,.tmp q])(tmps:Array Value)(w:World)(a1:Addr)(v1 v2:Value)
 (hp:tmps.getD p undef=.pointer (some a1)) (hq:tmps.getD q undef=v2) (h1:(loadVar t1 a1).run P w=.ok v1 w) :
 (results fn tmps).run P w=.ok (.tuple #[v1,v2]) w:=by
 have hp':tmps[p]?.getD undef=.pointer (some a1):=by simpa using hp
 have hq':tmps[q]?.getD undef=v2:=by simpa using hq
 simp[results,h,hp',hq',asAddr,h1]
theorem Bk.keptM {w w':World}{base b n c:Nat}{A:Option Addr}{l:List Mg}{t:TypeId}{cs:Array Value}(h:Bk w b t cs)(ho:OwnM w base A n c l)(ht:108≠t)(hg:w.grownBy w' (Value.slice A n c).ownBlock):Bk w' b t cs:=by
 obtain⟨hs,h1,_,_⟩:=ho;exact(hg.block b h.lt (fun e=>ziy h1.1 ht b cs (0,0) e.symm h)).trans h
def AddIs (b:Bx)(m:Mg)(w:World)(e:Ending)(w':World):Prop :=
 ∃ (A':Option Addr) (n' c':Nat),e=.returned (.tuple #[.agg #[.string (addB b m).name,.int .i64 (addB b m).valid,.int .i64 (addB b m).next,.slice A' n' c'],.int .i64 (addN b m),.int .i64 (addE b m)])∧MsgsIn w' w'.heap.size A' n' (addB b m).msgs∧Below w.heap.size w w'
theorem AddIs.no {b:Bx}{m:Mg}{w w':World}{A':Option Addr}{n' c':Nat}{z:Int}(h:addE b m=z)(hz:z≠0)(hm:MsgsIn w' w'.heap.size A' n' b.msgs)(hb:Below w.heap.size w w'):AddIs b m w (.returned (.tuple #[.agg #[.string b.name,.int .i64 b.valid,.int .i64 b.next,.slice A' n' c'],.int .i64 0,.int .i64 z])) w':=by
 have hn:=zpk (b:=b) (m:=m) (by rw[h];exact hz);refine⟨A',n',c',?_,by rw[hn.1];exact hm,hb⟩;rw[hn.1,hn.2,h]
theorem AddIs.yes {b:Bx}{m:Mg}{w w':World}{A':Option Addr}{n' c':Nat}(h:addE b m=0)(hm:MsgsIn w' w'.heap.size A' n' (b.msgs++[{ m with uid:=b.next }]))(hb:Below w.heap.size w w'):AddIs b m w (.returned (.tuple #[.agg #[.string b.name,.int .i64 b.valid,.int .i64 (b.next+1),.slice A' n' c'],.int .i64 b.next,.int .i64 0])) w':=by
 have hn:=zh6 (b:=b) (m:=m) h;refine⟨A',n',c',?_,by rw[hn.1];exact hm,hb⟩;rw[hn.1,hn.2,h]
def AddO (b:Bx)(m:Mg)(w:World)(e:Ending)(w':World):Prop :=
 ∃ (A':Option Addr) (n' c':Nat),e=.returned (.tuple #[.agg #[.string (addB b m).name,.int .i64 (addB b m).valid,.int .i64 (addB b m).next,.slice A' n' c'],.int .i64 (addN b m),.int .i64 (addE b m)])∧MsgsIn w' w'.heap.size A' n' (addB b m).msgs∧Below w.heap.size w w'∧(addE b m=0→OwnM w' w.heap.size A' n' c' (addB b m).msgs)
theorem AddO.is {b:Bx}{m:Mg}{w w':World}{e:Ending}(h:AddO b m w e w'):AddIs b m w e w':=by
 obtain⟨A',n',c',h1,h2,h3,_⟩:=h;exact⟨A',n',c',h1,h2,h3⟩
theorem AddO.no {b:Bx}{m:Mg}{w w':World}{A':Option Addr}{n' c':Nat}{z:Int}(h:addE b m=z)(hz:z≠0)(hm:MsgsIn w' w'.heap.size A' n' b.msgs)(hb:Below w.heap.size w w'):AddO b m w (.returned (.tuple #[.agg #[.string b.name,.int .i64 b.valid,.int .i64 b.next,.slice A' n' c'],.int .i64 0,.int .i64 z])) w':=by
 have hn:=zpk (b:=b) (m:=m) (by rw[h];exact hz);refine⟨A',n',c',?_,by rw[hn.1];exact hm,hb,fun h0=>absurd (h.symm.trans h0) hz⟩;rw[hn.1,hn.2,h]
theorem AddO.yes {b:Bx}{m:Mg}{w w':World}{A':Option Addr}{n' c':Nat}(h:addE b m=0)(hm:OwnM w' w.heap.size A' n' c' (b.msgs++[{ m with uid:=b.next }]))(hs:∀ x∈b.msgs++[{ m with uid:=b.next }],x.body.length≤140737488355328)(hb:Below w.heap.size w w'):AddO b m w (.returned (.tuple #[.agg #[.string b.name,.int .i64 b.valid,.int .i64 (b.next+1),.slice A' n' c'],.int .i64 b.next,.int .i64 0])) w':=by
 have hn:=zh6 (b:=b) (m:=m) h;refine⟨A',n',c',?_,by rw[hn.1];exact hm.msgs hs,hb,fun _=>by rw[hn.1];exact hm⟩;rw[hn.1,hn.2,h]
def AddAt (w:World)(nm:ByteArray)(v nx:Int)(A:Option Addr)(n c:Nat)(u f d:Int)(xA:Option Addr)(xn xc:Nat)(wx:World):Prop :=
 Bk wx w.heap.size 76 #[.string nm,.int .i64 v,.int .i64 nx,.slice A n c]∧Bk wx (w.heap.size+1) 108 #[.int .i64 u,.int .i64 f,.int .i64 d,.slice xA xn xc]∧Bk wx (w.heap.size+1+1) 76 #[.string ⟨#[]⟩,.int .i64 0,.int .i64 0,.slice none 0 0]∧Below w.heap.size w wx∧w.heap.size+3≤wx.heap.size
theorem AddAt.below {w wx W:World}{nm:ByteArray}{v nx:Int}{A:Option Addr}{n c:Nat}{u f d:Int}{xA:Option Addr}{xn xc:Nat}(h:AddAt w nm v nx A n c u f d xA xn xc wx)(hb:Below wx.heap.size wx W):AddAt w nm v nx A n c u f d xA xn xc W:=by
 obtain⟨h1,h2,h3,h4,h5⟩:=h;exact⟨h1.below hb h1.lt,h2.below hb h2.lt,h3.below hb h3.lt,h4.trans (hb.mono h4.size),Nat.le_trans h5 hb.size⟩
theorem AddAt.uid {w wx:World}{nm:ByteArray}{v nx:Int}{A:Option Addr}{n c:Nat}{u f d:Int}{xA:Option Addr}{xn xc:Nat}(h:AddAt w nm v nx A n c u f d xA xn xc wx)(z:Int):AddAt w nm v nx A n c z f d xA xn xc (wx.setCell ⟨w.heap.size+1,0,none⟩ (.int .i64 z)):=by
 obtain⟨h1,h2,h3,h4,h5⟩:=h;exact⟨h1.far (show w.heap.size≠w.heap.size+1 by omega) _,by simpa using h2.put 0 (.int .i64 z),h3.far (show w.heap.size+1+1≠w.heap.size+1 by omega) _,h4.setCell (show w.heap.size≤w.heap.size+1 by omega) _,by simpa [World.setCell] using h5⟩
theorem AddAt.put {w wx:World}{nm:ByteArray}{v nx:Int}{A:Option Addr}{n c:Nat}{u f d:Int}{xA:Option Addr}{xn xc:Nat}(h:AddAt w nm v nx A n c u f d xA xn xc wx)(z z':Int)(yA:Option Addr)(yn yc:Nat) :
 AddAt w nm v nx A n c z' f d yA yn yc (((((wx.setCell ⟨w.heap.size+1,0,none⟩ (.int .i64 z)).setCell ⟨w.heap.size+1,1,none⟩ (.int .i64 f)).setCell ⟨w.heap.size+1,2,none⟩ (.int .i64 d)).setCell ⟨w.heap.size+1,3,none⟩ (.slice yA yn yc)).setCell ⟨w.heap.size+1,0,none⟩ (.int .i64 z')):=by
 obtain⟨h1,h2,h3,h4,h5⟩:=h;have hg:=zat (zi1 wx (w.heap.size+1) (.int .i64 z) (.int .i64 f) (.int .i64 d) (.slice yA yn yc)) (jk _ (w.heap.size+1) 0 (.int .i64 z'));exact⟨h1.grown hg (by omega),by simpa using (h2.put4 (.int .i64 z) (.int .i64 f) (.int .i64 d) (.slice yA yn yc)).put 0 (.int .i64 z'),h3.grown hg (by omega),(zlq h4 (by omega) _ _ _ _).setCell (show w.heap.size≤w.heap.size+1 by omega) _,by simpa [World.setCell] using h5⟩
theorem z6g {B:Nat}{w:World}{b:Nat}(hb:B≤b)(i:Nat)(v:Value):Below B w (w.setCell ⟨b,i,none⟩ v):=(Below.refl B w).setCell hb v
end Go.Proofs.YtmjjefnmabbgdaaGreatDoor
