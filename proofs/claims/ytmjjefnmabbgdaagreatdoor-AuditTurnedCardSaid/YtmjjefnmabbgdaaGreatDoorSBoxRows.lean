/- A part of the proof. -/
import Derived.Test.YtmjjefnmabbgdaaGreatDoorSWide
import Derived.Test.YtmjjefnmabbgdaaGreatDoorSEventMath
import Derived.Test.YtmjjefnmabbgdaaGreatDoorSUidsA
namespace Go.Proofs.YtmjjefnmabbgdaaGreatDoor
set_option linter.unusedVariables false
set_option linter.unusedSimpArgs false
set_option maxRecDepth 100000
set_option maxHeartbeats 16000000
open Go.RowKit
structure Hd where
 m:Mg
 A:Option Addr
 n:Nat
 c:Nat
def hdC (h:Hd):List Value:=[.int .i64 h.m.uid,.int .i64 h.m.flags,.int .i64 h.m.date,.slice h.A h.n h.c]
theorem zg9 (h:Hd):(hdC h).length=4:=rfl
theorem z6h (h:Hd):∀ u∈hdC h,u.oneCell'=true:=by
 intro u hu;unfold hdC at hu;simp only[List.mem_cons,List.not_mem_nil,or_false] at hu;rcases hu with rfl|rfl|rfl|rfl<;>rfl
def HdIn (w:World)(B:Nat)(h:Hd):Prop:=Bytes w B h.A h.n h.m.body∧h.n≤140737488355328
theorem HdIn.keep {w w':World}{B:Nat}{h:Hd}(H:HdIn w B h)(hk:∀ p:Addr,p.block<B→w'.cell? p=w.cell? p):HdIn w' B h:=⟨H.1.keep hk,H.2⟩
theorem HdIn.more {w:World}{B B':Nat}{h:Hd}(H:HdIn w B h)(hB:B≤B'):HdIn w B' h:=⟨H.1.more hB,H.2⟩
theorem HdIn.below {w w':World}{B B':Nat}{h:Hd}(H:HdIn w B h)(hb:Below B' w w')(hB:B≤B'):HdIn w' B h:=⟨H.1.below hb hB,H.2⟩
theorem HdIn.later {w w':World}{h:Hd}(H:HdIn w w.heap.size h)(hb:Below w.heap.size w w'):HdIn w' w'.heap.size h:=⟨H.1.later hb,H.2⟩
def MsgsIn (w:World)(B:Nat)(A:Option Addr)(n:Nat)(l:List Mg):Prop:=∃ hs:List Hd,ColK 4 hdC w B A n hs∧(∀ h∈hs,HdIn w B h)∧hs.map Hd.m=l
section
variable {w w':World} {B B' n:Nat} {A:Option Addr} {l:List Mg}
theorem MsgsIn.nil:MsgsIn w B A 0 []:=⟨[],ColK.nil,fun h hh=>(by cases hh),rfl⟩
theorem MsgsIn.len (h:MsgsIn w B A n l):l.length=n:=by
 obtain⟨hs,h1,_,h3⟩:=h;rw[← h3,List.length_map,h1.1]
theorem MsgsIn.keep (h:MsgsIn w B A n l)(hk:∀ p:Addr,p.block<B→w'.cell? p=w.cell? p):MsgsIn w' B A n l:=by
 obtain⟨hs,h1,h2,h3⟩:=h;exact⟨hs,h1.keep hk,fun x hx=>(h2 x hx).keep hk,h3⟩
theorem MsgsIn.more (h:MsgsIn w B A n l)(hB:B≤B'):MsgsIn w B' A n l:=by
 obtain⟨hs,h1,h2,h3⟩:=h;exact⟨hs,h1.more hB,fun x hx=>(h2 x hx).more hB,h3⟩
theorem MsgsIn.below (h:MsgsIn w B A n l)(hb:Below B' w w')(hB:B≤B'):MsgsIn w' B A n l:=h.keep fun p hp=>hb.cell (p:=p) (by omega)
theorem MsgsIn.later (h:MsgsIn w w.heap.size A n l)(hb:Below w.heap.size w w'):MsgsIn w' w'.heap.size A n l:=(h.below hb (Nat.le_refl _)).more hb.size
theorem MsgsIn.at_ {j:Nat}(h:MsgsIn w B A n l)(hj:j<n):∃ b o x,A=some ⟨b,o,none⟩∧b<B∧l[j]?=some x.m∧l.take (j+1)=l.take j++[x.m]∧w.rangeAt b (o+j*4) (hdC x)∧HdIn w B x:=by
 obtain⟨hs,h1,h2,rfl⟩:=h;obtain⟨b,o,x,rfl,hb,hx,ht,hr⟩:=h1.at_ hj;have hx':(hs.map Hd.m)[j]?=some x.m:=by rw[List.getElem?_map,hx];rfl
 exact⟨b,o,x,rfl,hb,hx',zdo _ _ _ hx',hr,h2 x (List.mem_of_getElem? hx)⟩
end
def OwnM (w:World)(base:Nat)(A:Option Addr)(n c:Nat)(l:List Mg):Prop:=∃ hs:List Hd,OwnK 4 hdC w base 108 A n c hs∧(∀ h∈hs,OwnB w base 5 h.A h.n h.c h.m.body)∧hs.map Hd.m=l
theorem zcc {w w':World}{base:Nat}{e:TypeId}{k:Nat}{v:Value}{n:Nat}{xs:List Value}{row:Option Nat}(h:w.ownsRow base e k v n xs)(hg:w.grownBy w' row)(hne:∀ b cs fr,row=some b→base≤b→w.heap[b]?≠some (.cells cs e fr)):w'.ownsRow base e k v n xs:=by
 refine⟨h.1,?_⟩;rcases h.2 with h0|⟨g,cap,cur,hv,hg',hh,r⟩
 ·exact .inl h0
 ·exact .inr ⟨g,cap,cur,hv,hg',(hg.block g (Array.getElem?_eq_some_iff.1 hh).1 (fun q=>hne g _ _ q.symm hg' hh)).trans hh,r⟩
theorem ziy {w:World}{base:Nat}{e e':TypeId}{k:Nat}{v:Value}{n:Nat}{xs:List Value}(h:w.ownsRow base e k v n xs)(hee:e≠e'):∀ b cs fr,v.ownBlock=some b→w.heap[b]?≠some (.cells cs e' fr):=by
 intro b cs fr hb hh;rcases h.2 with ⟨rfl,_⟩|⟨g,cap,cur,rfl,_,hg,_⟩
 ·cases hb
 ·cases hb
  rw[hg] at hh;injection hh with hh;injection hh with _ h2 _;exact hee h2
theorem z6i:(Tryz.prog.info? 108).map (fun i=>(i.zero,i.size,i.bytes))=some (some (.agg #[.int .i64 0,.int .i64 0,.int .i64 0,.slice none 0 0]),4,48):=by kernel_rfl
theorem jk (w:World)(b i:Nat)(v:Value):w.grownBy (w.setCell ⟨b,i,none⟩ v) (some b) :=
 ⟨rfl,rfl,rfl,by simp[World.setCell],fun k hk hne=>Below.heap_setCell w ⟨b,i,none⟩ v k (fun e=>hne (by rw[e]))⟩
section
variable {w w':World} {base n c:Nat} {A:Option Addr} {l:List Mg}
theorem OwnM.nil:OwnM w base none 0 0 []:=⟨[],OwnK.nil zg9,fun h hh=>(by cases hh),rfl⟩
theorem OwnM.empty (w:World):OwnM (w.alloc (.cells #[] 108)) w.heap.size (some ⟨w.heap.size,0,none⟩) 0 0 []:=⟨[],OwnK.empty zg9 w 108,fun h hh=>(by cases hh),rfl⟩
theorem OwnM.len (h:OwnM w base A n c l):l.length=n:=by
 obtain⟨hs,h1,_,h3⟩:=h;rw[← h3,List.length_map,h1.len]
theorem OwnM.cap (h:OwnM w base A n c l):n≤c∧c≤maxLen:=by
 obtain⟨hs,h1,_,h3⟩:=h;exact h1.cap
theorem OwnM.below (h:OwnM w base A n c l)(hb:Below w.heap.size w w'):OwnM w' base A n c l:=by
 obtain⟨hs,h1,h2,h3⟩:=h;exact⟨hs,h1.below hb,fun x hx=>(h2 x hx).below hb,h3⟩
theorem OwnM.from_ {base':Nat}(h:OwnM w base A n c l)(hb:base'≤base):OwnM w base' A n c l:=by
 obtain⟨hs,h1,h2,h3⟩:=h;exact⟨hs,h1.from_ hb,fun x hx=>(h2 x hx).base_le hb,h3⟩
theorem OwnM.kept {row:Option Nat}(h:OwnM w base A n c l)(hg:w.grownBy w' row)(hne:∀ b cs t fr,row=some b→base≤b→w.heap[b]?=some (.cells cs t fr)→t≠108∧t≠5):OwnM w' base A n c l:=by
 obtain⟨hs,h1,h2,h3⟩:=h;refine⟨hs,⟨zcc h1.1 hg (fun b cs fr e hb hh=>(hne b cs _ fr e hb hh).1 rfl),h1.2⟩,fun x hx=>⟨zcc (h2 x hx).1 hg (fun b cs fr e hb hh=>(hne b cs _ fr e hb hh).2 rfl),(h2 x hx).2⟩,h3⟩
theorem OwnM.far {b:Nat}(h:OwnM w base A n c l)(hg:w.grownBy w' (some b))(hb:b<base):OwnM w' base A n c l :=
 h.kept hg fun b' cs t fr e hb' _=>by injection e with e;omega
theorem OwnM.msgs (h:OwnM w base A n c l)(hl:∀ m∈l,m.body.length≤140737488355328):MsgsIn w w.heap.size A n l:=by
 obtain⟨hs,h1,h2,rfl⟩:=h;refine⟨hs,h1.col,fun x hx=>⟨(h2 x hx).bytes,?_⟩,rfl⟩;rw[← (h2 x hx).len];exact hl x.m (List.mem_map.2 ⟨x,hx,rfl⟩)
theorem OwnM.at_ {j:Nat}(h:OwnM w base A n c l)(hj:j<n):∃ g x,A=some ⟨g,0,none⟩∧base≤g∧g<w.heap.size∧l[j]?=some x.m∧l.take (j+1)=l.take j++[x.m]∧w.rangeAt g (j*4) (hdC x)∧OwnB w base 5 x.A x.n x.c x.m.body:=by
 obtain⟨hs,h1,h2,rfl⟩:=h;obtain⟨g,rfl,hg,hl,hr⟩:=h1.range (by omega);have hj':j<hs.length:=by rw[h1.len];exact hj
 have hx:hs[j]?=some hs[j]:=List.getElem?_eq_getElem hj';have hx':(hs.map Hd.m)[j]?=some hs[j].m:=by rw[List.getElem?_map,hx];rfl
 exact⟨g,hs[j],rfl,hg,hl,hx',zdo _ _ _ hx',hr j _ hx,h2 _ (List.mem_of_getElem? hx)⟩
end
section
variable {P:Program} {α:Type} {k:Nat} {f:α→List Value}
end
structure Stays {α:Type}(P:World→Nat→α→Prop):Prop where
 keep:∀ {w w':World} {B:Nat} {a:α},P w B a→(∀ p:Addr,p.block<B→w'.cell? p=w.cell? p)→P w' B a
 more:∀ {w:World} {B B':Nat} {a:α},P w B a→B≤B'→P w B' a
def Nest {α β:Type}(k:Nat)(f:α→List Value)(P:World→Nat→α→Prop)(g:α→β)(w:World)(B:Nat)(A:Option Addr)(n:Nat)(l:List β):Prop :=
 ∃ hs:List α,ColK k f w B A n hs∧(∀ h∈hs,P w B h)∧hs.map g=l
section
variable {α β:Type} {k:Nat} {f:α→List Value} {P:World→Nat→α→Prop} {g:α→β} {w w':World} {B B' n:Nat} {A:Option Addr} {l:List β}
theorem Nest.nil:Nest k f P g w B A 0 []:=⟨[],ColK.nil,fun h hh=>(by cases hh),rfl⟩
theorem Nest.len (h:Nest k f P g w B A n l):l.length=n:=by
 obtain⟨hs,h1,_,h3⟩:=h;rw[← h3,List.length_map,h1.1]
theorem Nest.keep (s:Stays P)(h:Nest k f P g w B A n l)(hk:∀ p:Addr,p.block<B→w'.cell? p=w.cell? p):Nest k f P g w' B A n l:=by
 obtain⟨hs,h1,h2,h3⟩:=h;exact⟨hs,h1.keep hk,fun x hx=>s.keep (h2 x hx) hk,h3⟩
theorem Nest.more (s:Stays P)(h:Nest k f P g w B A n l)(hB:B≤B'):Nest k f P g w B' A n l:=by
 obtain⟨hs,h1,h2,h3⟩:=h;exact⟨hs,h1.more hB,fun x hx=>s.more (h2 x hx) hB,h3⟩
theorem Nest.below (s:Stays P)(h:Nest k f P g w B A n l)(hb:Below B' w w')(hB:B≤B'):Nest k f P g w' B A n l:=h.keep s fun p hp=>hb.cell (p:=p) (by omega)
theorem Nest.later (s:Stays P)(h:Nest k f P g w w.heap.size A n l)(hb:Below w.heap.size w w'):Nest k f P g w' w'.heap.size A n l:=(h.below s hb (Nat.le_refl _)).more s hb.size
theorem Nest.at_ {j:Nat}(h:Nest k f P g w B A n l)(hj:j<n):∃ b o x,A=some ⟨b,o,none⟩∧b<B∧l[j]?=some (g x)∧l.take (j+1)=l.take j++[g x]∧w.rangeAt b (o+j*k) (f x)∧P w B x:=by
 obtain⟨hs,h1,h2,rfl⟩:=h;obtain⟨b,o,x,rfl,hb,hx,ht,hr⟩:=h1.at_ hj;have hx':(hs.map g)[j]?=some (g x):=by rw[List.getElem?_map,hx];rfl
 exact⟨b,o,x,rfl,hb,hx',zdo _ _ _ hx',hr,h2 x (List.mem_of_getElem? hx)⟩
end
structure Bh where
 b:Bx
 A:Option Addr
 n:Nat
 c:Nat
def bhC (h:Bh):List Value:=[.string h.b.name,.int .i64 h.b.valid,.int .i64 h.b.next,.slice h.A h.n h.c]
theorem zha (h:Bh):(bhC h).length=4:=rfl
theorem zhb (h:Bh):∀ u∈bhC h,u.oneCell'=true:=by
 intro u hu;unfold bhC at hu;simp only[List.mem_cons,List.not_mem_nil,or_false] at hu;rcases hu with rfl|rfl|rfl|rfl<;>rfl
def BhIn (w:World)(B:Nat)(h:Bh):Prop:=MsgsIn w B h.A h.n h.b.msgs∧h.n≤140737488355328
theorem bhStays:Stays BhIn:=⟨fun h hk=>⟨h.1.keep hk,h.2⟩,fun h hB=>⟨h.1.more hB,h.2⟩⟩
abbrev BoxesIn (w:World)(B:Nat)(A:Option Addr)(n:Nat)(l:List Bx):Prop:=Nest 4 bhC BhIn Bh.b w B A n l
structure Th where
 t:Tmb
 A:Option Addr
 n:Nat
 c:Nat
def thC (h:Th):List Value:=[.int .i64 h.t.id,.string h.t.box,.int .i64 h.t.at_,.int .i64 h.t.msg.uid,.int .i64 h.t.msg.flags,.int .i64 h.t.msg.date,.slice h.A h.n h.c]
theorem ziz (h:Th):(thC h).length=7:=rfl
theorem zsm (h:Th):∀ u∈thC h,u.oneCell'=true:=by
 intro u hu;unfold thC at hu;simp only[List.mem_cons,List.not_mem_nil,or_false] at hu;rcases hu with rfl|rfl|rfl|rfl|rfl|rfl|rfl<;>rfl
def Th.tm (h:Th):Tm:=⟨h.t.id,h.t.box,h.t.at_,h.t.msg.uid,h.t.msg.flags,h.t.msg.date,h.A,h.n,h.c⟩
def ThIn (w:World)(B:Nat)(h:Th):Prop:=Bytes w B h.A h.n h.t.msg.body∧h.n≤140737488355328
theorem thStays:Stays ThIn:=⟨fun h hk=>⟨h.1.keep hk,h.2⟩,fun h hB=>⟨h.1.more hB,h.2⟩⟩
abbrev TombsIn (w:World)(B:Nat)(A:Option Addr)(n:Nat)(l:List Tmb):Prop:=Nest 7 thC ThIn Th.t w B A n l
def Hh.hol (h:Hh):Hol:=⟨h.id,h.box,h.set⟩
theorem hhStays:Stays HhIn:=⟨fun h hk=>h.keep hk,fun h hB=>h.more hB⟩
abbrev HolsIn (w:World)(B:Nat)(A:Option Addr)(n:Nat)(l:List Hol):Prop:=Nest 3 hhC HhIn Hh.hol w B A n l
theorem HolsIn.holds {w:World}{B n:Nat}{A:Option Addr}{l:List Hol}(h:HolsIn w B A n l):∃ hs:List Hh,HoldsIn w B A n hs∧hs.map Hh.hol=l:=by
 obtain⟨hs,h1,h2,h3⟩:=h;exact⟨hs,⟨h1,h2⟩,h3⟩
def strC (s:ByteArray):List Value:=[.string s]
theorem zdp (s:ByteArray):(strC s).length=1:=rfl
theorem zi0 (s:ByteArray):∀ u∈strC s,u.oneCell'=true:=by
 intro u hu;rw[List.mem_singleton.1 hu];rfl
structure Sl where
 A:Option Addr
 n:Nat
 c:Nat
def Sl.v (s:Sl):Value:=.slice s.A s.n s.c
structure StaAt where
 bx:Sl
 sb:Sl
 ru:Sl
 tb:Sl
 ho:Sl
def staV (s:Sta)(p:StaAt):Value:=.agg #[.int .i64 s.clock,.slice p.bx.A p.bx.n p.bx.c,.slice p.sb.A p.sb.n p.sb.c,.slice p.ru.A p.ru.n p.ru.c,.slice p.tb.A p.tb.n p.tb.c,.slice p.ho.A p.ho.n p.ho.c,.int .i64 s.nv,.int .i64 s.nt,.int .i64 s.nh]
structure StaIn (w:World)(B:Nat)(s:Sta)(p:StaAt):Prop where
 bx:BoxesIn w B p.bx.A p.bx.n s.boxes
 sb:ColK 1 strC w B p.sb.A p.sb.n s.subs
 ru:ColK 2 rulC w B p.ru.A p.ru.n s.rules
 tb:TombsIn w B p.tb.A p.tb.n s.tombs
 ho:HolsIn w B p.ho.A p.ho.n s.holds
 sz:p.bx.n≤140737488355328∧p.sb.n≤140737488355328∧p.ru.n≤140737488355328∧p.tb.n≤140737488355328∧p.ho.n≤140737488355328
section
variable {w w':World} {B B':Nat} {s:Sta} {p:StaAt}
theorem StaIn.keep (h:StaIn w B s p)(hk:∀ q:Addr,q.block<B→w'.cell? q=w.cell? q):StaIn w' B s p :=
 ⟨h.bx.keep bhStays hk,h.sb.keep hk,h.ru.keep hk,h.tb.keep thStays hk,h.ho.keep hhStays hk,h.sz⟩
theorem StaIn.more (h:StaIn w B s p)(hB:B≤B'):StaIn w B' s p :=
 ⟨h.bx.more bhStays hB,h.sb.more hB,h.ru.more hB,h.tb.more thStays hB,h.ho.more hhStays hB,h.sz⟩
theorem StaIn.below (h:StaIn w B s p)(hb:Below B' w w')(hB:B≤B'):StaIn w' B s p:=h.keep fun q hq=>hb.cell (p:=q) (by omega)
theorem StaIn.later (h:StaIn w w.heap.size s p)(hb:Below w.heap.size w w'):StaIn w' w'.heap.size s p:=(h.below hb (Nat.le_refl _)).more hb.size
end
theorem OwnB.farG {w w':World}{base n c b:Nat}{e:TypeId}{A:Option Addr}{l:List Nat}(h:OwnB w base e A n c l)(hg:w.grownBy w' (some b))(hb:b<base):OwnB w' base e A n c l :=
 ⟨zcc h.1 hg (fun b' cs fr q hb'=>by injection q with q;omega),h.2⟩
theorem Bk.put4 {w:World}{b:Nat}{t:TypeId}{u0 u1 u2 u3:Value}(h:Bk w b t #[u0,u1,u2,u3])(a0 a1 a2 a3:Value) :
 Bk ((((w.setCell ⟨b,0,none⟩ a0).setCell ⟨b,1,none⟩ a1).setCell ⟨b,2,none⟩ a2).setCell ⟨b,3,none⟩ a3) b t #[a0,a1,a2,a3]:=by
 simpa using (((h.put 0 a0).put 1 a1).put 2 a2).put 3 a3
theorem zlq {B:Nat}{w0 w:World}(h:Below B w0 w){b:Nat}(hb:B≤b)(a0 a1 a2 a3:Value) :
 Below B w0 ((((w.setCell ⟨b,0,none⟩ a0).setCell ⟨b,1,none⟩ a1).setCell ⟨b,2,none⟩ a2).setCell ⟨b,3,none⟩ a3) :=
 (((h.setCell hb a0).setCell hb a1).setCell hb a2).setCell hb a3
theorem zat {a b c:World}{row:Option Nat}(h:a.grownBy b row)(k:b.grownBy c row):a.grownBy c row:=zaa h k
theorem zi1 (w:World)(b:Nat)(a0 a1 a2 a3:Value):w.grownBy ((((w.setCell ⟨b,0,none⟩ a0).setCell ⟨b,1,none⟩ a1).setCell ⟨b,2,none⟩ a2).setCell ⟨b,3,none⟩ a3) (some b) :=
 zat (zat (zat (jk w b 0 a0) (jk _ b 1 a1)) (jk _ b 2 a2)) (jk _ b 3 a3)
theorem z6j:(Tryz.prog.info? 108).map (·.size)=some 4:=by kernel_rfl
theorem z6k:(Tryz.prog.info? 76).map (·.size)=some 4:=by kernel_rfl
theorem Bk.msg {w:World}{b:Nat}{t:TypeId}{u0 u1 u2 u3:Value}(h:Bk w b t #[u0,u1,u2,u3]):(loadVar 108 ⟨b,0,none⟩).run Tryz.prog w=.ok (.agg #[u0,u1,u2,u3]) w :=
 h.load Tryz.underlying108 rfl z6j
theorem Bk.box_ {w:World}{b:Nat}{t:TypeId}{u0 u1 u2 u3:Value}(h:Bk w b t #[u0,u1,u2,u3]):(loadVar 76 ⟨b,0,none⟩).run Tryz.prog w=.ok (.agg #[u0,u1,u2,u3]) w :=
 h.load Tryz.underlying76 rfl z6k
theorem zcq (n:Int)(w:World):Calls Tryz.prog 239 #[.int .i64 n] w fun e w'=>e=.returned (.bool (zcx n))∧w=w':=by
 by_cases h1:1≤n
 ·by_cases h2:n≤4294967295
  ·have HR:Hid (zcx n=true):=hiD (decide_eq_true ⟨h1,h2⟩)
   go_enter Tryz.func239,Tryz.ntmps239
   go_wp2
   go_ret;exact⟨by rw[HR.o]<;>rfl,rfl⟩
  ·have HR:Hid (zcx n=false):=hiD (decide_eq_false (fun h=>h2 h.2))
   go_enter Tryz.func239,Tryz.ntmps239
   go_wp2
   go_ret;exact⟨by rw[HR.o]<;>rfl,rfl⟩
 ·have HR:Hid (zcx n=false):=hiD (decide_eq_false (fun h=>h1 h.1))
  go_enter Tryz.func239,Tryz.ntmps239
  go_wp2
  go_ret;exact⟨by rw[HR.o]<;>rfl,rfl⟩
theorem zi2:(Tryz.prog.info? 5).map (fun i=>(i.zero,i.size,i.bytes))=some (some (.int .u8 0),1,1):=by kernel_rfl
def GiveB (w0:World)(n:Nat)(l:List Nat)(e:Ending)(w':World):Prop :=
 ∃ A' c',e=.returned (.slice A' n c')∧OwnB w' w0.heap.size 5 A' n c' l∧Below w0.heap.size w0 w'
theorem zlr (A:Option Addr)(n c:Nat)(l:List Nat)(w:World)(hl:Bytes w w.heap.size A n l)(hn:n≤100000000) :
 Calls Tryz.prog 88 #[.slice A n c] w (GiveB w n l):=by
 cases A with
 | none =>
   have h0:n=0:=by
    rcases Nat.eq_zero_or_pos n with h|h
    ·exact h
    ·obtain⟨b,o,h',_⟩:=hl.2.2 h;cases h'
   subst h0;have hl':l=[]:=List.eq_nil_of_length_eq_zero hl.1;subst hl';have heq:=fun W=>Lib.run_eql_slice_nil (P:=Tryz.prog) W 48 5 none 0 c 0 0 Tryz.underlying48;go_enter Tryz.func88,Tryz.ntmps88
   go_wp2
   go_ret;exact⟨_,_,rfl,OwnB.nil,Below.refl _ _⟩
 | some a =>
   have heq:=fun W=>Lib.run_eql_slice_nil (P:=Tryz.prog) W 48 5 (some a) n c 0 0 Tryz.underlying48;go_enter Tryz.func88,Tryz.ntmps88
   go_wp2_with (with_reducible refine stn 7 ?_)
   refine held (zao rfl (.tmp 5) (.tmp 6) 48 rfl Tryz.underlying48 zi2 w.heap.size (some ⟨w.heap.size,0,none⟩) 0 0 [] rfl (OwnB.empty w 5) w.heap.size (some a) n c l rfl
    (hl.below ((Below.refl _ _).alloc (Nat.le_refl _) _) (Nat.le_refl _)) (by omega) (by simp) ?_)
   intro A3 c3 w3 ho3 hb3 hg3;clear hg3;have hb3':Below w.heap.size w w3:=((Below.refl _ _).alloc (Nat.le_refl _) _).trans hb3;rw[Nat.zero_add,List.nil_append] at ho3;rw[Nat.zero_add];go_wp2
   go_ret;exact⟨_,_,rfl,ho3,hb3'⟩
theorem z6l (A:Option Addr)(n c B:Nat)(l:List Nat)(A':Option Addr)(n' c' B':Nat)(l':List Nat)(w:World)(hl:Bytes w B A n l)(hl':Bytes w B' A' n' l') :
 Calls Tryz.prog 87 #[.slice A n c,.slice A' n' c'] w fun e w'=>e=.returned (.bool (decide (l=l')))∧w=w':=by
 have h1:=zcg (P:=Tryz.prog) (c:=c) hl Tryz.underlying48 Tryz.underlying5 Tryz.underlying9;have h2:=zcg (P:=Tryz.prog) (c:=c') hl' Tryz.underlying48 Tryz.underlying5 Tryz.underlying9;have he:=ze8 l l' hl.2.1 hl'.2.1;generalize decide (l=l')=b at *;go_enter Tryz.func87,Tryz.ntmps87
 go_wp2
 go_ret;exact⟨rfl,rfl⟩
theorem zd8 (A:Option Addr)(n c B:Nat)(l:List Nat)(A':Option Addr)(n' c' B':Nat)(l':List Nat)(w:World)(hl:Bytes w B A n l)(hl':Bytes w B' A' n' l') :
 Calls Tryz.prog 26 #[.slice A n c,.slice A' n' c'] w fun e w'=>e=.returned (.bool (decide (l=l')))∧w=w':=by
 have h1:=zcg (P:=Tryz.prog) (c:=c) hl Tryz.underlying48 Tryz.underlying5 Tryz.underlying9;have h2:=zcg (P:=Tryz.prog) (c:=c') hl' Tryz.underlying48 Tryz.underlying5 Tryz.underlying9;have he:=ze8 l l' hl.2.1 hl'.2.1;generalize decide (l=l')=b at *;go_enter Tryz.func26,Tryz.ntmps26
 go_wp2
 go_ret;exact⟨rfl,rfl⟩
def GiveM (w0:World)(u f d:Int)(n:Nat)(l:List Nat)(e:Ending)(w':World):Prop :=
 ∃ A' c',e=.returned (.agg #[.int .i64 u,.int .i64 f,.int .i64 d,.slice A' n c'])∧OwnB w' w0.heap.size 5 A' n c' l∧Below w0.heap.size w0 w'
theorem z6m (u f d:Int)(A:Option Addr)(n c:Nat)(l:List Nat)(w:World)(hl:Bytes w w.heap.size A n l)(hn:n≤100000000) :
 Calls Tryz.prog 189 #[.agg #[.int .i64 u,.int .i64 f,.int .i64 d,.slice A n c]] w (GiveM w u f d n l):=by
 have hB:Below w.heap.size w ((w.alloc (.cells #[.int .i64 u,.int .i64 f,.int .i64 d,.slice A n c] 108)).alloc (.cells #[.int .i64 0,.int .i64 0,.int .i64 0,.slice none 0 0] 108)):=((Below.refl _ _).alloc (Nat.le_refl _) _).alloc (by simp) _;have h1:Bk ((w.alloc (.cells #[.int .i64 u,.int .i64 f,.int .i64 d,.slice A n c] 108)).alloc (.cells #[.int .i64 0,.int .i64 0,.int .i64 0,.slice none 0 0] 108)) w.heap.size 108 #[.int .i64 u,.int .i64 f,.int .i64 d,.slice A n c]:=(Bk.new _ _ _).alloc _;have h2:Bk ((w.alloc (.cells #[.int .i64 u,.int .i64 f,.int .i64 d,.slice A n c] 108)).alloc (.cells #[.int .i64 0,.int .i64 0,.int .i64 0,.slice none 0 0] 108)) (w.heap.size+1) 108 #[.int .i64 0,.int .i64 0,.int .i64 0,.slice none 0 0]:=Bk.new2 _ _ _ _;have HC:=hiD (zlr A n c l _ (hl.later hB) hn);have c3:=h1.cell 3;have HB:=hiD hB;have H1:=hiD h1;have H2:=hiD h2
 clear hl hB h1 h2;go_enter Tryz.func189,Tryz.ntmps189
 go_wp2_with fail
 refine HC.o.mono ?_;rintro e w1 ⟨A',c',rfl,ho,hb⟩;have hs:w.heap.size+1<((w.alloc (.cells #[.int .i64 u,.int .i64 f,.int .i64 d,.slice A n c] 108)).alloc (.cells #[.int .i64 0,.int .i64 0,.int .i64 0,.slice none 0 0] 108)).heap.size:=by simp
 have h1:=H1.o.below hb (by omega);have h2:=H2.o.below hb hs;obtain⟨⟨d0,d1,d2,d3⟩,g0,g1,g2,g3⟩:=h1.four;obtain⟨⟨e0,e1,e2,e3⟩,f0,f1,f2,f3⟩:=h2.four;have HO:Hid (OwnB w1 (w.heap.size+2) 5 A' n c' l):=hiD (ho.base_le (by simp));have HB1:=hiD (HB.o.trans (hb.mono (by simp;omega)));have H1':=hiD h1;have H2':=hiD h2;clear c3 HC H1 H2 HB ho hb h1 h2 hs;go_wp2_with fail
 refine bodyPost_ret (qi (a:=⟨w.heap.size+1,0,none⟩) rfl rfl (Bk.msg (Bk.put4 (H2'.o.far (show w.heap.size+1≠w.heap.size by omega) _) _ _ _ _))) rfl ⟨A',c',rfl,?_,?_⟩
 ·exact(((HO.o.farG (jk _ _ _ _) (by omega)).farG (zi1 _ _ _ _ _ _) (by omega)).base_le (by omega))
 ·exact zlq (HB1.o.setCell (Nat.le_refl _) _) (by omega) _ _ _ _
theorem z6n {u f d:Int}{l:List Nat}(h:zcx u=false):okMg ⟨u,f,d,l⟩=false:=zgh (fun q=>by
 have e:zcx u=true:=decide_eq_true ⟨q.1,q.2.1⟩
 rw[h] at e;cases e)
theorem z6o {u f d:Int}{l:List Nat}(h:okF f=false):okMg ⟨u,f,d,l⟩=false:=zgh (fun q=>by
 have e:=q.2.2.1;simp only at e
 rw[h] at e;cases e)
theorem z6p {u f d:Int}{l:List Nat}(h:¬ 0≤d):okMg ⟨u,f,d,l⟩=false:=zgh (fun q=>h q.2.2.2.1)
theorem z6q {u f d:Int}{l:List Nat}(h:¬ d≤1099511627776):okMg ⟨u,f,d,l⟩=false:=zgh (fun q=>h q.2.2.2.2.1)
theorem z6r {u f d:Int}{l:List Nat}{n:Nat}(hn:l.length=n)(h:¬ n≤2000):okMg ⟨u,f,d,l⟩=false:=zgh (fun q=>h (by have:=q.2.2.2.2.2;simp only at this;omega))
theorem z6s {u f d:Int}{l:List Nat}{n:Nat}(h1:zcx u=true)(h2:okF f=true)(h3:0≤d)(h4:d≤1099511627776)(hn:l.length=n)(h:n≤2000):okMg ⟨u,f,d,l⟩=true:=by
 have e:1≤u∧u≤4294967295:=of_decide_eq_true h1;exact zke ⟨e.1,e.2,h2,h3,h4,by simp only;omega⟩
theorem z6t (u f d:Int)(A:Option Addr)(n c:Nat)(l:List Nat)(w:World)(hl:l.length=n)(hn:n≤140737488355328) :
 Calls Tryz.prog 240 #[.agg #[.int .i64 u,.int .i64 f,.int .i64 d,.slice A n c]] w fun e w'=>e=.returned (.bool (okMg ⟨u,f,d,l⟩))∧w'=w.alloc (.cells #[.int .i64 u,.int .i64 f,.int .i64 d,.slice A n c] 108):=by
 have h1:Bk (w.alloc (.cells #[.int .i64 u,.int .i64 f,.int .i64 d,.slice A n c] 108)) w.heap.size 108 #[.int .i64 u,.int .i64 f,.int .i64 d,.slice A n c]:=Bk.new _ _ _;obtain⟨⟨c0,c1,c2,c3⟩,-,-,-,-⟩:=h1.four;clear h1;have HL:=hiD hl;clear hl;cases hu:zcx u
 ·have HR:Hid (okMg ⟨u,f,d,l⟩=false):=hiD (z6n hu)
  have HU:=hiD hu;clear hu;go_enter Tryz.func240,Tryz.ntmps240
  go_wp2_with fail
  refine(zcq u _).mono ?_;rintro e w' ⟨rfl,rfl⟩;rw[HU.o];go_wp2_with fail
  go_ret;exact⟨by rw[HR.o]<;>rfl,rfl⟩
 cases hf:okF f
 ·have HR:Hid (okMg ⟨u,f,d,l⟩=false):=hiD (z6o hf)
  have HU:=hiD hu;have HF:=hiD hf;clear hu hf;go_enter Tryz.func240,Tryz.ntmps240
  go_wp2_with fail
  refine(zcq u _).mono ?_;rintro e w' ⟨rfl,rfl⟩;rw[HU.o];go_wp2_with fail
  refine(zfr f _).mono ?_;rintro e w' ⟨rfl,rfl⟩;rw[HF.o];go_wp2_with fail
  go_ret;exact⟨by rw[HR.o]<;>rfl,rfl⟩
 have HU:=hiD hu;have HF:=hiD hf;by_cases h3:0≤d
 ·by_cases h4:d≤1099511627776
  ·by_cases h5:n≤2000
   ·have HR:Hid (okMg ⟨u,f,d,l⟩=true):=hiD (z6s hu hf h3 h4 HL.o h5)
    have h5':(n:Int)≤2000:=by omega
    clear hu hf;go_enter Tryz.func240,Tryz.ntmps240
    go_wp2_with fail
    refine(zcq u _).mono ?_;rintro e w' ⟨rfl,rfl⟩;rw[HU.o];go_wp2_with fail
    refine(zfr f _).mono ?_;rintro e w' ⟨rfl,rfl⟩;rw[HF.o];go_wp2_with fail
    go_ret;exact⟨by rw[HR.o]<;>rfl,rfl⟩
   ·have HR:Hid (okMg ⟨u,f,d,l⟩=false):=hiD (z6r HL.o h5)
    have h5':decide ((n:Int)≤2000)=false:=decide_eq_false (by omega);clear hu hf;go_enter Tryz.func240,Tryz.ntmps240
    go_wp2_with fail
    refine(zcq u _).mono ?_;rintro e w' ⟨rfl,rfl⟩;rw[HU.o];go_wp2_with fail
    refine(zfr f _).mono ?_;rintro e w' ⟨rfl,rfl⟩;rw[HF.o];go_wp2_with fail
    go_ret;exact⟨by rw[HR.o]<;>rfl,rfl⟩
  ·have HR:Hid (okMg ⟨u,f,d,l⟩=false):=hiD (z6q h4)
   clear hu hf;go_enter Tryz.func240,Tryz.ntmps240
   go_wp2_with fail
   refine(zcq u _).mono ?_;rintro e w' ⟨rfl,rfl⟩;rw[HU.o];go_wp2_with fail
   refine(zfr f _).mono ?_;rintro e w' ⟨rfl,rfl⟩;rw[HF.o];go_wp2_with fail
   go_ret;exact⟨by rw[HR.o]<;>rfl,rfl⟩
 ·have HR:Hid (okMg ⟨u,f,d,l⟩=false):=hiD (z6p h3)
  clear hu hf;go_enter Tryz.func240,Tryz.ntmps240
  go_wp2_with fail
  refine(zcq u _).mono ?_;rintro e w' ⟨rfl,rfl⟩;rw[HU.o];go_wp2_with fail
  refine(zfr f _).mono ?_;rintro e w' ⟨rfl,rfl⟩;rw[HF.o];go_wp2_with fail
  go_ret;exact⟨by rw[HR.o]<;>rfl,rfl⟩
def tmA (t:Tm):Array Value:=#[.int .i64 t.id,.string t.box,.int .i64 t.at_,.int .i64 t.uid,.int .i64 t.flags,.int .i64 t.date,.slice t.A t.n t.c]
theorem Bk.tm {w:World}{b:Nat}{t:Tm}(H:Bk w b 110 (tmA t)) :
 w.cell? ⟨b,0,none⟩=some (.int .i64 t.id)∧w.cell? ⟨b,1,none⟩=some (.string t.box)∧w.cell? ⟨b,2,none⟩=some (.int .i64 t.at_)∧w.cell? ⟨b,3,none⟩=some (.int .i64 t.uid) ∧
 w.cell? ⟨b,4,none⟩=some (.int .i64 t.flags)∧w.cell? ⟨b,5,none⟩=some (.int .i64 t.date)∧w.cell? ⟨b,6,none⟩=some (.slice t.A t.n t.c) :=
 ⟨H.cell 0,H.cell 1,H.cell 2,H.cell 3,H.cell 4,H.cell 5,H.cell 6⟩
theorem z6u:(Tryz.prog.info? 106).map (fun i=>(i.zero,i.size,i.bytes))=some (some (.agg #[.string ByteArray.empty,.int .i64 0]),2,24):=by kernel_rfl
def neR (box:ByteArray)(l:List Rul):List Rul:=l.filter (fun r=>decide (r.1≠box))
theorem z6v {box:ByteArray}{l:List Rul}{k:Nat}{r:Rul}(e:l[k]?=some r)(h:r.1=box):neR box (l.take (k+1))=neR box (l.take k):=by
 rw[zdo l k r e];unfold neR;rw[List.filter_append,List.filter_cons_of_neg (by simp[h]),List.filter_nil,List.append_nil]
theorem z6w {box:ByteArray}{l:List Rul}{k:Nat}{r:Rul}(e:l[k]?=some r)(h:r.1≠box):neR box (l.take (k+1))=neR box (l.take k)++[r]:=by
 rw[zdo l k r e];unfold neR;rw[List.filter_append,List.filter_cons_of_pos (by simp[h]),List.filter_nil]
def Swept (box:ByteArray)(l m:List Rul)(i j:Nat):Prop:=m.length=l.length∧i<j∧j≤l.length∧m.take i=neR box (l.take j)∧m.drop j=l.drop j
theorem Swept.at_ {box:ByteArray}{l m:List Rul}{i j:Nat}(h:Swept box l m i j):m[j]?=l[j]?:=by
 obtain⟨_,_,_,_,h⟩:=h;have:=congrArg (fun q=>q[0]?) h
 simpa using this
theorem Swept.no {box:ByteArray}{l m:List Rul}{i j:Nat}{r:Rul}(h:Swept box l m i j)(e:l[j]?=some r)(hr:r.1=box):Swept box l m i (j+1):=by
 obtain⟨h1,h2,h3,h4,h5⟩:=h;have hj:j<l.length:=(List.getElem?_eq_some_iff.1 e).1;refine⟨h1,by omega,by omega,by rw[z6v e hr,h4],?_⟩;rw[← List.drop_drop,← List.drop_drop,h5]
theorem Swept.yes {box:ByteArray}{l m:List Rul}{i j:Nat}{r:Rul}(h:Swept box l m i j)(e:l[j]?=some r)(hr:r.1≠box):Swept box l (m.set i r) (i+1) (j+1):=by
 obtain⟨h1,h2,h3,h4,h5⟩:=h;have hj:j<l.length:=(List.getElem?_eq_some_iff.1 e).1;refine⟨by rw[List.length_set,h1],by omega,by omega,?_,?_⟩
 ·rw[z6w e hr,← h4,zdo (m.set i r) i r (by rw[List.getElem?_set_self (by omega)]),List.take_set_of_le (Nat.le_refl _)]
 ·rw[List.drop_set_of_lt (by omega),← List.drop_drop,← List.drop_drop,h5]
theorem Swept.done {box:ByteArray}{l m:List Rul}{i:Nat}(h:Swept box l m i l.length):m.take i=neR box l∧i<l.length∧i≤m.length:=by
 obtain⟨h1,h2,h3,h4,h5⟩:=h;rw[List.take_of_length_le (Nat.le_refl _)] at h4;exact⟨h4,h2,by omega⟩
theorem z6x {P:Program}{o:Oper}{a:Act}{w w':World}{K:Act→World→Prop}{Q:Exit→Act→World→Prop}{s:Operand}{t:TypeId}{v z:Value}(ho:o.op=.call { callee:=.builtin .clear,args:=#[s],argTypes:=#[t] })
 (hs:a.eval s=v) (hrun:(Builtin.clear_ #[t] o.type #[v]).run P w=.ok z w') (hK:K (a.put o.dst z) w'):o.wp P a w K Q:=by
 unfold Oper.wp execOp;simp only[ho,resolve,invoke,builtin,Sem.run_bind,Sem.run_pure,Result.andThen_ok,List.map_toArray,List.map_cons,List.map_nil,hs,hrun];exact hK
end Go.Proofs.YtmjjefnmabbgdaaGreatDoor
