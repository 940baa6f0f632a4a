/- A part of the proof. -/
import Derived.Test.YtmjjefnmabbgdaaGreatDoorSStC
import Derived.Test.YtmjjefnmabbgdaaGreatDoorSEventO
namespace Go.Proofs.YtmjjefnmabbgdaaGreatDoor
set_option linter.unusedVariables false
set_option linter.unusedSimpArgs false
set_option maxRecDepth 100000
set_option maxHeartbeats 16000000
open Go.RowKit
structure ScAt (t:TypeId)(w:World)(base bs:Nat)(s:Sta)(p:StaAt):Prop where
 own:StaO w base s p
 bk:Bk w bs t (staA s p)
 hb:base≤bs
theorem ScAt.below {t:TypeId}{w w':World}{base bs:Nat}{s:Sta}{p:StaAt}(h:ScAt t w base bs s p)(hb:Below w.heap.size w w'):ScAt t w' base bs s p :=
 ⟨h.own.below hb,h.bk.below hb h.bk.lt,h.hb⟩
theorem ScAt.base {t:TypeId}{w:World}{base bs:Nat}{s:Sta}{p:StaAt}(h:ScAt t w base bs s p):base≤w.heap.size:=Nat.le_trans h.hb (Nat.le_of_lt h.bk.lt)
def DoIs (t:TypeId)(base bs:Nat)(r:Sta×Int)(w:World)(e:Ending)(w':World):Prop :=
 e=.returned (.int .i64 r.2)∧Below base w w'∧(r.2=0→∃ p,ScAt t w' base bs r.1 p)
theorem DoIs.no {t:TypeId}{base bs:Nat}{r:Sta×Int}{w w':World}{z:Int}(h:r.2=z)(hz:z≠0)(hb:Below base w w'):DoIs t base bs r w (.returned (.int .i64 z)) w' :=
 ⟨by rw[h],hb,fun h0=>absurd (h.symm.trans h0) hz⟩
theorem DoIs.yes {t:TypeId}{base bs:Nat}{r:Sta×Int}{w w':World}{p:StaAt}(h:r.2=0)(hb:Below base w w')(hp:ScAt t w' base bs r.1 p):DoIs t base bs r w (.returned (.int .i64 0)) w' :=
 ⟨by rw[h],hb,fun _=>⟨p,hp⟩⟩
theorem Chg.sc {t:TypeId}{w:World}{base bs:Nat}{s:Sta}{p:StaAt}(h:ScAt t w base bs s p)(i:Nat)(v:Value):Chg t base w (w.setCell ⟨bs,i,none⟩ v):=Chg.cell h.bk h.hb i v
theorem zfw:¬ StaT 103:=by unfold StaT;decide
theorem OkSta.small {s:Sta}(h:OkSta s):SmSta s where
 lens:=by have:=h.lens;omega
 bx:=fun b hb=>by
  have h1:=(h.boxes.each b hb).1;refine⟨Nat.le_trans h1.2.2.2.2.1 (by omega),fun m hm=>?_⟩;have:=zfb (h1.2.2.2.2.2.1 m hm).1;omega
 tb:=fun t ht=>by have:=zfb (h.tombs.1 t ht).2.2.2.2.2;omega
 ho:=fun x hx=>by
  by_cases hn:x.set=[]
  ·rw[hn];simp
  ·have:=(h.holds.1 x hx).2.2.2 hn
   unfold jr at this;have:=of_decide_eq_true this;omega
theorem OwnK.putB {w:World}{base n c g:Nat}{l:List Bh}(h:OwnK 4 bhC w base 76 (some ⟨g,0,none⟩) n c l){i:Nat}{x y:Bh}(hi:l[i]?=some x) :
 OwnK 4 bhC ((((w.setCell ⟨g,i*4,none⟩ (.string y.b.name)).setCell ⟨g,i*4+1,none⟩ (.int .i64 y.b.valid)).setCell ⟨g,i*4+2,none⟩ (.int .i64 y.b.next)).setCell ⟨g,i*4+3,none⟩ (.slice y.A y.n y.c)) base 76 (some ⟨g,0,none⟩) n c (l.set i y):=by
 have hh:∀ g':Nat,some (⟨g,0,none⟩:Addr)=some ⟨g',0,none⟩→g'=g:=fun g' e=>by injection e with e;injection e with e;exact e.symm
 have hil:=(List.getElem?_eq_some_iff.1 hi).1;have hget:∀ z:Bh,(l.set i z)[i]?=some z:=fun z=>by rw[List.getElem?_set_self hil]
 obtain⟨g0,e0,_,_,_,_,h0⟩:=OwnK.putX h hi (j:=0) (a':=(⟨⟨y.b.name,x.b.valid,x.b.next,x.b.msgs⟩,x.A,x.n,x.c⟩:Bh)) (by omega) (.string y.b.name) (by unfold bhC;rfl);rw[hh g0 e0] at h0;obtain⟨g1,e1,_,_,_,_,h1⟩:=OwnK.putX h0 (hget _) (j:=1) (a':=(⟨⟨y.b.name,y.b.valid,x.b.next,x.b.msgs⟩,x.A,x.n,x.c⟩:Bh)) (by omega) (.int .i64 y.b.valid) (by unfold bhC;rfl);rw[hh g1 e1,List.set_set] at h1;obtain⟨g2,e2,_,_,_,_,h2⟩:=OwnK.putX h1 (hget _) (j:=2) (a':=(⟨⟨y.b.name,y.b.valid,y.b.next,x.b.msgs⟩,x.A,x.n,x.c⟩:Bh)) (by omega) (.int .i64 y.b.next) (by unfold bhC;rfl);rw[hh g2 e2,List.set_set] at h2;obtain⟨g3,e3,_,_,_,_,h3⟩:=OwnK.putX h2 (hget _) (j:=3) (a':=y) (by omega) (.slice y.A y.n y.c) (by unfold bhC;rfl);rw[hh g3 e3,List.set_set] at h3;exact h3
theorem BoxesO.put {w:World}{base n c g:Nat}{l:List Bx}(h:BoxesO w base (some ⟨g,0,none⟩) n c l){i:Nat}(hi:i<n)(y:Bh)(hy:OwnM w base y.A y.n y.c y.b.msgs) :
 BoxesO ((((w.setCell ⟨g,i*4,none⟩ (.string y.b.name)).setCell ⟨g,i*4+1,none⟩ (.int .i64 y.b.valid)).setCell ⟨g,i*4+2,none⟩ (.int .i64 y.b.next)).setCell ⟨g,i*4+3,none⟩ (.slice y.A y.n y.c)) base (some ⟨g,0,none⟩) n c (l.set i y.b) ∧
 Chg 76 base w ((((w.setCell ⟨g,i*4,none⟩ (.string y.b.name)).setCell ⟨g,i*4+1,none⟩ (.int .i64 y.b.valid)).setCell ⟨g,i*4+2,none⟩ (.int .i64 y.b.next)).setCell ⟨g,i*4+3,none⟩ (.slice y.A y.n y.c)):=by
 obtain⟨hs,a1,a2,rfl⟩:=h;obtain⟨b,cur,hA,hb,hh,_,_⟩:=a1.block (by omega);injection hA with hA;injection hA with hA;subst hA;obtain⟨x,hx⟩:∃ x,hs[i]?=some x:=⟨_,List.getElem?_eq_getElem (by rw[a1.len];exact hi)⟩;have hch:Chg 76 base w ((((w.setCell ⟨g,i*4,none⟩ (.string y.b.name)).setCell ⟨g,i*4+1,none⟩ (.int .i64 y.b.valid)).setCell ⟨g,i*4+2,none⟩ (.int .i64 y.b.next)).setCell ⟨g,i*4+3,none⟩ (.slice y.A y.n y.c)) :=
  Chg.of (show Bk w g 76 cur from hh) (zi3 w g (i*4) _ _ _ _) (zso (Below.refl _ _) hb _ _ _ _ _)
 refine⟨⟨hs.set i y,a1.putB hx,fun z hz=>?_,by rw[List.map_set]⟩,hch⟩;rcases List.mem_or_eq_of_mem_set hz with hz|rfl
 ·exact bhOwns.chg (a2 z hz) hch (by decide)
 ·exact bhOwns.chg (show BhO w base z from hy) hch (by decide)
theorem BoxesO.row {w:World}{base n c:Nat}{A:Option Addr}{l:List Bx}(h:BoxesO w base A n c l){i:Nat}(hi:i<n):∃ (g:Nat) (x:Bh),A=some ⟨g,0,none⟩∧base≤g∧g<w.heap.size∧l[i]?=some x.b∧OwnM w base x.A x.n x.c x.b.msgs ∧
 (w.cell? ⟨g,i*4,none⟩=some (.string x.b.name)∧w.cell? ⟨g,i*4+1,none⟩=some (.int .i64 x.b.valid)∧w.cell? ⟨g,i*4+2,none⟩=some (.int .i64 x.b.next)∧w.cell? ⟨g,i*4+3,none⟩=some (.slice x.A x.n x.c)) ∧
 (w.frozen? ⟨g,i*4,none⟩=false∧w.frozen? ⟨g,i*4+1,none⟩=false∧w.frozen? ⟨g,i*4+2,none⟩=false∧w.frozen? ⟨g,i*4+3,none⟩=false):=by
 obtain⟨g,x,hA,hb,hl,hx,_,hr,hP,cs,hk,_⟩:=h.at_ hi;exact⟨g,x,hA,hb,hl,hx,hP,⟨hr 0 _ rfl,hr 1 _ rfl,hr 2 _ rfl,hr 3 _ rfl⟩,⟨hk.frozen _,hk.frozen _,hk.frozen _,hk.frozen _⟩⟩
def BdOk (w:World)(base:Nat)(h:Hd):Prop:=(OwnB w base 5 h.A h.n h.c h.m.body∨Bytes w base h.A h.n h.m.body)∧h.n≤140737488355328
theorem Bytes.stay {w w':World}{B n:Nat}{A:Option Addr}{l:List Nat}(h:Bytes w B A n l)(hk:∀ p:Addr,p.block<B→p.block<w.heap.size→w'.cell? p=w.cell? p):Bytes w' B A n l:=by
 refine⟨h.1,h.2.1,fun hn=>?_⟩;obtain⟨b,o,e,hb,hc⟩:=h.2.2 hn;exact⟨b,o,e,hb,fun k hk'=>(hk ⟨b,o+k,none⟩ hb (World.block_lt_of_cell? _ _ (hc k hk'))).trans (hc k hk')⟩
theorem BdOk.below {w w':World}{base:Nat}{h:Hd}(H:BdOk w base h)(hb:Below w.heap.size w w'):BdOk w' base h:=⟨H.1.imp (fun a=>a.below hb) (fun a=>a.stay fun p _ hp=>hb.cell (p:=p) hp),H.2⟩
theorem BdOk.chg {w w':World}{base:Nat}{h:Hd}{t:TypeId}(H:BdOk w base h)(hc:Chg t base w w')(hn:5≠t):BdOk w' base h:=⟨H.1.imp (fun a=>a.chg hc hn) (fun a=>a.stay fun p hp _=>hc.1.cell (p:=p) hp),H.2⟩
theorem BdOk.bytes {w:World}{base:Nat}{h:Hd}(H:BdOk w base h)(hb:base≤w.heap.size):Bytes w w.heap.size h.A h.n h.m.body:=by
 rcases H.1 with h1|h1
 ·exact h1.bytes
 ·exact h1.more hb
def MsgsV (w:World)(base:Nat)(A:Option Addr)(n c:Nat)(l:List Mg):Prop:=∃ hs:List Hd,OwnK 4 hdC w base 108 A n c hs∧(∀ h∈hs,BdOk w base h)∧hs.map Hd.m=l
section
variable {w w':World} {base n c:Nat} {A:Option Addr} {l:List Mg}
theorem MsgsV.len (h:MsgsV w base A n c l):l.length=n:=by
 obtain⟨hs,h1,_,h3⟩:=h;rw[← h3,List.length_map,h1.len]
theorem MsgsV.below (h:MsgsV w base A n c l)(hb:Below w.heap.size w w'):MsgsV w' base A n c l:=by
 obtain⟨hs,h1,h2,h3⟩:=h;exact⟨hs,h1.below hb,fun x hx=>(h2 x hx).below hb,h3⟩
theorem MsgsV.chg {t:TypeId}(h:MsgsV w base A n c l)(hc:Chg t base w w')(h1:108≠t)(h2:5≠t):MsgsV w' base A n c l:=by
 obtain⟨hs,a1,a2,a3⟩:=h;exact⟨hs,a1.chg hc h1,fun x hx=>(a2 x hx).chg hc h2,a3⟩
theorem MsgsV.at_ {j:Nat}(h:MsgsV w base A n c l)(hj:j<n):∃ b x,A=some ⟨b,0,none⟩∧base≤b∧b<w.heap.size∧l[j]?=some x.m∧l.take (j+1)=l.take j++[x.m]∧w.rangeAt b (j*4) (hdC x)∧BdOk w base x:=by
 obtain⟨hs,h1,h2,rfl⟩:=h;obtain⟨b,hA,hb,hl',hr⟩:=h1.range (by omega);obtain⟨x,hx⟩:∃ x,hs[j]?=some x:=⟨_,List.getElem?_eq_getElem (by rw[h1.len];exact hj)⟩;have hx':(hs.map Hd.m)[j]?=some x.m:=by rw[List.getElem?_map,hx];rfl
 exact⟨b,x,hA,hb,hl',hx',zdo _ _ _ hx',hr j x hx,h2 x (List.mem_of_getElem? hx)⟩
end
def TombNow (bs qm:Nat)(cl nt u f d:Int)(xA:Option Addr)(xn xc:Nat)(W:World):Prop :=
 W.cell? ⟨bs,0,none⟩=some (.int .i64 cl)∧W.cell? ⟨bs,7,none⟩=some (.int .i64 nt)∧W.cell? ⟨qm,0,none⟩=some (.int .i64 u)∧W.cell? ⟨qm,1,none⟩=some (.int .i64 f)∧W.cell? ⟨qm,2,none⟩=some (.int .i64 d)∧W.cell? ⟨qm,3,none⟩=some (.slice xA xn xc)
theorem TombNow.of {bs qm:Nat}{cl nt u f d:Int}{xA:Option Addr}{xn xc:Nat}{W W':World}(h:TombNow bs qm cl nt u f d xA xn xc W)(hk:∀ p:Addr,(W.cell? p).isSome=true→(p.block=bs∧(p.off=0∨p.off=7)∨p.block=qm)→W'.cell? p=W.cell? p):TombNow bs qm cl nt u f d xA xn xc W':=by
 obtain⟨a,b,c,d',e,f'⟩:=h;refine⟨(hk _ (by rw[a];rfl) (.inl ⟨rfl,.inl rfl⟩)).trans a,(hk _ (by rw[b];rfl) (.inl ⟨rfl,.inr rfl⟩)).trans b,(hk _ (by rw[c];rfl) (.inr rfl)).trans c,(hk _ (by rw[d'];rfl) (.inr rfl)).trans d',(hk _ (by rw[e];rfl) (.inr rfl)).trans e,(hk _ (by rw[f'];rfl) (.inr rfl)).trans f'⟩
section
variable {α:Type} {p:α→Bool}
def zd9 (p:α→Bool)(l:List α):List α:=l.filter (fun r=>!p r)
theorem z8g {l:List α}{k:Nat}{r:α}(e:l[k]?=some r)(h:p r=true):zd9 p (l.take (k+1))=zd9 p (l.take k):=by
 rw[zcz e];unfold zd9;rw[List.filter_append,List.filter_cons_of_neg (by simp[h]),List.filter_nil,List.append_nil]
theorem z8h {l:List α}{k:Nat}{r:α}(e:l[k]?=some r)(h:p r=false):zd9 p (l.take (k+1))=zd9 p (l.take k)++[r]:=by
 rw[zcz e];unfold zd9;rw[List.filter_append,List.filter_cons_of_pos (by simp[h]),List.filter_nil]
def SweptG (p:α→Bool)(l m:List α)(i j:Nat):Prop:=m.length=l.length∧i<j∧j≤l.length∧m.take i=zd9 p (l.take j)∧m.drop j=l.drop j
theorem SweptG.at_ {l m:List α}{i j:Nat}(h:SweptG p l m i j):m[j]?=l[j]?:=by
 obtain⟨_,_,_,_,h⟩:=h;have:=congrArg (fun q=>q[0]?) h
 simpa using this
theorem SweptG.no {l m:List α}{i j:Nat}{r:α}(h:SweptG p l m i j)(e:l[j]?=some r)(hr:p r=true):SweptG p l m i (j+1):=by
 obtain⟨h1,h2,h3,h4,h5⟩:=h;have hj:j<l.length:=(List.getElem?_eq_some_iff.1 e).1;refine⟨h1,by omega,by omega,by rw[z8g e hr,h4],?_⟩;rw[← List.drop_drop,← List.drop_drop,h5]
theorem SweptG.yes {l m:List α}{i j:Nat}{r:α}(h:SweptG p l m i j)(e:l[j]?=some r)(hr:p r=false):SweptG p l (m.set i r) (i+1) (j+1):=by
 obtain⟨h1,h2,h3,h4,h5⟩:=h;have hj:j<l.length:=(List.getElem?_eq_some_iff.1 e).1;refine⟨by rw[List.length_set,h1],by omega,by omega,?_,?_⟩
 ·rw[z8h e hr,← h4,zcz (l:=m.set i r) (k:=i) (a:=r) (by rw[List.getElem?_set_self (by omega)]),List.take_set_of_le (Nat.le_refl _)]
 ·rw[List.drop_set_of_lt (by omega),← List.drop_drop,← List.drop_drop,h5]
theorem SweptG.done {l m:List α}{i:Nat}(h:SweptG p l m i l.length):m.take i=zd9 p l∧i<l.length∧i≤m.length:=by
 obtain⟨h1,h2,h3,h4,h5⟩:=h;rw[List.take_of_length_le (Nat.le_refl _)] at h4;exact⟨h4,h2,by omega⟩
end
end Go.Proofs.YtmjjefnmabbgdaaGreatDoor
