/- A part of the proof. -/
import Derived.Test.YtmjjefnmabbgdaaGreatDoorSRecRows
import Derived.Great.BuildSlice
import Derived.Test.YtmjjefnmabbgdaaGreatDoorSStL
namespace Go.Proofs.YtmjjefnmabbgdaaGreatDoor
set_option linter.unusedVariables false
set_option linter.unusedSimpArgs false
set_option maxRecDepth 100000
set_option maxHeartbeats 16000000
open Go.RowKit
def evL (h:Eh):List Value:=(evC h).toList
def EvsIn (w:World)(B:Nat)(A:Option Addr)(n:Nat)(l:List Eh):Prop:=ColK 11 evL w B A n l∧∀ h∈l,EvIn w B h
theorem EvsIn.later {w w':World}{A:Option Addr}{n:Nat}{l:List Eh}(h:EvsIn w w.heap.size A n l)(hb:Below w.heap.size w w'):EvsIn w' w'.heap.size A n l:=⟨h.1.later hb,fun x hx=>(h.2 x hx).later hb⟩
theorem EvsIn.at_ {w:World}{B n j:Nat}{A:Option Addr}{l:List Eh}(h:EvsIn w B A n l)(hj:j<n):∃ b o x,A=some ⟨b,o,none⟩∧b<B∧l[j]?=some x∧w.rangeAt b (o+j*11) (evC x).toList∧EvIn w B x:=by
 obtain⟨b,o,x,rfl,hb,hx,_,hr⟩:=h.1.at_ hj;exact⟨b,o,x,rfl,hb,hx,hr,h.2 x (List.mem_of_getElem? hx)⟩
theorem opensEvs:Opens Tryz.prog 31 evRel.slice:=zge Tryz.underlying31 (by kernel_rfl) (by decide) (by rw[show Tryz.prog.bytesOf 50=152 from by kernel_rfl];omega) z1w
theorem zhf {w:World}{B:Nat}{A:Option Addr}{n c:Nat}{l:List Eh}(h:evRel.slice.R w B [.slice A n c] l):EvsIn w B A n l∧n≤140737488355328:=by
 obtain⟨A1,n1,c1,e,h1,h2,h3,h4,h5⟩:=h;injection e with e _;injection e with e1 e2 e3;subst e1;subst e2;subst e3;refine⟨⟨⟨h4,fun hn=>?_⟩,fun x hx=>?_⟩,h3⟩
 ·obtain⟨b,o,e,hb,hr⟩:=h5 hn
  refine⟨b,o,e,hb,fun i a ha=>?_⟩;obtain⟨cs,hc,hcs⟩:=hr i a ha;rw[show cs=evL a from hcs.1] at hc;exact hc
 ·obtain⟨i,hi⟩:=List.getElem?_of_mem hx
  have hn:0<n:=by
   have:=(List.getElem?_eq_some_iff.1 hi).1;omega
  obtain⟨b,o,e,hb,hr⟩:=h5 hn;obtain⟨cs,hc,hcs⟩:=hr i x hi;exact hcs.2
def chL (c:{ c:Ch // c.Ok }):List Value:=(chC c.1).toList
def oneV (v:Value):List Value:=[v]
theorem zl5 (v:Value):(oneV v).length=1:=rfl
theorem zl6:(Tryz.prog.info? 48).map (fun i=>(i.zero,i.size,i.bytes))=some (some (.slice none 0 0),1,24):=by kernel_rfl
def RecsIn (w:World)(base:Nat)(us:List Value)(l:List Rc):Prop :=
 us.length=l.length∧∀ (i:Nat) (r:Rc),l[i]?=some r→∃ A n c,us[i]?=some (.slice A n c)∧n≤1000000∧OwnB w base 5 A n c r.bytes
theorem RecsIn.below {w w':World}{base:Nat}{us:List Value}{l:List Rc}(h:RecsIn w base us l)(hb:Below w.heap.size w w'):RecsIn w' base us l :=
 ⟨h.1,fun i r hr=>by
  obtain⟨A,n,c,h1,h2,h3⟩:=h.2 i r hr
  exact⟨A,n,c,h1,h2,h3.below hb⟩⟩
theorem RecsIn.nil (w:World)(B:Nat):RecsIn w B [] []:=⟨rfl,fun i r h=>by simp at h⟩
theorem RecsIn.snoc {w:World}{B:Nat}{us:List Value}{l:List Rc}(h:RecsIn w B us l){A:Option Addr}{n c:Nat}{r:Rc}(h1:n≤1000000)(h4:OwnB w B 5 A n c r.bytes):RecsIn w B (us++[.slice A n c]) (l++[r]):=by
 refine⟨by rw[List.length_append,List.length_append,h.1];rfl,fun i x hx=>?_⟩;by_cases hi:i<l.length
 ·rw[List.getElem?_append_left hi] at hx
  rw[List.getElem?_append_left (by rw[h.1];exact hi)];exact h.2 i x hx
 ·rw[List.getElem?_append_right (by omega)] at hx
  have hil:i<l.length+1:=by
   have:=(List.getElem?_eq_some_iff.1 hx).1;simp only[List.length_singleton] at this;omega
  obtain rfl:i=l.length:=by omega
  rw[Nat.sub_self] at hx;cases hx
  rw[List.getElem?_append_right (by rw[h.1];exact Nat.le_refl _),h.1,Nat.sub_self];exact⟨A,n,c,rfl,h1,h4⟩
theorem zhg {k m:Nat}{w:World}{base base2 n1 c1 n2 c2:Nat}{e1 e2:TypeId}{A1 A2:Option Addr}{l1 l2:List Value}(h1:w.ownsRow base e1 k (.slice A1 n1 c1) n1 l1)(h2:w.ownsRow base2 e2 m (.slice A2 n2 c2) n2 l2)(hne:e1≠e2) :
 (Value.slice A2 n2 c2).ownBlock=none∨(Value.slice A2 n2 c2).ownBlock≠(Value.slice A1 n1 c1).ownBlock:=by
 rcases h2.2 with ⟨hv,_⟩|⟨g2,cap2,cur2,hv2,_,hh2,_⟩
 ·left;rw[hv];rfl
 ·right
  rcases h1.2 with ⟨hv,_⟩|⟨g1,cap1,cur1,hv1,_,hh1,_⟩
  ·rw[hv,hv2];simp[Value.ownBlock]
  ·rw[hv1,hv2]
   intro e;have e':g2=g1:=by simpa [Value.ownBlock] using e
   subst e';rw[hh1] at hh2;injection hh2 with hh2;injection hh2 with _ ht;exact hne ht
theorem Bk.keptR {w w':World}{b:Nat}{t:TypeId}{cs:Array Value}{row:Option Nat}(h:Bk w b t cs)(hg:w.grownBy w' row)(hne:some b≠row):Bk w' b t cs:=(hg.block b h.lt hne).trans h
theorem RecsIn.keptR {w w':World}{base n1 c1 k:Nat}{e1:TypeId}{A1:Option Addr}{l1:List Value}{us:List Value}{l:List Rc}(h:RecsIn w base us l)(h1:w.ownsRow base e1 k (.slice A1 n1 c1) n1 l1)(hne:e1≠5)(hg:w.grownBy w' (Value.slice A1 n1 c1).ownBlock):RecsIn w' base us l :=
 ⟨h.1,fun i r hr=>by
  obtain⟨A,n,c,q1,q2,q3⟩:=h.2 i r hr
  exact⟨A,n,c,q1,q2,q3.1.kept hg (zhg h1 q3.1 hne),q3.2⟩⟩
theorem zhh {w:World}{base n c g:Nat}{e t:TypeId}{A:Option Addr}{l:List Nat}{cs:Array Value}(h:OwnB w base e A n c l)(hg:Bk w g t cs)(hne:e≠t)(cs':Array Value):OwnB (w.setRow g cs') base e A n c l:=by
 refine⟨h.1.kept (jy hg cs') ?_,h.2⟩;rcases h.1.2 with ⟨hv,_⟩|⟨g2,cap2,cur2,hv2,_,hh2,_⟩
 ·left;rw[hv];rfl
 ·right
  rw[hv2];intro e';have e2:g2=g:=by simpa [Value.ownBlock] using e'
  subst e2;rw[show w.heap[g2]?=_ from hg] at hh2;injection hh2 with hh2;injection hh2 with _ ht;exact hne ht.symm
structure LkSt (w:World)(b5:Nat)(rs:List Rc)(cur:Ch)(us:List Value)(n6 n7:Nat)(L7:List { c:Ch // c.Ok })(A6:Option Addr)(c6:Nat)(A7:Option Addr)(c7:Nat)(W:World):Prop where
 bx:Bk W b5 27 (chC cur)
 rec_:OwnK 1 oneV W (b5+1) 48 A6 n6 c6 us
 ins:∃ us0,RecsIn W (b5+1) us0 rs∧us0 <+: us
 chn:OwnK 33 chL W (b5+1) 27 A7 n7 c7 L7
 lo:w.heap.size≤b5
 hb:Below w.heap.size w W
section
variable {w W W':World} {b5 n6 n7 c6 c7:Nat} {rs:List Rc} {cur:Ch} {us:List Value} {L7:List { c:Ch // c.Ok }} {A6 A7:Option Addr}
theorem LkSt.next (h:LkSt w b5 rs cur us n6 n7 L7 A6 c6 A7 c7 W)(hb:Below W.heap.size W W'):LkSt w b5 rs cur us n6 n7 L7 A6 c6 A7 c7 W' :=
 ⟨h.bx.below hb h.bx.lt,h.rec_.below hb,by obtain⟨u,h1,h2⟩:=h.ins;exact⟨u,h1.below hb,h2⟩,h.chn.below hb,h.lo,h.hb.trans (hb.mono h.hb.size)⟩
theorem LkSt.store (h:LkSt w b5 rs cur us n6 n7 L7 A6 c6 A7 c7 W)(X:Ch):LkSt w b5 rs X us n6 n7 L7 A6 c6 A7 c7 (W.setRow b5 (chC X)):=by
 have hg:=jy h.bx (chC X);have n6':(Value.slice A6 n6 c6).ownBlock=none∨(Value.slice A6 n6 c6).ownBlock≠some b5:=.inr fun e=>by have:=(h.rec_.1.lt b5 e).1;omega
 have n7':(Value.slice A7 n7 c7).ownBlock=none∨(Value.slice A7 n7 c7).ownBlock≠some b5:=.inr fun e=>by have:=(h.chn.1.lt b5 e).1;omega
 refine⟨h.bx.setRow_same _,⟨h.rec_.1.kept hg n6',h.rec_.2⟩,?_,⟨h.chn.1.kept hg n7',h.chn.2⟩,h.lo,below_setRow h.hb h.lo _⟩;obtain⟨u,h1,h2⟩:=h.ins;refine⟨u,⟨h1.1,fun i r hr=>?_⟩,h2⟩;obtain⟨A,n,c,q1,q2,q3⟩:=h1.2 i r hr;exact⟨A,n,c,q1,q2,zhh q3 h.bx (by decide) _⟩
theorem LkSt.more (h:LkSt w b5 rs cur us n6 n7 L7 A6 c6 A7 c7 W){r:Rc}{A9:Option Addr}{N9 k9:Nat}{us0:List Value}(hu:us=us0++[.slice A9 N9 k9])(hl:us0.length=rs.length)(hn:N9≤1000000)(ho:OwnB W (b5+1) 5 A9 N9 k9 r.bytes):LkSt w b5 (rs++[r]) cur us n6 n7 L7 A6 c6 A7 c7 W:=by
 refine⟨h.bx,h.rec_,?_,h.chn,h.lo,h.hb⟩;obtain⟨u,h1,h2⟩:=h.ins;have hu0:u=us0:=by
  rw[hu] at h2;obtain⟨t,ht⟩:=h2;have:=congrArg (List.take rs.length) ht;rw[List.take_append_of_le_length (by rw[h1.1];exact Nat.le_refl _),List.take_append_of_le_length (by rw[hl];exact Nat.le_refl _),List.take_of_length_le (by rw[h1.1];exact Nat.le_refl _),List.take_of_length_le (by rw[hl];exact Nat.le_refl _)] at this;exact this
 subst hu0;exact⟨us,by rw[hu];exact h1.snoc hn ho,List.prefix_refl _⟩
end
def Recs (M:Nat)(w:World)(B:Nat)(A:Option Addr)(n:Nat)(ls:List (List Nat)):Prop :=
 ls.length=n∧(0<n→∃ b o,A=some ⟨b,o,none⟩∧b<B∧∀ i,i<n→∃ A' n' c',w.cell? ⟨b,o+i,none⟩=some (.slice A' n' c')∧n'≤c'∧c'≤maxLen∧n'≤M∧Bytes w B A' n' (zp ls i))
section
variable {M:Nat} {w w':World} {B B' n:Nat} {A:Option Addr} {ls:List (List Nat)}
theorem Recs.nil:Recs M w B A 0 []:=⟨rfl,fun h=>absurd h (Nat.lt_irrefl _)⟩
theorem Recs.keep (h:Recs M w B A n ls)(hk:∀ p:Addr,p.block<B→w'.cell? p=w.cell? p):Recs M w' B A n ls :=
 ⟨h.1,fun hn=>by
  obtain⟨b,o,e,hb,hc⟩:=h.2 hn;refine⟨b,o,e,hb,fun i hi=>?_⟩;obtain⟨A',n',c',h1,h4,h5,h2,h3⟩:=hc i hi
  exact⟨A',n',c',(hk _ hb).trans h1,h4,h5,h2,h3.keep hk⟩⟩
theorem Recs.more (h:Recs M w B A n ls)(hB:B≤B'):Recs M w B' A n ls :=
 ⟨h.1,fun hn=>by
  obtain⟨b,o,e,hb,hc⟩:=h.2 hn;refine⟨b,o,e,by omega,fun i hi=>?_⟩;obtain⟨A',n',c',h1,h4,h5,h2,h3⟩:=hc i hi
  exact⟨A',n',c',h1,h4,h5,h2,h3.more hB⟩⟩
theorem Recs.below (h:Recs M w B A n ls)(hb:Below B' w w')(hB:B≤B'):Recs M w' B A n ls:=h.keep fun _ hp=>hb.cell (by omega)
theorem Recs.later (h:Recs M w w.heap.size A n ls)(hb:Below w.heap.size w w'):Recs M w' w'.heap.size A n ls:=(h.below hb (Nat.le_refl _)).more hb.size
theorem Recs.at_ {k:Nat}(h:Recs M w B A n ls)(hk:k<n):∃ b o A' n' c',A=some ⟨b,o,none⟩∧b<B∧w.cell? ⟨b,o+k,none⟩=some (.slice A' n' c')∧n'≤c'∧c'≤maxLen∧n'≤M∧Bytes w B A' n' (zp ls k):=by
 obtain⟨b,o,e,hb,hc⟩:=h.2 (by omega);obtain⟨A',n',c',h1,h2,h3,h4,h5⟩:=hc k hk;exact⟨b,o,A',n',c',e,hb,h1,h2,h3,h4,h5⟩
theorem Recs.take {k:Nat}(h:Recs M w B A n ls)(hk:k≤n):Recs M w B A k (ls.take k):=by
 refine⟨by rw[List.length_take,h.1];omega,fun hk0=>?_⟩;obtain⟨b,o,e,hb,hc⟩:=h.2 (by omega);refine⟨b,o,e,hb,fun i hi=>?_⟩;obtain⟨A',n',c',h1,h2,h3,h4,h5⟩:=hc i (by omega);refine⟨A',n',c',h1,h2,h3,h4,?_⟩
 rwa [show zp (ls.take k) i=zp ls i by unfold zp;rw[List.getD_eq_getElem?_getD,List.getD_eq_getElem?_getD,List.getElem?_take_of_lt hi]]
theorem Recs.small {M':Nat}(h:Recs M w B A n ls)(hs:∀ x∈ls,x.length≤M'):Recs M' w B A n ls :=
 ⟨h.1,fun hn=>by
  obtain⟨b,o,e,hb,hc⟩:=h.2 hn;refine⟨b,o,e,hb,fun i hi=>?_⟩;obtain⟨A',n',c',h1,h4,h5,h2,h3⟩:=hc i hi;refine⟨A',n',c',h1,h4,h5,?_,h3⟩;have hi':i<ls.length:=by rw[h.1];exact hi
  have:=hs (zp ls i) (by unfold zp;rw[List.getD_eq_getElem?_getD,List.getElem?_eq_getElem hi'];exact List.getElem_mem hi');rw[h3.1] at this
  exact this⟩
theorem Recs.lt (h:Recs M w B A n ls):∀ x∈ls,∀ y∈x,y<256:=by
 intro x hx y hy;obtain⟨i,hi,rfl⟩:=List.mem_iff_getElem.1 hx;obtain⟨b,o,e,hb,hc⟩:=h.2 (by rw[← h.1];omega);obtain⟨A',n',c',h1,h4,h5,h2,h3⟩:=hc i (by rw[← h.1];exact hi);refine h3.2.1 y ?_;unfold zp;rw[List.getD_eq_getElem?_getD,List.getElem?_eq_getElem hi];exact hy
theorem Recs.of_rel {c:Nat}(h:RowRel.bytes.slice.R w B [.slice A n c] ls):Recs 140737488355328 w B A n ls∧n≤c∧c≤maxLen∧n≤140737488355328:=by
 obtain⟨A1,n1,c1,e,h1,h2,h3,h4,h5⟩:=h;injection e with e _;injection e with e1 e2 e3;subst e1;subst e2;subst e3;refine⟨⟨h4,fun hn=>?_⟩,h1,h2,h3⟩;obtain⟨b,o,e,hb,hr⟩:=h5 hn;refine⟨b,o,e,hb,fun i hi=>?_⟩;obtain⟨cs,hc,A',n',c',rfl,g1,g2,g3,g4⟩:=hr i _ (List.getElem?_eq_getElem (by omega));refine⟨A',n',c',?_,g1,g2,g3,by unfold zp;simpa [List.getElem?_eq_getElem (show i<ls.length by omega)] using g4⟩;have:=hc 0 _ rfl
 rwa [Nat.add_zero,show i*RowRel.bytes.k=i from Nat.mul_one i] at this
end
theorem OwnK.put15 {α:Type}{k:Nat}{f:α→List Value}{w:World}{base n c g:Nat}{e t:TypeId}{A:Option Addr}{l:List α}{cs:Array Value}(h:OwnK k f w base e A n c l)(hg:Bk w g t cs)(hne:e≠t)(cs':Array Value):OwnK k f (w.setRow g cs') base e A n c l:=by
 refine⟨h.1.kept (jy hg cs') ?_,h.2⟩;rcases h.1.2 with ⟨hv,_⟩|⟨g2,cap2,cur2,hv2,_,hh2,_⟩
 ·left;rw[hv];rfl
 ·right
  rw[hv2];intro e';have e2:g2=g:=by simpa [Value.ownBlock] using e'
  subst e2;rw[show w.heap[g2]?=_ from hg] at hh2;injection hh2 with hh2;injection hh2 with _ ht;exact hne ht.symm
theorem zja {w w':World}{B b o:Nat}{cs:List Value}(h:w.rangeAt b o cs)(hb:Below B w w')(hl:b<B):w'.rangeAt b o cs:=fun j v hv=>(hb.cell (p:=⟨b,o+j,none⟩) hl).trans (h j v hv)
theorem zes (h:Eh):(evL h).length=11:=rfl
theorem zut (h:Eh):∀ u∈evL h,u.oneCell'=true:=zw h
def EvOff (g:Option Nat)(H:Eh):Prop:=∀ b,g=some b→Away H.A1 H.n1 (·≠b)∧Away H.A2 H.n2 (·≠b)∧Away H.A3 H.n3 (·≠b)
def EvsO (w:World)(base lo:Nat)(A:Option Addr)(n c:Nat)(l:List Ev):Prop :=
 ∃ hs:List Eh,OwnK 11 evL w base 50 A n c hs∧(∀ h∈hs,EvFar w lo h∧EvOff (Value.slice A n c).ownBlock h)∧hs.map Eh.e=l
theorem EvsO.nil (w:World)(base lo:Nat):EvsO w base lo none 0 0 []:=⟨[],OwnK.nil zes,fun h hh=>(by cases hh),rfl⟩
theorem EvsO.len {w:World}{base lo n c:Nat}{A:Option Addr}{l:List Ev}(h:EvsO w base lo A n c l):l.length=n:=by
 obtain⟨hs,h1,_,rfl⟩:=h;rw[List.length_map];exact h1.len
theorem EvsO.below {w w':World}{base lo n c:Nat}{A:Option Addr}{l:List Ev}(h:EvsO w base lo A n c l)(hb:Below w.heap.size w w'):EvsO w' base lo A n c l:=by
 obtain⟨hs,h1,h2,h3⟩:=h;exact⟨hs,h1.below hb,fun x hx=>⟨(h2 x hx).1.below hb,(h2 x hx).2⟩,h3⟩
theorem EvsO.from_ {w:World}{base base' lo lo' n c:Nat}{A:Option Addr}{l:List Ev}(h:EvsO w base lo A n c l)(hb:base'≤base)(hl:lo'≤lo):EvsO w base' lo' A n c l:=by
 obtain⟨hs,h1,h2,h3⟩:=h;exact⟨hs,h1.from_ hb,fun x hx=>⟨(h2 x hx).1.mono hl,(h2 x hx).2⟩,h3⟩
theorem EvsO.in_ {w:World}{base lo n c:Nat}{A:Option Addr}{l:List Ev}(h:EvsO w base lo A n c l):∃ hs:List Eh,EvsIn w w.heap.size A n hs∧hs.map Eh.e=l:=by
 obtain⟨hs,h1,h2,h3⟩:=h;exact⟨hs,⟨h1.col,fun x hx=>(h2 x hx).1.inn⟩,h3⟩
theorem EvsO.cap {w:World}{base lo n c:Nat}{A:Option Addr}{l:List Ev}(h:EvsO w base lo A n c l):n≤c∧c≤maxLen:=by
 obtain⟨hs,h1,_,_⟩:=h;exact h1.cap
theorem EvsO.empty (w:World)(base lo:Nat)(hb:base≤w.heap.size):EvsO (w.alloc (.cells #[] 50)) base lo (some ⟨w.heap.size,0,none⟩) 0 0 []:=⟨[],(OwnK.empty zes w 50).from_ hb,fun h hh=>(by cases hh),rfl⟩
theorem EvsO.row {w:World}{base lo n c:Nat}{A:Option Addr}{l:List Ev}(h:EvsO w base lo A n c l):∀ g,(Value.slice A n c).ownBlock=some g→g<w.heap.size:=by
 obtain⟨hs,h1,_,_⟩:=h;exact fun g hg=>(h1.1.lt g hg).2
theorem EvsO.put {w:World}{base lo n c g:Nat}{t:TypeId}{cs:Array Value}{A:Option Addr}{l:List Ev}(h:EvsO w base lo A n c l)(hk:Bk w g t cs)(hne:50≠t)(hg:g<lo)(cs':Array Value):EvsO (w.setRow g cs') base lo A n c l:=by
 obtain⟨hs,h1,h2,h3⟩:=h;refine⟨hs,⟨h1.1.kept (jy hk cs') ?_,h1.2⟩,fun x hx=>⟨(h2 x hx).1.kept (jy hk cs') hg,(h2 x hx).2⟩,h3⟩;rcases h1.1.2 with ⟨hv,_⟩|⟨g2,cap2,cur2,hv2,_,hh2,_⟩
 ·left;rw[hv];rfl
 ·right
  rw[hv2];intro e';have e2:g2=g:=by simpa [Value.ownBlock] using e'
  subst e2;have hk':w.heap[g2]?=some (.cells cs t (0,0)):=hk;rw[hh2] at hk';injection hk' with hk';injection hk' with _ q _;exact hne q
theorem zl7:(Tryz.prog.info? 50).map (fun i=>(i.zero,i.size,i.bytes))=some (some (.agg (evC (ze 0 0))),11,152):=by kernel_rfl
theorem EvsO.app {w:World}{base lo n c:Nat}{A:Option Addr}{l:List Ev}(ho:EvsO w base lo A n c l){bn:Nat}{H:Eh}(hk:Bk w bn 50 (evC H))(hi:EvFar w lo H)(hoff:EvOff (Value.slice A n c).ownBlock H)(hn:n≤100000)(hbase:base≤w.heap.size)(ty:TypeId) :
 ∃ A2 c2 w',(Builtin.append_ #[31,31] ty #[.slice A n c,.slice (some ⟨bn,0,none⟩) 1 1]).run Tryz.prog w=.ok (.slice A2 (n+1) c2) w'∧EvsO w' base lo A2 (n+1) c2 (l++[H.e])∧Below base w w'∧w.grownBy w' (Value.slice A n c).ownBlock:=by
 obtain⟨hs,h1,h2,rfl⟩:=ho;obtain⟨i,hi',hz,hs',hby'⟩:=info_parts zl7;obtain⟨v',w',hrun,ho2,hg2,_,hat⟩:=run_append_own_at (P:=Tryz.prog) w base 31 ty 50 i _ 11 152 Tryz.underlying31 hi' hz hs' hby' rfl (by omega) (.slice A n c) n (hs.flatMap evL) h1.1 ⟨bn,0,none⟩ 1 1 (evL H) (by rw[zes])
  (fun j u hu=>by rw[Addr.add_mid];exact hk.range j u hu) (zut H) (by unfold maxLen;omega) (by omega) hbase
 have hsh:∃ A2 c2,v'=.slice A2 (n+1) c2:=by
  rcases ho2.2 with ⟨rfl,h0⟩|⟨g,cap,cur,rfl,_⟩
  ·omega
  ·exact⟨_,_,rfl⟩
 obtain⟨A2,c2,rfl⟩:=hsh;have hbb:Below base w w':=(Below.refl _ _).grown hg2 hbase (fun k hk=>(h1.1.lt k hk).1);have hall:∀ x:Eh,EvFar w lo x→EvOff (Value.slice A n c).ownBlock x→EvFar w' lo x∧EvOff (Value.slice A2 (n+1) c2).ownBlock x:=by
  intro x hx0 hx2;have hx1:=hx0.inn;have hnew:EvOff (some w.heap.size) x:=fun b hb=>by
   injection hb with hb;subst hb;exact⟨hx1.1.away.imp (fun q hq=>by omega),hx1.2.1.away.imp (fun q hq=>by omega),hx1.2.2.1.away.imp (fun q hq=>by omega)⟩
  have hoff2:EvOff (Value.slice A2 (n+1) c2).ownBlock x:=by
   rcases hat with h|h
   ·rw[h];exact hx2
   ·rw[h];exact hnew
  refine⟨⟨?_,hx0.a1,hx0.a2,hx0.a3⟩,hoff2⟩;cases hob:(Value.slice A n c).ownBlock with
  | none =>
    rw[hob] at hg2;exact(hx1.below ((Below.refl _ _).grown hg2 (Nat.le_refl _) (fun k hk=>by cases hk)) (Nat.le_refl _)).more hg2.size
  | some g =>
    rw[hob] at hg2;obtain⟨q1,q2,q3⟩:=hx2 g hob;exact(hx1.grown hg2 q1 q2 q3).more hg2.size
 refine⟨A2,c2,w',hrun,⟨hs++[H],⟨?_,by rw[List.length_append,h1.len];rfl,zes⟩,fun x hx=>?_,by rw[List.map_append];rfl⟩,hbb,hg2⟩
 ·rw[List.flatMap_append,List.flatMap_cons,List.flatMap_nil,List.append_nil]
  exact ho2
 ·rcases List.mem_append.1 hx with hx|hx
  ·exact hall x (h2 x hx).1 (h2 x hx).2
  ·rw[List.mem_singleton.1 hx];exact hall H hi hoff
theorem EvsO.apart {w:World}{base lo n c b:Nat}{t:TypeId}{cs:Array Value}{A:Option Addr}{l:List Ev}(h:EvsO w base lo A n c l)(hk:Bk w b t cs)(hne:50≠t):some b≠(Value.slice A n c).ownBlock:=by
 obtain⟨hs,h1,_,_⟩:=h;rcases h1.1.2 with ⟨hv,_⟩|⟨g2,cap2,cur2,hv2,_,hh2,_⟩
 ·rw[hv];simp[Value.ownBlock]
 ·rw[hv2]
  intro e';have e2:b=g2:=by simpa [Value.ownBlock] using e'
  subst e2;have hk':w.heap[b]?=some (.cells cs t (0,0)):=hk;rw[hh2] at hk';injection hk' with hk';injection hk' with _ q _;exact hne q
theorem EvFar.off {w:World}{base g:Nat}{H:Eh}(h:EvFar w base H)(hg:g<base):EvOff (some g) H:=fun b hb=>by
 injection hb with hb;subst hb;exact⟨h.a1.imp (fun q hq=>by omega),h.a2.imp (fun q hq=>by omega),h.a3.imp (fun q hq=>by omega)⟩
def VerIs (l:List (List Nat))(w:World)(e:Ending)(w':World):Prop :=
 e=.returned (.tuple #[.agg (chC (verC l)),.int .i64 ((verE l:Nat):Int)])∧Below w.heap.size w w'
theorem zl8 {P:Program}{fn:Func}{p q r:Tmp}{t1:TypeId}(h:fn.results=#[.cell p t1,.tmp q,.tmp r])(tmps:Array Value)(w:World)(a1:Addr)(v0 v1 v2:Value)
 (hp:tmps.getD p undef=.pointer (some a1)) (hq:tmps.getD q undef=v1) (hr:tmps.getD r undef=v2) (h1:(loadVar t1 a1).run P w=.ok v0 w) :
 (results fn tmps).run P w=.ok (.tuple #[v0,v1,v2]) w:=by
 have hp':tmps[p]?.getD undef=.pointer (some a1):=by simpa using hp
 have hq':tmps[q]?.getD undef=v1:=by simpa using hq
 have hr':tmps[r]?.getD undef=v2:=by simpa using hr
 simp[results,h,hp',hq',hr',asAddr,h1]
theorem zuu (H:Eh)(z:Value):Instr.fill (fun i=>some (i*11,11)) ((Array.range (1*11)).map (z.cells[· % z.cells.size]!)) [(0,.agg (evC H))]=some (evC H):=by
 have hl:(evC H).size=11:=zd H;generalize hb:(Array.range (1*11)).map (z.cells[· % z.cells.size]!)=base;have hbs:base.size=11:=by rw[← hb];simp
 have h1:=zjf 0 (evC H).toList 0 base (by rw[hbs,Array.length_toList,hl];omega);have hcc:(Value.agg (evC H)).cells=evC H:=rfl;unfold Instr.fill;simp only[hcc,hl,hbs]
 show(if (11≠11 || 0*11+11 > 11)=true then none else Instr.fill _ _ [])=_
 simp only[Instr.fill];refine congrArg some ?_
 apply Array.ext'
 have h2:((evC H).zipIdx.foldl (fun (cs:Array Value) (y:Value×Nat)=>cs.setIfInBounds (0+y.2) y.1) base).toList=splice base.toList (0+0) (evC H).toList:=by
  rw[← Array.foldl_toList,Array.toList_zipIdx];rw[h1]
 have h3:splice base.toList (0+0) (evC H).toList=(evC H).toList:=zhv (by rw[Array.length_toList,Array.length_toList,hl,hbs]);rw[h3] at h2
 simpa using h2
theorem zuv {o:Oper}{a:Act}{w:World}{K:Act→World→Prop}{Q:Exit→Act→World→Prop}(x:Operand)(ho:o.op=.buildSlice 31 1 #[(0,x)])(H:Eh)(hx:a.eval x=.agg (evC H))
 (hK:K (a.put o.dst (.slice (some ⟨w.heap.size,0,none⟩) 1 1)) (w.alloc (.cells (evC H) 50))):o.wp Tryz.prog a w K Q:=by
 obtain⟨ie,hie,hiz,his,hib⟩:=info_parts zl7;refine wp_buildSlice 31 50 1 #[(0,x)] ho (evC H) ie (.agg (evC (ze 0 0))) Tryz.underlying31 hie hiz (by rw[his];omega) (by rw[his];omega) ?_ hK;have e:(Array.map (fun (y:Nat×Operand)=>match y with|(i,x)=>(i,a.eval x)) #[(0,x)]).toList=[(0,.agg (evC H))]:=by simp[hx]
 rw[his,e];exact zuu H _
theorem zl9 {l:List (List Nat)}{i:Nat}(hi:i<l.length):foL (l.take (i+1))=zb4 (foL (l.take i)) (zp l i):=by rw[zcf hi,zex]
def FolIs (l:List (List Nat))(w:World)(e:Ending)(w':World):Prop :=
 ∃ A n c,e=.returned (.tuple #[.agg (chC (foL l).c),.slice A n c,.int .i64 (((foL l).e:Nat):Int)])∧EvsO w' w.heap.size w.heap.size A n c (foL l).v∧Below w.heap.size w w'
structure FG (w:World)(b:Nat)(x:Ch)(A:Option Addr)(n c:Nat)(v:List Ev)(W:World):Prop where
 k2:Bk W b 27 (chC ch0)
 k5:Bk W (b+2) 27 (chC x)
 ev:EvsO W b (b+3) A n c v
 hb:Below b w W
theorem FG.next {w W W':World}{b:Nat}{x:Ch}{A:Option Addr}{n c:Nat}{v:List Ev}(h:FG w b x A n c v W)(hb:Below W.heap.size W W'):FG w b x A n c v W' :=
 ⟨h.k2.below hb h.k2.lt,h.k5.below hb h.k5.lt,h.ev.below hb,h.hb.trans (hb.mono (Nat.le_of_lt h.k2.lt))⟩
theorem FG.store {w W:World}{b:Nat}{x:Ch}{A:Option Addr}{n c:Nat}{v:List Ev}(h:FG w b x A n c v W)(y:Ch):FG w b y A n c v (W.setRow (b+2) (chC y)) :=
 ⟨h.k2.setRow_other (by omega) _,h.k5.setRow_same _,h.ev.put h.k5 (by decide) (by omega) _,below_setRow h.hb (by omega) _⟩
theorem FG.app {w W:World}{b bn:Nat}{x:Ch}{A:Option Addr}{n c:Nat}{v:List Ev}{H:Eh}(h:FG w b x A n c v W)(hk:Bk W bn 50 (evC H))(hf:EvFar W (b+3) H)(ho:EvOff (Value.slice A n c).ownBlock H)(hn:n≤100000)(ty:TypeId) :
 ∃ A2 c2 W',(Builtin.append_ #[31,31] ty #[.slice A n c,.slice (some ⟨bn,0,none⟩) 1 1]).run Tryz.prog W=.ok (.slice A2 (n+1) c2) W'∧FG w b x A2 (n+1) c2 (v++[H.e]) W'∧W.grownBy W' (Value.slice A n c).ownBlock:=by
 obtain⟨A2,c2,W',h1,h2,h3,h4⟩:=h.ev.app hk hf ho hn (Nat.le_of_lt h.k2.lt) ty;exact⟨A2,c2,W',h1,⟨h.k2.keptR h4 (h.ev.apart h.k2 (by decide)),h.k5.keptR h4 (h.ev.apart h.k5 (by decide)),h2,h.hb.trans h3⟩,h4⟩
theorem zuw {W:World}{B:Nat}{A:Option Addr}{n c:Nat}{H:Eh}(hf:EvFar W B H)(hr:∀ g,(Value.slice A n c).ownBlock=some g→g<B):EvOff (Value.slice A n c).ownBlock H:=fun g hg=>by
 have:=hr g hg;exact⟨hf.a1.imp (fun q hq=>by omega),hf.a2.imp (fun q hq=>by omega),hf.a3.imp (fun q hq=>by omega)⟩
theorem zhi (A:Option Addr)(n k:Nat)(l:List (List Nat))(w:World)(hl:Recs 1000000 w w.heap.size A n l)(hn:n≤100000)(hK:Kinds w)(ht:Tabs w):Calls Tryz.prog 29 #[.slice A n k] w (FolIs l w):=by
 have hmx:Tryz.prog.follows .mixedOrders=true:=by kernel_rfl
 have HL:=hiD hl;have HLN:=hiD hl.1;have HN:=hiD hn;have HK:=hiD hK;have HT:=hiD ht;clear hl hn hK ht;go_enter Tryz.func29,Tryz.ntmps29
 go_wp2_with (with_reducible refine stn 12 ?_)
 refine held (j9 rfl 27 #[] rfl [] rfl (chC ch0) zak ?_);go_wp2_with (with_reducible refine st0 ?_)
 have R00:FG w w.heap.size ch0 (some ⟨w.heap.size+1,0,none⟩) 0 0 [] (((w.alloc (.cells (chC ch0) 27)).alloc (.cells #[] 50)).alloc (.cells (chC ch0) 27)) :=
  ⟨((Bk.new _ _ _).alloc _).alloc _, Bk.new3 _ _ _ _ _, by
    have:=(EvsO.empty (w.alloc (.cells (chC ch0) 27)) w.heap.size (w.heap.size+3) (by simp)).below ((Below.refl _ _).alloc (Nat.le_refl _) (.cells (chC ch0) 27))
    simpa using this,(((Below.refl _ _).alloc (Nat.le_refl _) _).alloc (by simp) _).alloc (by simp;omega) _⟩
 refine held (zi rfl 27 (.tmp 5) (.tmp 12) rfl (w.heap.size+1+1) 0 (chC ch0) rfl rfl 27 _ R00.k5 (by rw[Nat.zero_add];exact Nat.le_refl _) (info_ch' zj) (zt _) ?_);intro w10 hw10;obtain rfl:=q9 hw10 zj zj;have R0:=hiD (R00.store ch0);clear R00 hw10;obtain⟨b,hb0⟩:∃ b,w.heap.size=b:=⟨_,rfl⟩;have HB:Hid (w.heap.size=b):=hiD hb0;rw[hb0] at R0
 try rw[hb0]
 clear hb0;refine qk (fun W=>FG w b ch0 (some ⟨b+1,0,none⟩) 0 0 [] W) R0.o ?_;clear R0;rintro w1 r0;have R0:=hiD r0;clear r0;go_wp2_with fail
 go_loopw [6,16] (fun x6 x16 wx=>∃ (i m:Nat) (A6:Option Addr) (c6:Nat),i≤n∧m=i∧x6=.slice A6 m c6∧x16=.int .i64 (i:Int)∧(foL (l.take i)).e=0∧FG w b (foL (l.take i)).c A6 m c6 (foL (l.take i)).v wx) (fun _ x16 _=>n-(intOf x16).toNat)
 case atStart=>exact⟨0,0,_,0,Nat.zero_le _,rfl,rfl,rfl,rfl,R0.o⟩
 case round =>
  obtain⟨i,m,A6,c6,hi,hmi,rfl,rfl,he0,hr⟩:=hrel;obtain⟨wo,rfl⟩:∃ wo,wo=wr:=⟨_,rfl⟩;have H:=hiD hr;have HE0:=hiD he0;have HI:=hiD hi;have HMI:=hiD hmi;clear hr R0 he0 hi hmi;by_cases hlt:i<n
  ·have hbel:Below w.heap.size w wo:=by have:=H.o.hb;rw[← HB.o] at this;exact this
   obtain⟨eb,eo,A',n',c',rfl,heb,hcell,hnc,hcm,hn',hby⟩:=(HL.o.later hbel).at_ hlt;have HBY:=hiD hby
   have HNC:=hiD (And.intro hnc (And.intro hcm hn'));have HKW:=hiD (HK.o.below hbel);have HTW:=hiD (Tabs.later15 HT.o hbel);have hi0:(0:Int)≤(i:Int):=by omega
   have hin':(i:Int)<(n:Int):=by omega
   have HLT:=hiD hlt;clear hby hnc hcm hn' hbel heb;obtain⟨x,hx⟩:∃ x,(foL (l.take i)).c=x:=⟨_,rfl⟩;have HXO:Hid x.Ok:=hiD (by rw[← hx];exact(zan _).ok);have HX:=hiD hx;rw[hx] at H;clear hx;obtain⟨vs,hvs⟩:∃ vs,(foL (l.take i)).v=vs:=⟨_,rfl⟩;have HVS:=hiD hvs;rw[hvs] at H;clear hvs;obtain⟨t,ht⟩:∃ t,zp l i=t:=⟨_,rfl⟩;have HTX:=hiD ht;rw[ht] at HBY;clear ht;obtain⟨er,her⟩:∃ er,qp x t=er:=⟨_,rfl⟩;have HER:=hiD her;clear her;obtain⟨y,hy⟩:∃ y,zam x t=y:=⟨_,rfl⟩;have HYO:Hid y.Ok:=hiD (by rw[← hy];exact zjl _ _);have HY:=hiD hy;clear hy;obtain⟨ev,hev⟩:∃ ev,zbi x t=ev:=⟨_,rfl⟩;have HV:=hiD hev;clear hev;go_wp2_with (with_reducible refine stn 21 ?_)
   refine held (wpList_load_mid rfl 27 (.tmp 5) rfl (b+2) 0 rfl _ _ H.o.k5.range Tryz.underlying27 rfl (zcd HXO.o) ?_);go_wp2_with fail
   refine(zvp x A' n' c' t wo HXO.o HBY.o HNC.o.2.2 HNC.o.1 HNC.o.2.1 HKW.o HTW.o).mono ?_;rintro e W1 ⟨EH,rfl,hv,hin,hbc⟩;rw[HER.o,HY.o];rw[HV.o] at hv;have H1:=hiD (H.o.next hbc);have HEV:=hiD hv;have HFA:=hiD hin;have HROW:Hid (∀ g,(Value.slice A6 m c6).ownBlock=some g→g<wo.heap.size):=hiD H.o.ev.row;have HBO:Hid (b+3≤wo.heap.size):=hiD H.o.k5.lt;have HS1:=hiD hbc.size;clear hv hin hbc H hcell;go_wp2_with (with_reducible refine st0 ?_)
   refine held (zi rfl 27 (.tmp 9) (.tmp 24) rfl W1.heap.size 0 (chC y) rfl rfl 27 (chC ch0) ((Bk.new W1 27 (chC ch0)).alloc _) (by rw[zx HYO.o];exact Nat.le_refl _) (info_ch' HYO.o) (zt _) ?_);intro W2 hw2;have hk2:Bk W2 (W1.heap.size+1) 50 (evC (ze 0 0)):=by rw[q9 hw2 zj HYO.o];exact(Bk.new2 _ _ _ _).setRow_other (by omega) _
   go_wp2_with (with_reducible refine st0 ?_)
   refine held (zi rfl 50 (.tmp 10) (.tmp 25) rfl (W1.heap.size+1) 0 (evC EH) rfl rfl 50 _ hk2 (by rw[zd,zd];decide) (by rw[zd];exact zr) (zw _) ?_);intro W3 hw3;obtain⟨k9,k10,-,hb3⟩:=zjg HYO.o rfl HFA.o.inn hw2 hw3;have H3:=hiD (H1.o.next hb3);have K9:=hiD k9;have K10:=hiD k10;have HF3:=hiD (HFA.o.below hb3);have HB9:Hid (wo.heap.size≤W1.heap.size):=HS1;obtain⟨b9,hb9⟩:∃ b,W1.heap.size=b:=⟨_,rfl⟩;rw[hb9] at K9 K10 HB9 ⊢;clear hb9 k9 k10 hb3 hw2 hw3 hk2 H1 HFA HS1 hi0 hin' hlt;by_cases he:er=0
   case neg =>
    have HF:Hid (foL (l.take (i+1))=⟨x,vs,er⟩):=hiD (by rw[zl9 (by have:=HLN.o;have:=HLT.o;omega),HTX.o,zf6 HE0.o (by rw[HX.o,HER.o];exact he),HX.o,HER.o,HVS.o]);have HV:Hid (foL l=⟨x,vs,er⟩):=hiD (by rw[← HF.o];exact zm8 (by rw[HF.o];exact he));have hne:(((er:Nat):Int) != 0)=true:=by simpa using he
    clear he HF;go_wp2_with (with_reducible refine stn 29 ?_)
    refine held (wpList_load_mid rfl 27 (.tmp 5) rfl (b+2) 0 rfl _ _ H3.o.k5.range Tryz.underlying27 rfl (zcd HXO.o) ?_);go_wp2_with (with_reducible refine st0 ?_)
    refine held (zi rfl 27 (.tmp 2) (.tmp 29) rfl b 0 (chC x) rfl rfl 27 _ H3.o.k2 (by rw[Nat.zero_add,zx HXO.o,zx zj];exact Nat.le_refl _) (info_ch' HXO.o) (zt _) ?_);intro w10 hw10;obtain rfl:=q9 hw10 zj HXO.o;go_wp2_with fail
    exact bodyPost_ret (zl8 rfl _ _ ⟨b,0,none⟩ _ _ _ rfl rfl rfl (Bk.ch (Bk.setRow_same H3.o.k2 _) HXO.o)) rfl ⟨A6,m,c6,by rw[HV.o];rfl,by rw[HV.o,HB.o];exact((H3.o.ev.put H3.o.k2 (by decide) (by omega) _).from_ (Nat.le_refl _) (by omega)),by rw[HB.o];exact below_setRow H3.o.hb (Nat.le_refl _) _⟩
   subst he;have HF:Hid (foL (l.take (i+1))=⟨y,vs++[ev],0⟩):=hiD (by rw[zl9 (by have:=HLN.o;have:=HLT.o;omega),HTX.o,zf5 HE0.o (by rw[HX.o,HER.o]),HX.o,HY.o,HVS.o,HV.o]);have HOFF:Hid (EvOff (Value.slice A6 m c6).ownBlock EH):=hiD (zuw HF3.o HROW.o);have HF4:Hid (EvFar W3 (b+3) EH):=hiD (HF3.o.mono HBO.o);have HM:Hid (m≤100000):=hiD (by have:=HMI.o;have:=HLT.o;have:=HN.o;omega);go_wp2_with fail
   have D3:=hiD (H3.o.next (Below.refl _ _).drew);have DF:=hiD (HF4.o.below (Below.refl _ _).drew);refine wp_region_held_drew (S:=fun W'=>Bk W' b9 27 (chC y)∧Bk W' (b9+1) 50 (evC EH)) hmx ⟨K9.o.drew,K10.o.drew⟩ (fun qch=>?_);clear H3 HF4 K9 K10;generalize hW0:W3.drew=V0 at *;clear hW0;simp only[List.size_toArray,List.length_cons,List.length_nil,Nat.reduceAdd];refine tkx (i:=0) (v:=.agg (chC y)) (x:=fun w0 hC=>jc rfl rfl hC.1.range Tryz.underlying27 rfl (info_ch' HYO.o)) (s:=qch) (h:=?_);try simp only[nm0]
   refine tks (i:=1) (v:=.slice A6 m c6) (s:=qch) (h:=?_);try simp only[nm0]
   refine tkx (i:=2) (v:=.agg (evC EH)) (x:=fun w0 hC=>jc rfl rfl hC.2.range Tryz.underlying50 rfl (by rw[zd];exact zr)) (s:=qch) (h:=?_);try simp only[nm0]
   refine rd1 (r:=3) (h:=fun K hK=>?_);refine zuv (.tmp 34) rfl EH rfl ?_;have hal:Below V0.heap.size V0 (V0.alloc (.cells (evC EH) 50)):=(Below.refl _ _).alloc (Nat.le_refl _) _;have hS:=And.intro (qch.1.alloc (.cells (evC EH) 50)) (qch.2.alloc (.cells (evC EH) 50));have KN:=hiD (Bk.new V0 50 (evC EH));have D4:=hiD (D3.o.next hal);have DG:=hiD (DF.o.below hal);have HBN:Hid (b+2<V0.heap.size):=hiD D3.o.k5.lt;obtain⟨bn,hbn⟩:∃ bn,V0.heap.size=bn:=⟨_,rfl⟩;rw[hbn] at KN HBN ⊢;clear qch hal D3 DF hbn;refine bkk hK hS fun qch=>?_;clear hK K;try simp only[nm0]
   clear hS;generalize V0.alloc (.cells (evC EH) 50)=V1 at *;refine rd1 (r:=4) (h:=fun K hK=>?_);obtain⟨A2,c2,V2,hrun,hg,hgr⟩:=D4.o.app KN.o DG.o HOFF.o HM.o 31;have hev:=HEV.o;rw[hev] at hg;have D5:=hiD hg;have HRUN:=hiD hrun;have hS:=And.intro (qch.1.keptR hgr (D4.o.ev.apart qch.1 (by decide))) (qch.2.keptR hgr (fun e=>by have:=HROW.o _ e.symm;have:=HB9.o;omega));clear hrun hg hgr qch D4 DG KN hev;refine jv (s:=.tmp 33) (x:=.tmp 35) (t:=31) (v:=.slice A6 m c6) (y:=.slice (some ⟨bn,0,none⟩) 1 1) (z:=.slice A2 (m+1) c2) (w':=V2) rfl rfl rfl HRUN.o ?_;refine bkk hK hS fun qch=>?_;clear hK K;try simp only[nm0]
   clear hS HRUN;refine rd1 (r:=5) (h:=fun K hK=>?_);have DS:=hiD (D5.o.store y);have hS:=And.intro (qch.1.setRow_other (show b9≠b+2 by have:=HB9.o;have:=HBO.o;omega) (chC y)) (qch.2.setRow_other (show b9+1≠b+2 by have:=HB9.o;have:=HBO.o;omega) (chC y));refine qh (ql rfl rfl rfl D5.o.k5 (by rw[zx HYO.o,zx HXO.o]) (info_ch' HYO.o) (zt _)) ?_;clear qch D5;refine bkk hK hS fun qch=>?_;clear hK K;try simp only[nm0]
   clear hS;generalize V2.setRow (b+2) (chC y)=V2s at *;refine rd1 (r:=6) (h:=fun K hK=>?_);go_wp2_with fail
   have hS:=qch;clear qch;refine bkk hK hS fun qch=>?_;clear hK K;try simp only[nm0]
   clear hS;refine wpAnyH_done (by kernel_rfl) ?_ _;have hw1:IntKind.i64.wrap ((i:Int)+1)=(i:Int)+1:=IntWalk.i64_in _ (by have:=HLT.o;have:=HN.o;omega);go_wp2_with fail
   go_roundw
   case rel=>exact⟨i+1,m+1,A2,c2,HLT.o,by rw[HMI.o],rfl,by first|rfl|go_num,by rw[HF.o],by rw[HF.o];exact DS.o⟩
   case measure=>have:=HLT.o;simp[intOf];omega
  ·have hin:i=n:=by have:=HI.o;omega
   subst hin;have HF:Hid (foL (l.take i)=foL l):=hiD (by rw[List.take_of_length_le (by have:=HLN.o;omega)]);rw[HF.o] at HE0 H;obtain⟨x,hx⟩:∃ x,(foL l).c=x:=⟨_,rfl⟩;have HXO:Hid x.Ok:=hiD (by rw[← hx];exact(zan _).ok);have HX:=hiD hx;rw[hx] at H;clear hx;go_wp2_with (with_reducible refine stn 38 ?_)
   refine held (wpList_load_mid rfl 27 (.tmp 5) rfl (b+2) 0 rfl _ _ H.o.k5.range Tryz.underlying27 rfl (zcd HXO.o) ?_);go_wp2_with (with_reducible refine st0 ?_)
   refine held (zi rfl 27 (.tmp 2) (.tmp 38) rfl b 0 (chC x) rfl rfl 27 _ H.o.k2 (by rw[Nat.zero_add,zx HXO.o,zx zj];exact Nat.le_refl _) (info_ch' HXO.o) (zt _) ?_);intro w10 hw10;obtain rfl:=q9 hw10 zj HXO.o;go_wp2_with fail
   exact bodyPost_ret (zl8 rfl _ _ ⟨b,0,none⟩ _ _ _ rfl rfl rfl (Bk.ch (Bk.setRow_same H.o.k2 _) HXO.o)) rfl ⟨A6,m,c6,by rw[HE0.o,HX.o];rfl,by rw[HB.o];exact((H.o.ev.put H.o.k2 (by decide) (by omega) _).from_ (Nat.le_refl _) (by omega)),by rw[HB.o];exact below_setRow H.o.hb (Nat.le_refl _) _⟩
noncomputable def zb1 (a:Sta×Int)(e:Ev):Sta×Int:=if a.2=0 then (appS a.1 e,appE a.1 e)else a
noncomputable def repL (l:List Ev):Sta×Int:=l.foldl zb1 (zck,0)
theorem zux (l:List Ev)(e:Ev):repL (l++[e])=zb1 (repL l) e:=by unfold repL;rw[List.foldl_append];rfl
theorem zhj {a:Sta×Int}{e:Ev}(h:a.2=0):zb1 a e=(appS a.1 e,appE a.1 e):=if_pos h
theorem zma:∀ (r:List Ev) (a:Sta×Int),a.2≠0→r.foldl zb1 a=a
 | [],_,_=>rfl
 | e::r,a,h=>by rw[List.foldl_cons,show zb1 a e=a from if_neg h];exact zma r a h
theorem zuy {l:List Ev}{k:Nat}(h:(repL (l.take k)).2≠0):repL l=repL (l.take k):=by
 conv=>lhs;rw[← List.take_append_drop k l]
 unfold repL at h ⊢;rw[List.foldl_append];exact zma _ _ h
theorem zuz {l:List Ev}{i:Nat}{x:Ev}(hi:l[i]?=some x):repL (l.take (i+1))=zb1 (repL (l.take i)) x:=by
 rw[List.take_add_one,hi];exact zux _ _
def staZ:Sta:=⟨0,[],[],[],[],[],0,0,0⟩
def ptZ:StaAt:=⟨⟨none,0,0⟩,⟨none,0,0⟩,⟨none,0,0⟩,⟨none,0,0⟩,⟨none,0,0⟩⟩
theorem zmb (w:World)(base:Nat):StaO w base staZ ptZ:=⟨NestO.nil zha,OwnK.nil zdp,OwnK.nil ziu,NestO.nil ziz,NestO.nil ziv⟩
noncomputable def rpE (l:List (List Nat)):Int:=if verE l=0 then (repL (foL l).v).2 else ((verE l:Nat):Int)
noncomputable def rpS (l:List (List Nat)):Sta:=if rpE l=0 then (repL (foL l).v).1 else staZ
noncomputable def rpC (l:List (List Nat)):Ch:=if rpE l=0 then (foL l).c else ch0
theorem zu0 {l:List (List Nat)}{er:Nat}(h:(foL l).e=er)(he:er≠0):rpE l=(er:Int)∧rpS l=staZ∧rpC l=ch0:=by
 have h1:rpE l=(er:Int):=by unfold rpE;rw[if_neg (by unfold verE;rw[h];exact he)];unfold verE;rw[h]
 have h2:rpE l≠0:=by rw[h1];omega
 exact⟨h1,if_neg h2,if_neg h2⟩
theorem zu1 {l:List (List Nat)}{z:Int}(h:(foL l).e=0)(hr:(repL (foL l).v).2=z)(hz:z≠0):rpE l=z∧rpS l=staZ∧rpC l=ch0:=by
 have h1:rpE l=z:=by unfold rpE;rw[if_pos (show verE l=0 from h),hr]
 have h2:rpE l≠0:=by rw[h1];exact hz
 exact⟨h1,if_neg h2,if_neg h2⟩
theorem zmc {l:List (List Nat)}(h:(foL l).e=0)(hr:(repL (foL l).v).2=0):rpE l=0∧rpS l=(repL (foL l).v).1∧rpC l=(foL l).c:=by
 have h1:rpE l=0:=by unfold rpE;rw[if_pos (show verE l=0 from h),hr]
 exact⟨h1,if_pos h1,if_pos h1⟩
theorem zu2 {s:Sta}(h:OkSta s):BigS s:=by
 have hr:∀ b:ByteArray,qj b=true→b.size≤140737488355328:=fun b hb=>by
  have h1:(nats b).length≤40:=(of_decide_eq_true (of_decide_eq_true hb).1).2.1;have h2:(nats b).length=b.size:=jn b;omega
 exact⟨fun b hb=>hr _ (h.boxes.each b hb).2.1,fun b hb=>hr _ (h.subs.1 b hb),fun b hb=>hr _ (h.rules.1 b hb).1,fun b hb=>hr _ (h.tombs.1 b hb).2.2.1,fun b hb=>hr _ (h.holds.1 b hb).2.2.1⟩
theorem za6 (s:Sta)(p:StaAt):(staA s p).size=9:=rfl
theorem zet (s:Sta)(p:StaAt):∀ v∈(staA s p).toList,v.oneCell'=true:=by
 intro v hv;simp only[staA,List.mem_cons,List.not_mem_nil,or_false] at hv;rcases hv with rfl|rfl|rfl|rfl|rfl|rfl|rfl|rfl|rfl<;>rfl
theorem zeb:(Tryz.prog.info? 40).map (·.size)=some 9:=by kernel_rfl
theorem zmd:Tryz.prog.built 40 []=some (staA staZ ptZ):=by kernel_rfl
theorem Bk.staV {w:World}{b:Nat}{s:Sta}{p:StaAt}(h:Bk w b 40 (staA s p)):(loadVar 40 ⟨b,0,none⟩).run Tryz.prog w=.ok (.agg (staA s p)) w:=Bk.state_ h
theorem zfz {w w':World}{g:Nat}{s s':Sta}{p p':StaAt}(h:Hid (w'=w.setRow g (splice (staA s p).toList 0 (staA s' p').toList).toArray)):w'=w.setRow g (staA s' p'):=qa h (by rw[za6,za6])
theorem StaO.setRow {w:World}{base g:Nat}{t:TypeId}{cs:Array Value}{s:Sta}{p:StaAt}(h:StaO w base s p)(hk:Bk w g t cs)(hg:base≤g)(ht:¬ StaT t)(cs':Array Value):StaO (w.setRow g cs') base s p :=
 h.chg (Chg.of hk (jy hk cs') (below_setRow (Below.refl _ _) hg _)) ht
def ReplayIs (l:List (List Nat))(w:World)(e:Ending)(w':World):Prop :=
 ∃ p,e=.returned (.tuple #[.agg (staA (rpS l) p),.agg (chC (rpC l)),.int .i64 (rpE l)])∧StaO w' w.heap.size (rpS l) p∧Below w.heap.size w w'
structure ReAt (W4:World)(b8:Nat)(s:Sta)(p:StaAt)(W:World):Prop where
 k8:Bk W b8 40 (staA s p)
 own:StaO W W4.heap.size s p
 hb:Below W4.heap.size W4 W
theorem ReAt.next {W4 W W':World}{b8:Nat}{s:Sta}{p:StaAt}(h:ReAt W4 b8 s p W)(hb:Below W.heap.size W W'):ReAt W4 b8 s p W' :=
 ⟨h.k8.below hb h.k8.lt,h.own.below hb,h.hb.trans (hb.mono h.hb.size)⟩
theorem zu3 (A:Option Addr)(n k:Nat)(l:List (List Nat))(w:World)(hl:Recs 1000000 w w.heap.size A n l)(hn:n≤100000)(hK:Kinds w)(ht:Tabs w)
 (hW:∀ h:Eh,h.e∈(foL l).v→h.e.ids.length=h.n1→h.e.set.length=h.n2→Writes h):Calls Tryz.prog 14 #[.slice A n k] w (ReplayIs l w):=by
 have hmx:Tryz.prog.follows .mixedOrders=true:=by kernel_rfl
 have hal:Below w.heap.size w ((w.alloc (.cells (staA staZ ptZ) 40)).alloc (.cells (chC ch0) 27)):=((Below.refl _ _).alloc (Nat.le_refl _) _).alloc (by simp) _;have CF:=hiD (zhi A n k l _ (hl.later hal) hn (hK.below hal) (Tabs.later15 ht hal));have HB0:=hiD hal;have K2a:=hiD (show Bk ((w.alloc (.cells (staA staZ ptZ) 40)).alloc (.cells (chC ch0) 27)) w.heap.size 40 (staA staZ ptZ)from(Bk.new _ _ _).alloc _);have K3a:=hiD (show Bk ((w.alloc (.cells (staA staZ ptZ) 40)).alloc (.cells (chC ch0) 27)) (w.heap.size+1) 27 (chC ch0)from Bk.new2 _ _ _ _);have HOK:=hiD (zan l);have HW:=hiD hW;have HK:=hiD hK;have HT:=hiD ht;obtain⟨x,hx⟩:∃ x,(foL l).c=x:=⟨_,rfl⟩;have HXO:Hid x.Ok:=hiD (by rw[← hx];exact HOK.o.ok);have HX:=hiD hx;obtain⟨er,her⟩:∃ er,(foL l).e=er:=⟨_,rfl⟩;have HER:=hiD her;obtain⟨vs,hvs⟩:∃ vs,(foL l).v=vs:=⟨_,rfl⟩;have HVS:=hiD hvs
 rw[hvs] at HW;have HVN:Hid (vs.length≤100000):=hiD (by have:=HOK.o.le;rw[hvs,hl.1] at this;omega);clear hl hn hK ht hal hx her hW hvs;go_enter Tryz.func14,Tryz.ntmps14
 go_wp2_with fail
 refine CF.o.mono ?_;rintro e w1 ⟨A1,n1,c1,rfl,hev,hb⟩;rw[HX.o,HER.o];rw[HVS.o] at hev;have K2b:=hiD (K2a.o.below hb K2a.o.lt);have K3b:=hiD (K3a.o.below hb K3a.o.lt);have HB1:=hiD (HB0.o.trans (hb.mono HB0.o.size));have HEV:=hiD hev;clear hev hb CF HB0 K2a K3a;go_wp2_with (with_reducible refine st0 ?_)
 refine held (zi rfl 27 (.tmp 5) (.tmp 14) rfl w1.heap.size 0 (chC x) rfl rfl 27 (chC ch0) (Bk.new w1 27 (chC ch0)) (by rw[zx HXO.o];exact Nat.le_refl _) (info_ch' HXO.o) (zt _) ?_);intro w2 hw2;obtain⟨k4,hb2⟩:=za1 HXO.o hw2;have K5:=hiD k4;have K2:=hiD (K2b.o.below hb2 K2b.o.lt);have K3:=hiD (K3b.o.below hb2 K3b.o.lt);have HB2:=hiD (HB1.o.trans (hb2.mono HB1.o.size));have HE2:=hiD (HEV.o.below hb2);have HB5:Hid (w.heap.size+1<w1.heap.size):=hiD K3b.o.lt;obtain⟨b5,hb5⟩:∃ b,w1.heap.size=b:=⟨_,rfl⟩;rw[hb5] at K5 HB5 ⊢;clear k4 hb2 hw2 hb5 K2b K3b HB1 HEV;by_cases he:er=0
 case neg =>
  have HV:=hiD (zu0 HER.o he);have hne:(((er:Nat):Int) != 0)=true:=by simpa using he
  clear he;go_wp2_with (with_reducible refine stn 19 ?_)
  refine held (j9 rfl 40 #[] rfl [] rfl (staA staZ ptZ) zmd ?_);refine j9 rfl 27 #[] rfl [] rfl (chC ch0) zak ?_;go_wp2_with (with_reducible refine st0 ?_)
  refine held (zi rfl 40 (.tmp 2) (.tmp 19) rfl w.heap.size 0 (staA staZ ptZ) rfl rfl 40 _ K2.o (by rw[Nat.zero_add];exact Nat.le_refl _) (by rw[za6];exact zeb) (zet _ _) ?_);intro w10 hw10;obtain rfl:=zfz hw10;go_wp2_with (with_reducible refine st0 ?_)
  refine held (zi rfl 27 (.tmp 3) (.tmp 20) rfl (w.heap.size+1) 0 (chC ch0) rfl rfl 27 _ (K3.o.setRow_other (by omega) _) (by rw[Nat.zero_add];exact Nat.le_refl _) (info_ch' zj) (zt _) ?_);intro w11 hw11;obtain rfl:=q9 hw11 zj zj;go_wp2_with fail
  exact bodyPost_ret (zau rfl _ _ ⟨w.heap.size,0,none⟩ ⟨w.heap.size+1,0,none⟩ _ _ _ rfl rfl rfl (Bk.staV ((Bk.setRow_same K2.o _).setRow_other (by omega) _)) (Bk.ch (Bk.setRow_same (K3.o.setRow_other (by omega) _) _) zj)) rfl ⟨ptZ,by rw[HV.o.1,HV.o.2.1,HV.o.2.2];rfl,by rw[HV.o.2.1];exact zmb _ _,below_setRow (below_setRow HB2.o (Nat.le_refl _) _) (by omega) _⟩
 subst he;obtain⟨hs,hin,hmap⟩:=HE2.o.in_;have HIN:=hiD hin;have HMAP:=hiD hmap;have HN1:Hid (n1=vs.length):=hiD HE2.o.len.symm;clear hin hmap;go_wp2_with fail
 refine(z83 w2).mono ?_;rintro e w3 ⟨p0,rfl,ho,hb⟩;have HB3:=hiD hb;have HO3:=hiD ho;clear hb ho HE2;go_wp2_with (with_reducible refine st0 ?_)
 refine held (zi rfl 40 (.tmp 8) (.tmp 22) rfl w3.heap.size 0 (staA zck p0) rfl rfl 40 (staA staZ ptZ) (Bk.new w3 40 (staA staZ ptZ)) (by rw[za6];exact Nat.le_refl _) (by rw[za6];exact zeb) (zet _ _) ?_);intro w4 hw4;obtain rfl:=zfz hw4;have R00:ReAt w2 w3.heap.size zck p0 ((w3.alloc (.cells (staA staZ ptZ) 40)).setRow w3.heap.size (staA zck p0)) :=
  ⟨Bk.setRow_same (Bk.new _ _ _) _,(HO3.o.below ((Below.refl _ _).alloc (Nat.le_refl _) _)).setRow (Bk.new _ _ _) HB3.o.size zdq _,below_setRow (HB3.o.alloc HB3.o.size _) HB3.o.size _⟩
 refine qk (fun W=>ReAt w2 w3.heap.size zck p0 W) R00 ?_;have HB8:Hid (w2.heap.size≤w3.heap.size):=hiD HB3.o.size;obtain⟨b8,hb8⟩:∃ b,w3.heap.size=b:=⟨_,rfl⟩;rw[hb8] at HB8 ⊢;clear hb8 R00 hw4 HB3 HO3;rintro W0 r0;have R0:=hiD r0;clear r0;go_wp2_with fail
 go_loopw [7,25] (fun x7 x25 wx=>∃ (i:Nat) (p:StaAt),i≤n1∧x7=.int .i64 0∧x25=.int .i64 (i:Int)∧(repL (vs.take i)).2=0∧OkSta (repL (vs.take i)).1∧ReAt w2 b8 (repL (vs.take i)).1 p wx) (fun _ x25 _=>n1-(intOf x25).toNat)
 case atStart=>exact⟨0,p0,Nat.zero_le _,rfl,rfl,rfl,zkt,R0.o⟩
 case round =>
  obtain⟨i,p,hi,rfl,rfl,he0,hok,hr⟩:=hrel;obtain⟨wo,rfl⟩:∃ wo,wo=wr:=⟨_,rfl⟩;obtain⟨s,hs0⟩:∃ s,(repL (vs.take i)).1=s:=⟨_,rfl⟩;rw[hs0] at hok hr;have HS0:=hiD hs0;have H:=hiD hr;have HE0:=hiD he0;have HI:=hiD hi;have HSO:=hiD hok;clear hr R0 he0 hi hok hs0;by_cases hlt:i<n1
  ·have HLT:=hiD hlt
   obtain⟨eb,eo,h,rfl,heb,hle,hrg,hin⟩:=(HIN.o.later H.o.hb).at_ hlt;have hi0:(0:Int)≤(i:Int):=by omega
   have hin':(i:Int)<(n1:Int):=by omega
   have HRG:=hiD hrg;have HEI:=hiD hin;have HVI:Hid (vs[i]?=some h.e):=hiD (by rw[← HMAP.o,List.getElem?_map,hle];rfl);have HWR:Hid (Writes h):=hiD (HW.o h (List.mem_of_getElem? HVI.o) hin.1.1 hin.2.1.1);clear hle hrg hin heb;go_wp2_with (with_reducible refine stn 28 ?_)
   refine held (wpList_load_mid rfl 50 (.tmp 27) rfl eb (eo+i*11) rfl _ _ HRG.o Tryz.underlying50 rfl (by kernel_rfl) ?_);go_wp2_with (with_reducible refine st0 ?_)
   refine held (zi rfl 50 (.tmp 10) (.tmp 28) rfl wo.heap.size 0 (evC h) rfl (by rfl) 50 (evC (ze 0 0)) (Bk.new wo 50 (evC (ze 0 0))) (by rw[zd,zd];decide) (by rw[zd];exact zr) (zw _) ?_);intro w5 hw5;obtain rfl:=qa hw5 (by rw[zd,zd]);have hbe:Below wo.heap.size wo ((wo.alloc (.cells (evC (ze 0 0)) 50)).setRow wo.heap.size (evC h)):=below_setRow ((Below.refl _ _).alloc (Nat.le_refl _) _) (Nat.le_refl _) _;refine qk (fun W=>ReAt w2 b8 s p W∧Bk W wo.heap.size 50 (evC h)∧EvIn W W.heap.size h∧Below wo.heap.size wo W) ⟨H.o.next hbe,Bk.setRow_same (Bk.new _ _ _) _,HEI.o.later hbe,hbe⟩ ?_;clear hw5 hbe;obtain⟨b10,hb10⟩:∃ b,wo.heap.size=b:=⟨_,rfl⟩;rw[hb10];clear hb10 H HRG HEI hi0 hin' hlt;rintro W1 ⟨q1,q2,q3,-⟩;have H:=hiD q1;have KE:=hiD q2;have HEI:=hiD q3;clear q1 q2 q3;go_wp2_with (with_reducible refine stn 30 ?_)
   refine held (wpList_load_mid rfl 40 (.tmp 8) rfl b8 0 rfl _ _ H.o.k8.range Tryz.underlying40 rfl (by kernel_rfl) ?_);refine wpList_load_mid rfl 50 (.tmp 10) rfl b10 0 rfl _ _ KE.o.range Tryz.underlying50 rfl (by kernel_rfl) ?_;go_wp2_with fail
   have CA:=hiD (z8f s p h W1 (H.o.own.in_ HSO.o.small H.o.hb.size) HSO.o.small (zu2 HSO.o) HEI.o (HK.o.below (HB2.o.trans (H.o.hb.mono HB2.o.size))) HWR.o);refine CA.o.mono ?_;rintro e W2 ⟨p',rfl,ho,hb⟩;obtain⟨s',hs'⟩:∃ s',appS s h.e=s':=⟨_,rfl⟩;obtain⟨z,hz⟩:∃ z,appE s h.e=z:=⟨_,rfl⟩;rw[hs'] at ho ⊢;rw[hz];have HSS:=hiD hs';have HZ:=hiD hz;have HO2:=hiD (ho.from_ (base':=w2.heap.size) H.o.hb.size);have H2:=hiD (H.o.next hb);have HREP:Hid (repL (vs.take (i+1))=(s',z)):=hiD (by rw[zuz HVI.o,zhj HE0.o,HS0.o,HSS.o,HZ.o]);clear ho hb hs' hz CA H KE HEI;go_wp2_with (with_reducible refine st0 ?_)
   refine held (zi rfl 40 (.tmp 8) (.tmp 33) rfl b8 0 (staA s' p') rfl (by rfl) 40 (staA s p) H2.o.k8 (by rw[za6,za6];exact Nat.le_refl _) (by rw[za6];exact zeb) (zet _ _) ?_);intro w6 hw6;obtain rfl:=zfz hw6;have R3:ReAt w2 b8 s' p' (W2.setRow b8 (staA s' p')):=⟨H2.o.k8.setRow_same _,HO2.o.setRow H2.o.k8 HB8.o zdq _,below_setRow H2.o.hb HB8.o _⟩;refine qk (fun W=>ReAt w2 b8 s' p' W) R3 ?_;clear hw6 R3 H2 HO2;rintro W3 q;have H3:=hiD q;clear q;by_cases hz0:z=0
   ·subst hz0
    have HOK2:Hid (OkSta s'):=hiD (by rw[← HSS.o];exact zqk HZ.o);have hw1:IntKind.i64.wrap ((i:Int)+1)=(i:Int)+1:=IntWalk.i64_in _ (by have:=HLT.o;have:=HN1.o;have:=HVN.o;omega);go_wp2_with fail
    go_roundw
    case rel=>exact⟨i+1,p',HLT.o,rfl,by first|rfl|go_num,by rw[HREP.o],by rw[HREP.o];exact HOK2.o,by rw[HREP.o];exact H3.o⟩
    case measure=>have:=HLT.o;simp[intOf];omega
   ·have HV:=hiD (zu1 (l:=l) (z:=z) HER.o (by rw[HVS.o,zuy (k:=i+1) (by rw[HREP.o];exact hz0),HREP.o]) hz0)
    have hne:(z != 0)=true:=by simpa using hz0
    have K2c:=hiD (K2.o.below H3.o.hb K2.o.lt);have K3c:=hiD (K3.o.below H3.o.hb K3.o.lt);have HB4:=hiD (HB2.o.trans (H3.o.hb.mono HB2.o.size));clear hz0;go_wp2_with (with_reducible refine stn 37 ?_)
    refine held (j9 rfl 40 #[] rfl [] rfl (staA staZ ptZ) zmd ?_);refine j9 rfl 27 #[] rfl [] rfl (chC ch0) zak ?_;go_wp2_with (with_reducible refine st0 ?_)
    refine held (zi rfl 40 (.tmp 2) (.tmp 37) rfl w.heap.size 0 (staA staZ ptZ) rfl rfl 40 _ K2c.o (by rw[Nat.zero_add];exact Nat.le_refl _) (by rw[za6];exact zeb) (zet _ _) ?_);intro w10 hw10;obtain rfl:=zfz hw10;go_wp2_with (with_reducible refine st0 ?_)
    refine held (zi rfl 27 (.tmp 3) (.tmp 38) rfl (w.heap.size+1) 0 (chC ch0) rfl rfl 27 _ (K3c.o.setRow_other (by omega) _) (by rw[Nat.zero_add];exact Nat.le_refl _) (info_ch' zj) (zt _) ?_);intro w11 hw11;obtain rfl:=q9 hw11 zj zj;go_wp2_with fail
    exact bodyPost_ret (zau rfl _ _ ⟨w.heap.size,0,none⟩ ⟨w.heap.size+1,0,none⟩ _ _ _ rfl rfl rfl (Bk.staV ((Bk.setRow_same K2c.o _).setRow_other (by omega) _)) (Bk.ch (Bk.setRow_same (K3c.o.setRow_other (by omega) _) _) zj)) rfl ⟨ptZ,by rw[HV.o.1,HV.o.2.1,HV.o.2.2];rfl,by rw[HV.o.2.1];exact zmb _ _,below_setRow (below_setRow HB4.o (Nat.le_refl _) _) (by omega) _⟩
  ·have hin:i=n1:=by have:=HI.o;omega
   subst hin;have HF:Hid (vs.take i=vs):=hiD (List.take_of_length_le (by rw[HN1.o];exact Nat.le_refl _));rw[HF.o] at HE0 HS0;have HV:=hiD (zmc (l:=l) HER.o (by rw[HVS.o];exact HE0.o));have K2c:=hiD (K2.o.below H.o.hb K2.o.lt);have K3c:=hiD (K3.o.below H.o.hb K3.o.lt);have K5c:=hiD (K5.o.below H.o.hb K5.o.lt);have HB4:=hiD (HB2.o.trans (H.o.hb.mono HB2.o.size));have HB8c:Hid (w.heap.size+1<b8):=hiD (Nat.lt_of_lt_of_le K3.o.lt HB8.o);have OWN:=hiD (H.o.own.from_ HB2.o.size);have K8:=hiD H.o.k8;clear H HI hlt K2 K3 K5 HSO;go_wp2_with fail
   have D2:=hiD K2c.o.drew;have D3:=hiD K3c.o.drew;have DB:=hiD HB4.o.drew;have DO:=hiD (OWN.o.below (Below.refl _ _).drew);refine wp_region_held_drew (S:=fun W'=>Bk W' b8 40 (staA s p)∧Bk W' b5 27 (chC x)) hmx ⟨K8.o.drew,K5c.o.drew⟩ (fun qch=>?_);clear K2c K3c K5c HB4 OWN K8;generalize hW0:wo.drew=V0 at *;clear hW0;simp only[List.size_toArray,List.length_cons,List.length_nil,Nat.reduceAdd];refine tkx (i:=0) (v:=.agg (staA s p)) (x:=fun w0 hC=>jc rfl rfl hC.1.range Tryz.underlying40 rfl (by rw[za6];exact zeb)) (s:=qch) (h:=?_);try simp only[nm0]
   refine tkx (i:=1) (v:=.agg (chC x)) (x:=fun w0 hC=>jc rfl rfl hC.2.range Tryz.underlying27 rfl (info_ch' HXO.o)) (s:=qch) (h:=?_);try simp only[nm0]
   refine rd1 (r:=2) (h:=fun K hK=>?_);have hS:=And.intro (qch.1.setRow_other (show b8≠w.heap.size by have:=HB8c.o;omega) (staA s p)) (qch.2.setRow_other (show b5≠w.heap.size by have:=HB5.o;omega) (staA s p));have E2:=hiD (D2.o.setRow_same (staA s p));have E3:=hiD (D3.o.setRow_other (show w.heap.size+1≠w.heap.size by omega) (staA s p));have EB:=hiD (below_setRow DB.o (Nat.le_refl _) (staA s p));have EO:=hiD (DO.o.setRow D2.o (Nat.le_refl _) zdq (staA s p));refine qh (ql rfl rfl rfl D2.o (by rw[za6,za6]) (by rw[za6];exact zeb) (zet _ _)) ?_;clear qch D2 D3 DB DO;refine bkk hK hS fun qch=>?_;clear hK K;try simp only[nm0]
   clear hS;generalize V0.setRow w.heap.size (staA s p)=V1 at *;refine rd1 (r:=3) (h:=fun K hK=>?_);have hS:=And.intro (qch.1.setRow_other (show b8≠w.heap.size+1 by have:=HB8c.o;omega) (chC x)) (qch.2.setRow_other (show b5≠w.heap.size+1 by have:=HB5.o;omega) (chC x));have F2:=hiD (E2.o.setRow_other (show w.heap.size≠w.heap.size+1 by omega) (chC x));have F3:=hiD (E3.o.setRow_same (chC x));have FB:=hiD (below_setRow EB.o (show w.heap.size≤w.heap.size+1 by omega) (chC x));have FO:=hiD (EO.o.setRow E3.o (show w.heap.size≤w.heap.size+1 by omega) (by unfold StaT;decide) (chC x));refine qh (ql rfl rfl rfl E3.o (by rw[zx HXO.o,zx zj]) (info_ch' HXO.o) (zt _)) ?_;clear qch E2 E3 EB EO;refine bkk hK hS fun qch=>?_;clear hK K;try simp only[nm0]
   clear hS;generalize V1.setRow (w.heap.size+1) (chC x)=V2 at *;refine rd1 (r:=4) (h:=fun K hK=>?_);go_wp2_with fail
   have hS:=qch;clear qch;refine bkk hK hS fun qch=>?_;clear hK K;try simp only[nm0]
   clear hS;refine wpAnyH_done (by kernel_rfl) ?_ _;go_wp2_with fail
   exact bodyPost_ret (zau rfl _ _ ⟨w.heap.size,0,none⟩ ⟨w.heap.size+1,0,none⟩ _ _ _ rfl rfl rfl (Bk.staV F2.o) (Bk.ch F3.o HXO.o)) rfl ⟨p,by rw[HV.o.1,HV.o.2.1,HV.o.2.2,HVS.o,HS0.o,HX.o];rfl,by rw[HV.o.2.1,HVS.o,HS0.o];exact FO.o,FB.o⟩
def txA:ByteArray:=⟨#[97]⟩
def txB:ByteArray:=⟨#[98]⟩
def auE1:Ev:=⟨1,0,txA,zby,[],[],0,0,0,0,[]⟩
def auE2:Ev:=⟨4,0,txA,zby,[],[],0,0,0,0,[]⟩
def auE3:Ev:=⟨5,0,txA,zby,[],[],0,0,0,0,[]⟩
def auE4:Ev:=⟨4,0,txB,zby,[],[],0,0,0,0,[]⟩
def auR1:List Nat:=recB ch0 auE1
def auC1:Ch:=qw ch0 auR1
def auR2:List Nat:=recB auC1 auE2
def auC2:Ch:=qw auC1 auR2
def auR3:List Nat:=recB auC2 auE3
def auC3:Ch:=qw auC2 auR3
def auR4:List Nat:=recB auC1 auE4
def auC4:Ch:=qw auC1 auR4
theorem auN1:qx ch0 auE1=0:=by decide +kernel
theorem auN2:qx auC1 auE2=0:=by decide +kernel
theorem auN3:qx auC2 auE3=0:=by decide +kernel
theorem auN4:qx auC1 auE4=0:=by decide +kernel
theorem zu4:sumB auR2≠sumB auR4:=by decide +kernel
theorem zf0 {c:Ch}{e:Ev}{r:List Nat}{d:Ch}(h:qx c e=0)(hr:recB c e=r)(hd:qw c r=d):zal c e=r∧jt c e=d:=by
 refine⟨?_,?_⟩
 ·unfold zal;rw[if_pos h,hr]
 ·unfold jt;rw[if_pos h,hr,hd]
theorem zme:alL [auE1,auE2,auE3]=⟨[auR1,auR2,auR3],auC3,[auE1,auE2,auE3]⟩:=by
 have a1:=zf0 (r:=auR1) (d:=auC1) auN1 rfl rfl;have a2:=zf0 (r:=auR2) (d:=auC2) auN2 rfl rfl;have a3:=zf0 (r:=auR3) (d:=auC3) auN3 rfl rfl
 show zct (zct (zct al0 auE1) auE2) auE3=_
 rw[zed (a:=al0) auN1];simp only[al0,a1.1,a1.2,List.nil_append];rw[zed (a:=⟨[auR1],auC1,[auE1]⟩) auN2];simp only[a2.1,a2.2,List.cons_append,List.nil_append];rw[zed (a:=⟨[auR1,auR2],auC2,[auE1,auE2]⟩) auN3];simp only[a3.1,a3.2,List.cons_append,List.nil_append]
theorem zmf:alL [auE1,auE4]=⟨[auR1,auR4],auC4,[auE1,auE4]⟩:=by
 have a1:=zf0 (r:=auR1) (d:=auC1) auN1 rfl rfl;have a2:=zf0 (r:=auR4) (d:=auC4) auN4 rfl rfl
 show zct (zct al0 auE1) auE4=_
 rw[zed (a:=al0) auN1];simp only[al0,a1.1,a1.2,List.nil_append];rw[zed (a:=⟨[auR1],auC1,[auE1]⟩) auN4];simp only[a2.1,a2.2,List.cons_append,List.nil_append]
theorem zeu:foL [auR1,auR2,auR3]=⟨auC3,[auE1,auE2,auE3],0⟩:=by
 have h:=(zhp [auE1,auE2,auE3] (by decide)).fo;rw[zme] at h;exact h
theorem zu5:foL [auR1,auR4]=⟨auC4,[auE1,auE4],0⟩:=by
 have h:=(zhp [auE1,auE4] (by decide)).fo;rw[zmf] at h;exact h
theorem zu6:foL [auR1,auR4,auR3]=⟨auC4,[auE1,auE4],11⟩:=by
 have h:=zm3 (c:=auC2) (e:=auE3) (zb3 _ _) auN3 (by decide)
 have hl:qp auC4 auR3=11:=(zjk (c:=auC4) (l:=auR3) h.1 (by
  rw[show qy auR3=auC2 from h.2.1];intro he
  exact zu4 (congrArg Ch.head he))).1
 show foL ([auR1,auR4]++[auR3])=_
 rw[zex,zu5,zf6 rfl (by show qp auC4 auR3≠0;rw[hl];decide)]
 show(⟨auC4,_,qp auC4 auR3⟩:Fo)=_
 rw[hl]
theorem zu7:auC3.count=3:=rfl
def sB1:Sta:=⟨0,[⟨je,1,1,[]⟩,⟨txA,2,1,[]⟩],[],[],[],[],3,1,1⟩
def sB2:Sta:=⟨0,[⟨je,1,1,[]⟩,⟨txA,2,1,[]⟩],[txA],[],[],[],3,1,1⟩
theorem auS1:appE zck auE1=0∧appS zck auE1=sB1:=by
 refine zku zkt (by decide) ?_;rw[do_1 rfl];rfl
theorem okB1:OkSta sB1:=by rw[← auS1.2];exact zql zkt
theorem auS2:appE sB1 auE2=0∧appS sB1 auE2=sB2:=by
 refine zku okB1 (by decide) ?_;rw[do_4 rfl];rfl
theorem okB2:OkSta sB2:=by rw[← auS2.2];exact zql okB1
theorem auS3:appE sB2 auE3=0∧appS sB2 auE3=sB1:=by
 refine zku okB2 (by decide) ?_;rw[do_5 rfl];rfl
theorem zmg:repL [auE1,auE2,auE3]=(sB1,0):=by
 have h1:zb1 (zck,0) auE1=(sB1,0):=by rw[zhj rfl];exact Prod.ext auS1.2 auS1.1
 have h2:zb1 (sB1,0) auE2=(sB2,0):=by rw[zhj rfl];exact Prod.ext auS2.2 auS2.1
 have h3:zb1 (sB2,0) auE3=(sB1,0):=by rw[zhj rfl];exact Prod.ext auS3.2 auS3.1
 show zb1 (zb1 (zb1 (zck,0) auE1) auE2) auE3=_
 rw[h1,h2,h3]
theorem auRp:rpE [auR1,auR2,auR3]=0∧rpS [auR1,auR2,auR3]=sB1∧rpC [auR1,auR2,auR3]=auC3:=by
 have h:=zmc (l:=[auR1,auR2,auR3]) (by rw[zeu]) (by rw[zeu];show(repL [auE1,auE2,auE3]).2=0;rw[zmg]);refine⟨h.1,?_,?_⟩
 ·rw[h.2.1,zeu]
  show(repL [auE1,auE2,auE3]).1=_
  rw[zmg]
 ·rw[h.2.2,zeu]
theorem auVe:verC [auR1,auR2,auR3]=auC3∧verE [auR1,auR2,auR3]=0:=by
 unfold verC verE;rw[zeu];exact⟨if_pos rfl,rfl⟩
theorem auVx:verE [auR1,auR4,auR3]=11∧verC [auR1,auR4,auR3]=ch0∧zey [auR1,auR4,auR3]=2:=by
 unfold verE verC zey;rw[zu6];exact⟨rfl,if_neg (by decide),rfl⟩
theorem zdt (A:Option Addr)(n k:Nat)(l:List (List Nat))(w:World)(hl:Recs 1000000 w w.heap.size A n l)(hn:n≤100000)(hK:Kinds w)(ht:Tabs w):Calls Tryz.prog 10 #[.slice A n k] w (VerIs l w):=by
 have hal:Below w.heap.size w (w.alloc (.cells (chC ch0) 27)):=(Below.refl _ _).alloc (Nat.le_refl _) _;have CF:=hiD (zhi A n k l (w.alloc (.cells (chC ch0) 27)) (hl.later hal) hn (hK.below hal) (Tabs.later15 ht hal));have HB0:=hiD hal;have HOK:=hiD (zan l);have K2:=hiD (Bk.new w 27 (chC ch0));obtain⟨x,hx⟩:∃ x,(foL l).c=x:=⟨_,rfl⟩;have HXO:Hid x.Ok:=hiD (by rw[← hx];exact HOK.o.ok);have HX:=hiD hx;obtain⟨er,her⟩:∃ er,(foL l).e=er:=⟨_,rfl⟩;have HER:=hiD her;clear hl hn hK ht hal hx her;go_enter Tryz.func10,Tryz.ntmps10
 go_wp2_with fail
 refine CF.o.mono ?_;rintro e w1 ⟨A1,n1,c1,rfl,hev,hb⟩;rw[HX.o,HER.o];have K2b:=hiD (K2.o.below hb K2.o.lt);have HB1:=hiD (HB0.o.trans (hb.mono (by simp)));clear hev hb CF HB0 K2;go_wp2_with (with_reducible refine st0 ?_)
 refine held (zi rfl 27 (.tmp 4) (.tmp 10) rfl w1.heap.size 0 (chC x) rfl rfl 27 (chC ch0) (Bk.new w1 27 (chC ch0)) (by rw[zx HXO.o];exact Nat.le_refl _) (info_ch' HXO.o) (zt _) ?_);intro w2 hw2;obtain⟨k4,hb2⟩:=za1 HXO.o hw2;have K4:=hiD k4;have K2c:=hiD (K2b.o.below hb2 K2b.o.lt);have HB2:=hiD (HB1.o.trans (hb2.mono HB1.o.size));obtain⟨b4,hb4⟩:∃ b,w1.heap.size=b:=⟨_,rfl⟩;rw[hb4] at K4 ⊢;clear k4 hb2 hw2 hb4 K2b HB1;by_cases he:er=0
 ·subst he
  have HV:Hid (verC l=x∧verE l=0):=hiD (by unfold verC verE;exact⟨by rw[if_pos HER.o,HX.o],HER.o⟩);go_wp2_with (with_reducible refine stn 17 ?_)
  refine held (wpList_load_mid rfl 27 (.tmp 4) rfl b4 0 rfl _ _ K4.o.range Tryz.underlying27 rfl (zcd HXO.o) ?_);go_wp2_with (with_reducible refine st0 ?_)
  refine held (zi rfl 27 (.tmp 2) (.tmp 17) rfl w.heap.size 0 (chC x) rfl rfl 27 _ K2c.o (by rw[Nat.zero_add,zx HXO.o,zx zj];exact Nat.le_refl _) (info_ch' HXO.o) (zt _) ?_);intro w10 hw10;obtain rfl:=q9 hw10 zj HXO.o;go_wp2_with fail
  exact bodyPost_ret (zc1 rfl _ _ ⟨w.heap.size,0,none⟩ _ _ rfl rfl (Bk.ch (Bk.setRow_same K2c.o _) HXO.o)) rfl ⟨by rw[HV.o.1,HV.o.2];rfl,below_setRow HB2.o (Nat.le_refl _) _⟩
 ·have HV:Hid (verC l=ch0∧verE l=er):=hiD (by unfold verC verE;exact⟨by rw[if_neg (by rw[HER.o];exact he)],HER.o⟩)
  have hne:(((er:Nat):Int) != 0)=true:=by simpa using he
  clear he;go_wp2_with (with_reducible refine stn 15 ?_)
  refine held (j9 rfl 27 #[] rfl [] rfl (chC ch0) zak ?_);go_wp2_with (with_reducible refine st0 ?_)
  refine held (zi rfl 27 (.tmp 2) (.tmp 15) rfl w.heap.size 0 (chC ch0) rfl rfl 27 _ K2c.o (by rw[Nat.zero_add];exact Nat.le_refl _) (info_ch' zj) (zt _) ?_);intro w10 hw10;obtain rfl:=q9 hw10 zj zj;go_wp2_with fail
  exact bodyPost_ret (zc1 rfl _ _ ⟨w.heap.size,0,none⟩ _ _ rfl rfl (Bk.ch (Bk.setRow_same K2c.o _) zj)) rfl ⟨by rw[HV.o.1,HV.o.2];rfl,below_setRow HB2.o (Nat.le_refl _) _⟩
def EvtIs (l:List (List Nat))(w:World)(e:Ending)(w':World):Prop :=
 ∃ A n c,e=.returned (.tuple #[.slice A n c,.int .i64 ((verE l:Nat):Int)])∧EvsO w' w.heap.size w.heap.size A n c (evsV l)∧Below w.heap.size w w'
theorem zmh (A:Option Addr)(n k:Nat)(l:List (List Nat))(w:World)(hl:Recs 1000000 w w.heap.size A n l)(hn:n≤100000)(hK:Kinds w)(ht:Tabs w):Calls Tryz.prog 12 #[.slice A n k] w (EvtIs l w):=by
 have CF:=hiD (zhi A n k l w hl hn hK ht);have HOK:=hiD (zan l);obtain⟨x,hx⟩:∃ x,(foL l).c=x:=⟨_,rfl⟩;have HXO:Hid x.Ok:=hiD (by rw[← hx];exact HOK.o.ok);have HX:=hiD hx;obtain⟨er,her⟩:∃ er,(foL l).e=er:=⟨_,rfl⟩;have HER:=hiD her;clear hl hn hK ht hx her;go_enter Tryz.func12,Tryz.ntmps12
 go_wp2_with fail
 refine CF.o.mono ?_;rintro e w1 ⟨A1,n1,c1,rfl,hev,hb⟩;rw[HX.o,HER.o];have HEV:=hiD hev;have HB1:=hiD hb;clear hev hb CF;go_wp2_with (with_reducible refine st0 ?_)
 refine held (zi rfl 27 (.tmp 4) (.tmp 10) rfl w1.heap.size 0 (chC x) rfl rfl 27 (chC ch0) (Bk.new w1 27 (chC ch0)) (by rw[zx HXO.o];exact Nat.le_refl _) (info_ch' HXO.o) (zt _) ?_);intro w2 hw2;obtain⟨k4,hb2⟩:=za1 HXO.o hw2;have HE2:=hiD (HEV.o.below hb2);have HB2:=hiD (HB1.o.trans (hb2.mono HB1.o.size));clear k4 hb2 hw2 HB1 HEV;by_cases he:er=0
 ·subst he
  have HV:Hid (evsV l=(foL l).v∧verE l=0):=hiD (by unfold evsV verE;exact⟨by rw[if_pos HER.o],HER.o⟩);go_wp2_with fail
  go_ret2;exact⟨A1,n1,c1,by rw[HV.o.2]<;>rfl,by rw[HV.o.1];exact HE2.o,HB2.o⟩
 ·have HV:Hid (evsV l=[]∧verE l=er):=hiD (by unfold evsV verE;exact⟨by rw[if_neg (by rw[HER.o];exact he)],HER.o⟩)
  have hne:(((er:Nat):Int) != 0)=true:=by simpa using he
  clear he;go_wp2_with fail
  go_ret2;exact⟨none,0,0,by rw[HV.o.2];rfl,by rw[HV.o.1];exact EvsO.nil _ _ _,HB2.o⟩
theorem zmi (A:Option Addr)(n k:Nat)(l:List (List Nat))(w:World)(hl:Recs 1000000 w w.heap.size A n l)(hn:n≤100000)(hK:Kinds w)(ht:Tabs w):Calls Tryz.prog 17 #[.slice A n k] w fun e w'=>e=.returned (.int .i64 ((zey l:Nat):Int))∧Below w.heap.size w w':=by
 have CF:=hiD (zhi A n k l w hl hn hK ht);have HOK:=hiD (zan l);obtain⟨x,hx⟩:∃ x,(foL l).c=x:=⟨_,rfl⟩;have HXO:Hid x.Ok:=hiD (by rw[← hx];exact HOK.o.ok);have HXC:Hid (x.count=((zey l:Nat):Int)):=hiD (by rw[← hx];exact HOK.o.count);have HX:=hiD hx;clear hl hn hK ht hx;go_enter Tryz.func17,Tryz.ntmps17
 go_wp2_with fail
 refine CF.o.mono ?_;rintro e w1 ⟨A1,n1,c1,rfl,hev,hb⟩;rw[HX.o];have HB1:=hiD hb;clear hev hb CF;go_wp2_with (with_reducible refine st0 ?_)
 refine held (zi rfl 27 (.tmp 3) (.tmp 9) rfl w1.heap.size 0 (chC x) rfl rfl 27 (chC ch0) (Bk.new w1 27 (chC ch0)) (by rw[zx HXO.o];exact Nat.le_refl _) (info_ch' HXO.o) (zt _) ?_);intro w2 hw2;obtain⟨k4,hb2⟩:=za1 HXO.o hw2;have c32:w2.cell? ⟨w1.heap.size,32,none⟩=some (.int .i64 x.count):=k4.count HXO.o;have HB2:=hiD (HB1.o.trans (hb2.mono HB1.o.size));clear k4 hb2 hw2 HB1;obtain⟨b4,hb4⟩:∃ b,w1.heap.size=b:=⟨_,rfl⟩;rw[hb4] at c32 ⊢;clear hb4;go_wp2_with fail
 go_ret;exact⟨by rw[HXC.o]<;>rfl,HB2.o⟩
theorem zmj {w:World}{B n:Nat}{A:Option Addr}{l:List Eh}(h:EvsIn w B A n l):∀ e∈l.map Eh.e,∀ y∈e.body,y<256:=by
 intro e he;obtain⟨x,hx,rfl⟩:=List.mem_map.1 he;exact(h.2 x hx).2.2.1.2.1
end Go.Proofs.YtmjjefnmabbgdaaGreatDoor
