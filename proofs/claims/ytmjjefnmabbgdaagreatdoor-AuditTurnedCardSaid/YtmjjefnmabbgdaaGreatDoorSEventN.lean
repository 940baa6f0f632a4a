/- A part of the proof. -/
import Derived.Test.YtmjjefnmabbgdaaGreatDoorSEventK
import Derived.Deep.DeepCutAuto
import Derived.Deep.RegionHeld3
namespace Go.Proofs.YtmjjefnmabbgdaaGreatDoor
set_option linter.unusedVariables false
set_option linter.unusedSimpArgs false
set_option maxRecDepth 100000
set_option maxHeartbeats 16000000
open Go.RowKit
def accS (l:List Nat)(k:Nat):St3:=(nineL.take k).foldl (zax (zm l)) (bare (zm l) (jq l),jp l,0)
theorem zaz {l:List Nat}{k c:Nat}(hc:nineL[k]?=some c):accS l (k+1)=zax (zm l) (accS l k) c:=by
 unfold accS;rw[zbz nineL k c hc,List.foldl_append];rfl
theorem zdj {l:List Nat}{c:Nat}(h:decide (c∈zg (zm l))=true)(x:St3):zax (zm l) x c=zo x.1 c x.2.1 x.2.2:=if_pos (of_decide_eq_true h)
theorem zdk {l:List Nat}{c:Nat}(h:decide (c∈zg (zm l))=false)(x:St3):zax (zm l) x c=x:=if_neg (of_decide_eq_false h)
theorem z02 {l:List Nat}(h:zai l=0):docS l=accS l 9:=if_pos h
theorem z03 (K:Int)(p:List Nat):∀ (x:St3),(∀ y∈x.2.1,y<256)→∀ y∈(p.foldl (zax K) x).2.1,y<256:=by
 induction p with
 | nil=>intro x h;exact h
 | cons c p ih =>
   intro x h;rw[List.foldl_cons];refine ih _ ?_;unfold zax
   split
   ·exact zp4 x.1 c x.2.2 h
   ·exact h
theorem z04 (K:Int)(p:List Nat):∀ (x:St3),(p.foldl (zax K) x).2.1.length≤x.2.1.length:=by
 induction p with
 | nil=>intro x;exact Nat.le_refl _
 | cons c p ih =>
   intro x;rw[List.foldl_cons];refine Nat.le_trans (ih _) ?_;unfold zax
   split
   ·exact zp5 x.1 c x.2.2
   ·exact Nat.le_refl _
theorem zdl {l:List Nat}(h:∀ y∈l,y<256)(k:Nat):∀ y∈(accS l k).2.1,y<256:=z03 _ _ _ (zab (zab h))
theorem zdm (l:List Nat)(k:Nat):(accS l k).2.1.length≤l.length:=Nat.le_trans (z04 _ _ _) (Nat.le_trans zaf zaf)
theorem z05 (x:Ev){c:Nat}(hc:c≠105)(l:List Nat)(er:Nat):(zo x c l er).1.ids=x.ids:=by
 unfold zo
 repeat (first|rfl|exact absurd ‹_› hc|split)
theorem z06 (x:Ev){c:Nat}(hc:c≠115)(l:List Nat)(er:Nat):(zo x c l er).1.set=x.set:=by
 unfold zo
 repeat (first|rfl|exact absurd ‹_› hc|split)
theorem zqy (K:Int)(x:St3){c:Nat}(hc:c≠105):(zax K x c).1.ids=x.1.ids:=by
 unfold zax
 split
 ·exact z05 _ hc _ _
 ·rfl
theorem zkz (K:Int)(x:St3){c:Nat}(hc:c≠115):(zax K x c).1.set=x.1.set:=by
 unfold zax
 split
 ·exact z06 _ hc _ _
 ·rfl
theorem z07 (l:List Nat):(accS l 2).1.ids=[]:=by
 rw[zaz (k:=1) (c:=116) rfl,zaz (k:=0) (c:=98) rfl,zqy _ _ (by decide),zqy _ _ (by decide)];rfl
theorem z08 (l:List Nat):(accS l 3).1.set=[]:=by
 rw[zaz (k:=2) (c:=105) rfl,zaz (k:=1) (c:=116) rfl,zaz (k:=0) (c:=98) rfl,zkz _ _ (by decide),zkz _ _ (by decide),zkz _ _ (by decide)];rfl
structure RdAt (w:World)(g B b2 b3:Nat)(x:St3)(H:Eh)(wx:World):Prop where
 res:Bk wx b2 50 (evC (ze 0 0))
 box:Bk wx b3 50 (evC H)
 own1:OwnV wx (b3+1) 3 H.A1 H.n1 H.c1 (H.e.ids.map ints)
 own2:OwnK 2 rgC wx (b3+1) 114 H.A2 H.n2 H.c2 H.e.set
 by3:Bytes wx wx.heap.size H.A3 H.n3 H.e.body
 aw3:Away H.A3 H.n3 (b3 < ·)
 sz:H.n3≤140737488355328∧H.e.box.size≤140737488355328∧H.e.to_.size≤140737488355328
 nn:H.n1≤60∧H.n2≤60
 val:H.e=x.1
 rd:RdR wx g B x.2.1 x.2.2
 grown:w.grownBy wx (some g)
section
variable {w wx w2:World} {g B b2 b3:Nat} {x:St3} {H:Eh}
theorem RdAt.call (d:RdAt w g B b2 b3 x H wx){l':List Nat}{e':Nat}(hs:StoodR g B l' e' wx w2)(h2:b2≠g)(h3:g<b3):RdAt w g B b2 b3 (x.1,l',e') H w2:={
 res:=d.res.kept hs.2 h2
 box:=d.box.kept hs.2 (by omega)
 own1:=d.own1.other hs.2 (by omega)
 own2:=d.own2.other hs.2 (by omega)
 by3:=(d.by3.grown hs.2 (d.aw3.imp fun b hb=>by omega)).more hs.2.size
 aw3:=d.aw3
 sz:=d.sz
 nn:=d.nn
 val:=d.val
 rd:=hs.1
 grown:=zaa d.grown hs.2 }
theorem RdAt.mk_put {j:Nat}{v:Value}{H':Eh}{x':St3}(res:Bk wx b2 50 (evC (ze 0 0)))(box:Bk wx b3 50 (evC H))(rd:RdR wx g B x'.2.1 x'.2.2)(grown:w.grownBy wx (some g))
 (h2:b2≠b3) (h3:g<b3) (hB:B≤b3) (hB2:B≤wx.heap.size) (hw:w.heap.size≤b3) (hev:(evC H).setIfInBounds j v=evC H')
 (o1:OwnV wx (b3+1) 3 H'.A1 H'.n1 H'.c1 (H'.e.ids.map ints)) (o2:OwnK 2 rgC wx (b3+1) 114 H'.A2 H'.n2 H'.c2 H'.e.set) (o3:Bytes wx wx.heap.size H'.A3 H'.n3 H'.e.body) (a3:Away H'.A3 H'.n3 (b3 < ·))
 (sz:H'.n3≤140737488355328∧H'.e.box.size≤140737488355328∧H'.e.to_.size≤140737488355328) (nn:H'.n1≤60∧H'.n2≤60) (hv:H'.e=x'.1):RdAt w g B b2 b3 x' H' (wx.setCell ⟨b3,j,none⟩ v):=by
 have hg:=qe wx b3 j v;refine { res:=res.far h2 _,box:=?_,own1:=o1.other hg (Nat.lt_succ_self _),own2:=o2.other hg (Nat.lt_succ_self _),by3:=(o3.grown hg (a3.imp fun b hb=>by omega)).more hg.size,aw3:=a3,sz:=sz,nn:=nn,val:=hv,rd:=?_,grown:=za0 grown ((Below.refl _ _).setCell hw _) }
 ·rw[← hev];exact box.put j v
 ·exact rd.grown hg (by intro e;injection e with e;omega) (fun k hk=>by cases hk;exact hB) hB2
theorem RdAt.put (d:RdAt w g B b2 b3 x H wx){j:Nat}{v:Value}{H':Eh}{x':St3}(h2:b2≠b3)(h3:g<b3)(hB:B≤b3)(hB2:B≤wx.heap.size)(hw:w.heap.size≤b3)(hev:(evC H).setIfInBounds j v=evC H')
 (o1:OwnV wx (b3+1) 3 H'.A1 H'.n1 H'.c1 (H'.e.ids.map ints)) (o2:OwnK 2 rgC wx (b3+1) 114 H'.A2 H'.n2 H'.c2 H'.e.set) (o3:Bytes wx wx.heap.size H'.A3 H'.n3 H'.e.body) (a3:Away H'.A3 H'.n3 (b3 < ·))
 (sz:H'.n3≤140737488355328∧H'.e.box.size≤140737488355328∧H'.e.to_.size≤140737488355328) (nn:H'.n1≤60∧H'.n2≤60) (hv:H'.e=x'.1) (hx:x'.2=x.2):RdAt w g B b2 b3 x' H' (wx.setCell ⟨b3,j,none⟩ v) :=
 RdAt.mk_put d.res d.box (by rw[hx];exact d.rd) d.grown h2 h3 hB hB2 hw hev o1 o2 o3 a3 sz nn hv
theorem RdR.belowE {B' e:Nat}{l:List Nat}(h:RdR wx g B l e)(hb:Below B' wx w2)(hg:g<B')(hB:B≤B'):RdR w2 g B l e:=by
 obtain⟨A,n,c,h,h1,h2,h3,h4⟩:=h;exact⟨A,n,c,(hb.block g hg).trans h,h1,h2,h3,h4.below hb hB⟩
theorem RdAt.below (d:RdAt w g B b2 b3 x H wx)(hb:Below wx.heap.size wx w2)(hB2:B≤wx.heap.size)(hw:w.heap.size≤wx.heap.size):RdAt w g B b2 b3 x H w2:={
 res:=d.res.below hb d.res.lt
 box:=d.box.below hb d.box.lt
 own1:=OwnV.below d.own1 hb
 own2:=d.own2.below hb
 by3:=d.by3.later hb
 aw3:=d.aw3
 sz:=d.sz
 nn:=d.nn
 val:=d.val
 rd:=d.rd.belowE hb d.rd.lt hB2
 grown:=za0 d.grown (hb.mono hw) }
theorem RdAt.inn (d:RdAt w g B b2 b3 x H wx):EvIn wx wx.heap.size H:=by
 have:=d.nn;exact⟨OwnV.colE d.own1,d.own2.col,d.by3,by omega,by omega,d.sz.1,d.sz.2.1,d.sz.2.2⟩
theorem zk0 {n1 c1 n2 c2 base:Nat}{A1 A2:Option Addr}{l:List Value}{m:List Rg}(h1:OwnV wx base 3 A1 n1 c1 l)(h2:OwnK 2 rgC wx base 114 A2 n2 c2 m):(Value.slice A2 n2 c2).ownBlock=none∨(Value.slice A2 n2 c2).ownBlock≠(Value.slice A1 n1 c1).ownBlock:=by
 rcases h2.1.2 with ⟨hv,_⟩|⟨g2,cap2,cur2,hv2,_,hh2,_⟩
 ·left;rw[hv];rfl
 ·right
  rcases h1.2 with ⟨hv,_⟩|⟨g1,cap1,cur1,hv1,_,hh1,_⟩
  ·rw[hv,hv2];simp[Value.ownBlock]
  ·rw[hv1,hv2]
   intro e;have e':g2=g1:=by simpa [Value.ownBlock] using e
   subst e';rw[hh1] at hh2;injection hh2 with hh2;injection hh2 with _ ht;exact absurd ht (by decide)
theorem own_apart' {n1 c1 n2 c2 base:Nat}{A1 A2:Option Addr}{l:List Value}{m:List Rg}(h1:OwnV wx base 3 A1 n1 c1 l)(h2:OwnK 2 rgC wx base 114 A2 n2 c2 m):(Value.slice A1 n1 c1).ownBlock=none∨(Value.slice A1 n1 c1).ownBlock≠(Value.slice A2 n2 c2).ownBlock:=by
 rcases h1.2 with ⟨hv,_⟩|⟨g1,cap1,cur1,hv1,_,hh1,_⟩
 ·left;rw[hv];rfl
 ·right
  rcases h2.1.2 with ⟨hv,_⟩|⟨g2,cap2,cur2,hv2,_,hh2,_⟩
  ·rw[hv,hv1];simp[Value.ownBlock]
  ·rw[hv1,hv2]
   intro e;have e':g1=g2:=by simpa [Value.ownBlock] using e
   subst e';rw[hh1] at hh2;injection hh2 with hh2;injection hh2 with _ ht;exact absurd ht (by decide)
theorem zk1 {base n c:Nat}{A:Option Addr}{vs:List Value}(ho:OwnV wx base 3 A n c vs)(ty:TypeId)(b:Nat)(z:Int)(hb:Bk wx b 3 #[.int .i64 z])(hn:n≤1000000)(hbase:base≤wx.heap.size) :
 ∃ A2 c2 w',(Builtin.append_ #[46,46] ty #[.slice A n c,.slice (some ⟨b,0,none⟩) 1 1]).run Tryz.prog wx=.ok (.slice A2 (n+1) c2) w'∧OwnV w' base 3 A2 (n+1) c2 (vs++[.int .i64 z])∧Below base wx w'∧wx.grownBy w' (Value.slice A n c).ownBlock:=by
 obtain⟨i,hi,hz,hs,hby'⟩:=info_parts zk8;obtain⟨v',w',hrun,h1,h2,_,_⟩:=run_append_own_at (P:=Tryz.prog) wx base 46 ty 3 i (.int .i64 0) 1 8 Tryz.underlying46 hi hz hs hby' rfl (by omega) (.slice A n c) n vs ho ⟨b,0,none⟩ 1 1 [.int .i64 z] (by simp)
  (fun j u hu=>by
   cases j with
   | zero=>simp at hu;subst hu;rw[Addr.add_mid,Nat.add_zero];exact hb.cell 0
   | succ j=>simp at hu) (by simp[Value.oneCell']) (by unfold maxLen;omega) (by omega) hbase
 have hsh:∃ A2 c2,v'=.slice A2 (n+1) c2:=by
  rcases h1.2 with ⟨rfl,h0⟩|⟨g,cap,cur,rfl,_⟩
  ·rw[h0];exact⟨_,_,rfl⟩
  ·exact⟨_,_,rfl⟩
 obtain⟨A2,c2,rfl⟩:=hsh;exact⟨A2,c2,w',hrun,h1,(Below.refl _ _).grown h2 hbase (fun k hk=>(World.ownsRow.lt ho k hk).1),h2⟩
end
theorem zk2 (K:Int)(x:St3){c:Nat}(hc:c≠121):(zax K x c).1.body=x.1.body:=by
 unfold zax
 split
 ·show(zo x.1 c x.2.1 x.2.2).1.body=_
  unfold zo
  repeat (first|rfl|exact absurd ‹_› hc|split)
 ·rfl
theorem zqz (l:List Nat):(accS l 2).1.body=[]:=by
 rw[zaz (k:=1) (c:=116) rfl,zaz (k:=0) (c:=98) rfl,zk2 _ _ (by decide),zk2 _ _ (by decide)];rfl
theorem z09 (l:List Nat):(accS l 3).1.body=[]:=by
 rw[zaz (k:=2) (c:=105) rfl,zk2 _ _ (by decide),zqz]
theorem zq0 (g B e:Nat)(l:List Nat)(w:World)(h:RdR w g B l e)(hgB:B≤g) :
 Calls Tryz.prog 161 #[.pointer (some ⟨g,0,none⟩),.int .i64 60] w (GaveR (.int .i64 ((qu l e 60:Nat):Int)) g B (zh l e 8) (qs l e 60) w):=zx5 g B e 60 l w h hgB (by omega)
theorem z1a {w:World}{g B e:Nat}{l:List Nat}(h:RdR w g B l e):w.cell? ⟨g,1,none⟩=some (.int .i64 (e:Int)):=by
 obtain⟨A,n,c,hh,_⟩:=h;exact(cell_of_row w g 1 _ _ (0,0) hh).trans rfl
theorem EvFar.low {w:World}{base base':Nat}{H:Eh}(h:EvFar w base H)(hb:base'≤base):EvFar w base' H:=⟨h.inn,h.a1.imp fun b hx=>Nat.le_trans hb hx,h.a2.imp fun b hx=>Nat.le_trans hb hx,h.a3.imp fun b hx=>Nat.le_trans hb hx⟩
def ReadIs (l:List Nat)(g B:Nat)(w:World)(e:Ending)(w':World):Prop:=∃ H,e=.returned (.agg (evC H))∧H.e=(docS l).1∧EvFar w' w.heap.size H∧RdR w' g B (docS l).2.1 (docS l).2.2∧w.grownBy w' (some g)
theorem z1b (g B:Nat)(l:List Nat)(w:World)(hr:RdR w g B l 0)(hgB:B≤g)(hl:l.length≤140737488355328)(h256:∀ x∈l,x<256) :
 Calls Tryz.prog 97 #[.pointer (some ⟨g,0,none⟩)] w (ReadIs l g B w):=by
 have HL:=hiD hl;have H256:=hiD h256;have HGW:=hiD hr.lt;have HR:=hiD hr;clear hl h256 hr;go_enter Tryz.func97,Tryz.ntmps97
 go_wp2_with fail
 obtain⟨b2,hb2⟩:∃ b,b=w.heap.size:=⟨_,rfl⟩;obtain⟨b3,hb3⟩:∃ b,b=w.heap.size+1:=⟨_,rfl⟩
 have N:=hiD (show b2≠g∧g<b3∧B≤b3∧w.heap.size≤b3∧b2≠b3∧b2<b3∧w.heap.size=b2 from by
  have:=HGW.o
  omega)
 refine qb (fun W=>Bk W b2 50 (evC (ze 0 0))∧Bk W b3 50 (evC (ze 0 0))∧RdR W g B l 0∧w.grownBy W (some g)∧B≤W.heap.size) ⟨by rw[hb2];exact(Bk.new _ _ _).alloc _,by rw[hb3];exact Bk.new2 _ _ _ _,HR.o.belowE (((Below.refl _ _).alloc (Nat.le_refl _) _).alloc (by simp) _) HGW.o (by have:=HGW.o;omega),zc0 g (((Below.refl _ _).alloc (Nat.le_refl _) _).alloc (by simp) _),by have:=HGW.o;simp;omega⟩ ?_;rw[← hb3,← hb2];clear hb2 hb3 HR;rintro W ⟨k2,k3,kr,kg,kB⟩;have D:Hid (RdAt w g B b2 b3 (bare 0 0,l,0) (ze 0 0) W):=hiD { res:=k2,box:=k3,own1:=OwnV.nil,own2:=OwnK.nil zip,by3:=Bytes.nil,aw3:=Away.zero,sz:=⟨Nat.zero_le _,Nat.zero_le _,Nat.zero_le _⟩,nn:=⟨Nat.zero_le _,Nat.zero_le _⟩,val:=rfl,rd:=kr,grown:=kg };have KB:=hiD kB;clear k2 k3 kr kg kB;refine(zbu g B 0 l W D.o.rd hgB).mono ?_;rintro e w2 ⟨rfl,hs⟩;have D1:=hiD (D.o.call hs N.o.1 N.o.2.1)
 have KB1:=hiD (show B≤w2.heap.size from Nat.le_trans KB.o hs.2.size);have c0:w2.cell? ⟨b3,0,none⟩=some (.int .i64 0):=D1.o.box.cell 0;have f0:w2.frozen? ⟨b3,0,none⟩=false:=D1.o.box.frozen 0;have D2:Hid (RdAt w g B b2 b3 (bare (zm l) 0,zh l 0 8,numE l 0) (ze (zm l) 0) (w2.setCell ⟨b3,0,none⟩ (.int .i64 ((numV l 0:Nat):Int)))):=hiD (D1.o.put N.o.2.2.2.2.1 N.o.2.1 N.o.2.2.1 KB1.o N.o.2.2.2.1 rfl OwnV.nil (OwnK.nil zip) Bytes.nil Away.zero ⟨Nat.zero_le _,Nat.zero_le _,Nat.zero_le _⟩ ⟨Nat.zero_le _,Nat.zero_le _⟩ rfl rfl);have KB2:Hid (B≤(w2.setCell ⟨b3,0,none⟩ (.int .i64 ((numV l 0:Nat):Int))).heap.size):=hiD (Nat.le_trans KB1.o (qe _ _ _ _).size);clear hs D D1 KB KB1;go_wp2_with fail
 refine qb (fun W=>RdAt w g B b2 b3 (bare (zm l) 0,zh l 0 8,numE l 0) (ze (zm l) 0) W∧B≤W.heap.size) ⟨D2.o,KB2.o⟩ ?_;clear D2 KB2 c0 f0;rintro W3 ⟨d,kB⟩;have D:=hiD d;have KB:=hiD kB;clear d kB;refine(zbu g B _ _ W3 D.o.rd hgB).mono ?_;rintro e w4 ⟨rfl,hs⟩;have D1:Hid (RdAt w g B b2 b3 (bare (zm l) 0,jp l,zcj l) (ze (zm l) 0) w4):=hiD (D.o.call hs N.o.1 N.o.2.1);have KB1:=hiD (show B≤w4.heap.size from Nat.le_trans KB.o hs.2.size);obtain⟨v4,hv4⟩:∃ v,numV (zh l 0 8) (numE l 0)=v:=⟨_,rfl⟩;have HT:Hid (jq l=((v4:Nat):Int)):=hiD (by rw[← hv4];rfl);rw[hv4];have c0:w4.cell? ⟨b3,1,none⟩=some (.int .i64 0):=D1.o.box.cell 1;have f0:w4.frozen? ⟨b3,1,none⟩=false:=D1.o.box.frozen 1;have D2:Hid (RdAt w g B b2 b3 (bare (zm l) (jq l),jp l,zcj l) (ze (zm l) (jq l)) (w4.setCell ⟨b3,1,none⟩ (.int .i64 ((v4:Nat):Int)))):=hiD (D1.o.put N.o.2.2.2.2.1 N.o.2.1 N.o.2.2.1 KB1.o N.o.2.2.2.1 (by rw[HT.o];rfl) OwnV.nil (OwnK.nil zip) Bytes.nil Away.zero ⟨Nat.zero_le _,Nat.zero_le _,Nat.zero_le _⟩ ⟨Nat.zero_le _,Nat.zero_le _⟩ rfl rfl)
 have KB2:Hid (B≤(w4.setCell ⟨b3,1,none⟩ (.int .i64 ((v4:Nat):Int))).heap.size):=hiD (Nat.le_trans KB1.o (qe _ _ _ _).size);clear hs D D1 KB KB1 hv4;go_wp2_with (with_reducible refine stn 14 ?_)
 refine held (qk (fun W=>RdAt w g B b2 b3 (bare (zm l) (jq l),jp l,zcj l) (ze (zm l) (jq l)) W∧B≤W.heap.size) ⟨D2.o,KB2.o⟩ ?_);clear D2 KB2 c0 f0 HT;rintro W5 ⟨d,kB⟩;have D:=hiD d;have KB:=hiD kB;have c0:W5.cell? ⟨b3,0,none⟩=some (.int .i64 (zm l)):=d.box.cell 0;clear d kB;go_wp2_with fail
 refine(zk9 (zm l) W5).mono ?_;rintro e w' ⟨rfl,rfl⟩;obtain⟨be,hbe⟩:∃ be,decide (zg (zm l)=[])=be:=⟨_,rfl⟩;have he:(za (zg (zm l))).toList.isEmpty=be:=by rw[zeo];exact hbe
 have HE:Hid (zai l=jl (zcj l) be):=hiD (by rw[← hbe];rfl);clear hbe c0;go_wp2_with fail
 refine(zx6 g B _ be _ W5 D.o.rd hgB).mono ?_;rintro e w6 ⟨rfl,hs⟩;have D1:=hiD (D.o.call hs N.o.1 N.o.2.1);have KB1:=hiD (show B≤w6.heap.size from Nat.le_trans KB.o hs.2.size);rw[← HE.o] at D1;clear hs D KB HE he;have D:=D1;have KB:=KB1;clear D1 KB1;have c1:w6.cell? ⟨g,1,none⟩=some (.int .i64 ((zai l:Nat):Int)):=z1a D.o.rd;obtain⟨eh,heh⟩:∃ eh,zai l=eh:=⟨_,rfl⟩;rw[heh] at c1 D;by_cases h0:eh=0
 case neg =>
  have hne:(((eh:Nat):Int) != 0)=true:=by simpa using h0
  have HD:Hid (docS l=(bare 0 0,jp l,eh)):=hiD (by rw[← heh];exact if_neg (by rw[heh];exact h0));clear h0 heh;go_wp2_with (with_reducible refine st0 ?_)
  refine held (zi rfl 50 (.tmp 2) (.tmp 26) rfl b2 0 (evC (ze 0 0)) rfl rfl 50 _ D.o.res (by rw[zd];decide) (by rw[zd];exact zr) (zw _) ?_);intro w10 hw10;obtain rfl:=qa hw10 (by rw[zd]);go_wp2_with fail
  have hgr:=jy D.o.res (evC (ze 0 0));refine bodyPost_ret (qi (a:=⟨b2,0,none⟩) rfl rfl (Bk.ev (Bk.setRow_same D.o.res _))) rfl ⟨ze 0 0,rfl,by rw[HD.o];rfl,EvFar.bare _ _ _ _,by rw[HD.o];exact D.o.rd.grown hgr (by intro e;injection e with e;have:=N.o.1;omega) (fun k hk=>by cases hk;have:=N.o;have:=HGW.o;omega) KB.o,za0 D.o.grown (below_setRow (Below.refl _ _) (by rw[N.o.2.2.2.2.2.2];exact Nat.le_refl _) _)⟩
 case pos =>
 subst h0;have HDS:Hid (docS l=accS l 9):=hiD (z02 heh);have D0:Hid (∃ H,RdAt w g B b2 b3 (accS l 0) H w6):=hiD ⟨_,D.o⟩;clear D heh;generalize w6=W2 at *;obtain⟨H,hd⟩:=D0.o;have D:=hiD hd;clear hd D0;replace c1:=c1;obtain⟨b98,hb98⟩:∃ b,decide (98∈zg (zm l))=b:=⟨_,rfl⟩;have CP:Hid (Calls Tryz.prog 70 #[.string (za (zg (zm l))),.int .u8 98] W2 fun e w'=>e=.returned (.bool b98)∧W2=w'):=hiD (by rw[← hb98];exact zaj (zm l) 98 W2);have HBB:=hiD hb98;clear hb98;go_wp2_with fail
 refine CP.o.mono ?_;rintro e w' ⟨rfl,rfl⟩;clear CP
 go_upto_if 28 with (fail)
 go_cut [] (fun wx=>(∃ H,RdAt w g B b2 b3 (accS l 1) H wx)∧B≤wx.heap.size)
 case first =>
  have HNX:=hiD (zaz (l:=l) (k:=0) (c:=98) rfl);cases b98
  ·have HA:Hid (accS l 1=accS l 0):=hiD (by rw[HNX.o,zdk HBB.o])
   go_wp2_with fail
   go_meet;exact⟨⟨H,by rw[HA.o];exact D.o⟩,KB.o⟩
  ·have HA:Hid (accS l 1=zo (accS l 0).1 98 (accS l 0).2.1 (accS l 0).2.2):=hiD (by rw[HNX.o,zdj HBB.o])
   have HS2:Hid ((accS l 0).2.1.length≤140737488355328∧∀ y∈(accS l 0).2.1,y<256):=hiD ⟨Nat.le_trans (zdm l 0) HL.o,zdl H256.o 0⟩;obtain⟨X,hX⟩:∃ X,accS l 0=X:=⟨_,rfl⟩;rw[hX] at D HA HS2;clear hX;go_wp2_with fail
   refine(zj3 g B _ _ W2 D.o.rd hgB HS2.o.2).mono ?_;rintro e w3 ⟨rfl,hs⟩;have D1:=hiD (D.o.call hs N.o.1 N.o.2.1);have KB1:=hiD (show B≤w3.heap.size from Nat.le_trans KB.o hs.2.size);have c0:w3.cell? ⟨b3,2,none⟩=some (.string H.e.box):=D1.o.box.cell 2;have f0:w3.frozen? ⟨b3,2,none⟩=false:=D1.o.box.frozen 2;have D2:Hid (RdAt w g B b2 b3 (zo X.1 98 X.2.1 X.2.2) { H with e:={ H.e with box:=za (zl X.2.1 X.2.2) } } (w3.setCell ⟨b3,2,none⟩ (.string (za (zl X.2.1 X.2.2))))):=hiD (D1.o.put N.o.2.2.2.2.1 N.o.2.1 N.o.2.2.1 KB1.o N.o.2.2.2.1 rfl D1.o.own1 D1.o.own2 D1.o.by3 D1.o.aw3 ⟨D1.o.sz.1,zfn _ _ HS2.o.1,D1.o.sz.2.2⟩ D1.o.nn (congrArg (fun e:Ev=>({ e with box:=za (zl X.2.1 X.2.2) }:Ev)) D.o.val) rfl);have KB2:Hid (B≤(w3.setCell ⟨b3,2,none⟩ (.string (za (zl X.2.1 X.2.2)))).heap.size):=hiD (Nat.le_trans KB1.o (qe _ _ _ _).size)
   clear hs D1 KB1 D;go_wp2_with fail
   go_meet;exact⟨⟨_,by rw[HA.o];exact D2.o⟩,KB2.o⟩
 case rest =>
 obtain⟨⟨H2,hd⟩,hB⟩:=hcut;clear D HBB KB;generalize wc=W2 at *;have D:=hiD hd;have KB:=hiD hB;clear hd hB H
 rename Eh=>H
 obtain⟨b116,hb116⟩:∃ b,decide (116∈zg (zm l))=b:=⟨_,rfl⟩;have CP:Hid (Calls Tryz.prog 70 #[.string (za (zg (zm l))),.int .u8 116] W2 fun e w'=>e=.returned (.bool b116)∧W2=w'):=hiD (by rw[← hb116];exact zaj (zm l) 116 W2);have HBB:=hiD hb116;clear hb116;go_wp2_with fail
 refine CP.o.mono ?_;rintro e w' ⟨rfl,rfl⟩;clear CP
 go_upto_if 33 with (fail)
 go_cut [] (fun wx=>(∃ H,RdAt w g B b2 b3 (accS l 2) H wx)∧B≤wx.heap.size)
 case first =>
  have HNX:=hiD (zaz (l:=l) (k:=1) (c:=116) rfl);cases b116
  ·have HA:Hid (accS l 2=accS l 1):=hiD (by rw[HNX.o,zdk HBB.o])
   go_wp2_with fail
   go_meet;exact⟨⟨H,by rw[HA.o];exact D.o⟩,KB.o⟩
  ·have HA:Hid (accS l 2=zo (accS l 1).1 116 (accS l 1).2.1 (accS l 1).2.2):=hiD (by rw[HNX.o,zdj HBB.o])
   have HS2:Hid ((accS l 1).2.1.length≤140737488355328∧∀ y∈(accS l 1).2.1,y<256):=hiD ⟨Nat.le_trans (zdm l 1) HL.o,zdl H256.o 1⟩;obtain⟨X,hX⟩:∃ X,accS l 1=X:=⟨_,rfl⟩;rw[hX] at D HA HS2;clear hX;go_wp2_with fail
   refine(zj3 g B _ _ W2 D.o.rd hgB HS2.o.2).mono ?_;rintro e w3 ⟨rfl,hs⟩;have D1:=hiD (D.o.call hs N.o.1 N.o.2.1);have KB1:=hiD (show B≤w3.heap.size from Nat.le_trans KB.o hs.2.size);have c0:w3.cell? ⟨b3,3,none⟩=some (.string H.e.to_):=D1.o.box.cell 3;have f0:w3.frozen? ⟨b3,3,none⟩=false:=D1.o.box.frozen 3;have D2:Hid (RdAt w g B b2 b3 (zo X.1 116 X.2.1 X.2.2) { H with e:={ H.e with to_:=za (zl X.2.1 X.2.2) } } (w3.setCell ⟨b3,3,none⟩ (.string (za (zl X.2.1 X.2.2))))):=hiD (D1.o.put N.o.2.2.2.2.1 N.o.2.1 N.o.2.2.1 KB1.o N.o.2.2.2.1 rfl D1.o.own1 D1.o.own2 D1.o.by3 D1.o.aw3 ⟨D1.o.sz.1,D1.o.sz.2.1,zfn _ _ HS2.o.1⟩ D1.o.nn (congrArg (fun e:Ev=>({ e with to_:=za (zl X.2.1 X.2.2) }:Ev)) D.o.val) rfl);have KB2:Hid (B≤(w3.setCell ⟨b3,3,none⟩ (.string (za (zl X.2.1 X.2.2)))).heap.size):=hiD (Nat.le_trans KB1.o (qe _ _ _ _).size)
   clear hs D1 KB1 D;go_wp2_with fail
   go_meet;exact⟨⟨_,by rw[HA.o];exact D2.o⟩,KB2.o⟩
 case rest =>
 obtain⟨⟨H2,hd⟩,hB⟩:=hcut;clear D HBB KB;generalize wc=W2 at *;have D:=hiD hd;have KB:=hiD hB;clear hd hB H
 rename Eh=>H
 obtain⟨b105,hb105⟩:∃ b,decide (105∈zg (zm l))=b:=⟨_,rfl⟩;have CP:Hid (Calls Tryz.prog 70 #[.string (za (zg (zm l))),.int .u8 105] W2 fun e w'=>e=.returned (.bool b105)∧W2=w'):=hiD (by rw[← hb105];exact zaj (zm l) 105 W2);have HBB:=hiD hb105;clear hb105;go_wp2_with fail
 refine CP.o.mono ?_;rintro e w' ⟨rfl,rfl⟩;clear CP
 go_upto_if 38 with (fail)
 go_cut [] (fun wx=>(∃ H,RdAt w g B b2 b3 (accS l 3) H wx)∧B≤wx.heap.size)
 case first =>
  have HNX:=hiD (zaz (l:=l) (k:=2) (c:=105) rfl);cases b105
  ·have HA:Hid (accS l 3=accS l 2):=hiD (by rw[HNX.o,zdk HBB.o])
   go_wp2_with fail
   go_meet;exact⟨⟨H,by rw[HA.o];exact D.o⟩,KB.o⟩
  ·have HA:Hid (accS l 3=zo (accS l 2).1 105 (accS l 2).2.1 (accS l 2).2.2):=hiD (by rw[HNX.o,zdj HBB.o])
   have HS2:Hid ((accS l 2).2.1.length≤140737488355328∧∀ y∈(accS l 2).2.1,y<256):=hiD ⟨Nat.le_trans (zdm l 2) HL.o,zdl H256.o 2⟩;obtain⟨X,hX⟩:∃ X,accS l 2=X:=⟨_,rfl⟩;rw[hX] at D HA HS2;have HEMP:Hid (X.1.ids=[]∧X.1.body=[]):=hiD (by rw[← hX];exact⟨z07 l,zqz l⟩);clear hX;have hm60:=zii X.2.1 X.2.2;obtain⟨m,hm⟩:∃ m,qu X.2.1 X.2.2 60=m:=⟨_,rfl⟩;obtain⟨l0,hl0⟩:∃ q,zh X.2.1 X.2.2 8=q:=⟨_,rfl⟩;obtain⟨e0,he0⟩:∃ q,qs X.2.1 X.2.2 60=q:=⟨_,rfl⟩;have HA2:Hid (accS l 3=({ X.1 with ids:=(rdI m l0 e0).1 },(rdI m l0 e0).2)):=hiD (by rw[HA.o,← hm,← hl0,← he0];rfl);have CC:=hiD (zq0 g B _ _ W2 D.o.rd hgB);rw[hm,hl0,he0] at CC;rw[hm] at hm60;clear hm hl0 he0 HA;go_wp2_with fail
   refine CC.o.mono ?_;rintro e w3 ⟨rfl,hs⟩;have KB1:=hiD (show B≤w3.heap.size from Nat.le_trans KB.o hs.2.size)
   have D1:Hid (RdAt w g B b2 b3 ({ X.1 with ids:=(rdI 0 l0 e0).1 },(rdI 0 l0 e0).2) H w3):=hiD (by
    have d:=D.o.call hs N.o.1 N.o.2.1;have e:({ X.1 with ids:=[] }:Ev)=X.1:=by rw[← HEMP.o.1]
    show RdAt w g B b2 b3 (({ X.1 with ids:=[] }:Ev),l0,e0) H w3
    rw[e]
    exact d)
   clear hs D CC KB;go_wp2_with fail
   go_loopw [5] (fun i wx=>∃ (k jj:Nat) (H:Eh),k+jj=m∧i=.int .i64 (jj:Int)∧RdAt w g B b2 b3 ({ X.1 with ids:=(rdI k l0 e0).1 },(rdI k l0 e0).2) H wx∧B≤wx.heap.size) (fun i _=>(intOf i).toNat)
   case atStart=>exact⟨0,m,H,Nat.zero_add _,rfl,D1.o,KB1.o⟩
   case round =>
    clear H D1 KB1;obtain⟨k,jj,H,hkj,rfl,hd,hB⟩:=hrel;have D:=hiD hd;have KB:=hiD hB;clear hd hB;rcases Nat.eq_zero_or_pos jj with hj0|hjp
    ·subst hj0
     obtain rfl:k=m:=hkj;go_wp2_with fail
     go_meet;exact⟨⟨H,by rw[HA2.o];exact D.o⟩,KB.o⟩
    ·obtain⟨j',rfl⟩:∃ j',jj=j'+1:=⟨jj - 1,by omega⟩
     have hjg:(0:Int)<((j'+1:Nat):Int):=by omega
     have hjg':(0:Int)<(j':Int)+1:=by omega
     have hlen:H.n1=k:=by
      have h1:=OwnV.len D.o.own1;rw[D.o.val,List.length_map] at h1;have h2:=zpu l0 e0 k;exact h1.symm.trans h2
     have hNk:H.n1≤59:=by omega
     have HNK:=hiD hlen;have hn3:H.n3=0:=by
      have h1:=D.o.by3.1;have h2:H.e.body=[]:=by rw[D.o.val];exact HEMP.o.2
      rw[h2] at h1;exact h1.symm
     have HN3:=hiD hn3;clear hlen hn3;obtain⟨q,hq⟩:∃ q,k=q:=⟨_,rfl⟩;subst hq;obtain⟨lk,hlk⟩:∃ z,(rdI k l0 e0).2.1=z:=⟨_,rfl⟩;obtain⟨ek,hek⟩:∃ z,(rdI k l0 e0).2.2=z:=⟨_,rfl⟩;have HSK:Hid ((rdI (k+1) l0 e0).1=(rdI k l0 e0).1++[((numV lk ek:Nat):Int)]∧(rdI (k+1) l0 e0).2=(zh lk ek 8,numE lk ek)):=hiD (by rw[← hlk,← hek];exact⟨rfl,rfl⟩);have hrd:RdR wr g B lk ek:=by rw[← hlk,← hek];exact D.o.rd
     have HRD:=hiD hrd;have HV:Hid (H.e={ X.1 with ids:=(rdI k l0 e0).1 }):=hiD D.o.val;clear hlk hek hrd;have HG0:Hid (w.heap.size≤wr.heap.size):=hiD D.o.grown.size;go_wp2_with fail
     refine wp_region_held_drew (S:=fun _=>True) (by kernel_rfl) trivial (fun qch=>?_);simp only[List.size_toArray,List.length_cons,List.length_nil,Nat.reduceAdd];refine tks (i:=0) (v:=.pointer (some ⟨b3,4,none⟩)) (s:=qch) (h:=?_);try simp only[nm0]
     refine tks (i:=2) (v:=.pointer (some ⟨g,0,none⟩)) (s:=qch) (h:=?_);try simp only[nm0]
     obtain⟨V0,hV0⟩:∃ V,V=wr.drew:=⟨_,rfl⟩
     have E:Hid (RdAt w g B b2 b3 ({ X.1 with ids:=(rdI k l0 e0).1 },lk,ek) H V0∧B≤V0.heap.size):=hiD (by
      have d:=D.o.below (Below.refl _ _).drew KB.o HG0.o;rw[hV0]
      exact⟨{ d with rd:=HRD.o.belowE (Below.refl _ _).drew HRD.o.lt (Nat.le_trans KB.o (Nat.le_refl _)) },KB.o⟩)
     rw[← hV0];clear hV0 HRD;obtain⟨v,hv⟩:∃ v,numV lk ek=v:=⟨_,rfl⟩;rw[hv] at HSK;have HNV:=hiD hv;clear hv;refine rd2 (r:=1) (s:=3) (h:=fun K hK=>?_) (k:=fun K hK=>?_)
     ·have d0:V0.cell? ⟨b3,4,none⟩=some (.slice H.A1 H.n1 H.c1):=E.o.1.box.cell 4
      go_wp2_with fail
      clear d0;refine bkk hK trivial fun qch=>?_;clear hK K;try simp only[nm0]
      refine rd1 (r:=3) (h:=fun K hK=>?_);go_wp2_with fail
      refine(zbu g B ek lk V0 E.o.1.rd hgB).mono ?_;rintro e V1 ⟨rfl,hs⟩;rw[HNV.o];have E1:Hid (RdAt w g B b2 b3 ({ X.1 with ids:=(rdI k l0 e0).1 },zh lk ek 8,numE lk ek) H V1∧B≤V1.heap.size):=hiD ⟨E.o.1.call hs N.o.1 N.o.2.1,Nat.le_trans E.o.2 hs.2.size⟩;clear hs E;have E:=E1;clear E1;refine bkk hK trivial fun qch=>?_;clear hK K;try simp only[nm0]
      refine rd1 (r:=4) (h:=fun K hK=>?_);go_wp2_with fail
      have Z0:Hid (b3+1≤V1.heap.size):=hiD E.o.1.box.lt;refine jg (fun W=>(RdAt w g B b2 b3 ({ X.1 with ids:=(rdI k l0 e0).1 },zh lk ek 8,numE lk ek) H W∧B≤W.heap.size)∧Bk W V1.heap.size 3 #[.int .i64 (v:Int)]∧b3+1≤W.heap.size) ⟨⟨E.o.1.below ((Below.refl _ _).alloc (Nat.le_refl _) _) E.o.2 E.o.1.grown.size,by have:=E.o.2;simp;omega⟩,Bk.new _ _ _,by have:=Z0.o;simp;omega⟩ ?_;obtain⟨bn,hbn⟩:∃ bn,bn=V1.heap.size:=⟨_,rfl⟩;rw[← hbn];clear hbn E Z0;rintro V2 ⟨eE,eB,eZ⟩;have E:=hiD eE;have BN:=hiD eB;have Z:=hiD eZ;clear eE eB eZ;refine bkk hK trivial fun qch=>?_;clear hK K;try simp only[nm0]
      obtain⟨A4,c4,V3,hrun,ho4,hb4,hg4⟩:=zk1 E.o.1.own1 46 bn (v:Int) BN.o (by omega) Z.o
      have UO:Hid (OwnV V3 (b3+1) 3 A4 (H.n1+1) c4 ((rdI (k+1) l0 e0).1.map ints)):=hiD (by
       have h1:H.e.ids=(rdI k l0 e0).1:=by rw[HV.o]
       rw[HSK.o.1,List.map_append,← h1]
       exact ho4)
      have UK:Hid (OwnK 2 rgC V3 (b3+1) 114 H.A2 H.n2 H.c2 H.e.set):=hiD ⟨E.o.1.own2.1.kept hg4 (zk0 E.o.1.own1 E.o.1.own2),E.o.1.own2.2⟩;have U2:=hiD (E.o.1.res.below hb4 (by have:=N.o;omega));have U3:=hiD (E.o.1.box.below hb4 (Nat.lt_succ_self _));have UR:=hiD (E.o.1.rd.belowE hb4 (by have:=N.o;omega) (by have:=N.o;omega));have UG:=hiD (za0 E.o.1.grown (hb4.mono (by have:=N.o;omega)));have UB:Hid (B≤V3.heap.size):=hiD (Nat.le_trans E.o.2 hb4.size);have HRUN:=hiD hrun;clear hrun ho4 hb4 hg4;refine rd1 (r:=5) (h:=fun K hK=>?_);refine jv (s:=.tmp 46) (x:=.tmp 49) rfl rfl rfl HRUN.o ?_;refine bkk hK trivial fun qch=>?_;clear hK K;try simp only[nm0]
      clear HRUN BN;refine tks (i:=6) (v:=.pointer (some ⟨b3,4,none⟩)) (s:=qch) (h:=?_);try simp only[nm0]
      have c0:V3.cell? ⟨b3,4,none⟩=some (.slice H.A1 H.n1 H.c1):=U3.o.cell 4;have f0:V3.frozen? ⟨b3,4,none⟩=false:=U3.o.frozen 4
      have D2:Hid (RdAt w g B b2 b3 ({ X.1 with ids:=(rdI (k+1) l0 e0).1 },(rdI (k+1) l0 e0).2) { H with e:={ H.e with ids:=(rdI (k+1) l0 e0).1 },A1:=A4,n1:=H.n1+1,c1:=c4 } (V3.setCell ⟨b3,4,none⟩ (.slice A4 (H.n1+1) c4))):=hiD (RdAt.mk_put U2.o U3.o (by rw[HSK.o.2];exact UR.o) UG.o N.o.2.2.2.2.1 N.o.2.1 N.o.2.2.1 UB.o N.o.2.2.2.1 rfl UO.o UK.o (by
       have h2:H.e.body=[]:=by rw[HV.o];exact HEMP.o.2
       show Bytes V3 V3.heap.size H.A3 H.n3 H.e.body
       rw[h2,HN3.o]
       exact Bytes.nil) E.o.1.aw3 E.o.1.sz ⟨by show H.n1+1≤60;omega,E.o.1.nn.2⟩ (by have h9:=congrArg (fun e:Ev=>({ e with ids:=(rdI (k+1) l0 e0).1 }:Ev)) HV.o;exact h9))
      have KB4:Hid (B≤(V3.setCell ⟨b3,4,none⟩ (.slice A4 (H.n1+1) c4)).heap.size):=hiD (Nat.le_trans UB.o (qe _ _ _ _).size);clear E U2 UO UK UR UG UB;refine rd1 (r:=7) (h:=fun K hK=>?_);go_wp2_with fail
      refine bkk hK trivial fun qch=>?_;clear hK K;try simp only[nm0]
      refine wpAnyH_done (by kernel_rfl) ?_ _;go_wp2_with fail
      go_roundw
      case rel=>exact⟨k+1,j',_,by omega,by go_num,D2.o,KB4.o⟩
      case measure=>simp[intOf]
     ·go_wp2_with fail
      refine(zbu g B ek lk V0 E.o.1.rd hgB).mono ?_;rintro e V1 ⟨rfl,hs⟩;rw[HNV.o];have E1:Hid (RdAt w g B b2 b3 ({ X.1 with ids:=(rdI k l0 e0).1 },zh lk ek 8,numE lk ek) H V1∧B≤V1.heap.size):=hiD ⟨E.o.1.call hs N.o.1 N.o.2.1,Nat.le_trans E.o.2 hs.2.size⟩;clear hs E;have E:=E1;clear E1;refine bkk hK trivial fun qch=>?_;clear hK K;try simp only[nm0]
      refine rd2 (r:=1) (s:=4) (h:=fun K hK=>?_) (k:=fun K hK=>?_)
      ·have d0:V1.cell? ⟨b3,4,none⟩=some (.slice H.A1 H.n1 H.c1):=E.o.1.box.cell 4
       go_wp2_with fail
       clear d0;refine bkk hK trivial fun qch=>?_;clear hK K;try simp only[nm0]
       refine rd1 (r:=4) (h:=fun K hK=>?_);go_wp2_with fail
       have Z0:Hid (b3+1≤V1.heap.size):=hiD E.o.1.box.lt;refine jg (fun W=>(RdAt w g B b2 b3 ({ X.1 with ids:=(rdI k l0 e0).1 },zh lk ek 8,numE lk ek) H W∧B≤W.heap.size)∧Bk W V1.heap.size 3 #[.int .i64 (v:Int)]∧b3+1≤W.heap.size) ⟨⟨E.o.1.below ((Below.refl _ _).alloc (Nat.le_refl _) _) E.o.2 E.o.1.grown.size,by have:=E.o.2;simp;omega⟩,Bk.new _ _ _,by have:=Z0.o;simp;omega⟩ ?_;obtain⟨bn,hbn⟩:∃ bn,bn=V1.heap.size:=⟨_,rfl⟩;rw[← hbn];clear hbn E Z0;rintro V2 ⟨eE,eB,eZ⟩;have E:=hiD eE;have BN:=hiD eB;have Z:=hiD eZ;clear eE eB eZ;refine bkk hK trivial fun qch=>?_;clear hK K;try simp only[nm0]
       obtain⟨A4,c4,V3,hrun,ho4,hb4,hg4⟩:=zk1 E.o.1.own1 46 bn (v:Int) BN.o (by omega) Z.o
       have UO:Hid (OwnV V3 (b3+1) 3 A4 (H.n1+1) c4 ((rdI (k+1) l0 e0).1.map ints)):=hiD (by
        have h1:H.e.ids=(rdI k l0 e0).1:=by rw[HV.o]
        rw[HSK.o.1,List.map_append,← h1]
        exact ho4)
       have UK:Hid (OwnK 2 rgC V3 (b3+1) 114 H.A2 H.n2 H.c2 H.e.set):=hiD ⟨E.o.1.own2.1.kept hg4 (zk0 E.o.1.own1 E.o.1.own2),E.o.1.own2.2⟩;have U2:=hiD (E.o.1.res.below hb4 (by have:=N.o;omega));have U3:=hiD (E.o.1.box.below hb4 (Nat.lt_succ_self _));have UR:=hiD (E.o.1.rd.belowE hb4 (by have:=N.o;omega) (by have:=N.o;omega));have UG:=hiD (za0 E.o.1.grown (hb4.mono (by have:=N.o;omega)));have UB:Hid (B≤V3.heap.size):=hiD (Nat.le_trans E.o.2 hb4.size);have HRUN:=hiD hrun;clear hrun ho4 hb4 hg4;refine rd1 (r:=5) (h:=fun K hK=>?_);refine jv (s:=.tmp 46) (x:=.tmp 49) rfl rfl rfl HRUN.o ?_;refine bkk hK trivial fun qch=>?_;clear hK K;try simp only[nm0]
       clear HRUN BN;refine tks (i:=6) (v:=.pointer (some ⟨b3,4,none⟩)) (s:=qch) (h:=?_);try simp only[nm0]
       have c0:V3.cell? ⟨b3,4,none⟩=some (.slice H.A1 H.n1 H.c1):=U3.o.cell 4;have f0:V3.frozen? ⟨b3,4,none⟩=false:=U3.o.frozen 4
       have D2:Hid (RdAt w g B b2 b3 ({ X.1 with ids:=(rdI (k+1) l0 e0).1 },(rdI (k+1) l0 e0).2) { H with e:={ H.e with ids:=(rdI (k+1) l0 e0).1 },A1:=A4,n1:=H.n1+1,c1:=c4 } (V3.setCell ⟨b3,4,none⟩ (.slice A4 (H.n1+1) c4))):=hiD (RdAt.mk_put U2.o U3.o (by rw[HSK.o.2];exact UR.o) UG.o N.o.2.2.2.2.1 N.o.2.1 N.o.2.2.1 UB.o N.o.2.2.2.1 rfl UO.o UK.o (by
        have h2:H.e.body=[]:=by rw[HV.o];exact HEMP.o.2
        show Bytes V3 V3.heap.size H.A3 H.n3 H.e.body
        rw[h2,HN3.o]
        exact Bytes.nil) E.o.1.aw3 E.o.1.sz ⟨by show H.n1+1≤60;omega,E.o.1.nn.2⟩ (by have h9:=congrArg (fun e:Ev=>({ e with ids:=(rdI (k+1) l0 e0).1 }:Ev)) HV.o;exact h9))
       have KB4:Hid (B≤(V3.setCell ⟨b3,4,none⟩ (.slice A4 (H.n1+1) c4)).heap.size):=hiD (Nat.le_trans UB.o (qe _ _ _ _).size);clear E U2 UO UK UR UG UB;refine rd1 (r:=7) (h:=fun K hK=>?_);go_wp2_with fail
       refine bkk hK trivial fun qch=>?_;clear hK K;try simp only[nm0]
       refine wpAnyH_done (by kernel_rfl) ?_ _;go_wp2_with fail
       go_roundw
       case rel=>exact⟨k+1,j',_,by omega,by go_num,D2.o,KB4.o⟩
       case measure=>simp[intOf]
      ·go_wp2_with fail
       have Z0:Hid (b3+1≤V1.heap.size):=hiD E.o.1.box.lt;refine jg (fun W=>(RdAt w g B b2 b3 ({ X.1 with ids:=(rdI k l0 e0).1 },zh lk ek 8,numE lk ek) H W∧B≤W.heap.size)∧Bk W V1.heap.size 3 #[.int .i64 (v:Int)]∧b3+1≤W.heap.size) ⟨⟨E.o.1.below ((Below.refl _ _).alloc (Nat.le_refl _) _) E.o.2 E.o.1.grown.size,by have:=E.o.2;simp;omega⟩,Bk.new _ _ _,by have:=Z0.o;simp;omega⟩ ?_;obtain⟨bn,hbn⟩:∃ bn,bn=V1.heap.size:=⟨_,rfl⟩;rw[← hbn];clear hbn E Z0;rintro V2 ⟨eE,eB,eZ⟩;have E:=hiD eE;have BN:=hiD eB;have Z:=hiD eZ;clear eE eB eZ;refine bkk hK trivial fun qch=>?_;clear hK K;try simp only[nm0]
       refine rd1 (r:=1) (h:=fun K hK=>?_);have d0:V2.cell? ⟨b3,4,none⟩=some (.slice H.A1 H.n1 H.c1):=E.o.1.box.cell 4;go_wp2_with fail
       clear d0;refine bkk hK trivial fun qch=>?_;clear hK K;try simp only[nm0]
       obtain⟨A4,c4,V3,hrun,ho4,hb4,hg4⟩:=zk1 E.o.1.own1 46 bn (v:Int) BN.o (by omega) Z.o
       have UO:Hid (OwnV V3 (b3+1) 3 A4 (H.n1+1) c4 ((rdI (k+1) l0 e0).1.map ints)):=hiD (by
        have h1:H.e.ids=(rdI k l0 e0).1:=by rw[HV.o]
        rw[HSK.o.1,List.map_append,← h1]
        exact ho4)
       have UK:Hid (OwnK 2 rgC V3 (b3+1) 114 H.A2 H.n2 H.c2 H.e.set):=hiD ⟨E.o.1.own2.1.kept hg4 (zk0 E.o.1.own1 E.o.1.own2),E.o.1.own2.2⟩;have U2:=hiD (E.o.1.res.below hb4 (by have:=N.o;omega));have U3:=hiD (E.o.1.box.below hb4 (Nat.lt_succ_self _));have UR:=hiD (E.o.1.rd.belowE hb4 (by have:=N.o;omega) (by have:=N.o;omega));have UG:=hiD (za0 E.o.1.grown (hb4.mono (by have:=N.o;omega)));have UB:Hid (B≤V3.heap.size):=hiD (Nat.le_trans E.o.2 hb4.size);have HRUN:=hiD hrun;clear hrun ho4 hb4 hg4;refine rd1 (r:=5) (h:=fun K hK=>?_);refine jv (s:=.tmp 46) (x:=.tmp 49) rfl rfl rfl HRUN.o ?_;refine bkk hK trivial fun qch=>?_;clear hK K;try simp only[nm0]
       clear HRUN BN;refine tks (i:=6) (v:=.pointer (some ⟨b3,4,none⟩)) (s:=qch) (h:=?_);try simp only[nm0]
       have c0:V3.cell? ⟨b3,4,none⟩=some (.slice H.A1 H.n1 H.c1):=U3.o.cell 4;have f0:V3.frozen? ⟨b3,4,none⟩=false:=U3.o.frozen 4
       have D2:Hid (RdAt w g B b2 b3 ({ X.1 with ids:=(rdI (k+1) l0 e0).1 },(rdI (k+1) l0 e0).2) { H with e:={ H.e with ids:=(rdI (k+1) l0 e0).1 },A1:=A4,n1:=H.n1+1,c1:=c4 } (V3.setCell ⟨b3,4,none⟩ (.slice A4 (H.n1+1) c4))):=hiD (RdAt.mk_put U2.o U3.o (by rw[HSK.o.2];exact UR.o) UG.o N.o.2.2.2.2.1 N.o.2.1 N.o.2.2.1 UB.o N.o.2.2.2.1 rfl UO.o UK.o (by
        have h2:H.e.body=[]:=by rw[HV.o];exact HEMP.o.2
        show Bytes V3 V3.heap.size H.A3 H.n3 H.e.body
        rw[h2,HN3.o]
        exact Bytes.nil) E.o.1.aw3 E.o.1.sz ⟨by show H.n1+1≤60;omega,E.o.1.nn.2⟩ (by have h9:=congrArg (fun e:Ev=>({ e with ids:=(rdI (k+1) l0 e0).1 }:Ev)) HV.o;exact h9))
       have KB4:Hid (B≤(V3.setCell ⟨b3,4,none⟩ (.slice A4 (H.n1+1) c4)).heap.size):=hiD (Nat.le_trans UB.o (qe _ _ _ _).size);clear E U2 UO UK UR UG UB;refine rd1 (r:=7) (h:=fun K hK=>?_);go_wp2_with fail
       refine bkk hK trivial fun qch=>?_;clear hK K;try simp only[nm0]
       refine wpAnyH_done (by kernel_rfl) ?_ _;go_wp2_with fail
       go_roundw
       case rel=>exact⟨k+1,j',_,by omega,by go_num,D2.o,KB4.o⟩
       case measure=>simp[intOf]
 case rest =>
 obtain⟨⟨H2,hd⟩,hB⟩:=hcut;clear D HBB KB;generalize wc=W2 at *;have D:=hiD hd;have KB:=hiD hB;clear hd hB H
 rename Eh=>H
 obtain⟨b115,hb115⟩:∃ b,decide (115∈zg (zm l))=b:=⟨_,rfl⟩;have CP:Hid (Calls Tryz.prog 70 #[.string (za (zg (zm l))),.int .u8 115] W2 fun e w'=>e=.returned (.bool b115)∧W2=w'):=hiD (by rw[← hb115];exact zaj (zm l) 115 W2);have HBB:=hiD hb115;clear hb115;go_wp2_with fail
 refine CP.o.mono ?_;rintro e w' ⟨rfl,rfl⟩;clear CP
 go_upto_if 53 with (fail)
 go_cut [] (fun wx=>(∃ H,RdAt w g B b2 b3 (accS l 4) H wx)∧B≤wx.heap.size)
 case first =>
  have HNX:=hiD (zaz (l:=l) (k:=3) (c:=115) rfl);cases b115
  ·have HA:Hid (accS l 4=accS l 3):=hiD (by rw[HNX.o,zdk HBB.o])
   go_wp2_with fail
   go_meet;exact⟨⟨H,by rw[HA.o];exact D.o⟩,KB.o⟩
  ·have HA:Hid (accS l 4=zo (accS l 3).1 115 (accS l 3).2.1 (accS l 3).2.2):=hiD (by rw[HNX.o,zdj HBB.o])
   have HS2:Hid ((accS l 3).2.1.length≤140737488355328∧∀ y∈(accS l 3).2.1,y<256):=hiD ⟨Nat.le_trans (zdm l 3) HL.o,zdl H256.o 3⟩;obtain⟨X,hX⟩:∃ X,accS l 3=X:=⟨_,rfl⟩;rw[hX] at D HA HS2;have HEMP:Hid (X.1.set=[]∧X.1.body=[]):=hiD (by rw[← hX];exact⟨z08 l,z09 l⟩);clear hX;have hm60:=zii X.2.1 X.2.2;obtain⟨m,hm⟩:∃ m,qu X.2.1 X.2.2 60=m:=⟨_,rfl⟩;obtain⟨l0,hl0⟩:∃ q,zh X.2.1 X.2.2 8=q:=⟨_,rfl⟩;obtain⟨e0,he0⟩:∃ q,qs X.2.1 X.2.2 60=q:=⟨_,rfl⟩;have HA2:Hid (accS l 4=({ X.1 with set:=rdS m l0 e0 },(rdI (2*m) l0 e0).2)):=hiD (by rw[HA.o,← hm,← hl0,← he0];rfl);have CC:=hiD (zq0 g B _ _ W2 D.o.rd hgB);rw[hm,hl0,he0] at CC;rw[hm] at hm60;clear hm hl0 he0 HA;go_wp2_with fail
   refine CC.o.mono ?_;rintro e w3 ⟨rfl,hs⟩;have KB1:=hiD (show B≤w3.heap.size from Nat.le_trans KB.o hs.2.size)
   have D1:Hid (RdAt w g B b2 b3 ({ X.1 with set:=rdS 0 l0 e0 },(rdI (2*0) l0 e0).2) H w3):=hiD (by
    have d:=D.o.call hs N.o.1 N.o.2.1;have e:({ X.1 with set:=[] }:Ev)=X.1:=by rw[← HEMP.o.1]
    show RdAt w g B b2 b3 (({ X.1 with set:=[] }:Ev),l0,e0) H w3
    rw[e]
    exact d)
   clear hs D CC KB;go_wp2_with fail
   go_loopw [6] (fun i wx=>∃ (k jj:Nat) (H:Eh),k+jj=m∧i=.int .i64 (jj:Int)∧RdAt w g B b2 b3 ({ X.1 with set:=rdS k l0 e0 },(rdI (2*k) l0 e0).2) H wx∧B≤wx.heap.size) (fun i _=>(intOf i).toNat)
   case atStart=>exact⟨0,m,H,Nat.zero_add _,rfl,D1.o,KB1.o⟩
   case round =>
    clear H D1 KB1;obtain⟨k,jj,H,hkj,rfl,hd,hB⟩:=hrel;have D:=hiD hd;have KB:=hiD hB;clear hd hB;rcases Nat.eq_zero_or_pos jj with hj0|hjp
    ·subst hj0
     obtain rfl:k=m:=hkj;go_wp2_with fail
     go_meet;exact⟨⟨H,by rw[HA2.o];exact D.o⟩,KB.o⟩
    ·obtain⟨j',rfl⟩:∃ j',jj=j'+1:=⟨jj - 1,by omega⟩
     have hjg:(0:Int)<((j'+1:Nat):Int):=by omega
     have hjg':(0:Int)<(j':Int)+1:=by omega
     have hlen:H.n2=k:=by
      have h1:=D.o.own2.len;rw[D.o.val] at h1;have h2:=zpt l0 e0 k;exact h1.symm.trans h2
     have hNk:H.n2≤59:=by omega
     have HNK:=hiD hlen;have hn3:H.n3=0:=by
      have h1:=D.o.by3.1;have h2:H.e.body=[]:=by rw[D.o.val];exact HEMP.o.2
      rw[h2] at h1;exact h1.symm
     have HN3:=hiD hn3;clear hlen hn3;obtain⟨q,hq⟩:∃ q,2*k=q:=⟨_,rfl⟩;obtain⟨lk,hlk⟩:∃ z,(rdI q l0 e0).2.1=z:=⟨_,rfl⟩;obtain⟨ek,hek⟩:∃ z,(rdI q l0 e0).2.2=z:=⟨_,rfl⟩
     have HSK:Hid (rdS (k+1) l0 e0=rdS k l0 e0++[(((numV lk ek:Nat):Int),((numV (zh lk ek 8) (numE lk ek):Nat):Int))]∧(rdI (2*(k+1)) l0 e0).2=(zh (zh lk ek 8) (numE lk ek) 8,numE (zh lk ek 8) (numE lk ek))):=hiD (by
      rw[show 2*(k+1)=q+1+1 by omega,← hlk,← hek,← hq]
      exact⟨rfl,rfl⟩)
     have hrd:RdR wr g B lk ek:=by rw[← hlk,← hek,← hq];exact D.o.rd
     have HV:Hid (H.e={ X.1 with set:=rdS k l0 e0 }):=hiD D.o.val;have D0:Hid (RdAt w g B b2 b3 ({ X.1 with set:=rdS k l0 e0 },lk,ek) H wr):=hiD { D.o with rd:=hrd };clear hlk hek hrd hq D;go_wp2_with fail
     refine(zbu g B ek lk wr D0.o.rd hgB).mono ?_;rintro e wn ⟨rfl,hs⟩;have D:=hiD (D0.o.call hs N.o.1 N.o.2.1);have KBn:=hiD (show B≤wn.heap.size from Nat.le_trans KB.o hs.2.size);obtain⟨v1,hv1⟩:∃ v,numV lk ek=v:=⟨_,rfl⟩;rw[hv1] at HSK ⊢;obtain⟨lk2,hlk2⟩:∃ z,zh lk ek 8=z:=⟨_,rfl⟩;obtain⟨ek2,hek2⟩:∃ z,numE lk ek=z:=⟨_,rfl⟩;rw[hlk2,hek2] at HSK D;clear hs D0 KB hv1 hlk2 hek2;have HG0:Hid (w.heap.size≤wn.heap.size):=hiD D.o.grown.size;go_wp2_with fail
     refine wp_region_held_drew (S:=fun _=>True) (by kernel_rfl) trivial (fun qch=>?_);simp only[List.size_toArray,List.length_cons,List.length_nil,Nat.reduceAdd];refine tks (i:=0) (v:=.pointer (some ⟨b3,5,none⟩)) (s:=qch) (h:=?_);try simp only[nm0]
     refine tks (i:=2) (v:=.int .i64 (v1:Int)) (s:=qch) (h:=?_);try simp only[nm0]
     refine tks (i:=3) (v:=.pointer (some ⟨g,0,none⟩)) (s:=qch) (h:=?_);try simp only[nm0]
     obtain⟨V0,hV0⟩:∃ V,V=wn.drew:=⟨_,rfl⟩
     have E:Hid (RdAt w g B b2 b3 ({ X.1 with set:=rdS k l0 e0 },lk2,ek2) H V0∧B≤V0.heap.size):=hiD (by
      have d:=D.o.below (Below.refl _ _).drew KBn.o HG0.o;rw[hV0]
      exact⟨d,KBn.o⟩)
     rw[← hV0];clear hV0;obtain⟨v,hv⟩:∃ v,numV lk2 ek2=v:=⟨_,rfl⟩;rw[hv] at HSK;have HNV:=hiD hv;clear hv;refine rd2 (r:=1) (s:=4) (h:=fun K hK=>?_) (k:=fun K hK=>?_)
     ·have d0:V0.cell? ⟨b3,5,none⟩=some (.slice H.A2 H.n2 H.c2):=E.o.1.box.cell 5
      go_wp2_with fail
      clear d0;refine bkk hK trivial fun qch=>?_;clear hK K;try simp only[nm0]
      refine rd1 (r:=4) (h:=fun K hK=>?_);go_wp2_with fail
      refine(zbu g B ek2 lk2 V0 E.o.1.rd hgB).mono ?_;rintro e V1 ⟨rfl,hs⟩;rw[HNV.o];have E1:Hid (RdAt w g B b2 b3 ({ X.1 with set:=rdS k l0 e0 },zh lk2 ek2 8,numE lk2 ek2) H V1∧B≤V1.heap.size):=hiD ⟨E.o.1.call hs N.o.1 N.o.2.1,Nat.le_trans E.o.2 hs.2.size⟩;clear hs E;have E:=E1;clear E1;refine bkk hK trivial fun qch=>?_;clear hK K;try simp only[nm0]
      refine tks (i:=5) (v:=.agg #[.int .i64 (v1:Int),.int .i64 (v:Int)]) (s:=qch) (h:=?_);try simp only[nm0]
      refine rd1 (r:=6) (h:=fun K hK=>?_);go_wp2_with fail
      have Z0:Hid (b3+1≤V1.heap.size):=hiD E.o.1.box.lt;refine jg (fun W=>(RdAt w g B b2 b3 ({ X.1 with set:=rdS k l0 e0 },zh lk2 ek2 8,numE lk2 ek2) H W∧B≤W.heap.size)∧Bk W V1.heap.size 114 #[.int .i64 (v1:Int),.int .i64 (v:Int)]∧b3+1≤W.heap.size) ⟨⟨E.o.1.below ((Below.refl _ _).alloc (Nat.le_refl _) _) E.o.2 E.o.1.grown.size,by have:=E.o.2;simp;omega⟩,Bk.new _ _ _,by have:=Z0.o;simp;omega⟩ ?_;obtain⟨bn,hbn⟩:∃ bn,bn=V1.heap.size:=⟨_,rfl⟩;rw[← hbn];clear hbn E Z0;rintro V2 ⟨eE,eB,eZ⟩;have E:=hiD eE;have BN:=hiD eB;have Z:=hiD eZ;clear eE eB eZ;refine bkk hK trivial fun qch=>?_;clear hK K;try simp only[nm0]
      obtain⟨A4,c4,V3,hrun,ho4,hb4,hg4⟩:=zbb (P:=Tryz.prog) (f:=rgC) E.o.1.own2 47 47 Tryz.underlying47 zg3 rfl (by omega) (by omega) (A':=some ⟨bn,0,none⟩) (m:=1) (c':=1) (B:=bn+1) (us:=[((v1:Int),(v:Int))]) ⟨rfl,fun _=>⟨bn,0,rfl,Nat.lt_succ_self _,fun i a ha=>by
       cases i with
       | zero=>cases ha;exact BN.o.range
       | succ i=>simp at ha⟩⟩ (fun u _=>zij u) (by omega) Z.o
      have UK:Hid (OwnK 2 rgC V3 (b3+1) 114 A4 (H.n2+1) c4 (rdS (k+1) l0 e0)):=hiD (by
       have h1:H.e.set=rdS k l0 e0:=by rw[HV.o]
       rw[HSK.o.1,← h1]
       exact ho4)
      have UO:Hid (OwnV V3 (b3+1) 3 H.A1 H.n1 H.c1 (H.e.ids.map ints)):=hiD (World.ownsRow.kept E.o.1.own1 hg4 (own_apart' E.o.1.own1 E.o.1.own2));have U2:=hiD (E.o.1.res.below hb4 (by have:=N.o;omega));have U3:=hiD (E.o.1.box.below hb4 (Nat.lt_succ_self _));have UR:=hiD (E.o.1.rd.belowE hb4 (by have:=N.o;omega) (by have:=N.o;omega));have UG:=hiD (za0 E.o.1.grown (hb4.mono (by have:=N.o;omega)));have UB:Hid (B≤V3.heap.size):=hiD (Nat.le_trans E.o.2 hb4.size);have HRUN:=hiD hrun;clear hrun ho4 hb4 hg4;refine rd1 (r:=7) (h:=fun K hK=>?_);refine jv (s:=.tmp 63) (x:=.tmp 68) rfl rfl rfl HRUN.o ?_;refine bkk hK trivial fun qch=>?_;clear hK K;try simp only[nm0]
      clear HRUN BN;refine tks (i:=8) (v:=.pointer (some ⟨b3,5,none⟩)) (s:=qch) (h:=?_);try simp only[nm0]
      have c0:V3.cell? ⟨b3,5,none⟩=some (.slice H.A2 H.n2 H.c2):=U3.o.cell 5;have f0:V3.frozen? ⟨b3,5,none⟩=false:=U3.o.frozen 5
      have D2:Hid (RdAt w g B b2 b3 ({ X.1 with set:=rdS (k+1) l0 e0 },(rdI (2*(k+1)) l0 e0).2) { H with e:={ H.e with set:=rdS (k+1) l0 e0 },A2:=A4,n2:=H.n2+1,c2:=c4 } (V3.setCell ⟨b3,5,none⟩ (.slice A4 (H.n2+1) c4))):=hiD (RdAt.mk_put U2.o U3.o (by rw[HSK.o.2];exact UR.o) UG.o N.o.2.2.2.2.1 N.o.2.1 N.o.2.2.1 UB.o N.o.2.2.2.1 rfl UO.o UK.o (by
       have h2:H.e.body=[]:=by rw[HV.o];exact HEMP.o.2
       show Bytes V3 V3.heap.size H.A3 H.n3 H.e.body
       rw[h2,HN3.o]
       exact Bytes.nil) E.o.1.aw3 E.o.1.sz ⟨E.o.1.nn.1,by show H.n2+1≤60;omega⟩ (by have h9:=congrArg (fun e:Ev=>({ e with set:=rdS (k+1) l0 e0 }:Ev)) HV.o;exact h9))
      have KB4:Hid (B≤(V3.setCell ⟨b3,5,none⟩ (.slice A4 (H.n2+1) c4)).heap.size):=hiD (Nat.le_trans UB.o (qe _ _ _ _).size);clear E U2 UO UK UR UG UB;refine rd1 (r:=9) (h:=fun K hK=>?_);go_wp2_with fail
      refine bkk hK trivial fun qch=>?_;clear hK K;try simp only[nm0]
      refine wpAnyH_done (by kernel_rfl) ?_ _;go_wp2_with fail
      go_roundw
      case rel=>exact⟨k+1,j',_,by omega,by go_num,D2.o,KB4.o⟩
      case measure=>simp[intOf]
     ·go_wp2_with fail
      refine(zbu g B ek2 lk2 V0 E.o.1.rd hgB).mono ?_;rintro e V1 ⟨rfl,hs⟩;rw[HNV.o];have E1:Hid (RdAt w g B b2 b3 ({ X.1 with set:=rdS k l0 e0 },zh lk2 ek2 8,numE lk2 ek2) H V1∧B≤V1.heap.size):=hiD ⟨E.o.1.call hs N.o.1 N.o.2.1,Nat.le_trans E.o.2 hs.2.size⟩;clear hs E;have E:=E1;clear E1;refine bkk hK trivial fun qch=>?_;clear hK K;try simp only[nm0]
      refine tks (i:=5) (v:=.agg #[.int .i64 (v1:Int),.int .i64 (v:Int)]) (s:=qch) (h:=?_);try simp only[nm0]
      refine rd2 (r:=1) (s:=6) (h:=fun K hK=>?_) (k:=fun K hK=>?_)
      ·have d0:V1.cell? ⟨b3,5,none⟩=some (.slice H.A2 H.n2 H.c2):=E.o.1.box.cell 5
       go_wp2_with fail
       clear d0;refine bkk hK trivial fun qch=>?_;clear hK K;try simp only[nm0]
       refine rd1 (r:=6) (h:=fun K hK=>?_);go_wp2_with fail
       have Z0:Hid (b3+1≤V1.heap.size):=hiD E.o.1.box.lt;refine jg (fun W=>(RdAt w g B b2 b3 ({ X.1 with set:=rdS k l0 e0 },zh lk2 ek2 8,numE lk2 ek2) H W∧B≤W.heap.size)∧Bk W V1.heap.size 114 #[.int .i64 (v1:Int),.int .i64 (v:Int)]∧b3+1≤W.heap.size) ⟨⟨E.o.1.below ((Below.refl _ _).alloc (Nat.le_refl _) _) E.o.2 E.o.1.grown.size,by have:=E.o.2;simp;omega⟩,Bk.new _ _ _,by have:=Z0.o;simp;omega⟩ ?_;obtain⟨bn,hbn⟩:∃ bn,bn=V1.heap.size:=⟨_,rfl⟩;rw[← hbn];clear hbn E Z0;rintro V2 ⟨eE,eB,eZ⟩;have E:=hiD eE;have BN:=hiD eB;have Z:=hiD eZ;clear eE eB eZ;refine bkk hK trivial fun qch=>?_;clear hK K;try simp only[nm0]
       obtain⟨A4,c4,V3,hrun,ho4,hb4,hg4⟩:=zbb (P:=Tryz.prog) (f:=rgC) E.o.1.own2 47 47 Tryz.underlying47 zg3 rfl (by omega) (by omega) (A':=some ⟨bn,0,none⟩) (m:=1) (c':=1) (B:=bn+1) (us:=[((v1:Int),(v:Int))]) ⟨rfl,fun _=>⟨bn,0,rfl,Nat.lt_succ_self _,fun i a ha=>by
        cases i with
        | zero=>cases ha;exact BN.o.range
        | succ i=>simp at ha⟩⟩ (fun u _=>zij u) (by omega) Z.o
       have UK:Hid (OwnK 2 rgC V3 (b3+1) 114 A4 (H.n2+1) c4 (rdS (k+1) l0 e0)):=hiD (by
        have h1:H.e.set=rdS k l0 e0:=by rw[HV.o]
        rw[HSK.o.1,← h1]
        exact ho4)
       have UO:Hid (OwnV V3 (b3+1) 3 H.A1 H.n1 H.c1 (H.e.ids.map ints)):=hiD (World.ownsRow.kept E.o.1.own1 hg4 (own_apart' E.o.1.own1 E.o.1.own2));have U2:=hiD (E.o.1.res.below hb4 (by have:=N.o;omega));have U3:=hiD (E.o.1.box.below hb4 (Nat.lt_succ_self _));have UR:=hiD (E.o.1.rd.belowE hb4 (by have:=N.o;omega) (by have:=N.o;omega));have UG:=hiD (za0 E.o.1.grown (hb4.mono (by have:=N.o;omega)));have UB:Hid (B≤V3.heap.size):=hiD (Nat.le_trans E.o.2 hb4.size);have HRUN:=hiD hrun;clear hrun ho4 hb4 hg4;refine rd1 (r:=7) (h:=fun K hK=>?_);refine jv (s:=.tmp 63) (x:=.tmp 68) rfl rfl rfl HRUN.o ?_;refine bkk hK trivial fun qch=>?_;clear hK K;try simp only[nm0]
       clear HRUN BN;refine tks (i:=8) (v:=.pointer (some ⟨b3,5,none⟩)) (s:=qch) (h:=?_);try simp only[nm0]
       have c0:V3.cell? ⟨b3,5,none⟩=some (.slice H.A2 H.n2 H.c2):=U3.o.cell 5;have f0:V3.frozen? ⟨b3,5,none⟩=false:=U3.o.frozen 5
       have D2:Hid (RdAt w g B b2 b3 ({ X.1 with set:=rdS (k+1) l0 e0 },(rdI (2*(k+1)) l0 e0).2) { H with e:={ H.e with set:=rdS (k+1) l0 e0 },A2:=A4,n2:=H.n2+1,c2:=c4 } (V3.setCell ⟨b3,5,none⟩ (.slice A4 (H.n2+1) c4))):=hiD (RdAt.mk_put U2.o U3.o (by rw[HSK.o.2];exact UR.o) UG.o N.o.2.2.2.2.1 N.o.2.1 N.o.2.2.1 UB.o N.o.2.2.2.1 rfl UO.o UK.o (by
        have h2:H.e.body=[]:=by rw[HV.o];exact HEMP.o.2
        show Bytes V3 V3.heap.size H.A3 H.n3 H.e.body
        rw[h2,HN3.o]
        exact Bytes.nil) E.o.1.aw3 E.o.1.sz ⟨E.o.1.nn.1,by show H.n2+1≤60;omega⟩ (by have h9:=congrArg (fun e:Ev=>({ e with set:=rdS (k+1) l0 e0 }:Ev)) HV.o;exact h9))
       have KB4:Hid (B≤(V3.setCell ⟨b3,5,none⟩ (.slice A4 (H.n2+1) c4)).heap.size):=hiD (Nat.le_trans UB.o (qe _ _ _ _).size);clear E U2 UO UK UR UG UB;refine rd1 (r:=9) (h:=fun K hK=>?_);go_wp2_with fail
       refine bkk hK trivial fun qch=>?_;clear hK K;try simp only[nm0]
       refine wpAnyH_done (by kernel_rfl) ?_ _;go_wp2_with fail
       go_roundw
       case rel=>exact⟨k+1,j',_,by omega,by go_num,D2.o,KB4.o⟩
       case measure=>simp[intOf]
      ·go_wp2_with fail
       have Z0:Hid (b3+1≤V1.heap.size):=hiD E.o.1.box.lt;refine jg (fun W=>(RdAt w g B b2 b3 ({ X.1 with set:=rdS k l0 e0 },zh lk2 ek2 8,numE lk2 ek2) H W∧B≤W.heap.size)∧Bk W V1.heap.size 114 #[.int .i64 (v1:Int),.int .i64 (v:Int)]∧b3+1≤W.heap.size) ⟨⟨E.o.1.below ((Below.refl _ _).alloc (Nat.le_refl _) _) E.o.2 E.o.1.grown.size,by have:=E.o.2;simp;omega⟩,Bk.new _ _ _,by have:=Z0.o;simp;omega⟩ ?_;obtain⟨bn,hbn⟩:∃ bn,bn=V1.heap.size:=⟨_,rfl⟩;rw[← hbn];clear hbn E Z0;rintro V2 ⟨eE,eB,eZ⟩;have E:=hiD eE;have BN:=hiD eB;have Z:=hiD eZ;clear eE eB eZ;refine bkk hK trivial fun qch=>?_;clear hK K;try simp only[nm0]
       refine rd1 (r:=1) (h:=fun K hK=>?_);have d0:V2.cell? ⟨b3,5,none⟩=some (.slice H.A2 H.n2 H.c2):=E.o.1.box.cell 5;go_wp2_with fail
       clear d0;refine bkk hK trivial fun qch=>?_;clear hK K;try simp only[nm0]
       obtain⟨A4,c4,V3,hrun,ho4,hb4,hg4⟩:=zbb (P:=Tryz.prog) (f:=rgC) E.o.1.own2 47 47 Tryz.underlying47 zg3 rfl (by omega) (by omega) (A':=some ⟨bn,0,none⟩) (m:=1) (c':=1) (B:=bn+1) (us:=[((v1:Int),(v:Int))]) ⟨rfl,fun _=>⟨bn,0,rfl,Nat.lt_succ_self _,fun i a ha=>by
        cases i with
        | zero=>cases ha;exact BN.o.range
        | succ i=>simp at ha⟩⟩ (fun u _=>zij u) (by omega) Z.o
       have UK:Hid (OwnK 2 rgC V3 (b3+1) 114 A4 (H.n2+1) c4 (rdS (k+1) l0 e0)):=hiD (by
        have h1:H.e.set=rdS k l0 e0:=by rw[HV.o]
        rw[HSK.o.1,← h1]
        exact ho4)
       have UO:Hid (OwnV V3 (b3+1) 3 H.A1 H.n1 H.c1 (H.e.ids.map ints)):=hiD (World.ownsRow.kept E.o.1.own1 hg4 (own_apart' E.o.1.own1 E.o.1.own2));have U2:=hiD (E.o.1.res.below hb4 (by have:=N.o;omega));have U3:=hiD (E.o.1.box.below hb4 (Nat.lt_succ_self _));have UR:=hiD (E.o.1.rd.belowE hb4 (by have:=N.o;omega) (by have:=N.o;omega));have UG:=hiD (za0 E.o.1.grown (hb4.mono (by have:=N.o;omega)));have UB:Hid (B≤V3.heap.size):=hiD (Nat.le_trans E.o.2 hb4.size);have HRUN:=hiD hrun;clear hrun ho4 hb4 hg4;refine rd1 (r:=7) (h:=fun K hK=>?_);refine jv (s:=.tmp 63) (x:=.tmp 68) rfl rfl rfl HRUN.o ?_;refine bkk hK trivial fun qch=>?_;clear hK K;try simp only[nm0]
       clear HRUN BN;refine tks (i:=8) (v:=.pointer (some ⟨b3,5,none⟩)) (s:=qch) (h:=?_);try simp only[nm0]
       have c0:V3.cell? ⟨b3,5,none⟩=some (.slice H.A2 H.n2 H.c2):=U3.o.cell 5;have f0:V3.frozen? ⟨b3,5,none⟩=false:=U3.o.frozen 5
       have D2:Hid (RdAt w g B b2 b3 ({ X.1 with set:=rdS (k+1) l0 e0 },(rdI (2*(k+1)) l0 e0).2) { H with e:={ H.e with set:=rdS (k+1) l0 e0 },A2:=A4,n2:=H.n2+1,c2:=c4 } (V3.setCell ⟨b3,5,none⟩ (.slice A4 (H.n2+1) c4))):=hiD (RdAt.mk_put U2.o U3.o (by rw[HSK.o.2];exact UR.o) UG.o N.o.2.2.2.2.1 N.o.2.1 N.o.2.2.1 UB.o N.o.2.2.2.1 rfl UO.o UK.o (by
        have h2:H.e.body=[]:=by rw[HV.o];exact HEMP.o.2
        show Bytes V3 V3.heap.size H.A3 H.n3 H.e.body
        rw[h2,HN3.o]
        exact Bytes.nil) E.o.1.aw3 E.o.1.sz ⟨E.o.1.nn.1,by show H.n2+1≤60;omega⟩ (by have h9:=congrArg (fun e:Ev=>({ e with set:=rdS (k+1) l0 e0 }:Ev)) HV.o;exact h9))
       have KB4:Hid (B≤(V3.setCell ⟨b3,5,none⟩ (.slice A4 (H.n2+1) c4)).heap.size):=hiD (Nat.le_trans UB.o (qe _ _ _ _).size);clear E U2 UO UK UR UG UB;refine rd1 (r:=9) (h:=fun K hK=>?_);go_wp2_with fail
       refine bkk hK trivial fun qch=>?_;clear hK K;try simp only[nm0]
       refine wpAnyH_done (by kernel_rfl) ?_ _;go_wp2_with fail
       go_roundw
       case rel=>exact⟨k+1,j',_,by omega,by go_num,D2.o,KB4.o⟩
       case measure=>simp[intOf]
 case rest =>
 obtain⟨⟨H2,hd⟩,hB⟩:=hcut;clear D HBB KB;generalize wc=W2 at *;have D:=hiD hd;have KB:=hiD hB;clear hd hB H
 rename Eh=>H
 obtain⟨b109,hb109⟩:∃ b,decide (109∈zg (zm l))=b:=⟨_,rfl⟩;have CP:Hid (Calls Tryz.prog 70 #[.string (za (zg (zm l))),.int .u8 109] W2 fun e w'=>e=.returned (.bool b109)∧W2=w'):=hiD (by rw[← hb109];exact zaj (zm l) 109 W2);have HBB:=hiD hb109;clear hb109;go_wp2_with fail
 refine CP.o.mono ?_;rintro e w' ⟨rfl,rfl⟩;clear CP
 go_upto_if 72 with (fail)
 go_cut [] (fun wx=>(∃ H,RdAt w g B b2 b3 (accS l 5) H wx)∧B≤wx.heap.size)
 case first =>
  have HNX:=hiD (zaz (l:=l) (k:=4) (c:=109) rfl);cases b109
  ·have HA:Hid (accS l 5=accS l 4):=hiD (by rw[HNX.o,zdk HBB.o])
   go_wp2_with fail
   go_meet;exact⟨⟨H,by rw[HA.o];exact D.o⟩,KB.o⟩
  ·have HA:Hid (accS l 5=zo (accS l 4).1 109 (accS l 4).2.1 (accS l 4).2.2):=hiD (by rw[HNX.o,zdj HBB.o])
   have HS2:Hid ((accS l 4).2.1.length≤140737488355328∧∀ y∈(accS l 4).2.1,y<256):=hiD ⟨Nat.le_trans (zdm l 4) HL.o,zdl H256.o 4⟩;obtain⟨X,hX⟩:∃ X,accS l 4=X:=⟨_,rfl⟩;rw[hX] at D HA HS2;clear hX;go_wp2_with fail
   refine(zbu g B _ _ W2 D.o.rd hgB).mono ?_;rintro e w3 ⟨rfl,hs⟩;have D1:=hiD (D.o.call hs N.o.1 N.o.2.1);have KB1:=hiD (show B≤w3.heap.size from Nat.le_trans KB.o hs.2.size);have c0:w3.cell? ⟨b3,6,none⟩=some (.int .i64 H.e.mode):=D1.o.box.cell 6;have f0:w3.frozen? ⟨b3,6,none⟩=false:=D1.o.box.frozen 6;have D2:Hid (RdAt w g B b2 b3 (zo X.1 109 X.2.1 X.2.2) { H with e:={ H.e with mode:=((numV X.2.1 X.2.2:Nat):Int) } } (w3.setCell ⟨b3,6,none⟩ (.int .i64 ((numV X.2.1 X.2.2:Nat):Int)))):=hiD (D1.o.put N.o.2.2.2.2.1 N.o.2.1 N.o.2.2.1 KB1.o N.o.2.2.2.1 rfl D1.o.own1 D1.o.own2 D1.o.by3 D1.o.aw3 D1.o.sz D1.o.nn (congrArg (fun e:Ev=>({ e with mode:=((numV X.2.1 X.2.2:Nat):Int) }:Ev)) D.o.val) rfl);have KB2:Hid (B≤(w3.setCell ⟨b3,6,none⟩ (.int .i64 ((numV X.2.1 X.2.2:Nat):Int))).heap.size):=hiD (Nat.le_trans KB1.o (qe _ _ _ _).size)
   clear hs D1 KB1 D;go_wp2_with fail
   go_meet;exact⟨⟨_,by rw[HA.o];exact D2.o⟩,KB2.o⟩
 case rest =>
 obtain⟨⟨H2,hd⟩,hB⟩:=hcut;clear D HBB KB;generalize wc=W2 at *;have D:=hiD hd;have KB:=hiD hB;clear hd hB H
 rename Eh=>H
 obtain⟨b102,hb102⟩:∃ b,decide (102∈zg (zm l))=b:=⟨_,rfl⟩;have CP:Hid (Calls Tryz.prog 70 #[.string (za (zg (zm l))),.int .u8 102] W2 fun e w'=>e=.returned (.bool b102)∧W2=w'):=hiD (by rw[← hb102];exact zaj (zm l) 102 W2);have HBB:=hiD hb102;clear hb102;go_wp2_with fail
 refine CP.o.mono ?_;rintro e w' ⟨rfl,rfl⟩;clear CP
 go_upto_if 77 with (fail)
 go_cut [] (fun wx=>(∃ H,RdAt w g B b2 b3 (accS l 6) H wx)∧B≤wx.heap.size)
 case first =>
  have HNX:=hiD (zaz (l:=l) (k:=5) (c:=102) rfl);cases b102
  ·have HA:Hid (accS l 6=accS l 5):=hiD (by rw[HNX.o,zdk HBB.o])
   go_wp2_with fail
   go_meet;exact⟨⟨H,by rw[HA.o];exact D.o⟩,KB.o⟩
  ·have HA:Hid (accS l 6=zo (accS l 5).1 102 (accS l 5).2.1 (accS l 5).2.2):=hiD (by rw[HNX.o,zdj HBB.o])
   have HS2:Hid ((accS l 5).2.1.length≤140737488355328∧∀ y∈(accS l 5).2.1,y<256):=hiD ⟨Nat.le_trans (zdm l 5) HL.o,zdl H256.o 5⟩;obtain⟨X,hX⟩:∃ X,accS l 5=X:=⟨_,rfl⟩;rw[hX] at D HA HS2;clear hX;go_wp2_with fail
   refine(zbu g B _ _ W2 D.o.rd hgB).mono ?_;rintro e w3 ⟨rfl,hs⟩;have D1:=hiD (D.o.call hs N.o.1 N.o.2.1);have KB1:=hiD (show B≤w3.heap.size from Nat.le_trans KB.o hs.2.size);have c0:w3.cell? ⟨b3,7,none⟩=some (.int .i64 H.e.flags):=D1.o.box.cell 7;have f0:w3.frozen? ⟨b3,7,none⟩=false:=D1.o.box.frozen 7;have D2:Hid (RdAt w g B b2 b3 (zo X.1 102 X.2.1 X.2.2) { H with e:={ H.e with flags:=((numV X.2.1 X.2.2:Nat):Int) } } (w3.setCell ⟨b3,7,none⟩ (.int .i64 ((numV X.2.1 X.2.2:Nat):Int)))):=hiD (D1.o.put N.o.2.2.2.2.1 N.o.2.1 N.o.2.2.1 KB1.o N.o.2.2.2.1 rfl D1.o.own1 D1.o.own2 D1.o.by3 D1.o.aw3 D1.o.sz D1.o.nn (congrArg (fun e:Ev=>({ e with flags:=((numV X.2.1 X.2.2:Nat):Int) }:Ev)) D.o.val) rfl);have KB2:Hid (B≤(w3.setCell ⟨b3,7,none⟩ (.int .i64 ((numV X.2.1 X.2.2:Nat):Int))).heap.size):=hiD (Nat.le_trans KB1.o (qe _ _ _ _).size)
   clear hs D1 KB1 D;go_wp2_with fail
   go_meet;exact⟨⟨_,by rw[HA.o];exact D2.o⟩,KB2.o⟩
 case rest =>
 obtain⟨⟨H2,hd⟩,hB⟩:=hcut;clear D HBB KB;generalize wc=W2 at *;have D:=hiD hd;have KB:=hiD hB;clear hd hB H
 rename Eh=>H
 obtain⟨b100,hb100⟩:∃ b,decide (100∈zg (zm l))=b:=⟨_,rfl⟩;have CP:Hid (Calls Tryz.prog 70 #[.string (za (zg (zm l))),.int .u8 100] W2 fun e w'=>e=.returned (.bool b100)∧W2=w'):=hiD (by rw[← hb100];exact zaj (zm l) 100 W2);have HBB:=hiD hb100;clear hb100;go_wp2_with fail
 refine CP.o.mono ?_;rintro e w' ⟨rfl,rfl⟩;clear CP
 go_upto_if 82 with (fail)
 go_cut [] (fun wx=>(∃ H,RdAt w g B b2 b3 (accS l 7) H wx)∧B≤wx.heap.size)
 case first =>
  have HNX:=hiD (zaz (l:=l) (k:=6) (c:=100) rfl);cases b100
  ·have HA:Hid (accS l 7=accS l 6):=hiD (by rw[HNX.o,zdk HBB.o])
   go_wp2_with fail
   go_meet;exact⟨⟨H,by rw[HA.o];exact D.o⟩,KB.o⟩
  ·have HA:Hid (accS l 7=zo (accS l 6).1 100 (accS l 6).2.1 (accS l 6).2.2):=hiD (by rw[HNX.o,zdj HBB.o])
   have HS2:Hid ((accS l 6).2.1.length≤140737488355328∧∀ y∈(accS l 6).2.1,y<256):=hiD ⟨Nat.le_trans (zdm l 6) HL.o,zdl H256.o 6⟩;obtain⟨X,hX⟩:∃ X,accS l 6=X:=⟨_,rfl⟩;rw[hX] at D HA HS2;clear hX;go_wp2_with fail
   refine(zbu g B _ _ W2 D.o.rd hgB).mono ?_;rintro e w3 ⟨rfl,hs⟩;have D1:=hiD (D.o.call hs N.o.1 N.o.2.1);have KB1:=hiD (show B≤w3.heap.size from Nat.le_trans KB.o hs.2.size);have c0:w3.cell? ⟨b3,8,none⟩=some (.int .i64 H.e.date):=D1.o.box.cell 8;have f0:w3.frozen? ⟨b3,8,none⟩=false:=D1.o.box.frozen 8;have D2:Hid (RdAt w g B b2 b3 (zo X.1 100 X.2.1 X.2.2) { H with e:={ H.e with date:=((numV X.2.1 X.2.2:Nat):Int) } } (w3.setCell ⟨b3,8,none⟩ (.int .i64 ((numV X.2.1 X.2.2:Nat):Int)))):=hiD (D1.o.put N.o.2.2.2.2.1 N.o.2.1 N.o.2.2.1 KB1.o N.o.2.2.2.1 rfl D1.o.own1 D1.o.own2 D1.o.by3 D1.o.aw3 D1.o.sz D1.o.nn (congrArg (fun e:Ev=>({ e with date:=((numV X.2.1 X.2.2:Nat):Int) }:Ev)) D.o.val) rfl);have KB2:Hid (B≤(w3.setCell ⟨b3,8,none⟩ (.int .i64 ((numV X.2.1 X.2.2:Nat):Int))).heap.size):=hiD (Nat.le_trans KB1.o (qe _ _ _ _).size)
   clear hs D1 KB1 D;go_wp2_with fail
   go_meet;exact⟨⟨_,by rw[HA.o];exact D2.o⟩,KB2.o⟩
 case rest =>
 obtain⟨⟨H2,hd⟩,hB⟩:=hcut;clear D HBB KB;generalize wc=W2 at *;have D:=hiD hd;have KB:=hiD hB;clear hd hB H
 rename Eh=>H
 obtain⟨b110,hb110⟩:∃ b,decide (110∈zg (zm l))=b:=⟨_,rfl⟩;have CP:Hid (Calls Tryz.prog 70 #[.string (za (zg (zm l))),.int .u8 110] W2 fun e w'=>e=.returned (.bool b110)∧W2=w'):=hiD (by rw[← hb110];exact zaj (zm l) 110 W2);have HBB:=hiD hb110;clear hb110;go_wp2_with fail
 refine CP.o.mono ?_;rintro e w' ⟨rfl,rfl⟩;clear CP
 go_upto_if 87 with (fail)
 go_cut [] (fun wx=>(∃ H,RdAt w g B b2 b3 (accS l 8) H wx)∧B≤wx.heap.size)
 case first =>
  have HNX:=hiD (zaz (l:=l) (k:=7) (c:=110) rfl);cases b110
  ·have HA:Hid (accS l 8=accS l 7):=hiD (by rw[HNX.o,zdk HBB.o])
   go_wp2_with fail
   go_meet;exact⟨⟨H,by rw[HA.o];exact D.o⟩,KB.o⟩
  ·have HA:Hid (accS l 8=zo (accS l 7).1 110 (accS l 7).2.1 (accS l 7).2.2):=hiD (by rw[HNX.o,zdj HBB.o])
   have HS2:Hid ((accS l 7).2.1.length≤140737488355328∧∀ y∈(accS l 7).2.1,y<256):=hiD ⟨Nat.le_trans (zdm l 7) HL.o,zdl H256.o 7⟩;obtain⟨X,hX⟩:∃ X,accS l 7=X:=⟨_,rfl⟩;rw[hX] at D HA HS2;clear hX;go_wp2_with fail
   refine(zbu g B _ _ W2 D.o.rd hgB).mono ?_;rintro e w3 ⟨rfl,hs⟩;have D1:=hiD (D.o.call hs N.o.1 N.o.2.1);have KB1:=hiD (show B≤w3.heap.size from Nat.le_trans KB.o hs.2.size);have c0:w3.cell? ⟨b3,9,none⟩=some (.int .i64 H.e.n):=D1.o.box.cell 9;have f0:w3.frozen? ⟨b3,9,none⟩=false:=D1.o.box.frozen 9;have D2:Hid (RdAt w g B b2 b3 (zo X.1 110 X.2.1 X.2.2) { H with e:={ H.e with n:=((numV X.2.1 X.2.2:Nat):Int) } } (w3.setCell ⟨b3,9,none⟩ (.int .i64 ((numV X.2.1 X.2.2:Nat):Int)))):=hiD (D1.o.put N.o.2.2.2.2.1 N.o.2.1 N.o.2.2.1 KB1.o N.o.2.2.2.1 rfl D1.o.own1 D1.o.own2 D1.o.by3 D1.o.aw3 D1.o.sz D1.o.nn (congrArg (fun e:Ev=>({ e with n:=((numV X.2.1 X.2.2:Nat):Int) }:Ev)) D.o.val) rfl);have KB2:Hid (B≤(w3.setCell ⟨b3,9,none⟩ (.int .i64 ((numV X.2.1 X.2.2:Nat):Int))).heap.size):=hiD (Nat.le_trans KB1.o (qe _ _ _ _).size)
   clear hs D1 KB1 D;go_wp2_with fail
   go_meet;exact⟨⟨_,by rw[HA.o];exact D2.o⟩,KB2.o⟩
 case rest =>
 obtain⟨⟨H2,hd⟩,hB⟩:=hcut;clear D HBB KB;generalize wc=W2 at *;have D:=hiD hd;have KB:=hiD hB;clear hd hB H
 rename Eh=>H
 obtain⟨b121,hb121⟩:∃ b,decide (121∈zg (zm l))=b:=⟨_,rfl⟩;have CP:Hid (Calls Tryz.prog 70 #[.string (za (zg (zm l))),.int .u8 121] W2 fun e w'=>e=.returned (.bool b121)∧W2=w'):=hiD (by rw[← hb121];exact zaj (zm l) 121 W2);have HBB:=hiD hb121;clear hb121;go_wp2_with fail
 refine CP.o.mono ?_;rintro e w' ⟨rfl,rfl⟩;clear CP
 go_upto_if 92 with (fail)
 go_cut [] (fun wx=>∃ H,H.e=(accS l 9).1∧Bk wx b2 50 (evC (ze 0 0))∧Bk wx b3 50 (evC H)∧EvFar wx (b3+1) H∧RdR wx g B (accS l 9).2.1 (accS l 9).2.2∧w.grownBy wx (some g)∧B≤wx.heap.size)
 case first =>
  have HNX:=hiD (zaz (l:=l) (k:=8) (c:=121) rfl);have HF:Hid (EvFar W2 (b3+1) H):=hiD ⟨D.o.inn,OwnV.away D.o.own1,OwnK.away D.o.own2,D.o.aw3.imp fun b hb=>hb⟩;cases b121
  ·have HA:Hid (accS l 9=accS l 8):=hiD (by rw[HNX.o,zdk HBB.o])
   go_wp2_with fail
   go_meet;exact⟨H,by rw[HA.o];exact D.o.val,D.o.res,D.o.box,HF.o,by rw[HA.o];exact D.o.rd,D.o.grown,KB.o⟩
  ·have HA:Hid (accS l 9=zo (accS l 8).1 121 (accS l 8).2.1 (accS l 8).2.2):=hiD (by rw[HNX.o,zdj HBB.o])
   have HS2:Hid ((accS l 8).2.1.length≤140737488355328∧∀ y∈(accS l 8).2.1,y<256):=hiD ⟨Nat.le_trans (zdm l 8) HL.o,zdl H256.o 8⟩;obtain⟨X,hX⟩:∃ X,accS l 8=X:=⟨_,rfl⟩;rw[hX] at D HA HS2;clear hX;go_wp2_with fail
   refine(zj3 g B _ _ W2 D.o.rd hgB HS2.o.2).mono ?_;rintro e w2 ⟨rfl,hs⟩;have d:=D.o.call hs N.o.1 N.o.2.1;have J2:=hiD d.res;have J3:=hiD d.box;have JR:=hiD d.rd;have JG:=hiD d.grown;have JF:=hiD (HF.o.kept hs.2 (by have:=N.o;omega));have JV:=hiD d.val;have JB:=hiD (show B≤w2.heap.size from Nat.le_trans KB.o hs.2.size);have JZ:Hid (b3+1≤w2.heap.size):=hiD d.box.lt;have hbw3:Below w2.heap.size w2 (Lib.bytesWorld w2 5 (za (zl X.2.1 X.2.2))):=(Below.refl _ _).grown (zhy w2 5 (za (zl X.2.1 X.2.2)) none) (Nat.le_refl _) (fun k hk=>by cases hk)
   have BY:Hid (Bytes (Lib.bytesWorld w2 5 (za (zl X.2.1 X.2.2))) (Lib.bytesWorld w2 5 (za (zl X.2.1 X.2.2))).heap.size (some ⟨w2.heap.size,0,none⟩) (za (zl X.2.1 X.2.2)).size (zl X.2.1 X.2.2)):=hiD (by
    have h1:=zjy w2 5 (za (zl X.2.1 X.2.2));rw[zbw _ (zpf HS2.o.2)] at h1
    exact h1.more (by rw[Lib.bytesWorld_size];exact Nat.le_refl _))
   have L2:=hiD (J2.o.below hbw3 J2.o.lt);have L3:=hiD (J3.o.below hbw3 J3.o.lt);have LR:=hiD (JR.o.belowE hbw3 JR.o.lt JB.o);have LG:=hiD (za0 JG.o (hbw3.mono (by have:=N.o;have:=JZ.o;omega)));have LF:=hiD (JF.o.below hbw3);have LB:Hid (B≤(Lib.bytesWorld w2 5 (za (zl X.2.1 X.2.2))).heap.size):=hiD (Nat.le_trans JB.o hbw3.size);have c0:(Lib.bytesWorld w2 5 (za (zl X.2.1 X.2.2))).cell? ⟨b3,10,none⟩=some (.slice H.A3 H.n3 H.c3):=L3.o.cell 10;have f0:(Lib.bytesWorld w2 5 (za (zl X.2.1 X.2.2))).frozen? ⟨b3,10,none⟩=false:=L3.o.frozen 10;have kcv:=Lib.run_convert_string_bytes (P:=Tryz.prog) w2 9 48 5 (za (zl X.2.1 X.2.2)) Tryz.underlying9 Tryz.underlying48 Tryz.underlying5;clear hs d D HF KB J2 J3 JR JG JF JB hbw3;generalize Lib.bytesWorld w2 5 (za (zl X.2.1 X.2.2))=w3 at *;obtain⟨H',hH'⟩:∃ H':Eh,H'={ H with e:={ H.e with body:=zl X.2.1 X.2.2 },A3:=some ⟨w2.heap.size,0,none⟩,n3:=(za (zl X.2.1 X.2.2)).size,c3:=grownCap w2 (za (zl X.2.1 X.2.2)).size 0 5 }:=⟨_,rfl⟩
   have P3:Hid (Bk (w3.setCell ⟨b3,10,none⟩ (.slice (some ⟨w2.heap.size,0,none⟩) (za (zl X.2.1 X.2.2)).size (grownCap w2 (za (zl X.2.1 X.2.2)).size 0 5))) b3 50 (evC H')):=hiD (by
    have:=L3.o.put 10 (.slice (some ⟨w2.heap.size,0,none⟩) (za (zl X.2.1 X.2.2)).size (grownCap w2 (za (zl X.2.1 X.2.2)).size 0 5));rw[hH']
    exact this)
   have P2:=hiD (L2.o.far (show b2≠b3 from N.o.2.2.2.2.1) (p:=⟨b3,10,none⟩) (.slice (some ⟨w2.heap.size,0,none⟩) (za (zl X.2.1 X.2.2)).size (grownCap w2 (za (zl X.2.1 X.2.2)).size 0 5)));have hg:=qe w3 b3 10 (.slice (some ⟨w2.heap.size,0,none⟩) (za (zl X.2.1 X.2.2)).size (grownCap w2 (za (zl X.2.1 X.2.2)).size 0 5))
   have PF:Hid (EvFar (w3.setCell ⟨b3,10,none⟩ (.slice (some ⟨w2.heap.size,0,none⟩) (za (zl X.2.1 X.2.2)).size (grownCap w2 (za (zl X.2.1 X.2.2)).size 0 5))) (b3+1) H'):=hiD (by
    obtain⟨h1,h2,h3,h4,h5,h6,h7,h8⟩:=LF.o.inn;have h0:EvFar w3 (b3+1) H':=by
     rw[hH'];exact⟨⟨h1,h2,BY.o,h4,h5,zfn _ _ HS2.o.1,h7,h8⟩,LF.o.a1,LF.o.a2,fun _ a ha=>by cases ha;exact JZ.o⟩
    exact h0.kept hg (Nat.lt_succ_self _))
   have PR:=hiD (LR.o.grown hg (by intro e;injection e with e;have:=N.o;omega) (fun k hk=>by cases hk;exact N.o.2.2.1) LB.o);have PG:=hiD (za0 LG.o ((Below.refl _ _).setCell N.o.2.2.2.1 (p:=⟨b3,10,none⟩) (.slice (some ⟨w2.heap.size,0,none⟩) (za (zl X.2.1 X.2.2)).size (grownCap w2 (za (zl X.2.1 X.2.2)).size 0 5))));have PB:=hiD (Nat.le_trans LB.o hg.size)
   have PV:Hid (H'.e=(accS l 9).1):=hiD (by
    rw[HA.o,hH'];have h9:=congrArg (fun e:Ev=>({ e with body:=zl X.2.1 X.2.2 }:Ev)) JV.o
    exact h9)
   clear hg L2 L3 LR LG LF LB hH' JV BY;go_wp2_with fail
   go_meet;exact⟨H',PV.o,P2.o,P3.o,PF.o,by rw[HA.o];exact PR.o,PG.o,PB.o⟩
 case rest =>
 obtain⟨H2,hv,h2,h3,hf,hrd,hgr,hB⟩:=hcut;clear D HBB KB;generalize wc=W2 at *;have HV:=hiD hv;have Q2:=hiD h2;have Q3:=hiD h3;have QF:=hiD hf;have QR:=hiD hrd;have QG:=hiD hgr;have QB:=hiD hB;clear hv h2 h3 hf hrd hgr hB;go_wp2_with (with_reducible refine stn 97 ?_)
 refine held (wpList_load_mid rfl 50 (.tmp 3) rfl b3 0 rfl _ _ Q3.o.range Tryz.underlying50 rfl (by kernel_rfl) ?_);refine zi rfl 50 (.tmp 2) (.tmp 97) rfl b2 0 (evC H2) rfl rfl 50 _ Q2.o (by rw[zd,zd];decide) (by rw[zd];exact zr) (zw _) ?_;intro w10 hw10;obtain rfl:=qa hw10 (by rw[zd,zd]);go_wp2_with fail
 have hgr:=jy Q2.o (evC H2);refine bodyPost_ret (qi (a:=⟨b2,0,none⟩) rfl rfl (Bk.ev (Bk.setRow_same Q2.o _))) rfl ⟨H2,rfl,by rw[HDS.o];exact HV.o,(QF.o.kept hgr (by have:=N.o;omega)).low (by have:=N.o;omega),by rw[HDS.o];exact QR.o.grown hgr (by intro e;injection e with e;have:=N.o.1;omega) (fun k hk=>by cases hk;have:=N.o;have:=HGW.o;omega) QB.o,za0 QG.o (below_setRow (Below.refl _ _) (by rw[N.o.2.2.2.2.2.2];exact Nat.le_refl _) _)⟩
end Go.Proofs.YtmjjefnmabbgdaaGreatDoor
