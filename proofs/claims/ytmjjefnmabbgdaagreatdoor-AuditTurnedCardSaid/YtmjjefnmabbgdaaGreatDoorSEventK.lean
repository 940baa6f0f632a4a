/- A part of the proof. -/
import Derived.Test.YtmjjefnmabbgdaaGreatDoorSEventA
namespace Go.Proofs.YtmjjefnmabbgdaaGreatDoor
set_option linter.unusedVariables false
set_option linter.unusedSimpArgs false
set_option maxRecDepth 100000
set_option maxHeartbeats 16000000
open Go.RowKit
theorem za0 {w w1 w2:World}{g:Nat}(h:w.grownBy w1 (some g))(hb:Below w.heap.size w1 w2):w.grownBy w2 (some g) :=
 ⟨hb.os.trans h.os,hb.tape.trans h.tape,hb.output.trans h.output,Nat.le_trans h.size hb.size,fun k hk hne=>(hb.block k hk).trans (h.block k hk hne)⟩
theorem zc0 {w w1:World}(g:Nat)(hb:Below w.heap.size w w1):w.grownBy w1 (some g):=⟨hb.os,hb.tape,hb.output,hb.size,fun k hk _=>hb.block k hk⟩
theorem Bk.kept {w w':World}{b g:Nat}{t:TypeId}{cs:Array Value}(h:Bk w b t cs)(hg:w.grownBy w' (some g))(hne:b≠g):Bk w' b t cs:=(hg.block b h.lt (fun e=>hne (Option.some.inj e))).trans h
theorem OwnV.other {w w':World}{base n c g:Nat}{e:TypeId}{A:Option Addr}{l:List Value}(h:OwnV w base e A n c l)(hg:w.grownBy w' (some g))(hgb:g<base):OwnV w' base e A n c l:=by
 refine World.ownsRow.kept h hg (.inr ?_);intro hr;have:=(World.ownsRow.lt h g hr).1;omega
theorem OwnK.other {α:Type}{f:α→List Value}{w w':World}{base n c g k:Nat}{e:TypeId}{A:Option Addr}{l:List α}(h:OwnK k f w base e A n c l)(hg:w.grownBy w' (some g))(hgb:g<base):OwnK k f w' base e A n c l:=by
 refine⟨h.1.kept hg (.inr ?_),h.2⟩;intro hr;have:=(h.1.lt g hr).1;omega
theorem zii (l:List Nat)(e:Nat):qu l e 60≤60:=by unfold qu;split<;>omega
theorem zq1 (g e:Nat)(l:List Nat)(w:World)(h:RdP w g l e)(hl:l.length≤140737488355328)(hb:∀ x∈l,x<256) :
 Calls Tryz.prog 309 #[.pointer (some ⟨g,0,none⟩),.int .i64 60] w (Gave (.int .i64 ((qu l e 60:Nat):Int)) g (zh l e 8) (qs l e 60) w):=zx0 g e 60 l w h hl hb (by omega)
def NextI (g:Nat)(l:List Nat)(er:Nat)(w:World)(e:Ending)(w':World):Prop:=∃ A N c,e=.returned (.slice A N c)∧N≤60∧OwnV w' w.heap.size 3 A N c ((rdI (qu l er 60) (zh l er 8) (qs l er 60)).1.map ints) ∧
 RdP w' g (rdI (qu l er 60) (zh l er 8) (qs l er 60)).2.1 (rdI (qu l er 60) (zh l er 8) (qs l er 60)).2.2∧w.grownBy w' (some g)
theorem z1c (g er:Nat)(l:List Nat)(w:World)(hr:RdP w g l er)(hl:l.length≤140737488355328)(hb:∀ x∈l,x<256) :
 Calls Tryz.prog 284 #[.pointer (some ⟨g,0,none⟩)] w (NextI g l er w):=by
 have HC:=hiD (zq1 g er l w hr hl hb);have HG:=hiD hr.lt;have HT:Hid ((zh l er 8).length≤140737488355328∧∀ x∈zh l er 8,x<256):=hiD ⟨Nat.le_trans zaf hl,zab hb⟩;have hm60:=zii l er;obtain⟨m,hm⟩:∃ m,qu l er 60=m:=⟨_,rfl⟩;obtain⟨l0,hl0⟩:∃ q,zh l er 8=q:=⟨_,rfl⟩;obtain⟨e0,he0⟩:∃ q,qs l er 60=q:=⟨_,rfl⟩
 have HN:Hid (∀ e w',(∃ A N c,e=.returned (.slice A N c)∧N≤60∧OwnV w' w.heap.size 3 A N c ((rdI m l0 e0).1.map ints)∧RdP w' g (rdI m l0 e0).2.1 (rdI m l0 e0).2.2∧w.grownBy w' (some g))→NextI g l er w e w'):=hiD (by
  intro e w' H;unfold NextI;rw[hm,hl0,he0]
  exact H)
 rw[hm] at hm60;rw[hm,hl0,he0] at HC;rw[hl0] at HT;clear hr hl hb hm hl0 he0;go_enter Tryz.func284,Tryz.ntmps284
 go_wp2_with fail
 refine HC.o.mono ?_;rintro e w2 ⟨rfl,hr2,hg2⟩;have R2:=hiD hr2;have G2:=hiD hg2;clear hr2 hg2 HC;go_wp2_with fail
 go_loopw [3,6] (fun o i wx=>∃ (k N:Nat) (A2:Option Addr) (c2:Nat),k≤m∧i=.int .i64 (k:Int)∧N=k∧o=.slice A2 N c2∧OwnV wx w.heap.size 3 A2 N c2 ((rdI k l0 e0).1.map ints)∧RdP wx g (rdI k l0 e0).2.1 (rdI k l0 e0).2.2∧w.grownBy wx (some g)) (fun _ i _=>m-(intOf i).toNat)
 case atStart=>exact⟨0,0,none,0,Nat.zero_le _,rfl,rfl,rfl,OwnV.nil,R2.o,G2.o⟩
 case round =>
  obtain⟨k,N,A2,c2,hk,rfl,hNk,rfl,ho,hr,hgw⟩:=hrel;have hN60:N≤60:=by omega
  have HNK:=hiD hNk;have HO:=hiD ho;have HR:=hiD hr;have HGW:=hiD hgw;clear ho hr hgw hNk R2 G2;by_cases hlt:k<m
  ·have hk0:(0:Int)≤(k:Int):=by omega
   have hkm:(k:Int)<(m:Int):=by omega
   have HSK:Hid ((rdI (k+1) l0 e0).1=(rdI k l0 e0).1++[((numV (rdI k l0 e0).2.1 (rdI k l0 e0).2.2:Nat):Int)]∧(rdI (k+1) l0 e0).2.1=zh (rdI k l0 e0).2.1 (rdI k l0 e0).2.2 8∧(rdI (k+1) l0 e0).2.2=numE (rdI k l0 e0).2.1 (rdI k l0 e0).2.2):=hiD ⟨rfl,rfl,rfl⟩;have CN:=hiD (zch g _ _ wr HR.o (Nat.le_trans (zff k) HT.o.1) (zfe HT.o.2 k));obtain⟨v,hv⟩:∃ v,numV (rdI k l0 e0).2.1 (rdI k l0 e0).2.2=v:=⟨_,rfl⟩;rw[hv] at HSK CN;clear hv;go_wp2_with fail
   refine CN.o.mono ?_;rintro e w3 ⟨rfl,hr3,hg3⟩;have HO3:=hiD (OwnV.other HO.o hg3 HG.o);have HR3:Hid (RdP w3 g (rdI (k+1) l0 e0).2.1 (rdI (k+1) l0 e0).2.2):=hiD (by rw[HSK.o.2.1,HSK.o.2.2];exact hr3);have HG3:=hiD (zaa HGW.o hg3);clear hr3 hg3 CN HO HR HGW;have hws:=HG3.o.size;go_wp2_with (with_reducible refine stn 12 ?_)
   have h3:Bk (w3.alloc (.cells #[.int .i64 (v:Int)] 3)) w3.heap.size 3 #[.int .i64 (v:Int)]:=Bk.new _ _ _;refine held (zol rfl (.tmp 8) (.tmp 11) 46 rfl Tryz.underlying46 zk8 rfl (by omega) w.heap.size A2 N c2 _ rfl (HO3.o.alloc _) w3.heap.size 0 (.int .i64 (v:Int)) rfl (h3.cell 0) rfl (by omega) (by simp;omega) ?_);intro A4 c4 w4 ho4 hb4;have hb5:Below w.heap.size w3 w4:=((Below.refl _ _).alloc hws _).trans hb4;have HO4:Hid (OwnV w4 w.heap.size 3 A4 (N+1) c4 ((rdI (k+1) l0 e0).1.map ints)):=hiD (by rw[HSK.o.1,List.map_append];exact ho4);have HR4:=hiD (HR3.o.below hb5 HG.o);have HG4:=hiD (za0 HG3.o hb5);clear h3 ho4 hb4 hb5 hws HO3 HR3 HG3;go_wp2_with fail
   go_roundw
   case rel=>exact⟨k+1,N+1,A4,c4,by omega,by go_num,by rw[HNK.o],rfl,HO4.o,HR4.o,HG4.o⟩
   case measure=>simp[intOf];omega
  ·have hkm:¬ (k:Int)<(m:Int):=by omega
   obtain rfl:k=m:=by omega
   go_wp2_with fail
   go_ret;exact HN.o _ _ ⟨A2,N,c2,rfl,hN60,HO.o,HR.o,HGW.o⟩
def NextS (g:Nat)(l:List Nat)(er:Nat)(w:World)(e:Ending)(w':World):Prop:=∃ A N c,e=.returned (.slice A N c)∧N≤60∧OwnK 2 rgC w' w.heap.size 114 A N c (rdS (qu l er 60) (zh l er 8) (qs l er 60)) ∧
 RdP w' g (rdI (2*qu l er 60) (zh l er 8) (qs l er 60)).2.1 (rdI (2*qu l er 60) (zh l er 8) (qs l er 60)).2.2∧w.grownBy w' (some g)
theorem zij (r:Rg):∀ u∈rgC r,u.oneCell'=true:=by
 intro u hu;unfold rgC at hu;simp only[List.mem_cons,List.not_mem_nil,or_false] at hu;rcases hu with rfl|rfl<;>rfl
theorem z1d (g er:Nat)(l:List Nat)(w:World)(hr:RdP w g l er)(hl:l.length≤140737488355328)(hb:∀ x∈l,x<256) :
 Calls Tryz.prog 285 #[.pointer (some ⟨g,0,none⟩)] w (NextS g l er w):=by
 have HC:=hiD (zq1 g er l w hr hl hb);have HG:=hiD hr.lt;have HT:Hid ((zh l er 8).length≤140737488355328∧∀ x∈zh l er 8,x<256):=hiD ⟨Nat.le_trans zaf hl,zab hb⟩;have hm60:=zii l er;obtain⟨m,hm⟩:∃ m,qu l er 60=m:=⟨_,rfl⟩;obtain⟨l0,hl0⟩:∃ q,zh l er 8=q:=⟨_,rfl⟩;obtain⟨e0,he0⟩:∃ q,qs l er 60=q:=⟨_,rfl⟩
 have HN:Hid (∀ e w',(∃ A N c,e=.returned (.slice A N c)∧N≤60∧OwnK 2 rgC w' w.heap.size 114 A N c (rdS m l0 e0)∧RdP w' g (rdI (2*m) l0 e0).2.1 (rdI (2*m) l0 e0).2.2∧w.grownBy w' (some g))→NextS g l er w e w'):=hiD (by
  intro e w' H;unfold NextS;rw[hm,hl0,he0]
  exact H)
 rw[hm] at hm60;rw[hm,hl0,he0] at HC;rw[hl0] at HT;clear hr hl hb hm hl0 he0;go_enter Tryz.func285,Tryz.ntmps285
 go_wp2_with fail
 refine HC.o.mono ?_;rintro e w2 ⟨rfl,hr2,hg2⟩;have R2:=hiD hr2;have G2:=hiD hg2;clear hr2 hg2 HC;go_wp2_with fail
 go_loopw [3,8] (fun o i wx=>∃ (k N:Nat) (A2:Option Addr) (c2:Nat),k≤m∧i=.int .i64 (k:Int)∧N=k∧o=.slice A2 N c2∧OwnK 2 rgC wx w.heap.size 114 A2 N c2 (rdS k l0 e0)∧RdP wx g (rdI (2*k) l0 e0).2.1 (rdI (2*k) l0 e0).2.2∧w.grownBy wx (some g)) (fun _ i _=>m-(intOf i).toNat)
 case atStart=>exact⟨0,0,none,0,Nat.zero_le _,rfl,rfl,rfl,OwnK.nil zip,R2.o,G2.o⟩
 case round =>
  obtain⟨k,N,A2,c2,hk,rfl,hNk,rfl,ho,hr,hgw⟩:=hrel;have hN60:N≤60:=by omega
  have HNK:=hiD hNk;have HO:=hiD ho;have HR:=hiD hr;have HGW:=hiD hgw;clear ho hr hgw hNk R2 G2;by_cases hlt:k<m
  ·have hk0:(0:Int)≤(k:Int):=by omega
   have hkm:(k:Int)<(m:Int):=by omega
   obtain⟨q,hq⟩:∃ q,2*k=q:=⟨_,rfl⟩;have HSK:Hid (rdS (k+1) l0 e0=rdS k l0 e0++[(((numV (rdI q l0 e0).2.1 (rdI q l0 e0).2.2:Nat):Int),((numV (rdI (q+1) l0 e0).2.1 (rdI (q+1) l0 e0).2.2:Nat):Int))]):=hiD (by rw[← hq];rfl);have HQ2:Hid (2*(k+1)=q+1+1):=hiD (by omega);rw[hq] at HR;have CN:=hiD (zch g _ _ wr HR.o (Nat.le_trans (zff q) HT.o.1) (zfe HT.o.2 q));obtain⟨v,hv⟩:∃ v,numV (rdI q l0 e0).2.1 (rdI q l0 e0).2.2=v:=⟨_,rfl⟩;rw[hv] at HSK CN;clear hv hq;go_wp2_with fail
   refine CN.o.mono ?_;rintro e w3 ⟨rfl,hr3,hg3⟩;have hr3':RdP w3 g (rdI (q+1) l0 e0).2.1 (rdI (q+1) l0 e0).2.2:=hr3;have HO3:=hiD (OwnK.other HO.o hg3 HG.o);have HG3:=hiD (zaa HGW.o hg3);have CM:=hiD (zch g _ _ w3 hr3' (Nat.le_trans (zff (q+1)) HT.o.1) (zfe HT.o.2 (q+1)));obtain⟨v2,hv2⟩:∃ v,numV (rdI (q+1) l0 e0).2.1 (rdI (q+1) l0 e0).2.2=v:=⟨_,rfl⟩;rw[hv2] at HSK CM;clear hv2 hr3 hr3' hg3 CN HO HR HGW;go_wp2_with fail
   refine CM.o.mono ?_;rintro e w4 ⟨rfl,hr4,hg4⟩;have HR4:Hid (RdP w4 g (rdI (q+1+1) l0 e0).2.1 (rdI (q+1+1) l0 e0).2.2):=hiD hr4;have HO4:=hiD (OwnK.other HO3.o hg4 HG.o);have HG4:=hiD (zaa HG3.o hg4);clear hr4 hg4 CM HO3 HG3;have hws:=HG4.o.size;go_wp2_with (with_reducible refine stn 19 ?_)
   have h3:Bk (w4.alloc (.cells #[.int .i64 (v:Int),.int .i64 (v2:Int)] 114)) w4.heap.size 114 #[.int .i64 (v:Int),.int .i64 (v2:Int)]:=Bk.new _ _ _;refine held (zww (k:=2) (f:=rgC) rfl (.tmp 14) (.tmp 18) 47 rfl Tryz.underlying47 zg3 rfl (by omega) (by omega) w.heap.size A2 N c2 _ rfl (HO4.o.alloc _) w4.heap.size 0 ((v:Int),(v2:Int)) rfl h3.range (zij _) (by omega) (by simp;omega) ?_);intro A4 c4 w5 ho5 hb5 hg5;have hb6:Below w.heap.size w4 w5:=((Below.refl _ _).alloc hws _).trans hb5;have HO5:Hid (OwnK 2 rgC w5 w.heap.size 114 A4 (N+1) c4 (rdS (k+1) l0 e0)):=hiD (by rw[HSK.o];exact ho5);have HR5:=hiD (HR4.o.below hb6 HG.o);have HG5:=hiD (za0 HG4.o hb6);clear h3 ho5 hb5 hb6 hg5 hws HO4 HR4 HG4;go_wp2_with fail
   go_roundw
   case rel=>exact⟨k+1,N+1,A4,c4,by omega,by go_num,by rw[HNK.o],rfl,HO5.o,by rw[HQ2.o];exact HR5.o,HG5.o⟩
   case measure=>simp[intOf];omega
  ·have hkm:¬ (k:Int)<(m:Int):=by omega
   obtain rfl:k=m:=by omega
   go_wp2_with fail
   go_ret;exact HN.o _ _ ⟨A2,N,c2,rfl,hN60,HO.o,HR.o,HGW.o⟩
def Away (A:Option Addr)(n:Nat)(P:Nat→Prop):Prop:=0<n→∀ a,A=some a→P a.block
theorem Away.imp {A:Option Addr}{n:Nat}{P Q:Nat→Prop}(h:Away A n P)(hi:∀ b,P b→Q b):Away A n Q:=fun hn a ha=>hi _ (h hn a ha)
theorem Away.zero {A:Option Addr}{P:Nat→Prop}:Away A 0 P:=fun hn=>absurd hn (Nat.lt_irrefl 0)
theorem Col.grown {α:Type}{f:α→Value}{w w':World}{B n g:Nat}{A:Option Addr}{l:List α}(h:Col f w B A n l)(hg:w.grownBy w' (some g))(ha:Away A n (·≠g)):Col f w' B A n l:=by
 refine⟨h.1,fun hn=>?_⟩;obtain⟨b,o,hA,hb,hc⟩:=h.2 hn;exact⟨b,o,hA,hb,fun i a hi=>hg.cell (hc i a hi) (fun e=>ha hn _ hA (Option.some.inj e))⟩
theorem ColK.grown {α:Type}{k:Nat}{f:α→List Value}{w w':World}{B n g:Nat}{A:Option Addr}{l:List α}(h:ColK k f w B A n l)(hg:w.grownBy w' (some g))(ha:Away A n (·≠g)):ColK k f w' B A n l:=by
 refine⟨h.1,fun hn=>?_⟩;obtain⟨b,o,hA,hb,hc⟩:=h.2 hn;exact⟨b,o,hA,hb,fun i a hi j v hv=>hg.cell (hc i a hi j v hv) (fun e=>ha hn _ hA (Option.some.inj e))⟩
theorem Bytes.grown {w w':World}{B n g:Nat}{A:Option Addr}{l:List Nat}(h:Bytes w B A n l)(hg:w.grownBy w' (some g))(ha:Away A n (·≠g)):Bytes w' B A n l:=by
 refine⟨h.1,h.2.1,fun hn=>?_⟩;obtain⟨b,o,hA,hb,hc⟩:=h.2.2 hn;exact⟨b,o,hA,hb,fun i hi=>hg.cell (hc i hi) (fun e=>ha hn _ hA (Option.some.inj e))⟩
theorem Col.away {α:Type}{f:α→Value}{w:World}{B n:Nat}{A:Option Addr}{l:List α}(h:Col f w B A n l):Away A n (·<B):=fun hn a ha=>by
 obtain⟨b,o,hA,hb,_⟩:=h.2 hn;rw[hA] at ha;cases ha
 exact hb
theorem ColK.away {α:Type}{k:Nat}{f:α→List Value}{w:World}{B n:Nat}{A:Option Addr}{l:List α}(h:ColK k f w B A n l):Away A n (·<B):=fun hn a ha=>by
 obtain⟨b,o,hA,hb,_⟩:=h.2 hn;rw[hA] at ha;cases ha
 exact hb
theorem Bytes.away {w:World}{B n:Nat}{A:Option Addr}{l:List Nat}(h:Bytes w B A n l):Away A n (·<B):=fun hn a ha=>by
 obtain⟨b,o,hA,hb,_⟩:=h.2.2 hn;rw[hA] at ha;cases ha
 exact hb
structure EvFar (w:World)(base:Nat)(H:Eh):Prop where
 inn:EvIn w w.heap.size H
 a1:Away H.A1 H.n1 (base≤·)
 a2:Away H.A2 H.n2 (base≤·)
 a3:Away H.A3 H.n3 (base≤·)
theorem EvIn.grown {w w':World}{B g:Nat}{H:Eh}(h:EvIn w B H)(hg:w.grownBy w' (some g))(h1:Away H.A1 H.n1 (·≠g))(h2:Away H.A2 H.n2 (·≠g))(h3:Away H.A3 H.n3 (·≠g)):EvIn w' B H :=
 ⟨h.1.grown hg h1,h.2.1.grown hg h2,h.2.2.1.grown hg h3,h.2.2.2⟩
theorem EvFar.kept {w w':World}{base g:Nat}{H:Eh}(h:EvFar w base H)(hg:w.grownBy w' (some g))(hgb:g<base):EvFar w' base H :=
 ⟨(h.inn.grown hg (h.a1.imp fun b hb=>by omega) (h.a2.imp fun b hb=>by omega) (h.a3.imp fun b hb=>by omega)).more hg.size,h.a1,h.a2,h.a3⟩
theorem EvFar.below {w w':World}{base:Nat}{H:Eh}(h:EvFar w base H)(hb:Below w.heap.size w w'):EvFar w' base H:=⟨h.inn.later hb,h.a1,h.a2,h.a3⟩
theorem EvFar.mono {w:World}{base base':Nat}{H:Eh}(h:EvFar w base H)(hb:base'≤base):EvFar w base' H:=⟨h.inn,h.a1.imp fun b hbb=>Nat.le_trans hb hbb,h.a2.imp fun b hbb=>Nat.le_trans hb hbb,h.a3.imp fun b hbb=>Nat.le_trans hb hbb⟩
theorem EvFar.bare (w:World)(base:Nat)(k t:Int):EvFar w base (ze k t):=⟨EvIn.bare _ _ _ _,Away.zero,Away.zero,Away.zero⟩
theorem jy {w:World}{g:Nat}{t:TypeId}{cur:Array Value}(h:Bk w g t cur)(cs:Array Value):w.grownBy (w.setRow g cs) (some g):=by
 have hb:=below_setRow (Below.refl g w) (Nat.le_refl g) cs;exact⟨hb.os,hb.tape,hb.output,hb.size,fun k hk hne=>setRow_other' w g k cs (fun e=>hne (by rw[e]))⟩
def WithIs (H:Eh)(c g base:Nat)(l:List Nat)(er:Nat)(w:World)(e:Ending)(w':World):Prop :=
 ∃ H',e=.returned (.agg (evC H'))∧H'.e=(zo H.e c l er).1∧EvFar w' base H'∧RdP w' g (zo H.e c l er).2.1 (zo H.e c l er).2.2∧w.grownBy w' (some g)
theorem zdn {w w2 W:World}{H H':Eh}{c g base er:Nat}{l:List Nat}(hgb:g<base)(hbw:base≤w.heap.size)(HF:EvFar w base H)
 (hr2:RdP w2 g (zo H.e c l er).2.1 (zo H.e c l er).2.2) (hg2:w.grownBy w2 (some g)) (hv:H'.e=(zo H.e c l er).1)
 (hin:EvIn w2 w2.heap.size H') (h1:Away H'.A1 H'.n1 (fun b=>base≤b∧(b<w.heap.size∨w.heap.size+2≤b))) (h2:Away H'.A2 H'.n2 (fun b=>base≤b∧(b<w.heap.size∨w.heap.size+2≤b))) (h3:Away H'.A3 H'.n3 (fun b=>base≤b∧(b<w.heap.size∨w.heap.size+2≤b)))
 (hW:w2.grownBy W (some w.heap.size)) (b2:Bk W (w.heap.size+1) 50 (evC (ze 0 0))) :
 EvFar (W.setRow (w.heap.size+1) (evC H')) base H'∧RdP (W.setRow (w.heap.size+1) (evC H')) g (zo H.e c l er).2.1 (zo H.e c l er).2.2∧w.grownBy (W.setRow (w.heap.size+1) (evC H')) (some g):=by
 have hs:=jy b2 (evC H');have hg0:g<w.heap.size:=by omega
 have hz:=hg2.size;have hz2:=hW.size;have i1:=(hin.grown hW (h1.imp fun b hb=>by omega) (h2.imp fun b hb=>by omega) (h3.imp fun b hb=>by omega)).more hz2;have i2:=(i1.grown hs (h1.imp fun b hb=>by omega) (h2.imp fun b hb=>by omega) (h3.imp fun b hb=>by omega)).more hs.size;have r1:=hr2.grown hW (by intro e;injection e with e;omega);have r2:=r1.grown hs (by intro e;injection e with e;omega);have o1:Below w.heap.size w2 W:=⟨hW.os,hW.tape,hW.output,hW.size,fun k hk=>hW.block k (by omega) (by intro e;injection e with e;omega)⟩;have o2:Below w.heap.size W (W.setRow (w.heap.size+1) (evC H')):=⟨hs.os,hs.tape,hs.output,hs.size,fun k hk=>hs.block k (by omega) (by intro e;injection e with e;omega)⟩;exact⟨⟨i2,h1.imp fun b hb=>hb.1,h2.imp fun b hb=>hb.1,h3.imp fun b hb=>hb.1⟩,r2,za0 (za0 hg2 o1) o2⟩
theorem EvFar.two1 {w:World}{base:Nat}{H:Eh}(h:EvFar w base H):Away H.A1 H.n1 (fun b=>base≤b∧(b<w.heap.size∨w.heap.size+2≤b)):=fun hn a ha=>⟨h.a1 hn a ha,.inl (h.inn.1.away hn a ha)⟩
theorem EvFar.two2 {w:World}{base:Nat}{H:Eh}(h:EvFar w base H):Away H.A2 H.n2 (fun b=>base≤b∧(b<w.heap.size∨w.heap.size+2≤b)):=fun hn a ha=>⟨h.a2 hn a ha,.inl (h.inn.2.1.away hn a ha)⟩
theorem EvFar.two3 {w:World}{base:Nat}{H:Eh}(h:EvFar w base H):Away H.A3 H.n3 (fun b=>base≤b∧(b<w.heap.size∨w.heap.size+2≤b)):=fun hn a ha=>⟨h.a3 hn a ha,.inl (h.inn.2.2.1.away hn a ha)⟩
theorem OwnV.away {w:World}{base n c:Nat}{e:TypeId}{A:Option Addr}{l:List Value}(h:OwnV w base e A n c l):Away A n (base≤·):=fun hn a ha=>by
 obtain⟨g,hA,hg,_⟩:=OwnV.cells h hn;rw[hA] at ha;cases ha
 exact hg
theorem OwnK.away {α:Type}{f:α→List Value}{w:World}{base n c k:Nat}{e:TypeId}{A:Option Addr}{l:List α}(h:OwnK k f w base e A n c l):Away A n (base≤·):=fun hn a ha=>by
 obtain⟨g,hA,hg,_⟩:=h.range hn;rw[hA] at ha;cases ha
 exact hg
theorem zfn (l:List Nat)(er:Nat)(hl:l.length≤140737488355328):(za (zl l er)).size≤140737488355328:=by
 rw[zc7];have h1:∀ (l:List Nat) (e n:Nat),(zq l e n).length≤l.length:=by
  intro l e n;unfold zq
  split
  ·rw[List.length_take];omega
  ·exact Nat.zero_le _
 have h2:(zh l er 4).length≤l.length:=zaf;unfold zl
 split
 ·exact Nat.zero_le _
 ·exact Nat.le_trans (h1 _ _ _) (by omega)
theorem z1e (H:Eh)(g base er:Nat)(l:List Nat)(w:World)(HF:EvFar w base H)(hr:RdP w g l er)(hgb:g<base)(hbw:base≤w.heap.size)(hl:l.length≤140737488355328)(hb:∀ x∈l,x<256) :
 Calls Tryz.prog 230 #[.agg (evC H),.int .i32 98,.pointer (some ⟨g,0,none⟩)] w (WithIs H 98 g base l er w):=by
 have FF:=hiD HF;have HR:=hiD hr;have HB:=hiD hb;clear HF hr hb;go_enter Tryz.func230,Tryz.ntmps230
 go_wp2_with fail
 refine qb (fun W=>Bk W w.heap.size 50 (evC H)∧Bk W (w.heap.size+1) 50 (evC (ze 0 0))∧RdP W g l er∧Below w.heap.size w W∧w.heap.size+2≤W.heap.size) ⟨(Bk.new _ _ _).alloc _,Bk.new2 _ _ _ _,HR.o.below (((Below.refl _ _).alloc (Nat.le_refl _) _).alloc (by simp) _) (by omega),((Below.refl _ _).alloc (Nat.le_refl _) _).alloc (by simp) _,by simp⟩ ?_;rintro W ⟨k1,k2,kr,kb,kz⟩;have K1:=hiD k1;have K2:=hiD k2;have KB:=hiD kb;have KZ:=hiD kz;have CC:=hiD (zj1 g er l W kr hl HB.o);clear k1 k2 kr kb kz;refine CC.o.mono ?_;rintro e w2 ⟨rfl,hr2,hg2⟩;clear CC;have hgw:g<w.heap.size:=by omega
 have J1:=hiD (K1.o.kept hg2 (by omega));have J2:=hiD (K2.o.kept hg2 (by omega));have R2:Hid (RdP w2 g (zo H.e 98 l er).2.1 (zo H.e 98 l er).2.2):=hiD hr2;have GW:Hid (w.grownBy w2 (some g)):=hiD (zaa (zc0 g KB.o) hg2);have ZW:Hid (w.heap.size+2≤w2.heap.size):=hiD (by have:=hg2.size;have:=KZ.o;omega);obtain⟨H',hH'⟩:∃ H':Eh,H'={ H with e:={ H.e with box:=za (zl l er) } }:=⟨_,rfl⟩;have HV:Hid (H'.e=(zo H.e 98 l er).1):=hiD (by rw[hH'];rfl);have c0:w2.cell? ⟨w.heap.size,2,none⟩=some (.string H.e.box):=J1.o.cell 2;have f0:w2.frozen? ⟨w.heap.size,2,none⟩=false:=J1.o.frozen 2;clear hg2 hr2
 have II:Hid (EvIn w2 w2.heap.size H'):=hiD (by
  obtain⟨h1,h2,h3,h4,h5,h6,h7,h8⟩:=(FF.o.kept GW.o hgb).inn;rw[hH']
  exact⟨h1,h2,h3,h4,h5,h6,zfn l er hl,h8⟩)
 have T1:Hid (Away H'.A1 H'.n1 (fun b=>base≤b∧(b<w.heap.size∨w.heap.size+2≤b))):=hiD (by rw[hH'];exact FF.o.two1);have T2:Hid (Away H'.A2 H'.n2 (fun b=>base≤b∧(b<w.heap.size∨w.heap.size+2≤b))):=hiD (by rw[hH'];exact FF.o.two2);have T3:Hid (Away H'.A3 H'.n3 (fun b=>base≤b∧(b<w.heap.size∨w.heap.size+2≤b))):=hiD (by rw[hH'];exact FF.o.two3)
 have P1:Hid (Bk (w2.setCell ⟨w.heap.size,2,none⟩ (.string (za (zl l er)))) w.heap.size 50 (evC H')):=hiD (by
  have:=J1.o.put 2 (.string (za (zl l er)));rw[hH']
  exact this)
 clear hH';go_wp2_with (with_reducible refine stn 54 ?_)
 refine held (qk (fun W=>Bk W w.heap.size 50 (evC H')∧Bk W (w.heap.size+1) 50 (evC (ze 0 0))∧w2.grownBy W (some w.heap.size)) ⟨P1.o,J2.o.far (show w.heap.size+1≠w.heap.size by omega) _,qe _ _ _ _⟩ ?_);rintro W4 ⟨q1,q2,q3⟩;have Q1:=hiD q1;have Q2:=hiD q2;have Q3:=hiD q3;clear q1 q2 q3 P1 c0 f0;refine wpList_load_mid rfl 50 (.tmp 3) rfl w.heap.size 0 rfl _ _ Q1.o.range Tryz.underlying50 rfl (by kernel_rfl) ?_;refine zi rfl 50 (.tmp 6) (.tmp 54) rfl (w.heap.size+1) 0 (evC H') rfl rfl 50 _ Q2.o (by rw[zd,zd];decide) (by rw[zd];exact zr) (zw _) ?_;intro w9 hw9;obtain rfl:=qa hw9 (by rw[zd,zd]);go_wp2_with fail
 refine bodyPost_ret (qi (a:=⟨w.heap.size+1,0,none⟩) rfl rfl (Bk.ev (Bk.setRow_same Q2.o _))) rfl ⟨H',rfl,HV.o,?_⟩;exact zdn hgb hbw FF.o R2.o GW.o HV.o II.o T1.o T2.o T3.o Q3.o Q2.o
theorem z1f (H:Eh)(g base er:Nat)(l:List Nat)(w:World)(HF:EvFar w base H)(hr:RdP w g l er)(hgb:g<base)(hbw:base≤w.heap.size)(hl:l.length≤140737488355328)(hb:∀ x∈l,x<256) :
 Calls Tryz.prog 230 #[.agg (evC H),.int .i32 116,.pointer (some ⟨g,0,none⟩)] w (WithIs H 116 g base l er w):=by
 have FF:=hiD HF;have HR:=hiD hr;have HB:=hiD hb;clear HF hr hb;go_enter Tryz.func230,Tryz.ntmps230
 go_wp2_with fail
 refine qb (fun W=>Bk W w.heap.size 50 (evC H)∧Bk W (w.heap.size+1) 50 (evC (ze 0 0))∧RdP W g l er∧Below w.heap.size w W∧w.heap.size+2≤W.heap.size) ⟨(Bk.new _ _ _).alloc _,Bk.new2 _ _ _ _,HR.o.below (((Below.refl _ _).alloc (Nat.le_refl _) _).alloc (by simp) _) (by omega),((Below.refl _ _).alloc (Nat.le_refl _) _).alloc (by simp) _,by simp⟩ ?_;rintro W ⟨k1,k2,kr,kb,kz⟩;have K1:=hiD k1;have K2:=hiD k2;have KB:=hiD kb;have KZ:=hiD kz;have CC:=hiD (zj1 g er l W kr hl HB.o);clear k1 k2 kr kb kz;refine CC.o.mono ?_;rintro e w2 ⟨rfl,hr2,hg2⟩;clear CC;have hgw:g<w.heap.size:=by omega
 have J1:=hiD (K1.o.kept hg2 (by omega));have J2:=hiD (K2.o.kept hg2 (by omega));have R2:Hid (RdP w2 g (zo H.e 116 l er).2.1 (zo H.e 116 l er).2.2):=hiD hr2;have GW:Hid (w.grownBy w2 (some g)):=hiD (zaa (zc0 g KB.o) hg2);have ZW:Hid (w.heap.size+2≤w2.heap.size):=hiD (by have:=hg2.size;have:=KZ.o;omega);obtain⟨H',hH'⟩:∃ H':Eh,H'={ H with e:={ H.e with to_:=za (zl l er) } }:=⟨_,rfl⟩;have HV:Hid (H'.e=(zo H.e 116 l er).1):=hiD (by rw[hH'];rfl);have c0:w2.cell? ⟨w.heap.size,3,none⟩=some (.string H.e.to_):=J1.o.cell 3;have f0:w2.frozen? ⟨w.heap.size,3,none⟩=false:=J1.o.frozen 3;clear hg2 hr2
 have II:Hid (EvIn w2 w2.heap.size H'):=hiD (by
  obtain⟨h1,h2,h3,h4,h5,h6,h7,h8⟩:=(FF.o.kept GW.o hgb).inn;rw[hH']
  exact⟨h1,h2,h3,h4,h5,h6,h7,zfn l er hl⟩)
 have T1:Hid (Away H'.A1 H'.n1 (fun b=>base≤b∧(b<w.heap.size∨w.heap.size+2≤b))):=hiD (by rw[hH'];exact FF.o.two1);have T2:Hid (Away H'.A2 H'.n2 (fun b=>base≤b∧(b<w.heap.size∨w.heap.size+2≤b))):=hiD (by rw[hH'];exact FF.o.two2);have T3:Hid (Away H'.A3 H'.n3 (fun b=>base≤b∧(b<w.heap.size∨w.heap.size+2≤b))):=hiD (by rw[hH'];exact FF.o.two3)
 have P1:Hid (Bk (w2.setCell ⟨w.heap.size,3,none⟩ (.string (za (zl l er)))) w.heap.size 50 (evC H')):=hiD (by
  have:=J1.o.put 3 (.string (za (zl l er)));rw[hH']
  exact this)
 clear hH';go_wp2_with (with_reducible refine stn 54 ?_)
 refine held (qk (fun W=>Bk W w.heap.size 50 (evC H')∧Bk W (w.heap.size+1) 50 (evC (ze 0 0))∧w2.grownBy W (some w.heap.size)) ⟨P1.o,J2.o.far (show w.heap.size+1≠w.heap.size by omega) _,qe _ _ _ _⟩ ?_);rintro W4 ⟨q1,q2,q3⟩;have Q1:=hiD q1;have Q2:=hiD q2;have Q3:=hiD q3;clear q1 q2 q3 P1 c0 f0;refine wpList_load_mid rfl 50 (.tmp 3) rfl w.heap.size 0 rfl _ _ Q1.o.range Tryz.underlying50 rfl (by kernel_rfl) ?_;refine zi rfl 50 (.tmp 6) (.tmp 54) rfl (w.heap.size+1) 0 (evC H') rfl rfl 50 _ Q2.o (by rw[zd,zd];decide) (by rw[zd];exact zr) (zw _) ?_;intro w9 hw9;obtain rfl:=qa hw9 (by rw[zd,zd]);go_wp2_with fail
 refine bodyPost_ret (qi (a:=⟨w.heap.size+1,0,none⟩) rfl rfl (Bk.ev (Bk.setRow_same Q2.o _))) rfl ⟨H',rfl,HV.o,?_⟩;exact zdn hgb hbw FF.o R2.o GW.o HV.o II.o T1.o T2.o T3.o Q3.o Q2.o
theorem z1g (H:Eh)(g base er:Nat)(l:List Nat)(w:World)(HF:EvFar w base H)(hr:RdP w g l er)(hgb:g<base)(hbw:base≤w.heap.size)(hl:l.length≤140737488355328)(hb:∀ x∈l,x<256) :
 Calls Tryz.prog 230 #[.agg (evC H),.int .i32 105,.pointer (some ⟨g,0,none⟩)] w (WithIs H 105 g base l er w):=by
 have FF:=hiD HF;have HR:=hiD hr;have HB:=hiD hb;clear HF hr hb;go_enter Tryz.func230,Tryz.ntmps230
 go_wp2_with fail
 refine qb (fun W=>Bk W w.heap.size 50 (evC H)∧Bk W (w.heap.size+1) 50 (evC (ze 0 0))∧RdP W g l er∧Below w.heap.size w W∧w.heap.size+2≤W.heap.size) ⟨(Bk.new _ _ _).alloc _,Bk.new2 _ _ _ _,HR.o.below (((Below.refl _ _).alloc (Nat.le_refl _) _).alloc (by simp) _) (by omega),((Below.refl _ _).alloc (Nat.le_refl _) _).alloc (by simp) _,by simp⟩ ?_;rintro W ⟨k1,k2,kr,kb,kz⟩;have K1:=hiD k1;have K2:=hiD k2;have KB:=hiD kb;have KZ:=hiD kz;have CC:=hiD (z1c g er l W kr hl HB.o);clear k1 k2 kr kb kz;refine CC.o.mono ?_;rintro e w2 ⟨A,N,cc,rfl,hN,ho,hr2,hg2⟩;have HO:=hiD ho;clear CC ho;have hgw:g<w.heap.size:=by omega
 have J1:=hiD (K1.o.kept hg2 (by omega));have J2:=hiD (K2.o.kept hg2 (by omega));have R2:Hid (RdP w2 g (zo H.e 105 l er).2.1 (zo H.e 105 l er).2.2):=hiD hr2;have GW:Hid (w.grownBy w2 (some g)):=hiD (zaa (zc0 g KB.o) hg2);have ZW:Hid (w.heap.size+2≤w2.heap.size):=hiD (by have:=hg2.size;have:=KZ.o;omega);have CV:=hiD HO.o.colE;have AW:=hiD (OwnV.away HO.o);obtain⟨H',hH'⟩:∃ H':Eh,H'={ H with e:={ H.e with ids:=(rdI (qu l er 60) (zh l er 8) (qs l er 60)).1 },A1:=A,n1:=N,c1:=cc }:=⟨_,rfl⟩;have HV:Hid (H'.e=(zo H.e 105 l er).1):=hiD (by rw[hH'];rfl);have c0:w2.cell? ⟨w.heap.size,4,none⟩=some (.slice H.A1 H.n1 H.c1):=J1.o.cell 4;have f0:w2.frozen? ⟨w.heap.size,4,none⟩=false:=J1.o.frozen 4;clear hg2 hr2
 have II:Hid (EvIn w2 w2.heap.size H'):=hiD (by
  obtain⟨h1,h2,h3,h4,h5,h6,h7,h8⟩:=(FF.o.kept GW.o hgb).inn;rw[hH']
  exact⟨CV.o,h2,h3,by show N≤_;omega,h5,h6,h7,h8⟩)
 have T1:Hid (Away H'.A1 H'.n1 (fun b=>base≤b∧(b<w.heap.size∨w.heap.size+2≤b))):=hiD (by rw[hH'];exact(AW.o.imp fun b hb=>⟨by have:=KZ.o;omega,.inr (by have:=KZ.o;omega)⟩));have T2:Hid (Away H'.A2 H'.n2 (fun b=>base≤b∧(b<w.heap.size∨w.heap.size+2≤b))):=hiD (by rw[hH'];exact FF.o.two2);have T3:Hid (Away H'.A3 H'.n3 (fun b=>base≤b∧(b<w.heap.size∨w.heap.size+2≤b))):=hiD (by rw[hH'];exact FF.o.two3)
 have P1:Hid (Bk (w2.setCell ⟨w.heap.size,4,none⟩ (.slice A N cc)) w.heap.size 50 (evC H')):=hiD (by
  have:=J1.o.put 4 (.slice A N cc);rw[hH']
  exact this)
 clear hH';go_wp2_with (with_reducible refine stn 54 ?_)
 refine held (qk (fun W=>Bk W w.heap.size 50 (evC H')∧Bk W (w.heap.size+1) 50 (evC (ze 0 0))∧w2.grownBy W (some w.heap.size)) ⟨P1.o,J2.o.far (show w.heap.size+1≠w.heap.size by omega) _,qe _ _ _ _⟩ ?_);rintro W4 ⟨q1,q2,q3⟩;have Q1:=hiD q1;have Q2:=hiD q2;have Q3:=hiD q3;clear q1 q2 q3 P1 c0 f0;refine wpList_load_mid rfl 50 (.tmp 3) rfl w.heap.size 0 rfl _ _ Q1.o.range Tryz.underlying50 rfl (by kernel_rfl) ?_;refine zi rfl 50 (.tmp 6) (.tmp 54) rfl (w.heap.size+1) 0 (evC H') rfl rfl 50 _ Q2.o (by rw[zd,zd];decide) (by rw[zd];exact zr) (zw _) ?_;intro w9 hw9;obtain rfl:=qa hw9 (by rw[zd,zd]);go_wp2_with fail
 refine bodyPost_ret (qi (a:=⟨w.heap.size+1,0,none⟩) rfl rfl (Bk.ev (Bk.setRow_same Q2.o _))) rfl ⟨H',rfl,HV.o,?_⟩;exact zdn hgb hbw FF.o R2.o GW.o HV.o II.o T1.o T2.o T3.o Q3.o Q2.o
theorem z1h (H:Eh)(g base er:Nat)(l:List Nat)(w:World)(HF:EvFar w base H)(hr:RdP w g l er)(hgb:g<base)(hbw:base≤w.heap.size)(hl:l.length≤140737488355328)(hb:∀ x∈l,x<256) :
 Calls Tryz.prog 230 #[.agg (evC H),.int .i32 115,.pointer (some ⟨g,0,none⟩)] w (WithIs H 115 g base l er w):=by
 have FF:=hiD HF;have HR:=hiD hr;have HB:=hiD hb;clear HF hr hb;go_enter Tryz.func230,Tryz.ntmps230
 go_wp2_with fail
 refine qb (fun W=>Bk W w.heap.size 50 (evC H)∧Bk W (w.heap.size+1) 50 (evC (ze 0 0))∧RdP W g l er∧Below w.heap.size w W∧w.heap.size+2≤W.heap.size) ⟨(Bk.new _ _ _).alloc _,Bk.new2 _ _ _ _,HR.o.below (((Below.refl _ _).alloc (Nat.le_refl _) _).alloc (by simp) _) (by omega),((Below.refl _ _).alloc (Nat.le_refl _) _).alloc (by simp) _,by simp⟩ ?_;rintro W ⟨k1,k2,kr,kb,kz⟩;have K1:=hiD k1;have K2:=hiD k2;have KB:=hiD kb;have KZ:=hiD kz;have CC:=hiD (z1d g er l W kr hl HB.o);clear k1 k2 kr kb kz;refine CC.o.mono ?_;rintro e w2 ⟨A,N,cc,rfl,hN,ho,hr2,hg2⟩;have HO:=hiD ho;clear CC ho;have hgw:g<w.heap.size:=by omega
 have J1:=hiD (K1.o.kept hg2 (by omega));have J2:=hiD (K2.o.kept hg2 (by omega));have R2:Hid (RdP w2 g (zo H.e 115 l er).2.1 (zo H.e 115 l er).2.2):=hiD hr2;have GW:Hid (w.grownBy w2 (some g)):=hiD (zaa (zc0 g KB.o) hg2);have ZW:Hid (w.heap.size+2≤w2.heap.size):=hiD (by have:=hg2.size;have:=KZ.o;omega);have CV:=hiD HO.o.col;have AW:=hiD (OwnK.away HO.o);obtain⟨H',hH'⟩:∃ H':Eh,H'={ H with e:={ H.e with set:=rdS (qu l er 60) (zh l er 8) (qs l er 60) },A2:=A,n2:=N,c2:=cc }:=⟨_,rfl⟩;have HV:Hid (H'.e=(zo H.e 115 l er).1):=hiD (by rw[hH'];rfl);have c0:w2.cell? ⟨w.heap.size,5,none⟩=some (.slice H.A2 H.n2 H.c2):=J1.o.cell 5;have f0:w2.frozen? ⟨w.heap.size,5,none⟩=false:=J1.o.frozen 5;clear hg2 hr2
 have II:Hid (EvIn w2 w2.heap.size H'):=hiD (by
  obtain⟨h1,h2,h3,h4,h5,h6,h7,h8⟩:=(FF.o.kept GW.o hgb).inn;rw[hH']
  exact⟨h1,CV.o,h3,h4,by show N≤_;omega,h6,h7,h8⟩)
 have T1:Hid (Away H'.A1 H'.n1 (fun b=>base≤b∧(b<w.heap.size∨w.heap.size+2≤b))):=hiD (by rw[hH'];exact FF.o.two1);have T2:Hid (Away H'.A2 H'.n2 (fun b=>base≤b∧(b<w.heap.size∨w.heap.size+2≤b))):=hiD (by rw[hH'];exact(AW.o.imp fun b hb=>⟨by have:=KZ.o;omega,.inr (by have:=KZ.o;omega)⟩));have T3:Hid (Away H'.A3 H'.n3 (fun b=>base≤b∧(b<w.heap.size∨w.heap.size+2≤b))):=hiD (by rw[hH'];exact FF.o.two3)
 have P1:Hid (Bk (w2.setCell ⟨w.heap.size,5,none⟩ (.slice A N cc)) w.heap.size 50 (evC H')):=hiD (by
  have:=J1.o.put 5 (.slice A N cc);rw[hH']
  exact this)
 clear hH';go_wp2_with (with_reducible refine stn 54 ?_)
 refine held (qk (fun W=>Bk W w.heap.size 50 (evC H')∧Bk W (w.heap.size+1) 50 (evC (ze 0 0))∧w2.grownBy W (some w.heap.size)) ⟨P1.o,J2.o.far (show w.heap.size+1≠w.heap.size by omega) _,qe _ _ _ _⟩ ?_);rintro W4 ⟨q1,q2,q3⟩;have Q1:=hiD q1;have Q2:=hiD q2;have Q3:=hiD q3;clear q1 q2 q3 P1 c0 f0;refine wpList_load_mid rfl 50 (.tmp 3) rfl w.heap.size 0 rfl _ _ Q1.o.range Tryz.underlying50 rfl (by kernel_rfl) ?_;refine zi rfl 50 (.tmp 6) (.tmp 54) rfl (w.heap.size+1) 0 (evC H') rfl rfl 50 _ Q2.o (by rw[zd,zd];decide) (by rw[zd];exact zr) (zw _) ?_;intro w9 hw9;obtain rfl:=qa hw9 (by rw[zd,zd]);go_wp2_with fail
 refine bodyPost_ret (qi (a:=⟨w.heap.size+1,0,none⟩) rfl rfl (Bk.ev (Bk.setRow_same Q2.o _))) rfl ⟨H',rfl,HV.o,?_⟩;exact zdn hgb hbw FF.o R2.o GW.o HV.o II.o T1.o T2.o T3.o Q3.o Q2.o
theorem z1i (H:Eh)(g base er:Nat)(l:List Nat)(w:World)(HF:EvFar w base H)(hr:RdP w g l er)(hgb:g<base)(hbw:base≤w.heap.size)(hl:l.length≤140737488355328)(hb:∀ x∈l,x<256) :
 Calls Tryz.prog 230 #[.agg (evC H),.int .i32 109,.pointer (some ⟨g,0,none⟩)] w (WithIs H 109 g base l er w):=by
 have FF:=hiD HF;have HR:=hiD hr;have HB:=hiD hb;clear HF hr hb;go_enter Tryz.func230,Tryz.ntmps230
 go_wp2_with fail
 refine qb (fun W=>Bk W w.heap.size 50 (evC H)∧Bk W (w.heap.size+1) 50 (evC (ze 0 0))∧RdP W g l er∧Below w.heap.size w W∧w.heap.size+2≤W.heap.size) ⟨(Bk.new _ _ _).alloc _,Bk.new2 _ _ _ _,HR.o.below (((Below.refl _ _).alloc (Nat.le_refl _) _).alloc (by simp) _) (by omega),((Below.refl _ _).alloc (Nat.le_refl _) _).alloc (by simp) _,by simp⟩ ?_;rintro W ⟨k1,k2,kr,kb,kz⟩;have K1:=hiD k1;have K2:=hiD k2;have KB:=hiD kb;have KZ:=hiD kz;have CC:=hiD (zch g er l W kr hl HB.o);clear k1 k2 kr kb kz;refine CC.o.mono ?_;rintro e w2 ⟨rfl,hr2,hg2⟩;clear CC;have hgw:g<w.heap.size:=by omega
 have J1:=hiD (K1.o.kept hg2 (by omega));have J2:=hiD (K2.o.kept hg2 (by omega));have R2:Hid (RdP w2 g (zo H.e 109 l er).2.1 (zo H.e 109 l er).2.2):=hiD hr2;have GW:Hid (w.grownBy w2 (some g)):=hiD (zaa (zc0 g KB.o) hg2);have ZW:Hid (w.heap.size+2≤w2.heap.size):=hiD (by have:=hg2.size;have:=KZ.o;omega);obtain⟨H',hH'⟩:∃ H':Eh,H'={ H with e:={ H.e with mode:=((numV l er:Nat):Int) } }:=⟨_,rfl⟩;have HV:Hid (H'.e=(zo H.e 109 l er).1):=hiD (by rw[hH'];rfl);have c0:w2.cell? ⟨w.heap.size,6,none⟩=some (.int .i64 H.e.mode):=J1.o.cell 6;have f0:w2.frozen? ⟨w.heap.size,6,none⟩=false:=J1.o.frozen 6;clear hg2 hr2
 have II:Hid (EvIn w2 w2.heap.size H'):=hiD (by
  obtain⟨h1,h2,h3,h4,h5,h6,h7,h8⟩:=(FF.o.kept GW.o hgb).inn;rw[hH']
  exact⟨h1,h2,h3,h4,h5,h6,h7,h8⟩)
 have T1:Hid (Away H'.A1 H'.n1 (fun b=>base≤b∧(b<w.heap.size∨w.heap.size+2≤b))):=hiD (by rw[hH'];exact FF.o.two1);have T2:Hid (Away H'.A2 H'.n2 (fun b=>base≤b∧(b<w.heap.size∨w.heap.size+2≤b))):=hiD (by rw[hH'];exact FF.o.two2);have T3:Hid (Away H'.A3 H'.n3 (fun b=>base≤b∧(b<w.heap.size∨w.heap.size+2≤b))):=hiD (by rw[hH'];exact FF.o.two3)
 have P1:Hid (Bk (w2.setCell ⟨w.heap.size,6,none⟩ (.int .i64 ((numV l er:Nat):Int))) w.heap.size 50 (evC H')):=hiD (by
  have:=J1.o.put 6 (.int .i64 ((numV l er:Nat):Int));rw[hH']
  exact this)
 clear hH';go_wp2_with (with_reducible refine stn 54 ?_)
 refine held (qk (fun W=>Bk W w.heap.size 50 (evC H')∧Bk W (w.heap.size+1) 50 (evC (ze 0 0))∧w2.grownBy W (some w.heap.size)) ⟨P1.o,J2.o.far (show w.heap.size+1≠w.heap.size by omega) _,qe _ _ _ _⟩ ?_);rintro W4 ⟨q1,q2,q3⟩;have Q1:=hiD q1;have Q2:=hiD q2;have Q3:=hiD q3;clear q1 q2 q3 P1 c0 f0;refine wpList_load_mid rfl 50 (.tmp 3) rfl w.heap.size 0 rfl _ _ Q1.o.range Tryz.underlying50 rfl (by kernel_rfl) ?_;refine zi rfl 50 (.tmp 6) (.tmp 54) rfl (w.heap.size+1) 0 (evC H') rfl rfl 50 _ Q2.o (by rw[zd,zd];decide) (by rw[zd];exact zr) (zw _) ?_;intro w9 hw9;obtain rfl:=qa hw9 (by rw[zd,zd]);go_wp2_with fail
 refine bodyPost_ret (qi (a:=⟨w.heap.size+1,0,none⟩) rfl rfl (Bk.ev (Bk.setRow_same Q2.o _))) rfl ⟨H',rfl,HV.o,?_⟩;exact zdn hgb hbw FF.o R2.o GW.o HV.o II.o T1.o T2.o T3.o Q3.o Q2.o
theorem z1j (H:Eh)(g base er:Nat)(l:List Nat)(w:World)(HF:EvFar w base H)(hr:RdP w g l er)(hgb:g<base)(hbw:base≤w.heap.size)(hl:l.length≤140737488355328)(hb:∀ x∈l,x<256) :
 Calls Tryz.prog 230 #[.agg (evC H),.int .i32 102,.pointer (some ⟨g,0,none⟩)] w (WithIs H 102 g base l er w):=by
 have FF:=hiD HF;have HR:=hiD hr;have HB:=hiD hb;clear HF hr hb;go_enter Tryz.func230,Tryz.ntmps230
 go_wp2_with fail
 refine qb (fun W=>Bk W w.heap.size 50 (evC H)∧Bk W (w.heap.size+1) 50 (evC (ze 0 0))∧RdP W g l er∧Below w.heap.size w W∧w.heap.size+2≤W.heap.size) ⟨(Bk.new _ _ _).alloc _,Bk.new2 _ _ _ _,HR.o.below (((Below.refl _ _).alloc (Nat.le_refl _) _).alloc (by simp) _) (by omega),((Below.refl _ _).alloc (Nat.le_refl _) _).alloc (by simp) _,by simp⟩ ?_;rintro W ⟨k1,k2,kr,kb,kz⟩;have K1:=hiD k1;have K2:=hiD k2;have KB:=hiD kb;have KZ:=hiD kz;have CC:=hiD (zch g er l W kr hl HB.o);clear k1 k2 kr kb kz;refine CC.o.mono ?_;rintro e w2 ⟨rfl,hr2,hg2⟩;clear CC;have hgw:g<w.heap.size:=by omega
 have J1:=hiD (K1.o.kept hg2 (by omega));have J2:=hiD (K2.o.kept hg2 (by omega));have R2:Hid (RdP w2 g (zo H.e 102 l er).2.1 (zo H.e 102 l er).2.2):=hiD hr2;have GW:Hid (w.grownBy w2 (some g)):=hiD (zaa (zc0 g KB.o) hg2);have ZW:Hid (w.heap.size+2≤w2.heap.size):=hiD (by have:=hg2.size;have:=KZ.o;omega);obtain⟨H',hH'⟩:∃ H':Eh,H'={ H with e:={ H.e with flags:=((numV l er:Nat):Int) } }:=⟨_,rfl⟩;have HV:Hid (H'.e=(zo H.e 102 l er).1):=hiD (by rw[hH'];rfl);have c0:w2.cell? ⟨w.heap.size,7,none⟩=some (.int .i64 H.e.flags):=J1.o.cell 7;have f0:w2.frozen? ⟨w.heap.size,7,none⟩=false:=J1.o.frozen 7;clear hg2 hr2
 have II:Hid (EvIn w2 w2.heap.size H'):=hiD (by
  obtain⟨h1,h2,h3,h4,h5,h6,h7,h8⟩:=(FF.o.kept GW.o hgb).inn;rw[hH']
  exact⟨h1,h2,h3,h4,h5,h6,h7,h8⟩)
 have T1:Hid (Away H'.A1 H'.n1 (fun b=>base≤b∧(b<w.heap.size∨w.heap.size+2≤b))):=hiD (by rw[hH'];exact FF.o.two1);have T2:Hid (Away H'.A2 H'.n2 (fun b=>base≤b∧(b<w.heap.size∨w.heap.size+2≤b))):=hiD (by rw[hH'];exact FF.o.two2);have T3:Hid (Away H'.A3 H'.n3 (fun b=>base≤b∧(b<w.heap.size∨w.heap.size+2≤b))):=hiD (by rw[hH'];exact FF.o.two3)
 have P1:Hid (Bk (w2.setCell ⟨w.heap.size,7,none⟩ (.int .i64 ((numV l er:Nat):Int))) w.heap.size 50 (evC H')):=hiD (by
  have:=J1.o.put 7 (.int .i64 ((numV l er:Nat):Int));rw[hH']
  exact this)
 clear hH';go_wp2_with (with_reducible refine stn 54 ?_)
 refine held (qk (fun W=>Bk W w.heap.size 50 (evC H')∧Bk W (w.heap.size+1) 50 (evC (ze 0 0))∧w2.grownBy W (some w.heap.size)) ⟨P1.o,J2.o.far (show w.heap.size+1≠w.heap.size by omega) _,qe _ _ _ _⟩ ?_);rintro W4 ⟨q1,q2,q3⟩;have Q1:=hiD q1;have Q2:=hiD q2;have Q3:=hiD q3;clear q1 q2 q3 P1 c0 f0;refine wpList_load_mid rfl 50 (.tmp 3) rfl w.heap.size 0 rfl _ _ Q1.o.range Tryz.underlying50 rfl (by kernel_rfl) ?_;refine zi rfl 50 (.tmp 6) (.tmp 54) rfl (w.heap.size+1) 0 (evC H') rfl rfl 50 _ Q2.o (by rw[zd,zd];decide) (by rw[zd];exact zr) (zw _) ?_;intro w9 hw9;obtain rfl:=qa hw9 (by rw[zd,zd]);go_wp2_with fail
 refine bodyPost_ret (qi (a:=⟨w.heap.size+1,0,none⟩) rfl rfl (Bk.ev (Bk.setRow_same Q2.o _))) rfl ⟨H',rfl,HV.o,?_⟩;exact zdn hgb hbw FF.o R2.o GW.o HV.o II.o T1.o T2.o T3.o Q3.o Q2.o
theorem z1k (H:Eh)(g base er:Nat)(l:List Nat)(w:World)(HF:EvFar w base H)(hr:RdP w g l er)(hgb:g<base)(hbw:base≤w.heap.size)(hl:l.length≤140737488355328)(hb:∀ x∈l,x<256) :
 Calls Tryz.prog 230 #[.agg (evC H),.int .i32 100,.pointer (some ⟨g,0,none⟩)] w (WithIs H 100 g base l er w):=by
 have FF:=hiD HF;have HR:=hiD hr;have HB:=hiD hb;clear HF hr hb;go_enter Tryz.func230,Tryz.ntmps230
 go_wp2_with fail
 refine qb (fun W=>Bk W w.heap.size 50 (evC H)∧Bk W (w.heap.size+1) 50 (evC (ze 0 0))∧RdP W g l er∧Below w.heap.size w W∧w.heap.size+2≤W.heap.size) ⟨(Bk.new _ _ _).alloc _,Bk.new2 _ _ _ _,HR.o.below (((Below.refl _ _).alloc (Nat.le_refl _) _).alloc (by simp) _) (by omega),((Below.refl _ _).alloc (Nat.le_refl _) _).alloc (by simp) _,by simp⟩ ?_;rintro W ⟨k1,k2,kr,kb,kz⟩;have K1:=hiD k1;have K2:=hiD k2;have KB:=hiD kb;have KZ:=hiD kz;have CC:=hiD (zch g er l W kr hl HB.o);clear k1 k2 kr kb kz;refine CC.o.mono ?_;rintro e w2 ⟨rfl,hr2,hg2⟩;clear CC;have hgw:g<w.heap.size:=by omega
 have J1:=hiD (K1.o.kept hg2 (by omega));have J2:=hiD (K2.o.kept hg2 (by omega));have R2:Hid (RdP w2 g (zo H.e 100 l er).2.1 (zo H.e 100 l er).2.2):=hiD hr2;have GW:Hid (w.grownBy w2 (some g)):=hiD (zaa (zc0 g KB.o) hg2);have ZW:Hid (w.heap.size+2≤w2.heap.size):=hiD (by have:=hg2.size;have:=KZ.o;omega);obtain⟨H',hH'⟩:∃ H':Eh,H'={ H with e:={ H.e with date:=((numV l er:Nat):Int) } }:=⟨_,rfl⟩;have HV:Hid (H'.e=(zo H.e 100 l er).1):=hiD (by rw[hH'];rfl);have c0:w2.cell? ⟨w.heap.size,8,none⟩=some (.int .i64 H.e.date):=J1.o.cell 8;have f0:w2.frozen? ⟨w.heap.size,8,none⟩=false:=J1.o.frozen 8;clear hg2 hr2
 have II:Hid (EvIn w2 w2.heap.size H'):=hiD (by
  obtain⟨h1,h2,h3,h4,h5,h6,h7,h8⟩:=(FF.o.kept GW.o hgb).inn;rw[hH']
  exact⟨h1,h2,h3,h4,h5,h6,h7,h8⟩)
 have T1:Hid (Away H'.A1 H'.n1 (fun b=>base≤b∧(b<w.heap.size∨w.heap.size+2≤b))):=hiD (by rw[hH'];exact FF.o.two1);have T2:Hid (Away H'.A2 H'.n2 (fun b=>base≤b∧(b<w.heap.size∨w.heap.size+2≤b))):=hiD (by rw[hH'];exact FF.o.two2);have T3:Hid (Away H'.A3 H'.n3 (fun b=>base≤b∧(b<w.heap.size∨w.heap.size+2≤b))):=hiD (by rw[hH'];exact FF.o.two3)
 have P1:Hid (Bk (w2.setCell ⟨w.heap.size,8,none⟩ (.int .i64 ((numV l er:Nat):Int))) w.heap.size 50 (evC H')):=hiD (by
  have:=J1.o.put 8 (.int .i64 ((numV l er:Nat):Int));rw[hH']
  exact this)
 clear hH';go_wp2_with (with_reducible refine stn 54 ?_)
 refine held (qk (fun W=>Bk W w.heap.size 50 (evC H')∧Bk W (w.heap.size+1) 50 (evC (ze 0 0))∧w2.grownBy W (some w.heap.size)) ⟨P1.o,J2.o.far (show w.heap.size+1≠w.heap.size by omega) _,qe _ _ _ _⟩ ?_);rintro W4 ⟨q1,q2,q3⟩;have Q1:=hiD q1;have Q2:=hiD q2;have Q3:=hiD q3;clear q1 q2 q3 P1 c0 f0;refine wpList_load_mid rfl 50 (.tmp 3) rfl w.heap.size 0 rfl _ _ Q1.o.range Tryz.underlying50 rfl (by kernel_rfl) ?_;refine zi rfl 50 (.tmp 6) (.tmp 54) rfl (w.heap.size+1) 0 (evC H') rfl rfl 50 _ Q2.o (by rw[zd,zd];decide) (by rw[zd];exact zr) (zw _) ?_;intro w9 hw9;obtain rfl:=qa hw9 (by rw[zd,zd]);go_wp2_with fail
 refine bodyPost_ret (qi (a:=⟨w.heap.size+1,0,none⟩) rfl rfl (Bk.ev (Bk.setRow_same Q2.o _))) rfl ⟨H',rfl,HV.o,?_⟩;exact zdn hgb hbw FF.o R2.o GW.o HV.o II.o T1.o T2.o T3.o Q3.o Q2.o
theorem z1l (H:Eh)(g base er:Nat)(l:List Nat)(w:World)(HF:EvFar w base H)(hr:RdP w g l er)(hgb:g<base)(hbw:base≤w.heap.size)(hl:l.length≤140737488355328)(hb:∀ x∈l,x<256) :
 Calls Tryz.prog 230 #[.agg (evC H),.int .i32 110,.pointer (some ⟨g,0,none⟩)] w (WithIs H 110 g base l er w):=by
 have FF:=hiD HF;have HR:=hiD hr;have HB:=hiD hb;clear HF hr hb;go_enter Tryz.func230,Tryz.ntmps230
 go_wp2_with fail
 refine qb (fun W=>Bk W w.heap.size 50 (evC H)∧Bk W (w.heap.size+1) 50 (evC (ze 0 0))∧RdP W g l er∧Below w.heap.size w W∧w.heap.size+2≤W.heap.size) ⟨(Bk.new _ _ _).alloc _,Bk.new2 _ _ _ _,HR.o.below (((Below.refl _ _).alloc (Nat.le_refl _) _).alloc (by simp) _) (by omega),((Below.refl _ _).alloc (Nat.le_refl _) _).alloc (by simp) _,by simp⟩ ?_;rintro W ⟨k1,k2,kr,kb,kz⟩;have K1:=hiD k1;have K2:=hiD k2;have KB:=hiD kb;have KZ:=hiD kz;have CC:=hiD (zch g er l W kr hl HB.o);clear k1 k2 kr kb kz;refine CC.o.mono ?_;rintro e w2 ⟨rfl,hr2,hg2⟩;clear CC;have hgw:g<w.heap.size:=by omega
 have J1:=hiD (K1.o.kept hg2 (by omega));have J2:=hiD (K2.o.kept hg2 (by omega));have R2:Hid (RdP w2 g (zo H.e 110 l er).2.1 (zo H.e 110 l er).2.2):=hiD hr2;have GW:Hid (w.grownBy w2 (some g)):=hiD (zaa (zc0 g KB.o) hg2);have ZW:Hid (w.heap.size+2≤w2.heap.size):=hiD (by have:=hg2.size;have:=KZ.o;omega);obtain⟨H',hH'⟩:∃ H':Eh,H'={ H with e:={ H.e with n:=((numV l er:Nat):Int) } }:=⟨_,rfl⟩;have HV:Hid (H'.e=(zo H.e 110 l er).1):=hiD (by rw[hH'];rfl);have c0:w2.cell? ⟨w.heap.size,9,none⟩=some (.int .i64 H.e.n):=J1.o.cell 9;have f0:w2.frozen? ⟨w.heap.size,9,none⟩=false:=J1.o.frozen 9;clear hg2 hr2
 have II:Hid (EvIn w2 w2.heap.size H'):=hiD (by
  obtain⟨h1,h2,h3,h4,h5,h6,h7,h8⟩:=(FF.o.kept GW.o hgb).inn;rw[hH']
  exact⟨h1,h2,h3,h4,h5,h6,h7,h8⟩)
 have T1:Hid (Away H'.A1 H'.n1 (fun b=>base≤b∧(b<w.heap.size∨w.heap.size+2≤b))):=hiD (by rw[hH'];exact FF.o.two1);have T2:Hid (Away H'.A2 H'.n2 (fun b=>base≤b∧(b<w.heap.size∨w.heap.size+2≤b))):=hiD (by rw[hH'];exact FF.o.two2);have T3:Hid (Away H'.A3 H'.n3 (fun b=>base≤b∧(b<w.heap.size∨w.heap.size+2≤b))):=hiD (by rw[hH'];exact FF.o.two3)
 have P1:Hid (Bk (w2.setCell ⟨w.heap.size,9,none⟩ (.int .i64 ((numV l er:Nat):Int))) w.heap.size 50 (evC H')):=hiD (by
  have:=J1.o.put 9 (.int .i64 ((numV l er:Nat):Int));rw[hH']
  exact this)
 clear hH';go_wp2_with (with_reducible refine stn 54 ?_)
 refine held (qk (fun W=>Bk W w.heap.size 50 (evC H')∧Bk W (w.heap.size+1) 50 (evC (ze 0 0))∧w2.grownBy W (some w.heap.size)) ⟨P1.o,J2.o.far (show w.heap.size+1≠w.heap.size by omega) _,qe _ _ _ _⟩ ?_);rintro W4 ⟨q1,q2,q3⟩;have Q1:=hiD q1;have Q2:=hiD q2;have Q3:=hiD q3;clear q1 q2 q3 P1 c0 f0;refine wpList_load_mid rfl 50 (.tmp 3) rfl w.heap.size 0 rfl _ _ Q1.o.range Tryz.underlying50 rfl (by kernel_rfl) ?_;refine zi rfl 50 (.tmp 6) (.tmp 54) rfl (w.heap.size+1) 0 (evC H') rfl rfl 50 _ Q2.o (by rw[zd,zd];decide) (by rw[zd];exact zr) (zw _) ?_;intro w9 hw9;obtain rfl:=qa hw9 (by rw[zd,zd]);go_wp2_with fail
 refine bodyPost_ret (qi (a:=⟨w.heap.size+1,0,none⟩) rfl rfl (Bk.ev (Bk.setRow_same Q2.o _))) rfl ⟨H',rfl,HV.o,?_⟩;exact zdn hgb hbw FF.o R2.o GW.o HV.o II.o T1.o T2.o T3.o Q3.o Q2.o
theorem z1m (H:Eh)(g base er:Nat)(l:List Nat)(w:World)(HF:EvFar w base H)(hr:RdP w g l er)(hgb:g<base)(hbw:base≤w.heap.size)(hl:l.length≤140737488355328)(hb:∀ x∈l,x<256) :
 Calls Tryz.prog 230 #[.agg (evC H),.int .i32 121,.pointer (some ⟨g,0,none⟩)] w (WithIs H 121 g base l er w):=by
 have FF:=hiD HF;have HR:=hiD hr;have HB:=hiD hb;clear HF hr hb;go_enter Tryz.func230,Tryz.ntmps230
 go_wp2_with fail
 refine qb (fun W=>Bk W w.heap.size 50 (evC H)∧Bk W (w.heap.size+1) 50 (evC (ze 0 0))∧RdP W g l er∧Below w.heap.size w W∧w.heap.size+2≤W.heap.size) ⟨(Bk.new _ _ _).alloc _,Bk.new2 _ _ _ _,HR.o.below (((Below.refl _ _).alloc (Nat.le_refl _) _).alloc (by simp) _) (by omega),((Below.refl _ _).alloc (Nat.le_refl _) _).alloc (by simp) _,by simp⟩ ?_;rintro W ⟨k1,k2,kr,kb,kz⟩;have K1:=hiD k1;have K2:=hiD k2;have KB:=hiD kb;have KZ:=hiD kz;have CC:=hiD (zj1 g er l W kr hl HB.o);clear k1 k2 kr kb kz;refine CC.o.mono ?_;rintro e w2 ⟨rfl,hr2,hg2⟩;clear CC;have hgw:g<w.heap.size:=by omega
 have J1:=hiD (K1.o.kept hg2 (by omega));have J2:=hiD (K2.o.kept hg2 (by omega));have R2:Hid (RdP w2 g (zo H.e 121 l er).2.1 (zo H.e 121 l er).2.2):=hiD hr2;have GW:Hid (w.grownBy w2 (some g)):=hiD (zaa (zc0 g KB.o) hg2);have ZW:Hid (w.heap.size+2≤w2.heap.size):=hiD (by have:=hg2.size;have:=KZ.o;omega);obtain⟨H',hH'⟩:∃ H':Eh,H'={ H with e:={ H.e with body:=zl l er },A3:=some ⟨w2.heap.size,0,none⟩,n3:=(za (zl l er)).size,c3:=grownCap w2 (za (zl l er)).size 0 5 }:=⟨_,rfl⟩;have HV:Hid (H'.e=(zo H.e 121 l er).1):=hiD (by rw[hH'];rfl);have hbw3:Below w2.heap.size w2 (Lib.bytesWorld w2 5 (za (zl l er))):=(Below.refl _ _).grown (zhy w2 5 (za (zl l er)) none) (Nat.le_refl _) (fun k hk=>by cases hk)
 have BY:Hid (Bytes (Lib.bytesWorld w2 5 (za (zl l er))) (Lib.bytesWorld w2 5 (za (zl l er))).heap.size (some ⟨w2.heap.size,0,none⟩) (za (zl l er)).size (zl l er)):=hiD (by
  have h1:=zjy w2 5 (za (zl l er));rw[zbw _ (zpf HB.o)] at h1
  exact h1.more (by rw[Lib.bytesWorld_size];exact Nat.le_refl _))
 have B3:=hiD hbw3;have L1:=hiD (J1.o.below hbw3 J1.o.lt);have L2:=hiD (J2.o.below hbw3 J2.o.lt);have R3:=hiD (R2.o.below hbw3 R2.o.lt);have G3:=hiD (za0 GW.o (hbw3.mono (by have:=ZW.o;omega)));have c0:(Lib.bytesWorld w2 5 (za (zl l er))).cell? ⟨w.heap.size,10,none⟩=some (.slice H.A3 H.n3 H.c3):=L1.o.cell 10;have f0:(Lib.bytesWorld w2 5 (za (zl l er))).frozen? ⟨w.heap.size,10,none⟩=false:=L1.o.frozen 10;clear hg2 hr2 hbw3 J1 J2 R2 GW;have kcv:=Lib.run_convert_string_bytes (P:=Tryz.prog) w2 9 48 5 (za (zl l er)) Tryz.underlying9 Tryz.underlying48 Tryz.underlying5;generalize Lib.bytesWorld w2 5 (za (zl l er))=w3 at *
 have II:Hid (EvIn w3 w3.heap.size H'):=hiD (by
  obtain⟨h1,h2,h3,h4,h5,h6,h7,h8⟩:=(FF.o.kept G3.o hgb).inn;rw[hH']
  exact⟨h1,h2,BY.o,h4,h5,zfn l er hl,h7,h8⟩)
 have T1:Hid (Away H'.A1 H'.n1 (fun b=>base≤b∧(b<w.heap.size∨w.heap.size+2≤b))):=hiD (by rw[hH'];exact FF.o.two1);have T2:Hid (Away H'.A2 H'.n2 (fun b=>base≤b∧(b<w.heap.size∨w.heap.size+2≤b))):=hiD (by rw[hH'];exact FF.o.two2);have T3:Hid (Away H'.A3 H'.n3 (fun b=>base≤b∧(b<w.heap.size∨w.heap.size+2≤b))):=hiD (by rw[hH'];exact(fun _ a ha=>by cases ha;exact⟨by show base≤w2.heap.size;have:=ZW.o;omega,.inr ZW.o⟩))
 have P1:Hid (Bk (w3.setCell ⟨w.heap.size,10,none⟩ (.slice (some ⟨w2.heap.size,0,none⟩) (za (zl l er)).size (grownCap w2 (za (zl l er)).size 0 5))) w.heap.size 50 (evC H')):=hiD (by
  have:=L1.o.put 10 (.slice (some ⟨w2.heap.size,0,none⟩) (za (zl l er)).size (grownCap w2 (za (zl l er)).size 0 5));rw[hH']
  exact this)
 clear hH';go_wp2_with (with_reducible refine stn 54 ?_)
 refine held (qk (fun W=>Bk W w.heap.size 50 (evC H')∧Bk W (w.heap.size+1) 50 (evC (ze 0 0))∧w3.grownBy W (some w.heap.size)) ⟨P1.o,L2.o.far (show w.heap.size+1≠w.heap.size by omega) _,qe _ _ _ _⟩ ?_);rintro W4 ⟨q1,q2,q3⟩;have Q1:=hiD q1;have Q2:=hiD q2;have Q3:=hiD q3;clear q1 q2 q3 P1 c0 f0;refine wpList_load_mid rfl 50 (.tmp 3) rfl w.heap.size 0 rfl _ _ Q1.o.range Tryz.underlying50 rfl (by kernel_rfl) ?_;refine zi rfl 50 (.tmp 6) (.tmp 54) rfl (w.heap.size+1) 0 (evC H') rfl rfl 50 _ Q2.o (by rw[zd,zd];decide) (by rw[zd];exact zr) (zw _) ?_;intro w9 hw9;obtain rfl:=qa hw9 (by rw[zd,zd]);go_wp2_with fail
 refine bodyPost_ret (qi (a:=⟨w.heap.size+1,0,none⟩) rfl rfl (Bk.ev (Bk.setRow_same Q2.o _))) rfl ⟨H',rfl,HV.o,?_⟩;exact zdn hgb hbw FF.o R3.o G3.o HV.o II.o T1.o T2.o T3.o Q3.o Q2.o
theorem z1n (H:Eh)(g base er:Nat)(l:List Nat){c:Nat}(hc:c∈nineL)(w:World)(HF:EvFar w base H)(hr:RdP w g l er)(hgb:g<base)(hbw:base≤w.heap.size)(hl:l.length≤140737488355328)(hb:∀ x∈l,x<256) :
 Calls Tryz.prog 230 #[.agg (evC H),.int .i32 (c:Int),.pointer (some ⟨g,0,none⟩)] w (WithIs H c g base l er w):=by
 rcases zgm hc with rfl|rfl|rfl|rfl|rfl|rfl|rfl|rfl|rfl
 ·exact z1e H g base er l w HF hr hgb hbw hl hb
 ·exact z1f H g base er l w HF hr hgb hbw hl hb
 ·exact z1g H g base er l w HF hr hgb hbw hl hb
 ·exact z1h H g base er l w HF hr hgb hbw hl hb
 ·exact z1i H g base er l w HF hr hgb hbw hl hb
 ·exact z1j H g base er l w HF hr hgb hbw hl hb
 ·exact z1k H g base er l w HF hr hgb hbw hl hb
 ·exact z1l H g base er l w HF hr hgb hbw hl hb
 ·exact z1m H g base er l w HF hr hgb hbw hl hb
theorem zc1 {P:Program}{fn:Func}{p q:Tmp}{t1:TypeId}(h:fn.results=#[.cell p t1,.tmp q])(tmps:Array Value)(w:World)(a1:Addr)(v1 v2:Value)
 (hp:tmps.getD p undef=.pointer (some a1)) (hq:tmps.getD q undef=v2) (h1:(loadVar t1 a1).run P w=.ok v1 w) :
 (results fn tmps).run P w=.ok (.tuple #[v1,v2]) w:=by
 have hp':tmps[p]?.getD undef=.pointer (some a1):=by simpa using hp
 have hq':tmps[q]?.getD undef=v2:=by simpa using hq
 simp[results,h,hp',hq',asAddr,h1]
theorem zq2 (p:List Nat):∀ (x:St3),(∀ y∈x.2.1,y<256)→∀ y∈(p.foldl zad x).2.1,y<256:=by
 induction p with
 | nil=>intro x h;exact h
 | cons c p ih =>
   intro x h;rw[List.foldl_cons];exact ih _ (zp4 x.1 c x.2.2 h)
theorem z1o (p:List Nat):∀ (x:St3),(p.foldl zad x).2.1.length≤x.2.1.length:=by
 induction p with
 | nil=>intro x;exact Nat.le_refl _
 | cons c p ih =>
   intro x;rw[List.foldl_cons];exact Nat.le_trans (ih _) (zp5 x.1 c x.2.2)
theorem z1p {p:List Nat}{k c:Nat}(hc:p[k]?=some c)(x:St3):(p.take (k+1)).foldl zad x=zo ((p.take k).foldl zad x).1 c ((p.take k).foldl zad x).2.1 ((p.take k).foldl zad x).2.2:=by
 rw[zbz p k c hc,List.foldl_append];rfl
theorem It.kept {w w':World}{gi g pos:Nat}{p:List Nat}(h:It w gi p pos)(hg:w.grownBy w' (some g))(hne:gi≠g):It w' gi p pos:=(hg.block gi h.lt (fun e=>hne (Option.some.inj e))).trans h
theorem RdP.iter {w:World}{gi g pos e:Nat}{l p:List Nat}(hi:It w gi p pos)(h:RdP w g l e)(pos':Nat):RdP (w.iterAt gi (za p) pos') g l e:=Bk.iter hi (t:=246) h pos'
theorem z1q {w:World}{gi pos:Nat}{p:List Nat}(h:It w gi p pos)(pos':Nat):w.grownBy (w.iterAt gi (za p) pos') (some gi):=by
 have hb:=Lib.below_iterAt (Below.refl gi w) (Nat.le_refl gi) (za p) pos';exact⟨hb.os,hb.tape,hb.output,hb.size,fun k hk hne=>Lib.iterAt_other w gi k (za p) pos' (fun e=>hne (by rw[e]))⟩
theorem zk3 {w:World}{gi pos o:Nat}{p:List Nat}{v:Value}(hi:It w gi p pos)(h:w.cell? ⟨gi,o,none⟩=some v):False:=by
 unfold It at hi;simp[World.cell?,hi] at h
theorem EvFar.iter {w:World}{gi pos base:Nat}{p:List Nat}{H:Eh}(hi:It w gi p pos)(h:EvFar w base H)(pos':Nat):EvFar (w.iterAt gi (za p) pos') base H:=by
 have hg:=z1q hi pos';have hz:=hg.size;obtain⟨i1,i2,i3,i4,i5,i6,i7,i8⟩:=h.inn;have n1:Away H.A1 H.n1 (·≠gi):=fun hn a ha e=>by
  obtain⟨b,o,hA,_,hc⟩:=i1.2 hn;rw[hA] at ha;cases ha
  obtain⟨x,hx⟩:∃ x,H.e.ids[0]?=some x:=⟨_,List.getElem?_eq_getElem (by rw[i1.1];exact hn)⟩;have e':b=gi:=e;subst e';exact zk3 hi (hc 0 x hx)
 have n2:Away H.A2 H.n2 (·≠gi):=fun hn a ha e=>by
  obtain⟨b,o,hA,_,hc⟩:=i2.2 hn;rw[hA] at ha;cases ha
  obtain⟨x,hx⟩:∃ x,H.e.set[0]?=some x:=⟨_,List.getElem?_eq_getElem (by rw[i2.1];exact hn)⟩;have e':b=gi:=e;subst e';exact zk3 hi (hc 0 x hx 0 _ rfl)
 have n3:Away H.A3 H.n3 (·≠gi):=fun hn a ha e=>by
  obtain⟨b,o,hA,_,hc⟩:=i3.2.2 hn;rw[hA] at ha;cases ha
  have e':b=gi:=e;subst e';exact zk3 hi (hc 0 hn)
 exact⟨(h.inn.grown hg n1 n2 n3).more hz,h.a1,h.a2,h.a3⟩
def DecFar (l:List Nat)(w:World)(e:Ending)(w':World):Prop:=∃ H,e=.returned (.tuple #[.agg (evC H),.int .i64 ((decE l:Nat):Int)])∧H.e=decV l∧EvFar w' w.heap.size H∧Below w.heap.size w w'
structure DeAt (w:World)(b2 g b5 base gi:Nat)(p:List Nat)(pos:Nat)(st:St3)(H:Eh)(wx:World):Prop where
 it:It wx gi p pos
 res:Bk wx b2 50 (evC (ze 0 0))
 box:Bk wx b5 50 (evC H)
 far:EvFar wx base H
 val:H.e=((p.take pos).foldl zad st).1
 rd:RdP wx g ((p.take pos).foldl zad st).2.1 ((p.take pos).foldl zad st).2.2
 below:Below w.heap.size w wx
theorem z1r (A:Option Addr)(n c:Nat)(b:List Nat)(w:World)(hb:Bytes w w.heap.size A n b)(hn:n≤140737488355328)(hK:Kinds w) :
 Calls Tryz.prog 157 #[.slice A n c] w (DecFar b w):=by
 have HK:=hiD hK;have H256:=hiD hb.2.1;have HLN:Hid (b.length≤140737488355328):=hiD (by rw[hb.1];exact hn);have HBY:=hiD hb;clear hK hb;go_enter Tryz.func157,Tryz.ntmps157
 go_wp2_with fail
 refine qb (fun W=>Bk W w.heap.size 50 (evC (ze 0 0))∧Below w.heap.size w W∧W.heap.size=w.heap.size+1) ⟨Bk.new _ _ _,(Below.refl _ _).alloc (Nat.le_refl _) _,by simp⟩ ?_;rintro W ⟨k2,kb,kz⟩;have K2:=hiD k2;have KB:=hiD kb;have KZ:=hiD kz;clear k2 kb kz;refine(zo7 A n c _ b W (HBY.o.later KB.o)).mono ?_;rintro e w1 ⟨rfl,hr1,hb1⟩;obtain⟨g,hg⟩:∃ g,g=W.heap.size:=⟨_,rfl⟩;rw[← hg] at hr1 ⊢;have HG:=hiD (show g=w.heap.size+1 by rw[hg];exact KZ.o);have J2:=hiD (K2.o.below hb1 K2.o.lt);have JB:=hiD (KB.o.trans (hb1.mono KB.o.size));have JR:=hiD hr1;clear hg hr1 hb1 K2 KB KZ;have b1:Bk (w1.alloc (.cells (evC (ze 0 0)) 50)) w1.heap.size 50 (evC (ze 0 0)):=Bk.new _ _ _;obtain⟨b5,hb5⟩:∃ b5,b5=w1.heap.size:=⟨_,rfl⟩;have G5:Hid (g<b5):=hiD (by rw[hb5];exact JR.o.lt);have L5:Hid (w.heap.size≤b5):=hiD (by rw[hb5];exact JB.o.size)
 go_wp2_with fail
 refine qb (fun W=>Bk W b5 50 (evC (ze 0 0))∧Bk W w.heap.size 50 (evC (ze 0 0))∧RdP W g b 0∧Below w.heap.size w W∧b5<W.heap.size) ⟨by rw[hb5];exact b1,J2.o.alloc _,JR.o.below ((Below.refl _ _).alloc (Nat.le_refl _) _) JR.o.lt,JB.o.alloc JB.o.size _,by rw[hb5];simp⟩ ?_;rw[← hb5];clear hb5 b1 J2 JB JR;rintro W1 ⟨k5,k2,kr,kb,kz⟩;have K5:=hiD k5;have K2:=hiD k2;have KB:=hiD kb;have CN:=hiD (zch g 0 b W1 kr HLN.o H256.o);clear k5 k2 kr kb kz;refine CN.o.mono ?_;rintro e w2 ⟨rfl,hr2,hg2⟩;have c0:w2.cell? ⟨b5,0,none⟩=some (.int .i64 0):=(K5.o.kept hg2 (by have:=G5.o;omega)).cell 0;have f0:w2.frozen? ⟨b5,0,none⟩=false:=(K5.o.kept hg2 (by have:=G5.o;omega)).frozen 0;have M5:Hid (Bk (w2.setCell ⟨b5,0,none⟩ (.int .i64 ((numV b 0:Nat):Int))) b5 50 (evC (ze (zm b) 0))):=hiD ((K5.o.kept hg2 (by have:=G5.o;omega)).put 0 (.int .i64 ((numV b 0:Nat):Int)))
 have M2:Hid (Bk (w2.setCell ⟨b5,0,none⟩ (.int .i64 ((numV b 0:Nat):Int))) w.heap.size 50 (evC (ze 0 0))):=hiD ((K2.o.kept hg2 (by have:=HG.o;omega)).far (show w.heap.size≠b5 by have:=HG.o;have:=G5.o;omega) _);have MR:Hid (RdP (w2.setCell ⟨b5,0,none⟩ (.int .i64 ((numV b 0:Nat):Int))) g (zh b 0 8) (numE b 0)):=hiD (hr2.grown (qe _ _ _ _) (by intro e;injection e with e;have:=G5.o;omega));have MB:Hid (Below w.heap.size w (w2.setCell ⟨b5,0,none⟩ (.int .i64 ((numV b 0:Nat):Int)))):=hiD ((KB.o.grown hg2 KB.o.size (fun k hk=>by cases hk;have:=HG.o;omega)).setCell L5.o _);clear CN hr2 hg2 K5 K2 KB;go_wp2_with fail
 refine qb (fun W=>Bk W b5 50 (evC (ze (zm b) 0))∧Bk W w.heap.size 50 (evC (ze 0 0))∧RdP W g (zh b 0 8) (numE b 0)∧Below w.heap.size w W) ⟨M5.o,M2.o,MR.o,MB.o⟩ ?_;clear M5 M2 MR MB c0 f0;rintro W3 ⟨k5,k2,kr,kb⟩;have K5:=hiD k5;have K2:=hiD k2;have KB:=hiD kb;have CN:=hiD (zch g _ _ W3 kr (Nat.le_trans zaf HLN.o) (zab H256.o));clear k5 k2 kr kb;refine CN.o.mono ?_;rintro e w4 ⟨rfl,hr4,hg4⟩;obtain⟨v4,hv4⟩:∃ v,numV (zh b 0 8) (numE b 0)=v:=⟨_,rfl⟩;have HT:Hid (jq b=((v4:Nat):Int)):=hiD (by rw[← hv4];rfl);rw[hv4];have hr4':RdP w4 g (jp b) (zcj b):=hr4;have c1:w4.cell? ⟨b5,1,none⟩=some (.int .i64 0):=(K5.o.kept hg4 (by have:=G5.o;omega)).cell 1;have f1:w4.frozen? ⟨b5,1,none⟩=false:=(K5.o.kept hg4 (by have:=G5.o;omega)).frozen 1
 have M5:Hid (Bk (w4.setCell ⟨b5,1,none⟩ (.int .i64 ((v4:Nat):Int))) b5 50 (evC (ze (zm b) (jq b)))):=hiD (by
  have h1:=(K5.o.kept hg4 (by have:=G5.o;omega)).put 1 (.int .i64 ((v4:Nat):Int));rw[HT.o]
  exact h1)
 have M2:Hid (Bk (w4.setCell ⟨b5,1,none⟩ (.int .i64 ((v4:Nat):Int))) w.heap.size 50 (evC (ze 0 0))):=hiD ((K2.o.kept hg4 (by have:=HG.o;omega)).far (show w.heap.size≠b5 by have:=HG.o;have:=G5.o;omega) _);have MR:Hid (RdP (w4.setCell ⟨b5,1,none⟩ (.int .i64 ((v4:Nat):Int))) g (jp b) (zcj b)):=hiD (hr4'.grown (qe _ _ _ _) (by intro e;injection e with e;have:=G5.o;omega));have MB:Hid (Below w.heap.size w (w4.setCell ⟨b5,1,none⟩ (.int .i64 ((v4:Nat):Int)))):=hiD ((KB.o.grown hg4 KB.o.size (fun k hk=>by cases hk;have:=HG.o;omega)).setCell L5.o _);clear CN hr4 hr4' hg4 K5 K2 KB hv4;go_wp2_with (with_reducible refine stn 18 ?_)
 refine held (qk (fun W=>Bk W b5 50 (evC (ze (zm b) (jq b)))∧Bk W w.heap.size 50 (evC (ze 0 0))∧RdP W g (jp b) (zcj b)∧Below w.heap.size w W) ⟨M5.o,M2.o,MR.o,MB.o⟩ ?_);clear M5 M2 MR MB c1 f1;rintro W5 ⟨k5,k2,kr,kb⟩;have K5:=hiD k5;have K2:=hiD k2;have KR:=hiD kr;have KB:=hiD kb;have c0:W5.cell? ⟨b5,0,none⟩=some (.int .i64 (zm b)):=k5.cell 0;clear k5 k2 kr kb;go_wp2_with fail
 refine(zrh (zm b) W5 (HK.o.below KB.o)).mono ?_;rintro e W6 ⟨rfl,hb6⟩;have L5':=hiD (K5.o.below hb6 K5.o.lt);have L2:=hiD (K2.o.below hb6 K2.o.lt);have LR:=hiD (KR.o.below hb6 KR.o.lt);have LB:=hiD (KB.o.trans (hb6.mono KB.o.size));clear hb6 c0 K5 K2 KR KB;obtain⟨p,hp⟩:∃ p,zg (zm b)=p:=⟨_,rfl⟩;have he:(za p).toList.isEmpty=decide (p=[]):=zeo p;have HE:Hid (zai b=jl (zcj b) (decide (p=[]))):=hiD (by rw[← hp];rfl);have HS:Hid (decS b=p.foldl zad (bare (zm b) (jq b),jp b,zai b)):=hiD (by rw[← hp];rfl);have H128:Hid (∀ x∈p,x<128):=hiD (by rw[← hp];exact zkg _);have H9:Hid (∀ x∈p,x∈nineL):=hiD (by rw[← hp];exact(zgk _).1);rw[hp];clear hp;obtain⟨be,hbe⟩:∃ be,decide (p=[])=be:=⟨_,rfl⟩;rw[hbe] at he HE;clear hbe;go_wp2_with fail
 refine(zx1 g _ be _ W6 LR.o).mono ?_;rintro e w7 ⟨rfl,hr7,hg7⟩;rw[← HE.o] at hr7;have N5:=hiD (L5'.o.kept hg7 (by have:=G5.o;omega));have N2:=hiD (L2.o.kept hg7 (by have:=HG.o;omega));have NR:=hiD hr7;have NB:Hid (Below w.heap.size w w7):=hiD (LB.o.grown hg7 LB.o.size (fun k hk=>by cases hk;have:=HG.o;omega));clear hr7 hg7 he L5' L2 LR LB;go_wp2_with fail
 obtain⟨gi,hgi⟩:∃ gi,gi=w7.heap.size:=⟨_,rfl⟩;have I0:Hid (It (w7.iter (za p) 0) gi p 0):=hiD (by rw[hgi];exact World.iter_heap w7 (za p) 0)
 have LI:Hid (w.heap.size≤gi∧gi≠g∧gi≠b5∧b5<gi):=hiD (by
  have h1:=NB.o.size;have h2:=NR.o.lt;have h3:=N5.o.lt;rw[hgi]
  exact⟨h1,by omega,by omega,h3⟩)
 rw[← hgi];clear hgi
 go_loopw [8] (fun _ wx=>∃ (pos:Nat) (H:Eh),pos≤p.length∧DeAt w w.heap.size g b5 (b5+1) gi p pos (bare (zm b) (jq b),jp b,zai b) H wx) (fun _ wx=>p.length-wx.iterPos gi)
 case atStart =>
  refine⟨0,ze (zm b) (jq b),Nat.zero_le _,?_⟩;exact { it:=I0.o,res:=N2.o.alloc _,box:=N5.o.alloc _,far:=EvFar.bare _ _ _ _,val:=rfl,rd:=NR.o.below ((Below.refl _ _).alloc (Nat.le_refl _) _) NR.o.lt,below:=NB.o.alloc NB.o.size _ }
 case round =>
  obtain⟨pos,H,hpos,hr⟩:=hrel;have HR:=hiD hr;have HM:Hid (wr.iterPos gi=pos):=hiD hr.it.pos;clear hr I0 N5 N2 NR NB;by_cases hlt:pos<p.length
  ·obtain⟨x,hx⟩:∃ x,p[pos]?=some x:=⟨_,List.getElem?_eq_getElem hlt⟩
   have hnx:=fun ty=>zrl (P:=Tryz.prog) H128.o HR.o.it hx ty;have HX9:=hiD (H9.o x (List.mem_of_getElem? hx));have HST:=hiD (z1p hx (bare (zm b) (jq b),jp b,zai b));have HVL:=hiD HR.o.val;obtain⟨S,hS⟩:∃ S,(p.take pos).foldl zad (bare (zm b) (jq b),jp b,zai b)=S:=⟨_,rfl⟩
   have HSL:Hid (S.2.1.length≤140737488355328∧∀ y∈S.2.1,y<256):=hiD (by
    rw[← hS]
    exact⟨Nat.le_trans (z1o _ _) (Nat.le_trans (Nat.le_trans zaf zaf) HLN.o),zq2 _ _ (zab (zab H256.o))⟩)
   have hrd:=HR.o.rd;rw[hS] at HST HVL hrd;have RI:=hiD (RdP.iter HR.o.it hrd (pos+1));have BI:=hiD (Bk.iter HR.o.it HR.o.box (pos+1));have SI:=hiD (Bk.iter HR.o.it HR.o.res (pos+1));have FI:=hiD (EvFar.iter HR.o.it HR.o.far (pos+1));have II:=hiD (HR.o.it.iter (pos+1));have LB:=hiD (Lib.below_iterAt HR.o.below LI.o.1 (za p) (pos+1));clear hx hS hrd HR;go_wp2_with (with_reducible refine stn 30 ?_)
   refine held (qk (fun W=>It W gi p (pos+1)∧Bk W w.heap.size 50 (evC (ze 0 0))∧Bk W b5 50 (evC H)∧EvFar W (b5+1) H∧RdP W g S.2.1 S.2.2∧Below w.heap.size w W) ⟨II.o,SI.o,BI.o,FI.o,RI.o,LB.o⟩ ?_);rintro W8 ⟨q1,q2,q3,q4,q5,q6⟩;have U1:=hiD q1;have U2:=hiD q2;have U3:=hiD q3;have U6:=hiD q6;have CW:=hiD (z1n H g (b5+1) S.2.2 S.2.1 HX9.o W8 q4 q5 (by have:=G5.o;omega) (by have:=q3.lt;omega) HSL.o.1 HSL.o.2);clear q1 q2 q3 q4 q5 q6 hnx RI BI SI FI II LB;refine wpList_load_mid rfl 50 (.tmp 5) rfl b5 0 rfl _ _ U3.o.range Tryz.underlying50 rfl (by kernel_rfl) ?_;go_wp2_with fail
   refine CW.o.mono ?_;rintro e W9 ⟨H',rfl,hv,hfar,hrd,hgr⟩;have V1:=hiD (U1.o.kept hgr LI.o.2.1);have V2:=hiD (U2.o.kept hgr (by have:=HG.o;omega));have V3:=hiD (U3.o.kept hgr (by have:=G5.o;omega));have VF:=hiD hfar;have VR:=hiD hrd;have VV:Hid (H'.e=((p.take (pos+1)).foldl zad (bare (zm b) (jq b),jp b,zai b)).1∧(zo H.e x S.2.1 S.2.2).2=((p.take (pos+1)).foldl zad (bare (zm b) (jq b),jp b,zai b)).2):=hiD (by rw[hv,HST.o,HVL.o];exact⟨rfl,rfl⟩);have VB:Hid (Below w.heap.size w W9):=hiD (U6.o.grown hgr U6.o.size (fun k hk=>by cases hk;have:=HG.o;omega));clear hv hfar hrd hgr U1 U2 U3 U6 CW HST HVL;go_wp2_with (with_reducible refine st0 ?_)
   refine held (zi rfl 50 (.tmp 5) (.tmp 33) rfl b5 0 (evC H') rfl rfl 50 (evC H) V3.o (by rw[zd,zd];decide) (by rw[zd];exact zr) (zw _) ?_);intro w10 hw10;simp only[Act.put];obtain rfl:=qa hw10 (by rw[zd,zd])
   have R:Hid (DeAt w w.heap.size g b5 (b5+1) gi p (pos+1) (bare (zm b) (jq b),jp b,zai b) H' (W9.setRow b5 (evC H'))):=hiD {
    it:=V1.o.far V3.o
    res:=V2.o.setRow_other (by have:=HG.o;have:=G5.o;omega) _
    box:=V3.o.setRow_same _
    far:=VF.o.kept (jy V3.o _) (Nat.lt_succ_self _)
    val:=VV.o.1
    rd:=by
     have:=VR.o.grown (jy V3.o (evC H')) (by intro e;injection e with e;have:=G5.o;omega);rw[VV.o.2] at this;exact this
    below:=below_setRow VB.o L5.o _ }
   clear hw10 V1 V2 V3 VF VR VV VB;go_wp2_with fail
   go_roundw
   case rel=>exact⟨pos+1,H',by omega,R.o⟩
   case measure=>rw[R.o.it.pos];rw[HM.o];omega
  ·have hnx:=fun ty=>zrm (P:=Tryz.prog) HR.o.it (by omega) ty
   obtain rfl:pos=p.length:=by omega
   have hv:=HR.o.val;have hrd:=HR.o.rd;rw[List.take_of_length_le (Nat.le_refl _),← HS.o] at hv hrd;have HV:=hiD hv;have HRS:=hiD HR.o.res;have HBX:=hiD HR.o.box;have HFR:=hiD HR.o.far;have HBL:=hiD HR.o.below;have HDL:Hid (∀ y∈(decS b).2.1,y<256):=hiD (by rw[HS.o];exact zq2 _ _ (zab (zab H256.o)));have CD:=hiD (zx3 g _ _ wr hrd HDL.o);have HDE:Hid (decE b=if decD b=0 then (if z7 (decS b).1=true then 0 else 3)else decD b):=hiD rfl;have HDV:Hid (decV b=if decE b=0 then (decS b).1 else bare 0 0):=hiD rfl;obtain⟨dd,hdd⟩:∃ dd,zcw (decS b).2.1 (decS b).2.2=dd:=⟨_,rfl⟩;have hdd2:decD b=dd:=hdd;rw[hdd] at CD;rw[hdd2] at HDE;clear hv hrd hdd hdd2 HR;go_wp2_with fail
   refine CD.o.mono ?_;rintro e w' ⟨rfl,rfl⟩;clear CD hnx;by_cases h0:dd=0
   ·subst h0
    go_wp2_with (with_reducible refine stn 40 ?_)
    refine held (wpList_load_mid rfl 50 (.tmp 5) rfl b5 0 rfl _ _ HBX.o.range Tryz.underlying50 rfl (by kernel_rfl) ?_);go_wp2_with fail
    refine(zla H wr HFR.o.inn (HK.o.below HBL.o)).mono ?_;rintro e W8 ⟨rfl,hb8⟩;have X1:=hiD (HRS.o.below hb8 HRS.o.lt);have X2:=hiD (HBX.o.below hb8 HBX.o.lt);have X3:=hiD (HFR.o.below hb8);have X4:=hiD (HBL.o.trans (hb8.mono HBL.o.size));have HRE:Hid (z7 H.e=z7 (decS b).1):=hiD (by rw[HV.o]);clear hb8 HRS HBX HFR HBL;cases hre:z7 H.e
    ·have HE3:Hid (decE b=3):=hiD (by rw[HDE.o,if_pos (by trivial),← HRE.o,hre];rfl)
     have HVB:Hid (decV b=bare 0 0):=hiD (by rw[HDV.o,HE3.o];rfl);clear hre;go_wp2_with (with_reducible refine st0 ?_)
     refine held (zi rfl 50 (.tmp 2) (.tmp 43) rfl w.heap.size 0 (evC (ze 0 0)) rfl rfl 50 _ X1.o (by rw[zd];decide) (by rw[zd];exact zr) (zw _) ?_);intro w10 hw10;obtain rfl:=qa hw10 (by rw[zd]);go_wp2_with fail
     refine bodyPost_ret (zc1 rfl _ _ ⟨w.heap.size,0,none⟩ _ _ rfl rfl (Bk.ev (Bk.setRow_same X1.o _))) rfl ⟨ze 0 0,by rw[HE3.o];rfl,by rw[HVB.o];rfl,EvFar.bare _ _ _ _,below_setRow X4.o (Nat.le_refl _) _⟩
    ·have HE0:Hid (decE b=0):=hiD (by rw[HDE.o,if_pos (by trivial),← HRE.o,hre];rfl)
     have HVB:Hid (decV b=(decS b).1):=hiD (by rw[HDV.o,HE0.o];rfl);clear hre;go_wp2_with (with_reducible refine stn 44 ?_)
     refine held (wpList_load_mid rfl 50 (.tmp 5) rfl b5 0 rfl _ _ X2.o.range Tryz.underlying50 rfl (by kernel_rfl) ?_);go_wp2_with (with_reducible refine st0 ?_)
     refine held (zi rfl 50 (.tmp 2) (.tmp 44) rfl w.heap.size 0 (evC H) rfl rfl 50 _ X1.o (by rw[zd,zd];decide) (by rw[zd];exact zr) (zw _) ?_);intro w10 hw10;obtain rfl:=qa hw10 (by rw[zd,zd]);go_wp2_with fail
     refine bodyPost_ret (zc1 rfl _ _ ⟨w.heap.size,0,none⟩ _ _ rfl rfl (Bk.ev (Bk.setRow_same X1.o _))) rfl ⟨H,by rw[HE0.o];rfl,by rw[HVB.o];exact HV.o,(X3.o.kept (jy X1.o _) (by have:=L5.o;omega)).mono (by have:=L5.o;omega),below_setRow X4.o (Nat.le_refl _) _⟩
   ·have hne:(((dd:Nat):Int) != 0)=true:=by simpa using h0
    have HE3:Hid (decE b=dd):=hiD (by rw[HDE.o,if_neg h0]);have HVB:Hid (decV b=bare 0 0):=hiD (by rw[HDV.o,HE3.o,if_neg h0]);clear h0;go_wp2_with (with_reducible refine st0 ?_)
    refine held (zi rfl 50 (.tmp 2) (.tmp 38) rfl w.heap.size 0 (evC (ze 0 0)) rfl rfl 50 _ HRS.o (by rw[zd];decide) (by rw[zd];exact zr) (zw _) ?_);intro w10 hw10;obtain rfl:=qa hw10 (by rw[zd]);go_wp2_with fail
    refine bodyPost_ret (zc1 rfl _ _ ⟨w.heap.size,0,none⟩ _ _ rfl rfl (Bk.ev (Bk.setRow_same HRS.o _))) rfl ⟨ze 0 0,by rw[HE3.o]<;>rfl,by rw[HVB.o];rfl,EvFar.bare _ _ _ _,below_setRow HBL.o (Nat.le_refl _) _⟩
open Go.ChangeShapes Go.WideShapes Go.ChangeAt Go.Deep
theorem zk4 {H:Type}{enc:TypeId×Value→H}{P:Program}{w:World}{base:Nat}{sp:Nat→Bool}{held:Bool}{fuel n:Nat}{t e ts ti:TypeId}{k:IntKind}{fs:Array Field}{f0 f1:Field}{cs:List Value}{L:List (Int×List UInt8)}{p:List MemPlace}
 (ht:P.underlying t=some (.array n e)) (he:P.underlying e=some (.struct fs)) (hc:P.cellsOf e=2) (h0:fs[0]?=some f0) (h1:fs[1]?=some f1) (o0:f0.offset=0) (o1:f1.offset=1) (t0:f0.type=ti) (t1:f1.type=ts)
 (hs:P.underlying ts=some .string) (hi:P.underlying ti=some (.int k)) (c0:P.cellsOf ts=1) (c1:P.cellsOf ti=1)
 (h:DataW.trod enc P w base sp held fuel t cs=some (.agg (L.map fun x=>.agg [.lit (.int k x.1),.lit (.string x.2)]),p)) :
 ∀ i z s,L[i]?=some (z,s)→cs[i*2]?=some (.int k z)∧cs[i*2+1]?=some (.string ⟨s.toArray⟩):=by
 obtain⟨xs,m,rfl,hx,hl,hxl,hel⟩:=DataW.trod_array ht h;simp only[Prod.mk.injEq,DataW.agg.injEq] at hx;intro i z s hi2;have hlen:L.length=n:=by
  have:=congrArg List.length hx.1;simp only[List.length_map] at this;rw[this,hxl]
 have hin:i<n:=by rw[← hlen];exact(List.getElem?_eq_some_iff.1 hi2).1
 have e1:=hel i hin;rw[hc] at e1;have hxi:=congrArg (·[i]?) hx.1;simp only[List.getElem?_map,hi2,Option.map_some] at hxi;obtain⟨x,hxe⟩:∃ x,xs[i]?=some x:=⟨xs[i]'(by omega),List.getElem?_eq_getElem (by omega)⟩;rw[hxe] at e1 hxi;simp only[Option.map_some,Option.some.injEq] at hxi;obtain⟨ys,q,hm,hy,hyl,hyn,hye⟩:=DataW.trod_struct he e1;have hy1:x.1=.agg (ys.map (·.1)):=by rw[hy]
 rw[hy1] at hxi;injection hxi with hxi;have a0:=hye 0 f0 h0;have a1:=hye 1 f1 h1;rw[o0,t0,c1] at a0;rw[o1,t1,c0] at a1;have b0:=congrArg (·[0]?) hxi;have b1:=congrArg (·[1]?) hxi;simp only[List.getElem?_map,List.getElem?_cons_zero,List.getElem?_cons_succ] at b0 b1;obtain⟨y0,hy0⟩:∃ y,ys[0]?=some y:=by cases hq:ys[0]? with
  | none=>rw[hq] at b0;cases b0
  | some y=>exact⟨y,rfl⟩
 obtain⟨y1,hy1'⟩:∃ y,ys[1]?=some y:=by cases hq:ys[1]? with
  | none=>rw[hq] at b1;cases b1
  | some y=>exact⟨y,rfl⟩
 rw[hy0] at a0 b0;rw[hy1'] at a1 b1;obtain⟨zb,hzb,hzx,_⟩:=DataW.trod_int hi a0;obtain⟨sb,hsb,hsx,_⟩:=DataW.trod_string hs a1;rw[hzx] at b0;rw[hsx] at b1;simp only[Option.map_some,Option.some.injEq,DataW.lit.injEq,Lit.string.injEq,Lit.int.injEq,true_and] at b0 b1;have g0:=congrArg (·[0]?) hzb;have g1:=congrArg (·[0]?) hsb;simp only[List.getElem?_take,List.getElem?_drop,List.getElem?_cons_zero,Nat.zero_lt_one,if_true,Nat.zero_add,Nat.add_zero] at g0 g1;refine⟨?_,?_⟩
 ·rw[b0]
  simpa using g0
 ·rw[b1]
  simpa using g1
theorem zcn {α:Type}{P:Program}{t:TypeId}{fs:Array Field}{r:RowRel α}{H:Type}{enc:TypeId×Value→H}{w:World}{base:Nat}{held:Bool}{fuel:Nat}{cs:List Value}{x:DataW H×List MemPlace}
 (ht:P.underlying t=some (.struct fs)) (h:DataW.trod enc P w base (fun _=>true) held fuel t cs=some x) (hz:(x.1.weights P t).all (·≤reachBytes)=true)
 (j off:Nat) (ft:TypeId) (hj0:(fs[j]?).map (fun f=>(f.type,f.offset))=some (ft,off)) (ho:Opens P ft r):cs.length=P.cellsOf t∧∃ a,r.R w w.heap.size ((cs.drop off).take r.k) a:=by
 obtain⟨f,hj,he⟩:=Option.map_eq_some_iff.1 hj0;simp only[Prod.mk.injEq] at he;obtain⟨rfl,rfl⟩:=he;obtain⟨xs,m,hfu,hx,hl,hxl,hf⟩:=DataW.trod_struct ht h;have h0:=hf j f hj;have hjl:j<xs.length:=by rw[hxl];exact(Array.getElem?_eq_some_iff.1 hj).1
 rw[List.getElem?_eq_getElem hjl,ho.1] at h0;refine⟨hl,ho.2 H enc w base held m _ _ h0 ?_⟩;rw[List.all_eq_true];intro q hq;refine List.all_eq_true.1 hz q ?_;rw[hx];simp only[DataW.weights,ht];exact DataW.weights_mem_each (j:=j) (by rw[List.getElem?_map,Array.getElem?_toList,hj];rfl) (by rw[List.getElem?_map,List.getElem?_eq_getElem hjl];rfl) q hq
def rgRel:RowRel Rg where
 k:=2
 R:=fun _ _ cs r=>cs=rgC r
 len:=fun h=>by rw[h];rfl
 keep:=fun h _=>h
 more:=fun h _=>h
theorem zq3 {α:Type}{l:List α}(h:l.length=2):∃ a b,l=[a,b]:=by
 match l,h with
 | [a,b],_=>exact⟨a,b,rfl⟩
theorem z1s:Opens Tryz.prog 114 rgRel:=by
 refine⟨by kernel_rfl,fun H enc w base held fuel cs x h hz=>?_⟩;obtain⟨xs,m,hfu,hx,hl,hxl,hf⟩:=DataW.trod_struct Tryz.underlying114 h;replace hxl:xs.length=2:=hxl;have hl2:cs.length=2:=hl.trans (by kernel_rfl);have h0:DataW.trod enc Tryz.prog w base (fun _=>true) held m 3 ((cs.drop 0).take (Tryz.prog.cellsOf 3))=xs[0]?:=hf 0 _ rfl;have h1:DataW.trod enc Tryz.prog w base (fun _=>true) held m 3 ((cs.drop 1).take (Tryz.prog.cellsOf 3))=xs[1]?:=hf 1 _ rfl;have c0:Tryz.prog.cellsOf 3=1:=by kernel_rfl
 rw[c0] at h0 h1;obtain⟨v0,v1,rfl⟩:=zq3 hl2;obtain⟨y0,y1,rfl⟩:=zq3 hxl;simp only[List.drop_zero,List.drop_succ_cons,List.take_succ_cons,List.take_zero,List.getElem?_cons_zero,List.getElem?_cons_succ] at h0 h1;obtain⟨a,ha,_,_⟩:=DataW.trod_int Tryz.underlying3 h0;obtain⟨b,hb,_,_⟩:=DataW.trod_int Tryz.underlying3 h1;simp only[List.cons.injEq,and_true] at ha hb;exact⟨(a,b),by rw[ha,hb];rfl⟩
theorem z1t:Opens Tryz.prog 47 rgRel.slice:=zge Tryz.underlying47 (by kernel_rfl) (by decide) (by rw[show Tryz.prog.bytesOf 114=16 from by kernel_rfl];omega) z1s
theorem z1u:Opens Tryz.prog 46 (RowRel.int .i64).slice:=zge Tryz.underlying46 (by kernel_rfl) (by decide) (by rw[show Tryz.prog.bytesOf 3=8 from by kernel_rfl];omega) (zot Tryz.underlying3 (by kernel_rfl))
theorem ColK.of_rgs {w:World}{B:Nat}{A:Option Addr}{n c:Nat}{l:List Rg}(h:rgRel.slice.R w B [.slice A n c] l):ColK 2 rgC w B A n l∧n≤140737488355328:=by
 obtain⟨A1,n1,c1,e,h1,h2,h3,h4,h5⟩:=h;injection e with e _;injection e with e1 e2 e3;subst e1;subst e2;subst e3;refine⟨⟨h4,fun hn=>?_⟩,h3⟩;obtain⟨b,o,e,hb,hr⟩:=h5 hn;refine⟨b,o,e,hb,fun i a ha=>?_⟩;obtain⟨cs,hc,hcs⟩:=hr i a ha;rw[show cs=rgC a from hcs] at hc;exact hc
theorem z1v {α:Type}{l:List α}(h:l.length=11):∃ a b c d e f g i j k m,l=[a,b,c,d,e,f,g,i,j,k,m]:=by
 match l,h with
 | [a,b,c,d,e,f,g,i,j,k,m],_=>exact⟨a,b,c,d,e,f,g,i,j,k,m,rfl⟩
theorem zq4:Opens Tryz.prog 48 RowRel.bytes:=zxn Tryz.underlying48 Tryz.underlying5 (by kernel_rfl) (by kernel_rfl) (by rw[show Tryz.prog.bytesOf 5=1 from by kernel_rfl];omega)
theorem zfo:Opens Tryz.prog 3 (RowRel.int .i64):=zot Tryz.underlying3 (by kernel_rfl)
theorem zq5:Opens Tryz.prog 9 RowRel.str:=zxl Tryz.underlying9 (by kernel_rfl)
def evRel:RowRel Eh where
 k:=11
 R:=fun w B cs h=>cs=(evC h).toList∧EvIn w B h
 len:=fun h=>by rw[h.1];rfl
 keep:=fun h hk=>⟨h.1,h.2.1.keep hk,h.2.2.1.keep hk,h.2.2.2.1.keep hk,h.2.2.2.2⟩
 more:=fun h hB=>⟨h.1,h.2.more hB⟩
theorem zq6 {α:Type}{r:RowRel α}{w:World}{B:Nat}{v:Value}{l:List α}(h:r.slice.R w B [v] l):∃ A n c,v=.slice A n c:=by
 obtain⟨A,n,c,e,_⟩:=h;injection e with e _;exact⟨A,n,c,e⟩
theorem zq7 {w:World}{B:Nat}{A:Option Addr}{n c:Nat}{l:List Nat}(h:RowRel.bytes.R w B [.slice A n c] l):Bytes w B A n l∧n≤140737488355328∧n≤c∧c≤maxLen:=by
 obtain⟨A1,n1,c1,e,h1,h2,h3,h4⟩:=h;injection e with e _;injection e with e1 e2 e3;subst e1;subst e2;subst e3;exact⟨h4,h3,h1,h2⟩
theorem z1w:Opens Tryz.prog 50 evRel:=by
 refine⟨by kernel_rfl,fun H enc w base held fuel cs x h hz=>?_⟩;obtain⟨hl,a0,h0⟩:=zcn Tryz.underlying50 h hz 0 0 3 rfl zfo;obtain⟨_,a1,h1⟩:=zcn Tryz.underlying50 h hz 1 1 3 rfl zfo;obtain⟨_,a2,h2⟩:=zcn Tryz.underlying50 h hz 2 2 9 rfl zq5;obtain⟨_,a3,h3⟩:=zcn Tryz.underlying50 h hz 3 3 9 rfl zq5;obtain⟨_,a4,h4⟩:=zcn Tryz.underlying50 h hz 4 4 46 rfl z1u;obtain⟨_,a5,h5⟩:=zcn Tryz.underlying50 h hz 5 5 47 rfl z1t;obtain⟨_,a6,h6⟩:=zcn Tryz.underlying50 h hz 6 6 3 rfl zfo;obtain⟨_,a7,h7⟩:=zcn Tryz.underlying50 h hz 7 7 3 rfl zfo;obtain⟨_,a8,h8⟩:=zcn Tryz.underlying50 h hz 8 8 3 rfl zfo;obtain⟨_,a9,h9⟩:=zcn Tryz.underlying50 h hz 9 9 3 rfl zfo;obtain⟨_,a10,h10⟩:=zcn Tryz.underlying50 h hz 10 10 48 rfl zq4;have hl11:cs.length=11:=hl.trans (by kernel_rfl);obtain⟨v0,v1,v2,v3,v4,v5,v6,v7,v8,v9,v10,rfl⟩:=z1v hl11;replace h0:[v0]=[Value.int .i64 a0]:=h0.1
 replace h1:[v1]=[Value.int .i64 a1]:=h1.1;have s2:=h2.2;have s3:=h3.2;replace h2:[v2]=[Value.string a2]:=h2.1;replace h3:[v3]=[Value.string a3]:=h3.1;replace h4:(RowRel.int .i64).slice.R w w.heap.size [v4] a4:=h4;replace h5:rgRel.slice.R w w.heap.size [v5] a5:=h5;replace h6:[v6]=[Value.int .i64 a6]:=h6.1;replace h7:[v7]=[Value.int .i64 a7]:=h7.1;replace h8:[v8]=[Value.int .i64 a8]:=h8.1;replace h9:[v9]=[Value.int .i64 a9]:=h9.1;replace h10:RowRel.bytes.R w w.heap.size [v10] a10:=h10;simp only[List.cons.injEq,and_true] at h0 h1 h2 h3 h6 h7 h8 h9;subst h0;subst h1;subst h2;subst h3;subst h6;subst h7;subst h8;subst h9;obtain⟨A1,n1,c1,rfl⟩:=zq6 h4;obtain⟨A2,n2,c2,rfl⟩:=zq6 h5;have h10':=h10;obtain⟨A3,n3,c3,e10,_⟩:=h10';injection e10 with e10 _;subst e10;exact⟨⟨⟨a0,a1,a2,a3,a4,a5,a6,a7,a8,a9,a10⟩,A1,n1,c1,A2,n2,c2,A3,n3,c3⟩,rfl,(Col.of_ints h4).1,(ColK.of_rgs h5).1,(zq7 h10).1,(Col.of_ints h4).2.2,(ColK.of_rgs h5).2,(zq7 h10).2.1,s2,s3⟩
def kindD:List (Int×List UInt8):=(List.range 14).map fun j=>(((j:Nat):Int)+1,(letK j).map UInt8.ofNat)
theorem z1x:∀ i,i<14→kindD[i]?=some (((i:Nat):Int)+1,(letK i).map UInt8.ofNat):=by decide +kernel
theorem z1y (l:List Nat):(⟨(l.map UInt8.ofNat).toArray⟩:ByteArray)=za l:=by
 refine zc8 ?_;rw[zci]
theorem z1z (i:Nat)(hi:i<14):kindC[i*2]?=some (.int .i64 (((i:Nat):Int)+1))∧kindC[i*2+1]?=some (.string (za (letK i))):=by
 rcases(by omega:i=0∨i=1∨i=2∨i=3∨i=4∨i=5∨i=6∨i=7∨i=8∨i=9∨i=10∨i=11∨i=12∨i=13)with rfl|rfl|rfl|rfl|rfl|rfl|rfl|rfl|rfl|rfl|rfl|rfl|rfl|rfl<;>exact⟨rfl,rfl⟩
theorem zk5 {w:World}{cs:List Value}(hw:∀ r,w.cell? ⟨0,r,none⟩=cs[r]?)(h:∀ i z s,kindD[i]?=some (z,s)→cs[i*2]?=some (.int .i64 z)∧cs[i*2+1]?=some (.string ⟨s.toArray⟩)):Kinds w:=by
 intro j v hv;have hj:j<28:=(List.getElem?_eq_some_iff.1 hv).1;obtain⟨h1,h2⟩:=h (j / 2) _ _ (z1x (j / 2) (by omega));rw[z1y] at h2;have hi:=z1z (j / 2) (by omega);rw[Nat.zero_add,hw];rcases(by omega:j=j / 2*2∨j=j / 2*2+1)with e|e
 ·rw[e] at hv ⊢
  rw[hi.1] at hv;rw[h1,hv]
 ·rw[e] at hv ⊢
  rw[hi.2] at hv;rw[h2,hv]
end Go.Proofs.YtmjjefnmabbgdaaGreatDoor
