/- A part of the proof. -/
import Derived.Test.YtmjjefnmabbgdaaGreatDoorSEventN
import Derived.Test.YtmjjefnmabbgdaaGreatDoorSEventG
import Derived.Test.YtmjjefnmabbgdaaGreatDoorSStA
import Derived.Test.YtmjjefnmabbgdaaGreatDoorSRuleI
namespace Go.Proofs.YtmjjefnmabbgdaaGreatDoor
set_option linter.unusedVariables false
set_option linter.unusedSimpArgs false
set_option maxRecDepth 100000
set_option maxHeartbeats 16000000
open Go.RowKit
theorem zde {P:Program}{ops:Array Oper}{rest:List Oper}{op:Oper}{a:Act}{w:World}{Q:Exit→Act→World→Prop}(hw:Region.wanted op (yielded ops a.tmps)=true)(ty:TypeId)(x:Operand)(ho:op.op=.load ty x)
 (b o:Nat) (hx:a.eval x=.pointer (some ⟨b,o,none⟩)) (cs:List Value) (d:TypeDesc) (hc:w.rangeAt b o cs)
 (hu:P.underlying ty=some d) (hd:d.isRow=true) (hi:(P.info? ty).map (·.size)=some cs.length)
 (h:wpList P ops Q rest (a.put op.dst (.agg cs.toArray)) w):wpList P ops Q (op::rest) a w :=
 wpList_step fun K hK=>by
  rw[if_pos hw];exact wp_load_mid ty x ho b o hx cs d hc hu hd hi (hK _ _ h)
theorem z0l (A:Option Addr)(n c:Nat)(b:List Nat)(w:World)(hb:Bytes w w.heap.size A n b)(hn:n≤140737488355328)(hnc:n≤c)(hc:c≤maxLen) :
 Calls Tryz.prog 53 #[.slice A n c] w (DecFar b w):=by
 have H256:=hiD hb.2.1;have HLN:Hid (b.length≤140737488355328):=hiD (by rw[hb.1];exact hn);have HBY:=hiD hb;have HNC:=hiD hnc;have HCM:=hiD hc;have HNN:=hiD hn;clear hb hnc hc hn;go_enter Tryz.func53,Tryz.ntmps53
 go_wp2_with fail
 obtain⟨b2,hb2⟩:∃ b,b=w.heap.size:=⟨_,rfl⟩;obtain⟨g,hg⟩:∃ b,b=w.heap.size+1:=⟨_,rfl⟩;have N:=hiD (show b2=w.heap.size∧g=w.heap.size+1 from⟨hb2,hg⟩)
 refine qb (fun W=>Bk W b2 50 (evC (ze 0 0))∧RdR W g w.heap.size b 0∧Below w.heap.size w W) ⟨by rw[hb2];exact(Bk.new _ _ _).alloc _,by
  rw[hg]
  exact⟨A,n,c,Bk.new2 _ _ _ _,HNC.o,HCM.o,HNN.o,HBY.o.below (((Below.refl _ _).alloc (Nat.le_refl _) _).alloc (by simp) _) (Nat.le_refl _)⟩,((Below.refl _ _).alloc (Nat.le_refl _) _).alloc (by simp) _⟩ ?_
 rw[← hg,← hb2];clear hb2 hg HBY HNC HCM HNN;rintro W ⟨k2,kr,kb⟩;have K2:=hiD k2;have KB:=hiD (show Below w.heap.size w W by rw[← N.o.1];exact kb);have CR:=hiD (z1b g b2 b W kr (by have:=N.o;omega) HLN.o H256.o);clear k2 kr kb;refine CR.o.mono ?_;rintro e w2 ⟨H,rfl,hv,hin,hrd,hgr⟩;have J2:=hiD (K2.o.kept hgr (by have:=N.o;omega));have JI:=hiD hin;have J2W:=hiD (show b2<W.heap.size from K2.o.lt);have JR:=hiD hrd;have JB:Hid (Below w.heap.size w w2):=hiD (KB.o.grown hgr KB.o.size (fun k hk=>by cases hk;have:=N.o;omega));have HV:=hiD hv;clear hv hin hrd hgr CR K2 KB;go_wp2_with (with_reducible refine st0 ?_)
 obtain⟨b5,hb5⟩:∃ b,b=w2.heap.size:=⟨_,rfl⟩;have Z5:=hiD (show b2<b5∧g<b5∧w.heap.size≤b5 from⟨by rw[hb5];exact J2.o.lt,by rw[hb5];exact JR.o.lt,by rw[hb5];exact JB.o.size⟩);refine held (zi rfl 50 (.tmp 5) (.tmp 11) rfl w2.heap.size 0 (evC H) rfl rfl 50 (evC (ze 0 0)) (Bk.new w2 50 (evC (ze 0 0))) (by rw[zd,zd];decide) (by rw[zd];exact zr) (zw _) ?_);intro w3 hw3;have hw3':=qa hw3 (by rw[zd,zd]);have hbw:Below w2.heap.size w2 w3:=by rw[hw3'];exact below_setRow ((Below.refl _ _).alloc (Nat.le_refl _) _) (Nat.le_refl _) _
 have L5:Hid (Bk w3 b5 50 (evC H)):=hiD (by rw[hw3',hb5];exact(Bk.new w2 50 (evC (ze 0 0))).setRow_same _);have L2:=hiD (J2.o.below hbw J2.o.lt);have LI:=hiD (JI.o.below hbw);have LR:=hiD (JR.o.belowE hbw JR.o.lt (by have:=J2.o.lt;omega));have LB:=hiD (JB.o.trans (hbw.mono JB.o.size));rw[← hb5];clear hb5 hw3 hw3' hbw J2 JI JR JB;have CD:=hiD (zx7 g b2 _ _ w3 LR.o (by have:=N.o;omega));have HDE:Hid (decE b=if decD b=0 then (if z7 (decS b).1=true then 0 else 3)else decD b):=hiD rfl;have HDV:Hid (decV b=if decE b=0 then (decS b).1 else bare 0 0):=hiD rfl;obtain⟨dd,hdd⟩:∃ dd,zcw (docS b).2.1 (docS b).2.2=dd:=⟨_,rfl⟩;have hdd2:decD b=dd:=by rw[← docD];exact hdd
 have HS:Hid (dd=0→H.e=(decS b).1):=hiD fun h0=>by rw[HV.o];exact(zp3 b).2 (by rw[hdd2];exact h0)
 rw[hdd] at CD;rw[hdd2] at HDE;clear hdd hdd2;go_wp2_with fail
 refine CD.o.mono ?_;rintro e w' ⟨rfl,rfl⟩;clear CD LR;by_cases h0:dd=0
 ·have HS1:=hiD (HS.o h0)
  have HE1:Hid (decE b=if z7 (decS b).1=true then 0 else 3):=hiD (by rw[HDE.o,if_pos h0]);clear HDE HS;subst h0;go_wp2_with (with_reducible refine stn 17 ?_)
  refine held (zde (by rfl) 50 (.tmp 5) rfl b5 0 rfl _ _ L5.o.range Tryz.underlying50 rfl (by kernel_rfl) ?_);go_wp2_with fail
  refine(zse H w3 LI.o.inn).mono ?_;rintro e W8 ⟨rfl,hb8⟩;have X2:=hiD (L2.o.below hb8 L2.o.lt);have X5:=hiD (L5.o.below hb8 L5.o.lt);have XI:=hiD (LI.o.below hb8);have XB:=hiD (LB.o.trans (hb8.mono LB.o.size));clear hb8 L2 L5 LI LB;cases hre:z7 H.e
  ·have HE3:Hid (decE b=3):=hiD (by rw[HE1.o,← HS1.o,hre];rfl)
   have HVB:Hid (decV b=bare 0 0):=hiD (by rw[HDV.o,HE3.o];rfl);clear hre;go_wp2_with (with_reducible refine st0 ?_)
   refine held (zi rfl 50 (.tmp 2) (.tmp 23) rfl b2 0 (evC (ze 0 0)) rfl rfl 50 _ X2.o (by rw[zd];decide) (by rw[zd];exact zr) (zw _) ?_);intro w10 hw10;obtain rfl:=qa hw10 (by rw[zd]);go_wp2_with fail
   refine bodyPost_ret (zc1 rfl _ _ ⟨b2,0,none⟩ _ _ rfl rfl (Bk.ev (Bk.setRow_same X2.o _))) rfl ⟨ze 0 0,by rw[HE3.o];rfl,by rw[HVB.o];rfl,EvFar.bare _ _ _ _,below_setRow XB.o (by rw[N.o.1];exact Nat.le_refl _) _⟩
  ·have HE0:Hid (decE b=0):=hiD (by rw[HE1.o,← HS1.o,hre];rfl)
   have HVB:Hid (decV b=H.e):=hiD (by rw[HDV.o,HE0.o,HS1.o];rfl);clear hre;go_wp2_with (with_reducible refine stn 25 ?_)
   refine held (wpList_load_mid rfl 50 (.tmp 5) rfl b5 0 rfl _ _ X5.o.range Tryz.underlying50 rfl (by kernel_rfl) ?_);go_wp2_with (with_reducible refine st0 ?_)
   refine held (zi rfl 50 (.tmp 2) (.tmp 25) rfl b2 0 (evC H) rfl rfl 50 _ X2.o (by rw[zd,zd];decide) (by rw[zd];exact zr) (zw _) ?_);intro w10 hw10;obtain rfl:=qa hw10 (by rw[zd,zd]);go_wp2_with fail
   have hgs:=jy X2.o (evC H);refine bodyPost_ret (zc1 rfl _ _ ⟨b2,0,none⟩ _ _ rfl rfl (Bk.ev (Bk.setRow_same X2.o _))) rfl ⟨H,by rw[HE0.o];rfl,HVB.o.symm,(XI.o.kept hgs J2W.o).mono (by have:=J2W.o;have:=N.o;omega),below_setRow XB.o (by rw[N.o.1];exact Nat.le_refl _) _⟩
 ·have hne:(((dd:Nat):Int) != 0)=true:=by simpa using h0
  have hne2:(((dd:Nat):Int) == 0)=false:=by simpa using h0
  have HE3:Hid (decE b=dd):=hiD (by rw[HDE.o,if_neg h0]);have HVB:Hid (decV b=bare 0 0):=hiD (by rw[HDV.o,HE3.o,if_neg h0]);clear h0;go_wp2_with (with_reducible refine st0 ?_)
  refine held (zi rfl 50 (.tmp 2) (.tmp 23) rfl b2 0 (evC (ze 0 0)) rfl rfl 50 _ L2.o (by rw[zd];decide) (by rw[zd];exact zr) (zw _) ?_);intro w10 hw10;obtain rfl:=qa hw10 (by rw[zd]);go_wp2_with fail
  refine bodyPost_ret (zc1 rfl _ _ ⟨b2,0,none⟩ _ _ rfl rfl (Bk.ev (Bk.setRow_same L2.o _))) rfl ⟨ze 0 0,by rw[HE3.o]<;>rfl,by rw[HVB.o];rfl,EvFar.bare _ _ _ _,below_setRow LB.o (by rw[N.o.1];exact Nat.le_refl _) _⟩
def EncIs (h:Eh)(w:World)(e:Ending)(w':World):Prop:=∃ A N c,e=.returned (.tuple #[.slice A N c,.int .i64 ((encE h.e:Nat):Int)])∧OwnB w' w.heap.size 5 A N c (encV h.e)∧Below w.heap.size w w'
theorem OwnB.iter {w:World}{g pos base n c:Nat}{p:List Nat}{e:TypeId}{A:Option Addr}{l:List Nat}(hi:It w g p pos)(h:OwnB w base e A n c l)(pos':Nat):OwnB (w.iterAt g (za p) pos') base e A n c l:=by
 refine⟨⟨h.1.1,?_⟩,h.2⟩;rcases h.1.2 with h0|⟨g',cap,cur,hv,hg,hh,rest⟩
 ·exact .inl h0
 ·have hne : g' ≠ g := by
   intro e;subst e;rw[It,hh] at hi;cases hi
  exact .inr ⟨g',cap,cur,hv,hg,(Lib.iterAt_other w g g' (za p) pos' hne).trans hh,rest⟩
def accD (e:Ev)(k:Nat):List Nat:=zk [e.kind,e.at_]++(nineL.take k).flatMap (layD e)
theorem zdf {e:Ev}{k c:Nat}(hc:nineL[k]?=some c):accD e (k+1)=accD e k++layD e c:=by
 unfold accD;rw[zbz nineL k c hc,List.flatMap_append,List.flatMap_singleton,List.append_assoc]
theorem z0m (e:Ev):accD e 9=zac e:=by rw[← zys];rfl
theorem zdg {e:Ev}{c:Nat}(h:decide (c∈zg e.kind)=true):layD e c=layP e c:=if_pos (of_decide_eq_true h)
theorem zdh {e:Ev}{c:Nat}(h:decide (c∈zg e.kind)=false):layD e c=[]:=if_neg (of_decide_eq_false h)
theorem zem {e:Ev}(hr:z7 e=true)(k:Nat):(accD e k).length≤50000:=by
 have h1:=zkm (f:=layD e) (p:=nineL.take k) (m:=5000) fun c hc=>by
  unfold layD
  split
  ·rename_i hm;exact zpq ((zb9 hr).2.2.1 c hm)
  ·exact Nat.zero_le _
 have h2:(nineL.take k).length≤9:=by rw[List.length_take];exact Nat.min_le_right _ _
 unfold accD;rw[List.length_append,za4,List.length_cons,List.length_singleton];omega
structure DnAt (w:World)(h:Eh)(l:List Nat)(A:Option Addr)(N c:Nat)(wx:World):Prop where
 bx:Bk wx w.heap.size 50 (evC h)
 own:OwnB wx w.heap.size 5 A N c l
 below:Below w.heap.size w wx
theorem DnAt.next {w W w':World}{h:Eh}{l l' l2:List Nat}{A:Option Addr}{N c n:Nat}{e:Ending}(d:DnAt w h l A N c W)(hm:Made W.heap.size W n l' e w')(hl:l'=l2):∃ A2 N2 c2,e=.returned (.slice A2 N2 c2)∧DnAt w h l2 A2 N2 c2 w':=by
 subst hl;obtain⟨A2,c2,he,ho,hb⟩:=hm;exact⟨A2,n,c2,he,⟨d.bx.below hb d.bx.lt,ho.base_le d.below.size,d.below.trans (hb.mono d.below.size)⟩⟩
theorem zdi (z:Int):zk [z]=encB 8 (qt z):=by rw[zd0,zh3,List.append_nil]
theorem z0n {l:List Int}{k:Nat}{z:Int}(h:l.take (k+1)=l.take k++[z]):zk (l.take (k+1))=zk (l.take k)++encB 8 (qt z):=by rw[h,zh4]
theorem z0o {l:List Rg}{k:Nat}{x y:Int}(h:l.take (k+1)=l.take k++[(x,y)]):zk (qc (l.take (k+1)))=zk (qc (l.take k))++encB 8 (qt x)++encB 8 (qt y):=by
 rw[h,zki,show qc (l.take k)++[x,y]=qc (l.take k)++[x]++[y] by simp,zh4,zh4]
theorem z0p (h:Eh)(w:World)(Hh:EvIn w w.heap.size h):Calls Tryz.prog 84 #[.agg (evC h)] w (EncIs h w):=by
 have HH:=hiD Hh;clear Hh;go_enter Tryz.func84,Tryz.ntmps84
 go_wp2_with (with_reducible refine stn 10 ?_)
 refine held (qk (fun W=>Bk W w.heap.size 50 (evC h)∧Below w.heap.size w W) ⟨Bk.new _ _ _,(Below.refl _ _).alloc (Nat.le_refl _) _⟩ ?_);rintro W ⟨q1,q2⟩;have Q1:=hiD q1;have Q2:=hiD q2;clear q1 q2;refine wpList_load_mid rfl 50 (.tmp 1) rfl w.heap.size 0 rfl _ _ Q1.o.range Tryz.underlying50 rfl (by kernel_rfl) ?_;go_wp2_with fail
 refine(zse h W (HH.o.later Q2.o)).mono ?_;rintro e W1 ⟨rfl,hb⟩;have R1:=hiD (Q1.o.below hb Q1.o.lt);have R2:=hiD (Q2.o.trans (hb.mono Q2.o.size));have c0:W1.cell? ⟨w.heap.size,0,none⟩=some (.int .i64 h.e.kind):=R1.o.cell 0;clear hb Q1 Q2;cases hr:z7 h.e
 ·have HZ:Hid (encE h.e=1):=hiD (by unfold encE;rw[hr];rfl)
  have HV:Hid (encV h.e=[]):=hiD (by unfold encV;rw[hr];rfl);clear hr;go_wp2_with fail
  go_ret2;exact⟨none,0,0,by rw[HZ.o];rfl,by rw[HV.o];exact OwnB.nil,R2.o⟩
 have HRT:=hiD hr;have HZ:Hid (encE h.e=0):=hiD (if_pos hr);have HV:Hid (encV h.e=accD h.e 9):=hiD (by rw[z0m];exact if_pos hr);clear hr;go_wp2_with fail
 refine(zk9 h.e.kind W1).mono ?_;rintro e w' ⟨rfl,rfl⟩
 go_upto_region 4 with (fail)
 go_cut [5] (fun x5 wx=>∃ A N c,x5=.slice A N c∧DnAt w h (accD h.e 0) A N c wx)
 case first =>
  have hlt:=R1.o.lt;have f0:W1.cell? ⟨w.heap.size,0,none⟩=some (.int .i64 h.e.kind):=R1.o.cell 0;have f1:W1.cell? ⟨w.heap.size,1,none⟩=some (.int .i64 h.e.at_):=R1.o.cell 1;clear c0;go_wp2_with fail
  refine wp_region_held_drew (S:=fun W'=>Below W1.heap.size W1 W') (by kernel_rfl) (show Below W1.heap.size W1 W1.drew from(Below.refl _ _).drew) (fun qch=>?_);simp only[List.size_toArray,List.length_cons,List.length_nil,Nat.reduceAdd];refine tks (i:=0) (v:=.pointer (some ⟨w.heap.size,0,none⟩)) (s:=qch) (h:=?_);try simp only[nm0]
  refine tkx (i:=1) (v:=.int .i64 h.e.kind) (x:=fun w0 hC=>by simp[execOp,Act.eval,Act.put,go_sem,(hC.cell (p:=⟨w.heap.size,0,none⟩) hlt).trans f0]) (s:=qch) (h:=?_);try simp only[nm0]
  refine tks (i:=3) (v:=.pointer (some ⟨w.heap.size,1,none⟩)) (s:=qch) (h:=?_);try simp only[nm0]
  refine tkx (i:=4) (v:=.int .i64 h.e.at_) (x:=fun w0 hC=>by simp[execOp,Act.eval,Act.put,go_sem,(hC.cell (p:=⟨w.heap.size,1,none⟩) hlt).trans f1]) (s:=qch) (h:=?_);try simp only[nm0]
  obtain⟨V0,hV0⟩:∃ V,V=W1.drew:=⟨_,rfl⟩;have D0:Hid (DnAt w h [] none 0 0 V0):=hiD ⟨by rw[hV0];exact R1.o.drew,OwnB.nil,by rw[hV0];exact R2.o.drew⟩;rw[← hV0] at qch ⊢;clear hV0;refine rd1 (r:=2) (h:=fun K hK=>?_);go_wp2_with fail
  refine(zb7 none 0 0 h.e.kind [] V0 Bytes.nil (by omega)).mono ?_;rintro e V1 hm;have hSa:Below W1.heap.size W1 V1:=by obtain⟨_,_,_,_,hb5⟩:=hm;exact qch.trans (hb5.mono qch.size)
  obtain⟨A1,N1,c1,rfl,d⟩:=D0.o.next hm (l2:=zk [h.e.kind]) (by rw[zdi];rfl);have D1:=hiD d;clear qch hm d;refine bkk hK hSa fun qch=>?_;clear hK K;try simp only[nm0]
  clear hSa;have hn1:N1≤8:=by have:=D1.o.own.len;rw[za4] at this;simp at this;omega
  refine rd1 (r:=5) (h:=fun K hK=>?_);go_wp2_with fail
  refine(zb7 A1 N1 c1 h.e.at_ _ V1 D1.o.own.bytes (by omega)).mono ?_;rintro e V2 hm;have hSa:Below W1.heap.size W1 V2:=by obtain⟨_,_,_,_,hb5⟩:=hm;exact qch.trans (hb5.mono qch.size)
  obtain⟨A2,N2,c2,rfl,d⟩:=D1.o.next hm (l2:=accD h.e 0) (by unfold accD;rw[List.take_zero,List.flatMap_nil,List.append_nil,zd0 [h.e.at_],zdi,zdi]);have D2:=hiD d;clear qch hm d;refine bkk hK hSa fun qch=>?_;clear hK K;try simp only[nm0]
  clear hSa;refine rd1 (r:=6) (h:=fun K hK=>?_);go_wp2_with fail
  refine bkk hK qch fun qch=>?_;clear hK K;try simp only[nm0]
  refine wpAnyH_done (by kernel_rfl) ?_ _;go_wp2_with fail
  go_meet;exact⟨A2,N2,c2,rfl,D2.o⟩
 case rest =>
 obtain⟨A,N,c,rfl,hd⟩:=hcut;clear c0 R1 R2;generalize wc=W2 at *;have D:=hiD hd;clear hd;obtain⟨b98,hb98⟩:∃ b,decide (98∈zg h.e.kind)=b:=⟨_,rfl⟩;have CP:Hid (Calls Tryz.prog 70 #[.string (za (zg h.e.kind)),.int .u8 98] W2 fun e w'=>e=.returned (.bool b98)∧W2=w'):=hiD (by rw[← hb98];exact zaj h.e.kind 98 W2);have HBB:=hiD hb98;clear hb98;go_wp2_with fail
 refine CP.o.mono ?_;rintro e w' ⟨rfl,rfl⟩;clear CP
 go_upto_if 23 with (fail)
 go_cut [5] (fun x5 wx=>∃ A N c,x5=.slice A N c∧DnAt w h (accD h.e 1) A N c wx)
 case first =>
  have HNX:=hiD (zdf (e:=h.e) (k:=0) (c:=98) rfl);have hNl:=D.o.own.len;have hsm:=zem HRT.o 0;have hN:N≤50000:=by omega
  clear hNl hsm;cases b98
  ·have HE:Hid (accD h.e 1=accD h.e 0):=hiD (by rw[HNX.o,zdh HBB.o,List.append_nil])
   go_wp2_with fail
   go_meet;exact⟨A,N,c,rfl,by rw[HE.o];exact D.o⟩
  ·have HE:Hid (accD h.e 1=accD h.e 0++layP h.e 98):=hiD (by rw[HNX.o,zdg HBB.o])
   have HOK:Hid (okQ h.e 98=true):=hiD ((zb9 HRT.o).2.2.1 98 (of_decide_eq_true HBB.o));clear HNX;have f0:W2.cell? ⟨w.heap.size,2,none⟩=some (.string h.e.box):=D.o.bx.cell 2;go_wp2_with fail
   refine(zj0 A N c h.e.box _ W2 D.o.own.bytes (by omega) HH.o.2.2.2.2.2.2.1).mono ?_;rintro e W3 hm;obtain⟨A3,N3,c3,rfl,d⟩:=D.o.next hm (l2:=accD h.e 1) (by rw[HE.o];rfl);have D3:=hiD d;clear hm d f0;go_wp2_with fail
   go_meet;exact⟨A3,N3,c3,rfl,D3.o⟩
 case rest =>
 obtain⟨A,N,c,rfl,hd⟩:=hcut;clear D HBB;generalize wc=W2 at *;have D:=hiD hd;clear hd;obtain⟨b116,hb116⟩:∃ b,decide (116∈zg h.e.kind)=b:=⟨_,rfl⟩;have CP:Hid (Calls Tryz.prog 70 #[.string (za (zg h.e.kind)),.int .u8 116] W2 fun e w'=>e=.returned (.bool b116)∧W2=w'):=hiD (by rw[← hb116];exact zaj h.e.kind 116 W2);have HBB:=hiD hb116;clear hb116;go_wp2_with fail
 refine CP.o.mono ?_;rintro e w' ⟨rfl,rfl⟩;clear CP
 go_upto_if 29 with (fail)
 go_cut [5] (fun x5 wx=>∃ A N c,x5=.slice A N c∧DnAt w h (accD h.e 2) A N c wx)
 case first =>
  have HNX:=hiD (zdf (e:=h.e) (k:=1) (c:=116) rfl);have hNl:=D.o.own.len;have hsm:=zem HRT.o 1;have hN:N≤50000:=by omega
  clear hNl hsm;cases b116
  ·have HE:Hid (accD h.e 2=accD h.e 1):=hiD (by rw[HNX.o,zdh HBB.o,List.append_nil])
   go_wp2_with fail
   go_meet;exact⟨A,N,c,rfl,by rw[HE.o];exact D.o⟩
  ·have HE:Hid (accD h.e 2=accD h.e 1++layP h.e 116):=hiD (by rw[HNX.o,zdg HBB.o])
   have HOK:Hid (okQ h.e 116=true):=hiD ((zb9 HRT.o).2.2.1 116 (of_decide_eq_true HBB.o));clear HNX;have f0:W2.cell? ⟨w.heap.size,3,none⟩=some (.string h.e.to_):=D.o.bx.cell 3;go_wp2_with fail
   refine(zj0 A N c h.e.to_ _ W2 D.o.own.bytes (by omega) HH.o.2.2.2.2.2.2.2).mono ?_;rintro e W3 hm;obtain⟨A3,N3,c3,rfl,d⟩:=D.o.next hm (l2:=accD h.e 2) (by rw[HE.o];rfl);have D3:=hiD d;clear hm d f0;go_wp2_with fail
   go_meet;exact⟨A3,N3,c3,rfl,D3.o⟩
 case rest =>
 obtain⟨A,N,c,rfl,hd⟩:=hcut;clear D HBB;generalize wc=W2 at *;have D:=hiD hd;clear hd;obtain⟨b105,hb105⟩:∃ b,decide (105∈zg h.e.kind)=b:=⟨_,rfl⟩;have CP:Hid (Calls Tryz.prog 70 #[.string (za (zg h.e.kind)),.int .u8 105] W2 fun e w'=>e=.returned (.bool b105)∧W2=w'):=hiD (by rw[← hb105];exact zaj h.e.kind 105 W2);have HBB:=hiD hb105;clear hb105;go_wp2_with fail
 refine CP.o.mono ?_;rintro e w' ⟨rfl,rfl⟩;clear CP
 go_upto_if 35 with (fail)
 go_cut [5] (fun x5 wx=>∃ A N c,x5=.slice A N c∧DnAt w h (accD h.e 3) A N c wx)
 case first =>
  have HNX:=hiD (zdf (e:=h.e) (k:=2) (c:=105) rfl);have hNl:=D.o.own.len;have hsm:=zem HRT.o 2;have hN:N≤50000:=by omega
  clear hNl hsm;cases b105
  ·have HE:Hid (accD h.e 3=accD h.e 2):=hiD (by rw[HNX.o,zdh HBB.o,List.append_nil])
   go_wp2_with fail
   go_meet;exact⟨A,N,c,rfl,by rw[HE.o];exact D.o⟩
  ·have HE:Hid (accD h.e 3=accD h.e 2++layP h.e 105):=hiD (by rw[HNX.o,zdg HBB.o])
   have HOK:Hid (okQ h.e 105=true):=hiD ((zb9 HRT.o).2.2.1 105 (of_decide_eq_true HBB.o));clear HNX;have f0:W2.cell? ⟨w.heap.size,4,none⟩=some (.slice h.A1 h.n1 h.c1):=D.o.bx.cell 4;have hlen:=HH.o.1.1;have HLN:=hiD hlen;have h60:h.n1≤60:=by have:=(zkk (l:=h.e.ids) HOK.o).2;omega
   clear hlen;go_wp2_with fail
   refine(zb7 A N c (h.n1:Int) _ W2 D.o.own.bytes (by omega)).mono ?_;rintro e W3 hm;obtain⟨A3,N3,c3,rfl,d⟩:=D.o.next hm (l2:=accD h.e 2++zk [(h.n1:Int)]++zk (h.e.ids.take 0)) (by rw[zdi,List.take_zero,zh3,List.append_nil]);have D3:=hiD d;clear hm d f0;go_wp2_with fail
   go_loopw [5,6] (fun t i wx=>∃ (k:Nat) (A:Option Addr) (N c:Nat),k≤h.n1∧i=.int .i64 (k:Int)∧t=.slice A N c∧DnAt w h (accD h.e 2++zk [(h.n1:Int)]++zk (h.e.ids.take k)) A N c wx) (fun _ i _=>h.n1-(intOf i).toNat)
   case atStart=>exact⟨0,A3,N3,c3,Nat.zero_le _,rfl,rfl,D3.o⟩
   case round =>
    obtain⟨k,A4,N4,c4,hk,rfl,rfl,hd⟩:=hrel;have DR:=hiD hd;have f0:wr.cell? ⟨w.heap.size,4,none⟩=some (.slice h.A1 h.n1 h.c1):=hd.bx.cell 4;clear hd;have hN4:N4≤60000:=by
     have h1:=DR.o.own.len;have h2:=zem HRT.o 2;rw[List.length_append,List.length_append,za4,za4,List.length_take] at h1;simp at h1;omega
    by_cases hlt:k<h.n1
    ·obtain⟨b,og,z,hA,hbb,hla,htk,hc⟩:=(HH.o.later DR.o.below).1.at_ hlt
     rw[hA] at f0;unfold ints at hc;have hk0:(0:Int)≤(k:Int):=by omega
     have hkn:(k:Int)<(h.n1:Int):=by omega
     have HT:=hiD (z0n htk);clear hla htk hA;go_wp2_with fail
     refine(zb7 A4 N4 c4 z _ wr DR.o.own.bytes (by omega)).mono ?_;rintro e W4 hm;obtain⟨A5,N5,c5,rfl,d⟩:=DR.o.next hm (l2:=accD h.e 2++zk [(h.n1:Int)]++zk (h.e.ids.take (k+1))) (by rw[HT.o,← List.append_assoc]);have D5:=hiD d;clear hm d f0 hc;go_wp2_with fail
     go_roundw
     case rel=>exact⟨k+1,A5,N5,c5,by omega,by go_num,rfl,D5.o⟩
     case measure=>simp[intOf];omega
    ·have hkn:¬ (k:Int)<(h.n1:Int):=by omega
     have HF:Hid (accD h.e 3=accD h.e 2++zk [(h.n1:Int)]++zk (h.e.ids.take k)):=hiD (by
      rw[HE.o,List.take_of_length_le (by rw[HLN.o];omega),← HLN.o,List.append_assoc];rfl)
     go_wp2_with fail
     go_meet;exact⟨A4,N4,c4,rfl,by rw[HF.o];exact DR.o⟩
 case rest =>
 obtain⟨A,N,c,rfl,hd⟩:=hcut;clear D HBB;generalize wc=W2 at *;have D:=hiD hd;clear hd;obtain⟨b115,hb115⟩:∃ b,decide (115∈zg h.e.kind)=b:=⟨_,rfl⟩;have CP:Hid (Calls Tryz.prog 70 #[.string (za (zg h.e.kind)),.int .u8 115] W2 fun e w'=>e=.returned (.bool b115)∧W2=w'):=hiD (by rw[← hb115];exact zaj h.e.kind 115 W2);have HBB:=hiD hb115;clear hb115;go_wp2_with fail
 refine CP.o.mono ?_;rintro e w' ⟨rfl,rfl⟩;clear CP
 go_upto_if 56 with (fail)
 go_cut [5] (fun x5 wx=>∃ A N c,x5=.slice A N c∧DnAt w h (accD h.e 4) A N c wx)
 case first =>
  have HNX:=hiD (zdf (e:=h.e) (k:=3) (c:=115) rfl);have hNl:=D.o.own.len;have hsm:=zem HRT.o 3;have hN:N≤50000:=by omega
  clear hNl hsm;cases b115
  ·have HE:Hid (accD h.e 4=accD h.e 3):=hiD (by rw[HNX.o,zdh HBB.o,List.append_nil])
   go_wp2_with fail
   go_meet;exact⟨A,N,c,rfl,by rw[HE.o];exact D.o⟩
  ·have HE:Hid (accD h.e 4=accD h.e 3++layP h.e 115):=hiD (by rw[HNX.o,zdg HBB.o])
   have HOK:Hid (okQ h.e 115=true):=hiD ((zb9 HRT.o).2.2.1 115 (of_decide_eq_true HBB.o));clear HNX;have f0:W2.cell? ⟨w.heap.size,5,none⟩=some (.slice h.A2 h.n2 h.c2):=D.o.bx.cell 5;have hlen:=HH.o.2.1.1;have HLN:=hiD hlen;have h60:h.n2≤60:=by have:=zkl (l:=h.e.set) HOK.o;omega
   clear hlen;go_wp2_with fail
   refine(zb7 A N c (h.n2:Int) _ W2 D.o.own.bytes (by omega)).mono ?_;rintro e W3 hm;obtain⟨A3,N3,c3,rfl,d⟩:=D.o.next hm (l2:=accD h.e 3++zk [(h.n2:Int)]++zk (qc (h.e.set.take 0))) (by rw[zdi,List.take_zero];exact(List.append_nil _).symm);have D3:=hiD d;clear hm d f0;go_wp2_with fail
   go_loopw [5,7] (fun t i wx=>∃ (k:Nat) (A:Option Addr) (N c:Nat),k≤h.n2∧i=.int .i64 (k:Int)∧t=.slice A N c∧DnAt w h (accD h.e 3++zk [(h.n2:Int)]++zk (qc (h.e.set.take k))) A N c wx) (fun _ i _=>h.n2-(intOf i).toNat)
   case atStart=>exact⟨0,A3,N3,c3,Nat.zero_le _,rfl,rfl,D3.o⟩
   case round =>
    obtain⟨k,A4,N4,c4,hk,rfl,rfl,hd⟩:=hrel;have DR:=hiD hd;have f0:wr.cell? ⟨w.heap.size,5,none⟩=some (.slice h.A2 h.n2 h.c2):=hd.bx.cell 5;clear hd;have hN4:N4≤60000:=by
     have h1:=DR.o.own.len;have h2:=zem HRT.o 3;rw[List.length_append,List.length_append,za4,za4,zd3,List.length_take] at h1;simp at h1;omega
    by_cases hlt:k<h.n2
    ·obtain⟨b,og,zz,hA,hbb,hla,htk,hrow⟩:=(HH.o.later DR.o.below).2.1.at_ hlt
     obtain⟨x,y⟩:=zz;rw[hA] at f0;have r0:wr.cell? ⟨b,og+k*2,none⟩=some (.int .i64 x):=by have:=hrow 0 _ rfl;rwa [Nat.add_zero] at this
     have r1:wr.cell? ⟨b,og+k*2+1,none⟩=some (.int .i64 y):=hrow 1 _ rfl;have hk0:(0:Int)≤(k:Int):=by omega
     have hkn:(k:Int)<(h.n2:Int):=by omega
     have HT:=hiD (z0o htk);have hlt0:=DR.o.bx.lt;clear hla htk hA hrow;go_wp2_with fail
     refine wp_region_held_drew (S:=fun W'=>Below wr.heap.size wr W') (by kernel_rfl) (show Below wr.heap.size wr wr.drew from(Below.refl _ _).drew) (fun qch=>?_);simp only[List.size_toArray,List.length_cons,List.length_nil,Nat.reduceAdd];refine tks (i:=0) (v:=.slice A4 N4 c4) (s:=qch) (h:=?_);try simp only[nm0]
     refine tks (i:=1) (v:=.pointer (some ⟨w.heap.size,5,none⟩)) (s:=qch) (h:=?_);try simp only[nm0]
     refine tkx (i:=2) (v:=.slice (some ⟨b,og,none⟩) h.n2 h.c2) (x:=fun w0 hC=>by simp[execOp,Act.eval,Act.put,go_sem,(hC.cell (p:=⟨w.heap.size,5,none⟩) hlt0).trans f0]) (s:=qch) (h:=?_);try simp only[nm0]
     refine tks (i:=3) (v:=.int .i64 (k:Int)) (s:=qch) (h:=?_);try simp only[nm0]
     refine tkx (i:=4) (v:=.pointer (some ⟨b,og+k*2,none⟩)) (x:=fun w0 hC=>by simp[execOp,Act.eval,Act.put,go_sem,hk0,hkn,hlt]) (s:=qch) (h:=?_);try simp only[nm0]
     refine tks (i:=5) (v:=.pointer (some ⟨b,og+k*2,none⟩)) (s:=qch) (h:=?_);try simp only[nm0]
     refine tkx (i:=6) (v:=.int .i64 x) (x:=fun w0 hC=>by simp[execOp,Act.eval,Act.put,go_sem,(hC.cell (p:=⟨b,og+k*2,none⟩) hbb).trans r0]) (s:=qch) (h:=?_);try simp only[nm0]
     refine tks (i:=8) (v:=.pointer (some ⟨w.heap.size,5,none⟩)) (s:=qch) (h:=?_);try simp only[nm0]
     refine tkx (i:=9) (v:=.slice (some ⟨b,og,none⟩) h.n2 h.c2) (x:=fun w0 hC=>by simp[execOp,Act.eval,Act.put,go_sem,(hC.cell (p:=⟨w.heap.size,5,none⟩) hlt0).trans f0]) (s:=qch) (h:=?_);try simp only[nm0]
     refine tks (i:=10) (v:=.int .i64 (k:Int)) (s:=qch) (h:=?_);try simp only[nm0]
     refine tkx (i:=11) (v:=.pointer (some ⟨b,og+k*2,none⟩)) (x:=fun w0 hC=>by simp[execOp,Act.eval,Act.put,go_sem,hk0,hkn,hlt]) (s:=qch) (h:=?_);try simp only[nm0]
     refine tks (i:=12) (v:=.pointer (some ⟨b,og+k*2+1,none⟩)) (s:=qch) (h:=?_);try simp only[nm0]
     refine tkx (i:=13) (v:=.int .i64 y) (x:=fun w0 hC=>by simp[execOp,Act.eval,Act.put,go_sem,(hC.cell (p:=⟨b,og+k*2+1,none⟩) hbb).trans r1]) (s:=qch) (h:=?_);try simp only[nm0]
     obtain⟨V0,hV0⟩:∃ V,V=wr.drew:=⟨_,rfl⟩;have E0:Hid (DnAt w h (accD h.e 3++zk [(h.n2:Int)]++zk (qc (h.e.set.take k))) A4 N4 c4 V0):=hiD ⟨by rw[hV0];exact DR.o.bx.drew,by rw[hV0];exact DR.o.own.below (Below.refl _ _).drew,by rw[hV0];exact DR.o.below.drew⟩;rw[← hV0] at qch ⊢;clear hV0;refine rd1 (r:=7) (h:=fun K hK=>?_);go_wp2_with fail
     refine(zb7 A4 N4 c4 x _ V0 E0.o.own.bytes (by omega)).mono ?_;rintro e V1 hm;have hSa:Below wr.heap.size wr V1:=by obtain⟨_,_,_,_,hb5⟩:=hm;exact qch.trans (hb5.mono qch.size)
     obtain⟨A5,N5,c5,rfl,d⟩:=E0.o.next hm rfl;have E1:=hiD d;clear qch hm d;refine bkk hK hSa fun qch=>?_;clear hK K;try simp only[nm0]
     clear hSa;have hN5:N5≤60008:=by
      have h1:=E1.o.own.len;have h2:=E0.o.own.len;rw[List.length_append,zbv] at h1;omega
     refine rd1 (r:=14) (h:=fun K hK=>?_);go_wp2_with fail
     refine(zb7 A5 N5 c5 y _ V1 E1.o.own.bytes (by omega)).mono ?_;rintro e V2 hm;have hSa:Below wr.heap.size wr V2:=by obtain⟨_,_,_,_,hb5⟩:=hm;exact qch.trans (hb5.mono qch.size)
     obtain⟨A6,N6,c6,rfl,d⟩:=E1.o.next hm (l2:=accD h.e 3++zk [(h.n2:Int)]++zk (qc (h.e.set.take (k+1)))) (by rw[HT.o];simp only[List.append_assoc]);have E2:=hiD d;clear qch hm d;refine bkk hK hSa fun qch=>?_;clear hK K;try simp only[nm0]
     clear hSa;refine rd1 (r:=15) (h:=fun K hK=>?_);go_wp2_with fail
     refine bkk hK qch fun qch=>?_;clear hK K;try simp only[nm0]
     refine wpAnyH_done (by kernel_rfl) ?_ _;go_wp2_with fail
     go_roundw
     case rel=>exact⟨k+1,A6,N6,c6,by omega,by go_num,rfl,E2.o⟩
     case measure=>simp[intOf];omega
    ·have hkn:¬ (k:Int)<(h.n2:Int):=by omega
     have HF:Hid (accD h.e 4=accD h.e 3++zk [(h.n2:Int)]++zk (qc (h.e.set.take k))):=hiD (by
      rw[HE.o,List.take_of_length_le (by rw[HLN.o];omega),← HLN.o,List.append_assoc];rfl)
     go_wp2_with fail
     go_meet;exact⟨A4,N4,c4,rfl,by rw[HF.o];exact DR.o⟩
 case rest =>
 obtain⟨A,N,c,rfl,hd⟩:=hcut;clear D HBB;generalize wc=W2 at *;have D:=hiD hd;clear hd;have f6:W2.cell? ⟨w.heap.size,6,none⟩=some (.int .i64 h.e.mode):=D.o.bx.cell 6;have f7:W2.cell? ⟨w.heap.size,7,none⟩=some (.int .i64 h.e.flags):=D.o.bx.cell 7;have f8:W2.cell? ⟨w.heap.size,8,none⟩=some (.int .i64 h.e.date):=D.o.bx.cell 8;have f9:W2.cell? ⟨w.heap.size,9,none⟩=some (.int .i64 h.e.n):=D.o.bx.cell 9
 go_upto_region 22 with (fail)
 refine zil (fun W=>Bk W W2.heap.size 185 #[.int .i64 h.e.mode,.int .i64 h.e.flags,.int .i64 h.e.date,.int .i64 h.e.n]∧DnAt w h (accD h.e 4) A N c W) ⟨Bk.new _ _ _,⟨D.o.bx.alloc _,D.o.own.alloc _,D.o.below.alloc D.o.below.size _⟩⟩ ?_;rintro W3 ⟨g4,d⟩;obtain⟨b8,hb8⟩:∃ b,b=W2.heap.size:=⟨_,rfl⟩;have G4:Hid (Bk W3 b8 185 #[.int .i64 h.e.mode,.int .i64 h.e.flags,.int .i64 h.e.date,.int .i64 h.e.n]):=hiD (by rw[hb8];exact g4);rw[← hb8];clear hb8 g4 f6 f7 f8 f9 D;have D:=hiD d;clear d;go_wp2_with fail
 go_loopw [5,9] (fun t i wx=>∃ (k:Nat) (A:Option Addr) (N c:Nat),k≤4∧i=.int .i64 (k:Int)∧t=.slice A N c∧DnAt w h (accD h.e (4+k)) A N c wx∧Bk wx b8 185 #[.int .i64 h.e.mode,.int .i64 h.e.flags,.int .i64 h.e.date,.int .i64 h.e.n]) (fun _ i _=>4-(intOf i).toNat)
 case atStart=>exact⟨0,A,N,c,by omega,rfl,rfl,D.o,G4.o⟩
 case round =>
  obtain⟨k,A4,N4,c4,hk,rfl,rfl,hd,hg⟩:=hrel;have DR:=hiD hd;have GR:=hiD hg;have hN4:N4≤50000:=by
   have h1:=DR.o.own.len;have h2:=zem HRT.o (4+k);omega
  clear hd hg D G4;rcases(by omega:k=0∨k=1∨k=2∨k=3∨k=4)with rfl|rfl|rfl|rfl|rfl
  ·have CP:Hid (Calls Tryz.prog 70 #[.string (za (zg h.e.kind)),.int .u8 109] wr fun e w'=>e=.returned (.bool (decide (109∈zg h.e.kind)))∧wr=w'):=hiD (zaj h.e.kind 109 wr)
   have HNX:=hiD (zdf (e:=h.e) (k:=4+0) (c:=109) rfl);cases hin:decide (109∈zg h.e.kind)
   ·rw[hin] at CP
    have HE:Hid (accD h.e (4+0+1)=accD h.e (4+0)):=hiD (by rw[HNX.o,zdh hin,List.append_nil]);clear hin;go_wp2_with fail
    refine CP.o.mono ?_;rintro e w' ⟨rfl,rfl⟩;clear CP;go_wp2_with fail
    go_roundw
    case rel=>exact⟨0+1,A4,N4,c4,by omega,rfl,rfl,by have:=HE.o;rw[Nat.add_assoc] at this;rw[this];exact DR.o,GR.o⟩
    case measure=>simp[intOf]
   ·rw[hin] at CP
    have HE:Hid (accD h.e (4+0+1)=accD h.e (4+0)++encB 8 (qt h.e.mode)):=hiD (by rw[HNX.o,zdg hin,← zdi];rfl);have f0:wr.cell? ⟨b8,0,none⟩=some (.int .i64 h.e.mode):=GR.o.cell 0;clear hin;go_wp2_with fail
    refine CP.o.mono ?_;rintro e w' ⟨rfl,rfl⟩;clear CP;go_wp2_with fail
    refine(zb7 A4 N4 c4 h.e.mode _ wr DR.o.own.bytes (by omega)).mono ?_;rintro e W4 hm;have hb4:Below wr.heap.size wr W4:=by obtain⟨_,_,_,_,hb5⟩:=hm;exact hb5
    obtain⟨A5,N5,c5,rfl,d⟩:=DR.o.next hm (l2:=accD h.e (4+0+1)) HE.o.symm;have D5:=hiD d;have G5:=hiD (GR.o.below hb4 GR.o.lt);clear hm d f0 hb4;go_wp2_with fail
    go_roundw
    case rel=>exact⟨0+1,A5,N5,c5,by omega,rfl,rfl,by have:=D5.o;rwa [Nat.add_assoc] at this,G5.o⟩
    case measure=>simp[intOf]
  ·have CP:Hid (Calls Tryz.prog 70 #[.string (za (zg h.e.kind)),.int .u8 102] wr fun e w'=>e=.returned (.bool (decide (102∈zg h.e.kind)))∧wr=w'):=hiD (zaj h.e.kind 102 wr)
   have HNX:=hiD (zdf (e:=h.e) (k:=4+1) (c:=102) rfl);cases hin:decide (102∈zg h.e.kind)
   ·rw[hin] at CP
    have HE:Hid (accD h.e (4+1+1)=accD h.e (4+1)):=hiD (by rw[HNX.o,zdh hin,List.append_nil]);clear hin;go_wp2_with fail
    refine CP.o.mono ?_;rintro e w' ⟨rfl,rfl⟩;clear CP;go_wp2_with fail
    go_roundw
    case rel=>exact⟨1+1,A4,N4,c4,by omega,rfl,rfl,by have:=HE.o;rw[Nat.add_assoc] at this;rw[this];exact DR.o,GR.o⟩
    case measure=>simp[intOf]
   ·rw[hin] at CP
    have HE:Hid (accD h.e (4+1+1)=accD h.e (4+1)++encB 8 (qt h.e.flags)):=hiD (by rw[HNX.o,zdg hin,← zdi];rfl);have f0:wr.cell? ⟨b8,1,none⟩=some (.int .i64 h.e.flags):=GR.o.cell 1;clear hin;go_wp2_with fail
    refine CP.o.mono ?_;rintro e w' ⟨rfl,rfl⟩;clear CP;go_wp2_with fail
    refine(zb7 A4 N4 c4 h.e.flags _ wr DR.o.own.bytes (by omega)).mono ?_;rintro e W4 hm;have hb4:Below wr.heap.size wr W4:=by obtain⟨_,_,_,_,hb5⟩:=hm;exact hb5
    obtain⟨A5,N5,c5,rfl,d⟩:=DR.o.next hm (l2:=accD h.e (4+1+1)) HE.o.symm;have D5:=hiD d;have G5:=hiD (GR.o.below hb4 GR.o.lt);clear hm d f0 hb4;go_wp2_with fail
    go_roundw
    case rel=>exact⟨1+1,A5,N5,c5,by omega,rfl,rfl,by have:=D5.o;rwa [Nat.add_assoc] at this,G5.o⟩
    case measure=>simp[intOf]
  ·have CP:Hid (Calls Tryz.prog 70 #[.string (za (zg h.e.kind)),.int .u8 100] wr fun e w'=>e=.returned (.bool (decide (100∈zg h.e.kind)))∧wr=w'):=hiD (zaj h.e.kind 100 wr)
   have HNX:=hiD (zdf (e:=h.e) (k:=4+2) (c:=100) rfl);cases hin:decide (100∈zg h.e.kind)
   ·rw[hin] at CP
    have HE:Hid (accD h.e (4+2+1)=accD h.e (4+2)):=hiD (by rw[HNX.o,zdh hin,List.append_nil]);clear hin;go_wp2_with fail
    refine CP.o.mono ?_;rintro e w' ⟨rfl,rfl⟩;clear CP;go_wp2_with fail
    go_roundw
    case rel=>exact⟨2+1,A4,N4,c4,by omega,rfl,rfl,by have:=HE.o;rw[Nat.add_assoc] at this;rw[this];exact DR.o,GR.o⟩
    case measure=>simp[intOf]
   ·rw[hin] at CP
    have HE:Hid (accD h.e (4+2+1)=accD h.e (4+2)++encB 8 (qt h.e.date)):=hiD (by rw[HNX.o,zdg hin,← zdi];rfl);have f0:wr.cell? ⟨b8,2,none⟩=some (.int .i64 h.e.date):=GR.o.cell 2;clear hin;go_wp2_with fail
    refine CP.o.mono ?_;rintro e w' ⟨rfl,rfl⟩;clear CP;go_wp2_with fail
    refine(zb7 A4 N4 c4 h.e.date _ wr DR.o.own.bytes (by omega)).mono ?_;rintro e W4 hm;have hb4:Below wr.heap.size wr W4:=by obtain⟨_,_,_,_,hb5⟩:=hm;exact hb5
    obtain⟨A5,N5,c5,rfl,d⟩:=DR.o.next hm (l2:=accD h.e (4+2+1)) HE.o.symm;have D5:=hiD d;have G5:=hiD (GR.o.below hb4 GR.o.lt);clear hm d f0 hb4;go_wp2_with fail
    go_roundw
    case rel=>exact⟨2+1,A5,N5,c5,by omega,rfl,rfl,by have:=D5.o;rwa [Nat.add_assoc] at this,G5.o⟩
    case measure=>simp[intOf]
  ·have CP:Hid (Calls Tryz.prog 70 #[.string (za (zg h.e.kind)),.int .u8 110] wr fun e w'=>e=.returned (.bool (decide (110∈zg h.e.kind)))∧wr=w'):=hiD (zaj h.e.kind 110 wr)
   have HNX:=hiD (zdf (e:=h.e) (k:=4+3) (c:=110) rfl);cases hin:decide (110∈zg h.e.kind)
   ·rw[hin] at CP
    have HE:Hid (accD h.e (4+3+1)=accD h.e (4+3)):=hiD (by rw[HNX.o,zdh hin,List.append_nil]);clear hin;go_wp2_with fail
    refine CP.o.mono ?_;rintro e w' ⟨rfl,rfl⟩;clear CP;go_wp2_with fail
    go_roundw
    case rel=>exact⟨3+1,A4,N4,c4,by omega,rfl,rfl,by have:=HE.o;rw[Nat.add_assoc] at this;rw[this];exact DR.o,GR.o⟩
    case measure=>simp[intOf]
   ·rw[hin] at CP
    have HE:Hid (accD h.e (4+3+1)=accD h.e (4+3)++encB 8 (qt h.e.n)):=hiD (by rw[HNX.o,zdg hin,← zdi];rfl);have f0:wr.cell? ⟨b8,3,none⟩=some (.int .i64 h.e.n):=GR.o.cell 3;clear hin;go_wp2_with fail
    refine CP.o.mono ?_;rintro e w' ⟨rfl,rfl⟩;clear CP;go_wp2_with fail
    refine(zb7 A4 N4 c4 h.e.n _ wr DR.o.own.bytes (by omega)).mono ?_;rintro e W4 hm;have hb4:Below wr.heap.size wr W4:=by obtain⟨_,_,_,_,hb5⟩:=hm;exact hb5
    obtain⟨A5,N5,c5,rfl,d⟩:=DR.o.next hm (l2:=accD h.e (4+3+1)) HE.o.symm;have D5:=hiD d;have G5:=hiD (GR.o.below hb4 GR.o.lt);clear hm d f0 hb4;go_wp2_with fail
    go_roundw
    case rel=>exact⟨3+1,A5,N5,c5,by omega,rfl,rfl,by have:=D5.o;rwa [Nat.add_assoc] at this,G5.o⟩
    case measure=>simp[intOf]
  ·have D:=hiD (show DnAt w h (accD h.e 8) A4 N4 c4 wr from DR.o)
   clear DR GR;obtain⟨b121,hb121⟩:∃ b,decide (121∈zg h.e.kind)=b:=⟨_,rfl⟩;have CP:Hid (Calls Tryz.prog 70 #[.string (za (zg h.e.kind)),.int .u8 121] wr fun e w'=>e=.returned (.bool b121)∧wr=w'):=hiD (by rw[← hb121];exact zaj h.e.kind 121 wr);have HNX:=hiD (zdf (e:=h.e) (k:=8) (c:=121) rfl);have HBB:=hiD hb121;clear hb121;cases b121
   ·have HE:Hid (accD h.e 9=accD h.e 8):=hiD (by rw[HNX.o,zdh HBB.o,List.append_nil])
    go_wp2_with fail
    refine CP.o.mono ?_;rintro e w' ⟨rfl,rfl⟩;clear CP;go_wp2_with fail
    go_ret2;exact⟨A4,N4,c4,by rw[HZ.o];rfl,by rw[HV.o,HE.o];exact D.o.own,D.o.below⟩
   ·have hok:okQ h.e 121=true:=(zb9 HRT.o).2.2.1 121 (of_decide_eq_true HBB.o)
    have hbl:h.e.body.length≤2000:=of_decide_eq_true hok;have hbody:=(HH.o.later D.o.below).2.2.1;have HE:Hid (accD h.e 9=accD h.e 8++jd (nats (za h.e.body))):=hiD (by rw[HNX.o,zdg HBB.o,zbw _ hbody.2.1];rfl);have hcv:=zcg (P:=Tryz.prog) (c:=h.c3) hbody Tryz.underlying48 Tryz.underlying5 Tryz.underlying9;have HSZ:Hid ((za h.e.body).size≤140737488355328):=hiD (by rw[zc7];omega);have f0:wr.cell? ⟨w.heap.size,10,none⟩=some (.slice h.A3 h.n3 h.c3):=D.o.bx.cell 10;clear hok hbl hbody;go_wp2_with fail
    refine CP.o.mono ?_;rintro e w' ⟨rfl,rfl⟩;clear CP;go_wp2_with fail
    refine(zj0 A4 N4 c4 (za h.e.body) _ wr D.o.own.bytes (by omega) HSZ.o).mono ?_;rintro e W4 hm;obtain⟨A5,N5,c5,rfl,d⟩:=D.o.next hm (l2:=accD h.e 9) HE.o.symm;have D5:=hiD d;clear hm d f0 hcv;go_wp2_with fail
    go_ret2;exact⟨A5,N5,c5,by rw[HZ.o];rfl,by rw[HV.o];exact D5.o.own,D5.o.below⟩
structure Boxd (w:World)(b:Nat)(E:Ev)(H:Eh):Prop where
 bx:Bk w b 50 (evC H)
 val:H.e=E
 inn:EvIn w w.heap.size H
theorem Boxd.below {w w':World}{b:Nat}{E:Ev}{H:Eh}(d:Boxd w b E H)(hb:Below w.heap.size w w'):Boxd w' b E H:=⟨d.bx.below hb d.bx.lt,d.val,d.inn.later hb⟩
theorem Boxd.new {w w':World}{E:Ev}{H:Eh}(hv:H.e=E)(hin:EvIn w w.heap.size H)(hw:Hid (w'=(w.alloc (.cells (evC (ze 0 0)) 50)).setRow w.heap.size (splice (evC (ze 0 0)).toList 0 (evC H).toList).toArray)):Boxd w' w.heap.size E H∧Below w.heap.size w w':=by
 have hw':=qa hw (by rw[zd,zd]);have hb:Below w.heap.size w w':=by rw[hw'];exact below_setRow ((Below.refl _ _).alloc (Nat.le_refl _) _) (Nat.le_refl _) _
 exact⟨⟨by rw[hw'];exact(Bk.new w 50 (evC (ze 0 0))).setRow_same _,hv,hin.later hb⟩,hb⟩
theorem RowsK.moved {P:Program}{α:Type}{k:Nat}{f:α→List Value}{w:World}{e:TypeId}{g c:Nat}{l:List α}(h:RowsK k f w e g c l){i j n:Nat}(hij:i≤j)(hj:j≤n)(hn:l.length=n)(hone:∀ u,∀ v∈f u,v.oneCell'=true)(t ty:TypeId)(ht:P.underlying t=some (.slice e)){zv:Value}{by_:Nat}
 (he:(P.info? e).map (fun i=>(i.zero,i.size,i.bytes))=some (some zv,k,by_)) (o cc:Nat) (ho:j<n→o=j*k) :
 ∃ cur,(Builtin.append_ #[t,t] ty #[.slice (some ⟨g,0,none⟩) i c,.slice (some ⟨g,o,none⟩) (n-j) cc]).run P w=.ok (.slice (some ⟨g,0,none⟩) (i+(n-j)) c) (w.setRow g cur)∧RowsK k f (w.setRow g cur) e g c (l.take i++l.drop j++l.drop (i+(n-j))):=by
 obtain⟨q,hi,hz,hs',hby'⟩:=info_parts he;have hlen:(l.drop j).length=n-j:=by rw[List.length_drop,hn]
 obtain⟨cur,hB,hsz,hR⟩:=h.put (j:=i) (by omega) (l.drop j) (by rw[hlen];have:=h.2.1;omega);rw[hlen] at hR;have hflat:((l.drop j).flatMap f).length=(n-j)*k:=by rw[ju h.1,hlen]
 refine⟨_,?_,hR⟩
 have:=run_append_room (P:=P) w t ty e q ht hi g i c cur hB ⟨g,o,none⟩ (n-j) cc ((l.drop j).flatMap f) (by rw[hflat,hs']) (fun x u hu=>by
  rw[Addr.add_mid];have hjn:j<n:=by
   rcases Nat.lt_or_ge j n with hq|hq
   ·exact hq
   ·exfalso
    have:l.drop j=[]:=List.drop_eq_nil_of_le (by omega);rw[this] at hu;simp at hu
  rw[ho hjn];exact h.flat j x u hu) (fun u hu=>by obtain⟨y,_,hv⟩:=List.mem_flatMap.1 hu;exact hone y u hv) (by have:=h.2.1;omega) (by
   rw[hflat,hs',hsz,← Nat.add_mul]
   exact Nat.mul_le_mul_right _ (by have:=h.2.1;omega))
 rw[this];rw[hs'];unfold splice;rw[List.append_assoc]
theorem z0q {α:Type}{l:List α}{i n:Nat}(hn:l.length=n)(hi:i<n):(l.take i++l.drop (i+1)++l.drop (i+(n-(i+1)))).take (n-1)=l.eraseIdx i:=by
 have h1:(l.take i++l.drop (i+1)).length=n-1:=by simp;omega
 rw[List.take_append_of_le_length (by omega),List.take_of_length_le (by omega),List.eraseIdx_eq_take_drop_succ]
def DelIs {α:Type}(k:Nat)(f:α→List Value)(t:TypeId)(base n c:Nat)(A:Option Addr)(l:List α)(w:World)(e:Ending)(w':World):Prop :=
 e=.returned (.slice A n c)∧OwnK k f w' base t A n c l∧Below base w w'∧w.grownBy w' (Value.slice A n c).ownBlock
theorem z0r:∀ n,∀ v∈(Builtin.zeroCells (Value.cells (.string ByteArray.empty)) n).toList,v.oneCell'=true:=by
 intro n;refine zxf ?_ (by decide) n;intro v hv;simp only[Value.cells,List.mem_cons,List.not_mem_nil,or_false] at hv;rcases hv with rfl<;>rfl
theorem z0s (base g n c i:Nat)(l:List ByteArray)(w:World)(hl:OwnK 1 strC w base 9 (some ⟨g,0,none⟩) n c l)(hi:i<n)(hn:n≤1000000)(hbw:base≤w.heap.size) :
 Calls Tryz.prog 202 #[.slice (some ⟨g,0,none⟩) n c,.int .i64 (i:Int),.int .i64 ((i:Int)+1)] w (DelIs 1 strC 9 base (n-1) c (some ⟨g,0,none⟩) (l.eraseIdx i) w):=by
 have hmx:Tryz.prog.follows .mixedOrders=true:=by kernel_rfl
 have hln:=hl.len;have hnc:n≤c:=hl.cap.1;have hcm:c≤9223372036854775807:=hl.cap.2;obtain⟨g',hge,hgb,hR⟩:=hl.rows (by omega);injection hge with hge;injection hge with hge;subst hge;have HR:=hiD hR;have HGB:=hiD hgb;have i0:(0:Int)≤(i:Int):=by omega
 have i1:(0:Int)≤(i:Int)+1:=by omega
 have iin:(i:Int)≤(n:Int):=by omega
 have i1n:(i:Int)+1≤(n:Int):=by omega
 have ii1:(i:Int)≤(i:Int)+1:=by omega
 have nc:(n:Int)≤(c:Int):=by omega
 have ic:(i:Int)≤(c:Int):=by omega
 have n0:(0:Int)≤(n:Int):=by omega
 have hne:((i:Int) == (i:Int)+1)=false:=by simp;omega
 have hti:((i:Int)+1).toNat=i+1:=by omega
 have hni:¬ (n=i):=by omega
 have hc0:¬ (c=0):=by omega
 have hn0:¬ (n=0):=by omega
 obtain⟨o,hoo⟩:∃ o,o=(if c=i+1 then 0 else (i+1)*1):=⟨_,rfl⟩;have HOO:Hid (i+1<n→o=(i+1)*1):=hiD (fun h=>by rw[hoo,if_neg (by omega)]);have HAF:=hiD (fun W (h:RowsK 1 strC W 9 g c l)=>RowsK.moved (P:=Tryz.prog) h (i:=i) (j:=i+1) (n:=n) (by omega) (by omega) hln zi0 35 35 Tryz.underlying35 zim o (c-(i+1)) HOO.o);have S2:∀ W,(Instr.sliceAt 35 (.slice (some ⟨g,0,none⟩) n c) (some (.int .i64 ((i:Int)+1))) none none).run Tryz.prog W=.ok (.slice (some ⟨g,o,none⟩) (n-(i+1)) (c-(i+1))) W:=by
  intro W;have hel:Tryz.prog.elem 35=9:=by simp[Program.elem,Tryz.underlying35]
  have hund:Tryz.prog.underlying 35=some (.slice (Tryz.prog.elem 35)):=by rw[hel];exact Tryz.underlying35
  have hsz:(sizeOf (Tryz.prog.elem 35)).run Tryz.prog W=.ok 1 W:=by rw[hel];exact Tryz.sizeOf9 W
  rw[run_sliceAt_slice W 35 _ _ _ _ hund,run_slice_l W 35 _ n c hund .i64 ((i:Int)+1) (by omega) (by omega),hsz,hti];rw[hoo];by_cases hcc:c=i+1
  ·rw[if_pos hcc]
   simp[Result.andThen_ok,sliced,hcc]
  ·rw[if_neg hcc]
   simp[Result.andThen_ok,sliced,hcc];rw[Addr.add_mid,Nat.zero_add]
 have S2H:=hiD S2;clear S2 hoo hl hR hgb;go_enter Tryz.func202,Tryz.ntmps202
 go_wp2_with fail
 refine wp_region_held_drew (S:=fun _=>True) hmx trivial (fun qch=>?_);have HRD:=hiD (HR.o.drew);have HBD:=hiD ((Below.refl w.heap.size w).drew);generalize hW0:w.drew=W at *;have hgW:w.grownBy W (some g):=by rw[← hW0];exact⟨rfl,rfl,rfl,Nat.le_refl _,fun _ _ _=>rfl⟩
 clear hW0;obtain⟨cur,hrun,hR2⟩:=HAF.o W HRD.o;have HRUN:=hiD hrun;have HR2:=hiD hR2;have HGW:=hiD hgW;clear hrun hR2 hgW;simp only[List.size_toArray,List.length_cons,List.length_nil,Nat.reduceAdd];refine tks (i:=0) (v:=.slice (some ⟨g,0,none⟩) n c) (s:=qch) (h:=?_);try simp only[nm0]
 refine tks (i:=1) (v:=.int .i64 (i:Int)) (s:=qch) (h:=?_);try simp only[nm0]
 refine tkx (i:=2) (v:=.slice (some ⟨g,0,none⟩) i c) (x:=fun w0 hC=>by simp[execOp,Act.eval,Act.put,go_sem,i0,ic,hc0]) (s:=qch) (h:=?_);try simp only[nm0]
 refine tks (i:=3) (v:=.slice (some ⟨g,0,none⟩) n c) (s:=qch) (h:=?_);try simp only[nm0]
 refine tks (i:=4) (v:=.int .i64 ((i:Int)+1)) (s:=qch) (h:=?_);try simp only[nm0]
 refine tkx (i:=5) (v:=.slice (some ⟨g,o,none⟩) (n-(i+1)) (c-(i+1))) (x:=fun w0 hC=>by simp[execOp,Act.eval,Act.put,S2H.o]) (s:=qch) (h:=?_);try simp only[nm0]
 refine rd1 (r:=6) (h:=fun K hK=>?_);refine jv (s:=.tmp 22) (x:=.tmp 25) rfl rfl rfl HRUN.o ?_;refine bkk hK trivial fun qch=>?_;clear hK K;try simp only[nm0]
 refine tks (i:=7) (v:=.slice (some ⟨g,0,none⟩) (i+(n-(i+1))) c) (s:=qch) (h:=?_);try simp only[nm0]
 refine wpAnyH_done (by kernel_rfl) ?_ _;have HB2:=hiD (YtmjjefnmabbgdaaGreatDoor.below_setRow ((Below.refl base w).grown HGW.o hbw (fun q hq=>by injection hq with hq;have:=HGB.o;omega)) HGB.o cur);have HG2:=hiD (zat HGW.o (zgd W g cur));have hin:i+(n-(i+1))=n-1:=by omega
 rw[hin];have hlen2:(l.take i++l.drop (i+1)++l.drop (i+(n-(i+1)))).length=n:=by simp;omega
 obtain⟨cur2,hB2,hs2,hP2⟩:=HR2.o.cut (j:=n-1) (by omega);generalize W.setRow g cur=V at *;have hzs:(Builtin.zeroCells (Value.cells (.string ByteArray.empty)) 1).size=1*1:=by rw[size_zeroCells];rfl
 have HCL:=hiD (fun ty cc=>zxg (P:=Tryz.prog) V 35 9 ty (.string ByteArray.empty) Tryz.underlying35 Tryz.zeroValue9 g ((n-1)*1) 1 cc (by omega) cur2 9 hB2 (z0r _) (by rw[hzs,hs2,← Nat.add_mul];exact Nat.mul_le_mul_right _ (by omega)));have HP3:=hiD (hP2 (Builtin.zeroCells (Value.cells (.string ByteArray.empty)) 1).toList (by rw[Array.length_toList,hzs,← Nat.add_mul];exact Nat.mul_le_mul_right _ (by omega)));rw[z0q hln hi] at HP3;simp only[Nat.mul_one] at HCL HP3;have hn1:(0:Int)≤((n-1:Nat):Int):=by omega
 have hn2:((n-1:Nat):Int)≤(n:Int):=by omega
 have hcn:¬ (c=n-1):=by omega
 have hnn:n-(n-1)=1:=by omega
 clear hB2 hs2 hP2 hzs HR2 HRD HBD HAF HRUN hlen2 qch S2H HGW HOO;go_wp2_with (with_reducible refine st0 ?_)
 refine held (wpList_plain rfl fun K hK=>z6x (s:=.tmp 31) rfl rfl (HCL.o _ _) (hK _ _ ?_));have HB4:=hiD (fun cs=>YtmjjefnmabbgdaaGreatDoor.below_setRow HB2.o HGB.o cs);have HG4:=hiD (fun cs=>zat HG2.o (zgd V g cs));go_wp2_with fail
 go_ret;refine⟨rfl,?_,HB4.o _,HG4.o _⟩;have:=HP3.o.own HGB.o;rw[show(l.eraseIdx i).length=n-1 by rw[List.length_eraseIdx];split<;>omega] at this;exact this
theorem z0t {w W:World}(h:Below w.heap.size w W):w.grownBy W none:=⟨h.os,h.tape,h.output,h.size,fun k hk _=>h.block k hk⟩
def InsSt (w:World)(base:Nat)(l:List ByteArray)(e:Ending)(w':World):Prop:=∃ A' n' c',e=.returned (.slice A' n' c')∧OwnK 1 strC w' base 9 A' n' c' l∧Chg 9 base w w'
theorem z0u (base:Nat)(A:Option Addr)(n c vb:Nat)(x:ByteArray)(l:List ByteArray)(w:World)(hl:OwnK 1 strC w base 9 A n c l)(hn:n≤100000)(hv:Bk w vb 9 #[.string x])(hbw:base≤w.heap.size) :
 Calls Tryz.prog 201 #[.slice A n c,.int .i64 n,.slice (some ⟨vb,0,none⟩) 1 1] w (InsSt w base (l++[x])):=by
 obtain⟨A3,c3,w3,hrun,ho3,hb3,hg3⟩:=zbb (P:=Tryz.prog) (f:=strC) hl 35 35 Tryz.underlying35 zim rfl (by omega) (by omega) (A':=some ⟨vb,0,none⟩) (m:=1) (c':=1) (us:=[x]) (B:=w.heap.size)
  ⟨rfl,fun _=>⟨vb,0,rfl,hv.lt,fun i a ha=>by
   cases i with
   | zero=>cases ha;rw[Nat.zero_mul,Nat.add_zero];exact hv.range
   | succ i=>cases ha⟩⟩ (fun u _=>zi0 u) (by omega) hbw
 have HRUN:=hiD hrun;have HB3:=hiD (Chg.row (v:=.slice A n c) hl.1 hg3 hb3);have hnc:n≤c:=hl.cap.1;have hcm:c≤9223372036854775807:=hl.cap.2;clear hrun hl hg3 hv;have HO3:=hiD ho3;clear ho3 hb3;by_cases hcn:c=n
 ·subst hcn
  go_enter Tryz.func201,Tryz.ntmps201
  go_wp2_with (with_reducible refine stn 25 ?_)
  refine held (wpList_plain rfl fun K hK=>jv (s:=.tmp 23) (x:=.tmp 24) rfl rfl rfl HRUN.o (hK _ _ ?_));go_wp2_with fail
  go_ret;exact⟨_,_,_,rfl,HO3.o,HB3.o⟩
 ·go_enter Tryz.func201,Tryz.ntmps201
  go_wp2_with (with_reducible refine stn 25 ?_)
  refine held (wpList_plain rfl fun K hK=>jv (s:=.tmp 23) (x:=.tmp 24) rfl rfl rfl HRUN.o (hK _ _ ?_));go_wp2_with fail
  go_ret;exact⟨_,_,_,rfl,HO3.o,HB3.o⟩
theorem z0v {w:World}{vb g o la ca lb cb:Nat}{cs cur:Array Value}(hv:Bk w vb 9 cs)(hg:Bk w g 9 cur)(hne:vb≠g)(h0:cur.size≠0) :
 (callFunc 265 #[.slice (some ⟨vb,0,none⟩) la ca,.slice (some ⟨g,o,none⟩) lb cb]).run Tryz.prog w=.ok (.value (.bool false)) w:=by
 rw[run_callFunc_extern Tryz.func265 (by kernel_rfl) (by kernel_rfl) (by kernel_rfl) (e:=Extern.SlicesOverlaps.overlaps #[35,35] #[4]) (by kernel_rfl),
  Lib.run_overlaps_apart w 35 4 9 Tryz.underlying35 1 Tryz.sizeOf9 ⟨vb,0,none⟩ ⟨g,o,none⟩ la ca lb cb hne 9 9 cs.size cur.size hv.shape hg.shape h0 (hv.frozen 0) (hv.frozen cs.size)]
 rfl
theorem z0w {l:List ByteArray}{i:Nat}(hi:i<l.length)(x:ByteArray):(l.take (i+1)++l.drop i).take i++[x]++(l.take (i+1)++l.drop i).drop (i+1)=l.take i++[x]++l.drop i:=by
 have h1:(l.take (i+1)).length=i+1:=by rw[List.length_take];omega
 rw[List.take_append_of_le_length (by omega),List.take_take,List.drop_append,List.drop_eq_nil_of_le (by omega),h1,Nat.sub_self,List.drop_zero,List.nil_append,show min i (i+1)=i by omega]
theorem z0x (w:World):(sizeOf (Tryz.prog.elem 35)).run Tryz.prog w=.ok 1 w:=by
 have hel:Tryz.prog.elem 35=9:=by simp[Program.elem,Tryz.underlying35]
 rw[hel];exact Tryz.sizeOf9 w
theorem zqw:Tryz.prog.underlying 35=some (.slice (Tryz.prog.elem 35)):=by
 have hel:Tryz.prog.elem 35=9:=by simp[Program.elem,Tryz.underlying35]
 rw[hel];exact Tryz.underlying35
theorem zih {o:Oper}{ρ:Operand→Value}{x lo:Operand}{g n c j:Nat}{w:World}(ho:o.op=.slice 35 x (some lo) none none)(hx:ρ x=.slice (some ⟨g,0,none⟩) n c)(hl:ρ lo=.int .i64 (j:Int))(hj:j≤n)(hc:n≤c)(hcj:¬ (c=j)) :
 (execOp ρ o).run Tryz.prog w=.ok (.value (.slice (some ⟨g,j,none⟩) (n-j) (c-j))) w:=by
 have hrun:(Instr.sliceAt 35 (.slice (some ⟨g,0,none⟩) n c) (some (.int .i64 (j:Int))) none none).run Tryz.prog w=.ok (.slice (some ⟨g,j,none⟩) (n-j) (c-j)) w:=by
  rw[run_sliceAt_slice w 35 _ _ _ _ zqw,run_slice_l w 35 _ n c zqw .i64 (j:Int) (by omega) (by omega),z0x];simp[Result.andThen_ok,sliced,hcj];rw[Addr.add_mid,Nat.zero_add]
 unfold execOp;simp[ho,hx,hl,hrun]
theorem RowsK.copiedS {w:World}{g c:Nat}{l:List ByteArray}(h:RowsK 1 strC w 9 g c l){j:Nat}(hj:j≤l.length)(us:List ByteArray)(hc:j+us.length≤c)(b o:Nat)(hsrc:w.rangeAt b o (us.flatMap strC)) :
 ∃ cur : Array Value, (∀ ty dLen dCap sLen sCap, Nat.min sLen dLen = us.length → (Builtin.copy_ #[35, 35] ty #[.slice (some ⟨g, j, none⟩) dLen dCap, .slice (some ⟨b, o, none⟩) sLen sCap]).run Tryz.prog w = .ok (goInt us.length) (w.setRow g cur)) ∧
   RowsK 1 strC (w.setRow g cur) 9 g c (l.take j++us++l.drop (j+us.length)):=by
 have hinfo:(Tryz.prog.info? 9).map (·.size)=some 1:=by kernel_rfl
 obtain⟨cur,hB,hsz,hR⟩:=h.put hj us hc;have e:j*1=j:=Nat.mul_one j;rw[e] at hR;refine⟨_,fun ty dLen dCap sLen sCap hm=>?_,hR⟩;exact zxe w 35 35 ty 9 g j dLen dCap ⟨b,o,none⟩ sLen sCap cur 9 (us.flatMap strC) Tryz.underlying35 hinfo hm hB (by rw[ju zdp,Nat.mul_one]) (fun i v hv=>by rw[Addr.add_mid];exact hsrc i v hv)
  (by rw[ju zdp,hsz];omega) (fun v hv=>by obtain⟨u,hu,hv⟩:=List.mem_flatMap.1 hv;exact zi0 u v hv)
theorem RowsK.flatS {w:World}{g c:Nat}{l:List ByteArray}(h:RowsK 1 strC w 9 g c l)(i:Nat):w.rangeAt g i ((l.drop i).flatMap strC):=by
 have:=h.flat i
 rwa [Nat.mul_one] at this
theorem zqx {w:World}{vb:Nat}{x:ByteArray}(hv:Bk w vb 9 #[.string x]):w.rangeAt vb 0 ([x].flatMap strC):=by
 intro j v hj;have:=hv.range j v (by simpa [strC] using hj)
 simpa using this
theorem z0y (base g n c i vb:Nat)(x:ByteArray)(l:List ByteArray)(w:World)(hl:RowsK 1 strC w 9 g c l)(hln:l.length=n)(hbg:base≤g)(hn:n≤100000)(hi:i<n)(hroom:n+1≤c)(hv:Bk w vb 9 #[.string x])(hne:vb≠g)(hbw:base≤w.heap.size) :
 Calls Tryz.prog 201 #[.slice (some ⟨g,0,none⟩) n c,.int .i64 i,.slice (some ⟨vb,0,none⟩) 1 1] w (InsSt w base (l.take i++[x]++l.drop i)):=by
 have hcm:c≤9223372036854775807:=hl.2.2.1;have hinfo:(Tryz.prog.info? 9).map (·.size)=some 1:=by kernel_rfl
 have HOV:Hid (∀ la ca lb cb o,(callFunc 265 #[.slice (some ⟨vb,0,none⟩) la ca,.slice (some ⟨g,o,none⟩) lb cb]).run Tryz.prog w=.ok (.value (.bool false)) w):=hiD (by
  intro la ca lb cb o;obtain⟨_,_,_,cur,rest,hB,hs,_⟩:=hl
  exact z0v hv hB hne (by rw[hs];omega))
 have HC1:Hid (∃ W1:World,RowsK 1 strC W1 9 g c (l.take (i+1)++l.drop i)∧Below base w W1∧w.grownBy W1 (some g)∧Bk W1 vb 9 #[.string x]∧∀ ty dc sc,(Builtin.copy_ #[35,35] ty #[.slice (some ⟨g,i+1,none⟩) (n-i) dc,.slice (some ⟨g,i,none⟩) (n+1-i) sc]).run Tryz.prog w.drew=.ok (goInt ((n-i:Nat):Int)) W1):=hiD (by
  have hd:(l.drop i).length=n-i:=by rw[List.length_drop,hln]
  obtain⟨cur,hrun,hR⟩:=hl.drew.copiedS (j:=i+1) (by omega) (l.drop i) (by omega) g i (hl.drew.flatS i);rw[show l.take (i+1)++l.drop i++l.drop (i+1+(l.drop i).length)=l.take (i+1)++l.drop i by rw[show l.drop (i+1+(l.drop i).length)=[] from List.drop_eq_nil_of_le (by rw[hd];omega),List.append_nil]] at hR;refine⟨_,hR,YtmjjefnmabbgdaaGreatDoor.below_setRow (Below.refl _ _).drew hbg _,zat (b:=w.drew) ⟨rfl,rfl,rfl,Nat.le_refl _,fun _ _ _=>rfl⟩ (zgd _ g _),hv.drew.setRow_other hne _,fun ty dc sc=>?_⟩;rw[← hd]
  exact hrun ty _ dc _ sc (by rw[hd];exact Nat.min_eq_right (by omega)))
 obtain⟨W1,hR1,hb1,hg1,hv1,hrun1⟩:=HC1.o
 have HC2:Hid (∃ W2:World,RowsK 1 strC W2 9 g c (l.take i++[x]++l.drop i)∧Below base w W2∧w.grownBy W2 (some g)∧∀ ty dc,(Builtin.copy_ #[35,35] ty #[.slice (some ⟨g,i,none⟩) (n+1-i) dc,.slice (some ⟨vb,0,none⟩) 1 1]).run Tryz.prog W1=.ok (goInt 1) W2):=hiD (by
  have hl1:(l.take (i+1)++l.drop i).length=n+1:=by rw[List.length_append,List.length_take,List.length_drop,hln];omega
  obtain⟨cur,hrun,hR⟩:=hR1.copiedS (j:=i) (by omega) [x] (by simp;omega) vb 0 (zqx hv1);rw[show i+[x].length=i+1 from rfl,z0w (by omega)] at hR
  exact⟨_,hR,YtmjjefnmabbgdaaGreatDoor.below_setRow hb1 hbg _,zat hg1 (zgd _ g _),fun ty dc=>hrun ty _ dc 1 1 (Nat.min_eq_left (by omega))⟩)
 obtain⟨W2,hR2,hb2,hg2,hrun2⟩:=HC2.o;have HR2:=hiD hR2
 have HB2:Hid (Chg 9 base w W2):=hiD (by
  obtain⟨_,_,_,cur0,rest,hB0,_⟩:=hl
  exact Chg.of hB0 hg2 hb2)
 have HRUN1:=hiD hrun1;have HRUN2:=hiD hrun2;have HLN:Hid ((l.take i++[x]++l.drop i).length=n+1):=hiD (by simp only[List.length_append,List.length_take,List.length_drop,List.length_cons,List.length_nil,hln];omega);have hz2:¬ ((i:Int)=(n:Int)):=by omega
 have hz3:¬ ((c:Int)<(n:Int)+1):=by omega
 have hw1:IntKind.i64.wrap ((i:Int)+1)=(i:Int)+1:=IntWalk.i64_in _ (by omega);have hb1':(0:Int)≤(i:Int)+1:=by omega
 have hi0:(0:Int)≤(i:Int):=by omega
 have hin:(i:Int)≤(n:Int):=by omega
 have htn:((i:Int)+1).toNat=i+1:=by omega
 have hci:¬ (c=i):=by omega
 have hci1:¬ (c=i+1):=by omega
 have hi1n:(i:Int)+1≤(n:Int)+1:=by omega
 have hin1:(i:Int)≤(n:Int)+1:=by omega
 clear hR1 hb1 hg1 hg2 hv1 hrun1 hR2 hb2 hrun2 HC1 HC2 hl hv hln;go_enter Tryz.func201,Tryz.ntmps201
 go_wp2_with (simp only[HOV.o])
 have hm:Tryz.prog.follows .mixedOrders=true:=by kernel_rfl
 have hwq:IntKind.i64.wrap ((i:Int)+1)=((i+1:Nat):Int):=by rw[hw1];omega
 refine wp_region_held_drew (S:=fun _=>True) hm trivial (fun qch=>?_);simp only[List.size_toArray,List.length_cons,List.length_nil,Nat.reduceAdd];refine tks (i:=0) (v:=.slice (some ⟨g,0,none⟩) (n+1) c) (s:=qch) (h:=?_);try simp only[nm0]
 refine tks (i:=1) (v:=.int .i64 (i:Int)) (s:=qch) (h:=?_);try simp only[nm0]
 refine tks (i:=2) (v:=.int .i64 1) (s:=qch) (h:=?_);try simp only[nm0]
 refine tkx (i:=3) (v:=.int .i64 ((i+1:Nat):Int)) (x:=fun w0 hC=>by simp[execOp,Act.eval,Act.put,go_sem,hwq]) (s:=qch) (h:=?_);try simp only[nm0]
 refine tkx (i:=4) (v:=.slice (some ⟨g,i+1,none⟩) (n+1-(i+1)) (c-(i+1))) (x:=fun w0 hC=>zih rfl rfl rfl (by omega) hroom hci1) (s:=qch) (h:=?_);try simp only[nm0]
 refine tks (i:=5) (v:=.slice (some ⟨g,0,none⟩) (n+1) c) (s:=qch) (h:=?_);try simp only[nm0]
 refine tks (i:=6) (v:=.int .i64 (i:Int)) (s:=qch) (h:=?_);try simp only[nm0]
 refine tkx (i:=7) (v:=.slice (some ⟨g,i,none⟩) (n+1-i) (c-i)) (x:=fun w0 hC=>zih rfl rfl rfl (by omega) hroom hci) (s:=qch) (h:=?_);try simp only[nm0]
 refine rd1 (r:=8) (h:=fun K hK=>?_);refine zi4 (d:=.tmp 73) (s:=.tmp 76) rfl rfl rfl (by rw[show n+1-(i+1)=n-i by omega];exact HRUN1.o _ _ _) ?_;refine bkk hK trivial fun qch=>?_;clear hK K;try simp only[nm0]
 refine wpAnyH_done (by kernel_rfl) ?_ _;go_wp2_with (with_reducible refine stn 82 ?_)
 refine held (wpList_plain rfl fun K hK=>zi4 (d:=.tmp 80) (s:=.tmp 81) rfl rfl rfl (HRUN2.o _ _) (hK _ _ ?_));go_wp2_with fail
 go_ret;refine⟨some ⟨g,0,none⟩,n+1,c,rfl,?_,HB2.o⟩;have:=HR2.o.own hbg;rw[HLN.o] at this
 simpa using this
theorem z0z (w:World)(g n c i:Nat)(l:List ByteArray)(hl:RowsK 1 strC w 9 g c l)(hln:l.length=n)(hn:n≤100000)(hi:i<n)(hroom:c<n+1)(ty:TypeId) :
 ∃ W1 c2, (Builtin.append_ #[35, 3] ty #[.slice (some ⟨g, 0, none⟩) i c, .int .i64 ((n + 1 - i : Nat) : Int)]).run Tryz.prog w = .ok (.slice (some ⟨w.heap.size, 0, none⟩) (n + 1) c2) W1 ∧ n + 1 ≤ c2 ∧ c2 ≤ maxLen ∧
   RowsK 1 strC W1 9 w.heap.size c2 (l.take i)∧Below w.heap.size w W1:=by
 obtain⟨inf,hinf,hz,hs,hb⟩:=info_parts zim;have hlt:(l.take i).length=i:=by rw[List.length_take];omega
 have hold:(Builtin.firstCells inf.size i (.slice (some ⟨g,0,none⟩) i c)).run Tryz.prog w.drew=.ok ((l.take i).flatMap strC).toArray w.drew:=by
  rw[hs];refine run_firstCells_some w.drew 1 i ⟨g,0,none⟩ i c _ (by rw[ju zdp,hlt]) (fun j v hj=>?_);rw[Addr.add_mid,Nat.zero_add];have:=(hl.drew.to i).flat 0 j v (by simpa using hj)
  simpa using this
 have h:=Lib.run_append_grow_zeros w 35 3 ty 9 inf _ .i64 .i64 Tryz.underlying35 Tryz.underlying3 hinf hz (some ⟨g,0,none⟩) i c _ hold (n+1 - i) (by omega) (by rw[hs];omega) (by omega) (by omega) (by rw[hb];omega) (by rw[hb];exact growslice_fits (by omega) (by omega));rw[show i+(n+1 - i)=n+1 by omega] at h;have hg1:=grownCap_ge w (n+1) c 9;have hg2:=grownCap_le_maxLen w (n+1) c 9 (by unfold maxLen;omega);refine⟨_,_,h,hg1,hg2,⟨zdp,by rw[hlt];omega,hg2,_,(Builtin.zeroCells (Value.string ByteArray.empty).cells (n+1 - i)).toList++(Builtin.zeroCells (Value.string ByteArray.empty).cells (grownCap w (n+1) c 9 - (n+1))).toList,Bk.new w.drew _ _,?_,?_⟩,(Below.refl _ _).drew.alloc (Nat.le_refl _) _⟩
 ·rw[Array.size_append,Array.size_append,size_zeroCells,size_zeroCells,List.size_toArray,ju zdp,hlt]
  show i*1+(n+1-i)*1+(grownCap w (n+1) c 9-(n+1))*1=_
  omega
 ·simp
theorem z00 (base g n c i vb:Nat)(x:ByteArray)(l:List ByteArray)(w:World)(hl:RowsK 1 strC w 9 g c l)(hln:l.length=n)(hn:n≤100000)(hi:i<n)(hnc:n≤c)(hroom:c<n+1)(hv:Bk w vb 9 #[.string x])(hbw:base≤w.heap.size) :
 Calls Tryz.prog 201 #[.slice (some ⟨g,0,none⟩) n c,.int .i64 i,.slice (some ⟨vb,0,none⟩) 1 1] w (InsSt w base (l.take i++[x]++l.drop i)):=by
 have hinfo:(Tryz.prog.info? 9).map (·.size)=some 1:=by kernel_rfl
 obtain⟨W1,c2,hrun0,hc2,hcm2,hR1,hb1⟩:=z0z w g n c i l hl hln hn hi hroom 35;have hlt:(l.take i).length=i:=by rw[List.length_take];omega
 obtain⟨h,hh⟩:∃ h,h=w.heap.size:=⟨_,rfl⟩;rw[← hh] at hrun0 hR1;have hvh:vb≠h:=by have:=hv.lt;omega
 have hgh:g≠h:=by have:=hl.lt;omega
 have hbh:base≤h:=by omega
 have hd:(l.drop i).length=n-i:=by rw[List.length_drop,hln]
 have hg1:RowsK 1 strC W1 9 g c l:=hl.below hb1;have hv1:Bk W1 vb 9 #[.string x]:=hv.below hb1 hv.lt;have hhw:w.heap.size≤h:=by omega
 have HC2:Hid (∃ W2:World,RowsK 1 strC W2 9 h c2 (l.take i++[x])∧RowsK 1 strC W2 9 g c l∧Below w.heap.size w W2∧∀ ty dc,(Builtin.copy_ #[35,35] ty #[.slice (some ⟨h,i,none⟩) (n+1-i) dc,.slice (some ⟨vb,0,none⟩) 1 1]).run Tryz.prog W1=.ok (goInt 1) W2):=hiD (by
  obtain⟨cur,hrun,hR⟩:=hR1.copiedS (j:=i) (by omega) [x] (by simp;omega) vb 0 (zqx hv1);rw[show(l.take i).take i++[x]++(l.take i).drop (i+[x].length)=l.take i++[x] by rw[List.take_take,Nat.min_self,List.drop_eq_nil_of_le (by rw[hlt];simp),List.append_nil]] at hR;refine⟨_,hR,?_,YtmjjefnmabbgdaaGreatDoor.below_setRow hb1 hhw _,fun ty dc=>hrun ty _ dc 1 1 (Nat.min_eq_left (by omega))⟩;obtain⟨a1,a2,a3,cur',rest,a4,a5⟩:=hg1
  exact⟨a1,a2,a3,cur',rest,a4.setRow_other hgh _,a5⟩)
 obtain⟨W2,hR2,hg2,hb2,hrun1⟩:=HC2.o
 have HC3:Hid (∃ W3:World,RowsK 1 strC W3 9 h c2 (l.take i++[x]++l.drop i)∧Below w.heap.size w W3∧∀ ty dc sc,(Builtin.copy_ #[35,35] ty #[.slice (some ⟨h,i+1,none⟩) (n-i) dc,.slice (some ⟨g,i,none⟩) (n-i) sc]).run Tryz.prog W2.drew=.ok (goInt ((n-i:Nat):Int)) W3):=hiD (by
  have hl2:(l.take i++[x]).length=i+1:=by rw[List.length_append,hlt];rfl
  obtain⟨cur,hrun,hR⟩:=hR2.drew.copiedS (j:=i+1) (by omega) (l.drop i) (by omega) g i (hg2.drew.flatS i)
  rw[show(l.take i++[x]).take (i+1)++l.drop i++(l.take i++[x]).drop (i+1+(l.drop i).length)=l.take i++[x]++l.drop i by
   rw[List.take_of_length_le (by omega),show(l.take i++[x]).drop (i+1+(l.drop i).length)=[] from List.drop_eq_nil_of_le (by omega),List.append_nil]] at hR
  refine⟨_,hR,YtmjjefnmabbgdaaGreatDoor.below_setRow hb2.drew hhw _,fun ty dc sc=>?_⟩;rw[← hd]
  exact hrun ty _ dc _ sc (by rw[hd];exact Nat.min_self _))
 obtain⟨W3,hR3,hb3,hrun2⟩:=HC3.o;have HR3:=hiD hR3;have HB3:Hid (Chg 9 base w W3):=hiD ⟨hb3.mono hbw,none,z0t hb3,fun _ _ _ _ h=>by cases h⟩;have HRUN0:=hiD hrun0;have HRUN1:=hiD hrun1;have HRUN2:=hiD hrun2;have HLN:Hid ((l.take i++[x]++l.drop i).length=n+1):=hiD (by simp only[List.length_append,List.length_take,List.length_drop,List.length_cons,List.length_nil,hln];omega);have hcm:c≤9223372036854775807:=hl.2.2.1;have hz2:¬ ((i:Int)=(n:Int)):=by omega
 have hz3:(c:Int)<(n:Int)+1:=by omega
 have hw1:IntKind.i64.wrap ((i:Int)+1)=(i:Int)+1:=IntWalk.i64_in _ (by omega);have hb1':(0:Int)≤(i:Int)+1:=by omega
 have hi0:(0:Int)≤(i:Int):=by omega
 have hin:(i:Int)≤(n:Int):=by omega
 have htn:((i:Int)+1).toNat=i+1:=by omega
 have hci:¬ (c=i):=by omega
 have hc2i:¬ (c2=i):=by omega
 have hc2i1:¬ (c2=i+1):=by omega
 have hkk:(n:Int)+1-(i:Int)=((n+1-i:Nat):Int):=by omega
 have hcm3:c2≤9223372036854775807:=hcm2;have hic:(i:Int)≤(c:Int):=by omega
 clear hR1 hb1 hv1 hrun1 hR2 hb2 hrun2 HC2 HC3 hl hv hln hh hrun0 hg1 hg2 hR3 hb3 hhw hd hlt;go_enter Tryz.func201,Tryz.ntmps201
 go_wp2_with (with_reducible refine stn 40 ?_)
 refine held (wpList_plain rfl fun K hK=>z7r (s:=.tmp 34) (x:=.tmp 39) rfl rfl rfl HRUN0.o (hK _ _ ?_));go_wp2_with (with_reducible refine stn 45 ?_)
 refine held (wpList_plain rfl fun K hK=>zi4 (d:=.tmp 43) (s:=.tmp 44) rfl rfl rfl (HRUN1.o _ _) (hK _ _ ?_));go_wp2_with fail
 have hm:Tryz.prog.follows .mixedOrders=true:=by kernel_rfl
 have hwq:IntKind.i64.wrap ((i:Int)+1)=((i+1:Nat):Int):=by rw[hw1];omega
 refine wp_region_held_drew (S:=fun _=>True) hm trivial (fun qch=>?_);simp only[List.size_toArray,List.length_cons,List.length_nil,Nat.reduceAdd];refine tks (i:=0) (v:=.slice (some ⟨h,0,none⟩) (n+1) c2) (s:=qch) (h:=?_);try simp only[nm0]
 refine tks (i:=1) (v:=.int .i64 (i:Int)) (s:=qch) (h:=?_);try simp only[nm0]
 refine tks (i:=2) (v:=.int .i64 1) (s:=qch) (h:=?_);try simp only[nm0]
 refine tkx (i:=3) (v:=.int .i64 ((i+1:Nat):Int)) (x:=fun w0 hC=>by simp[execOp,Act.eval,Act.put,go_sem,hwq]) (s:=qch) (h:=?_);try simp only[nm0]
 refine tkx (i:=4) (v:=.slice (some ⟨h,i+1,none⟩) (n+1-(i+1)) (c2-(i+1))) (x:=fun w0 hC=>zih rfl rfl rfl (by omega) hc2 hc2i1) (s:=qch) (h:=?_);try simp only[nm0]
 refine tks (i:=5) (v:=.slice (some ⟨g,0,none⟩) n c) (s:=qch) (h:=?_);try simp only[nm0]
 refine tks (i:=6) (v:=.int .i64 (i:Int)) (s:=qch) (h:=?_);try simp only[nm0]
 refine tkx (i:=7) (v:=.slice (some ⟨g,i,none⟩) (n-i) (c-i)) (x:=fun w0 hC=>zih rfl rfl rfl (by omega) hnc hci) (s:=qch) (h:=?_);try simp only[nm0]
 refine rd1 (r:=8) (h:=fun K hK=>?_);refine zi4 (d:=.tmp 50) (s:=.tmp 53) rfl rfl rfl (by rw[show n+1-(i+1)=n-i by omega];exact HRUN2.o _ _ _) ?_;refine bkk hK trivial fun qch=>?_;clear hK K;try simp only[nm0]
 refine wpAnyH_done (by kernel_rfl) ?_ _;go_wp2_with fail
 go_ret;refine⟨some ⟨h,0,none⟩,n+1,c2,rfl,?_,HB3.o⟩;have:=HR3.o.own hbh;rw[HLN.o] at this
 simpa using this
theorem z01 (base:Nat)(A:Option Addr)(n c i vb:Nat)(x:ByteArray)(l:List ByteArray)(w:World)(hl:OwnK 1 strC w base 9 A n c l)(hn:n≤100000)(hi:i≤n)(hv:Bk w vb 9 #[.string x])(hne:∀ a,A=some a→vb≠a.block)(hbw:base≤w.heap.size) :
 Calls Tryz.prog 201 #[.slice A n c,.int .i64 i,.slice (some ⟨vb,0,none⟩) 1 1] w (InsSt w base (l.take i++[x]++l.drop i)):=by
 rcases Nat.lt_or_ge i n with h|h
 ·obtain⟨g,rfl,hbg,hR⟩:=hl.rows (by omega)
  rcases Nat.lt_or_ge n c with h2|h2
  ·exact z0y base g n c i vb x l w hR hl.len hbg hn h h2 hv (hne _ rfl) hbw
  ·exact z00 base g n c i vb x l w hR hl.len hn h hl.cap.1 (by omega) hv hbw
 ·obtain rfl:i=n:=by omega
  have:=z0u base A i c vb x l w hl hn hv hbw;have hlen:=hl.len;rw[List.take_of_length_le (by omega),List.drop_eq_nil_of_le (by omega),List.append_nil];exact this
end Go.Proofs.YtmjjefnmabbgdaaGreatDoor
