/- A part of the proof. -/
import Derived.Test.YtmjjefnmabbgdaaGreatDoorSRecC
import Derived.Test.YtmjjefnmabbgdaaGreatDoorSStSort
namespace Go.Proofs.YtmjjefnmabbgdaaGreatDoor
set_option linter.unusedVariables false
set_option linter.unusedSimpArgs false
set_option maxRecDepth 100000
set_option maxHeartbeats 16000000
open Go.RowKit
theorem wr1 {h:Eh}(hk:h.e.kind=1):Writes h:=fun base bs s p w hs hok hi=>z9i base bs s p h w hs hok hi hk
theorem wr4 {h:Eh}(hk:h.e.kind=4):Writes h:=fun base bs s p w hs hok hi=>z9u base bs s p h w hs hok hi hk
theorem wr5 {h:Eh}(hk:h.e.kind=5):Writes h:=fun base bs s p w hs hok hi=>z9r base bs s p h w hs hok hi hk
theorem auWr {h:Eh}(hm:h.e∈(foL [auR1,auR2,auR3]).v):Writes h:=by
 rw[zeu] at hm;simp only[List.mem_cons,List.not_mem_nil,or_false] at hm;rcases hm with q|q|q
 ·exact wr1 (by rw[q];rfl)
 ·exact wr4 (by rw[q];rfl)
 ·exact wr5 (by rw[q];rfl)
def hOf (e:Ev):Eh:=⟨e,none,0,0,none,0,0,none,0,0⟩
theorem zl3 {e:Ev}(w:World)(B:Nat)(h1:e.ids=[])(h2:e.set=[])(h3:e.body=[])(h4:e.box.size≤140737488355328)(h5:e.to_.size≤140737488355328):EvIn w B (hOf e) :=
 ⟨by show Col ints w B none 0 e.ids;rw[h1];exact Col.nil,by show ColK 2 rgC w B none 0 e.set;rw[h2];exact ColK.nil,by show Bytes w B none 0 e.body;rw[h3];exact Bytes.nil,Nat.zero_le _,Nat.zero_le _,Nat.zero_le _,h4,h5⟩
theorem zl4 {w:World}{b n:Nat}{hs:List Eh}{cs:Array Value}(hk:Bk w b 50 cs)(hn:hs.length=n)(hc:cs=(hs.flatMap evL).toArray)(hm:n≤1000)(hi:∀ h∈hs,EvIn w w.heap.size h):EvsIn w w.heap.size (some ⟨b,0,none⟩) n hs:=by
 have hfl:(hs.flatMap evL).length=hs.length*11:=ju zes hs;have ho:OwnK 11 evL w 0 50 (some ⟨b,0,none⟩) n n hs:=⟨⟨by rw[hfl,hn],.inr ⟨b,n,cs,rfl,Nat.zero_le _,hk,Nat.le_refl _,by unfold maxLen;omega,by rw[hc,List.size_toArray,hfl,hn],by rw[hc];rw[List.take_of_length_le (by rw[hfl,hn];exact Nat.le_refl _)]⟩⟩,hn,zes⟩;exact⟨ho.col,hi⟩
def OneR (w:World)(A:Option Addr)(n c:Nat)(r:List Nat):Prop:=n≤c∧c≤maxLen∧n≤1000000∧Bytes w w.heap.size A n r
theorem OneR.later {w w':World}{A:Option Addr}{n c:Nat}{r:List Nat}(h:OneR w A n c r)(hb:Below w.heap.size w w'):OneR w' A n c r:=⟨h.1,h.2.1,h.2.2.1,h.2.2.2.later hb⟩
theorem zi8 {w:World}{b:Nat}{A0 A1 A2:Option Addr}{n0 c0 n1 c1 n2 c2:Nat}{r0 r1 r2:List Nat}(hk:Bk w b 48 #[.slice A0 n0 c0,.slice A1 n1 c1,.slice A2 n2 c2])(h0:OneR w A0 n0 c0 r0)(h1:OneR w A1 n1 c1 r1)(h2:OneR w A2 n2 c2 r2):Recs 1000000 w w.heap.size (some ⟨b,0,none⟩) 3 [r0,r1,r2]:=by
 refine⟨rfl,fun _=>⟨b,0,rfl,hk.lt,fun i hi=>?_⟩⟩
 match i,hi with
 | 0,_=>exact⟨A0,n0,c0,hk.cell 0,h0⟩
 | 1,_=>exact⟨A1,n1,c1,hk.cell 1,h1⟩
 | 2,_=>exact⟨A2,n2,c2,hk.cell 2,h2⟩
theorem zfy {w:World}{lo base n c i:Nat}{A:Option Addr}{us:List Value}{ls:List (List Nat)}(h:VRecs w lo us ls)(ho:OwnK 1 oneV w base 48 A n c us)(hi:i<n):∃ g A' n' c',A=some ⟨g,0,none⟩∧g<w.heap.size∧w.cell? ⟨g,i,none⟩=some (.slice A' n' c')∧OneR w A' n' c' (zp ls i):=by
 obtain⟨g,hA,hgb,hgl,hr⟩:=ho.range (by omega);obtain⟨A',n',c',q1,q2,q3⟩:=h.2 i (by rw[← h.1,ho.len];exact hi);have hc:=hr i _ q1 0 _ rfl;exact⟨g,A',n',c',hA,hgl,by simpa using hc,q3.cap.1,q3.cap.2,q2,q3.bytes⟩
theorem zur:Tryz.prog.eqGuardType Tryz.prog.depth 27=false:=by kernel_rfl
theorem zus {o:Oper}{ρ:Operand→Value}{w:World}{x y:Operand}{X Y:Ch}(ho:o.op=.binOp .eql 27 x y 27)(hx:ρ x=.agg (chC X))(hy:ρ y=.agg (chC Y))(h1:X.Ok)(h2:Y.Ok):(execOp ρ o).run Tryz.prog w=.ok (.value (.bool (decide (X=Y)))) w:=by
 have hg:(eqGuard .eql 27 x y (.agg (chC X)) (.agg (chC Y))).run Tryz.prog w=.ok () w:=by
  unfold eqGuard;simp[zur,Sem.run_bind]
 unfold execOp;simp[ho,hx,hy,zvl w X Y h1 h2,hg]
theorem zi9 (w:World)(hK:Kinds w)(ht:Tabs w):Calls Tryz.prog 8 #[] w fun e w'=>e=.returned (.bool true)∧Below w.heap.size w w':=by
 have hmx:Tryz.prog.follows .mixedOrders=true:=by kernel_rfl
 have HK:=hiD hK;have HT:=hiD ht;clear hK ht;go_enter Tryz.func8,Tryz.ntmps8
 go_wp2_with fail
 refine qb (fun W=>EvsIn W W.heap.size (some ⟨w.heap.size,0,none⟩) 3 [hOf auE1,hOf auE2,hOf auE3]∧Below w.heap.size w W) ⟨zl4 (Bk.new w 50 _) rfl rfl (by decide) (fun h hh=>by
  simp only[List.mem_cons,List.not_mem_nil,or_false] at hh
  rcases hh with rfl|rfl|rfl<;>exact zl3 _ _ rfl rfl rfl (by decide) (by decide)),(Below.refl _ _).alloc (Nat.le_refl _) _⟩ ?_
 rintro W0 ⟨q1,q2⟩;have HV0:=hiD q1;have HB0:=hiD q2;clear q1 q2;refine(zi6 _ 3 3 _ W0 HV0.o (by omega) (HK.o.below HB0.o) (Tabs.later15 HT.o HB0.o)).mono ?_;rintro e W1 ⟨A1,n1,c1,us1,rfl,ho,hv,hb⟩;rw[show alL (List.map Eh.e [hOf auE1,hOf auE2,hOf auE3])=⟨[auR1,auR2,auR3],auC3,[auE1,auE2,auE3]⟩from zme] at hv;have hn3:n1=3:=by have:=ho.len;rw[hv.1] at this;exact this.symm
 subst hn3;have HO:=hiD ho;have HV:=hiD hv;have HB1:=hiD (HB0.o.trans (hb.mono HB0.o.size));clear ho hv hb HB0 HV0;go_wp2_with fail
 refine(zdt A1 3 c1 [auR1,auR2,auR3] W1 (HV.o.recs HO.o) (by omega) (HK.o.below HB1.o) (Tabs.later15 HT.o HB1.o)).mono ?_;rintro e W2 ⟨rfl,hb⟩;rw[auVe.1,auVe.2];have HO2:=hiD (HO.o.below hb);have HV2:=hiD (HV.o.below hb);have HB2:=hiD (HB1.o.trans (hb.mono HB1.o.size));clear hb HO HV HB1;have HCO:Hid auC3.Ok:=hiD (zb3 _ _);have HCC:Hid (auC3.count=3):=hiD zu7;have HRP:=hiD auRp;have HXX:=hiD auVx;obtain⟨c3,hc3⟩:∃ c3,auC3=c3:=⟨_,rfl⟩;rw[hc3] at HCO HCC HRP ⊢;clear hc3;go_wp2_with (with_reducible refine st0 ?_)
 refine held (zi rfl 27 (.tmp 2) (.tmp 18) rfl W2.heap.size 0 (chC c3) rfl rfl 27 (chC ch0) (Bk.new W2 27 (chC ch0)) (by rw[zx HCO.o];exact Nat.le_refl _) (info_ch' HCO.o) (zt _) ?_);intro W3 hw3;obtain⟨k2,hb⟩:=za1 HCO.o hw3;have K2:=hiD k2;have HO3:=hiD (HO2.o.below hb);have HV3:=hiD (HV2.o.below hb);have HB3:=hiD (HB2.o.trans (hb.mono HB2.o.size));obtain⟨b2,hb2⟩:∃ b,W2.heap.size=b:=⟨_,rfl⟩;rw[hb2] at K2 ⊢;clear k2 hb hw3 hb2 HO2 HV2 HB2;go_wp2_with fail
 refine(zu3 A1 3 c1 [auR1,auR2,auR3] W3 (HV3.o.recs HO3.o) (by omega) (HK.o.below HB3.o) (Tabs.later15 HT.o HB3.o) (fun h hm _ _=>auWr hm)).mono ?_;rintro e W4 ⟨p,rfl,hst,hb⟩;rw[HRP.o.1,HRP.o.2.1,HRP.o.2.2];rw[HRP.o.2.1] at hst;have HPB:Hid (p.bx.n=2):=hiD hst.bx.len.symm;have HPS:Hid (p.sb.n=0):=hiD hst.sb.len.symm;have K2b:=hiD (K2.o.below hb K2.o.lt);have HO4:=hiD (HO3.o.below hb);have HV4:=hiD (HV3.o.below hb);have HB4:=hiD (HB3.o.trans (hb.mono HB3.o.size));clear hb hst HO3 HV3 HB3 K2 HRP;go_wp2_with (with_reducible refine st0 ?_)
 refine held (zi rfl 40 (.tmp 4) (.tmp 23) rfl W4.heap.size 0 (staA sB1 p) rfl rfl 40 (staA staZ ptZ) ((Bk.new W4 40 (staA staZ ptZ)).alloc _) (by rw[za6];exact Nat.le_refl _) (by rw[za6];exact zeb) (zet _ _) ?_);intro W5 hw5;obtain rfl:=zfz hw5;have hk5:Bk (((W4.alloc (.cells (staA staZ ptZ) 40)).alloc (.cells (chC ch0) 27)).setRow W4.heap.size (staA sB1 p)) (W4.heap.size+1) 27 (chC ch0):=(Bk.new2 _ _ _ _).setRow_other (by omega) _;go_wp2_with (with_reducible refine st0 ?_)
 refine held (zi rfl 27 (.tmp 5) (.tmp 24) rfl (W4.heap.size+1) 0 (chC c3) rfl rfl 27 (chC ch0) hk5 (by rw[zx HCO.o];exact Nat.le_refl _) (info_ch' HCO.o) (zt _) ?_);intro W6 hw6;obtain rfl:=q9 hw6 zj HCO.o;have hbe:Below W4.heap.size W4 ((((W4.alloc (.cells (staA staZ ptZ) 40)).alloc (.cells (chC ch0) 27)).setRow W4.heap.size (staA sB1 p)).setRow (W4.heap.size+1) (chC c3)):=below_setRow (below_setRow (((Below.refl _ _).alloc (Nat.le_refl _) _).alloc (by simp) _) (Nat.le_refl _) _) (Nat.le_succ _) _;refine qk (fun W=>Bk W b2 27 (chC c3)∧Bk W W4.heap.size 40 (staA sB1 p)∧Bk W (W4.heap.size+1) 27 (chC c3)∧OwnK 1 oneV W W0.heap.size 48 A1 3 c1 us1∧VRecs W W0.heap.size us1 [auR1,auR2,auR3]∧Below w.heap.size w W)
  ⟨K2b.o.below hbe K2b.o.lt,(Bk.setRow_same ((Bk.new _ _ _).alloc _) _).setRow_other (by omega) _,Bk.setRow_same hk5 _,HO4.o.below hbe,HV4.o.below hbe,HB4.o.trans (hbe.mono HB4.o.size)⟩ ?_
 clear hw5 hw6 hk5 hbe K2b HO4 HV4 HB4;obtain⟨b4,hb4⟩:∃ b,W4.heap.size=b:=⟨_,rfl⟩;rw[hb4];clear hb4;rintro W7 ⟨q1,q2,q3,q4,q5,q6⟩;have K2:=hiD q1;have K4:=hiD q2;have K5:=hiD q3;have HO:=hiD q4;have HV:=hiD q5;have HB:=hiD q6;clear q1 q2 q3 q4 q5 q6;go_wp2_with fail
 refine qb (fun W=>EvsIn W W.heap.size (some ⟨W7.heap.size,0,none⟩) 2 [hOf auE1,hOf auE4]∧Below W7.heap.size W7 W) ⟨zl4 (Bk.new W7 50 _) rfl rfl (by decide) (fun h hh=>by
  simp only[List.mem_cons,List.not_mem_nil,or_false] at hh
  rcases hh with rfl|rfl<;>exact zl3 _ _ rfl rfl rfl (by decide) (by decide)),(Below.refl _ _).alloc (Nat.le_refl _) _⟩ ?_
 rintro W8 ⟨q1,q2⟩;have HV8:=hiD q1;have HB8:=hiD (HB.o.trans (q2.mono HB.o.size));have HB78:=hiD q2;clear q1 q2;refine(zi6 _ 2 2 _ W8 HV8.o (by omega) (HK.o.below HB8.o) (Tabs.later15 HT.o HB8.o)).mono ?_;rintro e W9 ⟨A7,n7,c7,us7,rfl,ho,hv,hb⟩;rw[show alL (List.map Eh.e [hOf auE1,hOf auE4])=⟨[auR1,auR4],auC4,[auE1,auE4]⟩from zmf] at hv;have hn2:n7=2:=by have:=ho.len;rw[hv.1] at this;exact this.symm
 subst hn2;have hb79:Below W7.heap.size W7 W9:=HB78.o.trans (hb.mono HB78.o.size);have HB9:=hiD (HB.o.trans (hb79.mono HB.o.size));have J2:=hiD (K2.o.below hb79 K2.o.lt);have J4:=hiD (K4.o.below hb79 K4.o.lt);have J5:=hiD (K5.o.below hb79 K5.o.lt);obtain⟨g1,a0,n0,c0,hA1,hg1,cell0,one0⟩:=zfy (i:=0) (HV.o.below hb79) (HO.o.below hb79) (by omega);obtain⟨g1',a2,n2,c2,hA1',hg1',cell2,one2⟩:=zfy (i:=2) (HV.o.below hb79) (HO.o.below hb79) (by omega);obtain⟨g7,a1,n1,d1,hA7,hg7,cell1,one1⟩:=zfy (i:=1) hv ho (by omega);subst hA1;injection hA1' with hA1';injection hA1' with hA1';subst hA1';subst hA7;have HC0:=hiD cell0;have HC1:=hiD cell1;have HC2:=hiD cell2;have HG1:=hiD hg1;have HG7:=hiD hg7;have O0:Hid (OneR W9 a0 n0 c0 auR1):=hiD one0;have O1:Hid (OneR W9 a1 n1 d1 auR4):=hiD one1;have O2:Hid (OneR W9 a2 n2 c2 auR3):=hiD one2
 clear ho hv hb hb79 HB8 HB78 HV8 HO HV HB K2 K4 K5 cell0 cell1 cell2 one0 one1 one2 hg1 hg7 hg1'
 go_upto_region 5 with (fail)
 go_cut [9] (fun x9 wx=>x9=.int .i64 11∧Below W9.heap.size W9 wx)
 case first =>
  have cell0:=HC0.o;have cell1:=HC1.o;have cell2:=HC2.o;have hg1:=HG1.o;have hg7:=HG7.o;go_wp2_with fail
  refine wp_region_held_drew (S:=fun W'=>Below W9.heap.size W9 W') hmx (Below.refl _ _).drew (fun qch=>?_);generalize hW0:W9.drew=V0 at *;clear hW0;simp only[List.size_toArray,List.length_cons,List.length_nil,Nat.reduceAdd];refine tks (i:=0) (v:=.slice (some ⟨g1,0,none⟩) 3 c1) (s:=qch) (h:=?_);try simp only[nm0]
  refine tks (i:=1) (v:=.pointer (some ⟨g1,0,none⟩)) (s:=qch) (h:=?_);try simp only[nm0]
  refine tkx (i:=2) (v:=.slice a0 n0 c0) (x:=fun w0 hC=>by simp[execOp,Act.eval,Act.put,go_sem,(hC.cell (p:=⟨g1,0,none⟩) hg1).trans cell0]) (s:=qch) (h:=?_);try simp only[nm0]
  refine tks (i:=3) (v:=.slice (some ⟨g7,0,none⟩) 2 c7) (s:=qch) (h:=?_);try simp only[nm0]
  refine tks (i:=4) (v:=.pointer (some ⟨g7,1,none⟩)) (s:=qch) (h:=?_);try simp only[nm0]
  refine tkx (i:=5) (v:=.slice a1 n1 d1) (x:=fun w0 hC=>by simp[execOp,Act.eval,Act.put,go_sem,(hC.cell (p:=⟨g7,1,none⟩) hg7).trans cell1]) (s:=qch) (h:=?_);try simp only[nm0]
  refine tks (i:=6) (v:=.slice (some ⟨g1,0,none⟩) 3 c1) (s:=qch) (h:=?_);try simp only[nm0]
  refine tks (i:=7) (v:=.pointer (some ⟨g1,2,none⟩)) (s:=qch) (h:=?_);try simp only[nm0]
  refine tkx (i:=8) (v:=.slice a2 n2 c2) (x:=fun w0 hC=>by simp[execOp,Act.eval,Act.put,go_sem,(hC.cell (p:=⟨g1,2,none⟩) hg1).trans cell2]) (s:=qch) (h:=?_);try simp only[nm0]
  clear cell0 cell1 cell2 hg1 hg7;refine rd2 (r:=9) (s:=14) (h:=fun K hK=>?_) (k:=fun K hK=>?_)
  ·go_wp2_with fail
   refine jg (fun W=>Below W9.heap.size W9 W∧Recs 1000000 W W.heap.size (some ⟨V0.heap.size,0,none⟩) 3 [auR1,auR4,auR3]) ⟨qch.alloc qch.size _,zi8 (Bk.new _ _ _) (O0.o.later (qch.alloc qch.size _)) (O1.o.later (qch.alloc qch.size _)) (O2.o.later (qch.alloc qch.size _))⟩ ?_;have HBN:=hiD qch.size;clear qch;rintro U1 ⟨hS,q2⟩;have RR:=hiD q2;clear q2;refine bkk hK hS fun qch=>?_;clear hK K;try simp only[nm0]
   clear hS;refine rd2 (r:=10) (s:=14) (h:=fun K hK=>?_) (k:=fun K hK=>?_)
   ·go_wp2_with fail
    refine(zdt _ 3 3 [auR1,auR4,auR3] U1 RR.o (by omega) (HK.o.below (HB9.o.trans (qch.mono HB9.o.size))) (Tabs.later15 HT.o (HB9.o.trans (qch.mono HB9.o.size)))).mono ?_;rintro e U3 ⟨rfl,hbc⟩;rw[HXX.o.1,HXX.o.2.1];have hS:=qch.trans (hbc.mono qch.size);clear qch hbc RR;refine bkk hK hS fun qch=>?_;clear hK K;try simp only[nm0]
    clear hS;refine tks (i:=11) (v:=.tuple #[.agg (chC ch0),.int .i64 11]) (s:=qch) (h:=?_);try simp only[nm0]
    refine tks (i:=12) (v:=.agg (chC ch0)) (s:=qch) (h:=?_);try simp only[nm0]
    refine tks (i:=13) (v:=.int .i64 11) (s:=qch) (h:=?_);try simp only[nm0]
    refine rd1 (r:=14) (h:=fun K hK=>?_);go_wp2_with fail
    have HB14:Hid (W9.heap.size≤U3.heap.size):=hiD qch.size;refine jg (fun W=>Below W9.heap.size W9 W∧Bk W U3.heap.size 27 (chC ch0)) ⟨qch.alloc qch.size _,Bk.new _ _ _⟩ ?_;obtain⟨b14,hb14⟩:∃ b,U3.heap.size=b:=⟨_,rfl⟩;rw[hb14] at HB14 ⊢;clear hb14 qch;rintro U2 ⟨hS,q2⟩;have K14:=hiD q2;clear q2;refine bkk hK hS fun qch=>?_;clear hK K;try simp only[nm0]
    clear hS;refine rd1 (r:=15) (h:=fun K hK=>?_);have hS:=below_setRow qch HB14.o (chC ch0);refine qh (ql rfl rfl rfl K14.o (by rfl) (info_ch' zj) (zt _)) ?_;clear qch K14;refine bkk hK hS fun qch=>?_;clear hK K;try simp only[nm0]
    clear hS;refine rd1 (r:=16) (h:=fun K hK=>?_);go_wp2_with fail
    have hS:=qch;clear qch;refine bkk hK hS fun qch=>?_;clear hK K;try simp only[nm0]
    clear hS;refine wpAnyH_done (by kernel_rfl) ?_ _;go_wp2_with fail
    go_meet;exact⟨rfl,qch⟩
   ·go_wp2_with fail
    have HB14:Hid (W9.heap.size≤U1.heap.size):=hiD qch.size;refine jg (fun W=>Below W9.heap.size W9 W∧Bk W U1.heap.size 27 (chC ch0)∧Recs 1000000 W W.heap.size (some ⟨V0.heap.size,0,none⟩) 3 [auR1,auR4,auR3]) ⟨qch.alloc qch.size _,Bk.new _ _ _,RR.o.later ((Below.refl _ _).alloc (Nat.le_refl _) _)⟩ ?_;obtain⟨b14,hb14⟩:∃ b,U1.heap.size=b:=⟨_,rfl⟩;rw[hb14] at HB14 ⊢;clear hb14 qch RR;rintro U2 ⟨hS,q2,q3⟩;have K14:=hiD q2;have RR:=hiD q3;clear q2 q3;refine bkk hK hS fun qch=>?_;clear hK K;try simp only[nm0]
    clear hS;refine rd1 (r:=10) (h:=fun K hK=>?_);go_wp2_with fail
    refine(zdt _ 3 3 [auR1,auR4,auR3] U2 RR.o (by omega) (HK.o.below (HB9.o.trans (qch.mono HB9.o.size))) (Tabs.later15 HT.o (HB9.o.trans (qch.mono HB9.o.size)))).mono ?_;rintro e U3 ⟨rfl,hbc⟩;rw[HXX.o.1,HXX.o.2.1];have hS:=qch.trans (hbc.mono qch.size);have K14:=hiD (K14.o.below hbc K14.o.lt);clear qch hbc RR;refine bkk hK hS fun qch=>?_;clear hK K;try simp only[nm0]
    clear hS;refine tks (i:=11) (v:=.tuple #[.agg (chC ch0),.int .i64 11]) (s:=qch) (h:=?_);try simp only[nm0]
    refine tks (i:=12) (v:=.agg (chC ch0)) (s:=qch) (h:=?_);try simp only[nm0]
    refine tks (i:=13) (v:=.int .i64 11) (s:=qch) (h:=?_);try simp only[nm0]
    refine rd1 (r:=15) (h:=fun K hK=>?_);have hS:=below_setRow qch HB14.o (chC ch0);refine qh (ql rfl rfl rfl K14.o (by rfl) (info_ch' zj) (zt _)) ?_;clear qch K14;refine bkk hK hS fun qch=>?_;clear hK K;try simp only[nm0]
    clear hS;refine rd1 (r:=16) (h:=fun K hK=>?_);go_wp2_with fail
    have hS:=qch;clear qch;refine bkk hK hS fun qch=>?_;clear hK K;try simp only[nm0]
    clear hS;refine wpAnyH_done (by kernel_rfl) ?_ _;go_wp2_with fail
    go_meet;exact⟨rfl,qch⟩
  ·go_wp2_with fail
   have HB14:Hid (W9.heap.size≤V0.heap.size):=hiD qch.size;refine jg (fun W=>Below W9.heap.size W9 W∧Bk W V0.heap.size 27 (chC ch0)) ⟨qch.alloc qch.size _,Bk.new _ _ _⟩ ?_;obtain⟨b14,hb14⟩:∃ b,V0.heap.size=b:=⟨_,rfl⟩;rw[hb14] at HB14 ⊢;clear hb14 qch;rintro U2 ⟨hS,q2⟩;have K14:=hiD q2;clear q2;refine bkk hK hS fun qch=>?_;clear hK K;try simp only[nm0]
   clear hS;refine rd1 (r:=9) (h:=fun K hK=>?_);go_wp2_with fail
   refine jg (fun W=>Below W9.heap.size W9 W∧Recs 1000000 W W.heap.size (some ⟨U2.heap.size,0,none⟩) 3 [auR1,auR4,auR3]∧Bk W b14 27 (chC ch0)) ⟨qch.alloc qch.size _,zi8 (Bk.new _ _ _) (O0.o.later (qch.alloc qch.size _)) (O1.o.later (qch.alloc qch.size _)) (O2.o.later (qch.alloc qch.size _)),K14.o.alloc _⟩ ?_;have HBN:=hiD qch.size;clear qch K14;rintro U1 ⟨hS,q2,q3⟩;have RR:=hiD q2;have K14:=hiD q3;clear q2 q3;refine bkk hK hS fun qch=>?_;clear hK K;try simp only[nm0]
   clear hS;refine rd1 (r:=10) (h:=fun K hK=>?_);go_wp2_with fail
   refine(zdt _ 3 3 [auR1,auR4,auR3] U1 RR.o (by omega) (HK.o.below (HB9.o.trans (qch.mono HB9.o.size))) (Tabs.later15 HT.o (HB9.o.trans (qch.mono HB9.o.size)))).mono ?_;rintro e U3 ⟨rfl,hbc⟩;rw[HXX.o.1,HXX.o.2.1];have hS:=qch.trans (hbc.mono qch.size);have K14:=hiD (K14.o.below hbc K14.o.lt);clear qch hbc RR;refine bkk hK hS fun qch=>?_;clear hK K;try simp only[nm0]
   clear hS;refine tks (i:=11) (v:=.tuple #[.agg (chC ch0),.int .i64 11]) (s:=qch) (h:=?_);try simp only[nm0]
   refine tks (i:=12) (v:=.agg (chC ch0)) (s:=qch) (h:=?_);try simp only[nm0]
   refine tks (i:=13) (v:=.int .i64 11) (s:=qch) (h:=?_);try simp only[nm0]
   refine rd1 (r:=15) (h:=fun K hK=>?_);have hS:=below_setRow qch HB14.o (chC ch0);refine qh (ql rfl rfl rfl K14.o (by rfl) (info_ch' zj) (zt _)) ?_;clear qch K14;refine bkk hK hS fun qch=>?_;clear hK K;try simp only[nm0]
   clear hS;refine rd1 (r:=16) (h:=fun K hK=>?_);go_wp2_with fail
   have hS:=qch;clear qch;refine bkk hK hS fun qch=>?_;clear hK K;try simp only[nm0]
   clear hS;refine wpAnyH_done (by kernel_rfl) ?_ _;go_wp2_with fail
   go_meet;exact⟨rfl,qch⟩
 case rest =>
 obtain⟨rfl,hb⟩:=hcut;generalize wc=X0 at *;have HX0:=hiD (HB9.o.trans (hb.mono HB9.o.size));have I2:=hiD (J2.o.below hb J2.o.lt);have I4:=hiD (J4.o.below hb J4.o.lt);have I5:=hiD (J5.o.below hb J5.o.lt);have P0:=hiD ((hb.cell (p:=⟨g1,0,none⟩) HG1.o).trans HC0.o);have P1:=hiD ((hb.cell (p:=⟨g7,1,none⟩) HG7.o).trans HC1.o);have P2:=hiD ((hb.cell (p:=⟨g1,2,none⟩) HG1.o).trans HC2.o);have Q0:=hiD (O0.o.later hb);have Q1:=hiD (O1.o.later hb);have Q2:=hiD (O2.o.later hb);have L1:Hid (g1<X0.heap.size):=hiD (Nat.lt_of_lt_of_le HG1.o hb.size);have L7:Hid (g7<X0.heap.size):=hiD (Nat.lt_of_lt_of_le HG7.o hb.size);clear hb HB9 J2 J4 J5 HC0 HC1 HC2 O0 O1 O2 HG1 HG7;go_wp2_with fail
 refine wp_region_held_drew (S:=fun W'=>Below X0.heap.size X0 W') hmx (Below.refl _ _).drew (fun qch=>?_);generalize hW0:X0.drew=V0 at *;clear hW0;simp only[List.size_toArray,List.length_cons,List.length_nil,Nat.reduceAdd];have hg1:=L1.o;have hg7:=L7.o;have p0:=P0.o;have p1:=P1.o;have p2:=P2.o;have i32:=I2.o.count HCO.o;rw[HCC.o] at i32;have l2:=I2.o.lt;have l4:=I4.o.lt;have s1:X0.cell? ⟨b4,1,none⟩=some (.slice p.bx.A 2 p.bx.c):=by rw[I4.o.cell 1];show some (Value.slice p.bx.A p.bx.n p.bx.c)=_;rw[HPB.o]
 have s2:X0.cell? ⟨b4,2,none⟩=some (.slice p.sb.A 0 p.sb.c):=by rw[I4.o.cell 2];show some (Value.slice p.sb.A p.sb.n p.sb.c)=_;rw[HPS.o]
 refine tks (i:=0) (v:=.int .i64 0) (s:=qch) (h:=?_);try simp only[nm0]
 refine tks (i:=1) (v:=.bool true) (s:=qch) (h:=?_);try simp only[nm0]
 refine tks (i:=2) (v:=.bool true) (s:=qch) (h:=?_);try simp only[nm0]
 refine tks (i:=3) (v:=.int .i64 0) (s:=qch) (h:=?_);try simp only[nm0]
 refine tks (i:=4) (v:=.bool true) (s:=qch) (h:=?_);try simp only[nm0]
 refine tks (i:=5) (v:=.bool true) (s:=qch) (h:=?_);try simp only[nm0]
 refine tks (i:=6) (v:=.bool true) (s:=qch) (h:=?_);try simp only[nm0]
 refine tks (i:=7) (v:=.int .i64 11) (s:=qch) (h:=?_);try simp only[nm0]
 refine tks (i:=8) (v:=.bool true) (s:=qch) (h:=?_);try simp only[nm0]
 refine tks (i:=9) (v:=.bool true) (s:=qch) (h:=?_);try simp only[nm0]
 refine tks (i:=10) (v:=.bool true) (s:=qch) (h:=?_);try simp only[nm0]
 refine tks (i:=11) (v:=.pointer (some ⟨b2,32,none⟩)) (s:=qch) (h:=?_);try simp only[nm0]
 refine tkx (i:=12) (v:=.int .i64 3) (x:=fun w0 hC=>by simp[execOp,Act.eval,Act.put,go_sem,(hC.cell (p:=⟨b2,32,none⟩) l2).trans i32]) (s:=qch) (h:=?_);try simp only[nm0]
 refine tks (i:=13) (v:=.bool true) (s:=qch) (h:=?_);try simp only[nm0]
 refine tks (i:=14) (v:=.bool true) (s:=qch) (h:=?_);try simp only[nm0]
 refine tks (i:=15) (v:=.bool true) (s:=qch) (h:=?_);try simp only[nm0]
 refine tkx (i:=16) (v:=.agg (chC c3)) (x:=fun w0 hC=>jc rfl rfl (I2.o.below hC I2.o.lt).range Tryz.underlying27 rfl (info_ch' HCO.o)) (s:=qch) (h:=?_);try simp only[nm0]
 refine tkx (i:=17) (v:=.agg (chC c3)) (x:=fun w0 hC=>jc rfl rfl (I5.o.below hC I5.o.lt).range Tryz.underlying27 rfl (info_ch' HCO.o)) (s:=qch) (h:=?_);try simp only[nm0]
 refine tkx (i:=18) (v:=.bool true) (x:=fun w0 hC=>(zus rfl rfl rfl HCO.o HCO.o).trans (by rw[decide_eq_true rfl])) (s:=qch) (h:=?_);try simp only[nm0]
 refine tks (i:=19) (v:=.bool true) (s:=qch) (h:=?_);try simp only[nm0]
 refine tks (i:=20) (v:=.bool true) (s:=qch) (h:=?_);try simp only[nm0]
 refine tks (i:=21) (v:=.pointer (some ⟨b4,1,none⟩)) (s:=qch) (h:=?_);try simp only[nm0]
 refine tkx (i:=22) (v:=.slice p.bx.A 2 p.bx.c) (x:=fun w0 hC=>by simp[execOp,Act.eval,Act.put,go_sem,(hC.cell (p:=⟨b4,1,none⟩) l4).trans s1]) (s:=qch) (h:=?_);try simp only[nm0]
 refine tks (i:=23) (v:=.int .i64 2) (s:=qch) (h:=?_);try simp only[nm0]
 refine tks (i:=24) (v:=.bool true) (s:=qch) (h:=?_);try simp only[nm0]
 refine tks (i:=25) (v:=.bool true) (s:=qch) (h:=?_);try simp only[nm0]
 refine tks (i:=26) (v:=.bool true) (s:=qch) (h:=?_);try simp only[nm0]
 refine tks (i:=27) (v:=.pointer (some ⟨b4,2,none⟩)) (s:=qch) (h:=?_);try simp only[nm0]
 refine tkx (i:=28) (v:=.slice p.sb.A 0 p.sb.c) (x:=fun w0 hC=>by simp[execOp,Act.eval,Act.put,go_sem,(hC.cell (p:=⟨b4,2,none⟩) l4).trans s2]) (s:=qch) (h:=?_);try simp only[nm0]
 refine tks (i:=29) (v:=.int .i64 0) (s:=qch) (h:=?_);try simp only[nm0]
 refine tks (i:=30) (v:=.bool true) (s:=qch) (h:=?_);try simp only[nm0]
 refine tks (i:=31) (v:=.bool true) (s:=qch) (h:=?_);try simp only[nm0]
 refine tks (i:=32) (v:=.bool true) (s:=qch) (h:=?_);try simp only[nm0]
 refine tks (i:=33) (v:=.slice (some ⟨g1,0,none⟩) 3 c1) (s:=qch) (h:=?_);try simp only[nm0]
 refine tks (i:=34) (v:=.pointer (some ⟨g1,0,none⟩)) (s:=qch) (h:=?_);try simp only[nm0]
 refine tkx (i:=35) (v:=.slice a0 n0 c0) (x:=fun w0 hC=>by simp[execOp,Act.eval,Act.put,go_sem,(hC.cell (p:=⟨g1,0,none⟩) hg1).trans p0]) (s:=qch) (h:=?_);try simp only[nm0]
 refine tks (i:=36) (v:=.slice (some ⟨g7,0,none⟩) 2 c7) (s:=qch) (h:=?_);try simp only[nm0]
 refine tks (i:=37) (v:=.pointer (some ⟨g7,1,none⟩)) (s:=qch) (h:=?_);try simp only[nm0]
 refine tkx (i:=38) (v:=.slice a1 n1 d1) (x:=fun w0 hC=>by simp[execOp,Act.eval,Act.put,go_sem,(hC.cell (p:=⟨g7,1,none⟩) hg7).trans p1]) (s:=qch) (h:=?_);try simp only[nm0]
 refine tks (i:=39) (v:=.slice (some ⟨g1,0,none⟩) 3 c1) (s:=qch) (h:=?_);try simp only[nm0]
 refine tks (i:=40) (v:=.pointer (some ⟨g1,2,none⟩)) (s:=qch) (h:=?_);try simp only[nm0]
 refine tkx (i:=41) (v:=.slice a2 n2 c2) (x:=fun w0 hC=>by simp[execOp,Act.eval,Act.put,go_sem,(hC.cell (p:=⟨g1,2,none⟩) hg1).trans p2]) (s:=qch) (h:=?_);try simp only[nm0]
 clear hg1 hg7 p0 p1 p2 i32 s1 s2 l2 l4 I2 I4 I5 P0 P1 P2 L1 L7;refine rd1 (r:=42) (h:=fun K hK=>?_);go_wp2_with fail
 refine jg (fun W=>Below X0.heap.size X0 W∧Recs 1000000 W W.heap.size (some ⟨V0.heap.size,0,none⟩) 3 [auR1,auR4,auR3]) ⟨qch.alloc qch.size _,zi8 (Bk.new _ _ _) (Q0.o.later (qch.alloc qch.size _)) (Q1.o.later (qch.alloc qch.size _)) (Q2.o.later (qch.alloc qch.size _))⟩ ?_;clear qch;rintro U1 ⟨hS,q2⟩;have RR:=hiD q2;clear q2;refine bkk hK hS fun qch=>?_;clear hK K;try simp only[nm0]
 clear hS;refine rd1 (r:=43) (h:=fun K hK=>?_);go_wp2_with fail
 refine(zmi _ 3 3 [auR1,auR4,auR3] U1 RR.o (by omega) (HK.o.below (HX0.o.trans (qch.mono HX0.o.size))) (Tabs.later15 HT.o (HX0.o.trans (qch.mono HX0.o.size)))).mono ?_;rintro e U3 ⟨rfl,hbc⟩;rw[HXX.o.2.2];have hS:=qch.trans (hbc.mono qch.size);clear qch hbc RR;refine bkk hK hS fun qch=>?_;clear hK K;try simp only[nm0]
 clear hS;refine tks (i:=44) (v:=.bool true) (s:=qch) (h:=?_);try simp only[nm0]
 refine tks (i:=45) (v:=.bool true) (s:=qch) (h:=?_);try simp only[nm0]
 refine rd1 (r:=46) (h:=fun K hK=>?_);go_wp2_with fail
 have hS:=qch;clear qch;refine bkk hK hS fun qch=>?_;clear hK K;try simp only[nm0]
 clear hS;refine wpAnyH_done (by kernel_rfl) ?_ _;go_wp2_with fail
 go_ret;exact⟨rfl,HX0.o.trans (qch.mono HX0.o.size)⟩
end Go.Proofs.YtmjjefnmabbgdaaGreatDoor
