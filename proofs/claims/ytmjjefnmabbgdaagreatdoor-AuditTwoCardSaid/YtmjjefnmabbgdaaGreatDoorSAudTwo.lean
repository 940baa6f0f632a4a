/- A part of the proof. -/
import Derived.Test.YtmjjefnmabbgdaaGreatDoorSAudAl
import Derived.Test.YtmjjefnmabbgdaaGreatDoorSRecE
namespace Go.Proofs.YtmjjefnmabbgdaaGreatDoor
set_option linter.unusedVariables false
set_option linter.unusedSimpArgs false
set_option maxRecDepth 100000
set_option maxHeartbeats 16000000
open Go.RowKit
theorem zuo (W:World){x y:List Nat}(hx:x.length=32)(hy:y.length=32):(binOp .neq 25 (.agg (cb x)) (.agg (cb y))).run Tryz.prog W=.ok (.bool (!decide (x=y))) W:=by
 obtain⟨i,hi⟩:∃ i,Tryz.prog.info? 5=some i:=Option.isSome_iff_exists.1 (by kernel_rfl);have h:=zje (P:=Tryz.prog) W 9998 Tryz.underlying25 Tryz.underlying5 hi (by kernel_rfl) hx hy;simp only[binOp];simp[Op.equal,Op.maxDepth,h]
theorem zup {a b:List (List Nat)}{x y:List Nat}(h:colX a b=some (x,y)):verE a=0∧verE b=0∧a≠[]∧b≠[]∧(verC a).head=(verC b).head:=by
 unfold colX at h
 split at h
 next hc=>exact hc
 ·cases h
theorem zl1:∀ (p q:List (List Nat)) (x y:List Nat),unlK p q=some (x,y)→x∈p∧y∈q
 | [],_,_,_,h=>by simp[unlK] at h
 | _::_,[],_,_,h=>by simp[unlK] at h
 | a :: p, b :: q, x, y, h => by
   simp only[unlK] at h;by_cases hab:a=b
   ·rw[if_pos hab] at h
    obtain⟨h1,h2⟩:=zl1 p q x y h;exact⟨List.mem_cons_of_mem _ h1,List.mem_cons_of_mem _ h2⟩
   ·rw[if_neg hab] at h
    injection h with h;injection h with h3 h4;subst h3;subst h4;exact⟨List.mem_cons_self,List.mem_cons_self⟩
theorem zl2 {a b:List (List Nat)}{x y:List Nat}(h:colX a b=some (x,y)):x∈a∧y∈b:=by
 unfold colX at h
 split at h
 ·have:=zl1 _ _ _ _ h
  rwa [List.mem_reverse,List.mem_reverse] at this
 ·cases h
theorem Recs.len_le {M:Nat}{w:World}{B n:Nat}{A:Option Addr}{ls:List (List Nat)}(h:Recs M w B A n ls):∀ x∈ls,x.length≤M:=by
 intro x hx;obtain⟨i,hi,rfl⟩:=List.mem_iff_getElem.1 hx;obtain⟨b,o,A',n',c',_,_,_,_,_,h4,h5⟩:=h.at_ (k:=i) (by rw[← h.1];exact hi);have h6:=h5.1;unfold zp at h6;rw[List.getD_eq_getElem?_getD,List.getElem?_eq_getElem hi] at h6;simp only[Option.getD_some] at h6;omega
theorem zuq (A:Option Addr)(n c:Nat)(a:List (List Nat))(B:Option Addr)(m d:Nat)(b:List (List Nat))(w:World)(ha:Recs 140737488355328 w w.heap.size A n a)(hb:Recs 140737488355328 w w.heap.size B m b)(hn:n≤140737488355328)(hm:m≤140737488355328)(hK:Kinds w)(ht:Tabs w) :
 Calls Tryz.prog 5 #[.slice A n c,.slice B m d] w fun e w'=>e=.returned (.bool true)∧Below w.heap.size w w':=by
 have HA0:=hiD ha;have HB0:=hiD hb;have HN0:=hiD (And.intro hn hm);have HK:=hiD hK;have HT:=hiD ht;clear ha hb hn hm hK ht;go_enter Tryz.func5,Tryz.ntmps5
 go_wp2_with fail
 refine(zi9 w HK.o HT.o).mono ?_;rintro e w1 ⟨rfl,hb⟩;have B1:=hiD hb;clear hb;go_wp2_with fail
 refine(ztl A n c a w1 (HA0.o.later B1.o) HN0.o.1).mono ?_;rintro e w2 ⟨g1,rfl,hg1,hb⟩;have B2:=hiD (B1.o.trans (hb.mono B1.o.size));have HG1:=hiD hg1;clear hb hg1 B1;cases g1
 case true =>
  go_wp2_with fail
  go_ret;exact⟨rfl,B2.o⟩
 go_wp2_with fail
 refine(ztl B m d b w2 (HB0.o.later B2.o) HN0.o.2).mono ?_;rintro e w3 ⟨g2,rfl,hg2,hb⟩;have B3:=hiD (B2.o.trans (hb.mono B2.o.size));have HG2:=hiD hg2;clear hb hg2 B2;cases g2
 case true =>
  go_wp2_with fail
  go_ret;exact⟨rfl,B3.o⟩
 have HA:Hid (Recs 1000000 w w.heap.size A n a):=hiD (HA0.o.small (fun x hx=>by have:=(zhe a).2 x hx;have:=HG1.o (by trivial);omega));have HB:Hid (Recs 1000000 w w.heap.size B m b):=hiD (HB0.o.small (fun x hx=>by have:=(zhe b).2 x hx;have:=HG2.o (by trivial);omega));have HAL:=hiD HA.o.1;have HBL:=hiD HB.o.1;have HN:Hid (n≤100000∧m≤100000):=hiD (by have h1:=(zhe a).1;have h2:=(zhe b).1;have:=HG1.o (by trivial);have:=HG2.o (by trivial);have:=HAL.o;have:=HBL.o;omega);clear HG1 HG2 HA0 HB0 HN0;go_wp2_with fail
 refine(z90 A n c a B m d b w3 (HA.o.later B3.o) (HB.o.later B3.o) HN.o.1 HN.o.2 (HK.o.below B3.o) (Tabs.later15 HT.o B3.o)).mono ?_;rintro e w4 ⟨A5,n5,c5,A6,n6,c6,rfl,ho5,ho6,hb⟩;have B4:=hiD (B3.o.trans (hb.mono B3.o.size));have P5:=hiD (ho5.base_le B3.o.size);have P6:=hiD (ho6.base_le B3.o.size);clear hb ho5 ho6 B3;go_wp2_with fail
 refine(z91 A n c a B m d b w4 (HA.o.later B4.o) (HB.o.later B4.o) HN.o.1 HN.o.2 (HK.o.below B4.o) (Tabs.later15 HT.o B4.o)).mono ?_;rintro e w5 ⟨A8,n8,c8,A9,n9,c9,rfl,ho8,ho9,hb⟩;have B5:=hiD (B4.o.trans (hb.mono B4.o.size));have P8:=hiD (ho8.base_le B4.o.size);have P9:=hiD (ho9.base_le B4.o.size);have Q5:=hiD (P5.o.below hb);have Q6:=hiD (P6.o.below hb);clear hb ho8 ho9 B4 P5 P6;have HCS:Hid (verE a=0→verE b=0→a≠[]→b≠[]→(verC a).head=(verC b).head→(colX a b=none↔a=b)):=hiD (fun h1 h2 h3 h4 h5=>zvv h1 h2 h3 h4 h5);have HNIL:Hid ((n=0↔a=[])∧(m=0↔b=[])):=hiD ⟨by rw[← HAL.o];exact List.length_eq_zero_iff,by rw[← HBL.o];exact List.length_eq_zero_iff⟩;have HXO:Hid (verC a).Ok:=hiD (zdu a);have HYO:Hid (verC b).Ok:=hiD (zdu b);cases ho:colX a b
 case none =>
  rw[ho] at P8 P9 Q5 Q6 HCS;have P8:Hid (OwnB w5 w.heap.size 5 A8 n8 c8 []):=P8;have P9:Hid (OwnB w5 w.heap.size 5 A9 n9 c9 []):=P9;have Q5:Hid (OwnB w5 w.heap.size 5 A5 n5 c5 []):=Q5;have Q6:Hid (OwnB w5 w.heap.size 5 A6 n6 c6 []):=Q6;clear ho;go_wp2_with fail
  refine(zd8 A5 n5 c5 w5.heap.size ([]:List Nat) A8 n8 c8 w5.heap.size ([]:List Nat) w5 Q5.o.bytes P8.o.bytes).mono ?_;rintro e w' ⟨rfl,rfl⟩;rw[decide_eq_true (rfl:([]:List Nat)=([]:List Nat))];go_wp2_with fail
  refine(zd8 A6 n6 c6 w5.heap.size ([]:List Nat) A9 n9 c9 w5.heap.size ([]:List Nat) w5 Q6.o.bytes P9.o.bytes).mono ?_;rintro e w' ⟨rfl,rfl⟩;rw[decide_eq_true (rfl:([]:List Nat)=([]:List Nat))];obtain⟨x,hx⟩:∃ x,verC a=x:=⟨_,rfl⟩;obtain⟨y,hy⟩:∃ y,verC b=y:=⟨_,rfl⟩;obtain⟨e1,he1⟩:∃ e1,verE a=e1:=⟨_,rfl⟩;obtain⟨e2,he2⟩:∃ e2,verE b=e2:=⟨_,rfl⟩;rw[hx] at HXO HCS;rw[hy] at HYO HCS;rw[he1,he2] at HCS;have HX:=hiD hx;have HY:=hiD hy;have HE1:=hiD he1;have HE2:=hiD he2;clear hx hy he1 he2;go_wp2_with fail
  refine(zfx A n c a w5 (HA.o.later B5.o) HN.o.1 (HK.o.below B5.o) (Tabs.later15 HT.o B5.o)).mono ?_;rintro e w6 ⟨rfl,hb1⟩;rw[HX.o,HE1.o];have B6:=hiD (B5.o.trans (hb1.mono B5.o.size));clear hb1 B5;go_wp2_with (with_reducible refine st0 ?_)
  refine held (zi rfl 27 (.tmp 11) (.tmp 68) rfl w6.heap.size 0 (chC x) rfl rfl 27 (chC ch0) (Bk.new w6 27 (chC ch0)) (by rw[zx HXO.o];exact Nat.le_refl _) (info_ch' HXO.o) (zt _) ?_);intro w7 hw7;obtain⟨k7,hb2⟩:=za1 HXO.o hw7;have K7:=hiD k7;have B7:=hiD (B6.o.trans (hb2.mono B6.o.size));obtain⟨b7,hb7⟩:∃ b,w6.heap.size=b:=⟨_,rfl⟩;rw[hb7] at K7 ⊢;clear k7 hb2 hw7 hb7 B6;go_wp2_with fail
  refine(zfx B m d b w7 (HB.o.later B7.o) HN.o.2 (HK.o.below B7.o) (Tabs.later15 HT.o B7.o)).mono ?_;rintro e w8 ⟨rfl,hb1⟩;rw[HY.o,HE2.o];have B8:=hiD (B7.o.trans (hb1.mono B7.o.size));have K7b:=hiD (K7.o.below hb1 K7.o.lt);clear hb1 B7 K7;go_wp2_with (with_reducible refine st0 ?_)
  refine held (zi rfl 27 (.tmp 13) (.tmp 73) rfl w8.heap.size 0 (chC y) rfl rfl 27 (chC ch0) (Bk.new w8 27 (chC ch0)) (by rw[zx HYO.o];exact Nat.le_refl _) (info_ch' HYO.o) (zt _) ?_);intro w9 hw9;obtain⟨k9,hb2⟩:=za1 HYO.o hw9;have K9:=hiD k9;have K7:=hiD (K7b.o.below hb2 K7b.o.lt);have B9:=hiD (B8.o.trans (hb2.mono B8.o.size));obtain⟨b9,hb9⟩:∃ b,w8.heap.size=b:=⟨_,rfl⟩;rw[hb9] at K9 ⊢;clear k9 hb2 hw9 hb9 B8 K7b;by_cases h1:e1=0
  case neg =>
   have hne:(((e1:Nat):Int) != 0)=true:=by simpa using h1
   clear h1;go_wp2_with fail
   go_ret;exact⟨rfl,B9.o⟩
  subst h1;by_cases h2:e2=0
  case neg =>
   have hne:(((e2:Nat):Int) != 0)=true:=by simpa using h2
   clear h2;go_wp2_with fail
   go_ret;exact⟨rfl,B9.o⟩
  subst h2;by_cases h3:n=0
  ·have hq:((n:Int) == 0)=true:=by simpa using h3
   clear h3;go_wp2_with fail
   go_ret;exact⟨rfl,B9.o⟩
  have hq:((n:Int) == 0)=false:=by simpa using h3
  by_cases h4:m=0
  ·have hq2:((m:Int) == 0)=true:=by simpa using h4
   clear h3 h4;go_wp2_with fail
   go_ret;exact⟨rfl,B9.o⟩
  have hq2:((m:Int) == 0)=false:=by simpa using h4
  have HNE:Hid (a≠[]∧b≠[]):=hiD ⟨fun h=>h3 (HNIL.o.1.2 h),fun h=>h4 (HNIL.o.2.2 h)⟩;obtain⟨q,hqq⟩:∃ q,decide (x.head=y.head)=q:=⟨_,rfl⟩;have hneq:∀ W,(binOp .neq 25 (.agg (cb x.head)) (.agg (cb y.head))).run Tryz.prog W=.ok (.bool (!q)) W:=fun W=>by rw[← hqq];exact zi7 W HXO.o HYO.o
  have HQ:=hiD hqq;clear h3 h4 hqq;go_wp2_with (with_reducible refine stn 93 ?_)
  refine held (zde (by rfl) 25 (.tmp 92) rfl b7 0 rfl _ _ (Bk.headRange K7.o HXO.o) Tryz.underlying25 rfl (by rw[zea HXO.o.1];exact zb2) ?_);go_wp2_with (with_reducible refine stn 95 ?_)
  refine held (zde (by rfl) 25 (.tmp 94) rfl b9 0 rfl _ _ (Bk.headRange K9.o HYO.o) Tryz.underlying25 rfl (by rw[zea HYO.o.1];exact zb2) ?_);cases q
  case false =>
   go_wp2_with fail
   go_ret;exact⟨rfl,B9.o⟩
  have HSM:Hid (decide (a=b)=true):=hiD (decide_eq_true ((HCS.o (by trivial) (by trivial) HNE.o.1 HNE.o.2 (of_decide_eq_true HQ.o)).1 (by trivial)));clear K7 K9;go_wp2_with fail
  refine(ztm 1000000 A B n c m d w9.heap.size w9.heap.size a b w9 (HA.o.later B9.o) (HB.o.later B9.o) (Nat.le_refl _) (Nat.le_refl _) (by have:=HN.o.1;omega) (by have:=HN.o.2;omega)).mono ?_;rintro e w10 ⟨rfl,hb⟩;rw[HSM.o];have B10:=hiD (B9.o.trans (hb.mono B9.o.size));clear hb;go_wp2_with fail
  go_ret;exact⟨rfl,B10.o⟩
 case some xy =>
  obtain⟨X,Y⟩:=xy;have HSU:=hiD (zvw ho);have HCO:=hiD (zup ho);have HME:=hiD (And.intro (HA.o.len_le _ (zl2 ho).1) (HB.o.len_le _ (zl2 ho).2));rw[ho] at P8 P9 Q5 Q6 HCS;have P8:Hid (OwnB w5 w.heap.size 5 A8 n8 c8 X):=P8;have P9:Hid (OwnB w5 w.heap.size 5 A9 n9 c9 Y):=P9;have Q5:Hid (OwnB w5 w.heap.size 5 A5 n5 c5 X):=Q5;have Q6:Hid (OwnB w5 w.heap.size 5 A6 n6 c6 Y):=Q6;clear ho;go_wp2_with fail
  refine(zd8 A5 n5 c5 w5.heap.size X A8 n8 c8 w5.heap.size X w5 Q5.o.bytes P8.o.bytes).mono ?_;rintro e w' ⟨rfl,rfl⟩;rw[decide_eq_true (rfl:X=X)];go_wp2_with fail
  refine(zd8 A6 n6 c6 w5.heap.size Y A9 n9 c9 w5.heap.size Y w5 Q6.o.bytes P9.o.bytes).mono ?_;rintro e w' ⟨rfl,rfl⟩;rw[decide_eq_true (rfl:Y=Y)];go_wp2_with fail
  refine(zd8 A5 n5 c5 w5.heap.size X A6 n6 c6 w5.heap.size Y w5 Q5.o.bytes Q6.o.bytes).mono ?_;rintro e w' ⟨rfl,rfl⟩;rw[decide_eq_false HSU.o.1];have hsm:∀ W,(binOp .neq 25 (.agg (cb (sumB X))) (.agg (cb (sumB Y)))).run Tryz.prog W=.ok (.bool false) W:=fun W=>by rw[zuo W (zc5 X) (zc5 Y),decide_eq_true HSU.o.2];rfl
  obtain⟨SX,hsx⟩:∃ s,sumB X=s:=⟨_,rfl⟩;obtain⟨SY,hsy⟩:∃ s,sumB Y=s:=⟨_,rfl⟩;have HSX:=hiD hsx;have HSY:=hiD hsy;rw[hsx,hsy] at hsm;clear hsx hsy;go_wp2_with fail
  refine(zez A5 n5 c5 w5.heap.size X w5 Q5.o.bytes (Nat.le_refl _) (by have:=Q5.o.len;have:=HME.o.1;omega)).mono ?_;rintro e v1 ⟨rfl,hb⟩;rw[HSX.o];have E1:=hiD (B5.o.trans (hb.mono B5.o.size));have R6:=hiD (Q6.o.below hb);clear hb;go_wp2_with fail
  refine(zez A6 n6 c6 v1.heap.size Y v1 R6.o.bytes (Nat.le_refl _) (by have:=R6.o.len;have:=HME.o.2;omega)).mono ?_;rintro e v2 ⟨rfl,hb⟩;rw[HSY.o];have E2:=hiD (E1.o.trans (hb.mono E1.o.size));clear hb E1 B5 R6 Q5 Q6 P8 P9;obtain⟨x,hx⟩:∃ x,verC a=x:=⟨_,rfl⟩;obtain⟨y,hy⟩:∃ y,verC b=y:=⟨_,rfl⟩;obtain⟨e1,he1⟩:∃ e1,verE a=e1:=⟨_,rfl⟩;obtain⟨e2,he2⟩:∃ e2,verE b=e2:=⟨_,rfl⟩;rw[hx] at HXO HCS;rw[hy] at HYO HCS;rw[he1,he2] at HCS;have HX:=hiD hx;have HY:=hiD hy;have HE1:=hiD he1;have HE2:=hiD he2;clear hx hy he1 he2;go_wp2_with fail
  refine(zfx A n c a v2 (HA.o.later E2.o) HN.o.1 (HK.o.below E2.o) (Tabs.later15 HT.o E2.o)).mono ?_;rintro e w6 ⟨rfl,hb1⟩;rw[HX.o,HE1.o];have B6:=hiD (E2.o.trans (hb1.mono E2.o.size));clear hb1 E2;go_wp2_with (with_reducible refine st0 ?_)
  refine held (zi rfl 27 (.tmp 11) (.tmp 68) rfl w6.heap.size 0 (chC x) rfl rfl 27 (chC ch0) (Bk.new w6 27 (chC ch0)) (by rw[zx HXO.o];exact Nat.le_refl _) (info_ch' HXO.o) (zt _) ?_);intro w7 hw7;obtain⟨k7,hb2⟩:=za1 HXO.o hw7;have K7:=hiD k7;have B7:=hiD (B6.o.trans (hb2.mono B6.o.size));obtain⟨b7,hb7⟩:∃ b,w6.heap.size=b:=⟨_,rfl⟩;rw[hb7] at K7 ⊢;clear k7 hb2 hw7 hb7 B6;go_wp2_with fail
  refine(zfx B m d b w7 (HB.o.later B7.o) HN.o.2 (HK.o.below B7.o) (Tabs.later15 HT.o B7.o)).mono ?_;rintro e w8 ⟨rfl,hb1⟩;rw[HY.o,HE2.o];have B8:=hiD (B7.o.trans (hb1.mono B7.o.size));have K7b:=hiD (K7.o.below hb1 K7.o.lt);clear hb1 B7 K7;go_wp2_with (with_reducible refine st0 ?_)
  refine held (zi rfl 27 (.tmp 13) (.tmp 73) rfl w8.heap.size 0 (chC y) rfl rfl 27 (chC ch0) (Bk.new w8 27 (chC ch0)) (by rw[zx HYO.o];exact Nat.le_refl _) (info_ch' HYO.o) (zt _) ?_);intro w9 hw9;obtain⟨k9,hb2⟩:=za1 HYO.o hw9;have K9:=hiD k9;have K7:=hiD (K7b.o.below hb2 K7b.o.lt);have B9:=hiD (B8.o.trans (hb2.mono B8.o.size));obtain⟨b9,hb9⟩:∃ b,w8.heap.size=b:=⟨_,rfl⟩;rw[hb9] at K9 ⊢;clear k9 hb2 hw9 hb9 B8 K7b;have h1:e1=0:=by rw[← HE1.o];exact HCO.o.1
  have h2:e2=0:=by rw[← HE2.o];exact HCO.o.2.1
  subst h1;subst h2;have hq:((n:Int) == 0)=false:=by simp;intro h;exact HCO.o.2.2.1 (HNIL.o.1.1 h)
  have hq2:((m:Int) == 0)=false:=by simp;intro h;exact HCO.o.2.2.2.1 (HNIL.o.2.1 h)
  have hhd:x.head=y.head:=by rw[← HX.o,← HY.o];exact HCO.o.2.2.2.2
  have hneq:∀ W,(binOp .neq 25 (.agg (cb x.head)) (.agg (cb y.head))).run Tryz.prog W=.ok (.bool false) W:=fun W=>by rw[zi7 W HXO.o HYO.o,decide_eq_true hhd];rfl
  have HSM:Hid (decide (a=b)=false):=hiD (decide_eq_false (fun h=>by have:=(HCS.o (by trivial) (by trivial) HCO.o.2.2.1 HCO.o.2.2.2.1 hhd).2 h;cases this));clear hhd hsm;go_wp2_with (with_reducible refine stn 93 ?_)
  refine held (zde (by rfl) 25 (.tmp 92) rfl b7 0 rfl _ _ (Bk.headRange K7.o HXO.o) Tryz.underlying25 rfl (by rw[zea HXO.o.1];exact zb2) ?_);go_wp2_with (with_reducible refine stn 95 ?_)
  refine held (zde (by rfl) 25 (.tmp 94) rfl b9 0 rfl _ _ (Bk.headRange K9.o HYO.o) Tryz.underlying25 rfl (by rw[zea HYO.o.1];exact zb2) ?_);clear K7 K9;go_wp2_with fail
  refine(ztm 1000000 A B n c m d w9.heap.size w9.heap.size a b w9 (HA.o.later B9.o) (HB.o.later B9.o) (Nat.le_refl _) (Nat.le_refl _) (by have:=HN.o.1;omega) (by have:=HN.o.2;omega)).mono ?_;rintro e w10 ⟨rfl,hb⟩;rw[HSM.o];have B10:=hiD (B9.o.trans (hb.mono B9.o.size));clear hb;go_wp2_with fail
  go_ret;exact⟨rfl,B10.o⟩
end Go.Proofs.YtmjjefnmabbgdaaGreatDoor
