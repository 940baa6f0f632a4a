/- A part of the proof. -/
import Derived.Test.YtmjjefnmabbgdaaGreatDoorSStL
namespace Go.Proofs.YtmjjefnmabbgdaaGreatDoor
set_option linter.unusedVariables false
set_option linter.unusedSimpArgs false
set_option maxRecDepth 100000
set_option maxHeartbeats 16000000
open Go.RowKit
theorem z9p {l:List ByteArray}(h:l.Pairwise ltS){i:Nat}{u:ByteArray}(hi:l[i]?=some u):l.eraseIdx i=l.filter (fun x=>decide (ltS x u))++l.filter (fun x=>decide (ltS u x)):=by
 induction l generalizing i with
 | nil=>simp at hi
 | cons x l ih =>
   rw[List.pairwise_cons] at h;cases i with
   | zero =>
     have e:x=u:=by simpa using hi
     subst e;rw[List.filter_cons_of_neg (by simpa using zfl x),List.filter_cons_of_neg (by simpa using zfl x)];rw[List.filter_eq_nil_iff.2 (fun y hy=>by simpa using zd5 (h.1 y hy)),List.nil_append]
     show l=_
     symm
     exact List.filter_eq_self.2 fun y hy=>decide_eq_true (h.1 y hy)
   | succ i =>
     have hi':l[i]?=some u:=by simpa using hi
     have hx:=h.1 u (List.mem_of_getElem? hi');rw[List.filter_cons_of_pos (by simpa using hx),List.filter_cons_of_neg (by simpa using zd5 hx)]
     show x::l.eraseIdx i=_
     rw[ih h.2 hi',List.cons_append]
theorem z9q (base bs:Nat)(s:Sta)(p:StaAt)(name:ByteArray)(w:World)(h:ScAt 103 w base bs s p)(hok:OkSta s) :
 Calls Tryz.prog 123 #[.pointer (some ⟨bs,0,none⟩),.string name] w (DoIs 103 base bs (zca s name) w):=by
 obtain⟨cl,boxes,subs,rules,tombs,holds,nv,nt,nh⟩:=s;obtain⟨⟨bA,bn,bc⟩,⟨sA,sn,sc⟩,⟨rA,rn,rc⟩,⟨tA,tn,tc⟩,⟨gA,gn,gc⟩⟩:=p;have hs:=hok.small;have hk:Bk w bs 103 #[.int .i64 cl,.slice bA bn bc,.slice sA sn sc,.slice rA rn rc,.slice tA tn tc,.slice gA gn gc,.int .i64 nv,.int .i64 nt,.int .i64 nh]:=h.bk;obtain⟨k0,k1,k2,k3,k4,k5,k6,k7,k8⟩:=hk.nine;have hin:StrsIn w w.heap.size sA sn subs:=(h.own.in_ hs h.base).sb.nest;have hgl:subs.length=sn:=h.own.sb.len;have hgn0:sn≤1000:=by have:=hs.lens.2.1;simp only at this;omega
 have CI:=hiD (zta sA sn sc name subs w hin (by omega) hok.subs.2);have HH:=hiD h;have HOK:=hiD hok;clear h hok hs hk hin;go_enter Tryz.func123,Tryz.ntmps123
 go_wp2_with fail
 refine CI.o.mono ?_;rintro e w1 ⟨pos,rfl,hpl,hal,hnl,hb⟩;have H1:=hiD (HH.o.below hb);have HB1:Hid (Below base w w1):=hiD (hb.mono HH.o.base);clear hb CI k0 k1 k2 k3 k4 k5 k6 k7 k8 HH;by_cases hin:name∈subs
 case neg =>
  have HE:Hid ((zca ⟨cl,boxes,subs,rules,tombs,holds,nv,nt,nh⟩ name).2=6):=hiD (by unfold zca;rw[if_neg (by rintro⟨x,hx,rfl⟩;exact hin hx)]);rw[zer hin];clear hin hal hnl;go_wp2_with fail
  go_ret;exact DoIs.no HE.o (by omega) HB1.o
 have hja:=zs8 HOK.o.subs.2 hal hnl hin;have hposn:pos<sn:=by have h9:pos<subs.length:=(List.getElem?_eq_some_iff.1 hja).1;omega
 have HER:Hid (subs.eraseIdx pos=subs.filter (fun x=>decide (ltS x name))++subs.filter (fun x=>decide (ltS name x))):=hiD (z9p HOK.o.subs.2 hja)
 have HX1:Hid ((zca ⟨cl,boxes,subs,rules,tombs,holds,nv,nt,nh⟩ name).2=0∧(zca ⟨cl,boxes,subs,rules,tombs,holds,nv,nt,nh⟩ name).1=⟨cl,boxes,subs.eraseIdx pos,rules,tombs,holds,nv,nt,nh⟩):=hiD (by
  unfold zca;rw[if_pos ⟨name,hin,rfl⟩,HER.o]
  exact⟨rfl,rfl⟩)
 rw[zhc hin];have hbk3:Bk w1 bs 103 #[.int .i64 cl,.slice bA bn bc,.slice sA sn sc,.slice rA rn rc,.slice tA tn tc,.slice gA gn gc,.int .i64 nv,.int .i64 nt,.int .i64 nh]:=H1.o.bk;have o1':OwnK 1 strC w1 base 9 sA sn sc subs:=H1.o.own.sb;obtain⟨g,hge,_,_⟩:=o1'.rows (by omega);subst hge;have k2:=hbk3.cell 2;have CD:=hiD (z0s base g sn sc pos subs w1 o1' (by omega) (by omega) H1.o.base);have HO1:=hiD o1';have hw1:IntKind.i64.wrap ((pos:Int)+1)=(pos:Int)+1:=IntWalk.i64_in _ (by omega);clear hbk3 o1' hal hnl hin hja hpl;go_wp2_with fail
 refine CD.o.mono ?_;rintro e V3 ⟨rfl,hod,hbd,hgd⟩;have hch:Chg 9 base w1 V3:=Chg.row (v:=.slice (some ⟨g,0,none⟩) sn sc) HO1.o.1 hgd hbd;have hst:=H1.o.own;have hbk4:Bk V3 bs 103 #[.int .i64 cl,.slice bA bn bc,.slice (some ⟨g,0,none⟩) sn sc,.slice rA rn rc,.slice tA tn tc,.slice gA gn gc,.int .i64 nv,.int .i64 nt,.int .i64 nh]:=Bk.chg H1.o.bk hch (by decide);have hch5:Chg 103 base V3 (V3.setCell ⟨bs,2,none⟩ (.slice (some ⟨g,0,none⟩) (sn-1) sc)):=Chg.cell hbk4 H1.o.hb _ _;have HN:Hid (ScAt 103 (V3.setCell ⟨bs,2,none⟩ (.slice (some ⟨g,0,none⟩) (sn-1) sc)) base bs ⟨cl,boxes,subs.eraseIdx pos,rules,tombs,holds,nv,nt,nh⟩ ⟨⟨bA,bn,bc⟩,⟨some ⟨g,0,none⟩,sn-1,sc⟩,⟨rA,rn,rc⟩,⟨tA,tn,tc⟩,⟨gA,gn,gc⟩⟩):=hiD ⟨StaO.chg (s:=⟨cl,boxes,subs.eraseIdx pos,rules,tombs,holds,nv,nt,nh⟩) (p:=⟨⟨bA,bn,bc⟩,⟨some ⟨g,0,none⟩,sn-1,sc⟩,⟨rA,rn,rc⟩,⟨tA,tn,tc⟩,⟨gA,gn,gc⟩⟩) ⟨hst.bx.chg bhOwns hch (by decide) (by decide),hod,hst.ru.chg hch (by decide),hst.tb.chg thOwns hch (by decide) (by decide),hst.ho.chg hhOwns hch (by decide) (by decide)⟩ hch5 zfw,by simpa [staA] using hbk4.put 2 (.slice (some ⟨g,0,none⟩) (sn-1) sc),H1.o.hb⟩
 have HBN:=hiD ((HB1.o.trans hch.1).trans hch5.1);have k2':=hbk4.cell 2;have f2':=hbk4.frozen 2;clear hch hst hbk4 hch5 hod hbd hgd k2 H1 HB1 HO1 CD;go_wp2_with fail
 go_ret;exact DoIs.yes (by rw[HX1.o.1]) HBN.o (by rw[HX1.o.2];exact HN.o)
theorem z9r (base bs:Nat)(s:Sta)(p:StaAt)(h:Eh)(w:World)(hs:ScAt 103 w base bs s p)(hok:OkSta s)(hi:EvIn w base h)(hk:h.e.kind=5) :
 Calls Tryz.prog 57 #[.pointer (some ⟨bs,0,none⟩),.agg (evC h)] w (DoIs 103 base bs (doS s h.e) w):=by
 obtain⟨⟨kind,at_,box,to_,ids,set,mode,flags,date,n,body⟩,A1,n1,c1,A2,n2,c2,A3,n3,c3⟩:=h;simp only at hk;subst hk;have hb:Below w.heap.size w (w.alloc (.cells #[.int .i64 5,.int .i64 at_,.string box,.string to_,.slice A1 n1 c1,.slice A2 n2 c2,.int .i64 mode,.int .i64 flags,.int .i64 date,.int .i64 n,.slice A3 n3 c3] 50)):=(Below.refl _ _).alloc (Nat.le_refl _) _;have hke:Bk (w.alloc (.cells #[.int .i64 5,.int .i64 at_,.string box,.string to_,.slice A1 n1 c1,.slice A2 n2 c2,.int .i64 mode,.int .i64 flags,.int .i64 date,.int .i64 n,.slice A3 n3 c3] 50)) w.heap.size 50 #[.int .i64 5,.int .i64 at_,.string box,.string to_,.slice A1 n1 c1,.slice A2 n2 c2,.int .i64 mode,.int .i64 flags,.int .i64 date,.int .i64 n,.slice A3 n3 c3]:=Bk.new _ _ _;have HDO:Hid (doS s ⟨5,at_,box,to_,ids,set,mode,flags,date,n,body⟩=zca s box):=hiD (do_5 rfl)
 have HA:=hiD (hs.below hb);have HEI:=hiD (hi.below (hb.mono hs.base) (Nat.le_refl _));have HOK:=hiD hok;have HB:=hiD (hb.mono hs.base);have k0:=hke.cell 0;have k1:=hke.cell 1;have k2:=hke.cell 2;have k3:=hke.cell 3;have k4:=hke.cell 4;have k5:=hke.cell 5;have k6:=hke.cell 6;have k7:=hke.cell 7;have k8:=hke.cell 8;have k9:=hke.cell 9;have k10:=hke.cell 10;clear hs hi hok hb hke
 show Calls Tryz.prog 57 #[.pointer (some ⟨bs,0,none⟩),.agg #[.int .i64 5,.int .i64 at_,.string box,.string to_,.slice A1 n1 c1,.slice A2 n2 c2,.int .i64 mode,.int .i64 flags,.int .i64 date,.int .i64 n,.slice A3 n3 c3]] w _
 go_enter Tryz.func57,Tryz.ntmps57
 go_wp2_with fail
 generalize w.alloc (.cells #[.int .i64 5,.int .i64 at_,.string box,.string to_,.slice A1 n1 c1,.slice A2 n2 c2,.int .i64 mode,.int .i64 flags,.int .i64 date,.int .i64 n,.slice A3 n3 c3] 50)=w1 at *;refine(z9q base bs s p box w1 HA.o HOK.o).mono ?_;rintro e V hd;have HD:=hiD (DoIs.from_ (show DoIs 103 base bs (doS s ⟨5,at_,box,to_,ids,set,mode,flags,date,n,body⟩) _ e V from hd.same (by rw[HDO.o]) (fun _=>by rw[HDO.o])) HB.o);clear hd;obtain⟨hr,hb2,hp⟩:=HD.o;subst hr;go_wp2_with fail
 go_ret;exact⟨rfl,hb2,hp⟩
theorem z9s {l:List ByteArray}{u:ByteArray}{p:Nat}(h1:AllLtS l u p)(h2:NoneLtS l u p)(hu:u ∉ l):l.take p++[u]++l.drop p=l.filter (fun x=>decide (ltS x u))++u::l.filter (fun x=>decide (ltS u x)):=by
 have ht:∀ x∈l.take p,ltS x u:=fun x hx=>by
  obtain⟨t,ht⟩:=List.mem_iff_getElem?.1 hx;have hl:=(List.getElem?_eq_some_iff.1 ht).1;rw[List.length_take] at hl;rw[List.getElem?_take_of_lt (by omega)] at ht;exact h1 t x (by omega) ht
 have hd:∀ x∈l.drop p,ltS u x:=fun x hx=>by
  obtain⟨t,ht⟩:=List.mem_iff_getElem?.1 hx;rw[List.getElem?_drop] at ht;rcases zfm u x with h|h|h
  ·exact h
  ·exact absurd (h ▸ List.mem_of_mem_drop hx) hu
  ·exact absurd h (h2 (p+t) x (by omega) ht)
 have e1:l.filter (fun x=>decide (ltS x u))=l.take p:=by
  conv=>lhs;rw[← List.take_append_drop p l]
  rw[List.filter_append,List.filter_eq_self.2 (fun x hx=>decide_eq_true (ht x hx)),List.filter_eq_nil_iff.2 (fun x hx=>by simpa using zd5 (hd x hx)),List.append_nil]
 have e2:l.filter (fun x=>decide (ltS u x))=l.drop p:=by
  conv=>lhs;rw[← List.take_append_drop p l]
  rw[List.filter_append,List.filter_eq_self.2 (fun x hx=>decide_eq_true (hd x hx)),List.filter_eq_nil_iff.2 (fun x hx=>by simpa using zd5 (ht x hx)),List.nil_append]
 rw[e1,e2,List.append_assoc];rfl
theorem z9t (base bs:Nat)(s:Sta)(p:StaAt)(name:ByteArray)(w:World)(h:ScAt 103 w base bs s p)(hok:OkSta s) :
 Calls Tryz.prog 122 #[.pointer (some ⟨bs,0,none⟩),.string name] w (DoIs 103 base bs (subS s name) w):=by
 obtain⟨cl,boxes,subs,rules,tombs,holds,nv,nt,nh⟩:=s;obtain⟨⟨bA,bn,bc⟩,⟨sA,sn,sc⟩,⟨rA,rn,rc⟩,⟨tA,tn,tc⟩,⟨gA,gn,gc⟩⟩:=p;have hs:=hok.small;have hk:Bk w bs 103 #[.int .i64 cl,.slice bA bn bc,.slice sA sn sc,.slice rA rn rc,.slice tA tn tc,.slice gA gn gc,.int .i64 nv,.int .i64 nt,.int .i64 nh]:=h.bk;obtain⟨k0,k1,k2,k3,k4,k5,k6,k7,k8⟩:=hk.nine;have hin:StrsIn w w.heap.size sA sn subs:=(h.own.in_ hs h.base).sb.nest;have hgl:subs.length=sn:=h.own.sb.len;have hgn0:sn≤1000:=by have:=hs.lens.2.1;simp only at this;omega
 have CI:=hiD (zta sA sn sc name subs w hin (by omega) hok.subs.2);have HH:=hiD h;have HOK:=hiD hok;clear h hok hs hk hin;go_enter Tryz.func122,Tryz.ntmps122
 go_wp2_with fail
 refine CI.o.mono ?_;rintro e w1 ⟨pos,rfl,hpl,hal,hnl,hb⟩;have H1:=hiD (HH.o.below hb);have HB1:Hid (Below base w w1):=hiD (hb.mono HH.o.base);clear hb CI k0 k1 k2 k3 k4 k5 k6 k7 k8 HH;have hbk3:Bk w1 bs 103 #[.int .i64 cl,.slice bA bn bc,.slice sA sn sc,.slice rA rn rc,.slice tA tn tc,.slice gA gn gc,.int .i64 nv,.int .i64 nt,.int .i64 nh]:=H1.o.bk;have k2:=hbk3.cell 2;by_cases hin:name∈subs
 ·have HE:Hid ((subS ⟨cl,boxes,subs,rules,tombs,holds,nv,nt,nh⟩ name).2=7):=hiD (by unfold subS;rw[if_pos ⟨name,hin,rfl⟩])
  rw[zhc hin];clear hin hal hnl;go_wp2_with fail
  go_ret;exact DoIs.no HE.o (by omega) HB1.o
 have hin':¬ ∃ x∈subs,x=name:=by rintro⟨x,hx,rfl⟩;exact hin hx
 rw[zer hin];by_cases h16:sn=16
 ·have HE:Hid ((subS ⟨cl,boxes,subs,rules,tombs,holds,nv,nt,nh⟩ name).2=8):=hiD (by unfold subS;rw[if_neg hin',if_pos (by show subs.length=16;omega)])
  subst h16;clear hin hin' hal hnl;go_wp2_with fail
  go_ret;exact DoIs.no HE.o (by omega) HB1.o
 have HER:=hiD (z9s hal hnl hin)
 have HX1:Hid ((subS ⟨cl,boxes,subs,rules,tombs,holds,nv,nt,nh⟩ name).2=0∧(subS ⟨cl,boxes,subs,rules,tombs,holds,nv,nt,nh⟩ name).1=⟨cl,boxes,subs.take pos++[name]++subs.drop pos,rules,tombs,holds,nv,nt,nh⟩):=hiD (by
  unfold subS;rw[if_neg hin',if_neg (by show ¬ subs.length=16;omega),HER.o]
  exact⟨rfl,rfl⟩)
 have hz16:¬ ((sn:Int)=16):=by omega
 have HPN:Hid (pos≤sn):=hiD (by omega);have o1':OwnK 1 strC w1 base 9 sA sn sc subs:=H1.o.own.sb;have hba:Below w1.heap.size w1 (w1.alloc (.cells #[.string name] 9)):=(Below.refl _ _).alloc (Nat.le_refl _) _;have H2:=hiD (H1.o.below hba);have HB2:Hid (Below base w (w1.alloc (.cells #[.string name] 9))):=hiD (HB1.o.trans (hba.mono H1.o.base));have CD:=hiD (z01 base sA sn sc pos w1.heap.size name subs (w1.alloc (.cells #[.string name] 9)) H2.o.own.sb (by omega) HPN.o (Bk.new w1 9 _) o1'.fresh H2.o.base);clear hin hin' hal hnl hpl hbk3 o1' hba;go_wp2_with fail
 generalize w1.alloc (.cells #[.string name] 9)=V at *;refine CD.o.mono ?_;rintro e V3 ⟨A',n',c',rfl,hod,hch⟩;have hst:=H2.o.own;have hbk4:Bk V3 bs 103 #[.int .i64 cl,.slice bA bn bc,.slice sA sn sc,.slice rA rn rc,.slice tA tn tc,.slice gA gn gc,.int .i64 nv,.int .i64 nt,.int .i64 nh]:=Bk.chg H2.o.bk hch (by decide);have hch5:Chg 103 base V3 (V3.setCell ⟨bs,2,none⟩ (.slice A' n' c')):=Chg.cell hbk4 H2.o.hb _ _;have HN:Hid (ScAt 103 (V3.setCell ⟨bs,2,none⟩ (.slice A' n' c')) base bs ⟨cl,boxes,subs.take pos++[name]++subs.drop pos,rules,tombs,holds,nv,nt,nh⟩ ⟨⟨bA,bn,bc⟩,⟨A',n',c'⟩,⟨rA,rn,rc⟩,⟨tA,tn,tc⟩,⟨gA,gn,gc⟩⟩):=hiD ⟨StaO.chg (s:=⟨cl,boxes,subs.take pos++[name]++subs.drop pos,rules,tombs,holds,nv,nt,nh⟩) (p:=⟨⟨bA,bn,bc⟩,⟨A',n',c'⟩,⟨rA,rn,rc⟩,⟨tA,tn,tc⟩,⟨gA,gn,gc⟩⟩) ⟨hst.bx.chg bhOwns hch (by decide) (by decide),hod,hst.ru.chg hch (by decide),hst.tb.chg thOwns hch (by decide) (by decide),hst.ho.chg hhOwns hch (by decide) (by decide)⟩ hch5 zfw,by simpa [staA] using hbk4.put 2 (.slice A' n' c'),H2.o.hb⟩
 have HBN:=hiD ((HB2.o.trans hch.1).trans hch5.1);have k2':=hbk4.cell 2;have f2':=hbk4.frozen 2;clear hch hst hbk4 hch5 hod k2 H1 H2 HB1 HB2 CD;go_wp2_with fail
 go_ret;exact DoIs.yes (by rw[HX1.o.1]) HBN.o (by rw[HX1.o.2];exact HN.o)
theorem z9u (base bs:Nat)(s:Sta)(p:StaAt)(h:Eh)(w:World)(hs:ScAt 103 w base bs s p)(hok:OkSta s)(hi:EvIn w base h)(hk:h.e.kind=4) :
 Calls Tryz.prog 57 #[.pointer (some ⟨bs,0,none⟩),.agg (evC h)] w (DoIs 103 base bs (doS s h.e) w):=by
 obtain⟨⟨kind,at_,box,to_,ids,set,mode,flags,date,n,body⟩,A1,n1,c1,A2,n2,c2,A3,n3,c3⟩:=h;simp only at hk;subst hk;have hb:Below w.heap.size w (w.alloc (.cells #[.int .i64 4,.int .i64 at_,.string box,.string to_,.slice A1 n1 c1,.slice A2 n2 c2,.int .i64 mode,.int .i64 flags,.int .i64 date,.int .i64 n,.slice A3 n3 c3] 50)):=(Below.refl _ _).alloc (Nat.le_refl _) _;have hke:Bk (w.alloc (.cells #[.int .i64 4,.int .i64 at_,.string box,.string to_,.slice A1 n1 c1,.slice A2 n2 c2,.int .i64 mode,.int .i64 flags,.int .i64 date,.int .i64 n,.slice A3 n3 c3] 50)) w.heap.size 50 #[.int .i64 4,.int .i64 at_,.string box,.string to_,.slice A1 n1 c1,.slice A2 n2 c2,.int .i64 mode,.int .i64 flags,.int .i64 date,.int .i64 n,.slice A3 n3 c3]:=Bk.new _ _ _;have HDO:Hid (doS s ⟨4,at_,box,to_,ids,set,mode,flags,date,n,body⟩=subS s box):=hiD (do_4 rfl)
 have HA:=hiD (hs.below hb);have HEI:=hiD (hi.below (hb.mono hs.base) (Nat.le_refl _));have HOK:=hiD hok;have HB:=hiD (hb.mono hs.base);have k0:=hke.cell 0;have k1:=hke.cell 1;have k2:=hke.cell 2;have k3:=hke.cell 3;have k4:=hke.cell 4;have k5:=hke.cell 5;have k6:=hke.cell 6;have k7:=hke.cell 7;have k8:=hke.cell 8;have k9:=hke.cell 9;have k10:=hke.cell 10;clear hs hi hok hb hke
 show Calls Tryz.prog 57 #[.pointer (some ⟨bs,0,none⟩),.agg #[.int .i64 4,.int .i64 at_,.string box,.string to_,.slice A1 n1 c1,.slice A2 n2 c2,.int .i64 mode,.int .i64 flags,.int .i64 date,.int .i64 n,.slice A3 n3 c3]] w _
 go_enter Tryz.func57,Tryz.ntmps57
 go_wp2_with fail
 generalize w.alloc (.cells #[.int .i64 4,.int .i64 at_,.string box,.string to_,.slice A1 n1 c1,.slice A2 n2 c2,.int .i64 mode,.int .i64 flags,.int .i64 date,.int .i64 n,.slice A3 n3 c3] 50)=w1 at *;refine(z9t base bs s p box w1 HA.o HOK.o).mono ?_;rintro e V hd;have HD:=hiD (DoIs.from_ (show DoIs 103 base bs (doS s ⟨4,at_,box,to_,ids,set,mode,flags,date,n,body⟩) _ e V from hd.same (by rw[HDO.o]) (fun _=>by rw[HDO.o])) HB.o);clear hd;obtain⟨hr,hb2,hp⟩:=HD.o;subst hr;go_wp2_with fail
 go_ret;exact⟨rfl,hb2,hp⟩
end Go.Proofs.YtmjjefnmabbgdaaGreatDoor
