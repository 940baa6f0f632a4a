/- A part of the proof. -/
import Derived.Test.YtmjjefnmabbgdaaGreatDoorSAudAl
import Derived.Test.YtmjjefnmabbgdaaGreatDoorSEventD
namespace Go.Proofs.YtmjjefnmabbgdaaGreatDoor
set_option linter.unusedVariables false
set_option linter.unusedSimpArgs false
set_option maxRecDepth 100000
set_option maxHeartbeats 16000000
open Go.RowKit
theorem qa3 {P:Program}{t e:TypeId}(ht:P.underlying t=some (.slice e))(hsz:(P.info? e).map (·.size)=some 1)(A:Option Addr)(n c j:Nat)(hj:j≤c)(W:World) :
 (Instr.sliceAt t (.slice A n c) none (some (.int .i64 (j:Int))) none).run P W=.ok (.slice A j c) W:=by
 have hel:P.elem t=e:=by simp[Program.elem,ht]
 have ht':P.underlying t=some (.slice (P.elem t)):=by rw[hel];exact ht
 have hs:∀ W:World,(sizeOf (P.elem t)).run P W=.ok 1 W:=by
  intro W;rw[hel];cases hq:P.info? e with
  | none=>simp[hq] at hsz
  | some i =>
    have:i.size=1:=by simpa [hq] using hsz
    simp[sizeOf,hq,this,go_sem,run_typeInfo _ hq]
 rw[run_sliceAt_slice W t _ _ _ _ ht',run_slice_h W t _ n c ht' .i64 (j:Int) (by omega) (by omega),hs];by_cases hc:c=0
 ·cases A<;>simp[Result.andThen_ok,sliced,Int.toNat_natCast,hc,Addr.add]
 ·cases A<;>simp[Result.andThen_ok,sliced,Int.toNat_natCast,hc,Addr.add]
theorem qa4 (h g:Eh)(w:World)(Hh:EvIn w w.heap.size h)(Hg:EvIn w w.heap.size g)(he:h.e=g.e):Calls Tryz.prog 19 #[.agg (evC h),.agg (evC g)] w fun e w'=>e=.returned (.bool true)∧Below w.heap.size w w':=by
 refine(qa6 h g w Hh Hg).mono ?_;rintro e w' ⟨h1,h2⟩;exact⟨by rw[h1,he,zyo],h2⟩
theorem qa5 (A:Option Addr)(n c:Nat)(l:List Eh)(k:Nat)(w:World)(hl:EvsIn w w.heap.size A n l)(hn:n≤140737488355328)(hk:k<256)(hK:Kinds w)(ht:Tabs w) :
 Calls Tryz.prog 7 #[.slice A n c,.int .u8 (k:Int)] w fun e w'=>e=.returned (.bool true)∧Below w.heap.size w w':=by
 have hmx:Tryz.prog.follows .mixedOrders=true:=by kernel_rfl
 have HL:=hiD hl;have HLN:Hid (l.length=n):=hiD hl.1.1;have HK:=hiD hK;have HT:=hiD ht;have HKB:=hiD hk;clear hl hK ht hn hk;go_enter Tryz.func7,Tryz.ntmps7
 go_wp2_with fail
 refine(zi9 w HK.o HT.o).mono ?_;rintro e W1 ⟨rfl,hb⟩;have B1:=hiD hb;clear hb;by_cases h50:(30:Int)<(n:Int)
 ·go_wp2_with fail
  go_ret;exact⟨rfl,B1.o⟩
 have HN:Hid (n≤30):=hiD (by omega);go_wp2_with fail
 clear h50
 go_loopw [5] (fun x5 wx=>∃ (i:Nat),i≤n∧x5=.int .i64 (i:Int)∧Below w.heap.size w wx) (fun x5 _=>n-(intOf x5).toNat)
 case atStart=>exact⟨0,Nat.zero_le _,rfl,B1.o⟩
 case round =>
  obtain⟨i,hi,rfl,hbw⟩:=hrel;obtain⟨wo,rfl⟩:∃ wo,wo=wr:=⟨_,rfl⟩;have HB:=hiD hbw;have HI:=hiD hi;clear hbw hi B1;by_cases hlt:i<n
  ·obtain⟨eb,eo,h,rfl,heb,hle,hrg,hin⟩:=(HL.o.later HB.o).at_ hlt
   have HRG:=hiD hrg;have hi0:(0:Int)≤(i:Int):=by omega
   have hin':(i:Int)<(n:Int):=by omega
   have HLT:=hiD hlt;have hw1:IntKind.i64.wrap ((i:Int)+1)=(i:Int)+1:=IntWalk.i64_in _ (by have:=HN.o;omega);clear hle hrg hin heb hlt;go_wp2_with (with_reducible refine stn 29 ?_)
   refine held (wpList_load_mid rfl 50 (.tmp 28) rfl eb (eo+i*11) rfl _ _ HRG.o Tryz.underlying50 rfl (by kernel_rfl) ?_);go_wp2_with fail
   refine(zrj h wo).mono ?_;rintro e W2 ⟨gr,rfl,hsm,hb⟩;have HB2:=hiD (HB.o.trans (hb.mono HB.o.size));clear hsm hb HRG HB hi0 hin';cases gr
   case true =>
    go_wp2_with fail
    go_ret;exact⟨rfl,HB2.o⟩
   go_wp2_with fail
   go_roundw
   case rel=>exact⟨i+1,HLT.o,by first|rfl|go_num,HB2.o⟩
   case measure=>have:=HLT.o;simp[intOf];omega
  ·have hlt':¬ ((i:Int)<(n:Int)):=by omega
   clear hlt;go_wp2_with fail
   clear hlt';refine(zi6 A n c l wo (HL.o.later HB.o) (by have:=HN.o;omega) (HK.o.below HB.o) (Tabs.later15 HT.o HB.o)).mono ?_;rintro e W2 ⟨A6,m,c6,us,rfl,ho,hv,hb⟩;have hok:=zhp (l.map Eh.e) (zmj HL.o);obtain⟨⟨L,cc,vs⟩,hal⟩:∃ a,alL (l.map Eh.e)=a:=⟨_,rfl⟩;rw[hal] at hok hv;have HFO:Hid (foL L=⟨cc,vs,0⟩):=hiD hok.fo;have HLV:Hid (L.length=vs.length):=hiD hok.len;have HML:Hid (L.length=m):=hiD (by have:=hv.1;rw[ho.len] at this;exact this.symm);have HM30:Hid (m≤30):=hiD (by have h1:=hok.le;rw[List.length_map] at h1;have h2:=HML.o;have h3:=HLN.o;have h4:=HN.o;simp only at h1;omega);have HRE:Hid (Recs 1000000 W2 W2.heap.size A6 m L):=hiD (hv.recs ho);have HCP:Hid (m≤c6):=hiD ho.cap.1;have HB2:=hiD (HB.o.trans (hb.mono HB.o.size));clear ho hv hb hok hal HB HI HL;obtain⟨j,hj⟩:∃ j,k % (m+1)=j:=⟨_,rfl⟩
   have HJ:Hid (j≤m):=hiD (by have:=Nat.mod_lt k (show 0<m+1 by omega);omega);have hwm:IntKind.i64.wrap ((m:Int)+1)=(m:Int)+1:=IntWalk.i64_in _ (by have:=HM30.o;omega);have hne:¬ ((m:Int)+1=0):=by omega
   have hwk:IntKind.i64.wrap (k:Int)=(k:Int):=IntWalk.i64_in _ (by have:=HKB.o;omega);have hmod:(k:Int).tmod ((m:Int)+1)=(j:Int):=by rw[← hj];exact(Int.ofNat_tmod k (m+1)).symm
   have hwj:IntKind.i64.wrap (j:Int)=(j:Int):=IntWalk.i64_in _ (by have:=HJ.o;have:=HM30.o;omega);have S2:∀ W,(Instr.sliceAt 22 (.slice A6 m c6) none (some (.int .i64 (j:Int))) none).run Tryz.prog W=.ok (.slice A6 j c6) W:=fun W=>qa3 Tryz.underlying22 (by kernel_rfl) A6 m c6 j (by have:=HJ.o;have:=HCP.o;omega) W;clear hj;go_wp2_with fail
   have HTK:Hid (Recs 1000000 W2 W2.heap.size A6 j (L.take j)):=hiD (HRE.o.take HJ.o);have HFJ:Hid ((foL (L.take j)).e=0):=hiD (zhn (by rw[HFO.o]) j);have HVJ:Hid ((foL (L.take j)).v=vs.take j):=hiD (by rw[zni (by rw[HFO.o]) j,HFO.o])
   have HVE:Hid (verE (L.take j)=0∧(verC (L.take j)).count=(j:Int)∧evsV (L.take j)=vs.take j):=hiD (by
    have h1:=HFJ.o;have h2:=(zan (L.take j)).count;rw[HVJ.o,List.length_take,Nat.min_eq_left (by have:=HJ.o;have:=HLV.o;have:=HML.o;omega)] at h2;unfold verE verC evsV
    exact⟨h1,by rw[if_pos h1,h2],by rw[if_pos h1,HVJ.o]⟩)
   have HVL:Hid (verE L=0∧evsV L=vs∧zey L=m):=hiD (by
    unfold verE evsV zey;rw[HFO.o]
    exact⟨rfl,if_pos rfl,by have:=HLV.o;have:=HML.o;simp only;omega⟩)
   have HXO:Hid (verC (L.take j)).Ok:=hiD (zdu _);obtain⟨x,hx⟩:∃ x,verC (L.take j)=x:=⟨_,rfl⟩;have HX:=hiD hx;rw[hx] at HXO HVE;clear hx hwm hne hwk hmod;refine(zdt A6 j c6 (L.take j) W2 HTK.o (by have:=HJ.o;have:=HM30.o;omega) (HK.o.below HB2.o) (Tabs.later15 HT.o HB2.o)).mono ?_;rintro e W3 ⟨rfl,hb⟩;rw[HX.o,HVE.o.1];have HB3:=hiD (HB2.o.trans (hb.mono HB2.o.size));have HR3:=hiD (HRE.o.later hb);clear hb HTK HRE;go_wp2_with (with_reducible refine st0 ?_)
   refine held (zi rfl 27 (.tmp 8) (.tmp 44) rfl W3.heap.size 0 (chC x) rfl rfl 27 (chC ch0) (Bk.new W3 27 (chC ch0)) (by rw[zx HXO.o];exact Nat.le_refl _) (info_ch' HXO.o) (zt _) ?_);intro W4 hw4;obtain⟨k8,hb⟩:=za1 HXO.o hw4;have K8:=hiD k8;have HR4:=hiD (HR3.o.later hb);have HB4:=hiD (HB3.o.trans (hb.mono HB3.o.size));obtain⟨b8,hb8⟩:∃ b,W3.heap.size=b:=⟨_,rfl⟩;rw[hb8] at K8 ⊢;clear k8 hb hw4 hb8 HR3 HB3;go_wp2_with fail
   refine(zmh A6 j c6 (L.take j) W4 (HR4.o.take HJ.o) (by have:=HJ.o;have:=HM30.o;omega) (HK.o.below HB4.o) (Tabs.later15 HT.o HB4.o)).mono ?_;rintro e W5 ⟨A10,n10,c10,rfl,ho10,hb⟩;rw[HVE.o.1];rw[HVE.o.2.2] at ho10;have HN10:Hid (n10=j):=hiD (by have:=ho10.len;rw[List.length_take,Nat.min_eq_left (by have:=HJ.o;have:=HLV.o;have:=HML.o;omega)] at this;omega);have HE10:=hiD ho10;have K8b:=hiD (K8.o.below hb K8.o.lt);have HR5:=hiD (HR4.o.later hb);have HB5:=hiD (HB4.o.trans (hb.mono HB4.o.size));clear hb ho10 HR4 HB4 K8 hwj S2;go_wp2_with fail
   refine(zmh A6 m c6 L W5 HR5.o (by have:=HM30.o;omega) (HK.o.below HB5.o) (Tabs.later15 HT.o HB5.o)).mono ?_;rintro e W6 ⟨A12,n12,c12,rfl,ho12,hb⟩;rw[HVL.o.1];rw[HVL.o.2.1] at ho12;have HN12:Hid (n12=m):=hiD (by have:=ho12.len;have:=HLV.o;have:=HML.o;omega);have HE10b:=hiD (HE10.o.below hb);have HE12:=hiD ho12;have K8:=hiD (K8b.o.below hb K8b.o.lt);have HR6:=hiD (HR5.o.later hb);have HB6:=hiD (HB5.o.trans (hb.mono HB5.o.size));clear hb ho12 HR5 HB5 K8b HE10;have c32:W6.cell? ⟨b8,32,none⟩=some (.int .i64 (j:Int)):=by rw[K8.o.count HXO.o,HVE.o.2.1]
   have h10:=HN10.o;have h12:=HN12.o;subst h10;subst h12;go_wp2_with fail
   refine(zmi A6 n12 c6 L W6 HR6.o (by have:=HM30.o;omega) (HK.o.below HB6.o) (Tabs.later15 HT.o HB6.o)).mono ?_;rintro e W7 ⟨rfl,hb⟩;rw[HVL.o.2.2];obtain⟨hs10,hin10,hm10⟩:=(HE10b.o.below hb).in_;obtain⟨hs12,hin12,hm12⟩:=(HE12.o.below hb).in_;have HI10:=hiD hin10;have HI12:=hiD hin12;have HM10:=hiD hm10;have HM12:=hiD hm12;have HB7:=hiD (HB6.o.trans (hb.mono HB6.o.size));clear hb hin10 hin12 hm10 hm12 HE10b HE12 K8 HR6 HB6 c32;go_wp2_with fail
   go_loopw [14] (fun x14 wx=>∃ (i:Nat),i≤n10∧x14=.int .i64 (i:Int)∧Below W7.heap.size W7 wx) (fun x14 _=>n10-(intOf x14).toNat)
   case atStart=>exact⟨0,Nat.zero_le _,rfl,Below.refl _ _⟩
   case round =>
    obtain⟨i,hi,rfl,hbw⟩:=hrel;obtain⟨wo,rfl⟩:∃ wo,wo=wr:=⟨_,rfl⟩;have HB:=hiD hbw;have HI:=hiD hi;clear hbw hi;by_cases hlt:i<n10
    ·obtain⟨eb,eo,h,rfl,heb,hle,hrg,hin⟩:=(HI10.o.later HB.o).at_ hlt
     obtain⟨fb,fo,g,rfl,hfb,hfe,hfr,hfin⟩:=(HI12.o.later HB.o).at_ (j:=i) (by have:=HJ.o;omega);have HRG:=hiD hrg;have HFR:=hiD hfr;have HEI:=hiD hin;have HFI:=hiD hfin;have HEB:=hiD heb;have HFB:=hiD hfb
     have HEQ:Hid (h.e=g.e):=hiD (by
      have e1:(vs.take n10)[i]?=some h.e:=by rw[← HM10.o,List.getElem?_map,hle];rfl
      have e2:vs[i]?=some g.e:=by rw[← HM12.o,List.getElem?_map,hfe];rfl
      rw[List.getElem?_take_of_lt hlt,e2] at e1;injection e1 with e1
      exact e1.symm)
     have hi0:(0:Int)≤(i:Int):=by omega
     have hin':(i:Int)<(n10:Int):=by omega
     have hin2:i<n12:=by have:=HJ.o;omega
     have hin3:(i:Int)<(n12:Int):=by omega
     have HLT:=hiD hlt;clear hle hrg hin heb hfe hfr hfin hfb
     go_upto_region 20 with (fail)
     go_wp2_with fail
     refine wp_region_held_drew (S:=fun W'=>Below wo.heap.size wo W') hmx (Below.refl _ _).drew (fun qch=>?_);generalize hW0:wo.drew=V0 at *;clear hW0;simp only[List.size_toArray,List.length_cons,List.length_nil,Nat.reduceAdd];refine tks (i:=0) (v:=.slice (some ⟨eb,eo,none⟩) n10 c10) (s:=qch) (h:=?_);try simp only[nm0]
     refine tks (i:=1) (v:=.int .i64 (i:Int)) (s:=qch) (h:=?_);try simp only[nm0]
     refine tkx (i:=2) (v:=.pointer (some ⟨eb,eo+i*11,none⟩)) (x:=fun w0 hC=>by simp[execOp,Act.eval,Act.put,go_sem,hi0,hin',hlt]) (s:=qch) (h:=?_);try simp only[nm0]
     refine tkx (i:=3) (v:=.agg (evC h)) (x:=fun w0 hC=>jc rfl rfl (zja HRG.o hC HEB.o) Tryz.underlying50 rfl (by rw[zd];exact zr)) (s:=qch) (h:=?_);try simp only[nm0]
     refine tks (i:=4) (v:=.slice (some ⟨fb,fo,none⟩) n12 c12) (s:=qch) (h:=?_);try simp only[nm0]
     refine tks (i:=5) (v:=.int .i64 (i:Int)) (s:=qch) (h:=?_);try simp only[nm0]
     refine tkx (i:=6) (v:=.pointer (some ⟨fb,fo+i*11,none⟩)) (x:=fun w0 hC=>by simp[execOp,Act.eval,Act.put,go_sem,hi0,hin3,hin2]) (s:=qch) (h:=?_);try simp only[nm0]
     refine tkx (i:=7) (v:=.agg (evC g)) (x:=fun w0 hC=>jc rfl rfl (zja HFR.o hC HFB.o) Tryz.underlying50 rfl (by rw[zd];exact zr)) (s:=qch) (h:=?_);try simp only[nm0]
     clear hi0 hin' hlt hin2 hin3;refine rd1 (r:=8) (h:=fun K hK=>?_);go_wp2_with fail
     refine(qa4 h g V0 ((HEI.o.below qch (Nat.le_refl _)).more qch.size) ((HFI.o.below qch (Nat.le_refl _)).more qch.size) HEQ.o).mono ?_;rintro e V1 ⟨rfl,hb⟩;have hS:=qch.trans (hb.mono qch.size);clear qch hb;refine bkk hK hS fun qch=>?_;clear hK K;try simp only[nm0]
     clear hS;refine tks (i:=9) (v:=.bool false) (s:=qch) (h:=?_);try simp only[nm0]
     refine wpAnyH_done (by kernel_rfl) ?_ _;have HX1:=hiD (HB.o.trans (qch.mono HB.o.size));clear qch HB;have hw1:IntKind.i64.wrap ((i:Int)+1)=(i:Int)+1:=IntWalk.i64_in _ (by have:=HLT.o;have:=HJ.o;have:=HM30.o;omega);go_wp2_with fail
     go_roundw
     case rel=>exact⟨i+1,HLT.o,by first|rfl|go_num,HX1.o⟩
     case measure=>have:=HLT.o;simp[intOf];omega
    ·have hlt':¬ ((i:Int)<(n10:Int)):=by omega
     clear hlt;go_wp2_with fail
     go_ret;exact⟨rfl,HB7.o.trans (HB.o.mono HB7.o.size)⟩
end Go.Proofs.YtmjjefnmabbgdaaGreatDoor
