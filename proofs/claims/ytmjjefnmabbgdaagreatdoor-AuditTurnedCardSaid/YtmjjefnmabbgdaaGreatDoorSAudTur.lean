/- A part of the proof. -/
import Derived.Test.YtmjjefnmabbgdaaGreatDoorSAudAl
namespace Go.Proofs.YtmjjefnmabbgdaaGreatDoor
set_option linter.unusedVariables false
set_option linter.unusedSimpArgs false
set_option maxRecDepth 100000
set_option maxHeartbeats 16000000
open Go.RowKit
def VB (w:World)(us:List Value)(ls:List (List Nat)):Prop:=us.length=ls.length∧∀ i,i<ls.length→∃ A n c,us[i]?=some (.slice A n c)∧OneR w A n c (zp ls i)
theorem VRecs.vb {w:World}{lo:Nat}{us:List Value}{ls:List (List Nat)}(h:VRecs w lo us ls):VB w us ls:=⟨h.1,fun i hi=>by
 obtain⟨A,n,c,q1,q2,q3⟩:=h.2 i hi
 exact⟨A,n,c,q1,q3.cap.1,q3.cap.2,q2,q3.bytes⟩⟩
theorem VB.recs {w:World}{base n c:Nat}{A:Option Addr}{us:List Value}{ls:List (List Nat)}(h:VB w us ls)(ho:OwnK 1 oneV w base 48 A n c us):Recs 1000000 w w.heap.size A n ls:=by
 refine⟨by rw[← h.1];exact ho.len,fun hn=>?_⟩;obtain⟨g,hA,hgb,hgl,hr⟩:=ho.range hn;refine⟨g,0,hA,hgl,fun i hi=>?_⟩;obtain⟨A',n',c',q1,q2⟩:=h.2 i (by rw[← h.1,ho.len];exact hi);have hc:=hr i _ q1 0 _ rfl;exact⟨A',n',c',by simpa using hc,q2⟩
theorem VB.set {w:World}{us:List Value}{ls:List (List Nat)}(h:VB w us ls){k:Nat}{A:Option Addr}{n c:Nat}{r:List Nat}(hr:OneR w A n c r):VB w (us.set k (.slice A n c)) (ls.set k r):=by
 refine⟨by rw[List.length_set,List.length_set];exact h.1,fun i hi=>?_⟩;rw[List.length_set] at hi;by_cases hik:k=i
 ·subst hik
  refine⟨A,n,c,by rw[List.getElem?_set_self (by rw[h.1];exact hi)],?_⟩;rw[show zp (ls.set k r) k=r by unfold zp;rw[List.getD_eq_getElem?_getD,List.getElem?_set_self hi];rfl];exact hr
 ·obtain⟨A',n',c',q1,q2⟩:=h.2 i hi
  refine⟨A',n',c',by rw[List.getElem?_set_ne hik];exact q1,?_⟩;rw[show zp (ls.set k r) i=zp ls i by unfold zp;rw[List.getD_eq_getElem?_getD,List.getD_eq_getElem?_getD,List.getElem?_set_ne hik]];exact q2
theorem qb7 (n:Nat)(h:n<65536):IntKind.u16.wrap (n:Int)=(n:Int):=by
 simp[IntKind.wrap,IntKind.bits,IntKind.signed];omega
theorem qb8 {P:Program}{ops:Array Oper}{rest:List Oper}{o:Oper}{a:Act}{w w':World}{Q:Exit→Act→World→Prop}(hgd:o.guard=none)(s x:Operand)(t:TypeId)
 (ho:o.op=.call { callee:=.builtin .append,args:=#[s,x],argTypes:=#[t,t] }) {v y z:Value} (hs:a.eval s=v) (hx:a.eval x=y) (hrun:(Builtin.append_ #[t,t] o.type #[v,y]).run P w=.ok z w') (h:wpList P ops Q rest (a.put o.dst z) w'):wpList P ops Q (o::rest) a w :=
 wpList_plain hgd fun _ hK=>by
  unfold Oper.wp execOp;simp only[ho,resolve,invoke,builtin,Sem.run_bind,Sem.run_pure,Result.andThen_ok,List.map_toArray,List.map_cons,List.map_nil,hs,hx,hrun];exact hK _ _ h
theorem VB.one {w:World}{us:List Value}{ls:List (List Nat)}(h:VB w us ls):∀ u∈us,∀ v∈oneV u,v.oneCell'=true:=by
 intro u hu v hv;obtain⟨i,hi,rfl⟩:=List.mem_iff_getElem.1 hu;obtain⟨A,n,c,q1,_⟩:=h.2 i (by rw[← h.1];exact hi);rw[List.getElem?_eq_getElem hi] at q1;injection q1 with q1;rw[List.mem_singleton.1 hv,q1];rfl
theorem OwnB.cell_other {w:World}{base n c:Nat}{e:TypeId}{A:Option Addr}{l:List Nat}(h:OwnB w base e A n c l){p:Addr}(hp:(Value.slice A n c).ownBlock≠some p.block)(v:Value):OwnB (w.setCell p v) base e A n c l:=⟨ownsRow_setCell_other h.1 hp v,h.2⟩
theorem OwnK.cell_other {α:Type}{k:Nat}{f:α→List Value}{w:World}{base n c:Nat}{e:TypeId}{A:Option Addr}{l:List α}(h:OwnK k f w base e A n c l){p:Addr}(hp:(Value.slice A n c).ownBlock≠some p.block)(v:Value):OwnK k f (w.setCell p v) base e A n c l:=⟨ownsRow_setCell_other h.1 hp v,h.2⟩
theorem qb9 {P:Program}(w:World){e:TypeId}{k:IntKind}(he:P.underlying e=some (.int k))(cs:Array Value)(off:Nat)(v:Value)(hv:cs[off]?=some v):(part e cs off).run P w=.ok v w:=by
 have hagg:(isAgg e).run P w=.ok false w:=by
  unfold isAgg;rw[Sem.run_bind,run_underlying he w];simp
 simp[part,hagg,hv]
theorem ztn {P:Program}(d:Nat){e:TypeId}{k:IntKind}(he:P.underlying e=some (.int k))(cs:Array Value):∀ (is:List Nat) (w:World),(∀ i∈is,∃ z,cs[i]?=some (.int k z)) →
 (Op.eqItems (d+1) e 1 cs cs is).run P w=.ok true w
 | [],w,_=>by simp[Op.eqItems]
 | i :: r, w, h => by
   obtain⟨z,hz⟩:=h i (by simp);have h1:cs[i*1]?=some (.int k z):=by rw[Nat.mul_one];exact hz
   have ih:=ztn d he cs r w (fun j hj=>h j (by simp[hj]));simp only[Op.eqItems,Sem.run_bind,qb9 w he _ _ _ h1,Result.andThen_ok,run_equalIn_int w d e k k _ _ he];simp[ih]
theorem qca (w:World)(l:List Nat)(hl:l.length=32):(binOp .eql 25 (.agg (cb l)) (.agg (cb l))).run Tryz.prog w=.ok (.bool true) w:=by
 obtain⟨i,hi⟩:∃ i,Tryz.prog.info? 5=some i:=Option.isSome_iff_exists.1 (by kernel_rfl);have h:(Op.equalIn (9998+2) 25 (.agg (cb l)) (.agg (cb l))).run Tryz.prog w=.ok true w:=by
  rw[run_equalIn_array w (9998+1) _ _ Tryz.underlying25 hi,show Tryz.prog.cellsOf 5=1 from by kernel_rfl];exact ztn 9998 Tryz.underlying5 (cb l) _ w (fun j hj=>⟨_,zdw (by have:=List.mem_range.1 hj;omega)⟩)
 simp only[binOp];simp[Op.equal,Op.maxDepth,h]
theorem qcb:Tryz.prog.eqGuardType Tryz.prog.depth 25=false:=by kernel_rfl
theorem qcc {o:Oper}{ρ:Operand→Value}{w:World}{x y:Operand}{l:List Nat}(ho:o.op=.binOp .eql 25 x y 25)(hx:ρ x=.agg (cb l))(hy:ρ y=.agg (cb l))(hl:l.length=32):(execOp ρ o).run Tryz.prog w=.ok (.value (.bool true)) w:=by
 have hg:(eqGuard .eql 25 x y (.agg (cb l)) (.agg (cb l))).run Tryz.prog w=.ok () w:=by
  unfold eqGuard;simp[qcb,Sem.run_bind]
 unfold execOp;simp[ho,hx,hy,qca w l hl,hg]
theorem qcd (A:Option Addr)(n c:Nat)(l:List Eh)(at_ to_:Nat)(w:World)(hl:EvsIn w w.heap.size A n l)(hn:n≤140737488355328)(hk:at_<65536∧to_<256)(hK:Kinds w)(ht:Tabs w) :
 Calls Tryz.prog 6 #[.slice A n c,.int .u16 (at_:Int),.int .u8 (to_:Int)] w fun e w'=>e=.returned (.bool true)∧Below w.heap.size w w':=by
 have hmx:Tryz.prog.follows .mixedOrders=true:=by kernel_rfl
 have HL:=hiD hl;have HLN:Hid (l.length=n):=hiD hl.1.1;have HK:=hiD hK;have HT:=hiD ht;have HKB:=hiD hk;clear hl hK ht hn hk;go_enter Tryz.func6,Tryz.ntmps6
 go_wp2_with fail
 refine(zi9 w HK.o HT.o).mono ?_;rintro e W1 ⟨rfl,hb⟩;have B1:=hiD hb;clear hb;by_cases h50:(30:Int)<(n:Int)
 ·go_wp2_with fail
  go_ret;exact⟨rfl,B1.o⟩
 have HN:Hid (n≤30):=hiD (by omega);go_wp2_with fail
 clear h50
 go_loopw [7] (fun x5 wx=>∃ (i:Nat),i≤n∧x5=.int .i64 (i:Int)∧Below w.heap.size w wx) (fun x5 _=>n-(intOf x5).toNat)
 case atStart=>exact⟨0,Nat.zero_le _,rfl,B1.o⟩
 case round =>
  obtain⟨i,hi,rfl,hbw⟩:=hrel;obtain⟨wo,rfl⟩:∃ wo,wo=wr:=⟨_,rfl⟩;have HB:=hiD hbw;have HI:=hiD hi;clear hbw hi B1;by_cases hlt:i<n
  ·obtain⟨eb,eo,h,rfl,heb,hle,hrg,hin⟩:=(HL.o.later HB.o).at_ hlt
   have HRG:=hiD hrg;have hi0:(0:Int)≤(i:Int):=by omega
   have hin':(i:Int)<(n:Int):=by omega
   have HLT:=hiD hlt;have hw1:IntKind.i64.wrap ((i:Int)+1)=(i:Int)+1:=IntWalk.i64_in _ (by have:=HN.o;omega);clear hle hrg hin heb hlt;go_wp2_with (with_reducible refine stn 28 ?_)
   refine held (wpList_load_mid rfl 50 (.tmp 27) rfl eb (eo+i*11) rfl _ _ HRG.o Tryz.underlying50 rfl (by kernel_rfl) ?_);go_wp2_with fail
   refine(zrj h wo).mono ?_;rintro e W2 ⟨gr,rfl,hsm,hb⟩;have HB2:=hiD (HB.o.trans (hb.mono HB.o.size));clear hsm hb HRG HB hi0 hin';cases gr
   case true =>
    go_wp2_with fail
    go_ret;exact⟨rfl,HB2.o⟩
   go_wp2_with fail
   go_roundw
   case rel=>exact⟨i+1,HLT.o,by first|rfl|go_num,HB2.o⟩
   case measure=>have:=HLT.o;simp[intOf];omega
  ·have hlt':¬ ((i:Int)<(n:Int)):=by omega
   clear hlt;go_wp2_with fail
   clear hlt';refine(zi6 A n c l wo (HL.o.later HB.o) (by have:=HN.o;omega) (HK.o.below HB.o) (Tabs.later15 HT.o HB.o)).mono ?_;rintro e W2 ⟨A6,m,c6,us,rfl,ho,hv,hb⟩;have hok:=zhp (l.map Eh.e) (zmj HL.o);obtain⟨⟨L,cc,vs⟩,hal⟩:∃ a,alL (l.map Eh.e)=a:=⟨_,rfl⟩;rw[hal] at hok hv;have HFO:Hid (foL L=⟨cc,vs,0⟩):=hiD hok.fo;have HLV:Hid (L.length=vs.length):=hiD hok.len;have HML:Hid (L.length=m):=hiD (by have:=hv.1;rw[ho.len] at this;exact this.symm);have HM30:Hid (m≤30):=hiD (by have h1:=hok.le;rw[List.length_map] at h1;have h2:=HML.o;have h3:=HLN.o;have h4:=HN.o;simp only at h1;omega);have HRE:Hid (Recs 1000000 W2 W2.heap.size A6 m L):=hiD (hv.recs ho);have HCP:Hid (m≤c6):=hiD ho.cap.1;have HOW:Hid (OwnK 1 oneV W2 wo.heap.size 48 A6 m c6 us):=hiD ho;have HVR:Hid (VRecs W2 wo.heap.size us L):=hiD hv
   have HB2:=hiD (HB.o.trans (hb.mono HB.o.size));clear ho hv hb hok hal HB HI HL;by_cases hm2:(m:Int)<2
   ·go_wp2_with fail
    go_ret;exact⟨rfl,HB2.o⟩
   have HM2:Hid (2≤m):=hiD (by omega);obtain⟨k,hk⟩:∃ k,at_ % (m-1)=k:=⟨_,rfl⟩;have HKM:Hid (k+1<m):=hiD (by have:=Nat.mod_lt at_ (show 0<m-1 by omega);omega);have hwm:IntKind.i64.wrap ((m:Int)-1)=(m:Int)-1:=IntWalk.i64_in _ (by have:=HM30.o;omega);have hne:¬ ((m:Int)-1=0):=by omega
   have hwk:IntKind.i64.wrap (at_:Int)=(at_:Int):=IntWalk.i64_in _ (by have:=HKB.o.1;omega);have hmod:(at_:Int).tmod ((m:Int)-1)=(k:Int):=by rw[← hk,show(m:Int)-1=((m-1:Nat):Int)by omega];exact(Int.ofNat_tmod at_ (m-1)).symm
   have hwj:IntKind.i64.wrap (k:Int)=(k:Int):=IntWalk.i64_in _ (by have:=HKM.o;have:=HM30.o;omega);clear hk;go_wp2_with (with_reducible refine stn 43 ?_)
   obtain⟨A10,c10,W3,hrun,hown,hbel,-⟩:=zbb (P:=Tryz.prog) (OwnK.empty zl5 W2 48) 22 22 Tryz.underlying22 zl6 rfl (by omega) (by omega) (A':=A6) (m:=m) (c':=c6) (B:=W2.heap.size) (us:=us)
    (HOW.o.col.below ((Below.refl _ _).alloc (Nat.le_refl _) (.cells #[] 48)) (Nat.le_refl _)) (HVR.o.vb.one) (by have:=HM30.o;omega) (by simp)
   rw[Nat.zero_add,List.nil_append] at hown;rw[Nat.zero_add] at hrun;have hb23:Below W2.heap.size W2 W3:=((Below.refl _ _).alloc (Nat.le_refl _) _).trans hbel;refine held (qb8 rfl (.tmp 41) (.tmp 42) 22 rfl rfl rfl hrun ?_);obtain⟨g10,hA10,hg10,-,-⟩:=hown.range (by have:=HM2.o;omega);subst hA10;have HO3:=hiD hown;have HB23:=hiD hb23;clear hrun hown hbel hb23 hwm hne hwk hmod hwj;obtain⟨r,hr⟩:∃ r,zp L k=r:=⟨_,rfl⟩;have HR:=hiD hr;clear hr;obtain⟨g6,Ak,nk,ck,hA6,hg6,hck,hone⟩:=zfy (i:=k) (HVR.o.below HB23.o) (HOW.o.below HB23.o) (by have:=HKM.o;omega);subst hA6;rw[HR.o] at hone;have HCK:=hiD hck;have HONE:=hiD hone;have HG6:=hiD hg6;clear hck hone hg6;have hal3:Below W3.heap.size W3 (W3.alloc (.cells #[] 5)):=(Below.refl _ _).alloc (Nat.le_refl _) _;have hck2:(W3.alloc (.cells #[] 5)).cell? ⟨g6,k,none⟩=some (.slice Ak nk ck):=(hal3.cell (p:=⟨g6,k,none⟩) HG6.o).trans HCK.o
   have hk0:(0:Int)≤(k:Int):=by omega
   have hkm:(k:Int)<(m:Int):=by have:=HKM.o;omega
   have hkm2:k<m:=by have:=HKM.o;omega
   go_wp2_with (with_reducible refine stn 51 ?_)
   refine held (zao rfl (.tmp 46) (.tmp 50) 48 rfl Tryz.underlying48 zi2 W3.heap.size (some ⟨W3.heap.size,0,none⟩) 0 0 [] rfl (OwnB.empty W3 5) W3.heap.size Ak nk ck r rfl (HONE.o.2.2.2.below hal3 (Nat.le_refl _)) (by have:=HONE.o.2.2.1;omega) (by simp) ?_);intro A11 c11 W4 ho11 hb34 hg34;rw[Nat.zero_add,List.nil_append] at ho11;rw[Nat.zero_add];have HB34:=hiD (hal3.trans hb34);have HO11:=hiD ho11;have HO4:=hiD (HO3.o.below HB34.o);clear hal3 hck2 ho11 hb34 hg34 HO3;have hrl:32≤r.length:=by
    have h1:=zvx (l:=L) (by rw[HFO.o]) (k:=k) (by have:=HML.o;omega);rw[HR.o] at h1;exact Nat.le_of_not_lt (fun h=>by have:=zf1 h;rw[h1.1] at this;cases this)
   have HRL:Hid (r.length=nk∧32≤nk):=hiD ⟨HO11.o.len,by rw[← HO11.o.len];exact hrl⟩;clear hrl;obtain⟨gt,hA11,hgt1,hgt2,hfz,hcl⟩:=HO11.o.cells (by have:=HRL.o.2;omega);subst hA11;have HGT:=hiD (And.intro hgt1 hgt2);clear hfz hcl hgt1 hgt2;obtain⟨g',hge,hgb,hgl,hfz,hcl,hput⟩:=HO4.o.putX (i:=k) (j:=0) (a:=us[k]'(by rw[HO4.o.len];have:=HKM.o;omega)) (a':=.slice (some ⟨gt,0,none⟩) nk c11) (List.getElem?_eq_getElem _) (by omega) (.slice (some ⟨gt,0,none⟩) nk c11) rfl;injection hge with hge;injection hge with hge;subst hge;simp only[Nat.mul_one,Nat.add_zero] at hfz hcl hput;have hcl':W4.cell? ⟨g10,k,none⟩=some (us[k]'(by rw[HO4.o.len];have:=HKM.o;omega)):=hcl;have hgne:gt≠g10:=by
    rcases zhg HO4.o.1 HO11.o.1 (by decide)with q|q
    ·simp[Value.ownBlock] at q
    ·intro e;exact q (by simp[Value.ownBlock,e])
   have HGNE:=hiD hgne;have HPUT:=hiD hput;clear hput hcl hgne;go_wp2_with (with_reducible refine st0 ?_)
   refine held ?_;go_wp2_with (with_reducible refine stn 59 ?_)
   have hb24:Below W2.heap.size W2 W4:=HB23.o.trans (HB34.o.mono HB23.o.size)
   refine held (qk (fun W=>OwnK 1 oneV W W2.heap.size 48 (some ⟨g10,0,none⟩) m c10 (us.set k (.slice (some ⟨gt,0,none⟩) nk c11))∧OwnB W W3.heap.size 5 (some ⟨gt,0,none⟩) nk c11 r∧Below W2.heap.size W2 W)
    ⟨HPUT.o,HO11.o.cell_other (by have:=HGNE.o;simp[Value.ownBlock];omega) _,hb24.setCell hgb _⟩ ?_)
   clear hb24 hfz hcl' hgl HPUT HO11 HO4 hg10;rintro W5 ⟨q1,q2,q3⟩;have HK5:=hiD q1;have HO5:=hiD q2;have HB5:=hiD q3;clear q1 q2 q3;have hus:us.length=m:=HOW.o.len;obtain⟨gq,hge,-,hgl,hrg⟩:=HK5.o.range (by omega);injection hge with hge;injection hge with hge;subst hge;have hcell:W5.cell? ⟨g10,k,none⟩=some (.slice (some ⟨gt,0,none⟩) nk c11):=by
    have:=hrg k (.slice (some ⟨gt,0,none⟩) nk c11) (List.getElem?_set_self (by omega)) 0 _ rfl
    simpa using this
   clear hrg;obtain⟨j,hj⟩:∃ j,at_ / 7 % nk=j:=⟨_,rfl⟩;have HJ:Hid (j<nk):=hiD (by rw[← hj];exact Nat.mod_lt _ (by have:=HRL.o.2;omega));have hq7:IntKind.u16.wrap ((at_:Int) / 7)=((at_ / 7:Nat):Int):=by
    rw[show((at_:Int) / 7)=((at_ / 7:Nat):Int)from rfl];exact qb7 _ (by have:=HKB.o.1;omega)
   obtain⟨q7,hq⟩:∃ q,at_ / 7=q:=⟨_,rfl⟩;rw[hq] at hq7 hj;have HQ:Hid (q7<65536):=hiD (by have:=HKB.o.1;omega);have hwq:IntKind.i64.wrap (q7:Int)=(q7:Int):=IntWalk.i64_in _ (by have:=HQ.o;omega);have hwq2:wrap64 (q7:Int)=(q7:Int):=by first|exact hwq|(have:=HQ.o;unfold wrap64;omega)
   have hnk:¬ ((nk:Int)=0):=by have:=HRL.o.2;omega
   have hmod:(q7:Int).tmod (nk:Int)=(j:Int):=by rw[← hj];exact(Int.ofNat_tmod q7 nk).symm
   have hwj:IntKind.i64.wrap (j:Int)=(j:Int):=IntWalk.i64_in _ (by have:=HJ.o;have:=HONE.o.2.2.1;omega);clear hj hq;have hj0:(0:Int)≤(j:Int):=by omega
   have hjn:(j:Int)<(nk:Int):=by have:=HJ.o;omega
   have hjn2:j<nk:=HJ.o;obtain⟨gu,hgu,-,hgl5,hfz5,hcl5⟩:=HO5.o.cells (by omega);injection hgu with hgu;injection hgu with hgu;subst hgu;have hfzj:=hfz5 j;have hclj:=hcl5 j hjn2;clear hfz5 hcl5;go_wp2_with (with_reducible refine st0 ?_)
   refine held ?_;have hgt2:W2.heap.size≤gt:=Nat.le_trans HB23.o.size HGT.o.1;have hown6:=HO5.o.put hjn2 to_ HKB.o.2 rfl;have hb26:Below W2.heap.size W2 (W5.setCell ⟨gt,j,none⟩ (.int .u8 (to_:Int))):=HB5.o.setCell hgt2 _;have HONES:Hid (OneR (W5.setCell ⟨gt,j,none⟩ (.int .u8 (to_:Int))) (some ⟨gt,0,none⟩) nk c11 (r.set j to_)):=hiD ⟨hown6.cap.1,hown6.cap.2,HONE.o.2.2.1,hown6.bytes⟩;have HF6:=hiD (And.intro (HK5.o.cell_other (p:=⟨gt,j,none⟩) (by have:=HGNE.o;simp[Value.ownBlock];omega) (.int .u8 (to_:Int))) (And.intro ((HVR.o.below hb26).vb.set (k:=k) HONES.o) hb26));clear hgt2 hown6 hb26 HONES;go_wp2_with fail
   refine qb (fun W=>OwnK 1 oneV W W2.heap.size 48 (some ⟨g10,0,none⟩) m c10 (us.set k (.slice (some ⟨gt,0,none⟩) nk c11))∧VB W (us.set k (.slice (some ⟨gt,0,none⟩) nk c11)) (L.set k (r.set j to_))∧OneR W (some ⟨gt,0,none⟩) nk c11 (r.set j to_)∧Below W2.heap.size W2 W) ⟨HF6.o.1,HF6.o.2.1,by
    have:=HF6.o.2.1.2 k (by rw[List.length_set];have:=HML.o;omega);obtain⟨A',n',c',q1,q2⟩:=this;rw[List.getElem?_set_self (by omega)] at q1;injection q1 with q1;injection q1 with e1 e2 e3;subst e1;subst e2;subst e3
    rwa [show zp (L.set k (r.set j to_)) k=r.set j to_ by unfold zp;rw[List.getD_eq_getElem?_getD,List.getElem?_set_self (by have:=HML.o;omega)];rfl] at q2,HF6.o.2.2⟩ ?_
   clear HF6 HK5 HO5 HB5 hgl hcell hq7 hwq hwq2 hnk hmod hwj hgl5 hfzj hclj HCK HG6;rintro W6 ⟨q1,q2,q3,q4⟩;have HK6:=hiD q1;have HV6:=hiD q2;have HT6:=hiD q3;have HB6:=hiD q4;clear q1 q2 q3 q4;have HBW:=hiD (HB2.o.trans (HB6.o.mono HB2.o.size));have HXO:Hid (verC (L.set k (r.set j to_))).Ok:=hiD (zdu _)
   have HTO:Hid ((foL (L.set k (r.set j to_))).e=0→sumB (r.set j to_)=sumB r):=hiD (fun h=>zvu (by rw[HFO.o]) (by have:=HKM.o;have:=HML.o;omega) (by
    rw[← HR.o];have hkl:k<L.length:=by have:=HML.o;omega
    unfold zp;rw[List.getD_eq_getElem?_getD,List.getElem?_eq_getElem hkl]
    rfl) h)
   have HSA:Hid (to_=zf r j→verE (L.set k (r.set j to_))=0):=hiD (fun h=>by
    have hjr:j<r.length:=by have:=HRL.o.1;omega
    have hkl:k<L.length:=by have:=HML.o;omega
    have e1:r.set j to_=r:=by
     rw[h]
     apply List.ext_getElem?
     intro i;by_cases hi:j=i
     ·subst hi
      rw[List.getElem?_set_self hjr,List.getElem?_eq_getElem hjr];unfold zf;rw[List.getD_eq_getElem?_getD,List.getElem?_eq_getElem hjr];rfl
     ·rw[List.getElem?_set_ne hi]
    have e2:L.set k r=L:=by
     rw[← HR.o]
     apply List.ext_getElem?
     intro i;by_cases hi:k=i
     ·subst hi
      rw[List.getElem?_set_self hkl,List.getElem?_eq_getElem hkl];unfold zp;rw[List.getD_eq_getElem?_getD,List.getElem?_eq_getElem hkl];rfl
     ·rw[List.getElem?_set_ne hi]
    rw[e1,e2];unfold verE
    rw[HFO.o])
   obtain⟨x,hx⟩:∃ x,verC (L.set k (r.set j to_))=x:=⟨_,rfl⟩;rw[hx] at HXO;have HX:=hiD hx;obtain⟨er,her⟩:∃ er,verE (L.set k (r.set j to_))=er:=⟨_,rfl⟩;rw[her] at HSA;have HER:=hiD her;clear hx her;refine(zdt (some ⟨g10,0,none⟩) m c10 (L.set k (r.set j to_)) W6 (HV6.o.recs HK6.o) (by have:=HM30.o;omega) (HK.o.below HBW.o) (Tabs.later15 HT.o HBW.o)).mono ?_;rintro e W7 ⟨rfl,hb⟩;rw[HX.o,HER.o];have HB7:=hiD (HBW.o.trans (hb.mono HBW.o.size));have HB27:=hiD (HB6.o.trans (hb.mono HB6.o.size));have HK7:=hiD (HK6.o.below hb);have HT7:=hiD (HT6.o.later hb);clear hb HBW HB6 HK6 HT6 HV6;go_wp2_with (with_reducible refine st0 ?_)
   refine held (zi rfl 27 (.tmp 12) (.tmp 72) rfl W7.heap.size 0 (chC x) rfl rfl 27 (chC ch0) (Bk.new W7 27 (chC ch0)) (by rw[zx HXO.o];exact Nat.le_refl _) (info_ch' HXO.o) (zt _) ?_);intro W8 hw8;obtain⟨-,hb⟩:=za1 HXO.o hw8;have hb28:Below W2.heap.size W2 W8:=HB27.o.trans (hb.mono HB27.o.size);have HB8:=hiD (HB7.o.trans (hb.mono HB7.o.size));have HK8:=hiD (HK7.o.below hb);have HT8:=hiD (HT7.o.later hb);obtain⟨g6',Ar,nr,cr,hA6,hg6,hck,hone⟩:=zfy (i:=k) (HVR.o.below hb28) (HOW.o.below hb28) hkm2;injection hA6 with hA6;injection hA6 with hA6;subst hA6;rw[HR.o] at hone;have hnr:nr=nk:=by have h1:=hone.2.2.2.1;have h2:=HRL.o.1;omega
   subst hnr;obtain⟨gb,ob,hAr,hgb2,hcr⟩:=hone.2.2.2.at_ hjn2;subst hAr;have HONR:=hiD hone;obtain⟨gq,hge,-,hgl,hrg⟩:=HK8.o.range (by omega);injection hge with hge;injection hge with hge;subst hge;have hcell:W8.cell? ⟨g10,k,none⟩=some (.slice (some ⟨gt,0,none⟩) nr c11):=by
    have:=hrg k (.slice (some ⟨gt,0,none⟩) nr c11) (List.getElem?_set_self (by omega)) 0 _ rfl
    simpa using this
   clear hrg hb hb28 hw8 HB7 HB27 HK7 HT7 hone HVR HOW HK8;obtain⟨tb,htb⟩:∃ tb,zf r j=tb:=⟨_,rfl⟩;rw[htb] at hcr HSA;clear htb;by_cases hto:to_=tb
   ·have h0:=HSA.o hto
    subst h0;have hq:((to_:Int) == (tb:Int))=true:=by simp[hto]
    clear hto;go_wp2_with fail
    go_ret;exact⟨rfl,HB8.o⟩
   have hq:((to_:Int) == (tb:Int))=false:=by simp;omega
   clear hto;go_wp2_with fail
   by_cases h0:er=0
   ·subst h0
    have HEQ:=hiD (HTO.o HER.o);refine wp_region_held_drew (S:=fun W'=>Below W8.heap.size W8 W') hmx (Below.refl W8.heap.size W8).drew (fun qch=>?_);simp only[List.size_toArray,List.length_cons,List.length_nil,Nat.reduceAdd];refine tks (i:=0) (v:=.int .i64 0) (s:=qch) (h:=?_);try simp only[nm0]
    refine tks (i:=1) (v:=.bool false) (s:=qch) (h:=?_);try simp only[nm0]
    refine tks (i:=2) (v:=.bool false) (s:=qch) (h:=?_);try simp only[nm0]
    refine tks (i:=3) (v:=.slice (some ⟨g10,0,none⟩) m c10) (s:=qch) (h:=?_);try simp only[nm0]
    refine tks (i:=4) (v:=.int .i64 (k:Int)) (s:=qch) (h:=?_);try simp only[nm0]
    refine tkx (i:=5) (v:=.pointer (some ⟨g10,k,none⟩)) (x:=fun w0 hC=>by simp[execOp,Act.eval,Act.put,go_sem,hk0,hkm,hkm2]) (s:=qch) (h:=?_);try simp only[nm0]
    refine tkx (i:=6) (v:=.slice (some ⟨gt,0,none⟩) nr c11) (x:=fun w0 hC=>by simp[execOp,Act.eval,Act.put,go_sem,(hC.cell (p:=⟨g10,k,none⟩) hgl).trans hcell]) (s:=qch) (h:=?_);try simp only[nm0]
    refine tks (i:=8) (v:=.slice (some ⟨g6,0,none⟩) m c6) (s:=qch) (h:=?_);try simp only[nm0]
    refine tks (i:=9) (v:=.int .i64 (k:Int)) (s:=qch) (h:=?_);try simp only[nm0]
    refine tkx (i:=10) (v:=.pointer (some ⟨g6,k,none⟩)) (x:=fun w0 hC=>by simp[execOp,Act.eval,Act.put,go_sem,hk0,hkm,hkm2]) (s:=qch) (h:=?_);try simp only[nm0]
    refine tkx (i:=11) (v:=.slice (some ⟨gb,ob,none⟩) nr cr) (x:=fun w0 hC=>by simp[execOp,Act.eval,Act.put,go_sem,(hC.cell (p:=⟨g6,k,none⟩) hg6).trans hck]) (s:=qch) (h:=?_);try simp only[nm0]
    refine rd1 (r:=7) (h:=fun K hK=>?_);go_wp2_with fail
    have hcall:=zez (some ⟨gt,0,none⟩) nr c11 W8.heap.size _ _ (HT8.o.2.2.2.below qch (Nat.le_refl _)) qch.size HT8.o.2.2.1;rw[HEQ.o] at hcall;refine hcall.mono ?_;rintro e W9 ⟨rfl,hb⟩;have hSa:Below W8.heap.size W8 W9:=qch.trans (hb.mono qch.size);clear qch hb hcall;refine bkk hK hSa fun qch=>?_;clear hK K;try simp only[nm0]
    clear hSa;refine rd1 (r:=12) (h:=fun K hK=>?_);go_wp2_with fail
    refine(zez (some ⟨gb,ob,none⟩) nr cr W8.heap.size _ _ (HONR.o.2.2.2.below qch (Nat.le_refl _)) qch.size HONR.o.2.2.1).mono ?_;rintro e W10 ⟨rfl,hb⟩;have hSa:Below W8.heap.size W8 W10:=qch.trans (hb.mono qch.size);clear qch hb;refine bkk hK hSa fun qch=>?_;clear hK K;try simp only[nm0]
    clear hSa;refine tkx (i:=13) (v:=.bool true) (x:=fun w0 hC=>qcc (l:=sumB r) rfl rfl rfl (zc5 _)) (s:=qch) (h:=?_);try simp only[nm0]
    refine tks (i:=14) (v:=.bool true) (s:=qch) (h:=?_);try simp only[nm0]
    refine rd1 (r:=15) (h:=fun K hK=>?_);go_wp2_with fail
    have hSa:=qch;have HZ:=hiD (HB8.o.trans (qch.mono HB8.o.size));clear qch;refine bkk hK hSa fun qch=>?_;clear hK K;try simp only[nm0]
    clear hSa;refine wpAnyH_done (by kernel_rfl) ?_ _;go_wp2_with fail
    go_ret;exact⟨rfl,HZ.o⟩
   refine wp_region_held_drew (S:=fun W'=>Below W8.heap.size W8 W') hmx (Below.refl W8.heap.size W8).drew (fun qch=>?_);simp only[List.size_toArray,List.length_cons,List.length_nil,Nat.reduceAdd];refine tks (i:=0) (v:=.int .i64 (er:Int)) (s:=qch) (h:=?_);try simp only[nm0]
   refine tkx (i:=1) (v:=.bool true) (x:=fun w0 hC=>by simp[execOp,Act.eval,Act.put,go_sem,h0]) (s:=qch) (h:=?_);try simp only[nm0]
   refine tks (i:=2) (v:=.bool true) (s:=qch) (h:=?_);try simp only[nm0]
   refine tku (i:=3) (s:=qch) (h:=?_);try simp only[nm0]
   refine tku (i:=4) (s:=qch) (h:=?_);try simp only[nm0]
   refine tku (i:=5) (s:=qch) (h:=?_);try simp only[nm0]
   refine tku (i:=6) (s:=qch) (h:=?_);try simp only[nm0]
   refine tku (i:=7) (s:=qch) (h:=?_);try simp only[nm0]
   refine tku (i:=8) (s:=qch) (h:=?_);try simp only[nm0]
   refine tku (i:=9) (s:=qch) (h:=?_);try simp only[nm0]
   refine tku (i:=10) (s:=qch) (h:=?_);try simp only[nm0]
   refine tku (i:=11) (s:=qch) (h:=?_);try simp only[nm0]
   refine tku (i:=12) (s:=qch) (h:=?_);try simp only[nm0]
   refine tku (i:=13) (s:=qch) (h:=?_);try simp only[nm0]
   refine tks (i:=14) (v:=.bool true) (s:=qch) (h:=?_);try simp only[nm0]
   refine rd1 (r:=15) (h:=fun K hK=>?_);go_wp2_with fail
   have hSa:=qch;have HZ:=hiD (HB8.o.trans (qch.mono HB8.o.size));clear qch;refine bkk hK hSa fun qch=>?_;clear hK K;try simp only[nm0]
   clear hSa;refine wpAnyH_done (by kernel_rfl) ?_ _;go_wp2_with fail
   go_ret;exact⟨rfl,HZ.o⟩
end Go.Proofs.YtmjjefnmabbgdaaGreatDoor
