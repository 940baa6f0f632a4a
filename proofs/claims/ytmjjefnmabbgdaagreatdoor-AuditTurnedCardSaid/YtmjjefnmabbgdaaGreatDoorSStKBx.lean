/- A part of the proof. -/
import Derived.Test.YtmjjefnmabbgdaaGreatDoorSStateOwn
namespace Go.Proofs.YtmjjefnmabbgdaaGreatDoor
set_option linter.unusedVariables false
set_option linter.unusedSimpArgs false
set_option maxRecDepth 100000
set_option maxHeartbeats 16000000
open Go.RowKit
theorem zst (g:Nat)(caps:Array Value)(p:Bx→Bool)(A:Option Addr)(n c:Nat)(l:List Bx)(w:World)(hl:BoxesIn w w.heap.size A n l)(hn:n≤140737488355328)
 (hg:Enters Tryz.prog g) (hc:CallP Tryz.prog g caps (fun x=>.agg (bhA x)) BhIn Bh.b l p w) :
 Calls Tryz.prog 242 #[.slice A n c,.func (.func g) #[] caps] w (IsAt l p w):=by
 have HL:=hiD hl;have HC:=hiD hc;have HG:=hiD hg;clear hl hc hg;go_enter Tryz.func242,Tryz.ntmps242
 go_wp2_with fail
 go_loopw [8] (fun i wx=>∃ k:Nat,k≤n∧i=.int .i64 (k:Int)∧(∀ b∈l.take k,p b=false)∧Below w.heap.size w wx) (fun i _=>n-(intOf i).toNat)
 case atStart=>exact⟨0,Nat.zero_le _,rfl,fun b hb=>by simp at hb,Below.refl _ _⟩
 case round =>
  obtain⟨k,hk,rfl,ha,hb⟩:=hrel;have HB:=hiD hb;have HU:=hiD ha;clear ha hb;by_cases hlt:k<n
  ·obtain⟨b,o,x,rfl,hbb,hla,htk,hrow,hin⟩:=(HL.o.below bhStays HB.o (Nat.le_refl _)).at_ hlt
   have HLA:=hiD hla;have HTK:=hiD htk;have HROW:=hiD hrow;have hk0:(0:Int)≤(k:Int):=by omega
   have hkn:(k:Int)<(n:Int):=by omega
   have CI:=hiD (HC.o wr x HB.o (List.mem_of_getElem? hla) (bhStays.more hin HB.o.size));clear hla htk hrow hin;go_wp2_with (with_reducible refine stn 15 ?_)
   refine held (wpList_load_mid rfl 76 (.tmp 14) rfl b (o+k*4) rfl (bhC x) _ HROW.o Tryz.underlying76 rfl (by kernel_rfl) ?_);rw[zlo];go_wp2_with fail
   rw[HG.o];refine CI.o.mono ?_;rintro e w' ⟨rfl,hb2⟩;have HB2:=hiD (HB.o.trans (hb2.mono HB.o.size));clear hb2 CI;cases hok:p (Bh.b x)
   ·have HS:=hiD (zg4 HU.o HTK.o hok)
    clear hok;go_wp2_with fail
    go_roundw
    case rel=>exact⟨k+1,by omega,by go_num,HS.o,HB2.o⟩
    case measure=>simp[intOf];omega
   ·have HS:=hiD (zfu HU.o HLA.o hok)
    clear hok;go_wp2_with fail
    go_ret;exact⟨(k:Int),rfl,by rw[HS.o];simp,by omega,by omega,HB2.o⟩
  ·have hkn:¬ (k:Int)<(n:Int):=by omega
   have HS:=hiD (zg5 HU.o HL.o.len hlt);go_wp2_with fail
   go_ret;exact⟨-1,rfl,by rw[HS.o];rfl,by omega,by omega,HB.o⟩
theorem z7c (g:Nat)(caps:Array Value)(p:Bx→Bool)(A:Option Addr)(n c:Nat)(l:List Bx)(w:World)(hl:BoxesIn w w.heap.size A n l)(hn:n≤140737488355328)
 (hg:Enters Tryz.prog g) (hc:CallP Tryz.prog g caps (fun x=>.agg (bhA x)) BhIn Bh.b l p w) :
 Calls Tryz.prog 197 #[.slice A n c,.func (.func g) #[] caps] w (SaysB (l.any p) w):=by
 have CI:=hiD (zst g caps p A n c l w hl hn hg hc);clear hl hc hg;go_enter Tryz.func197,Tryz.ntmps197
 go_wp2_with fail
 refine CI.o.mono ?_;rintro e w' ⟨z,rfl,hz,hz1,hz2,hb⟩;have HZ:=hiD hz;have HB:=hiD hb;clear hz hb CI;by_cases h0:0≤z
 ·have HR:Hid (l.any p=true):=hiD (by rw[← zc3];have:=HZ.o;exact decide_eq_true (by omega))
  go_wp2_with fail
  go_ret;exact⟨by rw[HR.o]<;>rfl,HB.o⟩
 ·have HR:Hid (l.any p=false):=hiD (by rw[← zc3];have:=HZ.o;exact decide_eq_false (by omega))
  go_wp2_with fail
  go_ret;exact⟨ji (by rw[HR.o]<;>first|rfl|exact decide_eq_false (by omega)),HB.o⟩
theorem zsu (g:Nat)(A:Option Addr)(n c:Nat)(l:List Bx)(w:World)(hl:BoxesIn w w.heap.size A n l)(hn:n≤140737488355328)
 (hg:Enters Tryz.prog g) (hk:CallK Tryz.prog g (fun x=>.agg (bhA x)) BhIn Bh.b (fun b=>.string b.name)) :
 Calls Tryz.prog 199 #[.slice A n c,.func (.func g) #[] #[]] w (SaysB (decide (l.Pairwise (fun a b=>ltS a.name b.name))) w):=by
 have hmx:Tryz.prog.follows .mixedOrders=true:=by kernel_rfl
 have HL:=hiD hl;have HK:=hiD hk;have HG:=hiD hg;clear hl hk hg;go_enter Tryz.func199,Tryz.ntmps199
 go_wp2_with fail
 go_loopw [5] (fun i wx=>∃ k:Nat,1≤k∧i=.int .i64 (k:Int)∧(n=0∨k≤n)∧(l.take k).Pairwise (fun a b=>ltS a.name b.name)∧Below w.heap.size w wx) (fun i _=>n-(intOf i).toNat)
 case atStart=>exact⟨1,Nat.le_refl _,rfl,by omega,zg6 l,Below.refl _ _⟩
 case round =>
  obtain⟨k,hk1,rfl,hkn0,ha,hb⟩:=hrel;have HB:=hiD hb;have HU:=hiD ha;clear ha hb;by_cases hlt:k<n
  ·obtain⟨j,rfl⟩:∃ j,k=j+1:=⟨k - 1,by omega⟩
   obtain⟨b,o,x,rfl,hbb,hla,htk,hrow,hin⟩:=(HL.o.below bhStays HB.o (Nat.le_refl _)).at_ hlt;obtain⟨b',o',y,he,hbb',hlb,htk',hrow',hin'⟩:=(HL.o.below bhStays HB.o (Nat.le_refl _)).at_ (show j<n by omega);injection he with he;injection he with e1 e2;subst e1;subst e2;have HLA:=hiD hla;have HLB:=hiD hlb;have HX:=hiD (bhStays.more hin HB.o.size);have HY:=hiD (bhStays.more hin' HB.o.size);have hk0:(0:Int)≤(j:Int)+1:=by omega
   have hj0:(0:Int)≤(j:Int):=by omega
   have hkn:(j:Int)+1<(n:Int):=by omega
   have hjn:(j:Int)<(n:Int):=by omega
   have hsub:(j:Int)+1-1=(j:Int):=by omega
   have hbw:b<wr.heap.size:=Nat.lt_of_lt_of_le hbb HB.o.size;have rx:=hrow;have ry:=hrow';clear hla hlb htk htk' hin hin';have HCASE:∀ q:Bool,decide (ltS y.b.name x.b.name)=q→Hid (decide (ltS y.b.name x.b.name)=q):=fun q h=>hiD h;cases hq:decide (ltS y.b.name x.b.name)
   ·have HQ:=HCASE _ hq
    clear hq HCASE;go_wp2_with fail
    refine wp_region_held_drew (S:=fun W'=>Below wr.heap.size wr W') hmx (Below.refl wr.heap.size wr).drew (fun qch=>?_);generalize hW0:wr.drew=W at *;clear hW0;simp only[List.size_toArray,List.length_cons,List.length_nil,Nat.reduceAdd];refine tks (i:=0) (v:=.func (.func g) #[] #[]) (s:=qch) (h:=?_);try simp only[nm0]
    refine tks (i:=1) (v:=.slice (some ⟨b,o,none⟩) n c) (s:=qch) (h:=?_);try simp only[nm0]
    refine tks (i:=2) (v:=.int .i64 ((j:Int)+1)) (s:=qch) (h:=?_);try simp only[nm0]
    refine tkx (i:=3) (v:=.pointer (some ⟨b,o+(j+1)*4,none⟩)) (x:=fun w0 hC=>by simp[execOp,Act.eval,Act.put,go_sem,hk0,hkn,hlt,show((j:Int)+1).toNat=j+1 by omega]) (s:=qch) (h:=?_);try simp only[nm0]
    refine tkx (i:=4) (v:=.agg (bhA x)) (x:=fun w0 hC=>by simp[execOp,Act.eval,Act.put,go_sem,bhA,(hC.cell (p:=⟨b,o+(j+1)*4,none⟩) hbw).trans (rx 0 _ rfl),(hC.cell (p:=⟨b,o+(j+1)*4+1,none⟩) hbw).trans (rx 1 _ rfl),(hC.cell (p:=⟨b,o+(j+1)*4+2,none⟩) hbw).trans (rx 2 _ rfl),(hC.cell (p:=⟨b,o+(j+1)*4+3,none⟩) hbw).trans (rx 3 _ rfl)]) (s:=qch) (h:=?_);try simp only[nm0]
    refine tks (i:=6) (v:=.func (.func g) #[] #[]) (s:=qch) (h:=?_);try simp only[nm0]
    refine tks (i:=7) (v:=.slice (some ⟨b,o,none⟩) n c) (s:=qch) (h:=?_);try simp only[nm0]
    refine tks (i:=8) (v:=.int .i64 ((j:Int)+1)) (s:=qch) (h:=?_);try simp only[nm0]
    refine tkx (i:=9) (v:=.int .i64 (j:Int)) (x:=fun w0 hC=>by simp[execOp,Act.eval,Act.put,go_sem,hsub,zc4 j (by omega)]) (s:=qch) (h:=?_);try simp only[nm0]
    refine tkx (i:=10) (v:=.pointer (some ⟨b,o+j*4,none⟩)) (x:=fun w0 hC=>by simp[execOp,Act.eval,Act.put,go_sem,hj0,hjn,show j<n by omega]) (s:=qch) (h:=?_);try simp only[nm0]
    refine tkx (i:=11) (v:=.agg (bhA y)) (x:=fun w0 hC=>by simp[execOp,Act.eval,Act.put,go_sem,bhA,(hC.cell (p:=⟨b,o+j*4,none⟩) hbw).trans (ry 0 _ rfl),(hC.cell (p:=⟨b,o+j*4+1,none⟩) hbw).trans (ry 1 _ rfl),(hC.cell (p:=⟨b,o+j*4+2,none⟩) hbw).trans (ry 2 _ rfl),(hC.cell (p:=⟨b,o+j*4+3,none⟩) hbw).trans (ry 3 _ rfl)]) (s:=qch) (h:=?_);try simp only[nm0]
    refine rd1 (r:=5) (h:=fun K hK=>?_);go_wp2_with fail
    rw[HG.o];refine(HK.o W x (bhStays.later_ HX.o qch)).mono ?_;rintro e W2 ⟨rfl,hb5⟩;have hS:=qch.trans (hb5.mono qch.size);clear qch hb5;refine bkk hK hS fun qch=>?_;clear hK K;try simp only[nm0]
    clear hS;refine rd1 (r:=12) (h:=fun K hK=>?_);go_wp2_with fail
    rw[HG.o];refine(HK.o _ y (bhStays.later_ HY.o qch)).mono ?_;rintro e W3 ⟨rfl,hb5⟩;have hS:=qch.trans (hb5.mono qch.size);clear qch hb5;refine bkk hK hS fun qch=>?_;clear hK K;try simp only[nm0]
    clear hS;refine tkx (i:=13) (v:=.bool true) (x:=fun w0 hC=>by first|(simp[execOp,Act.eval,Act.put,go_sem,HQ.o];done)|simp[execOp,Act.eval,Act.put,go_sem,zfv,HQ.o]) (s:=qch) (h:=?_);try simp only[nm0]
    refine wpAnyH_done (by kernel_rfl) ?_ _;have HB2:=hiD (HB.o.trans (qch.mono HB.o.size));clear qch;have HS:=hiD (decide_eq_false (zfh (R:=(fun a b=>ltS a.name b.name)) HLB.o HLA.o (of_decide_eq_false HQ.o)));go_wp2_with fail
    go_ret;exact⟨by rw[HS.o]<;>rfl,HB2.o⟩
   ·have HQ:=HCASE _ hq
    clear hq HCASE;go_wp2_with fail
    refine wp_region_held_drew (S:=fun W'=>Below wr.heap.size wr W') hmx (Below.refl wr.heap.size wr).drew (fun qch=>?_);generalize hW0:wr.drew=W at *;clear hW0;simp only[List.size_toArray,List.length_cons,List.length_nil,Nat.reduceAdd];refine tks (i:=0) (v:=.func (.func g) #[] #[]) (s:=qch) (h:=?_);try simp only[nm0]
    refine tks (i:=1) (v:=.slice (some ⟨b,o,none⟩) n c) (s:=qch) (h:=?_);try simp only[nm0]
    refine tks (i:=2) (v:=.int .i64 ((j:Int)+1)) (s:=qch) (h:=?_);try simp only[nm0]
    refine tkx (i:=3) (v:=.pointer (some ⟨b,o+(j+1)*4,none⟩)) (x:=fun w0 hC=>by simp[execOp,Act.eval,Act.put,go_sem,hk0,hkn,hlt,show((j:Int)+1).toNat=j+1 by omega]) (s:=qch) (h:=?_);try simp only[nm0]
    refine tkx (i:=4) (v:=.agg (bhA x)) (x:=fun w0 hC=>by simp[execOp,Act.eval,Act.put,go_sem,bhA,(hC.cell (p:=⟨b,o+(j+1)*4,none⟩) hbw).trans (rx 0 _ rfl),(hC.cell (p:=⟨b,o+(j+1)*4+1,none⟩) hbw).trans (rx 1 _ rfl),(hC.cell (p:=⟨b,o+(j+1)*4+2,none⟩) hbw).trans (rx 2 _ rfl),(hC.cell (p:=⟨b,o+(j+1)*4+3,none⟩) hbw).trans (rx 3 _ rfl)]) (s:=qch) (h:=?_);try simp only[nm0]
    refine tks (i:=6) (v:=.func (.func g) #[] #[]) (s:=qch) (h:=?_);try simp only[nm0]
    refine tks (i:=7) (v:=.slice (some ⟨b,o,none⟩) n c) (s:=qch) (h:=?_);try simp only[nm0]
    refine tks (i:=8) (v:=.int .i64 ((j:Int)+1)) (s:=qch) (h:=?_);try simp only[nm0]
    refine tkx (i:=9) (v:=.int .i64 (j:Int)) (x:=fun w0 hC=>by simp[execOp,Act.eval,Act.put,go_sem,hsub,zc4 j (by omega)]) (s:=qch) (h:=?_);try simp only[nm0]
    refine tkx (i:=10) (v:=.pointer (some ⟨b,o+j*4,none⟩)) (x:=fun w0 hC=>by simp[execOp,Act.eval,Act.put,go_sem,hj0,hjn,show j<n by omega]) (s:=qch) (h:=?_);try simp only[nm0]
    refine tkx (i:=11) (v:=.agg (bhA y)) (x:=fun w0 hC=>by simp[execOp,Act.eval,Act.put,go_sem,bhA,(hC.cell (p:=⟨b,o+j*4,none⟩) hbw).trans (ry 0 _ rfl),(hC.cell (p:=⟨b,o+j*4+1,none⟩) hbw).trans (ry 1 _ rfl),(hC.cell (p:=⟨b,o+j*4+2,none⟩) hbw).trans (ry 2 _ rfl),(hC.cell (p:=⟨b,o+j*4+3,none⟩) hbw).trans (ry 3 _ rfl)]) (s:=qch) (h:=?_);try simp only[nm0]
    refine rd1 (r:=5) (h:=fun K hK=>?_);go_wp2_with fail
    rw[HG.o];refine(HK.o W x (bhStays.later_ HX.o qch)).mono ?_;rintro e W2 ⟨rfl,hb5⟩;have hS:=qch.trans (hb5.mono qch.size);clear qch hb5;refine bkk hK hS fun qch=>?_;clear hK K;try simp only[nm0]
    clear hS;refine rd1 (r:=12) (h:=fun K hK=>?_);go_wp2_with fail
    rw[HG.o];refine(HK.o _ y (bhStays.later_ HY.o qch)).mono ?_;rintro e W3 ⟨rfl,hb5⟩;have hS:=qch.trans (hb5.mono qch.size);clear qch hb5;refine bkk hK hS fun qch=>?_;clear hK K;try simp only[nm0]
    clear hS;refine tkx (i:=13) (v:=.bool false) (x:=fun w0 hC=>by first|(simp[execOp,Act.eval,Act.put,go_sem,HQ.o];done)|simp[execOp,Act.eval,Act.put,go_sem,zfv,HQ.o]) (s:=qch) (h:=?_);try simp only[nm0]
    refine wpAnyH_done (by kernel_rfl) ?_ _;have HB2:=hiD (HB.o.trans (qch.mono HB.o.size));clear qch;have HS:=hiD (zg7 (R:=(fun a b=>ltS a.name b.name)) (fun (a b c:Bx) (h1:ltS a.name b.name) (h2:ltS b.name c.name)=>(zbp h1 h2:ltS a.name c.name)) HU.o HLB.o HLA.o (of_decide_eq_true HQ.o));go_wp2_with fail
    go_roundw
    case rel=>exact⟨j+1+1,by omega,by go_num,by omega,HS.o,HB2.o⟩
    case measure=>simp[intOf];omega
  ·have hkn:¬ (k:Int)<(n:Int):=by omega
   have HS:Hid (decide (l.Pairwise (fun a b=>ltS a.name b.name))=true):=hiD (decide_eq_true (by have:=HU.o;rwa [List.take_of_length_le (by rw[HL.o.len];omega)] at this));go_wp2_with fail
   go_ret;exact⟨by rw[HS.o]<;>rfl,HB.o⟩
theorem z7d (g bp:Nat)(caps:Array Value)(p:Bx→Bool)(l:List Bx)(w:World)(x:Bh)(hg:Enters Tryz.prog g)(hc:CallP Tryz.prog g caps (fun x=>.agg (bhA x)) BhIn Bh.b l p w)(hm:Bh.b x∈l)(hx:BhIn w w.heap.size x)
 (hp:w.cell? ⟨bp,0,none⟩=some (.func (.func g) #[] caps)) :
 Calls Tryz.prog 241 #[.agg (bhA x),.pointer (some ⟨bp,0,none⟩)] w fun e w'=>e=.returned (.bool (!p (Bh.b x)))∧Below w.heap.size w w':=by
 have hb1:Below w.heap.size w (w.alloc (.cells (bhA x) 76)):=(Below.refl _ _).alloc (Nat.le_refl _) _;have CI:=hiD (hc _ x hb1 hm (bhStays.later_ hx hb1));have hp1:=(hb1.cell (p:=⟨bp,0,none⟩) (World.block_lt_of_cell? _ _ hp)).trans hp;have HB1:=hiD hb1;have HLD:Hid ((w.alloc (.cells (bhA x) 76)).rangeAt w.heap.size 0 (bhC x)):=hiD (Bk.new w 76 (bhA x)).range;have HG:=hiD hg;clear hc hx hp hb1 hg;go_enter Tryz.func241,Tryz.ntmps241
 go_wp2_with (with_reducible refine stn 5 ?_)
 refine held (wpList_load_mid rfl 76 (.tmp 2) rfl w.heap.size 0 rfl (bhC x) _ HLD.o Tryz.underlying76 rfl (by kernel_rfl) ?_);rw[zlo];go_wp2_with fail
 rw[HG.o];refine CI.o.mono ?_;rintro e w' ⟨rfl,hb2⟩;have HB2:=hiD (HB1.o.trans (hb2.mono HB1.o.size));clear hb2 CI;go_wp2_with fail
 go_ret;exact⟨rfl,HB2.o⟩
theorem z7e (most g gk:Nat)(caps:Array Value)(p:Bx→Bool)(A:Option Addr)(n c:Nat)(l:List Bx)(w:World)(hl:BoxesIn w w.heap.size A n l)(hn:n≤140737488355328)
 (hgk:Enters Tryz.prog gk) (hg:Enters Tryz.prog g) (hk:CallK Tryz.prog gk (fun x=>.agg (bhA x)) BhIn Bh.b (fun b=>.string b.name)) (hc:CallP Tryz.prog g caps (fun x=>.agg (bhA x)) BhIn Bh.b l p w) (q:Bool) (hq:jb most (fun a b=>ltS a.name b.name) p l↔q=true) :
 Calls Tryz.prog 165 #[.slice A n c,.int .i64 (most:Int),.func (.func gk) #[] #[],.func (.func g) #[] caps] w (SaysB q w):=by
 have hb1:∀ t,Below w.heap.size w (w.alloc (.cells #[.func (.func g) #[] caps] t)):=fun t=>(Below.refl _ _).alloc (Nat.le_refl _) _;have HL:=hiD hl;have HK:=hiD hk;have HC:=hiD hc;have HQ:=hiD hq;have HBB:=hiD hb1;have HG:=hiD hg;have HGK:=hiD hgk;clear hl hk hc hq hb1 hg hgk;by_cases hm:n≤most
 ·have hmb:(n:Int)≤(most:Int):=by omega
  cases hr:decide (l.Pairwise (fun a b=>ltS a.name b.name))
  ·have HR:=hiD hr
   have HF:Hid (q=false):=hiD (by cases q;rfl;exact absurd (HQ.o.2 rfl).2.2 (of_decide_eq_false HR.o));clear hr;go_enter Tryz.func165,Tryz.ntmps165
   go_wp2_with fail
   refine(zsu gk A n c l _ (HL.o.later_ bhStays (HBB.o _)) hn HGK.o HK.o).mono ?_;rintro e w' ⟨rfl,hb⟩;rw[HR.o];have HB:=hiD ((HBB.o _).trans (hb.mono (HBB.o _).size));clear hb;go_wp2_with fail
   go_ret;exact⟨by rw[HF.o]<;>rfl,HB.o⟩
  ·have HR:=hiD hr
   clear hr;go_enter Tryz.func165,Tryz.ntmps165
   go_wp2_with fail
   refine(zsu gk A n c l _ (HL.o.later_ bhStays (HBB.o _)) hn HGK.o HK.o).mono ?_;rintro e w' ⟨rfl,hb⟩;rw[HR.o];have HB:=hiD ((HBB.o _).trans (hb.mono (HBB.o _).size));have hcell:w'.cell? ⟨w.heap.size,0,none⟩=some (.func (.func g) #[] caps):=(hb.cell (p:=⟨w.heap.size,0,none⟩) (by simp)).trans ((Bk.new w _ #[.func (.func g) #[] caps]).cell 0);have HCE:=hiD hcell;clear hb hcell;go_wp2_with fail
   refine(z7c 241 #[.pointer (some ⟨w.heap.size,0,none⟩)] (fun b=>!p b) A n c l w' (HL.o.later_ bhStays HB.o) hn (enters_of Tryz.func241 (by decide) (by kernel_rfl)) ?_).mono ?_
   ·intro W x hW hx hQ
    exact z7d g w.heap.size caps p l W x HG.o (HC.o.later (HB.o.trans (hW.mono HB.o.size))) hx hQ ((hW.cell (p:=⟨w.heap.size,0,none⟩) (World.block_lt_of_cell? _ _ HCE.o)).trans HCE.o)
   ·rintro e w2 ⟨rfl,hb2⟩
    have HB2:=hiD (HB.o.trans (hb2.mono HB.o.size));have HF:Hid ((!(l.any fun b=>!p b))=q):=hiD (zg8 (by rw[HL.o.len];exact hm) (of_decide_eq_true HR.o) HQ.o);clear hb2;go_wp2_with fail
    go_ret;exact⟨ji (by simpa using HF.o),HB2.o⟩
 ·have hmb:¬ (n:Int)≤(most:Int):=by omega
  have HF:Hid (q=false):=hiD (by cases q;rfl;exact absurd (HQ.o.2 rfl).1 (by rw[HL.o.len];exact hm));go_enter Tryz.func165,Tryz.ntmps165
  go_wp2_with fail
  go_ret;exact⟨ji (by rw[HF.o]<;>first|rfl|simp[hmb]),HBB.o _⟩
theorem z7f (g:Nat)(caps:Array Value)(p:Tmb→Bool)(A:Option Addr)(n c:Nat)(l:List Tmb)(w:World)(hl:TombsIn w w.heap.size A n l)(hn:n≤140737488355328)
 (hg:Enters Tryz.prog g) (hc:CallP Tryz.prog g caps (fun x=>.agg (thA x)) ThIn Th.t l p w) :
 Calls Tryz.prog 270 #[.slice A n c,.func (.func g) #[] caps] w (IsAt l p w):=by
 have HL:=hiD hl;have HC:=hiD hc;have HG:=hiD hg;clear hl hc hg;go_enter Tryz.func270,Tryz.ntmps270
 go_wp2_with fail
 go_loopw [8] (fun i wx=>∃ k:Nat,k≤n∧i=.int .i64 (k:Int)∧(∀ b∈l.take k,p b=false)∧Below w.heap.size w wx) (fun i _=>n-(intOf i).toNat)
 case atStart=>exact⟨0,Nat.zero_le _,rfl,fun b hb=>by simp at hb,Below.refl _ _⟩
 case round =>
  obtain⟨k,hk,rfl,ha,hb⟩:=hrel;have HB:=hiD hb;have HU:=hiD ha;clear ha hb;by_cases hlt:k<n
  ·obtain⟨b,o,x,rfl,hbb,hla,htk,hrow,hin⟩:=(HL.o.below thStays HB.o (Nat.le_refl _)).at_ hlt
   have HLA:=hiD hla;have HTK:=hiD htk;have HROW:=hiD hrow;have hk0:(0:Int)≤(k:Int):=by omega
   have hkn:(k:Int)<(n:Int):=by omega
   have CI:=hiD (HC.o wr x HB.o (List.mem_of_getElem? hla) (thStays.more hin HB.o.size));clear hla htk hrow hin;go_wp2_with (with_reducible refine stn 15 ?_)
   refine held (wpList_load_mid rfl 110 (.tmp 14) rfl b (o+k*7) rfl (thC x) _ HROW.o Tryz.underlying110 rfl (by kernel_rfl) ?_);rw[zlp];go_wp2_with fail
   rw[HG.o];refine CI.o.mono ?_;rintro e w' ⟨rfl,hb2⟩;have HB2:=hiD (HB.o.trans (hb2.mono HB.o.size));clear hb2 CI;cases hok:p (Th.t x)
   ·have HS:=hiD (zg4 HU.o HTK.o hok)
    clear hok;go_wp2_with fail
    go_roundw
    case rel=>exact⟨k+1,by omega,by go_num,HS.o,HB2.o⟩
    case measure=>simp[intOf];omega
   ·have HS:=hiD (zfu HU.o HLA.o hok)
    clear hok;go_wp2_with fail
    go_ret;exact⟨(k:Int),rfl,by rw[HS.o];simp,by omega,by omega,HB2.o⟩
  ·have hkn:¬ (k:Int)<(n:Int):=by omega
   have HS:=hiD (zg5 HU.o HL.o.len hlt);go_wp2_with fail
   go_ret;exact⟨-1,rfl,by rw[HS.o];rfl,by omega,by omega,HB.o⟩
theorem z7g (g:Nat)(caps:Array Value)(p:Tmb→Bool)(A:Option Addr)(n c:Nat)(l:List Tmb)(w:World)(hl:TombsIn w w.heap.size A n l)(hn:n≤140737488355328)
 (hg:Enters Tryz.prog g) (hc:CallP Tryz.prog g caps (fun x=>.agg (thA x)) ThIn Th.t l p w) :
 Calls Tryz.prog 251 #[.slice A n c,.func (.func g) #[] caps] w (SaysB (l.any p) w):=by
 have CI:=hiD (z7f g caps p A n c l w hl hn hg hc);clear hl hc hg;go_enter Tryz.func251,Tryz.ntmps251
 go_wp2_with fail
 refine CI.o.mono ?_;rintro e w' ⟨z,rfl,hz,hz1,hz2,hb⟩;have HZ:=hiD hz;have HB:=hiD hb;clear hz hb CI;by_cases h0:0≤z
 ·have HR:Hid (l.any p=true):=hiD (by rw[← zc3];have:=HZ.o;exact decide_eq_true (by omega))
  go_wp2_with fail
  go_ret;exact⟨by rw[HR.o]<;>rfl,HB.o⟩
 ·have HR:Hid (l.any p=false):=hiD (by rw[← zc3];have:=HZ.o;exact decide_eq_false (by omega))
  go_wp2_with fail
  go_ret;exact⟨ji (by rw[HR.o]<;>first|rfl|exact decide_eq_false (by omega)),HB.o⟩
theorem zsv (g:Nat)(A:Option Addr)(n c:Nat)(l:List Tmb)(w:World)(hl:TombsIn w w.heap.size A n l)(hn:n≤140737488355328)
 (hg:Enters Tryz.prog g) (hk:CallK Tryz.prog g (fun x=>.agg (thA x)) ThIn Th.t (fun b=>.int .i64 b.id)) :
 Calls Tryz.prog 250 #[.slice A n c,.func (.func g) #[] #[]] w (SaysB (decide (l.Pairwise (fun a b=>a.id<b.id))) w):=by
 have hmx:Tryz.prog.follows .mixedOrders=true:=by kernel_rfl
 have HL:=hiD hl;have HK:=hiD hk;have HG:=hiD hg;clear hl hk hg;go_enter Tryz.func250,Tryz.ntmps250
 go_wp2_with fail
 go_loopw [5] (fun i wx=>∃ k:Nat,1≤k∧i=.int .i64 (k:Int)∧(n=0∨k≤n)∧(l.take k).Pairwise (fun a b=>a.id<b.id)∧Below w.heap.size w wx) (fun i _=>n-(intOf i).toNat)
 case atStart=>exact⟨1,Nat.le_refl _,rfl,by omega,zg6 l,Below.refl _ _⟩
 case round =>
  obtain⟨k,hk1,rfl,hkn0,ha,hb⟩:=hrel;have HB:=hiD hb;have HU:=hiD ha;clear ha hb;by_cases hlt:k<n
  ·obtain⟨j,rfl⟩:∃ j,k=j+1:=⟨k - 1,by omega⟩
   obtain⟨b,o,x,rfl,hbb,hla,htk,hrow,hin⟩:=(HL.o.below thStays HB.o (Nat.le_refl _)).at_ hlt;obtain⟨b',o',y,he,hbb',hlb,htk',hrow',hin'⟩:=(HL.o.below thStays HB.o (Nat.le_refl _)).at_ (show j<n by omega);injection he with he;injection he with e1 e2;subst e1;subst e2;have HLA:=hiD hla;have HLB:=hiD hlb;have HX:=hiD (thStays.more hin HB.o.size);have HY:=hiD (thStays.more hin' HB.o.size);have hk0:(0:Int)≤(j:Int)+1:=by omega
   have hj0:(0:Int)≤(j:Int):=by omega
   have hkn:(j:Int)+1<(n:Int):=by omega
   have hjn:(j:Int)<(n:Int):=by omega
   have hsub:(j:Int)+1-1=(j:Int):=by omega
   have hbw:b<wr.heap.size:=Nat.lt_of_lt_of_le hbb HB.o.size;have rx:=hrow;have ry:=hrow';clear hla hlb htk htk' hin hin';have HCASE:∀ q:Bool,decide (y.t.id<x.t.id)=q→Hid (decide (y.t.id<x.t.id)=q):=fun q h=>hiD h;cases hq:decide (y.t.id<x.t.id)
   ·have HQ:=HCASE _ hq
    clear hq HCASE;go_wp2_with fail
    refine wp_region_held_drew (S:=fun W'=>Below wr.heap.size wr W') hmx (Below.refl wr.heap.size wr).drew (fun qch=>?_);generalize hW0:wr.drew=W at *;clear hW0;simp only[List.size_toArray,List.length_cons,List.length_nil,Nat.reduceAdd];refine tks (i:=0) (v:=.func (.func g) #[] #[]) (s:=qch) (h:=?_);try simp only[nm0]
    refine tks (i:=1) (v:=.slice (some ⟨b,o,none⟩) n c) (s:=qch) (h:=?_);try simp only[nm0]
    refine tks (i:=2) (v:=.int .i64 ((j:Int)+1)) (s:=qch) (h:=?_);try simp only[nm0]
    refine tkx (i:=3) (v:=.pointer (some ⟨b,o+(j+1)*7,none⟩)) (x:=fun w0 hC=>by simp[execOp,Act.eval,Act.put,go_sem,hk0,hkn,hlt,show((j:Int)+1).toNat=j+1 by omega]) (s:=qch) (h:=?_);try simp only[nm0]
    refine tkx (i:=4) (v:=.agg (thA x)) (x:=fun w0 hC=>by simp[execOp,Act.eval,Act.put,go_sem,thA,(hC.cell (p:=⟨b,o+(j+1)*7,none⟩) hbw).trans (rx 0 _ rfl),(hC.cell (p:=⟨b,o+(j+1)*7+1,none⟩) hbw).trans (rx 1 _ rfl),(hC.cell (p:=⟨b,o+(j+1)*7+2,none⟩) hbw).trans (rx 2 _ rfl),(hC.cell (p:=⟨b,o+(j+1)*7+3,none⟩) hbw).trans (rx 3 _ rfl),(hC.cell (p:=⟨b,o+(j+1)*7+4,none⟩) hbw).trans (rx 4 _ rfl),(hC.cell (p:=⟨b,o+(j+1)*7+5,none⟩) hbw).trans (rx 5 _ rfl),(hC.cell (p:=⟨b,o+(j+1)*7+6,none⟩) hbw).trans (rx 6 _ rfl)]) (s:=qch) (h:=?_);try simp only[nm0]
    refine tks (i:=6) (v:=.func (.func g) #[] #[]) (s:=qch) (h:=?_);try simp only[nm0]
    refine tks (i:=7) (v:=.slice (some ⟨b,o,none⟩) n c) (s:=qch) (h:=?_);try simp only[nm0]
    refine tks (i:=8) (v:=.int .i64 ((j:Int)+1)) (s:=qch) (h:=?_);try simp only[nm0]
    refine tkx (i:=9) (v:=.int .i64 (j:Int)) (x:=fun w0 hC=>by simp[execOp,Act.eval,Act.put,go_sem,hsub,zc4 j (by omega)]) (s:=qch) (h:=?_);try simp only[nm0]
    refine tkx (i:=10) (v:=.pointer (some ⟨b,o+j*7,none⟩)) (x:=fun w0 hC=>by simp[execOp,Act.eval,Act.put,go_sem,hj0,hjn,show j<n by omega]) (s:=qch) (h:=?_);try simp only[nm0]
    refine tkx (i:=11) (v:=.agg (thA y)) (x:=fun w0 hC=>by simp[execOp,Act.eval,Act.put,go_sem,thA,(hC.cell (p:=⟨b,o+j*7,none⟩) hbw).trans (ry 0 _ rfl),(hC.cell (p:=⟨b,o+j*7+1,none⟩) hbw).trans (ry 1 _ rfl),(hC.cell (p:=⟨b,o+j*7+2,none⟩) hbw).trans (ry 2 _ rfl),(hC.cell (p:=⟨b,o+j*7+3,none⟩) hbw).trans (ry 3 _ rfl),(hC.cell (p:=⟨b,o+j*7+4,none⟩) hbw).trans (ry 4 _ rfl),(hC.cell (p:=⟨b,o+j*7+5,none⟩) hbw).trans (ry 5 _ rfl),(hC.cell (p:=⟨b,o+j*7+6,none⟩) hbw).trans (ry 6 _ rfl)]) (s:=qch) (h:=?_);try simp only[nm0]
    refine rd1 (r:=5) (h:=fun K hK=>?_);go_wp2_with fail
    rw[HG.o];refine(HK.o W x (thStays.later_ HX.o qch)).mono ?_;rintro e W2 ⟨rfl,hb5⟩;have hS:=qch.trans (hb5.mono qch.size);clear qch hb5;refine bkk hK hS fun qch=>?_;clear hK K;try simp only[nm0]
    clear hS;refine rd1 (r:=12) (h:=fun K hK=>?_);go_wp2_with fail
    rw[HG.o];refine(HK.o _ y (thStays.later_ HY.o qch)).mono ?_;rintro e W3 ⟨rfl,hb5⟩;have hS:=qch.trans (hb5.mono qch.size);clear qch hb5;refine bkk hK hS fun qch=>?_;clear hK K;try simp only[nm0]
    clear hS;refine tkx (i:=13) (v:=.bool true) (x:=fun w0 hC=>by simp[execOp,Act.eval,Act.put,go_sem];exact Int.not_lt.1 (of_decide_eq_false HQ.o)) (s:=qch) (h:=?_);try simp only[nm0]
    refine wpAnyH_done (by kernel_rfl) ?_ _;have HB2:=hiD (HB.o.trans (qch.mono HB.o.size));clear qch;have HS:=hiD (decide_eq_false (zfh (R:=(fun a b=>a.id<b.id)) HLB.o HLA.o (of_decide_eq_false HQ.o)));go_wp2_with fail
    go_ret;exact⟨by rw[HS.o]<;>rfl,HB2.o⟩
   ·have HQ:=HCASE _ hq
    clear hq HCASE;go_wp2_with fail
    refine wp_region_held_drew (S:=fun W'=>Below wr.heap.size wr W') hmx (Below.refl wr.heap.size wr).drew (fun qch=>?_);generalize hW0:wr.drew=W at *;clear hW0;simp only[List.size_toArray,List.length_cons,List.length_nil,Nat.reduceAdd];refine tks (i:=0) (v:=.func (.func g) #[] #[]) (s:=qch) (h:=?_);try simp only[nm0]
    refine tks (i:=1) (v:=.slice (some ⟨b,o,none⟩) n c) (s:=qch) (h:=?_);try simp only[nm0]
    refine tks (i:=2) (v:=.int .i64 ((j:Int)+1)) (s:=qch) (h:=?_);try simp only[nm0]
    refine tkx (i:=3) (v:=.pointer (some ⟨b,o+(j+1)*7,none⟩)) (x:=fun w0 hC=>by simp[execOp,Act.eval,Act.put,go_sem,hk0,hkn,hlt,show((j:Int)+1).toNat=j+1 by omega]) (s:=qch) (h:=?_);try simp only[nm0]
    refine tkx (i:=4) (v:=.agg (thA x)) (x:=fun w0 hC=>by simp[execOp,Act.eval,Act.put,go_sem,thA,(hC.cell (p:=⟨b,o+(j+1)*7,none⟩) hbw).trans (rx 0 _ rfl),(hC.cell (p:=⟨b,o+(j+1)*7+1,none⟩) hbw).trans (rx 1 _ rfl),(hC.cell (p:=⟨b,o+(j+1)*7+2,none⟩) hbw).trans (rx 2 _ rfl),(hC.cell (p:=⟨b,o+(j+1)*7+3,none⟩) hbw).trans (rx 3 _ rfl),(hC.cell (p:=⟨b,o+(j+1)*7+4,none⟩) hbw).trans (rx 4 _ rfl),(hC.cell (p:=⟨b,o+(j+1)*7+5,none⟩) hbw).trans (rx 5 _ rfl),(hC.cell (p:=⟨b,o+(j+1)*7+6,none⟩) hbw).trans (rx 6 _ rfl)]) (s:=qch) (h:=?_);try simp only[nm0]
    refine tks (i:=6) (v:=.func (.func g) #[] #[]) (s:=qch) (h:=?_);try simp only[nm0]
    refine tks (i:=7) (v:=.slice (some ⟨b,o,none⟩) n c) (s:=qch) (h:=?_);try simp only[nm0]
    refine tks (i:=8) (v:=.int .i64 ((j:Int)+1)) (s:=qch) (h:=?_);try simp only[nm0]
    refine tkx (i:=9) (v:=.int .i64 (j:Int)) (x:=fun w0 hC=>by simp[execOp,Act.eval,Act.put,go_sem,hsub,zc4 j (by omega)]) (s:=qch) (h:=?_);try simp only[nm0]
    refine tkx (i:=10) (v:=.pointer (some ⟨b,o+j*7,none⟩)) (x:=fun w0 hC=>by simp[execOp,Act.eval,Act.put,go_sem,hj0,hjn,show j<n by omega]) (s:=qch) (h:=?_);try simp only[nm0]
    refine tkx (i:=11) (v:=.agg (thA y)) (x:=fun w0 hC=>by simp[execOp,Act.eval,Act.put,go_sem,thA,(hC.cell (p:=⟨b,o+j*7,none⟩) hbw).trans (ry 0 _ rfl),(hC.cell (p:=⟨b,o+j*7+1,none⟩) hbw).trans (ry 1 _ rfl),(hC.cell (p:=⟨b,o+j*7+2,none⟩) hbw).trans (ry 2 _ rfl),(hC.cell (p:=⟨b,o+j*7+3,none⟩) hbw).trans (ry 3 _ rfl),(hC.cell (p:=⟨b,o+j*7+4,none⟩) hbw).trans (ry 4 _ rfl),(hC.cell (p:=⟨b,o+j*7+5,none⟩) hbw).trans (ry 5 _ rfl),(hC.cell (p:=⟨b,o+j*7+6,none⟩) hbw).trans (ry 6 _ rfl)]) (s:=qch) (h:=?_);try simp only[nm0]
    refine rd1 (r:=5) (h:=fun K hK=>?_);go_wp2_with fail
    rw[HG.o];refine(HK.o W x (thStays.later_ HX.o qch)).mono ?_;rintro e W2 ⟨rfl,hb5⟩;have hS:=qch.trans (hb5.mono qch.size);clear qch hb5;refine bkk hK hS fun qch=>?_;clear hK K;try simp only[nm0]
    clear hS;refine rd1 (r:=12) (h:=fun K hK=>?_);go_wp2_with fail
    rw[HG.o];refine(HK.o _ y (thStays.later_ HY.o qch)).mono ?_;rintro e W3 ⟨rfl,hb5⟩;have hS:=qch.trans (hb5.mono qch.size);clear qch hb5;refine bkk hK hS fun qch=>?_;clear hK K;try simp only[nm0]
    clear hS;refine tkx (i:=13) (v:=.bool false) (x:=fun w0 hC=>by simp[execOp,Act.eval,Act.put,go_sem];exact of_decide_eq_true HQ.o) (s:=qch) (h:=?_);try simp only[nm0]
    refine wpAnyH_done (by kernel_rfl) ?_ _;have HB2:=hiD (HB.o.trans (qch.mono HB.o.size));clear qch;have HS:=hiD (zg7 (R:=(fun a b=>a.id<b.id)) (fun _ _ _ h1 h2=>Int.lt_trans h1 h2) HU.o HLB.o HLA.o (of_decide_eq_true HQ.o));go_wp2_with fail
    go_roundw
    case rel=>exact⟨j+1+1,by omega,by go_num,by omega,HS.o,HB2.o⟩
    case measure=>simp[intOf];omega
  ·have hkn:¬ (k:Int)<(n:Int):=by omega
   have HS:Hid (decide (l.Pairwise (fun a b=>a.id<b.id))=true):=hiD (decide_eq_true (by have:=HU.o;rwa [List.take_of_length_le (by rw[HL.o.len];omega)] at this));go_wp2_with fail
   go_ret;exact⟨by rw[HS.o]<;>rfl,HB.o⟩
theorem z7h (g bp:Nat)(caps:Array Value)(p:Tmb→Bool)(l:List Tmb)(w:World)(x:Th)(hg:Enters Tryz.prog g)(hc:CallP Tryz.prog g caps (fun x=>.agg (thA x)) ThIn Th.t l p w)(hm:Th.t x∈l)(hx:ThIn w w.heap.size x)
 (hp:w.cell? ⟨bp,0,none⟩=some (.func (.func g) #[] caps)) :
 Calls Tryz.prog 252 #[.agg (thA x),.pointer (some ⟨bp,0,none⟩)] w fun e w'=>e=.returned (.bool (!p (Th.t x)))∧Below w.heap.size w w':=by
 have hb1:Below w.heap.size w (w.alloc (.cells (thA x) 110)):=(Below.refl _ _).alloc (Nat.le_refl _) _;have CI:=hiD (hc _ x hb1 hm (thStays.later_ hx hb1));have hp1:=(hb1.cell (p:=⟨bp,0,none⟩) (World.block_lt_of_cell? _ _ hp)).trans hp;have HB1:=hiD hb1;have HLD:Hid ((w.alloc (.cells (thA x) 110)).rangeAt w.heap.size 0 (thC x)):=hiD (Bk.new w 110 (thA x)).range;have HG:=hiD hg;clear hc hx hp hb1 hg;go_enter Tryz.func252,Tryz.ntmps252
 go_wp2_with (with_reducible refine stn 5 ?_)
 refine held (wpList_load_mid rfl 110 (.tmp 2) rfl w.heap.size 0 rfl (thC x) _ HLD.o Tryz.underlying110 rfl (by kernel_rfl) ?_);rw[zlp];go_wp2_with fail
 rw[HG.o];refine CI.o.mono ?_;rintro e w' ⟨rfl,hb2⟩;have HB2:=hiD (HB1.o.trans (hb2.mono HB1.o.size));clear hb2 CI;go_wp2_with fail
 go_ret;exact⟨rfl,HB2.o⟩
theorem z7i (most g gk:Nat)(caps:Array Value)(p:Tmb→Bool)(A:Option Addr)(n c:Nat)(l:List Tmb)(w:World)(hl:TombsIn w w.heap.size A n l)(hn:n≤140737488355328)
 (hgk:Enters Tryz.prog gk) (hg:Enters Tryz.prog g) (hk:CallK Tryz.prog gk (fun x=>.agg (thA x)) ThIn Th.t (fun b=>.int .i64 b.id)) (hc:CallP Tryz.prog g caps (fun x=>.agg (thA x)) ThIn Th.t l p w) (q:Bool) (hq:jb most (fun a b=>a.id<b.id) p l↔q=true) :
 Calls Tryz.prog 177 #[.slice A n c,.int .i64 (most:Int),.func (.func gk) #[] #[],.func (.func g) #[] caps] w (SaysB q w):=by
 have hb1:∀ t,Below w.heap.size w (w.alloc (.cells #[.func (.func g) #[] caps] t)):=fun t=>(Below.refl _ _).alloc (Nat.le_refl _) _;have HL:=hiD hl;have HK:=hiD hk;have HC:=hiD hc;have HQ:=hiD hq;have HBB:=hiD hb1;have HG:=hiD hg;have HGK:=hiD hgk;clear hl hk hc hq hb1 hg hgk;by_cases hm:n≤most
 ·have hmb:(n:Int)≤(most:Int):=by omega
  cases hr:decide (l.Pairwise (fun a b=>a.id<b.id))
  ·have HR:=hiD hr
   have HF:Hid (q=false):=hiD (by cases q;rfl;exact absurd (HQ.o.2 rfl).2.2 (of_decide_eq_false HR.o));clear hr;go_enter Tryz.func177,Tryz.ntmps177
   go_wp2_with fail
   refine(zsv gk A n c l _ (HL.o.later_ thStays (HBB.o _)) hn HGK.o HK.o).mono ?_;rintro e w' ⟨rfl,hb⟩;rw[HR.o];have HB:=hiD ((HBB.o _).trans (hb.mono (HBB.o _).size));clear hb;go_wp2_with fail
   go_ret;exact⟨by rw[HF.o]<;>rfl,HB.o⟩
  ·have HR:=hiD hr
   clear hr;go_enter Tryz.func177,Tryz.ntmps177
   go_wp2_with fail
   refine(zsv gk A n c l _ (HL.o.later_ thStays (HBB.o _)) hn HGK.o HK.o).mono ?_;rintro e w' ⟨rfl,hb⟩;rw[HR.o];have HB:=hiD ((HBB.o _).trans (hb.mono (HBB.o _).size));have hcell:w'.cell? ⟨w.heap.size,0,none⟩=some (.func (.func g) #[] caps):=(hb.cell (p:=⟨w.heap.size,0,none⟩) (by simp)).trans ((Bk.new w _ #[.func (.func g) #[] caps]).cell 0);have HCE:=hiD hcell;clear hb hcell;go_wp2_with fail
   refine(z7g 252 #[.pointer (some ⟨w.heap.size,0,none⟩)] (fun b=>!p b) A n c l w' (HL.o.later_ thStays HB.o) hn (enters_of Tryz.func252 (by decide) (by kernel_rfl)) ?_).mono ?_
   ·intro W x hW hx hQ
    exact z7h g w.heap.size caps p l W x HG.o (HC.o.later (HB.o.trans (hW.mono HB.o.size))) hx hQ ((hW.cell (p:=⟨w.heap.size,0,none⟩) (World.block_lt_of_cell? _ _ HCE.o)).trans HCE.o)
   ·rintro e w2 ⟨rfl,hb2⟩
    have HB2:=hiD (HB.o.trans (hb2.mono HB.o.size));have HF:Hid ((!(l.any fun b=>!p b))=q):=hiD (zg8 (by rw[HL.o.len];exact hm) (of_decide_eq_true HR.o) HQ.o);clear hb2;go_wp2_with fail
    go_ret;exact⟨ji (by simpa using HF.o),HB2.o⟩
 ·have hmb:¬ (n:Int)≤(most:Int):=by omega
  have HF:Hid (q=false):=hiD (by cases q;rfl;exact absurd (HQ.o.2 rfl).1 (by rw[HL.o.len];exact hm));go_enter Tryz.func177,Tryz.ntmps177
  go_wp2_with fail
  go_ret;exact⟨ji (by rw[HF.o]<;>first|rfl|simp[hmb]),HBB.o _⟩
theorem z7j (g:Nat)(caps:Array Value)(p:Hol→Bool)(A:Option Addr)(n c:Nat)(l:List Hol)(w:World)(hl:HolsIn w w.heap.size A n l)(hn:n≤140737488355328)
 (hg:Enters Tryz.prog g) (hc:CallP Tryz.prog g caps (fun x=>.agg (hhA x)) HhIn Hh.hol l p w) :
 Calls Tryz.prog 211 #[.slice A n c,.func (.func g) #[] caps] w (IsAt l p w):=by
 have HL:=hiD hl;have HC:=hiD hc;have HG:=hiD hg;clear hl hc hg;go_enter Tryz.func211,Tryz.ntmps211
 go_wp2_with fail
 go_loopw [8] (fun i wx=>∃ k:Nat,k≤n∧i=.int .i64 (k:Int)∧(∀ b∈l.take k,p b=false)∧Below w.heap.size w wx) (fun i _=>n-(intOf i).toNat)
 case atStart=>exact⟨0,Nat.zero_le _,rfl,fun b hb=>by simp at hb,Below.refl _ _⟩
 case round =>
  obtain⟨k,hk,rfl,ha,hb⟩:=hrel;have HB:=hiD hb;have HU:=hiD ha;clear ha hb;by_cases hlt:k<n
  ·obtain⟨b,o,x,rfl,hbb,hla,htk,hrow,hin⟩:=(HL.o.below hhStays HB.o (Nat.le_refl _)).at_ hlt
   have HLA:=hiD hla;have HTK:=hiD htk;have HROW:=hiD hrow;have hk0:(0:Int)≤(k:Int):=by omega
   have hkn:(k:Int)<(n:Int):=by omega
   have CI:=hiD (HC.o wr x HB.o (List.mem_of_getElem? hla) (hhStays.more hin HB.o.size));clear hla htk hrow hin;go_wp2_with (with_reducible refine stn 15 ?_)
   refine held (wpList_load_mid rfl 78 (.tmp 14) rfl b (o+k*3) rfl (hhC x) _ HROW.o Tryz.underlying78 rfl (by kernel_rfl) ?_);rw[zlu];go_wp2_with fail
   rw[HG.o];refine CI.o.mono ?_;rintro e w' ⟨rfl,hb2⟩;have HB2:=hiD (HB.o.trans (hb2.mono HB.o.size));clear hb2 CI;cases hok:p (Hh.hol x)
   ·have HS:=hiD (zg4 HU.o HTK.o hok)
    clear hok;go_wp2_with fail
    go_roundw
    case rel=>exact⟨k+1,by omega,by go_num,HS.o,HB2.o⟩
    case measure=>simp[intOf];omega
   ·have HS:=hiD (zfu HU.o HLA.o hok)
    clear hok;go_wp2_with fail
    go_ret;exact⟨(k:Int),rfl,by rw[HS.o];simp,by omega,by omega,HB2.o⟩
  ·have hkn:¬ (k:Int)<(n:Int):=by omega
   have HS:=hiD (zg5 HU.o HL.o.len hlt);go_wp2_with fail
   go_ret;exact⟨-1,rfl,by rw[HS.o];rfl,by omega,by omega,HB.o⟩
theorem z7k (g:Nat)(caps:Array Value)(p:Hol→Bool)(A:Option Addr)(n c:Nat)(l:List Hol)(w:World)(hl:HolsIn w w.heap.size A n l)(hn:n≤140737488355328)
 (hg:Enters Tryz.prog g) (hc:CallP Tryz.prog g caps (fun x=>.agg (hhA x)) HhIn Hh.hol l p w) :
 Calls Tryz.prog 254 #[.slice A n c,.func (.func g) #[] caps] w (SaysB (l.any p) w):=by
 have CI:=hiD (z7j g caps p A n c l w hl hn hg hc);clear hl hc hg;go_enter Tryz.func254,Tryz.ntmps254
 go_wp2_with fail
 refine CI.o.mono ?_;rintro e w' ⟨z,rfl,hz,hz1,hz2,hb⟩;have HZ:=hiD hz;have HB:=hiD hb;clear hz hb CI;by_cases h0:0≤z
 ·have HR:Hid (l.any p=true):=hiD (by rw[← zc3];have:=HZ.o;exact decide_eq_true (by omega))
  go_wp2_with fail
  go_ret;exact⟨by rw[HR.o]<;>rfl,HB.o⟩
 ·have HR:Hid (l.any p=false):=hiD (by rw[← zc3];have:=HZ.o;exact decide_eq_false (by omega))
  go_wp2_with fail
  go_ret;exact⟨ji (by rw[HR.o]<;>first|rfl|exact decide_eq_false (by omega)),HB.o⟩
theorem zsw (g:Nat)(A:Option Addr)(n c:Nat)(l:List Hol)(w:World)(hl:HolsIn w w.heap.size A n l)(hn:n≤140737488355328)
 (hg:Enters Tryz.prog g) (hk:CallK Tryz.prog g (fun x=>.agg (hhA x)) HhIn Hh.hol (fun b=>.int .i64 b.id)) :
 Calls Tryz.prog 253 #[.slice A n c,.func (.func g) #[] #[]] w (SaysB (decide (l.Pairwise (fun a b=>a.id<b.id))) w):=by
 have hmx:Tryz.prog.follows .mixedOrders=true:=by kernel_rfl
 have HL:=hiD hl;have HK:=hiD hk;have HG:=hiD hg;clear hl hk hg;go_enter Tryz.func253,Tryz.ntmps253
 go_wp2_with fail
 go_loopw [5] (fun i wx=>∃ k:Nat,1≤k∧i=.int .i64 (k:Int)∧(n=0∨k≤n)∧(l.take k).Pairwise (fun a b=>a.id<b.id)∧Below w.heap.size w wx) (fun i _=>n-(intOf i).toNat)
 case atStart=>exact⟨1,Nat.le_refl _,rfl,by omega,zg6 l,Below.refl _ _⟩
 case round =>
  obtain⟨k,hk1,rfl,hkn0,ha,hb⟩:=hrel;have HB:=hiD hb;have HU:=hiD ha;clear ha hb;by_cases hlt:k<n
  ·obtain⟨j,rfl⟩:∃ j,k=j+1:=⟨k - 1,by omega⟩
   obtain⟨b,o,x,rfl,hbb,hla,htk,hrow,hin⟩:=(HL.o.below hhStays HB.o (Nat.le_refl _)).at_ hlt;obtain⟨b',o',y,he,hbb',hlb,htk',hrow',hin'⟩:=(HL.o.below hhStays HB.o (Nat.le_refl _)).at_ (show j<n by omega);injection he with he;injection he with e1 e2;subst e1;subst e2;have HLA:=hiD hla;have HLB:=hiD hlb;have HX:=hiD (hhStays.more hin HB.o.size);have HY:=hiD (hhStays.more hin' HB.o.size);have hk0:(0:Int)≤(j:Int)+1:=by omega
   have hj0:(0:Int)≤(j:Int):=by omega
   have hkn:(j:Int)+1<(n:Int):=by omega
   have hjn:(j:Int)<(n:Int):=by omega
   have hsub:(j:Int)+1-1=(j:Int):=by omega
   have hbw:b<wr.heap.size:=Nat.lt_of_lt_of_le hbb HB.o.size;have rx:=hrow;have ry:=hrow';clear hla hlb htk htk' hin hin';have HCASE:∀ q:Bool,decide (y.hol.id<x.hol.id)=q→Hid (decide (y.hol.id<x.hol.id)=q):=fun q h=>hiD h;cases hq:decide (y.hol.id<x.hol.id)
   ·have HQ:=HCASE _ hq
    clear hq HCASE;go_wp2_with fail
    refine wp_region_held_drew (S:=fun W'=>Below wr.heap.size wr W') hmx (Below.refl wr.heap.size wr).drew (fun qch=>?_);generalize hW0:wr.drew=W at *;clear hW0;simp only[List.size_toArray,List.length_cons,List.length_nil,Nat.reduceAdd];refine tks (i:=0) (v:=.func (.func g) #[] #[]) (s:=qch) (h:=?_);try simp only[nm0]
    refine tks (i:=1) (v:=.slice (some ⟨b,o,none⟩) n c) (s:=qch) (h:=?_);try simp only[nm0]
    refine tks (i:=2) (v:=.int .i64 ((j:Int)+1)) (s:=qch) (h:=?_);try simp only[nm0]
    refine tkx (i:=3) (v:=.pointer (some ⟨b,o+(j+1)*3,none⟩)) (x:=fun w0 hC=>by simp[execOp,Act.eval,Act.put,go_sem,hk0,hkn,hlt,show((j:Int)+1).toNat=j+1 by omega]) (s:=qch) (h:=?_);try simp only[nm0]
    refine tkx (i:=4) (v:=.agg (hhA x)) (x:=fun w0 hC=>by simp[execOp,Act.eval,Act.put,go_sem,hhA,(hC.cell (p:=⟨b,o+(j+1)*3,none⟩) hbw).trans (rx 0 _ rfl),(hC.cell (p:=⟨b,o+(j+1)*3+1,none⟩) hbw).trans (rx 1 _ rfl),(hC.cell (p:=⟨b,o+(j+1)*3+2,none⟩) hbw).trans (rx 2 _ rfl)]) (s:=qch) (h:=?_);try simp only[nm0]
    refine tks (i:=6) (v:=.func (.func g) #[] #[]) (s:=qch) (h:=?_);try simp only[nm0]
    refine tks (i:=7) (v:=.slice (some ⟨b,o,none⟩) n c) (s:=qch) (h:=?_);try simp only[nm0]
    refine tks (i:=8) (v:=.int .i64 ((j:Int)+1)) (s:=qch) (h:=?_);try simp only[nm0]
    refine tkx (i:=9) (v:=.int .i64 (j:Int)) (x:=fun w0 hC=>by simp[execOp,Act.eval,Act.put,go_sem,hsub,zc4 j (by omega)]) (s:=qch) (h:=?_);try simp only[nm0]
    refine tkx (i:=10) (v:=.pointer (some ⟨b,o+j*3,none⟩)) (x:=fun w0 hC=>by simp[execOp,Act.eval,Act.put,go_sem,hj0,hjn,show j<n by omega]) (s:=qch) (h:=?_);try simp only[nm0]
    refine tkx (i:=11) (v:=.agg (hhA y)) (x:=fun w0 hC=>by simp[execOp,Act.eval,Act.put,go_sem,hhA,(hC.cell (p:=⟨b,o+j*3,none⟩) hbw).trans (ry 0 _ rfl),(hC.cell (p:=⟨b,o+j*3+1,none⟩) hbw).trans (ry 1 _ rfl),(hC.cell (p:=⟨b,o+j*3+2,none⟩) hbw).trans (ry 2 _ rfl)]) (s:=qch) (h:=?_);try simp only[nm0]
    refine rd1 (r:=5) (h:=fun K hK=>?_);go_wp2_with fail
    rw[HG.o];refine(HK.o W x (hhStays.later_ HX.o qch)).mono ?_;rintro e W2 ⟨rfl,hb5⟩;have hS:=qch.trans (hb5.mono qch.size);clear qch hb5;refine bkk hK hS fun qch=>?_;clear hK K;try simp only[nm0]
    clear hS;refine rd1 (r:=12) (h:=fun K hK=>?_);go_wp2_with fail
    rw[HG.o];refine(HK.o _ y (hhStays.later_ HY.o qch)).mono ?_;rintro e W3 ⟨rfl,hb5⟩;have hS:=qch.trans (hb5.mono qch.size);clear qch hb5;refine bkk hK hS fun qch=>?_;clear hK K;try simp only[nm0]
    clear hS;refine tkx (i:=13) (v:=.bool true) (x:=fun w0 hC=>by simp[execOp,Act.eval,Act.put,go_sem];exact Int.not_lt.1 (of_decide_eq_false HQ.o)) (s:=qch) (h:=?_);try simp only[nm0]
    refine wpAnyH_done (by kernel_rfl) ?_ _;have HB2:=hiD (HB.o.trans (qch.mono HB.o.size));clear qch;have HS:=hiD (decide_eq_false (zfh (R:=(fun a b=>a.id<b.id)) HLB.o HLA.o (of_decide_eq_false HQ.o)));go_wp2_with fail
    go_ret;exact⟨by rw[HS.o]<;>rfl,HB2.o⟩
   ·have HQ:=HCASE _ hq
    clear hq HCASE;go_wp2_with fail
    refine wp_region_held_drew (S:=fun W'=>Below wr.heap.size wr W') hmx (Below.refl wr.heap.size wr).drew (fun qch=>?_);generalize hW0:wr.drew=W at *;clear hW0;simp only[List.size_toArray,List.length_cons,List.length_nil,Nat.reduceAdd];refine tks (i:=0) (v:=.func (.func g) #[] #[]) (s:=qch) (h:=?_);try simp only[nm0]
    refine tks (i:=1) (v:=.slice (some ⟨b,o,none⟩) n c) (s:=qch) (h:=?_);try simp only[nm0]
    refine tks (i:=2) (v:=.int .i64 ((j:Int)+1)) (s:=qch) (h:=?_);try simp only[nm0]
    refine tkx (i:=3) (v:=.pointer (some ⟨b,o+(j+1)*3,none⟩)) (x:=fun w0 hC=>by simp[execOp,Act.eval,Act.put,go_sem,hk0,hkn,hlt,show((j:Int)+1).toNat=j+1 by omega]) (s:=qch) (h:=?_);try simp only[nm0]
    refine tkx (i:=4) (v:=.agg (hhA x)) (x:=fun w0 hC=>by simp[execOp,Act.eval,Act.put,go_sem,hhA,(hC.cell (p:=⟨b,o+(j+1)*3,none⟩) hbw).trans (rx 0 _ rfl),(hC.cell (p:=⟨b,o+(j+1)*3+1,none⟩) hbw).trans (rx 1 _ rfl),(hC.cell (p:=⟨b,o+(j+1)*3+2,none⟩) hbw).trans (rx 2 _ rfl)]) (s:=qch) (h:=?_);try simp only[nm0]
    refine tks (i:=6) (v:=.func (.func g) #[] #[]) (s:=qch) (h:=?_);try simp only[nm0]
    refine tks (i:=7) (v:=.slice (some ⟨b,o,none⟩) n c) (s:=qch) (h:=?_);try simp only[nm0]
    refine tks (i:=8) (v:=.int .i64 ((j:Int)+1)) (s:=qch) (h:=?_);try simp only[nm0]
    refine tkx (i:=9) (v:=.int .i64 (j:Int)) (x:=fun w0 hC=>by simp[execOp,Act.eval,Act.put,go_sem,hsub,zc4 j (by omega)]) (s:=qch) (h:=?_);try simp only[nm0]
    refine tkx (i:=10) (v:=.pointer (some ⟨b,o+j*3,none⟩)) (x:=fun w0 hC=>by simp[execOp,Act.eval,Act.put,go_sem,hj0,hjn,show j<n by omega]) (s:=qch) (h:=?_);try simp only[nm0]
    refine tkx (i:=11) (v:=.agg (hhA y)) (x:=fun w0 hC=>by simp[execOp,Act.eval,Act.put,go_sem,hhA,(hC.cell (p:=⟨b,o+j*3,none⟩) hbw).trans (ry 0 _ rfl),(hC.cell (p:=⟨b,o+j*3+1,none⟩) hbw).trans (ry 1 _ rfl),(hC.cell (p:=⟨b,o+j*3+2,none⟩) hbw).trans (ry 2 _ rfl)]) (s:=qch) (h:=?_);try simp only[nm0]
    refine rd1 (r:=5) (h:=fun K hK=>?_);go_wp2_with fail
    rw[HG.o];refine(HK.o W x (hhStays.later_ HX.o qch)).mono ?_;rintro e W2 ⟨rfl,hb5⟩;have hS:=qch.trans (hb5.mono qch.size);clear qch hb5;refine bkk hK hS fun qch=>?_;clear hK K;try simp only[nm0]
    clear hS;refine rd1 (r:=12) (h:=fun K hK=>?_);go_wp2_with fail
    rw[HG.o];refine(HK.o _ y (hhStays.later_ HY.o qch)).mono ?_;rintro e W3 ⟨rfl,hb5⟩;have hS:=qch.trans (hb5.mono qch.size);clear qch hb5;refine bkk hK hS fun qch=>?_;clear hK K;try simp only[nm0]
    clear hS;refine tkx (i:=13) (v:=.bool false) (x:=fun w0 hC=>by simp[execOp,Act.eval,Act.put,go_sem];exact of_decide_eq_true HQ.o) (s:=qch) (h:=?_);try simp only[nm0]
    refine wpAnyH_done (by kernel_rfl) ?_ _;have HB2:=hiD (HB.o.trans (qch.mono HB.o.size));clear qch;have HS:=hiD (zg7 (R:=(fun a b=>a.id<b.id)) (fun _ _ _ h1 h2=>Int.lt_trans h1 h2) HU.o HLB.o HLA.o (of_decide_eq_true HQ.o));go_wp2_with fail
    go_roundw
    case rel=>exact⟨j+1+1,by omega,by go_num,by omega,HS.o,HB2.o⟩
    case measure=>simp[intOf];omega
  ·have hkn:¬ (k:Int)<(n:Int):=by omega
   have HS:Hid (decide (l.Pairwise (fun a b=>a.id<b.id))=true):=hiD (decide_eq_true (by have:=HU.o;rwa [List.take_of_length_le (by rw[HL.o.len];omega)] at this));go_wp2_with fail
   go_ret;exact⟨by rw[HS.o]<;>rfl,HB.o⟩
theorem z7l (g bp:Nat)(caps:Array Value)(p:Hol→Bool)(l:List Hol)(w:World)(x:Hh)(hg:Enters Tryz.prog g)(hc:CallP Tryz.prog g caps (fun x=>.agg (hhA x)) HhIn Hh.hol l p w)(hm:Hh.hol x∈l)(hx:HhIn w w.heap.size x)
 (hp:w.cell? ⟨bp,0,none⟩=some (.func (.func g) #[] caps)) :
 Calls Tryz.prog 255 #[.agg (hhA x),.pointer (some ⟨bp,0,none⟩)] w fun e w'=>e=.returned (.bool (!p (Hh.hol x)))∧Below w.heap.size w w':=by
 have hb1:Below w.heap.size w (w.alloc (.cells (hhA x) 78)):=(Below.refl _ _).alloc (Nat.le_refl _) _;have CI:=hiD (hc _ x hb1 hm (hhStays.later_ hx hb1));have hp1:=(hb1.cell (p:=⟨bp,0,none⟩) (World.block_lt_of_cell? _ _ hp)).trans hp;have HB1:=hiD hb1;have HLD:Hid ((w.alloc (.cells (hhA x) 78)).rangeAt w.heap.size 0 (hhC x)):=hiD (Bk.new w 78 (hhA x)).range;have HG:=hiD hg;clear hc hx hp hb1 hg;go_enter Tryz.func255,Tryz.ntmps255
 go_wp2_with (with_reducible refine stn 5 ?_)
 refine held (wpList_load_mid rfl 78 (.tmp 2) rfl w.heap.size 0 rfl (hhC x) _ HLD.o Tryz.underlying78 rfl (by kernel_rfl) ?_);rw[zlu];go_wp2_with fail
 rw[HG.o];refine CI.o.mono ?_;rintro e w' ⟨rfl,hb2⟩;have HB2:=hiD (HB1.o.trans (hb2.mono HB1.o.size));clear hb2 CI;go_wp2_with fail
 go_ret;exact⟨rfl,HB2.o⟩
theorem z7m (most g gk:Nat)(caps:Array Value)(p:Hol→Bool)(A:Option Addr)(n c:Nat)(l:List Hol)(w:World)(hl:HolsIn w w.heap.size A n l)(hn:n≤140737488355328)
 (hgk:Enters Tryz.prog gk) (hg:Enters Tryz.prog g) (hk:CallK Tryz.prog gk (fun x=>.agg (hhA x)) HhIn Hh.hol (fun b=>.int .i64 b.id)) (hc:CallP Tryz.prog g caps (fun x=>.agg (hhA x)) HhIn Hh.hol l p w) (q:Bool) (hq:jb most (fun a b=>a.id<b.id) p l↔q=true) :
 Calls Tryz.prog 180 #[.slice A n c,.int .i64 (most:Int),.func (.func gk) #[] #[],.func (.func g) #[] caps] w (SaysB q w):=by
 have hb1:∀ t,Below w.heap.size w (w.alloc (.cells #[.func (.func g) #[] caps] t)):=fun t=>(Below.refl _ _).alloc (Nat.le_refl _) _;have HL:=hiD hl;have HK:=hiD hk;have HC:=hiD hc;have HQ:=hiD hq;have HBB:=hiD hb1;have HG:=hiD hg;have HGK:=hiD hgk;clear hl hk hc hq hb1 hg hgk;by_cases hm:n≤most
 ·have hmb:(n:Int)≤(most:Int):=by omega
  cases hr:decide (l.Pairwise (fun a b=>a.id<b.id))
  ·have HR:=hiD hr
   have HF:Hid (q=false):=hiD (by cases q;rfl;exact absurd (HQ.o.2 rfl).2.2 (of_decide_eq_false HR.o));clear hr;go_enter Tryz.func180,Tryz.ntmps180
   go_wp2_with fail
   refine(zsw gk A n c l _ (HL.o.later_ hhStays (HBB.o _)) hn HGK.o HK.o).mono ?_;rintro e w' ⟨rfl,hb⟩;rw[HR.o];have HB:=hiD ((HBB.o _).trans (hb.mono (HBB.o _).size));clear hb;go_wp2_with fail
   go_ret;exact⟨by rw[HF.o]<;>rfl,HB.o⟩
  ·have HR:=hiD hr
   clear hr;go_enter Tryz.func180,Tryz.ntmps180
   go_wp2_with fail
   refine(zsw gk A n c l _ (HL.o.later_ hhStays (HBB.o _)) hn HGK.o HK.o).mono ?_;rintro e w' ⟨rfl,hb⟩;rw[HR.o];have HB:=hiD ((HBB.o _).trans (hb.mono (HBB.o _).size));have hcell:w'.cell? ⟨w.heap.size,0,none⟩=some (.func (.func g) #[] caps):=(hb.cell (p:=⟨w.heap.size,0,none⟩) (by simp)).trans ((Bk.new w _ #[.func (.func g) #[] caps]).cell 0);have HCE:=hiD hcell;clear hb hcell;go_wp2_with fail
   refine(z7k 255 #[.pointer (some ⟨w.heap.size,0,none⟩)] (fun b=>!p b) A n c l w' (HL.o.later_ hhStays HB.o) hn (enters_of Tryz.func255 (by decide) (by kernel_rfl)) ?_).mono ?_
   ·intro W x hW hx hQ
    exact z7l g w.heap.size caps p l W x HG.o (HC.o.later (HB.o.trans (hW.mono HB.o.size))) hx hQ ((hW.cell (p:=⟨w.heap.size,0,none⟩) (World.block_lt_of_cell? _ _ HCE.o)).trans HCE.o)
   ·rintro e w2 ⟨rfl,hb2⟩
    have HB2:=hiD (HB.o.trans (hb2.mono HB.o.size));have HF:Hid ((!(l.any fun b=>!p b))=q):=hiD (zg8 (by rw[HL.o.len];exact hm) (of_decide_eq_true HR.o) HQ.o);clear hb2;go_wp2_with fail
    go_ret;exact⟨ji (by simpa using HF.o),HB2.o⟩
 ·have hmb:¬ (n:Int)≤(most:Int):=by omega
  have HF:Hid (q=false):=hiD (by cases q;rfl;exact absurd (HQ.o.2 rfl).1 (by rw[HL.o.len];exact hm));go_enter Tryz.func180,Tryz.ntmps180
  go_wp2_with fail
  go_ret;exact⟨ji (by rw[HF.o]<;>first|rfl|simp[hmb]),HBB.o _⟩
theorem z7n (g:Nat)(caps:Array Value)(p:Rul→Bool)(A:Option Addr)(n c:Nat)(l:List Rul)(w:World)(hl:RulesIn w w.heap.size A n l)(hn:n≤140737488355328)
 (hg:Enters Tryz.prog g) (hc:CallP Tryz.prog g caps (fun x=>.agg (rulA' x)) TrueP (id:Rul→Rul) l p w) :
 Calls Tryz.prog 294 #[.slice A n c,.func (.func g) #[] caps] w (IsAt l p w):=by
 have HL:=hiD hl;have HC:=hiD hc;have HG:=hiD hg;clear hl hc hg;go_enter Tryz.func294,Tryz.ntmps294
 go_wp2_with fail
 go_loopw [8] (fun i wx=>∃ k:Nat,k≤n∧i=.int .i64 (k:Int)∧(∀ b∈l.take k,p b=false)∧Below w.heap.size w wx) (fun i _=>n-(intOf i).toNat)
 case atStart=>exact⟨0,Nat.zero_le _,rfl,fun b hb=>by simp at hb,Below.refl _ _⟩
 case round =>
  obtain⟨k,hk,rfl,ha,hb⟩:=hrel;have HB:=hiD hb;have HU:=hiD ha;clear ha hb;by_cases hlt:k<n
  ·obtain⟨b,o,x,rfl,hbb,hla,htk,hrow,hin⟩:=(HL.o.below trueStays HB.o (Nat.le_refl _)).at_ hlt
   have HLA:=hiD hla;have HTK:=hiD htk;have HROW:=hiD hrow;have hk0:(0:Int)≤(k:Int):=by omega
   have hkn:(k:Int)<(n:Int):=by omega
   have CI:=hiD (HC.o wr x HB.o (List.mem_of_getElem? hla) (trueStays.more hin HB.o.size));clear hla htk hrow hin;go_wp2_with (with_reducible refine stn 15 ?_)
   refine held (wpList_load_mid rfl 106 (.tmp 14) rfl b (o+k*2) rfl (rulC x) _ HROW.o Tryz.underlying106 rfl (by kernel_rfl) ?_);rw[rulC_A'];go_wp2_with fail
   rw[HG.o];refine CI.o.mono ?_;rintro e w' ⟨rfl,hb2⟩;have HB2:=hiD (HB.o.trans (hb2.mono HB.o.size));clear hb2 CI;cases hok:p ((id:Rul→Rul) x)
   ·have HS:=hiD (zg4 HU.o HTK.o hok)
    clear hok;go_wp2_with fail
    go_roundw
    case rel=>exact⟨k+1,by omega,by go_num,HS.o,HB2.o⟩
    case measure=>simp[intOf];omega
   ·have HS:=hiD (zfu HU.o HLA.o hok)
    clear hok;go_wp2_with fail
    go_ret;exact⟨(k:Int),rfl,by rw[HS.o];simp,by omega,by omega,HB2.o⟩
  ·have hkn:¬ (k:Int)<(n:Int):=by omega
   have HS:=hiD (zg5 HU.o HL.o.len hlt);go_wp2_with fail
   go_ret;exact⟨-1,rfl,by rw[HS.o];rfl,by omega,by omega,HB.o⟩
theorem z7o (g:Nat)(caps:Array Value)(p:Rul→Bool)(A:Option Addr)(n c:Nat)(l:List Rul)(w:World)(hl:RulesIn w w.heap.size A n l)(hn:n≤140737488355328)
 (hg:Enters Tryz.prog g) (hc:CallP Tryz.prog g caps (fun x=>.agg (rulA' x)) TrueP (id:Rul→Rul) l p w) :
 Calls Tryz.prog 248 #[.slice A n c,.func (.func g) #[] caps] w (SaysB (l.any p) w):=by
 have CI:=hiD (z7n g caps p A n c l w hl hn hg hc);clear hl hc hg;go_enter Tryz.func248,Tryz.ntmps248
 go_wp2_with fail
 refine CI.o.mono ?_;rintro e w' ⟨z,rfl,hz,hz1,hz2,hb⟩;have HZ:=hiD hz;have HB:=hiD hb;clear hz hb CI;by_cases h0:0≤z
 ·have HR:Hid (l.any p=true):=hiD (by rw[← zc3];have:=HZ.o;exact decide_eq_true (by omega))
  go_wp2_with fail
  go_ret;exact⟨by rw[HR.o]<;>rfl,HB.o⟩
 ·have HR:Hid (l.any p=false):=hiD (by rw[← zc3];have:=HZ.o;exact decide_eq_false (by omega))
  go_wp2_with fail
  go_ret;exact⟨ji (by rw[HR.o]<;>first|rfl|exact decide_eq_false (by omega)),HB.o⟩
theorem zsx (g:Nat)(A:Option Addr)(n c:Nat)(l:List Rul)(w:World)(hl:RulesIn w w.heap.size A n l)(hn:n≤140737488355328)
 (hg:Enters Tryz.prog g) (hk:CallK Tryz.prog g (fun x=>.agg (rulA' x)) TrueP (id:Rul→Rul) (fun b=>.string b.1)) :
 Calls Tryz.prog 247 #[.slice A n c,.func (.func g) #[] #[]] w (SaysB (decide (l.Pairwise (fun a b=>ltS a.1 b.1))) w):=by
 have hmx:Tryz.prog.follows .mixedOrders=true:=by kernel_rfl
 have HL:=hiD hl;have HK:=hiD hk;have HG:=hiD hg;clear hl hk hg;go_enter Tryz.func247,Tryz.ntmps247
 go_wp2_with fail
 go_loopw [5] (fun i wx=>∃ k:Nat,1≤k∧i=.int .i64 (k:Int)∧(n=0∨k≤n)∧(l.take k).Pairwise (fun a b=>ltS a.1 b.1)∧Below w.heap.size w wx) (fun i _=>n-(intOf i).toNat)
 case atStart=>exact⟨1,Nat.le_refl _,rfl,by omega,zg6 l,Below.refl _ _⟩
 case round =>
  obtain⟨k,hk1,rfl,hkn0,ha,hb⟩:=hrel;have HB:=hiD hb;have HU:=hiD ha;clear ha hb;by_cases hlt:k<n
  ·obtain⟨j,rfl⟩:∃ j,k=j+1:=⟨k - 1,by omega⟩
   obtain⟨b,o,x,rfl,hbb,hla,htk,hrow,hin⟩:=(HL.o.below trueStays HB.o (Nat.le_refl _)).at_ hlt;obtain⟨b',o',y,he,hbb',hlb,htk',hrow',hin'⟩:=(HL.o.below trueStays HB.o (Nat.le_refl _)).at_ (show j<n by omega);injection he with he;injection he with e1 e2;subst e1;subst e2;have HLA:=hiD hla;have HLB:=hiD hlb;have HX:=hiD (trueStays.more hin HB.o.size);have HY:=hiD (trueStays.more hin' HB.o.size);have hk0:(0:Int)≤(j:Int)+1:=by omega
   have hj0:(0:Int)≤(j:Int):=by omega
   have hkn:(j:Int)+1<(n:Int):=by omega
   have hjn:(j:Int)<(n:Int):=by omega
   have hsub:(j:Int)+1-1=(j:Int):=by omega
   have hbw:b<wr.heap.size:=Nat.lt_of_lt_of_le hbb HB.o.size;have rx:=hrow;have ry:=hrow';clear hla hlb htk htk' hin hin';have HCASE:∀ q:Bool,decide (ltS y.1 x.1)=q→Hid (decide (ltS y.1 x.1)=q):=fun q h=>hiD h;cases hq:decide (ltS y.1 x.1)
   ·have HQ:=HCASE _ hq
    clear hq HCASE;go_wp2_with fail
    refine wp_region_held_drew (S:=fun W'=>Below wr.heap.size wr W') hmx (Below.refl wr.heap.size wr).drew (fun qch=>?_);generalize hW0:wr.drew=W at *;clear hW0;simp only[List.size_toArray,List.length_cons,List.length_nil,Nat.reduceAdd];refine tks (i:=0) (v:=.func (.func g) #[] #[]) (s:=qch) (h:=?_);try simp only[nm0]
    refine tks (i:=1) (v:=.slice (some ⟨b,o,none⟩) n c) (s:=qch) (h:=?_);try simp only[nm0]
    refine tks (i:=2) (v:=.int .i64 ((j:Int)+1)) (s:=qch) (h:=?_);try simp only[nm0]
    refine tkx (i:=3) (v:=.pointer (some ⟨b,o+(j+1)*2,none⟩)) (x:=fun w0 hC=>by simp[execOp,Act.eval,Act.put,go_sem,hk0,hkn,hlt,show((j:Int)+1).toNat=j+1 by omega]) (s:=qch) (h:=?_);try simp only[nm0]
    refine tkx (i:=4) (v:=.agg (rulA' x)) (x:=fun w0 hC=>by simp[execOp,Act.eval,Act.put,go_sem,rulA',(hC.cell (p:=⟨b,o+(j+1)*2,none⟩) hbw).trans (rx 0 _ rfl),(hC.cell (p:=⟨b,o+(j+1)*2+1,none⟩) hbw).trans (rx 1 _ rfl)]) (s:=qch) (h:=?_);try simp only[nm0]
    refine tks (i:=6) (v:=.func (.func g) #[] #[]) (s:=qch) (h:=?_);try simp only[nm0]
    refine tks (i:=7) (v:=.slice (some ⟨b,o,none⟩) n c) (s:=qch) (h:=?_);try simp only[nm0]
    refine tks (i:=8) (v:=.int .i64 ((j:Int)+1)) (s:=qch) (h:=?_);try simp only[nm0]
    refine tkx (i:=9) (v:=.int .i64 (j:Int)) (x:=fun w0 hC=>by simp[execOp,Act.eval,Act.put,go_sem,hsub,zc4 j (by omega)]) (s:=qch) (h:=?_);try simp only[nm0]
    refine tkx (i:=10) (v:=.pointer (some ⟨b,o+j*2,none⟩)) (x:=fun w0 hC=>by simp[execOp,Act.eval,Act.put,go_sem,hj0,hjn,show j<n by omega]) (s:=qch) (h:=?_);try simp only[nm0]
    refine tkx (i:=11) (v:=.agg (rulA' y)) (x:=fun w0 hC=>by simp[execOp,Act.eval,Act.put,go_sem,rulA',(hC.cell (p:=⟨b,o+j*2,none⟩) hbw).trans (ry 0 _ rfl),(hC.cell (p:=⟨b,o+j*2+1,none⟩) hbw).trans (ry 1 _ rfl)]) (s:=qch) (h:=?_);try simp only[nm0]
    refine rd1 (r:=5) (h:=fun K hK=>?_);go_wp2_with fail
    rw[HG.o];refine(HK.o W x (trueStays.later_ HX.o qch)).mono ?_;rintro e W2 ⟨rfl,hb5⟩;have hS:=qch.trans (hb5.mono qch.size);clear qch hb5;refine bkk hK hS fun qch=>?_;clear hK K;try simp only[nm0]
    clear hS;refine rd1 (r:=12) (h:=fun K hK=>?_);go_wp2_with fail
    rw[HG.o];refine(HK.o _ y (trueStays.later_ HY.o qch)).mono ?_;rintro e W3 ⟨rfl,hb5⟩;have hS:=qch.trans (hb5.mono qch.size);clear qch hb5;refine bkk hK hS fun qch=>?_;clear hK K;try simp only[nm0]
    clear hS;refine tkx (i:=13) (v:=.bool true) (x:=fun w0 hC=>by first|(simp[execOp,Act.eval,Act.put,go_sem,HQ.o];done)|simp[execOp,Act.eval,Act.put,go_sem,zfv,HQ.o]) (s:=qch) (h:=?_);try simp only[nm0]
    refine wpAnyH_done (by kernel_rfl) ?_ _;have HB2:=hiD (HB.o.trans (qch.mono HB.o.size));clear qch;have HS:=hiD (decide_eq_false (zfh (R:=(fun a b=>ltS a.1 b.1)) HLB.o HLA.o (of_decide_eq_false HQ.o)));go_wp2_with fail
    go_ret;exact⟨by rw[HS.o]<;>rfl,HB2.o⟩
   ·have HQ:=HCASE _ hq
    clear hq HCASE;go_wp2_with fail
    refine wp_region_held_drew (S:=fun W'=>Below wr.heap.size wr W') hmx (Below.refl wr.heap.size wr).drew (fun qch=>?_);generalize hW0:wr.drew=W at *;clear hW0;simp only[List.size_toArray,List.length_cons,List.length_nil,Nat.reduceAdd];refine tks (i:=0) (v:=.func (.func g) #[] #[]) (s:=qch) (h:=?_);try simp only[nm0]
    refine tks (i:=1) (v:=.slice (some ⟨b,o,none⟩) n c) (s:=qch) (h:=?_);try simp only[nm0]
    refine tks (i:=2) (v:=.int .i64 ((j:Int)+1)) (s:=qch) (h:=?_);try simp only[nm0]
    refine tkx (i:=3) (v:=.pointer (some ⟨b,o+(j+1)*2,none⟩)) (x:=fun w0 hC=>by simp[execOp,Act.eval,Act.put,go_sem,hk0,hkn,hlt,show((j:Int)+1).toNat=j+1 by omega]) (s:=qch) (h:=?_);try simp only[nm0]
    refine tkx (i:=4) (v:=.agg (rulA' x)) (x:=fun w0 hC=>by simp[execOp,Act.eval,Act.put,go_sem,rulA',(hC.cell (p:=⟨b,o+(j+1)*2,none⟩) hbw).trans (rx 0 _ rfl),(hC.cell (p:=⟨b,o+(j+1)*2+1,none⟩) hbw).trans (rx 1 _ rfl)]) (s:=qch) (h:=?_);try simp only[nm0]
    refine tks (i:=6) (v:=.func (.func g) #[] #[]) (s:=qch) (h:=?_);try simp only[nm0]
    refine tks (i:=7) (v:=.slice (some ⟨b,o,none⟩) n c) (s:=qch) (h:=?_);try simp only[nm0]
    refine tks (i:=8) (v:=.int .i64 ((j:Int)+1)) (s:=qch) (h:=?_);try simp only[nm0]
    refine tkx (i:=9) (v:=.int .i64 (j:Int)) (x:=fun w0 hC=>by simp[execOp,Act.eval,Act.put,go_sem,hsub,zc4 j (by omega)]) (s:=qch) (h:=?_);try simp only[nm0]
    refine tkx (i:=10) (v:=.pointer (some ⟨b,o+j*2,none⟩)) (x:=fun w0 hC=>by simp[execOp,Act.eval,Act.put,go_sem,hj0,hjn,show j<n by omega]) (s:=qch) (h:=?_);try simp only[nm0]
    refine tkx (i:=11) (v:=.agg (rulA' y)) (x:=fun w0 hC=>by simp[execOp,Act.eval,Act.put,go_sem,rulA',(hC.cell (p:=⟨b,o+j*2,none⟩) hbw).trans (ry 0 _ rfl),(hC.cell (p:=⟨b,o+j*2+1,none⟩) hbw).trans (ry 1 _ rfl)]) (s:=qch) (h:=?_);try simp only[nm0]
    refine rd1 (r:=5) (h:=fun K hK=>?_);go_wp2_with fail
    rw[HG.o];refine(HK.o W x (trueStays.later_ HX.o qch)).mono ?_;rintro e W2 ⟨rfl,hb5⟩;have hS:=qch.trans (hb5.mono qch.size);clear qch hb5;refine bkk hK hS fun qch=>?_;clear hK K;try simp only[nm0]
    clear hS;refine rd1 (r:=12) (h:=fun K hK=>?_);go_wp2_with fail
    rw[HG.o];refine(HK.o _ y (trueStays.later_ HY.o qch)).mono ?_;rintro e W3 ⟨rfl,hb5⟩;have hS:=qch.trans (hb5.mono qch.size);clear qch hb5;refine bkk hK hS fun qch=>?_;clear hK K;try simp only[nm0]
    clear hS;refine tkx (i:=13) (v:=.bool false) (x:=fun w0 hC=>by first|(simp[execOp,Act.eval,Act.put,go_sem,HQ.o];done)|simp[execOp,Act.eval,Act.put,go_sem,zfv,HQ.o]) (s:=qch) (h:=?_);try simp only[nm0]
    refine wpAnyH_done (by kernel_rfl) ?_ _;have HB2:=hiD (HB.o.trans (qch.mono HB.o.size));clear qch;have HS:=hiD (zg7 (R:=(fun a b=>ltS a.1 b.1)) (fun (a b c:Rul) (h1:ltS a.1 b.1) (h2:ltS b.1 c.1)=>(zbp h1 h2:ltS a.1 c.1)) HU.o HLB.o HLA.o (of_decide_eq_true HQ.o));go_wp2_with fail
    go_roundw
    case rel=>exact⟨j+1+1,by omega,by go_num,by omega,HS.o,HB2.o⟩
    case measure=>simp[intOf];omega
  ·have hkn:¬ (k:Int)<(n:Int):=by omega
   have HS:Hid (decide (l.Pairwise (fun a b=>ltS a.1 b.1))=true):=hiD (decide_eq_true (by have:=HU.o;rwa [List.take_of_length_le (by rw[HL.o.len];omega)] at this));go_wp2_with fail
   go_ret;exact⟨by rw[HS.o]<;>rfl,HB.o⟩
theorem z7p (g bp:Nat)(caps:Array Value)(p:Rul→Bool)(l:List Rul)(w:World)(x:Rul)(hg:Enters Tryz.prog g)(hc:CallP Tryz.prog g caps (fun x=>.agg (rulA' x)) TrueP (id:Rul→Rul) l p w)(hm:(id:Rul→Rul) x∈l)(hx:TrueP w w.heap.size x)
 (hp:w.cell? ⟨bp,0,none⟩=some (.func (.func g) #[] caps)) :
 Calls Tryz.prog 249 #[.agg (rulA' x),.pointer (some ⟨bp,0,none⟩)] w fun e w'=>e=.returned (.bool (!p ((id:Rul→Rul) x)))∧Below w.heap.size w w':=by
 have hb1:Below w.heap.size w (w.alloc (.cells (rulA' x) 106)):=(Below.refl _ _).alloc (Nat.le_refl _) _;have CI:=hiD (hc _ x hb1 hm (trueStays.later_ hx hb1));have hp1:=(hb1.cell (p:=⟨bp,0,none⟩) (World.block_lt_of_cell? _ _ hp)).trans hp;have HB1:=hiD hb1;have HLD:Hid ((w.alloc (.cells (rulA' x) 106)).rangeAt w.heap.size 0 (rulC x)):=hiD (Bk.new w 106 (rulA' x)).range;have HG:=hiD hg;clear hc hx hp hb1 hg;go_enter Tryz.func249,Tryz.ntmps249
 go_wp2_with (with_reducible refine stn 5 ?_)
 refine held (wpList_load_mid rfl 106 (.tmp 2) rfl w.heap.size 0 rfl (rulC x) _ HLD.o Tryz.underlying106 rfl (by kernel_rfl) ?_);rw[rulC_A'];go_wp2_with fail
 rw[HG.o];refine CI.o.mono ?_;rintro e w' ⟨rfl,hb2⟩;have HB2:=hiD (HB1.o.trans (hb2.mono HB1.o.size));clear hb2 CI;go_wp2_with fail
 go_ret;exact⟨rfl,HB2.o⟩
theorem z7q (most g gk:Nat)(caps:Array Value)(p:Rul→Bool)(A:Option Addr)(n c:Nat)(l:List Rul)(w:World)(hl:RulesIn w w.heap.size A n l)(hn:n≤140737488355328)
 (hgk:Enters Tryz.prog gk) (hg:Enters Tryz.prog g) (hk:CallK Tryz.prog gk (fun x=>.agg (rulA' x)) TrueP (id:Rul→Rul) (fun b=>.string b.1)) (hc:CallP Tryz.prog g caps (fun x=>.agg (rulA' x)) TrueP (id:Rul→Rul) l p w) (q:Bool) (hq:jb most (fun a b=>ltS a.1 b.1) p l↔q=true) :
 Calls Tryz.prog 172 #[.slice A n c,.int .i64 (most:Int),.func (.func gk) #[] #[],.func (.func g) #[] caps] w (SaysB q w):=by
 have hb1:∀ t,Below w.heap.size w (w.alloc (.cells #[.func (.func g) #[] caps] t)):=fun t=>(Below.refl _ _).alloc (Nat.le_refl _) _;have HL:=hiD hl;have HK:=hiD hk;have HC:=hiD hc;have HQ:=hiD hq;have HBB:=hiD hb1;have HG:=hiD hg;have HGK:=hiD hgk;clear hl hk hc hq hb1 hg hgk;by_cases hm:n≤most
 ·have hmb:(n:Int)≤(most:Int):=by omega
  cases hr:decide (l.Pairwise (fun a b=>ltS a.1 b.1))
  ·have HR:=hiD hr
   have HF:Hid (q=false):=hiD (by cases q;rfl;exact absurd (HQ.o.2 rfl).2.2 (of_decide_eq_false HR.o));clear hr;go_enter Tryz.func172,Tryz.ntmps172
   go_wp2_with fail
   refine(zsx gk A n c l _ (HL.o.later_ trueStays (HBB.o _)) hn HGK.o HK.o).mono ?_;rintro e w' ⟨rfl,hb⟩;rw[HR.o];have HB:=hiD ((HBB.o _).trans (hb.mono (HBB.o _).size));clear hb;go_wp2_with fail
   go_ret;exact⟨by rw[HF.o]<;>rfl,HB.o⟩
  ·have HR:=hiD hr
   clear hr;go_enter Tryz.func172,Tryz.ntmps172
   go_wp2_with fail
   refine(zsx gk A n c l _ (HL.o.later_ trueStays (HBB.o _)) hn HGK.o HK.o).mono ?_;rintro e w' ⟨rfl,hb⟩;rw[HR.o];have HB:=hiD ((HBB.o _).trans (hb.mono (HBB.o _).size));have hcell:w'.cell? ⟨w.heap.size,0,none⟩=some (.func (.func g) #[] caps):=(hb.cell (p:=⟨w.heap.size,0,none⟩) (by simp)).trans ((Bk.new w _ #[.func (.func g) #[] caps]).cell 0);have HCE:=hiD hcell;clear hb hcell;go_wp2_with fail
   refine(z7o 249 #[.pointer (some ⟨w.heap.size,0,none⟩)] (fun b=>!p b) A n c l w' (HL.o.later_ trueStays HB.o) hn (enters_of Tryz.func249 (by decide) (by kernel_rfl)) ?_).mono ?_
   ·intro W x hW hx hQ
    exact z7p g w.heap.size caps p l W x HG.o (HC.o.later (HB.o.trans (hW.mono HB.o.size))) hx hQ ((hW.cell (p:=⟨w.heap.size,0,none⟩) (World.block_lt_of_cell? _ _ HCE.o)).trans HCE.o)
   ·rintro e w2 ⟨rfl,hb2⟩
    have HB2:=hiD (HB.o.trans (hb2.mono HB.o.size));have HF:Hid ((!(l.any fun b=>!p b))=q):=hiD (zg8 (by rw[HL.o.len];exact hm) (of_decide_eq_true HR.o) HQ.o);clear hb2;go_wp2_with fail
    go_ret;exact⟨ji (by simpa using HF.o),HB2.o⟩
 ·have hmb:¬ (n:Int)≤(most:Int):=by omega
  have HF:Hid (q=false):=hiD (by cases q;rfl;exact absurd (HQ.o.2 rfl).1 (by rw[HL.o.len];exact hm));go_enter Tryz.func172,Tryz.ntmps172
  go_wp2_with fail
  go_ret;exact⟨ji (by rw[HF.o]<;>first|rfl|simp[hmb]),HBB.o _⟩
end Go.Proofs.YtmjjefnmabbgdaaGreatDoor
