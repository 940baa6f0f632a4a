/- A part of the proof. -/
import Derived.Test.YtmjjefnmabbgdaaGreatDoorSShaRefC
import Derived.Test.YtmjjefnmabbgdaaGreatDoorSShaPad
namespace Go.Proofs.YtmjjefnmabbgdaaGreatDoor
set_option linter.unusedVariables false
set_option linter.unusedSimpArgs false
set_option maxRecDepth 100000
set_option maxHeartbeats 16000000
open Go.RowKit
section
variable {P:Program} {ops:Array Oper} {w:World}
theorem zvy {Q:Act→Prop}{a:Act}{o:Oper}{rest:List Oper}{v:Value}(hw:Region.wanted o (yielded ops a.tmps)=true)(hv:(execOp a.eval o).run P w=.ok (.value v) w)
 (h:wpStill P ops w Q rest (a.put o.dst v)):wpStill P ops w Q (o::rest) a:=by
 unfold wpStill;rw[if_pos hw];unfold Oper.still;rw[hv];exact⟨rfl,h⟩
theorem znj {Q:Act→Prop}{a:Act}{op:Oper}{rest:List Oper}(hw:Region.wanted op (yielded ops a.tmps)=true)(ty:TypeId)(x:Operand)(ho:op.op=.load ty x)
 (b o:Nat) (hx:a.eval x=.pointer (some ⟨b,o,none⟩)) (cs:List Value) (d:TypeDesc) (hc:w.rangeAt b o cs)
 (hu:P.underlying ty=some d) (hd:d.isRow=true) (hi:(P.info? ty).map (·.size)=some cs.length)
 (h:wpStill P ops w Q rest (a.put op.dst (.agg cs.toArray))):wpStill P ops w Q (op::rest) a:=by
 refine zvy hw ?_ h;unfold execOp;simp only[ho,hx,Instr.loadAt,Instr.sureAddr,Sem.run_bind,Sem.run_pure,Result.andThen_ok,run_loadVar_mid w b o ty cs d hc hu hd hi]
end
def za8 (p:List Nat)(i:Nat):List Nat:=(p.drop (64*i)).take 64
theorem zvz {p:List Nat}{i:Nat}(h:64*(i+1)≤p.length):(za8 p i).length=64:=by
 unfold za8;rw[List.length_take,List.length_drop];omega
theorem zv0 {p:List Nat}(h:∀ x∈p,x<256)(i:Nat):∀ x∈za8 p i,x<256:=fun x hx=>h x (List.mem_of_mem_drop (List.mem_of_mem_take hx))
theorem zv1 {p:List Nat}{i k:Nat}(hk:k<64):zf (za8 p i) k=zf p (64*i+k):=by
 unfold za8 zf;rw[List.getD_eq_getElem?_getD,List.getD_eq_getElem?_getD,List.getElem?_take,if_pos hk,List.getElem?_drop]
def za2 (p:List Nat):Nat→Wd
 | 0=>first0
 | k+1=>zb5 kL (za2 p k) (za8 p k)
theorem znk (p:List Nat):za2 p 0=first0:=rfl
theorem znl (p:List Nat)(k:Nat):za2 p (k+1)=zb5 kL (za2 p k) (za8 p k):=rfl
theorem zjm (p:List Nat):∀ k,(za2 p k).Ok
 | 0=>zn9
 | k+1=>zn8 _ _ _
def sumB (l:List Nat):List Nat:=flN (za2 (padN l) ((padN l).length / 64)).list 32
theorem zc5 (l:List Nat):(sumB l).length=32:=zga _ _
theorem zv2 (l:List Nat):∀ x∈sumB l,x<256:=zoj _ _
attribute [irreducible] za2
theorem znm {s:Wd}(h:s.Ok):W32 s.list:=by
 intro x hx;simp only[Wd.list,List.mem_cons,List.not_mem_nil,or_false] at hx;rcases hx with rfl|rfl|rfl|rfl|rfl|rfl|rfl|rfl
 ·exact h.a
 ·exact h.b
 ·exact h.c
 ·exact h.d
 ·exact h.e
 ·exact h.f
 ·exact h.g
 ·exact h.h
theorem OwnB.block {w:World}{base n c:Nat}{e:TypeId}{A:Option Addr}{p:List Nat}(h:OwnB w base e A n c p){i:Nat}(hi:64*(i+1)≤n) :
 ∃ g,A=some ⟨g,0,none⟩∧base≤g∧Bytes w w.heap.size (some ⟨g,64*i,none⟩) 64 (za8 p i):=by
 have hl:=h.len;obtain⟨g,rfl,hg,hgl,_,hc⟩:=h.cells (by omega);refine⟨g,rfl,hg,zvz (by omega),zv0 h.2 i,fun _=>⟨g,64*i,rfl,hgl,fun k hk=>?_⟩⟩;rw[hc _ (by omega),zv1 hk]
theorem znn {w:World}{base n c:Nat}{e:TypeId}{A:Option Addr}{l:List Nat}(h:OwnB w base e A n c l){g:Nat}(hg:g<base)(cs:Array Value):OwnB (w.setRow g cs) base e A n c l:=by
 refine⟨⟨h.1.1,?_⟩,h.2⟩;rcases h.1.2 with h0|⟨g',cap,cur,hv,hg',hh,r⟩
 ·exact .inl h0
 ·exact .inr ⟨g',cap,cur,hv,hg',(YtmjjefnmabbgdaaGreatDoor.setRow_other' w g g' cs (by omega)).trans hh,r⟩
theorem zv3 (w:World)(g np cp j:Nat)(h1:j+64≤np)(h2:np≤cp):(Instr.slice 48 (.slice (some ⟨g,0,none⟩) np cp) (some (.int .i64 (j:Int))) (some (.int .i64 ((j:Int)+64))) none).run Tryz.prog w=.ok (.slice (some ⟨g,j,none⟩) 64 (cp-j)) w:=by
 have e2:((j:Int)+64).toNat=j+64:=by omega
 rw[run_slice_lh (P:=Tryz.prog) (w:=w) (t:=48) (a:=some ⟨g,0,none⟩) (len:=np) (cap:=cp) (ht:=Tryz.underlying48) (kl:=.i64) (kh:=.i64) (l:=(j:Int)) (h:=(j:Int)+64) (h0:=by omega) (h1:=by omega) (h2:=by omega)];have hne:¬ cp=j:=by omega
 simp[go_sem,e2,sliced,hne,show j+64-j=64 by omega]
theorem zez (A:Option Addr)(n c B:Nat)(l:List Nat)(w:World)(hl:Bytes w B A n l)(hB:B≤w.heap.size)(hn:n≤1000000) :
 Calls Tryz.prog 27 #[.slice A n c] w fun e w'=>e=.returned (.agg (cb (sumB l)))∧Below w.heap.size w w':=by
 go_enter Tryz.func27,Tryz.ntmps27
 go_wp2_with (with_reducible refine stn 2 ?_)
 refine heldB (zbc rfl 25 rfl _ zgb ?_);refine zdz (fun W=>Bk W w.heap.size 25 (cb (List.replicate 32 0))∧Below w.heap.size w W) ⟨Bk.new w _ _,(Below.refl _ _).alloc (Nat.le_refl _) _⟩ ?_;rintro W ⟨br,hb⟩;have BR:=hide br;have HB:=hide hb;clear br hb;go_wp2_with fail
 refine(zwa W).mono ?_;rintro e W1 ⟨rfl,hb1⟩;have BR1:=hide (BR.o.below hb1 BR.o.lt);have HB1:=hide (HB.o.trans (hb1.mono HB.o.size));clear BR HB hb1;go_wp2_with fail
 refine(zwb W1).mono ?_;rintro e W2 ⟨rfl,hb2⟩;have BR2:=hide (BR1.o.below hb2 BR1.o.lt);have HB2:=hide (HB1.o.trans (hb2.mono HB1.o.size));clear BR1 HB1 hb2;go_wp2_with (with_reducible refine stn 3 ?_)
 refine heldB (zbc rfl 88 rfl _ ze3 ?_);go_wp2_with (with_reducible refine stn 4 ?_)
 refine heldB (zbc rfl 90 rfl _ ze2 ?_);have q1:Bk ((W2.alloc (.cells (cw (List.replicate 8 0)) 88)).alloc (.cells (cw (List.replicate 64 0)) 90)) W2.heap.size 88 (cw (List.replicate 8 0)):=(Bk.new W2 _ _).alloc _;have q2:Bk ((W2.alloc (.cells (cw (List.replicate 8 0)) 88)).alloc (.cells (cw (List.replicate 64 0)) 90)) (W2.heap.size+1) 90 (cw (List.replicate 64 0)):=Bk.new2 W2 _ _ _;have q3:Bk ((W2.alloc (.cells (cw (List.replicate 8 0)) 88)).alloc (.cells (cw (List.replicate 64 0)) 90)) w.heap.size 25 (cb (List.replicate 32 0)):=(BR2.o.alloc _).alloc _;have q4:Below w.heap.size w ((W2.alloc (.cells (cw (List.replicate 8 0)) 88)).alloc (.cells (cw (List.replicate 64 0)) 90)):=(HB2.o.alloc HB2.o.size _).alloc (by have:=HB2.o.size;simp;omega) _;have q5:=BR2.o.lt;rw[World.size_alloc];refine zdz (fun W=>Bk W W2.heap.size 88 (cw (List.replicate 8 0))∧Bk W (W2.heap.size+1) 90 (cw (List.replicate 64 0))∧Bk W w.heap.size 25 (cb (List.replicate 32 0))∧Below w.heap.size w W) ⟨q1,q2,q3,q4⟩ ?_
 clear q1 q2 q3 q4 BR2 HB2;obtain⟨g1,hg1⟩:∃ g,g=W2.heap.size:=⟨_,rfl⟩;rw[← hg1] at q5 ⊢;clear hg1;rintro W3 ⟨q1,q2,q3,q4⟩;refine zi rfl 88 (.tmp 3) (.tmp 9) rfl g1 0 (cw firstL) rfl rfl 88 _ q1 (by simp[z8,za3]) (by rw[z8];exact jo) (zb6 _) ?_;intro W4 h4;rw[zbl (by simp[z8,za3])] at h4;obtain rfl:=h4.out;clear h4;refine zi rfl 90 (.tmp 4) (.tmp 10) rfl (g1+1) 0 (cw kL) rfl rfl 90 _ (q2.setRow_other (by omega) _) (by simp[z8,zba]) (by rw[z8,zba];exact zdx) (zb6 _) ?_;intro W4 h4;rw[zbl (by simp[z8,zba])] at h4;have r1:=hide (h4.out ▸ (q1.setRow_same (cw firstL)).setRow_other (by omega) (cw kL):Bk W4 g1 88 (cw firstL));have r2:=hide (h4.out ▸ (q2.setRow_other (by omega) (cw firstL)).setRow_same (cw kL):Bk W4 (g1+1) 90 (cw kL));have r3:=hide (h4.out ▸ (q3.setRow_other (by omega) (cw firstL)).setRow_other (by omega) (cw kL):Bk W4 w.heap.size 25 (cb (List.replicate 32 0)))
 have r4:=hide (h4.out ▸ below_setRow (below_setRow q4 (by omega) (cw firstL)) (by omega) (cw kL):Below w.heap.size w W4);clear h4 q1 q2 q3 q4;have hbs:=r4.out.size;have hlw:Bytes W4 B A n l:=hl.below r4.out hB;go_wp2_with fail
 refine(zxj A n c B l W4 hlw (by omega) hn).mono ?_;rintro e W5 ⟨Ap,cp,rfl,ho,hb5⟩;have t1:=hide (r1.out.below hb5 r1.out.lt);have t2:=hide (r2.out.below hb5 r2.out.lt);have t3:=hide (r3.out.below hb5 r3.out.lt);have t4:=hide (r4.out.trans (hb5.mono hbs));have hgw:g1+1<W4.heap.size:=r2.out.lt;have hlen:=zjx l;rw[hl.1] at hlen;have hmod:=zop l;have hsum:Hid (sumB l=flN (za2 (padN l) ((padN l).length / 64)).list 32):=hide rfl;have hp256:=zoq hl.2.1;obtain⟨p,hp⟩:∃ p,p=padN l:=⟨_,rfl⟩;rw[← hp] at ho hlen hmod hsum hp256;obtain⟨np,hnp⟩:∃ np,np=n+9+zap n:=⟨_,rfl⟩;rw[← hnp] at ho hlen ⊢;have hz:=zhx n;have hnl:np≤2000000:=by omega
 rw[hlen] at hmod hsum;have HO:=hide ho;have HLEN:=hide hlen;have HMOD:=hide hmod;have HP:=hide hp;have hbs5:=t4.out.size;have hcp:np≤cp∧cp≤maxLen:=ho.cap;have hcpm:cp≤9223372036854775807:=by have:=hcp.2;unfold maxLen at this;omega
 have hcpn:=hcp.1;clear r1 r2 r3 r4 hb5 hlw hp hnp hlen hmod ho hcp hbs;go_wp2
 go_loopw [6] (fun i wr=>∃ k:Nat,64*k≤np∧i=.int .i64 ((64*k:Nat):Int)∧Bk wr g1 88 (cw (za2 p k).list)∧Bk wr (g1+1) 90 (cw kL)∧Bk wr w.heap.size 25 (cb (List.replicate 32 0))∧OwnB wr W4.heap.size 5 Ap np cp p∧Below w.heap.size w wr) (fun i _=>np-(intOf i).toNat)
 case atStart=>exact⟨0,by omega,rfl,by rw[znk];exact t1.out,t2.out,t3.out,HO.o,t4.out⟩
 case round =>
  obtain⟨k,hk,rfl,b1,b2,b3,ho,hb⟩:=hrel;by_cases hlt:64*k<np
  ·have hk1:64*(k+1)≤np:=by have:=HMOD.o;omega
   obtain⟨g,hA,hg,hblk⟩:=ho.block (i:=k) hk1;subst hA;have hok:=zjm p k;have HS:=hide (znl p k);obtain⟨j,hj⟩:∃ j,j=64*k:=⟨_,rfl⟩;rw[← hj] at hblk hlt ⊢;have HJ:=hide hj;have hj64:j+64≤np:=by omega
   have e1:IntKind.i64.wrap ((j:Int)+64)=((j+64:Nat):Int):=by rw[IntWalk.i64_in _ (by omega)];omega
   have q1:(j:Int)<(np:Int):=by omega
   have q6:(j:Int)+64≤(np:Int):=by omega
   have q7:(np:Int)≤(cp:Int):=by omega
   have q8:j+64≤cp:=by omega
   have hsl:=fun W=>zv3 W g np cp j hj64 hcpn;have B1:=hide b1;have B2:=hide b2;have B3:=hide b3;have HO2:=hide ho;have HB:=hide hb;have HBL:=hide hblk;clear b1 b2 b3 ho hb hblk hj hk1 hk hlt;generalize za2 p k=s at *;go_wp2_with fail
   refine wp_region_still_tail 7 (by kernel_rfl) (by kernel_rfl) ?_;simp only[List.take_succ_cons,List.take_zero,List.drop_succ_cons,List.drop_zero];refine znj (by simp[Region.wanted]) 88 (.tmp 3) rfl g1 0 rfl _ _ (B1.o.drew).range Tryz.underlying88 rfl (by rw[Array.length_toList,z8];exact jo) ?_
   repeat still_step
   refine znj (by simp[Region.wanted]) 90 (.tmp 4) rfl (g1+1) 0 rfl _ _ (B2.o.drew).range Tryz.underlying90 rfl (by rw[Array.length_toList,z8,zba];exact zdx) ?_;refine wpStill_nil ?_
   change wpList _ _ _ _ _ wr.drew
   rw[Array.toArray_toList,Array.toArray_toList];have D1:=hide B1.o.drew;have D2:=hide B2.o.drew;have D3:=hide B3.o.drew;have DO:=hide (show OwnB wr.drew W4.heap.size 5 (some ⟨g,0,none⟩) np cp p from HO2.o);have DB:=hide HB.o.drew;have DL:=hide (show Bytes wr.drew wr.drew.heap.size (some ⟨g,j,none⟩) 64 (za8 p k)from HBL.o);clear B1 B2 B3 HO2 HB HBL e1 hsl;generalize wr.drew=W6 at *;go_wp2_with fail
   refine(zwg s (some ⟨g,j,none⟩) (cp-j) (za8 p k) W6 hok DL.o).mono ?_;rintro e W7 ⟨rfl,hb7⟩;have hl7:g1<W6.heap.size:=D1.o.lt;have E1:=hide (D1.o.below hb7 D1.o.lt);have E2:=hide (D2.o.below hb7 D2.o.lt);have E3:=hide (D3.o.below hb7 D3.o.lt);have EO:=hide (DO.o.below hb7);have EB:=hide (DB.o.trans (hb7.mono DB.o.size));clear D1 D2 D3 DO DB DL hb7;rw[← HS.o];generalize hs2:za2 p (k+1)=s2 at *;have HS2:=hide hs2;clear hs2 HS;go_wp2_with ((with_reducible show wpList _ _ _ (⟨none,.store _ _ _,_,_,_,_⟩::_) _ _);refine holdB ?_)
   refine heldB (zi rfl 88 (.tmp 3) (.tmp 26) rfl g1 0 (cw s2.list) rfl rfl 88 _ E1.o (by simp[z8,Wd.list]) (by rw[z8];exact jo) (zb6 _) ?_);intro W8 h8;rw[zbl (by simp[z8,Wd.list])] at h8;have hgne:W4.heap.size≤g:=hg;have F1:=hide (h8.out ▸ E1.o.setRow_same (cw s2.list):Bk W8 g1 88 (cw s2.list));have F2:=hide (h8.out ▸ E2.o.setRow_other (by omega) (cw s2.list):Bk W8 (g1+1) 90 (cw kL));have F3:=hide (h8.out ▸ E3.o.setRow_other (by omega) (cw s2.list):Bk W8 w.heap.size 25 (cb (List.replicate 32 0)));have FO:=hide (h8.out ▸ znn EO.o (by omega) (cw s2.list):OwnB W8 W4.heap.size 5 (some ⟨g,0,none⟩) np cp p);have FB:=hide (h8.out ▸ below_setRow EB.o (by omega) (cw s2.list):Below w.heap.size w W8);clear h8 E1 E2 E3 EO EB;go_wp2
   go_roundw
   case rel=>exact⟨k+1,by have:=HJ.o;omega,by have:=HJ.o;go_num,by rw[HS2.o];exact F1.o,F2.o,F3.o,FO.o,FB.o⟩
   case measure=>simp[intOf];omega
  ·have hkn:k=np / 64:=by have:=HMOD.o;omega
   have hki:¬ ((64*k:Nat):Int)<(np:Int):=by omega
   rw[← hkn] at hsum;have hok:=zjm p k;have hk0:64*(k:Int)=((64*k:Nat):Int):=by omega
   obtain⟨j,hj⟩:∃ j,j=64*k:=⟨_,rfl⟩;rw[← hj] at hki ⊢;clear hkn hlt hk hj hk0;generalize za2 p k=s at *;have B1:=hide b1;have B3:=hide b3;have HB:=hide hb;clear b1 b2 b3 ho hb;go_wp2_with (with_reducible refine stn 7 ?_)
   refine heldB (zbc rfl 25 rfl _ zgb ?_);have hgr:g1<wr.heap.size:=B1.o.lt;refine zdz (fun W=>Bk W g1 88 (cw s.list)∧Bk W w.heap.size 25 (cb (List.replicate 32 0))∧Bk W wr.heap.size 25 (cb (List.replicate 32 0))∧Below w.heap.size w W) ⟨B1.o.alloc _,B3.o.alloc _,Bk.new wr _ _,HB.o.alloc HB.o.size _⟩ ?_;clear B1 B3 HB;obtain⟨gf,hgf⟩:∃ g,g=wr.heap.size:=⟨_,rfl⟩;rw[← hgf] at hgr ⊢;clear hgf;rintro W6 ⟨b1,b3,bf,hb⟩;have B1:=hide b1;have B3:=hide b3;have BF:=hide bf;have HB:=hide hb;clear b1 b3 bf hb;go_wp2
   go_loopw [8] (fun i wr=>∃ m:Nat,m≤32∧i=.int .i64 (m:Int)∧Bk wr g1 88 (cw s.list)∧Bk wr w.heap.size 25 (cb (List.replicate 32 0))∧Bk wr gf 25 (cb (flN s.list m))∧Below w.heap.size w wr) (fun i _=>32-(intOf i).toNat)
   case atStart=>exact⟨0,Nat.zero_le _,rfl,B1.o,B3.o,by rw[zoh];exact BF.o,HB.o⟩
   case round =>
    obtain⟨m,hm,rfl,b1,b3,bf,hb⟩:=hrel;by_cases hlt:m<32
    ·have hq:m / 4<8:=by omega
     have hc:=b1.word (i:=m / 4) hq;have hx:=(znm hok).lt (m / 4);have hc2:=bf.byte (i:=m) (by rw[zga];exact hlt);have hf:=bf.frozen m;have HF:=hide (zoi s.list m);have HN:Hid (zf9 s.list m=zf s.list (m / 4) / 2 ^ (24-8*(m % 4)) % 256):=hide rfl;obtain⟨sh,hsh⟩:∃ sh:Nat,sh=24-8*(m % 4):=⟨_,rfl⟩;have e1:(24:Int)-8*((m:Int) % 4)=(sh:Int):=by omega
     have hsh2:sh≤24:=by omega
     rw[← hsh] at HN;have H1:=hide b1;have H2:=hide b3;have H3:=hide bf;have H4:=hide hb;clear b1 b3 bf hb hsh;generalize zf s.list (m / 4)=x at *;generalize zf (flN s.list m) m=y at *;go_wp2
     go_roundw
     case rel =>
      refine⟨m+1,by omega,by go_num,H1.o.far (by show g1≠gf;omega) _,H2.o.far (by show w.heap.size≠gf;omega) _,?_,H4.o.setCell (by show w.heap.size≤gf;omega) _⟩;rw[HF.o,HN.o];refine H3.o.putb _ _ ?_;rw[Int.natCast_emod,Int.natCast_ediv,Int.natCast_pow];rfl
     case measure=>simp[intOf];omega
    ·have hm32:m=32:=by omega
     rw[hm32,← hsum.out] at bf;have hlm:¬ (m:Int)<32:=by omega
     clear hm32 hlt hm;have hsz:=zc5 l;obtain⟨fs,hfs⟩:∃ fs,fs=sumB l:=⟨_,rfl⟩;rw[← hfs] at hsz bf;have HFS:=hide hfs;have HLN:=hide hsz;have H1:=hide b3;have H2:=hide bf;have H3:=hide hb;clear hfs hsz b1 b3 bf hb;go_wp2_with (with_reducible refine stn 44 ?_)
     refine heldB (wpList_load_mid rfl 25 (.tmp 7) rfl gf 0 rfl _ _ H2.o.range Tryz.underlying25 rfl (by rw[Array.length_toList,qn,HLN.o];exact zdy) ?_);rw[Array.toArray_toList];refine zi rfl 25 (.tmp 2) (.tmp 44) rfl w.heap.size 0 (cb fs) rfl rfl 25 _ H1.o (by rw[qn,qn,HLN.o];simp) (by rw[qn,HLN.o];exact zdy) (zjt _) ?_;intro w' hw';rw[zbl (by rw[qn,qn,HLN.o];simp)] at hw';have B1:=hide (hw'.out ▸ H1.o.setRow_same (cb fs):Bk w' _ _ _);have hb2:=hw'.out ▸ below_setRow H3.o (g:=w.heap.size) (by omega) (cb fs);clear hw' H1 H2 H3;go_wp2
     refine bodyPost_ret (v:=.agg (cb fs)) ?_ rfl ⟨by rw[HFS.o],hb2⟩;exact qi (a:=⟨w.heap.size,0,none⟩) rfl rfl (B1.o.load Tryz.underlying25 rfl (by rw[qn,HLN.o];exact zdy))
end Go.Proofs.YtmjjefnmabbgdaaGreatDoor
