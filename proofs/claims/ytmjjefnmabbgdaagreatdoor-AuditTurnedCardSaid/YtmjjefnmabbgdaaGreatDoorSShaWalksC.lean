/- A part of the proof. -/
import Derived.Test.YtmjjefnmabbgdaaGreatDoorSShaWalksA
import Derived.Deep.QuietTactic
import Derived.BigQuiet
namespace Go.Proofs.YtmjjefnmabbgdaaGreatDoor
set_option linter.unusedVariables false
set_option linter.unusedSimpArgs false
set_option maxRecDepth 100000
set_option maxHeartbeats 16000000
open Go.RowKit
def Tabs (w:World):Prop:=(∀ r,r<8→w.cell? ⟨1,r,none⟩=some (.int .u32 ((zf firstL r:Nat):Int)))∧∀ r,r<64→w.cell? ⟨2,r,none⟩=some (.int .u32 ((zf kL r:Nat):Int))
theorem Tabs.pos {w:World}(h:Tabs w):2<w.heap.size:=block_lt_of_cell (h.2 0 (by omega))
theorem Tabs.below {w w':World}{B:Nat}(h:Tabs w)(hb:Below B w w')(hB:2<B):Tabs w':=⟨fun r hr=>(hb.cell (p:=⟨1,r,none⟩) (by show 1<B;omega)).trans (h.1 r hr),fun r hr=>(hb.cell (p:=⟨2,r,none⟩) hB).trans (h.2 r hr)⟩
theorem zom {e:Nat}(he:e<4294967296):bits .xor .u32 IntKind.u32.max (e:Int)=((e ^^^ 4294967295:Nat):Int):=by
 have:=u32_xor_nat 4294967295 e (by omega) he;rw[Nat.xor_comm] at this;exact this
theorem zjq (s:Wd):cw s.list=#[.int .u32 (s.a:Int),.int .u32 (s.b:Int),.int .u32 (s.c:Int),.int .u32 (s.d:Int),.int .u32 (s.e:Int),.int .u32 (s.f:Int),.int .u32 (s.g:Int),.int .u32 (s.h:Int)]:=rfl
theorem zjr {B:Nat}{w w':World}(h:Below B w w')(k:Nat):Below B w (w'.drewN k):=⟨h.os,h.tape,h.output,h.size,h.block⟩
def WdAt (v:Wd)(s5 s6 s7 s8 s9 s10 s11 s12:Value):Prop :=
 s5=.int .u32 (v.a:Int)∧s6=.int .u32 (v.b:Int)∧s7=.int .u32 (v.c:Int)∧s8=.int .u32 (v.d:Int)∧s9=.int .u32 (v.e:Int)∧s10=.int .u32 (v.f:Int)∧s11=.int .u32 (v.g:Int)∧s12=.int .u32 (v.h:Int)
theorem zc6 (a b:Nat):IntKind.u32.wrap ((a:Int)+(b:Int))=(((a+b) % 4294967296:Nat):Int):=by rw[IntKind.wrap_u32'];omega
theorem zbk (a b:Nat):((a:Int)+(b:Int)) % 4294967296=(((a+b) % 4294967296:Nat):Int):=by omega
theorem zwy (s:Wd)(l:List Nat)(w:World)(hs:s.Ok)(hl:l.length=64)(hby:∀ x∈l,x<256)(ht:Tabs w) :
 Calls Tryz.prog 236 #[.agg (cw s.list),.agg (cb l)] w fun e w'=>e=.returned (.agg (cw (zb5 kL s l).list))∧Below w.heap.size w w':=by
 have HL:=hide hl;have HT:=hide ht.2;have hp:=ht.pos;clear hl ht;rw[zjq];go_enter Tryz.func236,Tryz.ntmps236
 go_wp2_with fail
 have hb0:Below w.heap.size w (((w.alloc (.cells #[.int .u32 (s.a:Int),.int .u32 (s.b:Int),.int .u32 (s.c:Int),.int .u32 (s.d:Int),.int .u32 (s.e:Int),.int .u32 (s.f:Int),.int .u32 (s.g:Int),.int .u32 (s.h:Int)] 88)).alloc (.cells (cb l) 255)).alloc (.cells (cw (List.replicate 8 0)) 88)):=(((Below.refl _ _).alloc (Nat.le_refl _) _).alloc (by simp) _).alloc (by simp;omega) _;refine zw9 (fun W=>Bk W w.heap.size 88 (cw s.list)∧Bk W (w.heap.size+1) 255 (cb l)∧Bk W (w.heap.size+1+1) 88 (cw (List.replicate 8 0))∧Below w.heap.size w W) ⟨((Bk.new w _ _).alloc _).alloc _,(Bk.new2 w _ _ _).alloc _,Bk.new3 w _ _ _ _,hb0⟩ ?_;clear hb0;rintro W ⟨b0,b1,b2,hb⟩;have B0:=hide b0;have B1:=hide b1;have B2:=hide b2;have HB:=hide hb;have c0:=b0.cell 0;have c1:=b0.cell 1;have c2:=b0.cell 2;have c3:=b0.cell 3;have c4:=b0.cell 4;have c5:=b0.cell 5;have c6:=b0.cell 6;have c7:=b0.cell 7
 rw[zjq] at c0 c1 c2 c3 c4 c5 c6 c7;simp only[List.getElem?_toArray,List.getElem?_cons_zero,List.getElem?_cons_succ] at c0 c1 c2 c3 c4 c5 c6 c7;clear b0 b1 b2 hb
 go_quiet (fail)
 refine zgc (fun W=>Bk W w.heap.size 88 (cw s.list)∧Bk W (w.heap.size+1) 255 (cb l)∧Bk W (w.heap.size+1+1) 88 (cw (List.replicate 8 0))∧Below w.heap.size w W) ⟨B0.o,B1.o,B2.o,zjr HB.o nq⟩ ?_;clear B0 B1 B2 HB c0 c1 c2 c3 c4 c5 c6 c7 nq;clear W;rintro W ⟨b0,b1,b2,hb⟩;have B0:=hide b0;have B1:=hide b1;have B2:=hide b2;have HB:=hide hb;clear b0 b1 b2 hb;go_wp2_with (with_reducible refine stn 33 ?_)
 refine heldB (wpList_load_mid rfl 255 (.tmp 3) rfl (w.heap.size+1) 0 rfl _ _ B1.o.range Tryz.underlying255 rfl (by rw[Array.length_toList,qn,HL.o];exact ze4) ?_);go_wp2_with fail
 refine(zxb l _ HL.o hby).mono ?_;rintro e W2 ⟨rfl,hb2⟩;have hlen:=zjo l;have hlt:=zn7 l;obtain⟨ws,hws⟩:∃ ws,ws=zcu l:=⟨_,rfl⟩;rw[← hws] at hlen hlt ⊢;have HWS:=hide hws;have HLEN:=hide hlen;have B0':=hide (B0.o.below hb2 B0.o.lt);have B2':=hide (B2.o.below hb2 B2.o.lt);have HB':=hide (HB.o.trans (hb2.mono HB.o.size));clear hws hlen B0 B1 B2 HB hb2;go_wp2
 go_loopw [5,6,7,8,9,10,11,12,35] (fun s5 s6 s7 s8 s9 s10 s11 s12 i wr=>∃ k:Nat,k≤64∧i=.int .i64 k∧WdAt (za9 kL ws s k) s5 s6 s7 s8 s9 s10 s11 s12∧Bk wr w.heap.size 88 (cw s.list)∧Bk wr (w.heap.size+1+1) 88 (cw (List.replicate 8 0))∧Below w.heap.size w wr) (fun _ _ _ _ _ _ _ _ i _=>64-(intOf i).toNat)
 case atStart=>exact⟨0,Nat.zero_le _,rfl,by rw[zoe];exact⟨rfl,rfl,rfl,rfl,rfl,rfl,rfl,rfl⟩,B0'.o,B2'.o,HB'.o⟩
 case round =>
  obtain⟨k,hk,rfl,hwd,b0,b2,hb⟩:=hrel;have hok:=zjp kL ws hs k;by_cases hlt64:k<64
  ·have HS:=hide (zof kL ws s k)
   generalize za9 kL ws s k=v at *;obtain⟨rfl,rfl,rfl,rfl,rfl,rfl,rfl,rfl⟩:=hwd;have hix:=fun W=>zoo (P:=Tryz.prog) (w:=W) Tryz.underlying90 Tryz.underlying87 (by kernel_rfl) hlt64 (zjs (l:=ws) (i:=k) (by rw[HLEN.o];exact hlt64));have hwk:=hlt.lt k;have hkk:=kL_lt.lt k;have hcK:wr.cell? ⟨2,k,none⟩=some (.int .u32 ((zf kL k:Nat):Int)):=(hb.cell (p:=⟨2,k,none⟩) hp).trans (HT.o k hlt64);obtain⟨a,b,c,d,e,f,g,h⟩:=v;obtain⟨oa,ob,oc,od,oe,of,og,oh⟩:=hok;simp only at oa ob oc od oe of og oh ⊢;have HT1:Hid (t1N ⟨a,b,c,d,e,f,g,h⟩ (zf kL k) (zf ws k)=((((h+g1N e) % 4294967296+chN e f g) % 4294967296+zf kL k) % 4294967296+zf ws k) % 4294967296):=hide rfl;have HT2:Hid (t2N ⟨a,b,c,d,e,f,g,h⟩=(g0N a+majN a b c) % 4294967296):=hide rfl;generalize zf kL k=kk at *;generalize zf ws k=wk at *;have h1:=u32_and_nat e f oe of
   have h2:bits .xor .u32 (if IntKind.u32.signed=true then -1 else IntKind.u32.max) (e:Int)=((e ^^^ 4294967295:Nat):Int):=zom oe;have h3:=u32_and_nat (e ^^^ 4294967295) g (jz oe (by omega)) og;have h4:=u32_xor_nat (e &&& f) ((e ^^^ 4294967295) &&& g) (zbj _ oe) (zbj _ (jz oe (by omega)));have hz:=zwq oe;have s1:=zc6 h (g1N e);have s2:=zc6 ((h+g1N e) % 4294967296) ((e &&& f) ^^^ ((e ^^^ 4294967295) &&& g));have s3:=zc6 (((h+g1N e) % 4294967296+((e &&& f) ^^^ ((e ^^^ 4294967295) &&& g))) % 4294967296) kk;have s4:=zc6 ((((h+g1N e) % 4294967296+((e &&& f) ^^^ ((e ^^^ 4294967295) &&& g))) % 4294967296+kk) % 4294967296) wk;generalize hx1:(h+g1N e) % 4294967296=x1 at *;generalize hx2:(x1+((e &&& f) ^^^ ((e ^^^ 4294967295) &&& g))) % 4294967296=x2 at *;generalize hx3:(x2+kk) % 4294967296=x3 at *;generalize hx4:(x3+wk) % 4294967296=x4 at *
   have HX:=hide (And.intro hx1 (And.intro hx2 (And.intro hx3 hx4)));clear hx1 hx2 hx3 hx4;have H0:=hide b0;have H2:=hide b2;have H3:=hide hb;clear b0 b2 hb;go_wp2_with fail
   go_quiet ((go_at_call 288;exact Calls.quiet_of_same ((zw4 e _ oe).mono (fun _ _ h=>⟨h.1,h.2.symm⟩))))
   refine zgc (fun W=>Bk W w.heap.size 88 (cw s.list)∧Bk W (w.heap.size+1+1) 88 (cw (List.replicate 8 0))∧Below w.heap.size w W) ⟨H0.o,H2.o,zjr H3.o nq⟩ ?_;clear H0 H2 H3 nq hcK h1 h2 h3 h4 s1 s2 s3 s4 hix hz;rintro W3 ⟨b0,b2,hb⟩;have H0:=hide b0;have H2:=hide b2;have H3:=hide hb;clear b0 b2 hb;have m1:=u32_and_nat a b oa ob;have m2:=u32_and_nat a c oa oc;have m3:=u32_and_nat b c ob oc;have m4:=u32_xor_nat (a &&& b) (a &&& c) (zbj _ oa) (zbj _ oa);have m5:=u32_xor_nat ((a &&& b) ^^^ (a &&& c)) (b &&& c) (jz (zbj _ oa) (zbj _ oa)) (zbj _ ob);have m6:=zbk (g0N a) ((a &&& b) ^^^ (a &&& c) ^^^ (b &&& c));generalize hy:(g0N a+((a &&& b) ^^^ (a &&& c) ^^^ (b &&& c))) % 4294967296=y at *;have m7:=zbk x4 y;have m8:=zbk d x4;generalize hx5:(x4+y) % 4294967296=x5 at *;generalize hx6:(d+x4) % 4294967296=x6 at *;have HY:=hide (And.intro hy (And.intro hx5 hx6))
   clear hy hx5 hx6;go_wp2_with fail
   refine(zw3 a _ oa).mono ?_;rintro e w' ⟨rfl,rfl⟩;go_wp2
   go_roundw
   case rel =>
    refine⟨k+1,by omega,by go_num,?_,H0.o,H2.o,H3.o⟩;have e4:t1N ⟨a,b,c,d,e,f,g,h⟩ kk wk=x4:=by
     obtain⟨h1,h2,h3,h4⟩:=HX.o;rw[HT1.o,← h4,← h3,← h2];rfl
    have e5:t2N ⟨a,b,c,d,e,f,g,h⟩=y:=by rw[HT2.o];exact HY.o.1
    have e6:zeg ⟨a,b,c,d,e,f,g,h⟩ kk wk=⟨x5,a,b,c,x6,e,f,g⟩:=by
     unfold zeg;rw[e4,e5,HY.o.2.1,HY.o.2.2]
    rw[HS.o,e6];exact⟨by rw[m7],rfl,rfl,rfl,by rw[m8],rfl,rfl,rfl⟩
   case measure=>simp[intOf];omega
  ·have hk64:k=64:=by omega
   rw[hk64] at hwd;have HSt:Hid (zb5 kL s l=sumN s (za9 kL ws s 64)):=hide (by rw[HWS.o];rfl);have hlk:¬ (k:Int)<64:=by omega
   clear hk64 hlt64 hk hok;generalize za9 kL ws s 64=v at *;obtain⟨rfl,rfl,rfl,rfl,rfl,rfl,rfl,rfl⟩:=hwd;have B0:=hide b0;have B2:=hide b2;have HB:=hide hb;have c0:=b0.cell 0;have c1:=b0.cell 1;have c2:=b0.cell 2;have c3:=b0.cell 3;have c4:=b0.cell 4;have c5:=b0.cell 5;have c6:=b0.cell 6;have c7:=b0.cell 7;rw[zjq] at c0 c1 c2 c3 c4 c5 c6 c7;simp only[List.getElem?_toArray,List.getElem?_cons_zero,List.getElem?_cons_succ] at c0 c1 c2 c3 c4 c5 c6 c7;clear b0 b2 hb;have m0:=zbk s.a v.a;have m1:=zbk s.b v.b;have m2:=zbk s.c v.c;have m3:=zbk s.d v.d;have m4:=zbk s.e v.e;have m5:=zbk s.f v.f;have m6:=zbk s.g v.g;have m7:=zbk s.h v.h;generalize hr0:(s.a+v.a) % 4294967296=r0 at *;generalize hr1:(s.b+v.b) % 4294967296=r1 at *;generalize hr2:(s.c+v.c) % 4294967296=r2 at *;generalize hr3:(s.d+v.d) % 4294967296=r3 at *
   generalize hr4:(s.e+v.e) % 4294967296=r4 at *;generalize hr5:(s.f+v.f) % 4294967296=r5 at *;generalize hr6:(s.g+v.g) % 4294967296=r6 at *;generalize hr7:(s.h+v.h) % 4294967296=r7 at *;have HSU:Hid (sumN s v=⟨r0,r1,r2,r3,r4,r5,r6,r7⟩):=hide (by unfold sumN;rw[hr0,hr1,hr2,hr3,hr4,hr5,hr6,hr7]);clear hr0 hr1 hr2 hr3 hr4 hr5 hr6 hr7;go_wp2_with ((with_reducible show wpList _ _ _ (⟨none,.store _ _ _,_,_,_,_⟩::_) _ _);refine holdB ?_)
   refine heldB (zi rfl 88 (.tmp 4) (.tmp 117) rfl (w.heap.size+1+1) 0 (cw [r0,r1,r2,r3,r4,r5,r6,r7]) rfl rfl 88 _ B2.o (by simp[z8]) jo (zb6 _) ?_);intro w' hw';rw[zbl (by simp[z8])] at hw';have B1:=hide (hw'.out ▸ B2.o.setRow_same (cw [r0,r1,r2,r3,r4,r5,r6,r7]):Bk w' _ _ _);have hb2:=hw'.out ▸ below_setRow HB.o (g:=w.heap.size+1+1) (by omega) (cw [r0,r1,r2,r3,r4,r5,r6,r7]);clear hw' B0 B2 HB c0 c1 c2 c3 c4 c5 c6 c7;go_wp2
   refine bodyPost_ret (v:=.agg (cw [r0,r1,r2,r3,r4,r5,r6,r7])) ?_ rfl ⟨by rw[HSt.o,HSU.o];rfl,hb2⟩;exact qi (a:=⟨w.heap.size+1+1,0,none⟩) rfl rfl (B1.o.load Tryz.underlying88 rfl jo)
theorem zwz (ws:List Nat)(w:World)(hl:ws.length=8)(hw:W32 ws):Calls Tryz.prog 237 #[.agg (cw ws)] w fun e w'=>e=.returned (.agg (cb (flN ws 32)))∧Below w.heap.size w w':=by
 have HL:=hide hl;clear hl;go_enter Tryz.func237,Tryz.ntmps237
 go_wp2_with (with_reducible refine stn 2 ?_)
 refine heldB (zbc rfl 25 rfl _ zgb ?_);go_wp2_with (with_reducible refine stn 3 ?_)
 refine heldB (zbc rfl 25 rfl _ zgb ?_);have hb0:Below w.heap.size w (((w.alloc (.cells (cw ws) 88)).alloc (.cells (cb (List.replicate 32 0)) 25)).alloc (.cells (cb (List.replicate 32 0)) 25)):=(((Below.refl _ _).alloc (Nat.le_refl _) _).alloc (by simp) _).alloc (by simp;omega) _;refine zdz (fun W=>Bk W w.heap.size 88 (cw ws)∧Bk W (w.heap.size+1) 25 (cb (List.replicate 32 0))∧Bk W (w.heap.size+1+1) 25 (cb (List.replicate 32 0))∧Below w.heap.size w W) ⟨((Bk.new w _ _).alloc _).alloc _,(Bk.new2 w _ _ _).alloc _,Bk.new3 w _ _ _ _,hb0⟩ ?_;clear hb0;rintro W ⟨b0,b1,b2,hb0⟩;have B0:=hide b0;have B1:=hide b1;have B2:=hide b2;have HB0:=hide hb0;clear b0 b1 b2 hb0;go_wp2
 go_loopw [5] (fun i wr=>∃ k:Nat,k≤32∧i=.int .i64 k∧Bk wr w.heap.size 88 (cw ws)∧Bk wr (w.heap.size+1) 25 (cb (List.replicate 32 0))∧Bk wr (w.heap.size+1+1) 25 (cb (flN ws k))∧Below w.heap.size w wr) (fun i _=>32-(intOf i).toNat)
 case atStart=>exact⟨0,Nat.zero_le _,rfl,B0.o,B1.o,by rw[zoh];exact B2.o,HB0.o⟩
 case round =>
  obtain⟨k,hk,rfl,b0,b1,b2,hb⟩:=hrel;by_cases hlt:k<32
  ·have hq:k / 4<8:=by omega
   have hc:=b0.word (i:=k / 4) (by rw[HL.o];exact hq);have hx:=hw.lt (k / 4);have hc2:=b2.byte (i:=k) (by rw[zga];exact hlt);have hf:=b2.frozen k;have HF:=hide (zoi ws k);have HN:Hid (zf9 ws k=zf ws (k / 4) / 2 ^ (24-8*(k % 4)) % 256):=hide rfl;obtain⟨sh,hsh⟩:∃ sh:Nat,sh=24-8*(k % 4):=⟨_,rfl⟩;have e1:(24:Int)-(k:Int) % 4*8=(sh:Int):=by omega
   have hsh2:sh≤24:=by omega
   rw[← hsh] at HN;have H0:=hide b0;have H1:=hide b1;have H2:=hide b2;have H3:=hide hb;clear b0 b1 b2 hb hsh;generalize zf ws (k / 4)=x at *;generalize zf (flN ws k) k=y at *;go_wp2
   go_roundw
   case rel =>
    refine⟨k+1,by omega,by go_num,H0.o.far (by show w.heap.size≠w.heap.size+1+1;omega) _,H1.o.far (by simp) _,?_,H3.o.setCell (by simp;omega) _⟩;rw[HF.o,HN.o];refine H2.o.putb _ _ ?_;rw[Int.natCast_emod,Int.natCast_ediv,Int.natCast_pow];rfl
   case measure=>simp[intOf];omega
  ·have hk32:k=32:=by omega
   rw[hk32] at b2;have hlk:¬ (k:Int)<32:=by omega
   clear hk32 hlt hk;have hsz:=zga ws 32;obtain⟨fs,hfs⟩:∃ fs,fs=flN ws 32:=⟨_,rfl⟩;rw[← hfs] at hsz b2;have HFS:=hide hfs;have HLEN:=hide hsz;clear hfs hsz;have H1:=hide b1;have H2:=hide b2;have H3:=hide hb;clear b0 b1 b2 hb;go_wp2_with (with_reducible refine stn 21 ?_)
   refine heldB (wpList_load_mid rfl 25 (.tmp 3) rfl (w.heap.size+1+1) 0 rfl _ _ H2.o.range Tryz.underlying25 rfl (by rw[Array.length_toList,qn,HLEN.o];exact zdy) ?_);rw[Array.toArray_toList];refine zi rfl 25 (.tmp 2) (.tmp 21) rfl (w.heap.size+1) 0 (cb fs) rfl rfl 25 _ H1.o (by rw[qn,qn,HLEN.o];simp) (by rw[qn,HLEN.o];exact zdy) (zjt _) ?_;intro w' hw';rw[zbl (by rw[qn,qn,HLEN.o];simp)] at hw';have B1:=hide (hw'.out ▸ H1.o.setRow_same (cb fs):Bk w' _ _ _);have hb2:=hw'.out ▸ below_setRow H3.o (g:=w.heap.size+1) (by omega) (cb fs);clear hw' H1 H2 H3;go_wp2
   refine bodyPost_ret (v:=.agg (cb fs)) ?_ rfl ⟨by rw[HFS.o],hb2⟩;exact qi (a:=⟨w.heap.size+1,0,none⟩) rfl rfl (B1.o.load Tryz.underlying25 rfl (by rw[qn,HLEN.o];exact zdy))
end Go.Proofs.YtmjjefnmabbgdaaGreatDoor
