/- A part of the proof. -/
import Derived.Test.YtmjjefnmabbgdaaGreatDoorProg
import Derived.Test.YtmjjefnmabbgdaaGreatDoorSWide
import Derived.BigRegion
import Derived.StillTailTactics
import Derived.IntWalk
namespace Go.Proofs.YtmjjefnmabbgdaaGreatDoor
open List renaming setIfInBounds_toArray → jA
set_option linter.unusedVariables false
set_option linter.unusedSimpArgs false
set_option maxRecDepth 100000
set_option maxHeartbeats 16000000
open Go.RowKit
theorem zw0 (n:Nat)(hn:0<n)(hn2:n<32):bits .and .u64 (IntKind.u64.wrap (-(n:Int))) 31=((32-n:Nat):Int):=by
 have e:IntKind.u64.wrap (-(n:Int))=((18446744073709551616-n:Nat):Int):=by rw[IntKind.wrap_u64];omega
 rw[e];have:=u64_and_nat (18446744073709551616-n) 31 (by omega) (by omega);rw[nat_mask5] at this;rw[show(31:Int)=((31:Nat):Int)from rfl,this]
 congr 1
 omega
theorem zw1 {x n:Nat}(hx:x<4294967296)(hn:n≤32):bits .or .u32 ((x:Int)*2 ^ (32-n) % 4294967296) ((x:Int) / 2 ^ n)=((rotN x n:Nat):Int):=by
 have e1:((x*2 ^ (32-n) % 4294967296:Nat):Int)=(x:Int)*2 ^ (32-n) % 4294967296:=by rw[Int.natCast_emod,Int.natCast_mul,Int.natCast_pow];rfl
 have e2:((x / 2 ^ n:Nat):Int)=(x:Int) / 2 ^ n:=by rw[Int.natCast_ediv,Int.natCast_pow];rfl
 rw[← zwo hx hn,← u32_or_nat _ _ (Nat.mod_lt _ (by omega)) (Nat.lt_of_le_of_lt (Nat.div_le_self _ _) hx),e1,e2]
theorem zw2 (x n:Nat)(w:World)(hx:x<4294967296)(hn:0<n)(hn2:n<32):Calls Tryz.prog 333 #[.int .u32 (x:Int),.int .i64 (-(n:Int))] w fun e w'=>e=.returned (.int .u32 ((rotN x n:Nat):Int))∧w=w':=by
 have ha:=zw0 n hn hn2;have HR:=hide (zw1 hx (show n≤32 by omega));obtain⟨m,hm⟩:∃ m,m=32-n:=⟨_,rfl⟩;rw[← hm] at ha HR;have hm1:0<m:=by omega
 have hm2:m<32:=by omega
 have HM:=hide (show 32-m=n by omega);clear hm;go_enter Tryz.func333,Tryz.ntmps333
 go_wp2
 go_ret;exact⟨zbt (by rw[HM.o];exact HR.o),rfl⟩
theorem zcv (x n:Nat)(w:World)(hx:x<4294967296)(hn:0<n)(hn2:n<32):Calls Tryz.prog 312 #[.int .u32 (x:Int),.int .i64 (n:Int)] w fun e w'=>e=.returned (.int .u32 ((rotN x n:Nat):Int))∧w=w':=by
 go_enter Tryz.func312,Tryz.ntmps312
 go_wp2_with fail
 refine(zw2 x n _ hx hn hn2).mono ?_;rintro e w' ⟨rfl,rfl⟩;go_wp2
 go_ret;exact⟨rfl,rfl⟩
theorem zw3 (x:Nat)(w:World)(hx:x<4294967296):Calls Tryz.prog 289 #[.int .u32 (x:Int)] w fun e w'=>e=.returned (.int .u32 ((g0N x:Nat):Int))∧w=w':=by
 have h1:=ja (n:=2) hx (by omega);have h2:=ja (n:=13) hx (by omega);have h3:=ja (n:=22) hx (by omega);have e1:=u32_xor_nat _ _ h1 h2;have e2:=u32_xor_nat _ _ (jz h1 h2) h3;go_enter Tryz.func289,Tryz.ntmps289
 go_wp2_with fail
 refine(zcv x 2 _ hx (by omega) (by omega)).mono ?_;rintro e w' ⟨rfl,rfl⟩;go_wp2_with fail
 refine(zcv x 13 _ hx (by omega) (by omega)).mono ?_;rintro e w' ⟨rfl,rfl⟩;go_wp2_with fail
 refine(zcv x 22 _ hx (by omega) (by omega)).mono ?_;rintro e w' ⟨rfl,rfl⟩;go_wp2
 go_ret;exact⟨rfl,rfl⟩
theorem zw4 (x:Nat)(w:World)(hx:x<4294967296):Calls Tryz.prog 288 #[.int .u32 (x:Int)] w fun e w'=>e=.returned (.int .u32 ((g1N x:Nat):Int))∧w=w':=by
 have h1:=ja (n:=6) hx (by omega);have h2:=ja (n:=11) hx (by omega);have h3:=ja (n:=25) hx (by omega);have e1:=u32_xor_nat _ _ h1 h2;have e2:=u32_xor_nat _ _ (jz h1 h2) h3;go_enter Tryz.func288,Tryz.ntmps288
 go_wp2_with fail
 refine(zcv x 6 _ hx (by omega) (by omega)).mono ?_;rintro e w' ⟨rfl,rfl⟩;go_wp2_with fail
 refine(zcv x 11 _ hx (by omega) (by omega)).mono ?_;rintro e w' ⟨rfl,rfl⟩;go_wp2_with fail
 refine(zcv x 25 _ hx (by omega) (by omega)).mono ?_;rintro e w' ⟨rfl,rfl⟩;go_wp2
 go_ret;exact⟨rfl,rfl⟩
theorem zw5 (x:Nat)(w:World)(hx:x<4294967296):Calls Tryz.prog 311 #[.int .u32 (x:Int)] w fun e w'=>e=.returned (.int .u32 ((s0N x:Nat):Int))∧w=w':=by
 have h1:=ja (n:=7) hx (by omega);have h2:=ja (n:=18) hx (by omega);have e1:=u32_xor_nat _ _ h1 h2;have e2:=hide (u32_xor_nat (rotN x 7 ^^^ rotN x 18) (x / 8) (jz h1 h2) (by omega));go_enter Tryz.func311,Tryz.ntmps311
 go_wp2_with fail
 refine(zcv x 7 _ hx (by omega) (by omega)).mono ?_;rintro e w' ⟨rfl,rfl⟩;go_wp2_with fail
 refine(zcv x 18 _ hx (by omega) (by omega)).mono ?_;rintro e w' ⟨rfl,rfl⟩;go_wp2
 go_ret;exact⟨zbt e2.out,rfl⟩
theorem zw6 (x:Nat)(w:World)(hx:x<4294967296):Calls Tryz.prog 310 #[.int .u32 (x:Int)] w fun e w'=>e=.returned (.int .u32 ((s1N x:Nat):Int))∧w=w':=by
 have h1:=ja (n:=17) hx (by omega);have h2:=ja (n:=19) hx (by omega);have e1:=u32_xor_nat _ _ h1 h2;have e2:=hide (u32_xor_nat (rotN x 17 ^^^ rotN x 19) (x / 1024) (jz h1 h2) (by omega));go_enter Tryz.func310,Tryz.ntmps310
 go_wp2_with fail
 refine(zcv x 17 _ hx (by omega) (by omega)).mono ?_;rintro e w' ⟨rfl,rfl⟩;go_wp2_with fail
 refine(zcv x 19 _ hx (by omega) (by omega)).mono ?_;rintro e w' ⟨rfl,rfl⟩;go_wp2
 go_ret;exact⟨zbt e2.out,rfl⟩
def uv (x:Nat):Value:=.int .u32 (x:Int)
def cw (l:List Nat):Array Value:=(l.map uv).toArray
def cb (l:List Nat):Array Value:=(l.map bv).toArray
theorem z8 (l:List Nat):(cw l).size=l.length:=by simp[cw]
theorem qn (l:List Nat):(cb l).size=l.length:=by simp[cb]
theorem zjs {l:List Nat}{i:Nat}(h:i<l.length):(cw l)[i]?=some (.int .u32 ((zf l i:Nat):Int)):=by
 unfold cw zf uv;simp[h]
theorem zdw {l:List Nat}{i:Nat}(h:i<l.length):(cb l)[i]?=some (.int .u8 ((zf l i:Nat):Int)):=by
 unfold cb zf bv;simp[h]
theorem zw7 (l:List Nat)(i x:Nat):(cw l).setIfInBounds i (.int .u32 (x:Int))=cw (l.set i x):=by
 unfold cw;rw[List.map_set,← jA];rfl
theorem zw8 (l:List Nat)(i x:Nat):(cb l).setIfInBounds i (.int .u8 (x:Int))=cb (l.set i x):=by
 unfold cb;rw[List.map_set,← jA];rfl
theorem zb6 (l:List Nat):∀ v∈(cw l).toList,v.oneCell'=true:=by
 intro v hv;simp only[cw,List.mem_map] at hv;obtain⟨x,_,rfl⟩:=hv;rfl
theorem zjt (l:List Nat):∀ v∈(cb l).toList,v.oneCell'=true:=by
 intro v hv;simp only[cb] at hv;exact zht l v hv
theorem Bk.word {w:World}{g:Nat}{t:TypeId}{l:List Nat}(h:Bk w g t (cw l)){i:Nat}(hi:i<l.length):w.cell? ⟨g,i,none⟩=some (.int .u32 ((zf l i:Nat):Int)):=(h.cell i).trans (zjs hi)
theorem Bk.byte {w:World}{g:Nat}{t:TypeId}{l:List Nat}(h:Bk w g t (cb l)){i:Nat}(hi:i<l.length):w.cell? ⟨g,i,none⟩=some (.int .u8 ((zf l i:Nat):Int)):=(h.cell i).trans (zdw hi)
theorem Bk.putw {w:World}{g:Nat}{t:TypeId}{l:List Nat}(h:Bk w g t (cw l))(i x:Nat){z:Int}(hz:z=(x:Int)):Bk (w.setCell ⟨g,i,none⟩ (.int .u32 z)) g t (cw (l.set i x)):=by
 subst hz;rw[← zw7];exact h.put i _
theorem Bk.putb {w:World}{g:Nat}{t:TypeId}{l:List Nat}(h:Bk w g t (cb l))(i x:Nat){z:Int}(hz:z=(x:Int)):Bk (w.setCell ⟨g,i,none⟩ (.int .u8 z)) g t (cb (l.set i x)):=by
 subst hz;rw[← zw8];exact h.put i _
theorem ze2:(Tryz.prog.info? 90).map (·.zero)=some (some (.agg (cw (List.replicate 64 0)))):=by kernel_rfl
theorem zgb:(Tryz.prog.info? 25).map (·.zero)=some (some (.agg (cb (List.replicate 32 0)))):=by kernel_rfl
theorem ze3:(Tryz.prog.info? 88).map (·.zero)=some (some (.agg (cw (List.replicate 8 0)))):=by kernel_rfl
theorem zdx:(Tryz.prog.info? 90).map (·.size)=some 64:=by kernel_rfl
theorem zdy:(Tryz.prog.info? 25).map (·.size)=some 32:=by kernel_rfl
theorem jo:(Tryz.prog.info? 88).map (·.size)=some 8:=by kernel_rfl
theorem ze4:(Tryz.prog.info? 255).map (·.size)=some 64:=by kernel_rfl
theorem zon {l:List Nat}(h:∀ x∈l,x<256)(i:Nat):zf l i<256:=by
 unfold zf;rw[List.getD_eq_getElem?_getD];cases hx:l[i]? with
 | none=>simp
 | some x=>exact h x (List.mem_of_getElem? hx)
section
variable {P:Program}
theorem zoo {w:World}{t e:TypeId}{n:Nat}{cs:Array Value}{v:Value}{k:IntKind}(ht:P.underlying t=some (.array n e))(he:P.underlying e=some (.int k))(hs:(P.info? e).map (·.size)=some 1){i:Nat}(hi:i<n)(hc:cs[i]?=some v) :
 (Instr.index t (.agg cs) (.int .i64 (i:Int))).run P w=.ok v w:=by
 cases hq:P.info? e with
 | none=>simp[hq] at hs
 | some d =>
   have hd:d.size=1:=by simpa [hq] using hs
   simp[Instr.index,asIntOf,run_underlying ht,hi,sizeOf,typeInfo,hq,hd,part,isAgg,run_underlying he,hc]
theorem zdz {ops:Array Oper}{l:List Oper}{a:Act}{W:World}{Q:Exit→Act→World→Prop}(F:World→Prop)(hF:F W)(h:∀ W',F W'→wpList P ops Q l a W'):wpList P ops Q l a W:=h W hF
theorem zgc {K:Act→World→Prop}{Q:Exit→Act→World→Prop}{e:Exit}{a:Act}{W:World}(F:World→Prop)(hF:F W)(h:∀ W',F W'→Exit.then K Q e a W'):Exit.then K Q e a W:=h W hF
theorem zw9 {c:Code}{a:Act}{W:World}{Q:Exit→Act→World→Prop}(F:World→Prop)(hF:F W)(h:∀ W',F W'→c.wp P Q a W'):c.wp P Q a W:=h W hF
end
theorem zxa {x c:Nat}(hx:x<4294967296)(hc:c<256):bits .or .u32 ((x:Int)*256 % 4294967296) (c:Int)=(((x*256+c) % 4294967296:Nat):Int):=by
 have h:=u32_or_nat (x*256 % 4294967296) c (by omega) (by omega);rw[nat_join 8 _ _ (by omega) (by omega)] at h;rw[show(x:Int)*256 % 4294967296=((x*256 % 4294967296:Nat):Int)by omega,h];omega
theorem zxb (l:List Nat)(w:World)(hl:l.length=64)(hby:∀ x∈l,x<256):Calls Tryz.prog 287 #[.agg (cb l)] w fun e w'=>e=.returned (.agg (cw (zcu l)))∧Below w.heap.size w w':=by
 have HL:=hide hl;clear hl;go_enter Tryz.func287,Tryz.ntmps287
 go_wp2_with (with_reducible refine stn 2 ?_)
 refine heldB (zbc rfl 90 rfl _ ze2 ?_);go_wp2_with (with_reducible refine stn 3 ?_)
 refine heldB (zbc rfl 90 rfl _ ze2 ?_);have b0:Bk (((w.alloc (.cells (cb l) 255)).alloc (.cells (cw (List.replicate 64 0)) 90)).alloc (.cells (cw (List.replicate 64 0)) 90)) w.heap.size 255 (cb l):=((Bk.new w _ _).alloc _).alloc _;have b1:Bk (((w.alloc (.cells (cb l) 255)).alloc (.cells (cw (List.replicate 64 0)) 90)).alloc (.cells (cw (List.replicate 64 0)) 90)) (w.heap.size+1) 90 (cw (List.replicate 64 0)):=(Bk.new2 w _ _ _).alloc _;have b2:Bk (((w.alloc (.cells (cb l) 255)).alloc (.cells (cw (List.replicate 64 0)) 90)).alloc (.cells (cw (List.replicate 64 0)) 90)) (w.heap.size+1+1) 90 (cw (List.replicate 64 0)):=Bk.new3 w _ _ _ _;have hb0:Below w.heap.size w (((w.alloc (.cells (cb l) 255)).alloc (.cells (cw (List.replicate 64 0)) 90)).alloc (.cells (cw (List.replicate 64 0)) 90)):=(((Below.refl _ _).alloc (Nat.le_refl _) _).alloc (by simp) _).alloc (by simp;omega) _
 refine zdz (fun W=>Bk W w.heap.size 255 (cb l)∧Bk W (w.heap.size+1) 90 (cw (List.replicate 64 0))∧Bk W (w.heap.size+1+1) 90 (cw (List.replicate 64 0))∧Below w.heap.size w W) ⟨b0,b1,b2,hb0⟩ ?_;clear b0 b1 b2 hb0;rintro W ⟨b0,b1,b2,hb0⟩;have HB1:=hide b1;clear b1;go_wp2_with (with_reducible refine stn 7 ?_)
 refine heldB (wpList_load_mid rfl 255 (.tmp 1) rfl w.heap.size 0 rfl _ _ b0.range Tryz.underlying255 rfl (by rw[Array.length_toList,qn,HL.o];exact ze4) ?_);go_wp2
 go_loopw [8] (fun i wr=>∃ k:Nat,k≤64∧i=.int .i64 k∧Bk wr (w.heap.size+1) 90 (cw (List.replicate 64 0))∧Bk wr (w.heap.size+1+1) 90 (cw (zy l k))∧Below w.heap.size w wr) (fun i _=>64-(intOf i).toNat)
 case atStart=>exact⟨0,Nat.zero_le _,rfl,HB1.o,by rw[zoa];exact b2,hb0⟩
 case round =>
  obtain⟨k,hk,rfl,b1,b2,hb⟩:=hrel;by_cases hlt:k<64
  ·have hq:k / 4<64:=by omega
   have hc:=b2.word (i:=k / 4) (by rw[ze0];exact hq);have hf:=b2.frozen (k / 4);have hx:=(ze1 l k).lt (k / 4);have hcb:=zdw (l:=l) (i:=k) (by rw[HL.o];exact hlt);have hyk:=zon hby k;have hs:=zxa hx hyk;have hix:=fun W=>zoo (P:=Tryz.prog) (w:=W) Tryz.underlying255 Tryz.underlying5 (by kernel_rfl) hlt hcb;have HF:Hid (zy l (k+1)=(zy l k).set (k / 4) ((zf (zy l k) (k / 4)*256+zf l k) % 4294967296)):=hide (zob l k);have HB2:=hide b2;clear b2;generalize zf (zy l k) (k / 4)=x at *;generalize zf l k=y at *;go_wp2
   go_roundw
   case rel=>exact⟨k+1,by omega,by go_num,b1.far (by simp) _,by rw[HF.o];exact HB2.o.putw _ _ (by omega),hb.setCell (by simp;omega) _⟩
   case measure=>simp[intOf];omega
  ·have hk64:k=64:=by omega
   have e0:zy l 64=extN (zy l 64) 0:=(zoc _).symm;rw[hk64,e0] at b2;have hlk:¬ (k:Int)<64:=by omega
   clear e0 hk64 hlt hk;go_wp2
   go_loopw [6] (fun i wr=>∃ m:Nat,m≤48∧i=.int .i64 ((16+m:Nat):Int)∧Bk wr (w.heap.size+1) 90 (cw (List.replicate 64 0))∧Bk wr (w.heap.size+1+1) 90 (cw (extN (zy l 64) m))∧Below w.heap.size w wr) (fun i _=>64-(intOf i).toNat)
   case atStart=>exact⟨0,Nat.zero_le _,rfl,b1,b2,hb⟩
   case round =>
    obtain⟨m,hm,rfl,b1,b2,hb⟩:=hrel;by_cases hlt:m<48
    ·have hlen:(extN (zy l 64) m).length=64:=by rw[zhr,ze0]
     have hw:=zhs (ze1 l 64) m;have c2:=b2.word (i:=m+14) (by omega);have c7:=b2.word (i:=m+9) (by omega);have c15:=b2.word (i:=m+1) (by omega);have c16:=b2.word (i:=m) (by omega);have hf:=b2.frozen (16+m);have c0:=b2.word (i:=16+m) (by omega);have x2:=hw.lt (m+14);have x7:=hw.lt (m+9);have x15:=hw.lt (m+1);have x16:=hw.lt m;have HF:Hid (extN (zy l 64) (m+1)=(extN (zy l 64) m).set (16+m) (zef (extN (zy l 64) m) (16+m))):=hide (zod _ m);have HN:Hid (zef (extN (zy l 64) m) (16+m)=(((s1N (zf (extN (zy l 64) m) (m+14))+zf (extN (zy l 64) m) (m+9)) % 4294967296+s0N (zf (extN (zy l 64) m) (m+1))) % 4294967296+zf (extN (zy l 64) m) m) % 4294967296):=by
      unfold zef;rw[show 16+m-2=m+14 by omega,show 16+m-7=m+9 by omega,show 16+m-15=m+1 by omega,show 16+m-16=m by omega];exact hide rfl
     have HB2:=hide b2;clear b2 hw hlen;generalize zf (extN (zy l 64) m) (m+14)=y2 at *;generalize zf (extN (zy l 64) m) (m+9)=y7 at *;generalize zf (extN (zy l 64) m) (m+1)=y15 at *;generalize zf (extN (zy l 64) m) m=y16 at *;generalize zf (extN (zy l 64) m) (16+m)=y0 at *;have hz7:=zws x2;have hz15:=zwr x15;have e2:IntKind.i64.wrap (16+(m:Int)-2)=((m+14:Nat):Int):=by rw[IntWalk.i64_in _ (by omega)];omega
     have e7:IntKind.i64.wrap (16+(m:Int)-7)=((m+9:Nat):Int):=by rw[IntWalk.i64_in _ (by omega)];omega
     have e15:IntKind.i64.wrap (16+(m:Int)-15)=((m+1:Nat):Int):=by rw[IntWalk.i64_in _ (by omega)];omega
     have e16:IntKind.i64.wrap (16+(m:Int)-16)=(m:Int):=by rw[IntWalk.i64_in _ (by omega)];omega
     have et:((16:Int)+(m:Int)).toNat=16+m:=by omega
     generalize h14:m+14=m14 at *;generalize h9:m+9=m9 at *;generalize h1:m+1=m1 at *;have q2:(m14:Int)<64:=by omega
     have q7:(m9:Int)<64:=by omega
     have q15:(m1:Int)<64:=by omega
     have q16:(m:Int)<64:=by omega
     have q0:(0:Int)≤16+(m:Int):=by omega
     have H1:=hide h1;clear h14 h9 h1;go_wp2_with fail
     refine wp_region_still_tail 23 (by kernel_rfl) (by kernel_rfl) ?_;simp only[List.take_succ_cons,List.take_zero,List.drop_succ_cons,List.drop_zero]
     repeat still_step
     still_call ((zw6 y2 _ x2).mono (fun _ _ h=>⟨h.1,h.2.symm⟩))
     repeat still_step
     still_call ((zw5 y15 _ x15).mono (fun _ _ h=>⟨h.1,h.2.symm⟩))
     repeat still_step
     refine wpStill_nil ?_
     change wpList _ _ _ _ _ wr.drew
     have hf2:wr.drew.frozen? ⟨w.heap.size+1+1,16+m,none⟩=false:=hf;have cc:wr.drew.cell? ⟨w.heap.size+1+1,16+m,none⟩=some (.int .u32 (y0:Int)):=c0;have B1:=hide b1.drew;have B2:=hide HB2.o.drew;have B3:=hide hb.drew;clear b1 HB2 hb hf c0 c2 c7 c15 c16 e2 e7 e15 e16;generalize wr.drew=W3 at *;clear q2 q7 q15 q16 x2 x7 x15 x16 hz7 hz15;go_wp2
     go_roundw
     case rel =>
      refine⟨m1,by have:=H1.o;omega,by have:=H1.o;go_num,B1.o.far (by simp) _,?_,B3.o.setCell (by simp;omega) _⟩;rw[HF.o];exact B2.o.putw _ _ (by rw[HN.o];omega)
     case measure=>simp[intOf];omega
    ·have hm48:m=48:=by omega
     rw[hm48,zog] at b2;have hlm:¬ (16:Int)+(m:Int)<64:=by omega
     clear hm48 hlt hm;have hlen:=zjo l;obtain⟨ws,hws⟩:∃ ws,ws=zcu l:=⟨_,rfl⟩;rw[← hws] at hlen b2;have HWS:=hide hws;clear hws;have hsz:(cw ws).size=64:=by rw[z8,hlen]
     have HLEN:=hide hlen;clear hlen;go_wp2_with (with_reducible refine stn 51 ?_)
     refine heldB (wpList_load_mid rfl 90 (.tmp 3) rfl (w.heap.size+1+1) 0 rfl _ _ b2.range Tryz.underlying90 rfl (by rw[Array.length_toList,hsz];exact zdx) ?_);rw[Array.toArray_toList];refine zi rfl 90 (.tmp 2) (.tmp 51) rfl (w.heap.size+1) 0 (cw ws) rfl rfl 90 _ b1 (by rw[z8,z8,HLEN.o];simp) (by rw[hsz];exact zdx) (zb6 _) ?_;intro w' hw';rw[zbl (by rw[hsz,z8];simp)] at hw';have B1:=hide (hw'.out ▸ b1.setRow_same (cw ws):Bk w' _ _ _);have hb2:=hw'.out ▸ below_setRow hb (g:=w.heap.size+1) (by omega) (cw ws);clear hw' b1 b2 hb;go_wp2
     refine bodyPost_ret (v:=.agg (cw ws)) ?_ rfl ⟨by rw[HWS.o],hb2⟩;exact qi (a:=⟨w.heap.size+1,0,none⟩) rfl rfl (B1.o.load Tryz.underlying90 rfl (by rw[hsz];exact zdx))
end Go.Proofs.YtmjjefnmabbgdaaGreatDoor
