/- A part of the proof. -/
import Derived.Test.YtmjjefnmabbgdaaGreatDoorSShaRefA
import Derived.Test.YtmjjefnmabbgdaaGreatDoorSShaWalksC
namespace Go.Proofs.YtmjjefnmabbgdaaGreatDoor
open List renaming set_cons_zero → jB
set_option linter.unusedVariables false
set_option linter.unusedSimpArgs false
set_option maxRecDepth 100000
set_option maxHeartbeats 16000000
open Go.RowKit
theorem zv4:(Tryz.prog.info? 138).map (fun i=>(i.zero,i.size,i.bytes))=some (some (.int .u64 0),1,8):=by kernel_rfl
def lv (x:Nat):Value:=.int .u64 (x:Int)
theorem zno (p:Nat):qr (p+1)=qr p++if zf8 p then [p] else []:=by
 unfold qr;rw[List.range_succ,List.filter_append]
 congr 1
 cases h:zf8 p<;>simp[h]
theorem zv5 {p q:Nat}(h:p≤q):qr p <+: qr q:=by
 induction q with
 | zero => obtain rfl : p = 0 := by omega
           exact List.prefix_refl _
 | succ q ih =>
   by_cases e:p=q+1
   ·subst e;exact List.prefix_refl _
   ·exact(ih (by omega)).trans (by rw[zno];exact List.prefix_append _ _)
theorem zf7:(qr 312).length=64:=by decide +kernel
theorem zv6 {p n:Nat}(hn:n≤64)(hp:p≤312)(h:(qr p).length<n):p<312:=by
 rcases Nat.lt_or_ge p 312 with h'|h'
 ·exact h'
 ·obtain rfl:p=312:=by omega
  rw[zf7] at h;omega
theorem zv7 {p:Nat}(hp:p≤312):qr p=(qr 312).take (qr p).length:=(List.prefix_iff_eq_take.1 (zv5 hp))
theorem znp (n:Nat)(w:World)(hn:n≤64) :
 Calls Tryz.prog 89 #[.int .i64 (n:Int)] w fun e w'=>∃ A c,e=.returned (.slice A n c)∧OwnV w' w.heap.size 138 A n c (((qr 312).take n).map lv)∧Below w.heap.size w w':=by
 go_enter Tryz.func89,Tryz.ntmps89
 go_wp2
 go_loopw [3,4] (fun s t wr=>∃ (p k:Nat) (A:Option Addr) (c:Nat),2≤p∧p≤312∧k≤n∧(qr p).length=k∧t=.int .u64 (p:Int)∧s=.slice A k c∧OwnV wr w.heap.size 138 A k c ((qr p).map lv)∧Below w.heap.size w wr) (fun _ t _=>320-(intOf t).toNat)
 case atStart=>exact⟨2,0,none,0,by omega,by omega,by omega,by decide +kernel,rfl,rfl,by rw[show qr 2=[] by decide +kernel];exact OwnV.nil,Below.refl _ _⟩
 case round =>
  obtain⟨p,k,A,c,hp2,hp,hkn,hk,rfl,rfl,ho,hb⟩:=hrel;have HK:=hide hk;by_cases hlt:k<n
  ·have hp3:=zv6 hn hp (by rw[hk];exact hlt)
   have HS:=hide (zno p);clear hk;cases hpb:zee p with
   | true =>
     have HPB:Hid (qr (p+1)=qr p++[p]):=hide (by rw[HS.o];unfold zf8;rw[hpb];simp[hp2]);have HC:=zn0 p wr (by omega) hp2;rw[hpb] at HC;clear HS hpb;go_wp2_with fail
     refine HC.mono ?_;rintro e w' ⟨rfl,rfl⟩;go_wp2_with (with_reducible refine stn 16 ?_)
     refine heldB (zol rfl (.tmp 13) (.tmp 15) 135 rfl Tryz.underlying135 zv4 rfl (by omega) w.heap.size A k c _ rfl (ho.alloc _) wr.heap.size 0 (lv p) rfl (by rw[cell_of_row _ _ _ _ _ _ (heap_alloc_new wr _)];rfl) rfl (by omega) (by have:=hb.size;simp;omega) ?_);intro A3 c3 w3 ho3 hb3;have hb4:=(hb.alloc hb.size _).trans hb3;go_wp2
     go_roundw
     case rel=>exact⟨p+1,k+1,A3,c3,by omega,by omega,by omega,by rw[HPB.o,List.length_append,HK.o];rfl,by go_num,rfl,by rw[HPB.o,List.map_append];exact ho3,hb4⟩
     case measure=>simp[intOf];omega
   | false =>
     have HPB:Hid (qr (p+1)=qr p):=hide (by rw[HS.o];unfold zf8;rw[hpb];simp);have HC:=zn0 p wr (by omega) hp2;rw[hpb] at HC;clear HS hpb;go_wp2_with fail
     refine HC.mono ?_;rintro e w' ⟨rfl,rfl⟩;go_wp2
     go_roundw
     case rel=>exact⟨p+1,k,A,c,by omega,by omega,by omega,by rw[HPB.o,HK.o],by go_num,rfl,by rw[HPB.o];exact ho,hb⟩
     case measure=>simp[intOf];omega
  ·obtain rfl:k=n:=by omega
   have HT:=hide (zv7 hp);clear hk;go_wp2
   go_ret;exact⟨A,c,rfl,by rw[HT.o,HK.o] at ho;exact ho,hb⟩
def zbr (vals:List Nat)(k:Nat):List Nat:=vals.take k++List.replicate (vals.length-k) 0
theorem znq {vals:List Nat}{k:Nat}(h:k≤vals.length):(zbr vals k).length=vals.length:=by
 unfold zbr;rw[List.length_append,List.length_take,List.length_replicate];omega
theorem znr (vals:List Nat):zbr vals 0=List.replicate vals.length 0:=by simp[zbr]
theorem zns (vals:List Nat):zbr vals vals.length=vals:=by simp[zbr]
theorem znt {vals:List Nat}{k:Nat}(h:k<vals.length){x:Nat}(hx:x=zf vals k):(zbr vals k).set k x=zbr vals (k+1):=by
 unfold zbr
 rw[List.set_append_right _ _ (by rw[List.length_take];omega),List.length_take,Nat.min_eq_left (by omega),Nat.sub_self,take_snoc' vals k h,
  show vals.length-k=(vals.length-(k+1))+1 by omega,List.replicate_succ,jB,hx,List.append_assoc]
 rfl
theorem zv8:(qr 312).take 8=[2,3,5,7,11,13,17,19]:=by decide +kernel
theorem znu {f:Nat→Nat}{l:List Nat}{k:Nat}(h:k<l.length):zf (l.map f) k=f (zf l k):=by
 unfold zf;simp[h]
theorem znv {l:List Nat}{k:Nat}(h:k<l.length):(l.map lv)[k]?=some (.int .u64 ((zf l k:Nat):Int)):=by
 unfold zf lv;simp[h]
theorem znw (n k:Nat):zf ((qr 312).take n) k≤400:=by
 unfold zf;rw[List.getD_eq_getElem?_getD];cases hx:((qr 312).take n)[k]? with
 | none=>simp
 | some x =>
   have h1:=List.mem_of_mem_take (List.mem_of_getElem? hx);unfold qr at h1;have:=List.mem_range.1 (List.mem_filter.1 h1).1;simp;omega
theorem first_at {k:Nat}(h:k<8):sqN (zf ((qr 312).take 8) k) 37 % 4294967296=zf firstL k:=by
 rw[← sqs,zv8];exact(znu (f:=fun p=>sqN p 37 % 4294967296) (by simpa using h)).symm
theorem zv9 {k:Nat}(h:k<64):cuN (zf ((qr 312).take 64) k) 37 % 4294967296=zf kL k:=by
 rw[← cus,List.take_of_length_le (by rw[zf7];omega)];exact(znu (f:=fun p=>cuN p 37 % 4294967296) (by rw[zf7];exact h)).symm
theorem zwa (w:World):Calls Tryz.prog 46 #[] w fun e w'=>e=.returned (.agg (cw firstL))∧Below w.heap.size w w':=by
 go_enter Tryz.func46,Tryz.ntmps46
 go_wp2_with (with_reducible refine stn 0 ?_)
 refine heldB (zbc rfl 88 rfl _ ze3 ?_);go_wp2_with (with_reducible refine stn 1 ?_)
 refine heldB (zbc rfl 88 rfl _ ze3 ?_);refine zdz (fun W=>Bk W w.heap.size 88 (cw (List.replicate 8 0))∧Bk W (w.heap.size+1) 88 (cw (List.replicate 8 0))∧Below w.heap.size w W) ⟨(Bk.new w _ _).alloc _,Bk.new2 w _ _ _,((Below.refl _ _).alloc (Nat.le_refl _) _).alloc (by simp) _⟩ ?_;rintro W ⟨b1,b2,hb⟩;have B1:=hide b1;have B2:=hide b2;have HB:=hide hb;clear b1 b2 hb;go_wp2_with fail
 refine(znp 8 W (by omega)).mono ?_;rintro e W2 ⟨A,c,rfl,ho,hb2⟩;have hbs:=HB.o.size;have B1':=hide (B1.o.below hb2 B1.o.lt);have B2':=hide (B2.o.below hb2 B2.o.lt);have HB':=hide (HB.o.trans (hb2.mono HB.o.size));obtain⟨g,rfl,hg,hgl,hcs⟩:=ho.cells (by omega);have hgw:w.heap.size+1<g:=Nat.lt_of_lt_of_le B2.o.lt hg;have HCS:Hid (∀ k,k<8→W2.cell? ⟨g,k,none⟩=some (.int .u64 ((zf ((qr 312).take 8) k:Nat):Int))):=hide (fun k hk=>hcs k _ (znv (by rw[List.length_take,zf7];omega)));clear hcs ho B1 B2 HB hb2;clear hbs;go_wp2
 go_loopw [3] (fun i wr=>∃ k:Nat,k≤8∧i=.int .i64 (k:Int)∧Bk wr w.heap.size 88 (cw (List.replicate 8 0))∧Bk wr (w.heap.size+1) 88 (cw (zbr firstL k))∧Below w.heap.size w wr∧∀ k,k<8→wr.cell? ⟨g,k,none⟩=some (.int .u64 ((zf ((qr 312).take 8) k:Nat):Int))) (fun i _=>8-(intOf i).toNat)
 case atStart=>exact⟨0,Nat.zero_le _,rfl,B1'.o,by rw[znr,za3];exact B2'.o,HB'.o,HCS.o⟩
 case round =>
  obtain⟨k,hk,rfl,b1,b2,hb,hcs⟩:=hrel;by_cases hlt:k<8
  ·have hc:=hcs k hlt
   have hsm:=znw 8 k;have HV:=hide (first_at hlt);have hc2:=b2.word (i:=k) (by rw[znq (by rw[za3];exact hk),za3];exact hlt);have hf:=b2.frozen k;have H1:=hide b1;have H2:=hide b2;have H3:=hide hb;have H4:=hide hcs;clear b1 b2 hb hcs;generalize zf ((qr 312).take 8) k=p at *;generalize zf (zbr firstL k) k=y at *;go_wp2_with fail
   refine(zwl p _ hsm).mono ?_;rintro e w' ⟨rfl,rfl⟩;rw[HV.o];go_wp2
   go_roundw
   case rel =>
    refine⟨k+1,by omega,by go_num,H1.o.far (by show w.heap.size≠w.heap.size+1;omega) _,?_,H3.o.setCell (by simp) _,fun j hj=>?_⟩
    ·rw[← znt (show k<firstL.length by rw[za3];exact hlt) rfl];exact H2.o.putw _ _ rfl
    ·exact(World.cell?_setCell_other _ _ _ _ (by first|(simp;done)|(simp;omega))).trans (H4.o j hj)
   case measure=>simp[intOf];omega
  ·have hk8:k=firstL.length:=by rw[za3];omega
   rw[hk8,zns] at b2;have hlk:¬ (k:Int)<8:=by omega
   clear hk8 hlt hk;have B1:=hide b1;have B2:=hide b2;have H3:=hide hb;clear b1 b2 hb hcs;go_wp2_with (with_reducible refine stn 16 ?_)
   refine heldB (wpList_load_mid rfl 88 (.tmp 1) rfl (w.heap.size+1) 0 rfl _ _ B2.o.range Tryz.underlying88 rfl (by rw[Array.length_toList,z8,za3];exact jo) ?_);rw[Array.toArray_toList];refine zi rfl 88 (.tmp 0) (.tmp 16) rfl w.heap.size 0 (cw firstL) rfl rfl 88 _ B1.o (by simp[z8,za3]) (by rw[z8,za3];exact jo) (zb6 _) ?_;intro w' hw';rw[zbl (by simp[z8,za3])] at hw';have B3:=hide (hw'.out ▸ B1.o.setRow_same (cw firstL):Bk w' _ _ _);have hb2:=hw'.out ▸ below_setRow H3.o (g:=w.heap.size) (by omega) (cw firstL);clear hw' B1 B2 H3;go_wp2
   refine bodyPost_ret (v:=.agg (cw firstL)) ?_ rfl ⟨rfl,hb2⟩;exact qi (a:=⟨w.heap.size,0,none⟩) rfl rfl (B3.o.load Tryz.underlying88 rfl (by rw[z8,za3];exact jo))
theorem zwb (w:World):Calls Tryz.prog 47 #[] w fun e w'=>e=.returned (.agg (cw kL))∧Below w.heap.size w w':=by
 go_enter Tryz.func47,Tryz.ntmps47
 go_wp2_with (with_reducible refine stn 0 ?_)
 refine heldB (zbc rfl 90 rfl _ ze2 ?_);go_wp2_with (with_reducible refine stn 1 ?_)
 refine heldB (zbc rfl 90 rfl _ ze2 ?_);refine zdz (fun W=>Bk W w.heap.size 90 (cw (List.replicate 64 0))∧Bk W (w.heap.size+1) 90 (cw (List.replicate 64 0))∧Below w.heap.size w W) ⟨(Bk.new w _ _).alloc _,Bk.new2 w _ _ _,((Below.refl _ _).alloc (Nat.le_refl _) _).alloc (by simp) _⟩ ?_;rintro W ⟨b1,b2,hb⟩;have B1:=hide b1;have B2:=hide b2;have HB:=hide hb;clear b1 b2 hb;go_wp2_with fail
 refine(znp 64 W (by omega)).mono ?_;rintro e W2 ⟨A,c,rfl,ho,hb2⟩;have hbs:=HB.o.size;have B1':=hide (B1.o.below hb2 B1.o.lt);have B2':=hide (B2.o.below hb2 B2.o.lt);have HB':=hide (HB.o.trans (hb2.mono HB.o.size));obtain⟨g,rfl,hg,hgl,hcs⟩:=ho.cells (by omega);have hgw:w.heap.size+1<g:=Nat.lt_of_lt_of_le B2.o.lt hg;have HCS:Hid (∀ k,k<64→W2.cell? ⟨g,k,none⟩=some (.int .u64 ((zf ((qr 312).take 64) k:Nat):Int))):=hide (fun k hk=>hcs k _ (znv (by rw[List.length_take,zf7];omega)));clear hcs ho B1 B2 HB hb2;clear hbs;go_wp2
 go_loopw [3] (fun i wr=>∃ k:Nat,k≤64∧i=.int .i64 (k:Int)∧Bk wr w.heap.size 90 (cw (List.replicate 64 0))∧Bk wr (w.heap.size+1) 90 (cw (zbr kL k))∧Below w.heap.size w wr∧∀ k,k<64→wr.cell? ⟨g,k,none⟩=some (.int .u64 ((zf ((qr 312).take 64) k:Nat):Int))) (fun i _=>64-(intOf i).toNat)
 case atStart=>exact⟨0,Nat.zero_le _,rfl,B1'.o,by rw[znr,zba];exact B2'.o,HB'.o,HCS.o⟩
 case round =>
  obtain⟨k,hk,rfl,b1,b2,hb,hcs⟩:=hrel;by_cases hlt:k<64
  ·have hc:=hcs k hlt
   have hsm:=znw 64 k;have HV:=hide (zv9 hlt);have hc2:=b2.word (i:=k) (by rw[znq (by rw[zba];exact hk),zba];exact hlt);have hf:=b2.frozen k;have H1:=hide b1;have H2:=hide b2;have H3:=hide hb;have H4:=hide hcs;clear b1 b2 hb hcs;generalize zf ((qr 312).take 64) k=p at *;generalize zf (zbr kL k) k=y at *;go_wp2_with fail
   refine(zwn p _ hsm).mono ?_;rintro e w' ⟨rfl,rfl⟩;rw[HV.o];go_wp2
   go_roundw
   case rel =>
    refine⟨k+1,by omega,by go_num,H1.o.far (by show w.heap.size≠w.heap.size+1;omega) _,?_,H3.o.setCell (by simp) _,fun j hj=>?_⟩
    ·rw[← znt (show k<kL.length by rw[zba];exact hlt) rfl];exact H2.o.putw _ _ rfl
    ·exact(World.cell?_setCell_other _ _ _ _ (by first|(simp;done)|(simp;omega))).trans (H4.o j hj)
   case measure=>simp[intOf];omega
  ·have hk64:k=kL.length:=by rw[zba];omega
   rw[hk64,zns] at b2;have hlk:¬ (k:Int)<64:=by omega
   clear hk64 hlt hk;have B1:=hide b1;have B2:=hide b2;have H3:=hide hb;clear b1 b2 hb hcs;go_wp2_with (with_reducible refine stn 16 ?_)
   refine heldB (wpList_load_mid rfl 90 (.tmp 1) rfl (w.heap.size+1) 0 rfl _ _ B2.o.range Tryz.underlying90 rfl (by rw[Array.length_toList,z8,zba];exact zdx) ?_);rw[Array.toArray_toList];refine zi rfl 90 (.tmp 0) (.tmp 16) rfl w.heap.size 0 (cw kL) rfl rfl 90 _ B1.o (by simp[z8,zba]) (by rw[z8,zba];exact zdx) (zb6 _) ?_;intro w' hw';rw[zbl (by simp[z8,zba])] at hw';have B3:=hide (hw'.out ▸ B1.o.setRow_same (cw kL):Bk w' _ _ _);have hb2:=hw'.out ▸ below_setRow H3.o (g:=w.heap.size) (by omega) (cw kL);clear hw' B1 B2 H3;go_wp2
   refine bodyPost_ret (v:=.agg (cw kL)) ?_ rfl ⟨rfl,hb2⟩;exact qi (a:=⟨w.heap.size,0,none⟩) rfl rfl (B3.o.load Tryz.underlying90 rfl (by rw[z8,zba];exact zdx))
theorem zdv (x n:Nat)(w:World)(hx:x<4294967296)(hn:0<n)(hn2:n<32):Calls Tryz.prog 92 #[.int .u32 (x:Int),.int .u64 (n:Int)] w fun e w'=>e=.returned (.int .u32 ((rotN x n:Nat):Int))∧w=w':=by
 have HR:=hide (zwp hx (show n≤32 by omega));obtain⟨m,hm⟩:∃ m,m=32-n:=⟨_,rfl⟩;rw[← hm] at HR;have hm1:(32:Int)-(n:Int)=(m:Int):=by omega
 have hm2:m<32:=by omega
 clear hm;go_enter Tryz.func92,Tryz.ntmps92
 go_wp2
 go_ret;refine⟨zbt ?_,rfl⟩;rw[← HR.o,Int.natCast_emod,Int.natCast_add,Int.natCast_emod,Int.natCast_ediv,Int.natCast_mul,Int.natCast_pow,Int.natCast_pow];rfl
theorem zwc {x c:Nat}:IntKind.u32.wrap (IntKind.u32.wrap ((x:Int)*256)+(c:Int))=(((x*256+c) % 4294967296:Nat):Int):=by
 rw[IntKind.wrap_u32',IntKind.wrap_u32'];omega
def zbs (vs hs:List Nat):Nat→List Nat
 | 0=>vs
 | k+1=>(zbs vs hs k).set k ((zf (zbs vs hs k) k+zf hs k) % 4294967296)
theorem zwd (vs hs:List Nat):zbs vs hs 0=vs:=rfl
theorem zwe (vs hs:List Nat)(k:Nat):zbs vs hs (k+1)=(zbs vs hs k).set k ((zf (zbs vs hs k) k+zf hs k) % 4294967296):=rfl
theorem znx (vs hs:List Nat):∀ k,(zbs vs hs k).length=vs.length
 | 0=>rfl
 | k+1=>by rw[zbs,List.length_set,znx vs hs k]
theorem zwf (v s:Wd):zbs v.list s.list 8=(sumN s v).list:=by
 unfold sumN;simp only[Nat.add_comm s.a,Nat.add_comm s.b,Nat.add_comm s.c,Nat.add_comm s.d,Nat.add_comm s.e,Nat.add_comm s.f,Nat.add_comm s.g,Nat.add_comm s.h];rfl
attribute [irreducible] zbs
structure RSt (w:World)(s:Wd)(ws:List Nat)(wr:World):Prop where
 h:Bk wr w.heap.size 88 (cw s.list)
 k:Bk wr (w.heap.size+1) 90 (cw kL)
 r:Bk wr (w.heap.size+1+1) 88 (cw (List.replicate 8 0))
 ws:Bk wr (w.heap.size+1+1+1) 90 (cw ws)
 b:Below w.heap.size w wr
theorem RSt.put {w wr:World}{s:Wd}{ws:List Nat}(h:RSt w s ws wr)(i x:Nat){z:Int}(hz:z=(x:Int)):RSt w s (ws.set i x) (wr.setCell ⟨w.heap.size+1+1+1,i,none⟩ (.int .u32 z)) :=
 ⟨h.h.far (by show w.heap.size≠w.heap.size+1+1+1;omega) _,h.k.far (by show w.heap.size+1≠w.heap.size+1+1+1;omega) _,h.r.far (by show w.heap.size+1+1≠w.heap.size+1+1+1;omega) _,h.ws.putw i x hz,h.b.setCell (by show w.heap.size≤w.heap.size+1+1+1;omega) _⟩
theorem RSt.drew {w wr:World}{s:Wd}{ws:List Nat}(h:RSt w s ws wr):RSt w s ws wr.drew:=⟨h.h.drew,h.k.drew,h.r.drew,h.ws.drew,h.b.drew⟩
theorem RSt.drewN {w wr:World}{s:Wd}{ws:List Nat}(h:RSt w s ws wr)(n:Nat):RSt w s ws (wr.drewN n):=⟨h.h,h.k,h.r,h.ws,zjr h.b n⟩
theorem RSt.alloc {w wr:World}{s:Wd}{ws:List Nat}(h:RSt w s ws wr)(o:Obj):RSt w s ws (wr.alloc o):=⟨h.h.alloc o,h.k.alloc o,h.r.alloc o,h.ws.alloc o,h.b.alloc h.b.size o⟩
theorem RSt.row {w wr:World}{s:Wd}{ws:List Nat}(h:RSt w s ws wr){g:Nat}(hg:w.heap.size+1+1+1<g)(cs:Array Value):RSt w s ws (wr.setRow g cs) :=
 ⟨h.h.setRow_other (by omega) cs,h.k.setRow_other (by omega) cs,h.r.setRow_other (by omega) cs,h.ws.setRow_other (by omega) cs,below_setRow h.b (by omega) cs⟩
theorem RSt.far {w wr:World}{s:Wd}{ws:List Nat}(h:RSt w s ws wr){g i:Nat}(hg:w.heap.size+1+1+1<g)(u:Value):RSt w s ws (wr.setCell ⟨g,i,none⟩ u) :=
 ⟨h.h.far (by show w.heap.size≠g;omega) _,h.k.far (by show w.heap.size+1≠g;omega) _,h.r.far (by show w.heap.size+1+1≠g;omega) _,h.ws.far (by show w.heap.size+1+1+1≠g;omega) _,h.b.setCell (by show w.heap.size≤g;omega) _⟩
theorem zny {W:World}{g:Nat}{t:TypeId}{v:Wd}(h:Bk W g t (cw v.list)) :
 W.cell? ⟨g,0,none⟩=some (.int .u32 (v.a:Int))∧W.cell? ⟨g,1,none⟩=some (.int .u32 (v.b:Int))∧W.cell? ⟨g,2,none⟩=some (.int .u32 (v.c:Int))∧W.cell? ⟨g,3,none⟩=some (.int .u32 (v.d:Int)) ∧
 W.cell? ⟨g,4,none⟩=some (.int .u32 (v.e:Int))∧W.cell? ⟨g,5,none⟩=some (.int .u32 (v.f:Int))∧W.cell? ⟨g,6,none⟩=some (.int .u32 (v.g:Int))∧W.cell? ⟨g,7,none⟩=some (.int .u32 (v.h:Int)) :=
 ⟨h.cell 0,h.cell 1,h.cell 2,h.cell 3,h.cell 4,h.cell 5,h.cell 6,h.cell 7⟩
theorem zwg (s:Wd)(A:Option Addr)(c:Nat)(l:List Nat)(w:World)(hs:s.Ok)(hl:Bytes w w.heap.size A 64 l) :
 Calls Tryz.prog 49 #[.agg (cw s.list),.slice A 64 c,.agg (cw kL)] w fun e w'=>e=.returned (.agg (cw (zb5 kL s l).list))∧Below w.heap.size w w':=by
 have hby:=hl.2.1;obtain⟨bA,oA,rfl,hbA,hcA⟩:=hl.2.2 (by omega);have HCA:=hide hcA;clear hl hcA;go_enter Tryz.func49,Tryz.ntmps49
 go_wp2_with (with_reducible refine stn 6 ?_)
 refine heldB (zbc rfl 88 rfl _ ze3 ?_);go_wp2_with (with_reducible refine stn 7 ?_)
 refine heldB (zbc rfl 90 rfl _ ze2 ?_);refine zdz (fun W=>RSt w s (List.replicate 64 0) W) ⟨(((Bk.new w _ _).alloc _).alloc _).alloc _,((Bk.new2 w _ _ _).alloc _).alloc _,(Bk.new3 w _ _ _ _).alloc _,Bk.new4 w _ _ _ _ _,((((Below.refl _ _).alloc (Nat.le_refl _) _).alloc (by simp) _).alloc (by simp;omega) _).alloc (by simp;omega) _⟩ ?_;intro W st;have ST:=hide st;clear st;go_wp2
 go_loopw [8] (fun t wr=>∃ k:Nat,k≤16∧t=.int .i64 (k:Int)∧RSt w s (zy l (4*k)) wr) (fun t _=>16-(intOf t).toNat)
 case atStart=>exact⟨0,Nat.zero_le _,rfl,by rw[show 4*0=0 from rfl,zoa];exact ST.o⟩
 case round =>
  obtain⟨k,hk,rfl,st⟩:=hrel;by_cases hlt:k<16
  ·have ST:=hide st
   clear st;have q3:(k:Int)<16:=by omega
   go_wp2
   go_loopw [9] (fun t wr=>∃ i:Nat,i≤4∧t=.int .i64 (i:Int)∧RSt w s (zy l (4*k+i)) wr) (fun t _=>4-(intOf t).toNat)
   case atStart=>exact⟨0,Nat.zero_le _,rfl,ST.o⟩
   case round =>
    obtain⟨i,hi,rfl,st⟩:=hrel;by_cases hlt4:i<4
    ·have hq:(4*k+i) / 4=k:=by omega
     have hn:4*k+i<64:=by omega
     have c1:=st.ws.word (i:=k) (by rw[ze0];omega);have hf:=st.ws.frozen k;have hx:=(ze1 l (4*k+i)).lt k;have hcb:=HCA.o (4*k+i) hn;have hcb2:wr.cell? ⟨bA,oA+(4*k+i),none⟩=some (.int .u8 ((zf l (4*k+i):Nat):Int)):=(st.b.cell (p:=⟨bA,oA+(4*k+i),none⟩) hbA).trans hcb;have hyk:=zon hby (4*k+i);have HF:=hide (zob l (4*k+i));rw[hq] at HF;generalize zf (zy l (4*k+i)) k=x at *;generalize zf l (4*k+i)=y at *;have e1:=zwc (x:=x) (c:=y);have e2:IntKind.i64.wrap (4*(k:Int))=4*(k:Int):=IntWalk.i64_in _ (by omega);have e3:IntKind.i64.wrap (4*(k:Int)+(i:Int))=((4*k+i:Nat):Int):=by rw[IntWalk.i64_in _ (by omega)];omega
     obtain⟨ni,hni⟩:∃ ni,ni=4*k+i:=⟨_,rfl⟩;rw[← hni] at e3 hcb2 hn;have q1:(ni:Int)<64:=by omega
     have q2:(k:Int)<64:=by omega
     have q4:(i:Int)<4:=by omega
     have HNI:=hide hni;have ST2:=hide st;clear st hcb hq hni hn;go_wp2_with fail
     refine wp_region_still_tail 15 (by kernel_rfl) (by kernel_rfl) ?_;simp only[List.take_succ_cons,List.take_zero,List.drop_succ_cons,List.drop_zero]
     repeat still_step
     refine wpStill_nil ?_
     change wpList _ _ _ _ _ wr.drew
     have hf2:wr.drew.frozen? ⟨w.heap.size+1+1+1,k,none⟩=false:=hf;have cc:wr.drew.cell? ⟨w.heap.size+1+1+1,k,none⟩=some (.int .u32 (x:Int)):=c1;have ST3:=hide ST2.o.drew;clear ST2 hf c1 hcb2 e1 e2 e3;generalize wr.drew=W3 at *;go_wp2
     go_roundw
     case rel =>
      refine⟨i+1,by omega,by go_num,?_⟩;rw[show 4*k+(i+1)=4*k+i+1 by omega,HF.o];exact ST3.o.put _ _ (by omega)
     case measure=>simp[intOf];omega
    ·have hi4:i=4:=by omega
     rw[hi4,show 4*k+4=4*(k+1)by omega] at st;have hli:¬ (i:Int)<4:=by omega
     clear hi4 hlt4 hi;have ST:=hide st;clear st;go_wp2
     go_roundw
     case rel=>exact⟨k+1,by omega,by go_num,ST.o⟩
     case measure=>simp[intOf];omega
  ·have hk16:k=16:=by omega
   rw[hk16,show 4*16=64 from rfl,← zoc (zy l 64)] at st;have hlk:¬ (k:Int)<16:=by omega
   clear hk16 hlt hk;have ST:=hide st;clear st;go_wp2
   go_loopw [10] (fun t wr=>∃ m:Nat,m≤48∧t=.int .i64 ((16+m:Nat):Int)∧RSt w s (extN (zy l 64) m) wr) (fun t _=>64-(intOf t).toNat)
   case atStart=>exact⟨0,Nat.zero_le _,rfl,ST.o⟩
   case round =>
    obtain⟨m,hm,rfl,st⟩:=hrel;by_cases hlt:m<48
    ·have hlen:(extN (zy l 64) m).length=64:=by rw[zhr,ze0]
     have hw:=zhs (ze1 l 64) m;have c2:=st.ws.word (i:=m+14) (by omega);have c7:=st.ws.word (i:=m+9) (by omega);have c15:=st.ws.word (i:=m+1) (by omega);have c16:=st.ws.word (i:=m) (by omega);have c0:=st.ws.word (i:=16+m) (by omega);have hf:=st.ws.frozen (16+m);have x2:=hw.lt (m+14);have x15:=hw.lt (m+1);have HF:=hide (zod (zy l 64) m);have HN:Hid (zef (extN (zy l 64) m) (16+m)=(((s1N (zf (extN (zy l 64) m) (m+14))+zf (extN (zy l 64) m) (m+9)) % 4294967296+s0N (zf (extN (zy l 64) m) (m+1))) % 4294967296+zf (extN (zy l 64) m) m) % 4294967296):=by
      unfold zef;rw[show 16+m-2=m+14 by omega,show 16+m-7=m+9 by omega,show 16+m-15=m+1 by omega,show 16+m-16=m by omega];exact hide rfl
     have ST:=hide st;clear st hw hlen;generalize zf (extN (zy l 64) m) (m+14)=y2 at *;generalize zf (extN (zy l 64) m) (m+9)=y7 at *;generalize zf (extN (zy l 64) m) (m+1)=y15 at *;generalize zf (extN (zy l 64) m) m=y16 at *;generalize zf (extN (zy l 64) m) (16+m)=y0 at *;have e2:IntKind.i64.wrap (16+(m:Int)-2)=((m+14:Nat):Int):=by rw[IntWalk.i64_in _ (by omega)];omega
     have e7:IntKind.i64.wrap (16+(m:Int)-7)=((m+9:Nat):Int):=by rw[IntWalk.i64_in _ (by omega)];omega
     have e15:IntKind.i64.wrap (16+(m:Int)-15)=((m+1:Nat):Int):=by rw[IntWalk.i64_in _ (by omega)];omega
     have e16:IntKind.i64.wrap (16+(m:Int)-16)=(m:Int):=by rw[IntWalk.i64_in _ (by omega)];omega
     have et:((16:Int)+(m:Int)).toNat=16+m:=by omega
     generalize h14:m+14=m14 at *;generalize h9:m+9=m9 at *;generalize h1:m+1=m1 at *;have q2:(m14:Int)<64:=by omega
     have q7:(m9:Int)<64:=by omega
     have q15:(m1:Int)<64:=by omega
     have q16:(m:Int)<64:=by omega
     have q0:(0:Int)≤16+(m:Int):=by omega
     have H1:=hide h1;clear h14 h9 h1;have HC7:=hide c7;have HC16:=hide c16;have HC0:=hide c0;have HFZ:=hide hf;clear c7 c16 c0 hf;go_wp2_with fail
     go_quiet (fail)
     refine zgc (fun W=>W.cell? ⟨w.heap.size+1+1+1,m9,none⟩=some (.int .u32 (y7:Int))∧W.cell? ⟨w.heap.size+1+1+1,m,none⟩=some (.int .u32 (y16:Int))∧W.cell? ⟨w.heap.size+1+1+1,16+m,none⟩=some (.int .u32 (y0:Int))∧W.frozen? ⟨w.heap.size+1+1+1,16+m,none⟩=false∧RSt w s (extN (zy l 64) m) W) ⟨HC7.o,HC16.o,HC0.o,HFZ.o,ST.o.drewN nq⟩ ?_;clear HC7 HC16 HC0 HFZ ST nq c2 c15 e2 e15;rintro W2 ⟨c7,c16,c0,hf,st⟩;have ST:=hide st;clear st;have r17:=ja (n:=17) x2 (by omega);have r19:=ja (n:=19) x2 (by omega);have r7:=ja (n:=7) x15 (by omega);have r18:=ja (n:=18) x15 (by omega);have d1:=u32_xor_nat _ _ r17 r19;have d2:bits .xor .u32 ((rotN y2 17 ^^^ rotN y2 19:Nat):Int) ((y2:Int) / 1024)=((s1N y2:Nat):Int):=u32_xor_nat (rotN y2 17 ^^^ rotN y2 19) (y2 / 1024) (jz r17 r19) (by omega);have d3:=u32_xor_nat _ _ r7 r18
     have d4:bits .xor .u32 ((rotN y15 7 ^^^ rotN y15 18:Nat):Int) ((y15:Int) / 8)=((s0N y15:Nat):Int):=u32_xor_nat (rotN y15 7 ^^^ rotN y15 18) (y15 / 8) (jz r7 r18) (by omega);go_wp2_with fail
     refine wp_region_still_tail 29 (by kernel_rfl) (by kernel_rfl) ?_;simp only[List.take_succ_cons,List.take_zero,List.drop_succ_cons,List.drop_zero]
     repeat still_step
     still_call ((zdv y2 17 _ x2 (by omega) (by omega)).mono (fun _ _ h=>⟨h.1,h.2.symm⟩))
     repeat still_step
     still_call ((zdv y2 19 _ x2 (by omega) (by omega)).mono (fun _ _ h=>⟨h.1,h.2.symm⟩))
     repeat still_step
     still_call ((zdv y15 7 _ x15 (by omega) (by omega)).mono (fun _ _ h=>⟨h.1,h.2.symm⟩))
     repeat still_step
     still_call ((zdv y15 18 _ x15 (by omega) (by omega)).mono (fun _ _ h=>⟨h.1,h.2.symm⟩))
     repeat still_step
     refine wpStill_nil ?_
     change wpList _ _ _ _ _ W2.drew
     have hf2:W2.drew.frozen? ⟨w.heap.size+1+1+1,16+m,none⟩=false:=hf;have cc:W2.drew.cell? ⟨w.heap.size+1+1+1,16+m,none⟩=some (.int .u32 (y0:Int)):=c0;have ST2:=hide ST.o.drew;clear ST hf c0 c7 c16 e7 e16 d1 d2 d3 d4;generalize W2.drew=W3 at *;go_wp2
     go_roundw
     case rel =>
      refine⟨m1,by have:=H1.o;omega,by have:=H1.o;go_num,?_⟩;rw[HF.o];exact ST2.o.put _ _ (by rw[HN.o];omega)
     case measure=>simp[intOf];omega
    ·have hm48:m=48:=by omega
     rw[hm48,zog] at st;have hlm:¬ (16:Int)+(m:Int)<64:=by omega
     clear hm48 hlt hm;have hlen:=zjo l;have hwl:=zn7 l;obtain⟨ws,hws⟩:∃ ws,ws=zcu l:=⟨_,rfl⟩;rw[← hws] at st hlen hwl;have HWS:=hide hws;have HLEN:=hide hlen;have ST:=hide st;clear hws hlen st;go_wp2_with (with_reducible refine stn 88 ?_)
     refine heldB (wpList_load_mid rfl 88 (.tmp 3) rfl w.heap.size 0 rfl _ _ ST.o.h.range Tryz.underlying88 rfl (by rw[Array.length_toList,z8];exact jo) ?_);rw[Array.toArray_toList];refine zbc rfl 88 rfl _ ze3 ?_;have hgl:w.heap.size+1+1+1<wr.heap.size:=ST.o.ws.lt;refine zi rfl 88 (.tmp 13) (.tmp 88) rfl wr.heap.size 0 (cw s.list) rfl rfl 88 _ (Bk.new wr _ _) (by simp[z8,Wd.list]) (by rw[z8];exact jo) (zb6 _) ?_;intro w' hw';rw[zbl (by simp[z8,Wd.list])] at hw';have ST2:=hide (hw'.out ▸ (ST.o.alloc (.cells (cw (List.replicate 8 0)) 88)).row hgl (cw s.list):RSt w s ws w');have BV:=hide (hw'.out ▸ (Bk.new wr 88 (cw (List.replicate 8 0))).setRow_same (cw s.list):Bk w' wr.heap.size 88 (cw s.list));clear hw' ST;obtain⟨g,hg⟩:∃ g,g=wr.heap.size:=⟨_,rfl⟩;rw[← hg] at hgl BV ⊢;clear hg;go_wp2
     go_loopw [14] (fun t wr=>∃ k:Nat,k≤64∧t=.int .i64 (k:Int)∧RSt w s ws wr∧Bk wr g 88 (cw (za9 kL ws s k).list)) (fun t _=>64-(intOf t).toNat)
     case atStart=>exact⟨0,Nat.zero_le _,rfl,ST2.o,by rw[zoe];exact BV.o⟩
     case round =>
      obtain⟨j,hj,rfl,st,bv⟩:=hrel;have hok:=zjp kL ws hs j;by_cases hlt64:j<64
      ·have HS:=hide (zof kL ws s j)
       have hwk:=hwl.lt j;have hkk:=kL_lt.lt j;have ck:=st.k.word (i:=j) (by rw[zba];exact hlt64);have cws:=st.ws.word (i:=j) (by rw[HLEN.o];exact hlt64);generalize za9 kL ws s j=v at *;obtain⟨a,b,c,d,e,f,g',h⟩:=v;obtain⟨oa,ob,oc,od,oe,of,og,oh⟩:=hok;simp only at oa ob oc od oe of og oh;obtain⟨c0,c1,c2,c3,c4,c5,c6,c7⟩:=zny bv;simp only at c0 c1 c2 c3 c4 c5 c6 c7;have HT1:Hid (t1N ⟨a,b,c,d,e,f,g',h⟩ (zf kL j) (zf ws j)=((((h+g1N e) % 4294967296+chN e f g') % 4294967296+zf kL j) % 4294967296+zf ws j) % 4294967296):=hide rfl;have HT2:Hid (t2N ⟨a,b,c,d,e,f,g',h⟩=(g0N a+majN a b c) % 4294967296):=hide rfl;generalize zf kL j=kk at *;generalize zf ws j=wk at *;have ST3:=hide st;have BV3:=hide bv;have C7:=hide c7;have CK:=hide ck;have CWS:=hide cws;clear st bv c3 c7 ck cws;have hji:(j:Int)<64:=by omega
       go_wp2_with fail
       go_quiet (fail)
       refine zgc (fun W=>W.cell? ⟨g,7,none⟩=some (.int .u32 (h:Int))∧W.cell? ⟨w.heap.size+1,j,none⟩=some (.int .u32 (kk:Int))∧W.cell? ⟨w.heap.size+1+1+1,j,none⟩=some (.int .u32 (wk:Int))∧RSt w s ws W∧Bk W g 88 (cw (Wd.mk a b c d e f g' h).list)) ⟨C7.o,CK.o,CWS.o,ST3.o.drewN nq,BV3.o⟩ ?_;clear ST3 BV3 C7 CK CWS c0 c1 c2 c4 c5 c6 nq;rintro W2 ⟨c7,ck,cws,st,bv⟩;have ST3:=hide st;have BV3:=hide bv;clear st bv;have r6:=ja (n:=6) oe (by omega);have r11:=ja (n:=11) oe (by omega);have r25:=ja (n:=25) oe (by omega);have d1:=u32_xor_nat _ _ r6 r11;have d2:bits .xor .u32 ((rotN e 6 ^^^ rotN e 11:Nat):Int) ((rotN e 25:Nat):Int)=((g1N e:Nat):Int):=u32_xor_nat _ _ (jz r6 r11) r25;have h1:=u32_and_nat e f oe of;have h2:bits .xor .u32 (if IntKind.u32.signed=true then -1 else IntKind.u32.max) (e:Int)=((e ^^^ 4294967295:Nat):Int):=zom oe
       have h3:=u32_and_nat (e ^^^ 4294967295) g' (jz oe (by omega)) og;have h4:=u32_xor_nat (e &&& f) ((e ^^^ 4294967295) &&& g') (zbj _ oe) (zbj _ (jz oe (by omega)));have s1:=zc6 h (g1N e);have s2:=zc6 ((h+g1N e) % 4294967296) ((e &&& f) ^^^ ((e ^^^ 4294967295) &&& g'));have s3:=zc6 (((h+g1N e) % 4294967296+((e &&& f) ^^^ ((e ^^^ 4294967295) &&& g'))) % 4294967296) kk;have s4:=zc6 ((((h+g1N e) % 4294967296+((e &&& f) ^^^ ((e ^^^ 4294967295) &&& g'))) % 4294967296+kk) % 4294967296) wk;generalize hx1:(h+g1N e) % 4294967296=x1 at *;generalize hx2:(x1+((e &&& f) ^^^ ((e ^^^ 4294967295) &&& g'))) % 4294967296=x2 at *;generalize hx3:(x2+kk) % 4294967296=x3 at *;generalize hx4:(x3+wk) % 4294967296=x4 at *;have HX:=hide (And.intro hx1 (And.intro hx2 (And.intro hx3 hx4)));clear hx1 hx2 hx3 hx4;go_wp2_with fail
       have R:=fun (n:Nat) (hn:0<n) (hn2:n<32) (W:World)=>(zdv e n W oe hn hn2).mono (fun _ _ h=>And.intro h.1 h.2.symm);have R6:∀ W,Calls Tryz.prog 92 #[.int .u32 (e:Int),.int .u64 6] W (fun x w'=>x=.returned (.int .u32 ((rotN e 6:Nat):Int))∧w'=W):=R 6 (by omega) (by omega);have R11:∀ W,Calls Tryz.prog 92 #[.int .u32 (e:Int),.int .u64 11] W (fun x w'=>x=.returned (.int .u32 ((rotN e 11:Nat):Int))∧w'=W):=R 11 (by omega) (by omega);have R25:∀ W,Calls Tryz.prog 92 #[.int .u32 (e:Int),.int .u64 25] W (fun x w'=>x=.returned (.int .u32 ((rotN e 25:Nat):Int))∧w'=W):=R 25 (by omega) (by omega);clear R
       go_quiet ((go_at_call 92;first|with_reducible exact Calls.quiet_of_same (R6 _)|with_reducible exact Calls.quiet_of_same (R11 _)|with_reducible exact Calls.quiet_of_same (R25 _)))
       refine zgc (fun W=>RSt w s ws W∧Bk W g 88 (cw (Wd.mk a b c d e f g' h).list)) ⟨ST3.o.drewN nq,BV3.o⟩ ?_;clear ST3 BV3 nq c7 ck cws h1 h2 h3 h4 s1 s2 s3 s4 R6 R11 R25 d1 d2 r6 r11 r25;rintro W3 ⟨st,bv⟩;have ST4:=hide st;have BV4:=hide bv;have c3:W3.cell? ⟨g,3,none⟩=some (.int .u32 (d:Int)):=(zny bv).2.2.2.1;clear st bv;have r2:=ja (n:=2) oa (by omega);have r13:=ja (n:=13) oa (by omega);have r22:=ja (n:=22) oa (by omega);have d1:=u32_xor_nat _ _ r2 r13;have d2:bits .xor .u32 ((rotN a 2 ^^^ rotN a 13:Nat):Int) ((rotN a 22:Nat):Int)=((g0N a:Nat):Int):=u32_xor_nat _ _ (jz r2 r13) r22;have m1:=u32_and_nat a b oa ob;have m2:=u32_and_nat a c oa oc;have m3:=u32_and_nat b c ob oc;have m4:=u32_xor_nat (a &&& b) (a &&& c) (zbj _ oa) (zbj _ oa);have m5:=u32_xor_nat ((a &&& b) ^^^ (a &&& c)) (b &&& c) (jz (zbj _ oa) (zbj _ oa)) (zbj _ ob)
       have m6:=zbk (g0N a) ((a &&& b) ^^^ (a &&& c) ^^^ (b &&& c));generalize hy:(g0N a+((a &&& b) ^^^ (a &&& c) ^^^ (b &&& c))) % 4294967296=y at *;have m7:=zbk x4 y;have m8:=zbk d x4;generalize hx5:(x4+y) % 4294967296=x5 at *;generalize hx6:(d+x4) % 4294967296=x6 at *;have HY:=hide (And.intro hy (And.intro hx5 hx6));clear hy hx5 hx6;go_wp2_with fail
       refine(zdv a 2 _ oa (by omega) (by omega)).mono ?_;rintro e9 w' ⟨rfl,rfl⟩;go_wp2_with fail
       refine(zdv a 13 _ oa (by omega) (by omega)).mono ?_;rintro e9 w' ⟨rfl,rfl⟩;go_wp2_with fail
       refine(zdv a 22 _ oa (by omega) (by omega)).mono ?_;rintro e9 w' ⟨rfl,rfl⟩;go_wp2_with ((with_reducible show wpList _ _ _ (⟨none,.store _ _ _,_,_,_,_⟩::_) _ _);refine holdB ?_)
       refine heldB (zi rfl 88 (.tmp 13) (.tmp 166) rfl g 0 (cw [x5,a,b,c,x6,e,f,g']) rfl rfl 88 _ BV4.o (by simp[z8,Wd.list]) jo (zb6 _) ?_);intro w' hw';rw[zbl (by simp[z8,Wd.list])] at hw';have ST5:=hide (hw'.out ▸ ST4.o.row hgl (cw [x5,a,b,c,x6,e,f,g']):RSt w s ws w');have BV5:=hide (hw'.out ▸ BV4.o.setRow_same (cw [x5,a,b,c,x6,e,f,g']):Bk w' g 88 _);clear hw' ST4 BV4 c3 d1 d2 m1 m2 m3 m4 m5 m6;go_wp2
       go_roundw
       case rel =>
        refine⟨j+1,by omega,by go_num,ST5.o,?_⟩;have e4:t1N ⟨a,b,c,d,e,f,g',h⟩ kk wk=x4:=by
         obtain⟨h1,h2,h3,h4⟩:=HX.o;rw[HT1.o,← h4,← h3,← h2];rfl
        have e5:t2N ⟨a,b,c,d,e,f,g',h⟩=y:=by rw[HT2.o];exact HY.o.1
        have e6:zeg ⟨a,b,c,d,e,f,g',h⟩ kk wk=⟨x5,a,b,c,x6,e,f,g'⟩:=by
         unfold zeg;rw[e4,e5,HY.o.2.1,HY.o.2.2]
        rw[HS.o,e6];exact BV5.o
       case measure=>simp[intOf];omega
      ·have hj64:j=64:=by omega
       rw[hj64] at bv;have HSt:Hid (zb5 kL s l=sumN s (za9 kL ws s 64)):=hide (by rw[HWS.o];rfl);have hlj:¬ (j:Int)<64:=by omega
       clear hj64 hlt64 hj hok;generalize za9 kL ws s 64=v at *;have ST3:=hide st;have BV3:=hide bv;clear st bv;go_wp2
       go_loopw [23] (fun t wr=>∃ k:Nat,k≤8∧t=.int .i64 (k:Int)∧RSt w s ws wr∧Bk wr g 88 (cw (zbs v.list s.list k))) (fun t _=>8-(intOf t).toNat)
       case atStart=>exact⟨0,Nat.zero_le _,rfl,ST3.o,by rw[zwd];exact BV3.o⟩
       case round =>
        obtain⟨k2,hk2,rfl,st,bv⟩:=hrel;by_cases hlt8:k2<8
        ·have hlen:(zbs v.list s.list k2).length=8:=by rw[znx];rfl
         have HA:=hide (zwe v.list s.list k2);have cv:=bv.word (i:=k2) (by rw[hlen];exact hlt8);have ch:=st.h.word (i:=k2) hlt8;have hf:=bv.frozen k2;have ST4:=hide st;have BV4:=hide bv;clear st bv hlen;generalize zf (zbs v.list s.list k2) k2=x at *;generalize zf s.list k2=z at *;have hki:(k2:Int)<8:=by omega
         have q:=zc6 x z;generalize hxz:(x+z) % 4294967296=xz at *;go_wp2_with fail
         refine wp_region_still_tail 9 (by kernel_rfl) (by kernel_rfl) ?_;simp only[List.take_succ_cons,List.take_zero,List.drop_succ_cons,List.drop_zero]
         repeat still_step
         refine wpStill_nil ?_
         change wpList _ _ _ _ _ wr.drew
         have hf2:wr.drew.frozen? ⟨g,k2,none⟩=false:=hf;have cc:wr.drew.cell? ⟨g,k2,none⟩=some (.int .u32 (x:Int)):=cv;have ST5:=hide ST4.o.drew;have BV5:=hide BV4.o.drew;have HXZ:=hide hxz;clear ST4 BV4 hf cv ch q hxz;generalize wr.drew=W3 at *;go_wp2
         go_roundw
         case rel =>
          refine⟨k2+1,by omega,by go_num,ST5.o.far hgl _,?_⟩;rw[HA.o];exact BV5.o.putw _ _ (by have:=HXZ.o;omega)
         case measure=>simp[intOf];omega
        ·have hk8:k2=8:=by omega
         rw[hk8,zwf] at bv;have hlk2:¬ (k2:Int)<8:=by omega
         clear hk8 hlt8 hk2;rw[← HSt.o] at bv;have ST4:=hide st;have BV4:=hide bv;clear st bv;generalize hfin:zb5 kL s l=fin at *;have HFIN:=hide hfin;clear hfin;go_wp2_with (with_reducible refine stn 180 ?_)
         refine heldB (wpList_load_mid rfl 88 (.tmp 13) rfl g 0 rfl _ _ BV4.o.range Tryz.underlying88 rfl (by rw[Array.length_toList,z8];exact jo) ?_);rw[Array.toArray_toList];refine zi rfl 88 (.tmp 6) (.tmp 180) rfl (w.heap.size+1+1) 0 (cw fin.list) rfl rfl 88 _ ST4.o.r (by simp[z8,Wd.list]) (by rw[z8];exact jo) (zb6 _) ?_;intro w' hw';rw[zbl (by simp[z8,Wd.list])] at hw';have B1:=hide (hw'.out ▸ ST4.o.r.setRow_same (cw fin.list):Bk w' _ _ _);have hb2:=hw'.out ▸ below_setRow ST4.o.b (g:=w.heap.size+1+1) (by omega) (cw fin.list);clear hw' ST4 BV4;go_wp2
         refine bodyPost_ret (v:=.agg (cw fin.list)) ?_ rfl ⟨by rw[HFIN.o],hb2⟩;exact qi (a:=⟨w.heap.size+1+1,0,none⟩) rfl rfl (B1.o.load Tryz.underlying88 rfl (by rw[z8];exact jo))
end Go.Proofs.YtmjjefnmabbgdaaGreatDoor
