/- A part of the proof. -/
import Derived.Test.YtmjjefnmabbgdaaGreatDoorSShaWalksA
import Derived.Test.YtmjjefnmabbgdaaGreatDoorSRowRel
namespace Go.Proofs.YtmjjefnmabbgdaaGreatDoor
set_option linter.unusedVariables false
set_option linter.unusedSimpArgs false
set_option maxRecDepth 100000
set_option maxHeartbeats 16000000
open Go.RowKit
def zap (n:Nat):Nat:=(119-n % 64) % 64
def padN (l:List Nat):List Nat:=l++128::List.replicate (zap l.length) 0++encB 8 (8*l.length)
theorem zjx (l:List Nat):(padN l).length=l.length+9+zap l.length:=by
 unfold padN;rw[List.length_append,List.length_append,List.length_cons,List.length_replicate,zbv];omega
theorem zop (l:List Nat):(padN l).length % 64=0:=by rw[zjx];unfold zap;omega
theorem zhx (n:Nat):zap n<64:=Nat.mod_lt _ (by omega)
theorem zoq {l:List Nat}(h:∀ x∈l,x<256):∀ x∈padN l,x<256:=by
 intro x hx;unfold padN at hx;rcases List.mem_append.1 hx with hx|hx
 ·rcases List.mem_append.1 hx with hx|hx
  ·exact h x hx
  ·rcases List.mem_cons.1 hx with rfl|hx
   ·omega
   ·rw[(List.mem_replicate.1 hx).2];omega
 ·exact zo9 _ _ x hx
theorem zor (l:List Nat)(j:Nat):l++128::List.replicate j 0++[0]=l++128::List.replicate (j+1) 0:=by
 rw[List.append_assoc,List.cons_append,← List.replicate_succ']
theorem zxh (W:World)(k:Nat)(hk:k≤1000000000):(Instr.makeSlice 48 (.int .i64 0) (.int .i64 (k:Int))).run Tryz.prog W=.ok (.slice (some ⟨W.heap.size,0,none⟩) 0 k) (W.alloc (.cells (madeCells #[.int .u8 0] k) 5)):=by
 obtain⟨i,hi,hz,hs,hby⟩:=info_parts zaq;have:=run_make (P:=Tryz.prog) W 48 5 i (.int .u8 0) Tryz.underlying48 hi hz .i64 .i64 0 (k:Int) (by omega) (by omega) (by rw[hby];omega) (by omega);rw[hs,show(Value.int .u8 0).cells=#[.int .u8 0] from rfl] at this
 simpa using this
theorem OwnB.made0 (w:World)(k:Nat)(hk:k≤1000000000)(e:TypeId):OwnB (w.alloc (.cells (madeCells #[.int .u8 0] k) e)) w.heap.size e (some ⟨w.heap.size,0,none⟩) 0 k []:=by
 refine⟨⟨by simp,.inr ⟨w.heap.size,k,madeCells #[.int .u8 0] k,rfl,Nat.le_refl _,heap_alloc_new w _,Nat.zero_le _,by unfold maxLen;omega,?_,?_⟩⟩,by simp⟩
 ·simp[size_madeCells]
 ·simp
theorem zos {v j:Nat}:(v:Int) / 2 ^ (8*j) % 256=((v / 256 ^ j % 256:Nat):Int):=by
 rw[show(2:Int) ^ (8*j)=((256 ^ j:Nat):Int)by rw[Int.pow_mul];simp];omega
theorem zxi (A:Option Addr)(n c B:Nat)(l:List Nat)(w:World)(hl:Bytes w B A n l)(hB:B≤w.heap.size)(hn:n≤1000000) :
 Calls Tryz.prog 235 #[.slice A n c] w (Made w.heap.size w (n+9+zap n) (padN l)):=by
 have hlen:=hl.1;have HLEN:=hide hlen;clear hlen;have hmk:=fun W=>zxh W (n+72) (by omega);have hmi:((n+72:Nat):Int)=(n:Int)+72:=by omega
 simp only[hmi] at hmk;clear hmi;go_enter Tryz.func235,Tryz.ntmps235
 go_wp2_with (with_reducible refine stn 11 ?_)
 clear hmk
 refine heldB (zao rfl (.tmp 9) (.tmp 10) 48 rfl Tryz.underlying48 zaq w.heap.size (some ⟨w.heap.size,0,none⟩) 0 (n+72) [] rfl (OwnB.made0 w (n+72) (by omega) 5) B A n c l rfl
  (hl.below ((Below.refl B w).alloc hB _) (Nat.le_refl _)) (by omega) (by simp) ?_)
 intro A1 c1 w1 ho1 hb1 hg1;clear hg1;rw[Nat.zero_add,List.nil_append] at ho1;rw[Nat.zero_add];have hb1':Below w.heap.size w w1:=((Below.refl _ _).alloc (Nat.le_refl _) _).trans hb1;clear hb1;go_wp2_with (with_reducible refine stn 14 ?_)
 refine heldB (zao rfl (.tmp 12) (.tmp 13) 48 rfl Tryz.underlying48 zaq w.heap.size A1 n c1 l rfl (ho1.alloc _) _ _ 1 1 _ rfl (Bytes.one w1 (show 128<256 by omega) _) (by omega) (by have:=hb1'.size;simp;omega) ?_);intro A2 c2 w2 ho2 hb2 hg2;clear hg2;have hb2':Below w.heap.size w w2:=(hb1'.alloc hb1'.size _).trans hb2;clear hb2 ho1;go_wp2
 go_loopw [3] (fun s wr=>∃ j A' c',j≤zap n∧s=.slice A' (n+1+j) c'∧OwnB wr w.heap.size 5 A' (n+1+j) c' (l++128::List.replicate j 0)∧Below w.heap.size w wr) (fun s _=>match s with|.slice _ k _=>n+100-k|_=>0)
 case atStart=>exact⟨0,A2,c2,Nat.zero_le _,rfl,ho2,hb2'⟩
 case round =>
  obtain⟨j,A',c',hj,rfl,ho,hb⟩:=hrel;have hz:zap n=(119-n % 64) % 64:=rfl;have hz64:=zhx n;by_cases hlt:j<zap n
  ·have hne:(((n:Int)+1+(j:Int)) % 64 == 56)=false:=by simp;omega
   have hne2:(((n:Int)+1+(j:Int)) % 64 != 56)=true:=by simp;omega
   have HZ:=hide hz;clear hz;go_wp2_with (with_reducible refine stn 21 ?_)
   refine heldB (zao rfl (.tmp 19) (.tmp 20) 48 rfl Tryz.underlying48 zaq w.heap.size A' (n+1+j) c' _ rfl (ho.alloc _) _ _ 1 1 _ rfl (Bytes.one wr (show 0<256 by omega) _) (by omega) (by have:=hb.size;simp;omega) ?_);intro A3 c3 w3 ho3 hb3 hg3;clear hg3;have hb3':Below w.heap.size w w3:=(hb.alloc hb.size _).trans hb3;rw[zor] at ho3;go_wp2
   go_roundw
   case rel=>exact⟨j+1,A3,c3,by omega,rfl,ho3,hb3'⟩
   case measure=>simp;omega
  ·have hjz:j=zap n:=by omega
   have hne:(((n:Int)+1+(j:Int)) % 64 != 56)=false:=by simp;omega
   have HJZ:=hide hjz;have hj64:j<64:=by omega
   clear hz hz64 hlt hj hjz;obtain⟨v,hv⟩:∃ v,v=8*n:=⟨_,rfl⟩;have hvi:8*(n:Int)=(v:Int):=by omega
   have hvl:v≤8000000:=by omega
   obtain⟨N,hN⟩:∃ N,N=n+1+j:=⟨_,rfl⟩;obtain⟨L,hL⟩:∃ L,L=l++128::List.replicate j 0:=⟨_,rfl⟩;rw[← hN,← hL] at ho;have hNI:(n:Int)+1+(j:Int)=(N:Int):=by omega
   rw[hNI] at hne;rw[← hN];have HV:=hide hv;have HN:=hide hN;have HL:=hide hL;have hNl:N≤2000000:=by omega
   clear hv hN hL hNI;go_wp2
   clear hvi
   go_loopw [3,5] (fun s t wr=>∃ m A' c',m≤8∧s=.slice A' (N+(8-m)) c'∧OwnB wr w.heap.size 5 A' (N+(8-m)) c' (L++encB (8-m) (v / 256 ^ m))∧t=.int .i64 (8*(m:Int)-8)∧Below w.heap.size w wr) (fun _ t _=>(intOf t+8).toNat)
   case atStart=>exact⟨8,A',c',Nat.le_refl _,rfl,by rw[Nat.sub_self];simpa [encB] using ho,by go_num,hb⟩
   case round =>
    obtain⟨m,A',c',hm,rfl,ho,rfl,hb⟩:=hrel;by_cases h0:m=0
    ·subst h0
     have HW:=hide (show N+(8-0)=n+9+zap n by rw[HN.o,HJZ.o];omega);have HP:=hide (show L++encB (8-0) (v / 256 ^ 0)=padN l by rw[HL.o,HJZ.o,HV.o,Nat.pow_zero,Nat.div_one];unfold padN;rw[HLEN.o]);rw[HP.o,HW.o] at ho;rw[HW.o];go_wp2
     go_ret;exact⟨A',c',rfl,ho,hb⟩
    ·obtain⟨q,rfl⟩:∃ q,m=q+1:=⟨m - 1,by omega⟩
     have e1:(8*((q+1:Nat):Int)-8)=8*(q:Int):=by omega
     rw[e1];have HB:=hide (zos (v:=v) (j:=q))
     have HE:=hide (show encB (8-q) (v / 256 ^ q)=encB (8-(q+1)) (v / 256 ^ (q+1))++[v / 256 ^ q % 256] by
      rw[show 8-q=(8-(q+1))+1 by omega,encB,Nat.div_div_eq_div_mul,← Nat.pow_succ])
     have hqi:(q:Int)<8:=by omega
     go_wp2_with (with_reducible refine stn 36 ?_)
     rw[HB.o];refine heldB (zao rfl (.tmp 30) (.tmp 35) 48 rfl Tryz.underlying48 zaq w.heap.size A' (N+(8-(q+1))) c' _ rfl (ho.alloc _) _ _ 1 1 _ rfl (Bytes.one wr (Nat.mod_lt _ (by omega)) _) (by omega) (by have:=hb.size;simp;omega) ?_);intro A3 c3 w3 ho3 hb3 hg3;clear hg3;have hb3':Below w.heap.size w w3:=(hb.alloc hb.size _).trans hb3;have HL8:=hide (show N+(8-q)=N+(8-(q+1))+1 by omega);go_wp2
     go_roundw
     case rel=>exact⟨q,A3,c3,by omega,congrArg (fun z=>Value.slice A3 z c3) (by omega),by rw[HL8.o,HE.o,← List.append_assoc];exact ho3,by go_num,hb3'⟩
     case measure=>first|(simp[intOf];done)|(simp[intOf];omega)
theorem zxj (A:Option Addr)(n c B:Nat)(l:List Nat)(w:World)(hl:Bytes w B A n l)(hB:B≤w.heap.size)(hn:n≤1000000) :
 Calls Tryz.prog 48 #[.slice A n c] w (Made w.heap.size w (n+9+zap n) (padN l)):=by
 have hlen:=hl.1;have HLEN:=hide hlen;clear hlen;go_enter Tryz.func48,Tryz.ntmps48
 go_wp2_with (with_reducible refine stn 8 ?_)
 refine heldB (zao rfl (.tmp 6) (.tmp 7) 48 rfl Tryz.underlying48 zaq w.heap.size (some ⟨w.heap.size,0,none⟩) 0 0 [] rfl (OwnB.empty w 5) B A n c l rfl
  (hl.below ((Below.refl B w).alloc hB _) (Nat.le_refl _)) (by omega) (by simp) ?_)
 intro A1 c1 w1 ho1 hb1 hg1;clear hg1;rw[Nat.zero_add,List.nil_append] at ho1;rw[Nat.zero_add];have hb1':Below w.heap.size w w1:=((Below.refl _ _).alloc (Nat.le_refl _) _).trans hb1;clear hb1;go_wp2_with (with_reducible refine stn 10 ?_)
 refine heldB (zao rfl (.tmp 8) (.tmp 9) 48 rfl Tryz.underlying48 zaq w.heap.size A1 n c1 l rfl (ho1.alloc _) _ _ 1 1 _ rfl (Bytes.one w1 (show 128<256 by omega) _) (by omega) (by have:=hb1'.size;simp;omega) ?_);intro A2 c2 w2 ho2 hb2 hg2;clear hg2;have hb2':Below w.heap.size w w2:=(hb1'.alloc hb1'.size _).trans hb2;clear hb2 ho1;go_wp2
 go_loopw [3] (fun s wr=>∃ j A' c',j≤zap n∧s=.slice A' (n+1+j) c'∧OwnB wr w.heap.size 5 A' (n+1+j) c' (l++128::List.replicate j 0)∧Below w.heap.size w wr) (fun s _=>match s with|.slice _ k _=>n+100-k|_=>0)
 case atStart=>exact⟨0,A2,c2,Nat.zero_le _,rfl,ho2,hb2'⟩
 case round =>
  obtain⟨j,A',c',hj,rfl,ho,hb⟩:=hrel;have hz:zap n=(119-n % 64) % 64:=rfl;have hz64:=zhx n;by_cases hlt:j<zap n
  ·have hne:(((n:Int)+1+(j:Int)) % 64 == 56)=false:=by simp;omega
   have hne2:(((n:Int)+1+(j:Int)) % 64 != 56)=true:=by simp;omega
   have HZ:=hide hz;clear hz;go_wp2_with (with_reducible refine stn 17 ?_)
   refine heldB (zao rfl (.tmp 15) (.tmp 16) 48 rfl Tryz.underlying48 zaq w.heap.size A' (n+1+j) c' _ rfl (ho.alloc _) _ _ 1 1 _ rfl (Bytes.one wr (show 0<256 by omega) _) (by omega) (by have:=hb.size;simp;omega) ?_);intro A3 c3 w3 ho3 hb3 hg3;clear hg3;have hb3':Below w.heap.size w w3:=(hb.alloc hb.size _).trans hb3;rw[zor] at ho3;go_wp2
   go_roundw
   case rel=>exact⟨j+1,A3,c3,by omega,rfl,ho3,hb3'⟩
   case measure=>simp;omega
  ·have hjz:j=zap n:=by omega
   have hne:(((n:Int)+1+(j:Int)) % 64 != 56)=false:=by simp;omega
   have HJZ:=hide hjz;have hj64:j<64:=by omega
   clear hz hz64 hlt hj hjz;obtain⟨v,hv⟩:∃ v,v=8*n:=⟨_,rfl⟩;have hvi:(n:Int)*8=(v:Int):=by omega
   have hvl:v≤8000000:=by omega
   obtain⟨N,hN⟩:∃ N,N=n+1+j:=⟨_,rfl⟩;obtain⟨L,hL⟩:∃ L,L=l++128::List.replicate j 0:=⟨_,rfl⟩;rw[← hN,← hL] at ho;have hNI:(n:Int)+1+(j:Int)=(N:Int):=by omega
   rw[hNI] at hne;rw[← hN];have HV:=hide hv;have HN:=hide hN;have HL:=hide hL;have hNl:N≤2000000:=by omega
   clear hv hN hL hNI;go_wp2
   clear hvi
   go_loopw [3,5] (fun s t wr=>∃ m A' c',m≤8∧s=.slice A' (N+(8-m)) c'∧OwnB wr w.heap.size 5 A' (N+(8-m)) c' (L++encB (8-m) (v / 256 ^ m))∧t=.int .i64 ((m:Int)-1)∧Below w.heap.size w wr) (fun _ t _=>(intOf t+1).toNat)
   case atStart=>exact⟨8,A',c',Nat.le_refl _,rfl,by rw[Nat.sub_self];simpa [encB] using ho,by go_num,hb⟩
   case round =>
    obtain⟨m,A',c',hm,rfl,ho,rfl,hb⟩:=hrel;by_cases h0:m=0
    ·subst h0
     have HW:=hide (show N+(8-0)=n+9+zap n by rw[HN.o,HJZ.o];omega);have HP:=hide (show L++encB (8-0) (v / 256 ^ 0)=padN l by rw[HL.o,HJZ.o,HV.o,Nat.pow_zero,Nat.div_one];unfold padN;rw[HLEN.o]);rw[HP.o,HW.o] at ho;rw[HW.o];go_wp2
     go_ret;exact⟨A',c',rfl,ho,hb⟩
    ·obtain⟨q,rfl⟩:∃ q,m=q+1:=⟨m - 1,by omega⟩
     have e1:(((q+1:Nat):Int)-1)=(q:Int):=by omega
     rw[e1];have HB:=hide (zos (v:=v) (j:=q))
     have HE:=hide (show encB (8-q) (v / 256 ^ q)=encB (8-(q+1)) (v / 256 ^ (q+1))++[v / 256 ^ q % 256] by
      rw[show 8-q=(8-(q+1))+1 by omega,encB,Nat.div_div_eq_div_mul,← Nat.pow_succ])
     have hqi:(q:Int)<8:=by omega
     go_wp2_with (with_reducible refine stn 34 ?_)
     rw[HB.o];refine heldB (zao rfl (.tmp 26) (.tmp 33) 48 rfl Tryz.underlying48 zaq w.heap.size A' (N+(8-(q+1))) c' _ rfl (ho.alloc _) _ _ 1 1 _ rfl (Bytes.one wr (Nat.mod_lt _ (by omega)) _) (by omega) (by have:=hb.size;simp;omega) ?_);intro A3 c3 w3 ho3 hb3 hg3;clear hg3;have hb3':Below w.heap.size w w3:=(hb.alloc hb.size _).trans hb3;have HL8:=hide (show N+(8-q)=N+(8-(q+1))+1 by omega);go_wp2
     go_roundw
     case rel=>exact⟨q,A3,c3,by omega,congrArg (fun z=>Value.slice A3 z c3) (by omega),by rw[HL8.o,HE.o,← List.append_assoc];exact ho3,by go_num,hb3'⟩
     case measure=>first|(simp[intOf];done)|(simp[intOf];omega)
end Go.Proofs.YtmjjefnmabbgdaaGreatDoor
