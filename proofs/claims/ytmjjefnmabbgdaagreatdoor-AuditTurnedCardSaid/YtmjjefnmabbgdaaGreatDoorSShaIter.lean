/- A part of the proof. -/
import Derived.Test.YtmjjefnmabbgdaaGreatDoorSWideIn
import Derived.BigRegionIn
import Derived.Test.YtmjjefnmabbgdaaGreatDoorSShaText
namespace Go.Proofs.YtmjjefnmabbgdaaGreatDoor
set_option linter.unusedVariables false
set_option linter.unusedSimpArgs false
set_option maxRecDepth 100000
set_option maxHeartbeats 16000000
open Go.RowKit Go.Shelf
attribute [local go_sem] Oper.semAt_some
theorem z7s (w:World)(g np cp j:Nat)(h1:j<np)(h2:np≤cp):(Instr.slice 48 (.slice (some ⟨g,0,none⟩) np cp) (some (.int .i64 (j:Int))) none none).run Tryz.prog w=.ok (.slice (some ⟨g,j,none⟩) (np-j) (cp-j)) w:=by
 have hne:¬ cp=j:=by omega
 rw[run_slice_l (P:=Tryz.prog) (w:=w) (t:=48) (a:=some ⟨g,0,none⟩) (len:=np) (cap:=cp) (ht:=Tryz.underlying48) (kl:=.i64) (l:=(j:Int)) (h0:=by omega) (h1:=by omega)];simp[go_sem,sliced,hne]
theorem z7t (w:World)(g np cp j:Nat)(h1:j+64≤np)(h2:np≤cp):(Instr.slice 48 (.slice (some ⟨g,0,none⟩) np cp) (some (.int .i64 (j:Int))) (some (.int .i64 ((j:Int)+64))) (some (.int .i64 ((j:Int)+64)))).run Tryz.prog w=.ok (.slice (some ⟨g,j,none⟩) 64 64) w:=by
 have e2:((j:Int)+64).toNat=j+64:=by omega
 have b0:(0:Int)≤(j:Int)+64:=by omega
 have b1:(j:Int)+64≤(cp:Int):=by omega
 simp[Instr.slice,run_underlying Tryz.underlying48,Instr.sliceBounds,Instr.sliceBound,asIntOf,b0,b1,e2,go_sem]
theorem z7u (n:Nat)(A:Option Addr)(len cp:Nat)(w:World) :
 CallsIn Fence.wide n Tryz.prog 234 #[.slice A len cp,.int .i64 64] w fun e w'=>e=.returned (.func (.func 286) #[] #[.pointer (some ⟨w.heap.size,0,none⟩),.pointer (some ⟨w.heap.size+1,0,none⟩)]) ∧
  w'=(w.alloc (.cells #[.slice A len cp] 48)).alloc (.cells #[.int .i64 64] 3):=by
 refine callsIn_of_wp Tryz.func234 rfl trivial ?_ rfl;simp only[Tryz.ntmps234,List.size_toArray,List.length_cons,List.length_nil,Nat.reduceAdd,Nat.reduceSub,Array.replicate_succ,Array.replicate_zero,List.push_toArray,List.append_toArray,List.nil_append,List.cons_append]
 gi_wp2
 go_ret;exact⟨rfl,rfl⟩
theorem z7v {β:Type}{B:Nat}{J:β→World→Prop}(h:AbidesFrom B J){s:β}{W:World}(hs:J s W):J s W.drew :=
 h s W W.drew none hs ⟨rfl,rfl,rfl,Nat.le_refl _,fun _ _ _=>rfl⟩ (fun r e=>by cases e)
theorem z7w {α:Type}(val:α→Nat)(xs:List α)(l Bs Bf g np cp nb:Nat)(hxs:∀ k (h:k<nb),∃ h':k<xs.length,val (xs[k])=k)(hxl:xs.length=nb)(S:Nat→Prop)(hnb:np=64*nb)(hnp:np≤2000000)(hcp:np≤cp)(J Jx:List α→World→Prop)(B:Nat)(hJ:AbidesFrom B J)
 (hY:∀ pre x W,J pre W→pre.length<nb→YieldAt Fence.wide 1 Tryz.prog l #[.slice (some ⟨g,64*val x,none⟩) 64 64] W fun e W' =>
  (e=.returned (.bool true)∧J (pre++[x]) W'∧Keeps S W W')∨(e=.returned (.bool false)∧Jx (pre++[x]) W'))
 (W:World) (hBs:W.cell? ⟨Bs,0,none⟩=some (.slice (some ⟨g,0,none⟩) np cp)) (hBf:W.cell? ⟨Bf,0,none⟩=some (.int .i64 64)) (hs0:S Bs) (hf0:S Bf) (h0:J [] W) :
 CallsIn Fence.wide 2 Tryz.prog 286 #[.func (.yield l) #[] #[],.pointer (some ⟨Bs,0,none⟩),.pointer (some ⟨Bf,0,none⟩)] W fun e W'=>(∃ v,e=.returned v) ∧
  ((∃ ys,ys=xs∧J ys W')∨(∃ pre:List α,True∧Jx pre W')):=by
 refine callsIn_of_wp Tryz.func286 rfl trivial ?_ rfl;simp only[Tryz.ntmps286,List.size_toArray,List.length_cons,List.length_nil,Nat.reduceAdd,Nat.reduceSub,Array.replicate_succ,Array.replicate_zero,List.push_toArray,List.append_toArray,List.nil_append,List.cons_append]
 gi_wp2
 gi_loopw [4] (fun i wr=>∃ k:Nat,k≤nb∧i=.int .i64 ((64*k:Nat):Int)∧J (xs.take k) wr∧Keeps S W wr)
  (fun i _=>(np-(intOf i).toNat))
 case atStart=>exact⟨0,Nat.zero_le _,rfl,h0,Keeps.refl _ _⟩
 case round =>
  obtain⟨k,hk,rfl,hJs,hnx⟩:=hrel;have hBs':=(hnx.cell (p:=⟨Bs,0,none⟩) hs0).trans hBs;have hBf':=(hnx.cell (p:=⟨Bf,0,none⟩) hf0).trans hBf;have HNB:=hide hnb;clear hnb;by_cases hlt:k<nb
  ·obtain⟨j,hj⟩:∃ j,j=64*k:=⟨_,rfl⟩
   have hj64:j+64≤np:=by rw[HNB.o];omega
   obtain⟨hkx,hval⟩:=hxs k hlt;have HY:=hide (hY (xs.take k) xs[k] wr.drew (z7v hJ hJs) (by rw[List.length_take];omega));rw[hval] at HY;have HRG:=hide (List.take_succ_eq_append_getElem hkx);rw[← hj] at HY ⊢;clear hval;have HJ:=hide hj;have HJS:=hide hJs;have HNX:=hide hnx;clear hj hY hJs hnx;have hr1:=fun W=>z7s W g np cp j (by omega) hcp;have hr2:=fun W=>z7t W g np cp j hj64 hcp;have q1:(j:Int)<(np:Int):=by omega
   have q2:((np-j:Nat):Int)=(np:Int)-(j:Int):=by omega
   have q3:(64:Int)≤(np:Int)-(j:Int):=by omega
   gi_wp2_with fail
   gi_region
   have hBsD:wr.drew.cell? ⟨Bs,0,none⟩=some (.slice (some ⟨g,0,none⟩) np cp):=hBs';have hBfD:wr.drew.cell? ⟨Bf,0,none⟩=some (.int .i64 64):=hBf';have HNX2:=hide (HNX.o.trans ⟨rfl,rfl,rfl,Nat.le_refl _,fun _ _=>rfl⟩:Keeps S W wr.drew);clear HNX HJS hBs' hBf' hr1;generalize wr.drew=W2 at *;obtain⟨fn,tmps,assign,body,hy,hR⟩:=HY.o;have HR:=hide hR;clear hR HY
   gi_wp2
   refine HR.o.mono ?_;rintro e W3 (⟨rfl,hJ3,hk3⟩|⟨rfl,hJx3⟩)
   ·have HNX3:=hide (HNX2.o.trans hk3)
    have hBf3:=(HNX3.o.cell (p:=⟨Bf,0,none⟩) hf0).trans hBf;have HJ3:=hide hJ3;clear hJ3 hk3 hBsD hBfD HNX2 hr2 hy
    gi_wp2
    go_roundw
    case rel=>exact⟨k+1,by omega,by have:=HJ.o;go_num,by rw[HRG.o];exact HJ3.o,HNX3.o⟩
    case measure=>simp[intOf];omega
   ·gi_wp2
    refine bodyPost_ret (results_none rfl _ _ _) rfl ?_;refine⟨⟨_,rfl⟩,?_⟩
    first|exact .inr ⟨_,trivial,hJx3⟩|exact .inr ⟨_,hJx3⟩
  ·have hkn:k=nb:=by omega
   have hlk:¬ ((64*k:Nat):Int)<(np:Int):=by rw[HNB.o];omega
   obtain⟨j,hj⟩:∃ j,j=64*k:=⟨_,rfl⟩;rw[← hj] at hlk ⊢;have HKN:=hide hkn;clear hkn hlt hk hj
   gi_wp2
   go_end0;rw[HKN.o,List.take_of_length_le (by rw[hxl];exact Nat.le_refl _)] at hJs;refine⟨⟨_,rfl⟩,?_⟩
   first|exact .inl ⟨_,rfl,hJs⟩|exact .inl hJs
theorem z7x {α:Type}(val:α→Nat)(xs:List α)(Bs Bf g np cp nb:Nat)(hxs:∀ k (h:k<nb),∃ h':k<xs.length,val (xs[k])=k)(hxl:xs.length=nb)(S:Nat→Prop)(hnb:np=64*nb)(hnp:np≤2000000)(hcp:np≤cp)(w:World)(hBs:w.cell? ⟨Bs,0,none⟩=some (.slice (some ⟨g,0,none⟩) np cp))(hBf:w.cell? ⟨Bf,0,none⟩=some (.int .i64 64))(hs0:S Bs)(hf0:S Bf)(hSw:∀ b,S b→b<w.heap.size) :
 SeqStopsK Fence.wide 2 Tryz.prog 286 #[.pointer (some ⟨Bs,0,none⟩),.pointer (some ⟨Bf,0,none⟩)] (fun x:α=>#[.slice (some ⟨g,64*val x,none⟩) 64 64]) (Keeps S) (fun ys=>ys=xs) (fun _=>True) nb w :=
 fun l J Jx W hW hJ _ hY h0=>by
  have hK:Keeps S w W:=Keeps.of_below hW hSw;exact z7w val xs l Bs Bf g np cp nb hxs hxl S hnb hnp hcp J Jx _ hJ hY W ((hK.cell (p:=⟨Bs,0,none⟩) hs0).trans hBs) ((hK.cell (p:=⟨Bf,0,none⟩) hf0).trans hBf) hs0 hf0 h0
attribute [local go_sem] Oper.semAt_some
abbrev Pl (nb:Nat):={ x:Nat // x<nb }
def places (nb:Nat):List (Pl nb):=(List.range nb).attach.map fun x=>⟨x.1,List.mem_range.1 x.2⟩
theorem zlv (nb:Nat):(places nb).length=nb:=by simp[places]
theorem zsy {nb:Nat}:∀ k (_:k<nb),∃ h':k<(places nb).length,((places nb)[k]).1=k:=fun k h=>⟨by rw[zlv];exact h,by simp[places]⟩
def zcr (p:List Nat){nb:Nat}(pre:List (Pl nb)):Wd:=pre.foldl (fun s x=>zb5 kL s (za8 p x.1)) first0
theorem zlw (p:List Nat){nb:Nat}(pre:List (Pl nb))(x:Pl nb):zcr p (pre++[x])=zb5 kL (zcr p pre) (za8 p x.1):=by simp[zcr]
theorem z7y (p:List Nat){nb:Nat}(pre:List (Pl nb)):(zcr p pre).Ok:=by
 rcases List.eq_nil_or_concat pre with rfl|⟨l,x,rfl⟩
 ·exact zn9
 ·rw[List.concat_eq_append,zlw];exact zn8 _ _ _
theorem zsz (p:List Nat)(nb:Nat):∀ k,k≤nb→zcr p ((places nb).take k)=za2 p k
 | 0,_=>by rw[znk];rfl
 | k + 1, h => by
   obtain⟨h1,h2⟩:=zsy (nb:=nb) k (by omega);rw[List.take_succ_eq_append_getElem h1,zlw,zsz p nb k (by omega),znl,h2]
theorem z7z (p:List Nat)(nb:Nat):zcr p (places nb)=za2 p nb:=by
 have:=zsz p nb nb (Nat.le_refl _)
 rwa [List.take_of_length_le (by rw[zlv];exact Nat.le_refl _)] at this
theorem z71 {W w':World}(h:Below W.heap.size W w'):KeepsOthers W w':=⟨h.size,fun k o hk _=>(h.block k (Array.getElem?_eq_some_iff.1 hk).1).trans hk⟩
theorem Tabs.range {w:World}(h:Tabs w):w.rangeAt 1 0 (cw firstL).toList:=fun i v hv=>by
 rw[Nat.zero_add];have hi:i<8:=by
  have:=(List.getElem?_eq_some_iff.1 hv).1
  simpa [z8,za3] using this
 rw[h.1 i hi];rw[Array.getElem?_toList,zjs (by rw[za3];exact hi)] at hv;exact hv
theorem Bytes.range {w:World}{B g o n:Nat}{l:List Nat}(h:Bytes w B (some ⟨g,o,none⟩) n l){w':World}(hk:∀ p:Addr,p.block=g→w'.cell? p=w.cell? p):w'.rangeAt g o (cb l).toList:=fun i v hv=>by
 have hi:i<l.length:=by
  have:=(List.getElem?_eq_some_iff.1 hv).1
  simpa [qn] using this
 rw[Array.getElem?_toList,zdw hi] at hv;obtain⟨b,o2,e,_,hc⟩:=h.2.2 (by rw[← h.1];omega);injection e with e;injection e with e1 e2;subst e1;subst e2;rw[hk _ rfl,hc i (by rw[← h.1];exact hi)];exact hv
section
variable {P:Program} {F:Fence} {n:Nat} {ops:Array Oper} {Q:Exit→Act→World→Prop}
theorem zb0 {o:Oper}{a:Act}{w w':World}{K:Act→World→Prop}{v:Value}(hw:Region.wanted o (yielded ops a.tmps)=true)
 (hab:o.about P w a.eval=none) (hd:∀ c,o.op≠.defer c) (h:(execOp a.eval o).run P w=.ok (.value v) w') (hK:K (a.put o.dst v) w') :
 if Region.wanted o (yielded ops a.tmps)=true then Oper.wpIn F n P o a w K Q else (∀ f,o.about P w a.eval=some f→F.fn f)∧K (a.put o.dst undef) w:=by
 rw[if_pos hw];exact zlz hab hd h hK
theorem z72 {o:Oper}{a:Act}{w w':World}{K:Act→World→Prop}(hw:Region.wanted o (yielded ops a.tmps)=true)
 (hab:o.about P w a.eval=none) (hd:∀ c,o.op≠.defer c) (h:(execOp a.eval o).run P w=.ok .skip w') (hK:K (a.put o.dst undef) w') :
 if Region.wanted o (yielded ops a.tmps)=true then Oper.wpIn F n P o a w K Q else (∀ f,o.about P w a.eval=some f→F.fn f)∧K (a.put o.dst undef) w:=by
 rw[if_pos hw];exact zs1 hab hd h hK
theorem jc {o:Oper}{ρ:Operand→Value}{w:World}{ty:TypeId}{x:Operand}(ho:o.op=.load ty x){b off:Nat}(hx:ρ x=.pointer (some ⟨b,off,none⟩)){cs:Array Value}{d:TypeDesc}(hc:w.rangeAt b off cs.toList)
 (hu:P.underlying ty=some d) (hd:d.isRow=true) (hi:(P.info? ty).map (·.size)=some cs.size):(execOp ρ o).run P w=.ok (.value (.agg cs)) w:=by
 unfold execOp;simp only[ho,hx,Instr.loadAt,Instr.sureAddr,Sem.run_bind,Sem.run_pure,Result.andThen_ok,run_loadVar_mid w b off ty cs.toList d hc hu hd (by rw[Array.length_toList];exact hi),Array.toArray_toList]
theorem zs0 {o:Oper}{ρ:Operand→Value}{w:World}{ty:TypeId}{x y:Operand}(ho:o.op=.store ty x y){g:Nat}(hx:ρ x=.pointer (some ⟨g,0,none⟩)){ds cur:Array Value}(hy:ρ y=.agg ds){t:TypeId}(hg:Bk w g t cur)(hs:ds.size=cur.size)
 (hi:(P.info? ty).map (·.size)=some ds.size) (h1:∀ v∈ds.toList,v.oneCell'=true):(execOp ρ o).run P w=.ok .skip (w.setRow g ds):=by
 cases hq:P.info? ty with
 | none=>simp[hq] at hi
 | some i =>
   have hs':ds.size=i.size:=by simp[hq] at hi;omega
   unfold execOp;simp only[ho,hx,hy,Instr.storeAt,Instr.sureAddr,Sem.run_bind,Sem.run_pure,Result.andThen_ok];simp[storeVar,sizeOf,typeInfo,hq,Value.cells,hs',z8b hg hs h1]
theorem zlx {o:Oper}{ρ:Operand→Value}{w:World}{ty e:TypeId}{x:Operand}(ho:o.op=.sliceToArrayPointer ty x){a:Option Addr}{k c:Nat}(hx:ρ x=.slice a k c)(hu:P.underlying ty=some (.array k e)):(execOp ρ o).run P w=.ok (.value (.pointer a)) w:=by
 unfold execOp;simp[ho,hx,Instr.arrayAt,run_underlying hu]
end
theorem z73 (A:Option Addr)(n c B:Nat)(l:List Nat)(w:World)(hl:Bytes w B A n l)(hB:B≤w.heap.size)(hn:n≤1000000)(ht:Tabs w) :
 Calls Tryz.prog 159 #[.slice A n c] w fun e w'=>e=.returned (.agg (cb (sumB l)))∧Below w.heap.size w w':=by
 have hp:=ht.pos;have HT:=hide ht;clear ht;refine(callsIn_wide (n:=3)).1 ?_;refine callsIn_of_wp_marks Tryz.func159 rfl trivial ?_ rfl;simp only[Tryz.ntmps159,List.size_toArray,List.length_cons,List.length_nil,Nat.reduceAdd,Nat.reduceSub,Array.replicate_succ,Array.replicate_zero,List.push_toArray,List.append_toArray,List.nil_append,List.cons_append]
 gi_wp2_with ((with_reducible show wpListIn _ _ _ _ _ (⟨some 2,_,_,_,_,_⟩::_) _ _);refine holdB ?_)
 refine heldB (zs3 (by simp[Region.wanted]) 25 rfl _ zgb ?_)
 gi_wp2_with ((with_reducible show wpListIn _ _ _ _ _ (⟨some 5,_,_,_,_,_⟩::_) _ _);refine holdB ?_)
 have ht2:Tabs (w.alloc (.cells (cb (List.replicate 32 0)) 25)):=HT.o.below ((Below.refl w.heap.size w).alloc (Nat.le_refl _) _) hp;refine heldB (zs2 (by simp[Region.wanted]) 88 (.global 1) rfl 1 0 rfl _ _ ht2.range Tryz.underlying88 rfl (by rw[Array.length_toList,z8];exact jo) ?_);rw[Array.toArray_toList];refine zs3 (by simp[Region.wanted]) 88 rfl _ ze3 ?_;refine zs4 (by simp[Region.wanted]) 88 (.tmp 3) (.tmp 5) rfl (w.heap.size+1) 0 (cw firstL) (by simp[Act.eval,Act.put]) rfl 88 _ (Bk.new2 w _ _ _) (by simp[z8,za3]) (by rw[z8];exact jo) (zb6 _) ?_;intro W h4;rw[zbl (by simp[z8,za3])] at h4;have r1:=hide (h4.out ▸ (Bk.new2 w _ _ _).setRow_same (cw firstL):Bk W (w.heap.size+1) 88 (cw firstL));have r3:=hide (h4.out ▸ ((Bk.new w _ _).alloc _).setRow_other (by omega) (cw firstL):Bk W w.heap.size 25 (cb (List.replicate 32 0)));have r4:=hide (h4.out ▸ below_setRow (((Below.refl _ _).alloc (Nat.le_refl _) _).alloc (by simp) _) (by omega) (cw firstL):Below w.heap.size w W)
 clear h4 ht2;have hbs:=r4.out.size
 gi_wp2_with fail
 refine⟨trivial,(callsIn_wide.2 (zxi A n c B l W (hl.below r4.out hB) (by omega) hn)).mono ?_⟩;rintro e W1 ⟨Ap,cp,rfl,ho,hb1⟩;have t1:=hide (r1.out.below hb1 r1.out.lt);have t3:=hide (r3.out.below hb1 r3.out.lt);have t4:=hide (r4.out.trans (hb1.mono hbs));have hlen:=zjx l;rw[hl.1] at hlen;have hmod:=zop l;have hsum:Hid (sumB l=flN (za2 (padN l) ((padN l).length / 64)).list 32):=hide rfl;have hp256:=zoq hl.2.1;obtain⟨p,hpd⟩:∃ p,p=padN l:=⟨_,rfl⟩;rw[← hpd] at ho hlen hmod hsum hp256;obtain⟨np,hnp⟩:∃ np,np=n+9+zap n:=⟨_,rfl⟩;rw[← hnp] at ho hlen ⊢;have hz:=zhx n;have hnl:np≤2000000:=by omega
 have hn0:0<np:=by omega
 rw[hlen] at hmod hsum;obtain⟨nb,hnb⟩:∃ nb,nb=np / 64:=⟨_,rfl⟩;rw[← hnb] at hsum;have HNB:=hide (show np=64*nb by omega);clear hnb;have hcp:np≤cp∧cp≤maxLen:=ho.cap;have hcpn:=hcp.1;obtain⟨g,rfl,hg,hgl,_,_⟩:=ho.cells hn0;have hgW:w.heap.size+1<W.heap.size:=r1.out.lt;have HO:=hide ho;have HLEN:=hide hlen;have HPD:=hide hpd;have hW1:=t4.out.size;have hgW1:w.heap.size+1<W1.heap.size:=t1.out.lt;clear r1 r3 r4 hb1 ho hlen hpd hnp hmod hcp hbs
 gi_wp2_with fail
 refine⟨trivial,(z7u 2 (some ⟨g,0,none⟩) np cp W1).mono ?_⟩;rintro e W2 ⟨rfl,rfl⟩
 gi_wp2_with fail
 refine z79 (fun W0=>(Bk W0 (w.heap.size+1) 88 (cw firstL)∧Bk W0 w.heap.size 25 (cb (List.replicate 32 0))∧Bk W0 W1.heap.size 48 #[.slice (some ⟨g,0,none⟩) np cp]∧Bk W0 (W1.heap.size+1) 3 #[.int .i64 64]) ∧
  OwnB W0 W.heap.size 5 (some ⟨g,0,none⟩) np cp p∧W0.heap.size=W1.heap.size+2∧Below w.heap.size w W0) ?hF ?hw
 case hF =>
  refine⟨⟨(t1.out.alloc _).alloc _,(t3.out.alloc _).alloc _,(Bk.new _ _ _).alloc _,Bk.new2 _ _ _ _⟩,(HO.o.alloc _).alloc _,by simp,(t4.out.alloc t4.out.size _).alloc (by have:=t4.out.size;simp;omega) _⟩
 case hw =>
  clear t1 t3 t4 HO;rintro W0 ⟨⟨K1,K3,K4,K5⟩,hown,hsz,hb0⟩;have hS0:(fun b=>b<W1.heap.size+2∧b≠w.heap.size+1) W1.heap.size:=⟨by omega,by omega⟩;have hS1:(fun b=>b<W1.heap.size+2∧b≠w.heap.size+1) (W1.heap.size+1):=⟨by omega,by omega⟩;have hSr:(fun b=>b<W1.heap.size+2∧b≠w.heap.size+1) w.heap.size:=⟨by omega,by omega⟩;have hSg:(fun b=>b<W1.heap.size+2∧b≠w.heap.size+1) g:=⟨by omega,by omega⟩;have hSn:∀ b,b<w.heap.size→(fun b=>b<W1.heap.size+2∧b≠w.heap.size+1) b:=fun b hb=>⟨by omega,by omega⟩;have hSw:∀ b,(fun b=>b<W1.heap.size+2∧b≠w.heap.size+1) b→b<W0.heap.size:=fun b hb=>by rw[hsz];exact hb.1
  obtain⟨S,hSd⟩:∃ S:Nat→Prop,S=fun b=>b<W1.heap.size+2∧b≠w.heap.size+1:=⟨_,rfl⟩;rw[← hSd] at hS0 hS1 hSr hSg hSn hSw;have hng:¬ S (w.heap.size+1):=by rw[hSd];exact fun h=>h.2 rfl
  clear hSd;refine wpIn_rangeFunc_ownH (α:=Pl nb) rfl (by omega) (gf:=286) (lb:=#[.pointer (some ⟨W1.heap.size,0,none⟩),.pointer (some ⟨W1.heap.size+1,0,none⟩)]) rfl trivial
   (enters_of Tryz.func286 (by kernel_rfl) rfl)
   (z7x Subtype.val (places nb) W1.heap.size (W1.heap.size+1) g np cp nb zsy (zlv nb) S HNB.o hnl hcpn W0 (K4.cell 0) (K5.cell 0) hS0 hS1 hSw)
   Keeps.trans (z78 hSw) (Below.refl _ _) (fun _=>rfl)
   (fun pre W=>Bk W (w.heap.size+1) 88 (cw (zcr p pre).list)∧Keeps S W0 W)
   (fun _ _ _=>False) ?hI (fun c s A B row h _ _=>h) ?h0
   (fun x a' _=>a'={ tmps:=#[.slice A n c,undef,.pointer (some ⟨w.heap.size,0,none⟩),.pointer (some ⟨w.heap.size+1,0,none⟩),.slice (some ⟨g,64*x.1,none⟩) 64 64,.agg (cw firstL),.slice A n c,.slice (some ⟨g,0,none⟩) np cp,.func (.func 286) #[] #[.pointer (some ⟨W1.heap.size,0,none⟩),.pointer (some ⟨W1.heap.size+1,0,none⟩)],.slice (some ⟨g,64*x.1,none⟩) 64 64,undef,undef,undef,undef,undef,undef,undef],defers:=[] })
   (fun x a' _ A B row h hg hr=>h) ?assign ?body ?done ?stop
  case hI =>
   intro s A B row ⟨h2,h3⟩ hg hr;exact⟨h2.keptW hg (fun r e=>(hr r e).2),z74 hSw (Nat.le_refl _) s A B row h3 hg hr⟩
  case h0=>exact⟨K1,Keeps.refl _ _⟩
  case assign =>
   intro l pre x W K hI hK
   gi_wp2
   exact hK _ _ (KeepsFrom.refl _ _) (Keeps.refl _ _) hI rfl
  case body =>
   rintro l9 pre x a' W9 hl9 ⟨r,hr⟩ ⟨hI1,hI2⟩ rfl hlt;have hx1:64*(x.1+1)≤np:=by have:=HNB.o;have:=x.2;omega
   obtain⟨g',hA,_,hbk⟩:=hown.block (i:=x.1) hx1;injection hA with hA;injection hA with hA;subst hA;have hrg:=hbk.range (w':=W9.drew) (fun p hp=>by show W9.cell? p=_;exact hI2.cell (by rw[hp];exact hSg));have hbl:=hbk.1;have hbb:=hbk.2.1;have hok:=z7y p pre;have HFS:=hide (zlw p pre x);have ht9:Tabs W9.drew:=(HT.o.below hb0 hp).below (hI2.below hSn).drew hp;obtain⟨x,hxl⟩:=x;simp only at hrg hbl hbb HFS ⊢;have HRG:=hide hrg;have HBL:=hide hbl;have HC:=hide (zwy (zcr p pre) (za8 p x) W9.drew hok hbl hbb ht9);have HI1:=hide hI1;have HI2:=hide hI2;have HBK:=hide hbk;have hI1l:=hI1.lt;clear hI1 hI2 hbk hrg hbb hok ht9 hr hown K1 K3 K4 K5
   gi_wp2_with fail
   have hmix:Tryz.prog.follows .mixedOrders=true:=by kernel_rfl
   refine wpIn_region_any hmix ?_
   change wpAnyIn _ _ _ _ _ _ _ _ _ W9.drew
   refine wpAnyIn_ready (rs:=[0,1]) (by kernel_rfl) (by simp) (AllReadyIn.cons rfl (fun K hK=>?sa1) (AllReadyIn.cons rfl (fun K hK=>?sb1) AllReadyIn.nil))
   case' sa1 =>
    refine zb0 (by simp[Region.wanted]) (by simp[Oper.about]) (by intro c hc;cases hc) (jc rfl rfl HI1.o.drew.range Tryz.underlying88 rfl (by rw[z8];exact jo)) (hK _ _ ?_);clear hK K;refine wpAnyIn_ready (rs:=[1]) (by kernel_rfl) (by simp) (AllReadyIn.cons rfl (fun K hK=>?_) AllReadyIn.nil);refine zb0 (v:=.slice (some ⟨g,64*x,none⟩) 64 64) (w':=W9.drew) (by simp[Region.wanted]) (by simp[Oper.about]) (by intro c hc;cases hc) (by rfl) (hK _ _ ?_);clear hK K;refine wpAnyIn_ready (rs:=[2]) (by kernel_rfl) (by simp) (AllReadyIn.cons rfl (fun K hK=>?_) AllReadyIn.nil);refine zb0 (by simp[Region.wanted]) (by simp[Oper.about]) (by intro c hc;cases hc) (zlx (k:=64) (c:=64) (a:=some ⟨g,64*x,none⟩) rfl rfl Tryz.underlying255) (hK _ _ ?_);clear hK K;refine wpAnyIn_ready (rs:=[3]) (by kernel_rfl) (by simp) (AllReadyIn.cons rfl (fun K hK=>?_) AllReadyIn.nil);refine zb0 (by simp[Region.wanted]) (by simp[Oper.about]) (by intro c hc;cases hc) (jc rfl rfl HRG.o Tryz.underlying255 rfl (by rw[qn,HBL.o];exact ze4)) (hK _ _ ?_)
    clear hK K
   case' sb1 =>
    refine zb0 (v:=.slice (some ⟨g,64*x,none⟩) 64 64) (w':=W9.drew) (by simp[Region.wanted]) (by simp[Oper.about]) (by intro c hc;cases hc) (by rfl) (hK _ _ ?_);clear hK K;refine wpAnyIn_ready (rs:=[0,2]) (by kernel_rfl) (by simp) (AllReadyIn.cons rfl (fun K hK=>?sa2) (AllReadyIn.cons rfl (fun K hK=>?sb2) AllReadyIn.nil))
    case' sa2 =>
     refine zb0 (by simp[Region.wanted]) (by simp[Oper.about]) (by intro c hc;cases hc) (jc rfl rfl HI1.o.drew.range Tryz.underlying88 rfl (by rw[z8];exact jo)) (hK _ _ ?_);clear hK K;refine wpAnyIn_ready (rs:=[2]) (by kernel_rfl) (by simp) (AllReadyIn.cons rfl (fun K hK=>?_) AllReadyIn.nil);refine zb0 (by simp[Region.wanted]) (by simp[Oper.about]) (by intro c hc;cases hc) (zlx (k:=64) (c:=64) (a:=some ⟨g,64*x,none⟩) rfl rfl Tryz.underlying255) (hK _ _ ?_);clear hK K;refine wpAnyIn_ready (rs:=[3]) (by kernel_rfl) (by simp) (AllReadyIn.cons rfl (fun K hK=>?_) AllReadyIn.nil);refine zb0 (by simp[Region.wanted]) (by simp[Oper.about]) (by intro c hc;cases hc) (jc rfl rfl HRG.o Tryz.underlying255 rfl (by rw[qn,HBL.o];exact ze4)) (hK _ _ ?_);clear hK K
    case' sb2 =>
     refine zb0 (by simp[Region.wanted]) (by simp[Oper.about]) (by intro c hc;cases hc) (zlx (k:=64) (c:=64) (a:=some ⟨g,64*x,none⟩) rfl rfl Tryz.underlying255) (hK _ _ ?_);clear hK K;refine wpAnyIn_ready (rs:=[0,3]) (by kernel_rfl) (by simp) (AllReadyIn.cons rfl (fun K hK=>?sa3) (AllReadyIn.cons rfl (fun K hK=>?sb3) AllReadyIn.nil))
     case' sa3 =>
      refine zb0 (by simp[Region.wanted]) (by simp[Oper.about]) (by intro c hc;cases hc) (jc rfl rfl HI1.o.drew.range Tryz.underlying88 rfl (by rw[z8];exact jo)) (hK _ _ ?_);clear hK K;refine wpAnyIn_ready (rs:=[3]) (by kernel_rfl) (by simp) (AllReadyIn.cons rfl (fun K hK=>?_) AllReadyIn.nil);refine zb0 (by simp[Region.wanted]) (by simp[Oper.about]) (by intro c hc;cases hc) (jc rfl rfl HRG.o Tryz.underlying255 rfl (by rw[qn,HBL.o];exact ze4)) (hK _ _ ?_);clear hK K
     case' sb3 =>
      refine zb0 (by simp[Region.wanted]) (by simp[Oper.about]) (by intro c hc;cases hc) (jc rfl rfl HRG.o Tryz.underlying255 rfl (by rw[qn,HBL.o];exact ze4)) (hK _ _ ?_);clear hK K;refine wpAnyIn_ready (rs:=[0]) (by kernel_rfl) (by simp) (AllReadyIn.cons rfl (fun K hK=>?_) AllReadyIn.nil);refine zb0 (by simp[Region.wanted]) (by simp[Oper.about]) (by intro c hc;cases hc) (jc rfl rfl HI1.o.drew.range Tryz.underlying88 rfl (by rw[z8];exact jo)) (hK _ _ ?_);clear hK K
   all_goals
    refine wpAnyIn_ready (rs:=[4]) (by kernel_rfl) (by simp) (AllReadyIn.cons rfl (fun K hK=>?_) AllReadyIn.nil);rw[if_pos (by simp[Region.wanted])]
    gi_wp2_with fail
   all_goals
    refine⟨trivial,(CallsIn.inRound l9 (callsIn_wide.2 HC.o)).mono ?_⟩;rintro e w6 ⟨rfl,hb6⟩;have hb6':=z8a hb6;have hbk6:Bk w6 (w.heap.size+1) 88 (cw (zcr p pre).list):=HI1.o.below hb6' hI1l;refine hK _ _ ?_;clear hK K;refine wpAnyIn_ready (rs:=[5]) (by kernel_rfl) (by simp) (AllReadyIn.cons rfl (fun K hK=>?_) AllReadyIn.nil);refine z72 (by simp[Region.wanted]) (by simp[Oper.about]) (by intro c hc;cases hc) (zs0 (ds:=cw (zb5 kL (zcr p pre) (za8 p x)).list) rfl rfl rfl hbk6 (by simp[z8,Wd.list]) (by rw[z8];exact jo) (zb6 _)) (hK _ _ ?_);refine wpAnyIn_done (by kernel_rfl) ?_ _;have hk9:Keeps S W9 (w6.setRow (w.heap.size+1) (cw (zb5 kL (zcr p pre) (za8 p x)).list)):=(Keeps.of_below hb6' (fun b hb=>Nat.lt_of_lt_of_le (hSw b hb) HI2.o.size)).setRow hng _
    show KeepsFrom _ _ _∧Keeps S _ _∧_∧_
    exact⟨((z71 hb6').trans (z75 w6 _ _ _ _ hbk6)).from _,hk9,by rw[HFS.o];exact hbk6.setRow_same _,HI2.o.trans hk9⟩
  case done =>
   rintro D ys W9 hD rfl ⟨h1,h2⟩ hK;rw[z7z] at h1;have hok:=zjm p nb;have HR:=hide ((h2.block _ hSr).trans K3:Bk W9 w.heap.size 25 (cb (List.replicate 32 0)));have HB:=hide (hb0.trans (h2.below hSn));have HKD:=hide hK;have H1:=hide h1;have hwr:w.heap.size<W9.heap.size:=by have:=HB.o.size;have:=h1.lt;omega
   clear h1 h2 hK;generalize za2 p nb=s at *
   gi_wp2_with ((with_reducible show wpListIn _ _ _ _ _ (⟨some 15,_,_,_,_,_⟩::_) _ _);refine holdB ?_)
   refine heldB (zs2 (by simp[Region.wanted]) 88 (.tmp 3) rfl (w.heap.size+1) 0 rfl _ _ H1.o.range Tryz.underlying88 rfl (by rw[Array.length_toList,z8];exact jo) ?_);rw[Array.toArray_toList]
   gi_wp2_with fail
   refine⟨trivial,(callsIn_wide.2 (zwz s.list W9 rfl (znm hok))).mono ?_⟩;rintro e W8 ⟨rfl,hb8⟩;have hDl:D<W9.heap.size:=(Array.getElem?_eq_some_iff.1 HKD.o).1;have HKD8:=hide ((hb8.block D hDl).trans HKD.o);have HR8:=hide (Bk.below HR.o hb8 hwr);have HB8:=hide (HB.o.trans (hb8.mono HB.o.size));have hDw:D≠w.heap.size:=by have:=hb0.size;omega
   have hD0:w.heap.size≤D:=by have:=hb0.size;omega
   clear HKD HR HB H1 hb8 K1 K3 K4 K5 hown;rw[← hsum.out];have hsz8:=zc5 l;obtain⟨fs,hfs⟩:∃ fs,fs=sumB l:=⟨_,rfl⟩;rw[← hfs] at hsz8 ⊢;have HFS:=hide hfs;have HLN:=hide hsz8;clear hfs hsz8
   gi_wp2_with ((with_reducible show wpListIn _ _ _ _ _ (⟨none,.store _ _ _,_,_,_,_⟩::_) _ _);refine holdB ?_)
   refine heldB (zs4 (by simp[Region.wanted]) 25 (.tmp 2) (.tmp 16) rfl w.heap.size 0 (cb fs) rfl rfl 25 _ HR8.o (by rw[qn,qn,HLN.o];simp) (by rw[qn,HLN.o];exact zdy) (zjt _) ?_);intro W7 h7;rw[zbl (by rw[qn,qn,HLN.o];simp)] at h7;have HR7:=hide (h7.out ▸ HR8.o.setRow_same (cb fs):Bk W7 w.heap.size 25 (cb fs));have hK7:W7.heap[D]?=some (.deferred (some [])):=by rw[h7.out];exact(YtmjjefnmabbgdaaGreatDoor.setRow_other' W8 w.heap.size D (cb fs) hDw).trans HKD8.o
   have HB7:=hide (h7.out ▸ below_setRow HB8.o (Nat.le_refl _) (cb fs):Below w.heap.size w W7);clear h7 HR8 HKD8 HB8;have HK7:=hide hK7;clear hK7
   gi_wp2
   have hK7:=HK7.o;refine⟨by simp,.inl ⟨_,_,rfl,run_takeDeferred hK7,?_⟩⟩;have hkp:∀ r,some D=some r→∃ o:Obj,W7.heap[r]?=some o∧o.isCells=false:=fun r e=>by cases e;exact⟨_,hK7,rfl⟩
   have hgb:=grownBy_putObj' W7 D (.deferred none);have HRf:=HR7.o.keptW hgb hkp;refine⟨.agg (cb fs),qi (a:=⟨w.heap.size,0,none⟩) rfl rfl (HRf.load Tryz.underlying25 rfl (by rw[qn,HLN.o];exact zdy)),⟨by rw[HFS.o],?_⟩⟩;exact HB7.o.grown hgb HB7.o.size (fun k e=>by cases e;exact hD0)
  case stop =>
   intro D c' pre W _ _ h _;exact h.elim
end Go.Proofs.YtmjjefnmabbgdaaGreatDoor
