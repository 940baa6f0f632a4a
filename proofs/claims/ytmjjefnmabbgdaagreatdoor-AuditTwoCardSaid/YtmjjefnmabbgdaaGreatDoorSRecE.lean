/- A part of the proof. -/
import Derived.Test.YtmjjefnmabbgdaaGreatDoorSRecH
namespace Go.Proofs.YtmjjefnmabbgdaaGreatDoor
open List renaming setIfInBounds_toArray → jA, set_cons_zero → jB
set_option linter.unusedVariables false
set_option linter.unusedSimpArgs false
set_option maxRecDepth 100000
set_option maxHeartbeats 16000000
open Go.RowKit
def RcAtR (w:World)(g:Nat)(r:List Nat)(er:Nat)(W:World):Prop:=RdBx w W∧RdR W g w.heap.size r er
theorem RcAtR.next {w W W':World}{g er:Nat}{r:List Nat}(d:RcAtR w g r er W)(hb:Below W.heap.size W W'):RcAtR w g r er W':=⟨d.1.next hb,d.2.belowE hb d.2.lt d.1.2.2.size⟩
theorem RcAtR.grown {w W W':World}{g er er':Nat}{r r':List Nat}(d:RcAtR w g r er W)(hs:StoodR g w.heap.size r' er' W W')(hg:w.heap.size+1<g):RcAtR w g r' er' W':=⟨d.1.grown hs.2 hg,hs.1⟩
theorem z9v {l:List Nat}{j:Nat}(hj:j<32)(hl:32≤l.length):(l.take j++List.replicate (32-j) 0).set j (zf l j)=l.take (j+1)++List.replicate (32-(j+1)) 0:=by
 have h1:(l.take j).length=j:=by rw[List.length_take];omega
 obtain⟨m,hm⟩:∃ m,32 - j=m+1:=⟨31 - j,by omega⟩;rw[List.set_append_right _ _ (by omega),h1,Nat.sub_self,hm,List.replicate_succ,jB,take_snoc' l j (by omega),List.append_assoc,show 32 - (j+1)=m by omega];rfl
theorem z9w {c:Ch}(hc:c.Ok){j:Nat}(hj:j<32)(x:Nat):(chC c).setIfInBounds j (.int .u8 (x:Int))=chC ⟨c.head.set j x,c.count⟩:=by
 unfold chC;rw[jA,List.set_append_left _ _ (by rw[List.length_map,hc.1];exact hj),List.map_set];rfl
def HdAt (w:World)(b7 b9:Nat)(H:Eh)(l:List Nat)(z:Int)(j:Nat)(W:World):Prop :=
 RdBx w W∧Bk W b7 50 (evC H)∧EvIn W b7 H∧Bk W b9 27 (chC ⟨l.take j++List.replicate (32 - j) 0,z⟩)
theorem z9x:Tryz.prog.built 50 []=some (evC (ze 0 0)):=by kernel_rfl
theorem z9y (A:Option Addr)(n k:Nat)(l:List Nat)(w:World)(hl:Bytes w w.heap.size A n l)(hn:n≤140737488355328)(hnk:n≤k)(hk:k≤maxLen):Calls Tryz.prog 31 #[.slice A n k] w (RcdIs l w):=by
 have hmx:Tryz.prog.follows .mixedOrders=true:=by kernel_rfl
 have HL:=hiD hl;have HN:=hiD hn;have HNK:=hiD hnk;have HKM:=hiD hk;have H256:=hiD hl.2.1;have HLN:Hid (l.length=n):=hiD hl.1;clear hl hn hnk hk;go_enter Tryz.func31,Tryz.ntmps31
 by_cases h32:(n:Int)<32
 ·have HE:Hid (qg l=2):=hiD (zf1 (by rw[HLN.o];omega))
  have HCC:Hid (qy l=ch0):=hiD (zec (by rw[HE.o];decide));have HV:Hid (zav l=bare 0 0):=hiD (zew (by rw[HE.o];decide));go_wp2_with (with_reducible refine stn 14 ?_)
  refine held (qk (fun W=>RdBx w W) (RdBx.new w) ?_);rintro W q;have Q:=hiD q;clear q;refine hold ?_;go_wp2_with (with_reducible refine stn 14 ?_)
  refine held (j9 rfl 27 #[] rfl [] rfl (chC ch0) zak ?_);go_wp2_with (with_reducible refine st0 ?_)
  refine held (zi rfl 27 (.tmp 2) (.tmp 14) rfl (w.heap.size) 0 (chC ch0) rfl rfl 27 _ Q.o.1 (by rw[Nat.zero_add];exact Nat.le_refl _) (info_ch' zj) (zt _) ?_);intro w10 hw10;obtain rfl:=q9 hw10 zj zj;go_wp2_with (with_reducible refine st0 ?_)
  refine held (zi rfl 50 (.tmp 3) (.tmp 15) rfl (w.heap.size+1) 0 (evC (ze 0 0)) rfl rfl 50 _ (Q.o.2.1.setRow_other (by omega) _) (by rw[zd];decide) (by rw[zd];exact zr) (zw _) ?_);intro w11 hw11;obtain rfl:=qa hw11 (by rw[zd]);go_wp2_with fail
  exact bodyPost_ret (zau rfl _ _ ⟨w.heap.size,0,none⟩ ⟨w.heap.size+1,0,none⟩ _ _ _ rfl rfl rfl (Bk.ch ((Bk.setRow_same Q.o.1 _).setRow_other (by omega) _) zj) (Bk.ev (Bk.setRow_same (Q.o.2.1.setRow_other (by omega) _) _))) rfl ⟨ze 0 0,by rw[HE.o,HCC.o]<;>rfl,by rw[HV.o];rfl,EvFar.bare _ _ _ _,below_setRow (below_setRow Q.o.2.2 (by omega) _) (by omega) _⟩
 have H32:Hid (¬ l.length<32∧32≤n):=hiD ⟨by rw[HLN.o];omega,by omega⟩;obtain⟨ab,ao,rfl,hab,hcell⟩:=HL.o.2.2 (by have:=H32.o;omega);clear hab hcell;go_wp2_with (with_reducible refine stn 17 ?_)
 refine held (qk (fun W=>RdBx w W) (RdBx.new w) ?_);rintro W q;have Q:=hiD q;clear q;refine zmm rfl (.tmp 16) (.const (.int .i64 32)) 48 5 rfl Tryz.underlying48 zjd (some ⟨ab,ao,none⟩) n k 32 w.heap.size l rfl rfl (HL.o.below Q.o.2.2 (Nat.le_refl _)) H32.o.2 HNK.o ?_;intro A5 c5 h51 h52 hby
 have HDL:Hid ((l.drop 32).length=n-32∧(l.drop 32).length≤140737488355328∧∀ x∈l.drop 32,x<256):=hiD ⟨by rw[List.length_drop,HLN.o],by rw[List.length_drop,HLN.o];have:=HN.o;omega,fun x hx=>H256.o x (List.mem_of_mem_drop hx)⟩;have HBY:=hiD hby
 have H51:Hid (n-32≤c5∧c5≤maxLen∧n-32≤140737488355328):=hiD ⟨h51,Nat.le_trans h52 HKM.o,by have:=HN.o;omega⟩;clear h51 h52 hby
 go_wp2_with fail
 refine qb (fun W'=>RcAtR w W.heap.size (l.drop 32) 0 W') ⟨Q.o.next ((Below.refl _ _).alloc (Nat.le_refl _) _),A5,n - 32,c5,Bk.new _ _ _,H51.o.1,H51.o.2.1,H51.o.2.2,HBY.o.below ((Below.refl _ _).alloc (Nat.le_refl _) _) Q.o.2.2.size⟩ ?_;obtain⟨g,hg⟩:∃ g,W.heap.size=g:=⟨_,rfl⟩;have HG:Hid (w.heap.size+1<g):=hiD (by rw[← hg];exact Q.o.2.1.lt);rw[hg];clear hg Q HBY H51;rintro W4 q;have S:=hiD q;clear q W;have HGB:Hid (w.heap.size≤g):=hiD (by have:=HG.o;omega);refine(zbu g w.heap.size 0 (l.drop 32) W4 S.o.2 HGB.o).mono ?_;rintro e W5 ⟨rfl,hs5⟩;have T:=hiD (S.o.grown hs5 HG.o);clear hs5 S;obtain⟨v,hv⟩:∃ v,numV (l.drop 32) 0=v:=⟨_,rfl⟩;have HVN:Hid (numR l=v):=hiD hv;rw[hv];clear hv;obtain⟨er,her⟩:∃ er,numE (l.drop 32) 0=er:=⟨_,rfl⟩;have HER:=hiD her;rw[her] at T;clear her
 go_upto_region 5 with (fail)
 go_cut [] (fun wx=>RcAtR w g (za7 l) (errR l) wx)
 case first =>
  by_cases h1:(v:Int)<1
  case pos =>
   have HBD:Hid (errR l=jl er true):=hiD (by unfold errR;rw[HER.o];congr 1;unfold badR;rw[HVN.o,decide_eq_true (show v<1 by omega)];rfl);go_wp2_with fail
   refine(zj5 g w.heap.size er true _ W5 T.o.2 HGB.o).mono ?_;rintro e W6 ⟨rfl,hs6⟩;have U:=hiD (T.o.grown hs6 HG.o);clear hs6 T;go_wp2_with fail
   go_meet;rw[HBD.o];exact U.o
  by_cases h2:(1099511627776:Int)<(v:Int)
  case pos =>
   have HBD:Hid (errR l=jl er true):=hiD (by unfold errR;rw[HER.o];congr 1;unfold badR;rw[HVN.o,decide_eq_true (show 1099511627776<v by omega),Bool.or_true]);go_wp2_with fail
   refine(zj5 g w.heap.size er true _ W5 T.o.2 HGB.o).mono ?_;rintro e W6 ⟨rfl,hs6⟩;have U:=hiD (T.o.grown hs6 HG.o);clear hs6 T;go_wp2_with fail
   go_meet;rw[HBD.o];exact U.o
  have HBD:Hid (errR l=jl er false):=hiD (by unfold errR;rw[HER.o];congr 1;unfold badR;rw[HVN.o,decide_eq_false (show ¬ v<1 by omega),decide_eq_false (show ¬ 1099511627776<v by omega)];rfl);go_wp2_with fail
  refine(zj5 g w.heap.size er false _ W5 T.o.2 HGB.o).mono ?_;rintro e W6 ⟨rfl,hs6⟩;have U:=hiD (T.o.grown hs6 HG.o);clear hs6 T;go_wp2_with fail
  go_meet;rw[HBD.o];exact U.o
 case rest =>
 clear T;generalize wc=W6 at *;have S:=hiD hcut;clear hcut;obtain⟨er2,her2⟩:∃ er2,errR l=er2:=⟨_,rfl⟩;have HE2:=hiD her2;rw[her2] at S;clear her2;obtain⟨A7,n7,c7,h71,h72,h73,h74,h75,k0,k1,-,-,-,-⟩:=S.o.2.open_ HGB.o;have HB7:=hiD h74;have H7:Hid (n7≤c7∧c7≤maxLen∧n7≤140737488355328):=hiD ⟨h71,h72,h73⟩;clear h71 h72 h73 h74 h75;by_cases he:er2=0
 case neg =>
  have HE:Hid (qg l=er2):=hiD (by rw[zjh H32.o.1 (by rw[HE2.o];exact he),HE2.o]);have HCC:Hid (qy l=ch0):=hiD (zec (by rw[HE.o];exact he));have HV:Hid (zav l=bare 0 0):=hiD (zew (by rw[HE.o];exact he));have hne:(((er2:Nat):Int) != 0)=true:=by simpa using he
  clear he;go_wp2_with fail
  have E:=hiD S.o.1.drew;have HK1:=hiD k1;clear S k0 k1 hne;refine wp_region_held_drew (S:=fun W'=>W'.cell? ⟨g,1,none⟩=some (.int .i64 (er2:Int))) hmx HK1.o (fun qch=>?_);generalize hW0:W6.drew=W1b at *;clear hW0 HK1;simp only[List.size_toArray,List.length_cons,List.length_nil,Nat.reduceAdd];refine tkx (i:=0) (v:=.agg (chC ch0)) (x:=fun w0 hC=>zev rfl rfl zak) (s:=qch) (h:=?_);try simp only[nm0]
  refine tkx (i:=1) (v:=.agg (evC (ze 0 0))) (x:=fun w0 hC=>zev rfl rfl z9x) (s:=qch) (h:=?_);try simp only[nm0]
  refine tks (i:=2) (v:=.pointer (some ⟨g,0,none⟩)) (s:=qch) (h:=?_);try simp only[nm0]
  refine tks (i:=3) (v:=.pointer (some ⟨g,0,none⟩)) (s:=qch) (h:=?_);try simp only[nm0]
  refine tks (i:=4) (v:=.pointer (some ⟨g,1,none⟩)) (s:=qch) (h:=?_);try simp only[nm0]
  refine tkx (i:=5) (v:=.int .i64 (er2:Int)) (x:=fun w0 hC=>by simp[execOp,Act.eval,Act.put,go_sem,hC]) (s:=qch) (h:=?_);try simp only[nm0]
  refine rd1 (r:=6) (h:=fun K hK=>?_);refine qh (ql rfl rfl rfl E.o.1 rfl (info_ch' zj) (zt _)) ?_;have hS:(W1b.setRow w.heap.size (chC ch0)).cell? ⟨g,1,none⟩=some (.int .i64 (er2:Int)):=(zmt _ (by have:=HG.o;omega)).trans qch;have F1:=hiD (E.o.1.setRow_same (chC ch0));have F2:=hiD (E.o.2.1.setRow_other (show w.heap.size+1≠w.heap.size by omega) (chC ch0));have F3:=hiD (below_setRow E.o.2.2 (Nat.le_refl _) (chC ch0));clear qch E;refine bkk hK hS fun qch=>?_;clear hK K;try simp only[nm0]
  clear hS;generalize W1b.setRow w.heap.size (chC ch0)=W2b at *;refine rd1 (r:=7) (h:=fun K hK=>?_);refine qh (ql rfl rfl rfl F2.o rfl (by rw[zd];exact zr) (zw _)) ?_;have hS:(W2b.setRow (w.heap.size+1) (evC (ze 0 0))).cell? ⟨g,1,none⟩=some (.int .i64 (er2:Int)):=(zmt _ (by have:=HG.o;omega)).trans qch;have G1:=hiD (F1.o.setRow_other (show w.heap.size≠w.heap.size+1 by omega) (evC (ze 0 0)));have G2:=hiD (F2.o.setRow_same (evC (ze 0 0)));have G3:=hiD (below_setRow F3.o (Nat.le_succ _) (evC (ze 0 0)));clear qch F1 F2 F3;refine bkk hK hS fun qch=>?_;clear hK K;try simp only[nm0]
  clear hS;refine rd1 (r:=8) (h:=fun K hK=>?_);go_wp2_with fail
  have hS:=qch;clear qch;refine bkk hK hS fun qch=>?_;clear hK K;try simp only[nm0]
  clear hS;refine wpAnyH_done (by kernel_rfl) ?_ _;go_wp2_with fail
  exact bodyPost_ret (zau rfl _ _ ⟨w.heap.size,0,none⟩ ⟨w.heap.size+1,0,none⟩ _ _ _ rfl rfl rfl (Bk.ch G1.o zj) (Bk.ev G2.o)) rfl ⟨ze 0 0,by rw[HE.o,HCC.o];rfl,by rw[HV.o];rfl,EvFar.bare _ _ _ _,G3.o⟩
 subst he;have H0:=hiD (zjj HE2.o);go_wp2_with fail
 refine(z0l A7 n7 c7 (za7 l) W6 (HB7.o.more S.o.1.2.2.size) H7.o.2.2 H7.o.1 H7.o.2.1).mono ?_;rintro e W8 ⟨H,rfl,hv,hin,hb⟩;have U:=hiD (S.o.1.next hb);have HVV:=hiD hv;have HI:=hiD hin;have HB6:Hid (w.heap.size+1<W6.heap.size):=hiD S.o.1.2.1.lt;clear hv hin hb S HB7 k0 k1;obtain⟨dz,hdz⟩:∃ dz,decE (za7 l)=dz:=⟨_,rfl⟩;have HDZ:=hiD hdz;rw[hdz];clear hdz;go_wp2_with (with_reducible refine st0 ?_)
 refine held (zi rfl 50 (.tmp 7) (.tmp 47) rfl W8.heap.size 0 (evC H) rfl rfl 50 (evC (ze 0 0)) (Bk.new W8 50 (evC (ze 0 0))) (by rw[zd,zd];decide) (by rw[zd];exact zr) (zw _) ?_);intro W9 hw9;have hw9':=qa hw9 (by rw[zd,zd]);have hb9:Below W8.heap.size W8 W9:=by rw[hw9'];exact below_setRow ((Below.refl _ _).alloc (Nat.le_refl _) _) (Nat.le_refl _) _
 have hk10:Bk W9 W8.heap.size 50 (evC H):=by rw[hw9'];exact(Bk.new W8 50 (evC (ze 0 0))).setRow_same _
 have S:=hiD (U.o.next hb9);have SI:=hiD (HI.o.inn.below hb9 (Nat.le_refl _));have HAW:=hiD (And.intro HI.o.a1 (And.intro HI.o.a2 HI.o.a3));have S10:=hiD hk10;have HB10:Hid (w.heap.size+1<W8.heap.size):=hiD U.o.2.1.lt;obtain⟨b7,hb7⟩:∃ b,W8.heap.size=b:=⟨_,rfl⟩;rw[hb7] at S10 HB10 SI ⊢;clear hb7 hw9 hw9' hb9 hk10 U HI;by_cases hz:dz=0
 case neg =>
  have HE:Hid (qg l=dz):=hiD (by rw[zf2 H32.o.1 HE2.o,HDZ.o]);have HCC:Hid (qy l=ch0):=hiD (zec (by rw[HE.o];exact hz));have HV:Hid (zav l=bare 0 0):=hiD (zew (by rw[HE.o];exact hz));have hne:(((dz:Nat):Int) != 0)=true:=by simpa using hz
  clear hz;go_wp2_with (with_reducible refine stn 51 ?_)
  refine held (j9 rfl 27 #[] rfl [] rfl (chC ch0) zak ?_);go_wp2_with (with_reducible refine st0 ?_)
  refine held (zi rfl 27 (.tmp 2) (.tmp 51) rfl (w.heap.size) 0 (chC ch0) rfl rfl 27 _ S.o.1 (by rw[Nat.zero_add];exact Nat.le_refl _) (info_ch' zj) (zt _) ?_);intro w10 hw10;obtain rfl:=q9 hw10 zj zj;go_wp2_with (with_reducible refine st0 ?_)
  refine held (zi rfl 50 (.tmp 3) (.tmp 52) rfl (w.heap.size+1) 0 (evC (ze 0 0)) rfl rfl 50 _ (S.o.2.1.setRow_other (by omega) _) (by rw[zd];decide) (by rw[zd];exact zr) (zw _) ?_);intro w11 hw11;obtain rfl:=qa hw11 (by rw[zd]);go_wp2_with fail
  exact bodyPost_ret (zau rfl _ _ ⟨w.heap.size,0,none⟩ ⟨w.heap.size+1,0,none⟩ _ _ _ rfl rfl rfl (Bk.ch ((Bk.setRow_same S.o.1 _).setRow_other (by omega) _) zj) (Bk.ev (Bk.setRow_same (S.o.2.1.setRow_other (by omega) _) _))) rfl ⟨ze 0 0,by rw[HE.o,HCC.o]<;>rfl,by rw[HV.o];rfl,EvFar.bare _ _ _ _,below_setRow (below_setRow S.o.2.2 (by omega) _) (by omega) _⟩
 subst hz;have HE:Hid (qg l=0):=hiD (by rw[zf2 H32.o.1 HE2.o,HDZ.o]);have HCC:Hid (qy l=⟨l.take 32,(v:Int) - 1⟩):=hiD (by rw[zf3 HE.o,HVN.o]);have HV:Hid (zav l=H.e):=hiD (by rw[zji HE.o,HVV.o]);have hv1:1≤(v:Int):=by have:=H0.o.2.1;rw[HVN.o] at this;omega
 have hv2:(v:Int)≤1099511627776:=by have:=H0.o.2.2;rw[HVN.o] at this;omega
 go_wp2_with (with_reducible refine stn 56 ?_)
 refine held (j9 rfl 27 #[(1,.tmp 55)] rfl [(1,.int .i64 ((v:Int) - 1))] rfl (chC ⟨List.replicate 32 0,(v:Int) - 1⟩) (zvm _) ?_);clear hv1 hv2;go_wp2_with (with_reducible refine st0 ?_)
 obtain⟨z,hzz⟩:∃ z,(v:Int)-1=z:=⟨_,rfl⟩;rw[hzz] at HCC ⊢;clear hzz;have HOK0:Hid ((⟨List.replicate 32 0,z⟩:Ch).Ok):=hiD ⟨rfl,fun x hx=>by have:=List.eq_of_mem_replicate hx;omega⟩;refine held (zi rfl 27 (.tmp 9) (.tmp 56) rfl W9.heap.size 0 (chC ⟨List.replicate 32 0,z⟩) rfl rfl 27 (chC ch0) (Bk.new W9 27 (chC ch0)) (by rw[zx HOK0.o];exact Nat.le_refl _) (info_ch' HOK0.o) (zt _) ?_);intro W10 hw10;obtain⟨q1,q2⟩:=za1 HOK0.o hw10;have R:Hid (HdAt w b7 W9.heap.size H l z 0 W10):=hiD ⟨S.o.next q2,S10.o.below q2 S10.o.lt,SI.o.below q2 (Nat.le_of_lt S10.o.lt),by rw[List.take_zero,List.nil_append];exact q1⟩;have HB9:Hid (b7<W9.heap.size):=hiD S10.o.lt;obtain⟨b9,hb9⟩:∃ b,W9.heap.size=b:=⟨_,rfl⟩;rw[hb9] at R HB9 ⊢;clear hb9 hw10 q1 q2 S S10 SI HOK0;go_wp2_with fail
 go_loopw [10] (fun i wx=>∃ j:Nat,j≤32∧i=.int .i64 (j:Int)∧HdAt w b7 b9 H l z j wx) (fun i _=>32-(intOf i).toNat)
 case atStart=>exact⟨0,Nat.zero_le _,rfl,R.o⟩
 case round =>
  obtain⟨j,hj,rfl,hr⟩:=hrel;have HR:=hiD hr;clear hr R;by_cases hlt:j<32
  ·obtain⟨ab',ao',hA,hab',hby⟩:=(HL.o.below HR.o.1.2.2 (Nat.le_refl _)).at_ (show j<n by have:=H32.o;omega)
   injection hA with hA;injection hA with hA1 hA2;subst hA1;subst hA2;have HJ:=hiD hlt;have hj0:(0:Int)≤(j:Int):=by omega
   have hj1:(j:Int)<32:=by omega
   have hj2:(j:Int)<(n:Int):=by have:=H32.o;omega
   have hOK:(⟨l.take j++List.replicate (32 - j) 0,z⟩:Ch).Ok:=⟨by rw[List.length_append,List.length_take,List.length_replicate,HLN.o];have:=H32.o;omega,fun x hx=>by
    rcases List.mem_append.1 hx with h|h
    ·exact H256.o x (List.mem_of_mem_take h)
    ·have:=List.eq_of_mem_replicate h;omega⟩
   have k9:wr.cell? ⟨b9,j,none⟩=some (.int .u8 ((zf (l.take j++List.replicate (32-j) 0) j:Nat):Int)):=(HR.o.2.2.2.cell j).trans (zjc hOK hlt);have f9:wr.frozen? ⟨b9,j,none⟩=false:=HR.o.2.2.2.frozen j
   have R2:Hid (HdAt w b7 b9 H l z (j+1) (wr.setCell ⟨b9,j,none⟩ (.int .u8 ((zf l j:Nat):Int)))):=hiD (by
    refine⟨⟨HR.o.1.1.far (by show w.heap.size≠b9;have:=HB9.o;have:=HB10.o;omega) _,HR.o.1.2.1.far (by show w.heap.size+1≠b9;have:=HB9.o;have:=HB10.o;omega) _,HR.o.1.2.2.setCell (by show w.heap.size≤b9;have:=HB9.o;have:=HB10.o;omega) _⟩,HR.o.2.1.far (by show b7≠b9;have:=HB9.o;omega) _,?_,?_⟩
    ·exact HR.o.2.2.1.below ((Below.refl b9 wr).setCell (Nat.le_refl _) _) (Nat.le_of_lt HB9.o)
    ·have h1:=HR.o.2.2.2.put j (.int .u8 ((zf l j:Nat):Int))
     rw[z9w hOK hlt] at h1;simp only at h1;rw[z9v hlt (by have:=H32.o;omega)] at h1
     exact h1)
   clear hOK hlt HR hab';go_wp2_with fail
   go_roundw
   case rel=>exact⟨j+1,by have:=HJ.o;omega,by go_num,R2.o⟩
   case measure=>simp[intOf];have:=HJ.o;omega
  ·obtain rfl:j=32:=by omega
   have E:=hiD HR.o.1.drew;have K7:=HR.o.2.1;have hz0:32-32=0:=rfl;have K9:Bk wr b9 27 (chC ⟨l.take 32,z⟩):=by
    have h1:=HR.o.2.2.2;rw[Nat.sub_self,List.replicate_zero,List.append_nil] at h1;exact h1
   obtain⟨hd,hhd⟩:∃ hd,l.take 32=hd:=⟨_,rfl⟩;have HOK:Hid ((⟨hd,z⟩:Ch).Ok):=hiD ⟨by rw[← hhd,List.length_take,HLN.o];exact Nat.min_eq_left H32.o.2,fun x hx=>by rw[← hhd] at hx;exact H256.o x (List.mem_of_mem_take hx)⟩;rw[hhd] at K9 HCC;have EI:Hid (EvFar wr.drew W6.heap.size H):=hiD ⟨(HR.o.2.2.1.more (Nat.le_of_lt HR.o.2.1.lt)).later (Below.refl _ _).drew,HAW.o.1,HAW.o.2.1,HAW.o.2.2⟩;clear hhd hz0 hlt hj;go_wp2_with fail
   refine wp_region_held_drew (S:=fun W'=>Bk W' b9 27 (chC ⟨hd,z⟩)∧Bk W' b7 50 (evC H)) hmx ⟨K9.drew,K7.drew⟩ (fun qch=>?_);clear K9 K7 HR;generalize hW0:wr.drew=W1b at *;clear hW0;simp only[List.size_toArray,List.length_cons,List.length_nil,Nat.reduceAdd];refine tkx (i:=0) (v:=.agg (chC ⟨hd,z⟩)) (x:=fun w0 hC=>jc rfl rfl hC.1.range Tryz.underlying27 rfl (info_ch' HOK.o)) (s:=qch) (h:=?_);try simp only[nm0]
   refine tkx (i:=1) (v:=.agg (evC H)) (x:=fun w0 hC=>jc rfl rfl hC.2.range Tryz.underlying50 rfl (by rw[zd];exact zr)) (s:=qch) (h:=?_);try simp only[nm0]
   refine rd1 (r:=2) (h:=fun K hK=>?_);refine qh (ql rfl rfl rfl E.o.1 (by rw[zx HOK.o];rfl) (info_ch' HOK.o) (zt _)) ?_;have hS:Bk (W1b.setRow w.heap.size (chC ⟨hd,z⟩)) b9 27 (chC ⟨hd,z⟩)∧Bk (W1b.setRow w.heap.size (chC ⟨hd,z⟩)) b7 50 (evC H):=⟨qch.1.setRow_other (by have:=HB9.o;have:=HB10.o;omega) _,qch.2.setRow_other (by have:=HB10.o;omega) _⟩;have F1:=hiD (E.o.1.setRow_same (chC ⟨hd,z⟩));have F2:=hiD (E.o.2.1.setRow_other (show w.heap.size+1≠w.heap.size by omega) (chC ⟨hd,z⟩));have F3:=hiD (below_setRow E.o.2.2 (Nat.le_refl _) (chC ⟨hd,z⟩));have F4:=hiD (EI.o.kept (jy E.o.1 (chC ⟨hd,z⟩)) (by have:=HB6.o;omega));clear qch E EI;refine bkk hK hS fun qch=>?_;clear hK K;try simp only[nm0]
   clear hS;generalize W1b.setRow w.heap.size (chC ⟨hd,z⟩)=W2b at *;refine rd1 (r:=3) (h:=fun K hK=>?_);refine qh (ql rfl rfl rfl F2.o (by rw[zd,zd]) (by rw[zd];exact zr) (zw _)) ?_;have hS:Bk (W2b.setRow (w.heap.size+1) (evC H)) b9 27 (chC ⟨hd,z⟩)∧Bk (W2b.setRow (w.heap.size+1) (evC H)) b7 50 (evC H):=⟨qch.1.setRow_other (by have:=HB9.o;have:=HB10.o;omega) _,qch.2.setRow_other (by have:=HB10.o;omega) _⟩;have G1:=hiD (F1.o.setRow_other (show w.heap.size≠w.heap.size+1 by omega) (evC H));have G2:=hiD (F2.o.setRow_same (evC H));have G3:=hiD (below_setRow F3.o (Nat.le_succ _) (evC H));have G4:=hiD ((F4.o.kept (jy F2.o (evC H)) HB6.o).mono (base':=w.heap.size) (by have:=HB6.o;omega));clear qch F1 F2 F3 F4;refine bkk hK hS fun qch=>?_;clear hK K;try simp only[nm0]
   clear hS;refine rd1 (r:=4) (h:=fun K hK=>?_);go_wp2_with fail
   have hS:=qch;clear qch;refine bkk hK hS fun qch=>?_;clear hK K;try simp only[nm0]
   clear hS;refine wpAnyH_done (by kernel_rfl) ?_ _;go_wp2_with fail
   exact bodyPost_ret (zau rfl _ _ ⟨w.heap.size,0,none⟩ ⟨w.heap.size+1,0,none⟩ _ _ _ rfl rfl rfl (Bk.ch G1.o HOK.o) (Bk.ev G2.o)) rfl ⟨H,by rw[HE.o,HCC.o];rfl,HV.o.symm,G4.o,G3.o⟩
theorem zhd (c:Ch)(A:Option Addr)(n k:Nat)(l:List Nat)(w:World)(hc:c.Ok)(hl:Bytes w w.heap.size A n l)(hn:n≤1000000)(hnk:n≤k)(hk:k≤maxLen)(hK:Kinds w)(ht:Tabs w):Calls Tryz.prog 30 #[.agg (chC c),.slice A n k] w (LinkIs c l w):=by
 have hmx:Tryz.prog.follows .mixedOrders=true:=by kernel_rfl
 have HC:=hiD hc;have HL:=hiD hl;have HN:Hid (n≤1000000∧n≤140737488355328):=hiD ⟨hn,by omega⟩;have HNK:=hiD hnk;have HKM:=hiD hk;have HK:=hiD hK;have HT:=hiD ht;have HRO:=hiD (zm0 hl.2.1);clear hc hl hn hnk hk hK ht;go_enter Tryz.func30,Tryz.ntmps30
 go_wp2_with fail
 refine qb (fun W=>LkBx w c W) ⟨((Bk.new _ _ _).alloc _).alloc _,(Bk.new2 _ _ _ _).alloc _,Bk.new3 _ _ _ _ _,(((Below.refl _ _).alloc (Nat.le_refl _) _).alloc (by simp) _).alloc (by simp;omega) _⟩ ?_;rintro W q;have Q:=hiD q;clear q;refine(z9y A n k l W (HL.o.later Q.o.2.2.2) HN.o.2 HNK.o HKM.o).mono ?_;rintro e W1 ⟨H,rfl,hv,hin,hb⟩;have R:=hiD (Q.o.next hb);have HBW:Hid (w.heap.size+1+1<W.heap.size):=hiD Q.o.2.2.1.lt;have HI:=hiD hin;have HV0:=hiD hv;clear hv hin hb Q;obtain⟨x,hx⟩:∃ x,qy l=x:=⟨_,rfl⟩;have HX:=hiD hx;rw[hx] at HRO ⊢;clear hx;obtain⟨er,her⟩:∃ er,qg l=er:=⟨_,rfl⟩;have HER:=hiD her;rw[her];clear her;go_wp2_with (with_reducible refine st0 ?_)
 refine held (zi rfl 27 (.tmp 7) (.tmp 13) rfl W1.heap.size 0 (chC x) rfl rfl 27 (chC ch0) ((Bk.new W1 27 (chC ch0)).alloc _) (by rw[zx HRO.o];exact Nat.le_refl _) (info_ch' HRO.o) (zt _) ?_);intro W2 hw2;have hk2:Bk W2 (W1.heap.size+1) 50 (evC (ze 0 0)):=by rw[q9 hw2 zj HRO.o];exact(Bk.new2 _ _ _ _).setRow_other (by omega) _
 go_wp2_with (with_reducible refine st0 ?_)
 refine held (zi rfl 50 (.tmp 8) (.tmp 14) rfl (W1.heap.size+1) 0 (evC H) rfl rfl 50 _ hk2 (by rw[zd,zd];decide) (by rw[zd];exact zr) (zw _) ?_);intro W3 hw3;obtain⟨k7,k8,-,hb⟩:=zjg HRO.o rfl HI.o.inn hw2 hw3;have Q:=hiD (R.o.next hb);have QI:=hiD (HI.o.below hb);have K7:=hiD k7;have K8:=hiD k8;have HB7:Hid (w.heap.size+1+1<W1.heap.size):=hiD R.o.2.2.1.lt;clear k7 k8 hb hw2 hw3 hk2 R HI;obtain⟨b7,hb7⟩:∃ b,W1.heap.size=b:=⟨_,rfl⟩;rw[hb7] at K7 K8 HB7 ⊢;clear hb7;by_cases he:er=0
 case neg =>
  have HLK:=hiD (zm2 (c:=c) (l:=l) (by rw[HER.o];exact he));have HE:Hid (qp c l=er):=hiD (by rw[HLK.o.1,HER.o]);have HCC:Hid (zam c l=ch0):=hiD HLK.o.2.1;have HV:Hid (zbi c l=bare 0 0):=hiD HLK.o.2.2;have hne:(((er:Nat):Int) != 0)=true:=by simpa using he
  have S:=hiD Q.o.2;clear he Q;go_wp2_with (with_reducible refine stn 18 ?_)
  refine held (j9 rfl 27 #[] rfl [] rfl (chC ch0) zak ?_);go_wp2_with (with_reducible refine st0 ?_)
  refine held (zi rfl 27 (.tmp 4) (.tmp 18) rfl (w.heap.size+1) 0 (chC ch0) rfl rfl 27 _ S.o.1 (by rw[Nat.zero_add];exact Nat.le_refl _) (info_ch' zj) (zt _) ?_);intro w10 hw10;obtain rfl:=q9 hw10 zj zj;go_wp2_with (with_reducible refine st0 ?_)
  refine held (zi rfl 50 (.tmp 5) (.tmp 19) rfl (w.heap.size+1+1) 0 (evC (ze 0 0)) rfl rfl 50 _ (S.o.2.1.setRow_other (by omega) _) (by rw[zd];decide) (by rw[zd];exact zr) (zw _) ?_);intro w11 hw11;obtain rfl:=qa hw11 (by rw[zd]);go_wp2_with fail
  exact bodyPost_ret (zau rfl _ _ ⟨w.heap.size+1,0,none⟩ ⟨w.heap.size+1+1,0,none⟩ _ _ _ rfl rfl rfl (Bk.ch ((Bk.setRow_same S.o.1 _).setRow_other (by omega) _) zj) (Bk.ev (Bk.setRow_same (S.o.2.1.setRow_other (by omega) _) _))) rfl ⟨ze 0 0,by rw[HE.o,HCC.o]<;>rfl,by rw[HV.o];rfl,EvFar.bare _ _ _ _,below_setRow (below_setRow S.o.2.2 (by omega) _) (by omega) _⟩
 subst he;obtain⟨q,hq⟩:∃ q,decide (x=c)=q:=⟨_,rfl⟩;have hneq:∀ W,(binOp .neq 27 (.agg (chC x)) (.agg (chC c))).run Tryz.prog W=.ok (.bool (!q)) W:=fun W=>by rw[← hq];exact zms W x c HRO.o HC.o
 have HQ:=hiD hq;clear hq;go_wp2_with (with_reducible refine stn 21 ?_)
 refine held (wpList_load_mid rfl 27 (.tmp 7) rfl b7 0 rfl _ _ K7.o.range Tryz.underlying27 rfl (zcd HRO.o) ?_);refine wpList_load_mid rfl 27 (.tmp 2) rfl w.heap.size 0 rfl _ _ Q.o.1.range Tryz.underlying27 rfl (zcd HC.o) ?_;cases q
 case false =>
  have hxc:qy l≠c:=by rw[HX.o];exact of_decide_eq_false HQ.o
  have HLK:=hiD (zjk (c:=c) (l:=l) HER.o hxc);have HE:Hid (qp c l=11):=hiD HLK.o.1;have HCC:Hid (zam c l=ch0):=hiD HLK.o.2.1;have HV:Hid (zbi c l=bare 0 0):=hiD HLK.o.2.2;have S:=hiD Q.o.2;clear hxc Q;go_wp2_with (with_reducible refine stn 24 ?_)
  refine held (j9 rfl 27 #[] rfl [] rfl (chC ch0) zak ?_);go_wp2_with (with_reducible refine st0 ?_)
  refine held (zi rfl 27 (.tmp 4) (.tmp 24) rfl (w.heap.size+1) 0 (chC ch0) rfl rfl 27 _ S.o.1 (by rw[Nat.zero_add];exact Nat.le_refl _) (info_ch' zj) (zt _) ?_);intro w10 hw10;obtain rfl:=q9 hw10 zj zj;go_wp2_with (with_reducible refine st0 ?_)
  refine held (zi rfl 50 (.tmp 5) (.tmp 25) rfl (w.heap.size+1+1) 0 (evC (ze 0 0)) rfl rfl 50 _ (S.o.2.1.setRow_other (by omega) _) (by rw[zd];decide) (by rw[zd];exact zr) (zw _) ?_);intro w11 hw11;obtain rfl:=qa hw11 (by rw[zd]);go_wp2_with fail
  exact bodyPost_ret (zau rfl _ _ ⟨w.heap.size+1,0,none⟩ ⟨w.heap.size+1+1,0,none⟩ _ _ _ rfl rfl rfl (Bk.ch ((Bk.setRow_same S.o.1 _).setRow_other (by omega) _) zj) (Bk.ev (Bk.setRow_same (S.o.2.1.setRow_other (by omega) _) _))) rfl ⟨ze 0 0,by rw[HE.o,HCC.o]<;>rfl,by rw[HV.o];rfl,EvFar.bare _ _ _ _,below_setRow (below_setRow S.o.2.2 (by omega) _) (by omega) _⟩
 case true =>
 have hxc:qy l=c:=by rw[HX.o];exact of_decide_eq_true HQ.o
 have HLK:=hiD (zf4 (c:=c) (l:=l) HER.o hxc);have HCN:=hiD (zm1 HER.o);rw[hxc] at HCN;have HE:Hid (qp c l=0):=hiD HLK.o.1;have HCC:Hid (zam c l=qw c l):=hiD HLK.o.2.1;have HV:Hid (zbi c l=H.e):=hiD (by rw[HLK.o.2.2,← HV0.o]);have HGO:Hid ((qw c l).Ok):=hiD (zb3 c l);clear hxc;go_wp2_with fail
 have E:=hiD (And.intro Q.o.2.1.drew Q.o.2.2.1.drew);have EI:=hiD (QI.o.below (Below.refl _ _).drew);clear hneq;refine wp_region_held_drew (S:=fun W'=>Bk W' w.heap.size 27 (chC c)∧Bk W' (b7+1) 50 (evC H)∧Below w.heap.size w W') hmx ⟨Q.o.1.drew,K8.o.drew,Q.o.2.2.2.drew⟩ (fun qch=>?_);clear Q K7 K8 QI;generalize hW0:W3.drew=W4 at *;clear hW0;simp only[List.size_toArray,List.length_cons,List.length_nil,Nat.reduceAdd];have HW:=hiD (IntWalk.i64_in (c.count+1) (by have:=HCN.o;omega));refine tks (i:=0) (v:=.slice A n k) (s:=qch) (h:=?_);try simp only[nm0]
 refine tks (i:=2) (v:=.pointer (some ⟨w.heap.size,32,none⟩)) (s:=qch) (h:=?_);try simp only[nm0]
 refine tkx (i:=3) (v:=.int .i64 c.count) (x:=fun w0 hC=>by simp[execOp,Act.eval,Act.put,go_sem,hC.1.count HC.o]) (s:=qch) (h:=?_);try simp only[nm0]
 refine tkx (i:=4) (v:=.int .i64 (c.count+1)) (x:=fun w0 hC=>by simp[execOp,Act.eval,Act.put,go_sem,HW.o]) (s:=qch) (h:=?_);try simp only[nm0]
 refine tkx (i:=6) (v:=.agg (evC H)) (x:=fun w0 hC=>jc rfl rfl hC.2.1.range Tryz.underlying50 rfl (by rw[zd];exact zr)) (s:=qch) (h:=?_);try simp only[nm0]
 refine rd1 (r:=1) (h:=fun K hK=>?_);go_wp2_with fail
 refine(zez A n k W4.heap.size l W4 (HL.o.later qch.2.2) (Nat.le_refl _) HN.o.1).mono ?_;rintro e W5 ⟨rfl,hb⟩;have hS:=And.intro (qch.1.below hb qch.1.lt) (And.intro (qch.2.1.below hb qch.2.1.lt) (qch.2.2.trans (hb.mono qch.2.2.size)));have F:=hiD (And.intro (E.o.1.below hb E.o.1.lt) (E.o.2.below hb E.o.2.lt));have FI:=hiD (EI.o.below hb);clear qch hb E EI;refine bkk hK hS fun qch=>?_;clear hK K;try simp only[nm0]
 clear hS;refine tkx (i:=5) (v:=.agg (chC (qw c l))) (x:=fun w0 hC=>zev rfl rfl (zhl _ (zc5 l))) (s:=qch) (h:=?_);try simp only[nm0]
 obtain⟨y,hy⟩:∃ y,qw c l=y:=⟨_,rfl⟩;rw[hy] at HGO HCC ⊢;clear hy;refine rd1 (r:=7) (h:=fun K hK=>?_);refine qh (ql rfl rfl rfl F.o.1 (by rw[zx HGO.o];rfl) (info_ch' HGO.o) (zt _)) ?_;have hS:Bk (W5.setRow (w.heap.size+1) (chC y)) w.heap.size 27 (chC c)∧Bk (W5.setRow (w.heap.size+1) (chC y)) (b7+1) 50 (evC H)∧Below w.heap.size w (W5.setRow (w.heap.size+1) (chC y)):=⟨qch.1.setRow_other (by omega) _,qch.2.1.setRow_other (by have:=HB7.o;omega) _,below_setRow qch.2.2 (by omega) _⟩;have F1:=hiD (F.o.1.setRow_same (chC y));have F2:=hiD (F.o.2.setRow_other (show w.heap.size+1+1≠w.heap.size+1 by omega) (chC y));have F4:=hiD (FI.o.kept (jy F.o.1 (chC y)) (by have:=HBW.o;omega));clear qch F FI;refine bkk hK hS fun qch=>?_;clear hK K;try simp only[nm0]
 clear hS;generalize W5.setRow (w.heap.size+1) (chC y)=W6 at *;refine rd1 (r:=8) (h:=fun K hK=>?_);refine qh (ql rfl rfl rfl F2.o (by rw[zd,zd]) (by rw[zd];exact zr) (zw _)) ?_;have hS:Bk (W6.setRow (w.heap.size+1+1) (evC H)) w.heap.size 27 (chC c)∧Bk (W6.setRow (w.heap.size+1+1) (evC H)) (b7+1) 50 (evC H)∧Below w.heap.size w (W6.setRow (w.heap.size+1+1) (evC H)):=⟨qch.1.setRow_other (by omega) _,qch.2.1.setRow_other (by have:=HB7.o;omega) _,below_setRow qch.2.2 (by omega) _⟩;have G1:=hiD (F1.o.setRow_other (show w.heap.size+1≠w.heap.size+1+1 by omega) (evC H));have G2:=hiD (F2.o.setRow_same (evC H));have G4:=hiD ((F4.o.kept (jy F2.o (evC H)) HBW.o).mono (base':=w.heap.size) (by have:=HBW.o;omega));clear qch F1 F2 F4;refine bkk hK hS fun qch=>?_;clear hK K;try simp only[nm0]
 clear hS;refine rd1 (r:=9) (h:=fun K hK=>?_);go_wp2_with fail
 have hS:=qch;clear qch;refine bkk hK hS fun qch=>?_;clear hK K;try simp only[nm0]
 clear hS;refine wpAnyH_done (by kernel_rfl) ?_ _;go_wp2_with fail
 exact bodyPost_ret (zau rfl _ _ ⟨w.heap.size+1,0,none⟩ ⟨w.heap.size+1+1,0,none⟩ _ _ _ rfl rfl rfl (Bk.ch G1.o HGO.o) (Bk.ev G2.o)) rfl ⟨H,by rw[HE.o,HCC.o];rfl,HV.o.symm,G4.o,qch.2.2⟩
theorem ztk {l:List (List Nat)}{i:Nat}(hi:i<l.length):foL (l.take (i+1))=zb4 (foL (l.take i)) (zp l i):=by rw[zcf hi,zex]
def VrAt (w:World)(b:Nat)(x:Ch)(W:World):Prop:=Bk W b 27 (chC ch0)∧Bk W (b+1) 27 (chC x)∧Below b w W
theorem VrAt.next {w W W':World}{b:Nat}{x:Ch}(h:VrAt w b x W)(hb:Below W.heap.size W W'):VrAt w b x W' :=
 ⟨h.1.below hb h.1.lt,h.2.1.below hb h.2.1.lt,h.2.2.trans (hb.mono (Nat.le_of_lt h.1.lt))⟩
def LkGot (W2:World)(x:Ch)(b6:Nat)(W:World):Prop:=Bk W b6 27 (chC x)∧W2.heap.size≤b6∧Below W2.heap.size W2 W
theorem zfx (A:Option Addr)(n k:Nat)(l:List (List Nat))(w:World)(hl:Recs 1000000 w w.heap.size A n l)(hn:n≤100000)(hK:Kinds w)(ht:Tabs w):Calls Tryz.prog 11 #[.slice A n k] w (VerIs l w):=by
 have hmx:Tryz.prog.follows .mixedOrders=true:=by kernel_rfl
 have HL:=hiD hl;have HLN:=hiD hl.1;have HN:=hiD hn;have HK:=hiD hK;have HT:=hiD ht;have hB:w.heap.size≤w.heap.size:=Nat.le_refl _;clear hl hn hK ht;go_enter Tryz.func11,Tryz.ntmps11
 go_wp2_with fail
 have R0:Hid (VrAt w w.heap.size ch0 ((w.alloc (.cells (chC ch0) 27)).alloc (.cells (chC ch0) 27))):=hiD ⟨(Bk.new _ _ _).alloc _,Bk.new2 _ _ _ _,((Below.refl _ _).alloc (Nat.le_refl _) _).alloc (by simp) _⟩;obtain⟨b,hb0⟩:∃ b,w.heap.size=b:=⟨_,rfl⟩;have HB:=hiD hb0;rw[hb0] at R0
 try rw[hb0]
 clear hb0 hB
 go_loopw [5] (fun x5 wx=>∃ (i:Nat),i≤n∧x5=.int .i64 (i:Int)∧(foL (l.take i)).e=0∧VrAt w b (foL (l.take i)).c wx) (fun x5 _=>n-(intOf x5).toNat)
 case atStart=>exact⟨0,Nat.zero_le _,rfl,rfl,R0.o⟩
 case round =>
  obtain⟨i,hi,rfl,he0,hr⟩:=hrel;obtain⟨wo,rfl⟩:∃ wo,wo=wr:=⟨_,rfl⟩;have H:=hiD hr;have HE0:=hiD he0;have HI:=hiD hi;clear hr R0 he0 hi;by_cases hlt:i<n
  ·have hbel:Below w.heap.size w wo:=by have:=H.o.2.2;rw[← HB.o] at this;exact this
   obtain⟨eb,eo,A',n',c',rfl,heb,hcell,hnc,hcm,hn',hby⟩:=(HL.o.later hbel).at_ hlt;have HBY:=hiD hby
   have HNC:=hiD (And.intro hnc (And.intro hcm hn'));have HKW:=hiD (HK.o.below hbel);have HTW:=hiD (Tabs.later15 HT.o hbel);have hi0:(0:Int)≤(i:Int):=by omega
   have hin':(i:Int)<(n:Int):=by omega
   have HLT:=hiD hlt;have HCE:=hiD hcell;have HEB:=hiD heb;clear hby hnc hcm hn' hbel hcell heb;obtain⟨x,hx⟩:∃ x,(foL (l.take i)).c=x:=⟨_,rfl⟩;have HXO:Hid x.Ok:=hiD (by rw[← hx];exact(zan _).ok);have HX:=hiD hx;rw[hx] at H;clear hx;obtain⟨t,ht⟩:∃ t,zp l i=t:=⟨_,rfl⟩;have HTX:=hiD ht;rw[ht] at HBY;clear ht;obtain⟨er,her⟩:∃ er,qp x t=er:=⟨_,rfl⟩;have HER:=hiD her;clear her;obtain⟨y,hy⟩:∃ y,zam x t=y:=⟨_,rfl⟩;have HYO:Hid y.Ok:=hiD (by rw[← hy];exact zjl _ _);have HY:=hiD hy;clear hy
   go_upto_region 5 with (fail)
   go_cut [6,8] (fun x6 x8 wx=>∃ (b6:Nat),x6=.pointer (some ⟨b6,0,none⟩)∧x8=.int .i64 (er:Int)∧LkGot wo y b6 wx)
   case first =>
    have hcell:=HCE.o;have heb:=HEB.o;go_wp2_with fail
    refine wp_region_held_drew (S:=fun W'=>Below wo.heap.size wo W') hmx (Below.refl _ _).drew (fun qch=>?_);generalize hW0:wo.drew=V0 at *;clear hW0;simp only[List.size_toArray,List.length_cons,List.length_nil,Nat.reduceAdd];refine tkx (i:=0) (v:=.agg (chC x)) (x:=fun w0 hC=>jc rfl rfl (H.o.2.1.below hC H.o.2.1.lt).range Tryz.underlying27 rfl (info_ch' HXO.o)) (s:=qch) (h:=?_);try simp only[nm0]
    refine tks (i:=1) (v:=.slice (some ⟨eb,eo,none⟩) n k) (s:=qch) (h:=?_);try simp only[nm0]
    refine tks (i:=2) (v:=.int .i64 (i:Int)) (s:=qch) (h:=?_);try simp only[nm0]
    refine tkx (i:=3) (v:=.pointer (some ⟨eb,eo+i,none⟩)) (x:=fun w0 hC=>by simp[execOp,Act.eval,Act.put,go_sem,hi0,hin',hlt]) (s:=qch) (h:=?_);try simp only[nm0]
    refine tkx (i:=4) (v:=.slice A' n' c') (x:=fun w0 hC=>by simp[execOp,Act.eval,Act.put,go_sem,(hC.cell (p:=⟨eb,eo+i,none⟩) heb).trans hcell]) (s:=qch) (h:=?_);try simp only[nm0]
    clear hi0 hin' hlt hcell heb;refine rd3 (r:=5) (s:=10) (t:=11) (h:=fun K hK=>?_) (k:=fun K hK=>?_) (l:=fun K hK=>?_)
    ·go_wp2_with fail
     refine(zhd x A' n' c' t V0 HXO.o ((HBY.o.below qch (Nat.le_refl _)).more qch.size) HNC.o.2.2 HNC.o.1 HNC.o.2.1 (HKW.o.below qch) (Tabs.later15 HTW.o qch)).mono ?_;rintro e U1 ⟨EH,rfl,hv,hin,hbc⟩;rw[HER.o,HY.o];have HIN:=hiD hin;have hS:=qch.trans (hbc.mono qch.size);clear qch hbc hv hin;refine bkk hK hS fun qch=>?_;clear hK K;try simp only[nm0]
     clear hS;refine tks (i:=6) (v:=.tuple #[.agg (chC y),.agg (evC EH),.int .i64 (er:Int)]) (s:=qch) (h:=?_);try simp only[nm0]
     refine tks (i:=7) (v:=.agg (chC y)) (s:=qch) (h:=?_);try simp only[nm0]
     refine tks (i:=8) (v:=.agg (evC EH)) (s:=qch) (h:=?_);try simp only[nm0]
     refine tks (i:=9) (v:=.int .i64 (er:Int)) (s:=qch) (h:=?_);try simp only[nm0]
     refine rd2 (r:=10) (s:=11) (h:=fun K hK=>?_) (k:=fun K hK=>?_)
     ·go_wp2_with fail
      have HB10:Hid (wo.heap.size≤U1.heap.size):=hiD qch.size;refine jg (fun W=>Below wo.heap.size wo W∧Bk W U1.heap.size 27 (chC ch0)) ⟨qch.alloc qch.size _,Bk.new _ _ _⟩ ?_;obtain⟨b10,hb10⟩:∃ b,U1.heap.size=b:=⟨_,rfl⟩;rw[hb10] at HB10 ⊢;clear hb10 qch;rintro U10 ⟨hS,q2⟩;have K10:=hiD q2;clear q2;refine bkk hK hS fun qch=>?_;clear hK K;try simp only[nm0]
      clear hS;refine rd1 (r:=11) (h:=fun K hK=>?_);go_wp2_with fail
      have HB11:Hid (wo.heap.size≤U10.heap.size):=hiD qch.size;refine jg (fun W=>Below wo.heap.size wo W∧Bk W U10.heap.size 50 (evC (ze 0 0))∧Bk W b10 27 (chC ch0)) ⟨qch.alloc qch.size _,Bk.new _ _ _,K10.o.alloc _⟩ ?_;have HNE:Hid (b10≠U10.heap.size):=hiD (by have:=K10.o.lt;omega);obtain⟨b11,hb11⟩:∃ b,U10.heap.size=b:=⟨_,rfl⟩;rw[hb11] at HB11 HNE ⊢;clear hb11 qch K10;rintro U11 ⟨hS,q2,q3⟩;have K11:=hiD q2;have K10:=hiD q3;clear q2 q3;refine bkk hK hS fun qch=>?_;clear hK K;try simp only[nm0]
      clear hS;have HDI:Hid (b10≠b11):=hiD (HNE.o);refine rd1 (r:=12) (h:=fun K hK=>?_);have hS:=below_setRow qch HB10.o (chC y);have K10b:=hiD (K10.o.setRow_same (chC y));have K11b:=hiD (K11.o.setRow_other HDI.o.symm (chC y));refine qh (ql rfl rfl rfl K10.o (by rw[zx HYO.o];rfl) (info_ch' HYO.o) (zt _)) ?_;clear qch K10 K11;refine bkk hK hS fun qch=>?_;clear hK K;try simp only[nm0]
      clear hS;refine rd1 (r:=13) (h:=fun K hK=>?_);have hS:=below_setRow qch HB11.o (evC EH);have K10c:=hiD (K10b.o.setRow_other HDI.o (evC EH));refine qh (ql rfl rfl rfl K11b.o (by rw[zd,zd]) (by rw[zd];exact zr) (zw _)) ?_;clear qch K10b K11b;refine bkk hK hS fun qch=>?_;clear hK K;try simp only[nm0]
      clear hS;refine rd1 (r:=14) (h:=fun K hK=>?_);go_wp2_with fail
      have hS:=qch;clear qch;refine bkk hK hS fun qch=>?_;clear hK K;try simp only[nm0]
      clear hS;refine wpAnyH_done (by kernel_rfl) ?_ _;go_wp2_with fail
      go_meet;exact⟨b10,rfl,rfl,K10c.o,HB10.o,qch⟩
     ·go_wp2_with fail
      have HB11:Hid (wo.heap.size≤U1.heap.size):=hiD qch.size;refine jg (fun W=>Below wo.heap.size wo W∧Bk W U1.heap.size 50 (evC (ze 0 0))) ⟨qch.alloc qch.size _,Bk.new _ _ _⟩ ?_;obtain⟨b11,hb11⟩:∃ b,U1.heap.size=b:=⟨_,rfl⟩;rw[hb11] at HB11 ⊢;clear hb11 qch;rintro U11 ⟨hS,q2⟩;have K11:=hiD q2;clear q2;refine bkk hK hS fun qch=>?_;clear hK K;try simp only[nm0]
      clear hS;refine rd1 (r:=10) (h:=fun K hK=>?_);go_wp2_with fail
      have HB10:Hid (wo.heap.size≤U11.heap.size):=hiD qch.size;refine jg (fun W=>Below wo.heap.size wo W∧Bk W U11.heap.size 27 (chC ch0)∧Bk W b11 50 (evC (ze 0 0))) ⟨qch.alloc qch.size _,Bk.new _ _ _,K11.o.alloc _⟩ ?_;have HNE:Hid (b11≠U11.heap.size):=hiD (by have:=K11.o.lt;omega);obtain⟨b10,hb10⟩:∃ b,U11.heap.size=b:=⟨_,rfl⟩;rw[hb10] at HB10 HNE ⊢;clear hb10 qch K11;rintro U10 ⟨hS,q2,q3⟩;have K10:=hiD q2;have K11:=hiD q3;clear q2 q3;refine bkk hK hS fun qch=>?_;clear hK K;try simp only[nm0]
      clear hS;have HDI:Hid (b10≠b11):=hiD (HNE.o.symm);refine rd1 (r:=12) (h:=fun K hK=>?_);have hS:=below_setRow qch HB10.o (chC y);have K10b:=hiD (K10.o.setRow_same (chC y));have K11b:=hiD (K11.o.setRow_other HDI.o.symm (chC y));refine qh (ql rfl rfl rfl K10.o (by rw[zx HYO.o];rfl) (info_ch' HYO.o) (zt _)) ?_;clear qch K10 K11;refine bkk hK hS fun qch=>?_;clear hK K;try simp only[nm0]
      clear hS;refine rd1 (r:=13) (h:=fun K hK=>?_);have hS:=below_setRow qch HB11.o (evC EH);have K10c:=hiD (K10b.o.setRow_other HDI.o (evC EH));refine qh (ql rfl rfl rfl K11b.o (by rw[zd,zd]) (by rw[zd];exact zr) (zw _)) ?_;clear qch K10b K11b;refine bkk hK hS fun qch=>?_;clear hK K;try simp only[nm0]
      clear hS;refine rd1 (r:=14) (h:=fun K hK=>?_);go_wp2_with fail
      have hS:=qch;clear qch;refine bkk hK hS fun qch=>?_;clear hK K;try simp only[nm0]
      clear hS;refine wpAnyH_done (by kernel_rfl) ?_ _;go_wp2_with fail
      go_meet;exact⟨b10,rfl,rfl,K10c.o,HB10.o,qch⟩
    ·go_wp2_with fail
     have HB10:Hid (wo.heap.size≤V0.heap.size):=hiD qch.size;refine jg (fun W=>Below wo.heap.size wo W∧Bk W V0.heap.size 27 (chC ch0)) ⟨qch.alloc qch.size _,Bk.new _ _ _⟩ ?_;obtain⟨b10,hb10⟩:∃ b,V0.heap.size=b:=⟨_,rfl⟩;rw[hb10] at HB10 ⊢;clear hb10 qch;rintro U10 ⟨hS,q2⟩;have K10:=hiD q2;clear q2;refine bkk hK hS fun qch=>?_;clear hK K;try simp only[nm0]
     clear hS;refine rd2 (r:=5) (s:=11) (h:=fun K hK=>?_) (k:=fun K hK=>?_)
     ·go_wp2_with fail
      refine(zhd x A' n' c' t U10 HXO.o ((HBY.o.below qch (Nat.le_refl _)).more qch.size) HNC.o.2.2 HNC.o.1 HNC.o.2.1 (HKW.o.below qch) (Tabs.later15 HTW.o qch)).mono ?_;rintro e U1 ⟨EH,rfl,hv,hin,hbc⟩;rw[HER.o,HY.o];have HIN:=hiD hin;have hS:=qch.trans (hbc.mono qch.size);have K10:=hiD (K10.o.below hbc K10.o.lt);clear qch hbc hv hin;refine bkk hK hS fun qch=>?_;clear hK K;try simp only[nm0]
      clear hS;refine tks (i:=6) (v:=.tuple #[.agg (chC y),.agg (evC EH),.int .i64 (er:Int)]) (s:=qch) (h:=?_);try simp only[nm0]
      refine tks (i:=7) (v:=.agg (chC y)) (s:=qch) (h:=?_);try simp only[nm0]
      refine tks (i:=8) (v:=.agg (evC EH)) (s:=qch) (h:=?_);try simp only[nm0]
      refine tks (i:=9) (v:=.int .i64 (er:Int)) (s:=qch) (h:=?_);try simp only[nm0]
      refine rd1 (r:=11) (h:=fun K hK=>?_);go_wp2_with fail
      have HB11:Hid (wo.heap.size≤U1.heap.size):=hiD qch.size;refine jg (fun W=>Below wo.heap.size wo W∧Bk W U1.heap.size 50 (evC (ze 0 0))∧Bk W b10 27 (chC ch0)) ⟨qch.alloc qch.size _,Bk.new _ _ _,K10.o.alloc _⟩ ?_;have HNE:Hid (b10≠U1.heap.size):=hiD (by have:=K10.o.lt;omega);obtain⟨b11,hb11⟩:∃ b,U1.heap.size=b:=⟨_,rfl⟩;rw[hb11] at HB11 HNE ⊢;clear hb11 qch K10;rintro U11 ⟨hS,q2,q3⟩;have K11:=hiD q2;have K10:=hiD q3;clear q2 q3;refine bkk hK hS fun qch=>?_;clear hK K;try simp only[nm0]
      clear hS;have HDI:Hid (b10≠b11):=hiD (HNE.o);refine rd1 (r:=12) (h:=fun K hK=>?_);have hS:=below_setRow qch HB10.o (chC y);have K10b:=hiD (K10.o.setRow_same (chC y));have K11b:=hiD (K11.o.setRow_other HDI.o.symm (chC y));refine qh (ql rfl rfl rfl K10.o (by rw[zx HYO.o];rfl) (info_ch' HYO.o) (zt _)) ?_;clear qch K10 K11;refine bkk hK hS fun qch=>?_;clear hK K;try simp only[nm0]
      clear hS;refine rd1 (r:=13) (h:=fun K hK=>?_);have hS:=below_setRow qch HB11.o (evC EH);have K10c:=hiD (K10b.o.setRow_other HDI.o (evC EH));refine qh (ql rfl rfl rfl K11b.o (by rw[zd,zd]) (by rw[zd];exact zr) (zw _)) ?_;clear qch K10b K11b;refine bkk hK hS fun qch=>?_;clear hK K;try simp only[nm0]
      clear hS;refine rd1 (r:=14) (h:=fun K hK=>?_);go_wp2_with fail
      have hS:=qch;clear qch;refine bkk hK hS fun qch=>?_;clear hK K;try simp only[nm0]
      clear hS;refine wpAnyH_done (by kernel_rfl) ?_ _;go_wp2_with fail
      go_meet;exact⟨b10,rfl,rfl,K10c.o,HB10.o,qch⟩
     ·go_wp2_with fail
      have HB11:Hid (wo.heap.size≤U10.heap.size):=hiD qch.size;refine jg (fun W=>Below wo.heap.size wo W∧Bk W U10.heap.size 50 (evC (ze 0 0))∧Bk W b10 27 (chC ch0)) ⟨qch.alloc qch.size _,Bk.new _ _ _,K10.o.alloc _⟩ ?_;have HNE:Hid (b10≠U10.heap.size):=hiD (by have:=K10.o.lt;omega);obtain⟨b11,hb11⟩:∃ b,U10.heap.size=b:=⟨_,rfl⟩;rw[hb11] at HB11 HNE ⊢;clear hb11 qch K10;rintro U11 ⟨hS,q2,q3⟩;have K11:=hiD q2;have K10:=hiD q3;clear q2 q3;refine bkk hK hS fun qch=>?_;clear hK K;try simp only[nm0]
      clear hS;refine rd1 (r:=5) (h:=fun K hK=>?_);go_wp2_with fail
      refine(zhd x A' n' c' t U11 HXO.o ((HBY.o.below qch (Nat.le_refl _)).more qch.size) HNC.o.2.2 HNC.o.1 HNC.o.2.1 (HKW.o.below qch) (Tabs.later15 HTW.o qch)).mono ?_;rintro e U1 ⟨EH,rfl,hv,hin,hbc⟩;rw[HER.o,HY.o];have HIN:=hiD hin;have hS:=qch.trans (hbc.mono qch.size);have K10:=hiD (K10.o.below hbc K10.o.lt);have K11:=hiD (K11.o.below hbc K11.o.lt);clear qch hbc hv hin;refine bkk hK hS fun qch=>?_;clear hK K;try simp only[nm0]
      clear hS;refine tks (i:=6) (v:=.tuple #[.agg (chC y),.agg (evC EH),.int .i64 (er:Int)]) (s:=qch) (h:=?_);try simp only[nm0]
      refine tks (i:=7) (v:=.agg (chC y)) (s:=qch) (h:=?_);try simp only[nm0]
      refine tks (i:=8) (v:=.agg (evC EH)) (s:=qch) (h:=?_);try simp only[nm0]
      refine tks (i:=9) (v:=.int .i64 (er:Int)) (s:=qch) (h:=?_);try simp only[nm0]
      have HDI:Hid (b10≠b11):=hiD (HNE.o);refine rd1 (r:=12) (h:=fun K hK=>?_);have hS:=below_setRow qch HB10.o (chC y);have K10b:=hiD (K10.o.setRow_same (chC y));have K11b:=hiD (K11.o.setRow_other HDI.o.symm (chC y));refine qh (ql rfl rfl rfl K10.o (by rw[zx HYO.o];rfl) (info_ch' HYO.o) (zt _)) ?_;clear qch K10 K11;refine bkk hK hS fun qch=>?_;clear hK K;try simp only[nm0]
      clear hS;refine rd1 (r:=13) (h:=fun K hK=>?_);have hS:=below_setRow qch HB11.o (evC EH);have K10c:=hiD (K10b.o.setRow_other HDI.o (evC EH));refine qh (ql rfl rfl rfl K11b.o (by rw[zd,zd]) (by rw[zd];exact zr) (zw _)) ?_;clear qch K10b K11b;refine bkk hK hS fun qch=>?_;clear hK K;try simp only[nm0]
      clear hS;refine rd1 (r:=14) (h:=fun K hK=>?_);go_wp2_with fail
      have hS:=qch;clear qch;refine bkk hK hS fun qch=>?_;clear hK K;try simp only[nm0]
      clear hS;refine wpAnyH_done (by kernel_rfl) ?_ _;go_wp2_with fail
      go_meet;exact⟨b10,rfl,rfl,K10c.o,HB10.o,qch⟩
    ·go_wp2_with fail
     have HB11:Hid (wo.heap.size≤V0.heap.size):=hiD qch.size;refine jg (fun W=>Below wo.heap.size wo W∧Bk W V0.heap.size 50 (evC (ze 0 0))) ⟨qch.alloc qch.size _,Bk.new _ _ _⟩ ?_;obtain⟨b11,hb11⟩:∃ b,V0.heap.size=b:=⟨_,rfl⟩;rw[hb11] at HB11 ⊢;clear hb11 qch;rintro U11 ⟨hS,q2⟩;have K11:=hiD q2;clear q2;refine bkk hK hS fun qch=>?_;clear hK K;try simp only[nm0]
     clear hS;refine rd2 (r:=5) (s:=10) (h:=fun K hK=>?_) (k:=fun K hK=>?_)
     ·go_wp2_with fail
      refine(zhd x A' n' c' t U11 HXO.o ((HBY.o.below qch (Nat.le_refl _)).more qch.size) HNC.o.2.2 HNC.o.1 HNC.o.2.1 (HKW.o.below qch) (Tabs.later15 HTW.o qch)).mono ?_;rintro e U1 ⟨EH,rfl,hv,hin,hbc⟩;rw[HER.o,HY.o];have HIN:=hiD hin;have hS:=qch.trans (hbc.mono qch.size);have K11:=hiD (K11.o.below hbc K11.o.lt);clear qch hbc hv hin;refine bkk hK hS fun qch=>?_;clear hK K;try simp only[nm0]
      clear hS;refine tks (i:=6) (v:=.tuple #[.agg (chC y),.agg (evC EH),.int .i64 (er:Int)]) (s:=qch) (h:=?_);try simp only[nm0]
      refine tks (i:=7) (v:=.agg (chC y)) (s:=qch) (h:=?_);try simp only[nm0]
      refine tks (i:=8) (v:=.agg (evC EH)) (s:=qch) (h:=?_);try simp only[nm0]
      refine tks (i:=9) (v:=.int .i64 (er:Int)) (s:=qch) (h:=?_);try simp only[nm0]
      refine rd1 (r:=10) (h:=fun K hK=>?_);go_wp2_with fail
      have HB10:Hid (wo.heap.size≤U1.heap.size):=hiD qch.size;refine jg (fun W=>Below wo.heap.size wo W∧Bk W U1.heap.size 27 (chC ch0)∧Bk W b11 50 (evC (ze 0 0))) ⟨qch.alloc qch.size _,Bk.new _ _ _,K11.o.alloc _⟩ ?_;have HNE:Hid (b11≠U1.heap.size):=hiD (by have:=K11.o.lt;omega);obtain⟨b10,hb10⟩:∃ b,U1.heap.size=b:=⟨_,rfl⟩;rw[hb10] at HB10 HNE ⊢;clear hb10 qch K11;rintro U10 ⟨hS,q2,q3⟩;have K10:=hiD q2;have K11:=hiD q3;clear q2 q3;refine bkk hK hS fun qch=>?_;clear hK K;try simp only[nm0]
      clear hS;have HDI:Hid (b10≠b11):=hiD (HNE.o.symm);refine rd1 (r:=12) (h:=fun K hK=>?_);have hS:=below_setRow qch HB10.o (chC y);have K10b:=hiD (K10.o.setRow_same (chC y));have K11b:=hiD (K11.o.setRow_other HDI.o.symm (chC y));refine qh (ql rfl rfl rfl K10.o (by rw[zx HYO.o];rfl) (info_ch' HYO.o) (zt _)) ?_;clear qch K10 K11;refine bkk hK hS fun qch=>?_;clear hK K;try simp only[nm0]
      clear hS;refine rd1 (r:=13) (h:=fun K hK=>?_);have hS:=below_setRow qch HB11.o (evC EH);have K10c:=hiD (K10b.o.setRow_other HDI.o (evC EH));refine qh (ql rfl rfl rfl K11b.o (by rw[zd,zd]) (by rw[zd];exact zr) (zw _)) ?_;clear qch K10b K11b;refine bkk hK hS fun qch=>?_;clear hK K;try simp only[nm0]
      clear hS;refine rd1 (r:=14) (h:=fun K hK=>?_);go_wp2_with fail
      have hS:=qch;clear qch;refine bkk hK hS fun qch=>?_;clear hK K;try simp only[nm0]
      clear hS;refine wpAnyH_done (by kernel_rfl) ?_ _;go_wp2_with fail
      go_meet;exact⟨b10,rfl,rfl,K10c.o,HB10.o,qch⟩
     ·go_wp2_with fail
      have HB10:Hid (wo.heap.size≤U11.heap.size):=hiD qch.size;refine jg (fun W=>Below wo.heap.size wo W∧Bk W U11.heap.size 27 (chC ch0)∧Bk W b11 50 (evC (ze 0 0))) ⟨qch.alloc qch.size _,Bk.new _ _ _,K11.o.alloc _⟩ ?_;have HNE:Hid (b11≠U11.heap.size):=hiD (by have:=K11.o.lt;omega);obtain⟨b10,hb10⟩:∃ b,U11.heap.size=b:=⟨_,rfl⟩;rw[hb10] at HB10 HNE ⊢;clear hb10 qch K11;rintro U10 ⟨hS,q2,q3⟩;have K10:=hiD q2;have K11:=hiD q3;clear q2 q3;refine bkk hK hS fun qch=>?_;clear hK K;try simp only[nm0]
      clear hS;refine rd1 (r:=5) (h:=fun K hK=>?_);go_wp2_with fail
      refine(zhd x A' n' c' t U10 HXO.o ((HBY.o.below qch (Nat.le_refl _)).more qch.size) HNC.o.2.2 HNC.o.1 HNC.o.2.1 (HKW.o.below qch) (Tabs.later15 HTW.o qch)).mono ?_;rintro e U1 ⟨EH,rfl,hv,hin,hbc⟩;rw[HER.o,HY.o];have HIN:=hiD hin;have hS:=qch.trans (hbc.mono qch.size);have K11:=hiD (K11.o.below hbc K11.o.lt);have K10:=hiD (K10.o.below hbc K10.o.lt);clear qch hbc hv hin;refine bkk hK hS fun qch=>?_;clear hK K;try simp only[nm0]
      clear hS;refine tks (i:=6) (v:=.tuple #[.agg (chC y),.agg (evC EH),.int .i64 (er:Int)]) (s:=qch) (h:=?_);try simp only[nm0]
      refine tks (i:=7) (v:=.agg (chC y)) (s:=qch) (h:=?_);try simp only[nm0]
      refine tks (i:=8) (v:=.agg (evC EH)) (s:=qch) (h:=?_);try simp only[nm0]
      refine tks (i:=9) (v:=.int .i64 (er:Int)) (s:=qch) (h:=?_);try simp only[nm0]
      have HDI:Hid (b10≠b11):=hiD (HNE.o.symm);refine rd1 (r:=12) (h:=fun K hK=>?_);have hS:=below_setRow qch HB10.o (chC y);have K10b:=hiD (K10.o.setRow_same (chC y));have K11b:=hiD (K11.o.setRow_other HDI.o.symm (chC y));refine qh (ql rfl rfl rfl K10.o (by rw[zx HYO.o];rfl) (info_ch' HYO.o) (zt _)) ?_;clear qch K10 K11;refine bkk hK hS fun qch=>?_;clear hK K;try simp only[nm0]
      clear hS;refine rd1 (r:=13) (h:=fun K hK=>?_);have hS:=below_setRow qch HB11.o (evC EH);have K10c:=hiD (K10b.o.setRow_other HDI.o (evC EH));refine qh (ql rfl rfl rfl K11b.o (by rw[zd,zd]) (by rw[zd];exact zr) (zw _)) ?_;clear qch K10b K11b;refine bkk hK hS fun qch=>?_;clear hK K;try simp only[nm0]
      clear hS;refine rd1 (r:=14) (h:=fun K hK=>?_);go_wp2_with fail
      have hS:=qch;clear qch;refine bkk hK hS fun qch=>?_;clear hK K;try simp only[nm0]
      clear hS;refine wpAnyH_done (by kernel_rfl) ?_ _;go_wp2_with fail
      go_meet;exact⟨b10,rfl,rfl,K10c.o,HB10.o,qch⟩
   case rest =>
   obtain⟨b6,rfl,rfl,hg⟩:=hcut;generalize wc=W3 at *;have G:=hiD hg;clear hg;have H3:=hiD (H.o.next G.o.2.2);have HB6:Hid (b+1<b6):=hiD (Nat.lt_of_lt_of_le H.o.2.1.lt G.o.2.1);clear H hi0 hin' hlt;by_cases he:er=0
   case neg =>
    have HF:Hid (foL (l.take (i+1))=⟨x,(foL (l.take i)).v,er⟩):=hiD (by rw[ztk (by have:=HLN.o;have:=HLT.o;omega),HTX.o,zf6 HE0.o (by rw[HX.o,HER.o];exact he),HX.o,HER.o])
    have HV:Hid (verC l=ch0∧verE l=er):=hiD (by
     have hc:foL l=foL (l.take (i+1)):=zm8 (by rw[HF.o];exact he);unfold verC verE;rw[hc,HF.o]
     exact⟨if_neg he,rfl⟩)
    have hne:(((er:Nat):Int) != 0)=true:=by simpa using he
    clear he HF;go_wp2_with (with_reducible refine stn 27 ?_)
    refine held (j9 rfl 27 #[] rfl [] rfl (chC ch0) zak ?_);go_wp2_with (with_reducible refine st0 ?_)
    refine held (zi rfl 27 (.tmp 2) (.tmp 27) rfl b 0 (chC ch0) rfl rfl 27 _ H3.o.1 (by rw[Nat.zero_add];exact Nat.le_refl _) (info_ch' zj) (zt _) ?_);intro w10 hw10;obtain rfl:=q9 hw10 zj zj;go_wp2_with fail
    exact bodyPost_ret (zc1 rfl _ _ ⟨b,0,none⟩ _ _ rfl rfl (Bk.ch (Bk.setRow_same H3.o.1 _) zj)) rfl ⟨by rw[HV.o.1,HV.o.2];rfl,by rw[HB.o];exact below_setRow H3.o.2.2 (Nat.le_refl _) _⟩
   subst he;have HF:Hid ((foL (l.take (i+1))).e=0∧(foL (l.take (i+1))).c=y):=hiD (by rw[ztk (by have:=HLN.o;have:=HLT.o;omega),HTX.o,zf5 HE0.o (by rw[HX.o,HER.o]),HX.o,HY.o];exact⟨rfl,rfl⟩);go_wp2_with (with_reducible refine stn 29 ?_)
   refine held (wpList_load_mid rfl 27 (.tmp 6) rfl b6 0 rfl _ _ G.o.1.range Tryz.underlying27 rfl (zcd HYO.o) ?_);go_wp2_with (with_reducible refine st0 ?_)
   refine held (zi rfl 27 (.tmp 4) (.tmp 29) rfl (b+1) 0 (chC y) rfl rfl 27 _ H3.o.2.1 (by rw[Nat.zero_add,zx HYO.o,zx HXO.o];exact Nat.le_refl _) (info_ch' HYO.o) (zt _) ?_);intro w10 hw10;obtain rfl:=q9 hw10 HXO.o HYO.o;have H4:Hid (VrAt w b y (W3.setRow (b+1) (chC y))):=hiD ⟨H3.o.1.setRow_other (by omega) _,H3.o.2.1.setRow_same _,below_setRow H3.o.2.2 (by omega) _⟩;clear H3 hw10 G;generalize W3.setRow (b+1) (chC y)=W4 at *;have hw1:IntKind.i64.wrap ((i:Int)+1)=(i:Int)+1:=IntWalk.i64_in _ (by have:=HLT.o;have:=HN.o;omega);go_wp2_with fail
   go_roundw
   case rel=>exact⟨i+1,HLT.o,by first|rfl|go_num,HF.o.1,by rw[HF.o.2];exact H4.o⟩
   case measure=>have:=HLT.o;simp[intOf];omega
  ·have hin:i=n:=by have:=HI.o;omega
   subst hin;have HF:Hid (foL (l.take i)=foL l):=hiD (by rw[List.take_of_length_le (by have:=HLN.o;omega)]);rw[HF.o] at HE0 H;obtain⟨x,hx⟩:∃ x,(foL l).c=x:=⟨_,rfl⟩;have HXO:Hid x.Ok:=hiD (by rw[← hx];exact(zan _).ok);rw[hx] at H;have HV:Hid (verC l=x∧verE l=0):=hiD (by unfold verC verE;exact⟨by rw[if_pos HE0.o,hx],HE0.o⟩);clear hx;go_wp2_with (with_reducible refine stn 30 ?_)
   refine held (wpList_load_mid rfl 27 (.tmp 4) rfl (b+1) 0 rfl _ _ H.o.2.1.range Tryz.underlying27 rfl (zcd HXO.o) ?_);go_wp2_with (with_reducible refine st0 ?_)
   refine held (zi rfl 27 (.tmp 2) (.tmp 30) rfl b 0 (chC x) rfl rfl 27 _ H.o.1 (by rw[Nat.zero_add,zx HXO.o,zx zj];exact Nat.le_refl _) (info_ch' HXO.o) (zt _) ?_);intro w10 hw10;obtain rfl:=q9 hw10 zj HXO.o;go_wp2_with fail
   exact bodyPost_ret (zc1 rfl _ _ ⟨b,0,none⟩ _ _ rfl rfl (Bk.ch (Bk.setRow_same H.o.1 _) HXO.o)) rfl ⟨by rw[HV.o.1,HV.o.2];rfl,by rw[HB.o];exact below_setRow H.o.2.2 (Nat.le_refl _) _⟩
def UnlIs (o:Option (List Nat×List Nat))(w:World)(e:Ending)(w':World):Prop :=
 ∃ A n c B m d,e=.returned (.tuple #[.slice A n c,.slice B m d,.bool o.isSome])∧OwnB w' w.heap.size 5 A n c (o.getD ([],[])).1∧OwnB w' w.heap.size 5 B m d (o.getD ([],[])).2∧Below w.heap.size w w'
theorem UnlIs.none {w w':World}(hb:Below w.heap.size w w'):UnlIs none w (.returned (.tuple #[.slice none 0 0,.slice none 0 0,.bool false])) w':=⟨_,_,_,_,_,_,rfl,OwnB.nil,OwnB.nil,hb⟩
theorem UnlIs.from_ {o:Option (List Nat×List Nat)}{w w1 w':World}{e:Ending}(h:UnlIs o w1 e w')(hb:Below w.heap.size w w1):UnlIs o w e w':=by
 obtain⟨A,n,c,B,m,d,h1,h2,h3,h4⟩:=h;exact⟨A,n,c,B,m,d,h1,h2.base_le hb.size,h3.base_le hb.size,hb.trans (h4.mono hb.size)⟩
theorem zea {l:List Nat}(h:l.length=32):(cb l).toList.length=32:=by simp[cb,h]
theorem zi7 (W:World){x y:Ch}(hx:x.Ok)(hy:y.Ok):(binOp .neq 25 (.agg (cb x.head)) (.agg (cb y.head))).run Tryz.prog W=.ok (.bool (!decide (x.head=y.head))) W:=by
 obtain⟨i,hi⟩:∃ i,Tryz.prog.info? 5=some i:=Option.isSome_iff_exists.1 (by kernel_rfl);have h:=zje (P:=Tryz.prog) W 9998 Tryz.underlying25 Tryz.underlying5 hi (by kernel_rfl) hx.1 hy.1;simp only[binOp];simp[Op.equal,Op.maxDepth,h]
theorem z9z (A:Option Addr)(n c:Nat)(a:List (List Nat))(B:Option Addr)(m d:Nat)(b:List (List Nat))(w:World)(ha:Recs 1000000 w w.heap.size A n a)(hb:Recs 1000000 w w.heap.size B m b)(hn:n≤100000)(hm:m≤100000) :
 Calls Tryz.prog 45 #[.slice A n c,.slice B m d] w (UnlIs (unlK a.reverse b.reverse) w):=by
 have HA:=hiD ha;have HB:=hiD hb;have HAL:=hiD ha.1;have HBL:=hiD hb.1;have HNM:=hiD (And.intro hn hm);clear ha hb hn hm;go_enter Tryz.func45,Tryz.ntmps45
 go_wp2_with fail
 go_loopw [7] (fun x7 wx=>∃ (k:Nat),k≤n∧k≤m∧x7=.int .i64 ((k:Int)+1)∧unlK a.reverse b.reverse=unlK (a.reverse.drop k) (b.reverse.drop k)∧Below w.heap.size w wx) (fun x7 _=>n+1-(intOf x7).toNat)
 case atStart=>exact⟨0,Nat.zero_le _,Nat.zero_le _,rfl,rfl,Below.refl _ _⟩
 case round =>
  obtain⟨k,hkn,hkm,rfl,hu,hbl⟩:=hrel;obtain⟨wo,rfl⟩:∃ wo,wo=wr:=⟨_,rfl⟩;have HU:=hiD hu;have HW:=hiD hbl;have HKN:=hiD (And.intro hkn hkm);clear hu hbl;by_cases hc:k<n∧k<m
  ·have hmn:((k:Int)+1≤min (n:Int) (m:Int)):=by omega
   have HC:=hiD hc;obtain⟨eb,eo,A1,n1,c1,rfl,heb,hcell,hnc,hcm,hn',hby⟩:=(HA.o.later HW.o).at_ (k:=n-(k+1)) (by omega);obtain⟨fb,fo,B1,m1,d1,rfl,hfb,fcell,fnc,fcm,fn',fby⟩:=(HB.o.later HW.o).at_ (k:=m-(k+1)) (by omega);have HX:=hiD (And.intro hnc (And.intro hcm (And.intro hn' hby)));have HY:=hiD (And.intro fnc (And.intro fcm (And.intro fn' fby)));obtain⟨x,hx⟩:∃ x,zp a (n-(k+1))=x:=⟨_,rfl⟩;obtain⟨y,hy⟩:∃ y,zp b (m-(k+1))=y:=⟨_,rfl⟩;rw[hx] at HX;rw[hy] at HY;have HXE:=hiD hx;have HYE:=hiD hy;obtain⟨i,hi⟩:∃ i,n-(k+1)=i:=⟨_,rfl⟩;obtain⟨j,hj⟩:∃ j,m-(k+1)=j:=⟨_,rfl⟩;rw[hi] at hcell HXE;rw[hj] at fcell HYE;have hwi:IntKind.i64.wrap ((n:Int)-((k:Int)+1))=(i:Int):=by rw[IntWalk.i64_in _ (by have:=HNM.o;omega)];omega
   have hwj:IntKind.i64.wrap ((m:Int)-((k:Int)+1))=(j:Int):=by rw[IntWalk.i64_in _ (by have:=HNM.o;omega)];omega
   have hi0:(0:Int)≤(i:Int):=by omega
   have hj0:(0:Int)≤(j:Int):=by omega
   have hin:(i:Int)<(n:Int):=by omega
   have hjm:(j:Int)<(m:Int):=by omega
   have HIJ:=hiD (And.intro hi hj);clear hnc hcm hn' hby fnc fcm fn' fby hx hy heb hfb hi hj hkn hkm hc;go_wp2_with fail
   go_region;refine zrw (fun W=>Below w.heap.size w W∧Bytes W W.heap.size A1 n1 x∧Bytes W W.heap.size B1 m1 y) ⟨HW.o.drew,HX.o.2.2.2.drew,HY.o.2.2.2.drew⟩ ?_;rintro W1 ⟨q1,q2,q3⟩;have HW1:=hiD q1;have BX:=hiD q2;have BY:=hiD q3;have HXN:=hiD HX.o.2.2.1;have HYN:=hiD HY.o.2.2.1;clear q1 q2 q3 hcell fcell hwi hwj hi0 hj0 hin hjm HW HX HY;have hul:unlK (a.reverse.drop k) (b.reverse.drop k)=if x=y then unlK (a.reverse.drop (k+1)) (b.reverse.drop (k+1))else some (x,y):=by
    have e1:=HIJ.o.1;have e2:=HIJ.o.2;have t1:zp a (a.length-(k+1))=x:=by rw[HAL.o,e1];exact HXE.o
    have t2:zp b (b.length-(k+1))=y:=by rw[HBL.o,e2];exact HYE.o
    have ka:k<a.length:=by have:=HC.o.1;have:=HAL.o;omega
    have kb:k<b.length:=by have:=HC.o.2;have:=HBL.o;omega
    by_cases hxy:x=y
    ·rw[if_pos hxy]
     exact zne ka kb (by rw[t1,t2];exact hxy)
    ·rw[if_neg hxy,znf ka kb (by rw[t1,t2];exact hxy),t1,t2]
   have HUL:=hiD hul;clear hul;go_wp2_with fail
   refine(z6l A1 n1 c1 W1.heap.size x B1 m1 d1 W1.heap.size y W1 BX.o BY.o).mono ?_;rintro e w' ⟨rfl,rfl⟩;by_cases hxy:x=y
   ·have hd:decide (x=y)=true:=decide_eq_true hxy
    rw[hd];have HU2:Hid (unlK a.reverse b.reverse=unlK (a.reverse.drop (k+1)) (b.reverse.drop (k+1))):=hiD (by rw[HU.o,HUL.o,if_pos hxy]);have hw1:IntKind.i64.wrap ((k:Int)+1+1)=(k:Int)+1+1:=IntWalk.i64_in _ (by have:=HC.o.1;have:=HNM.o.1;omega);clear hd hxy HUL;go_wp2_with fail
    go_roundw
    case rel=>exact⟨k+1,HC.o.1,HC.o.2,by first|rfl|go_num,HU2.o,HW1.o⟩
    case measure=>have:=HC.o.1;simp[intOf];omega
   ·have hd:decide (x=y)=false:=decide_eq_false hxy
    rw[hd];have HU2:Hid (unlK a.reverse b.reverse=some (x,y)):=hiD (by rw[HU.o,HUL.o,if_neg hxy]);clear hd hxy HUL;go_wp2_with fail
    refine(zlr A1 n1 c1 x W1 BX.o (by have:=HXN.o;omega)).mono ?_;rintro e W2 ⟨A8,c8,rfl,ho,hb2⟩;have HO:=hiD (ho.base_le HW1.o.size);have HW2:=hiD (HW1.o.trans (hb2.mono HW1.o.size));have BY2:=hiD (BY.o.later hb2);clear ho hb2 HW1 BX BY;go_wp2_with fail
    refine(zlr B1 m1 d1 y W2 BY2.o (by have:=HYN.o;omega)).mono ?_;rintro e W3 ⟨A9,c9,rfl,ho,hb2⟩;have HO2:=hiD (HO.o.below hb2);have HO3:=hiD (ho.base_le HW2.o.size);have HW3:=hiD (HW2.o.trans (hb2.mono HW2.o.size));clear ho hb2 HW2 BY2 HO;go_wp2_with fail
    go_ret3;exact⟨A8,n1,c8,A9,m1,c9,by rw[HU2.o];rfl,by rw[HU2.o];exact HO2.o,by rw[HU2.o];exact HO3.o,HW3.o⟩
  ·have hmn:¬ ((k:Int)+1≤min (n:Int) (m:Int)):=by omega
   have HU2:Hid (unlK a.reverse b.reverse=none):=hiD (by rw[HU.o];exact znd (by have:=HAL.o;have:=HBL.o;omega));clear hc;go_wp2_with fail
   go_ret3;rw[HU2.o];exact UnlIs.none HW.o
theorem z90 (A:Option Addr)(n c:Nat)(a:List (List Nat))(B:Option Addr)(m d:Nat)(b:List (List Nat))(w:World)(ha:Recs 1000000 w w.heap.size A n a)(hb:Recs 1000000 w w.heap.size B m b)(hn:n≤100000)(hm:m≤100000)(hK:Kinds w)(ht:Tabs w) :
 Calls Tryz.prog 24 #[.slice A n c,.slice B m d] w (UnlIs (colX a b) w):=by
 have HA:=hiD ha;have HB:=hiD hb;have HAL:=hiD ha.1;have HBL:=hiD hb.1;have HNM:=hiD (And.intro hn hm);have HK:=hiD hK;have HT:=hiD ht;have CV:=hiD (zdt A n c a w ha hn hK ht);have HXO:Hid (verC a).Ok:=hiD (zdu a);have HYO:Hid (verC b).Ok:=hiD (zdu b);have HCOL:Hid (colX a b=if verE a=0∧verE b=0∧a≠[]∧b≠[]∧(verC a).head=(verC b).head then unlK a.reverse b.reverse else none):=hiD rfl;clear ha hb hn hm hK ht;obtain⟨x,hx⟩:∃ x,verC a=x:=⟨_,rfl⟩;rw[hx] at HXO HCOL;have HX:=hiD hx;obtain⟨y,hy⟩:∃ y,verC b=y:=⟨_,rfl⟩;rw[hy] at HYO HCOL;have HY:=hiD hy;obtain⟨e1,he1⟩:∃ e1,verE a=e1:=⟨_,rfl⟩;rw[he1] at HCOL;have HE1:=hiD he1;obtain⟨e2,he2⟩:∃ e2,verE b=e2:=⟨_,rfl⟩;rw[he2] at HCOL;have HE2:=hiD he2;clear hx hy he1 he2;go_enter Tryz.func24,Tryz.ntmps24
 go_wp2_with fail
 refine CV.o.mono ?_;rintro e w1 ⟨rfl,hb1⟩;rw[HX.o,HE1.o];have HB1:=hiD hb1;clear hb1 CV;go_wp2_with (with_reducible refine st0 ?_)
 refine held (zi rfl 27 (.tmp 7) (.tmp 14) rfl w1.heap.size 0 (chC x) rfl rfl 27 (chC ch0) (Bk.new w1 27 (chC ch0)) (by rw[zx HXO.o];exact Nat.le_refl _) (info_ch' HXO.o) (zt _) ?_);intro w2 hw2;obtain⟨k7,hb2⟩:=za1 HXO.o hw2;have K7:=hiD k7;have HB2:=hiD (HB1.o.trans (hb2.mono HB1.o.size));obtain⟨b7,hb7⟩:∃ b,w1.heap.size=b:=⟨_,rfl⟩;rw[hb7] at K7 ⊢;clear k7 hb2 hw2 hb7 HB1;go_wp2_with fail
 refine(zdt B m d b w2 (HB.o.later HB2.o) HNM.o.2 (HK.o.below HB2.o) (Tabs.later15 HT.o HB2.o)).mono ?_;rintro e w3 ⟨rfl,hb1⟩;rw[HY.o,HE2.o];have HB3:=hiD (HB2.o.trans (hb1.mono HB2.o.size));have K7b:=hiD (K7.o.below hb1 K7.o.lt);clear hb1 HB2 K7;go_wp2_with (with_reducible refine st0 ?_)
 refine held (zi rfl 27 (.tmp 9) (.tmp 19) rfl w3.heap.size 0 (chC y) rfl rfl 27 (chC ch0) (Bk.new w3 27 (chC ch0)) (by rw[zx HYO.o];exact Nat.le_refl _) (info_ch' HYO.o) (zt _) ?_);intro w4 hw4;obtain⟨k9,hb2⟩:=za1 HYO.o hw4;have K9:=hiD k9;have K7:=hiD (K7b.o.below hb2 K7b.o.lt);have HB4:=hiD (HB3.o.trans (hb2.mono HB3.o.size));obtain⟨b9,hb9⟩:∃ b,w3.heap.size=b:=⟨_,rfl⟩;rw[hb9] at K9 ⊢;clear k9 hb2 hw4 hb9 HB3 K7b;by_cases h1:e1=0
 case neg =>
  have HC:Hid (colX a b=none):=hiD (by rw[HCOL.o,if_neg (fun h=>h1 h.1)]);have hne:(((e1:Nat):Int) != 0)=true:=by simpa using h1
  clear h1;go_wp2_with fail
  go_ret3;rw[HC.o];exact UnlIs.none HB4.o
 subst h1;by_cases h2:e2=0
 case neg =>
  have HC:Hid (colX a b=none):=hiD (by rw[HCOL.o,if_neg (fun h=>h2 h.2.1)]);have hne:(((e2:Nat):Int) != 0)=true:=by simpa using h2
  clear h2;go_wp2_with fail
  go_ret3;rw[HC.o];exact UnlIs.none HB4.o
 subst h2;by_cases h3:n=0
 ·have HC:Hid (colX a b=none):=hiD (by rw[HCOL.o,if_neg (fun h=>h.2.2.1 (List.eq_nil_of_length_eq_zero (by rw[HAL.o];exact h3)))])
  have hq:((n:Int) == 0)=true:=by simpa using h3
  clear h3;go_wp2_with fail
  go_ret3;rw[HC.o];exact UnlIs.none HB4.o
 have hq:((n:Int) == 0)=false:=by simpa using h3
 by_cases h4:m=0
 ·have HC:Hid (colX a b=none):=hiD (by rw[HCOL.o,if_neg (fun h=>h.2.2.2.1 (List.eq_nil_of_length_eq_zero (by rw[HBL.o];exact h4)))])
  have hq2:((m:Int) == 0)=true:=by simpa using h4
  clear h3 h4;go_wp2_with fail
  go_ret3;rw[HC.o];exact UnlIs.none HB4.o
 have hq2:((m:Int) == 0)=false:=by simpa using h4
 have HNE:Hid (a≠[]∧b≠[]):=hiD ⟨fun h=>h3 (by rw[← HAL.o,h];rfl),fun h=>h4 (by rw[← HBL.o,h];rfl)⟩;obtain⟨q,hqq⟩:∃ q,decide (x.head=y.head)=q:=⟨_,rfl⟩;have hneq:∀ W,(binOp .neq 25 (.agg (cb x.head)) (.agg (cb y.head))).run Tryz.prog W=.ok (.bool (!q)) W:=fun W=>by rw[← hqq];exact zi7 W HXO.o HYO.o
 have HQ:=hiD hqq;clear h3 h4 hqq;go_wp2_with (with_reducible refine stn 39 ?_)
 refine held (zde (by rfl) 25 (.tmp 38) rfl b7 0 rfl _ _ (Bk.headRange K7.o HXO.o) Tryz.underlying25 rfl (by rw[zea HXO.o.1];exact zb2) ?_);go_wp2_with (with_reducible refine stn 41 ?_)
 refine held (zde (by rfl) 25 (.tmp 40) rfl b9 0 rfl _ _ (Bk.headRange K9.o HYO.o) Tryz.underlying25 rfl (by rw[zea HYO.o.1];exact zb2) ?_);cases q
 case false =>
  have HC:Hid (colX a b=none):=hiD (by rw[HCOL.o,if_neg (fun h=>of_decide_eq_false HQ.o h.2.2.2.2)]);go_wp2_with fail
  go_ret3;rw[HC.o];exact UnlIs.none HB4.o
 have HC:Hid (colX a b=unlK a.reverse b.reverse):=hiD (by rw[HCOL.o,if_pos ⟨by simp,by simp,HNE.o.1,HNE.o.2,of_decide_eq_true HQ.o⟩]);go_wp2_with fail
 refine(z9z A n c a B m d b w4 (HA.o.later HB4.o) (HB.o.later HB4.o) HNM.o.1 HNM.o.2).mono ?_;rintro e w5 ⟨A5,n5,c5,B5,m5,d5,rfl,ho1,ho2,hb5⟩;have HO1:=hiD (ho1.base_le HB4.o.size);have HO2:=hiD (ho2.base_le HB4.o.size);have HB5:=hiD (HB4.o.trans (hb5.mono HB4.o.size));clear ho1 ho2 hb5;go_wp2_with fail
 go_ret3;exact⟨A5,n5,c5,B5,m5,d5,by rw[HC.o];rfl,by rw[HC.o];exact HO1.o,by rw[HC.o];exact HO2.o,HB5.o⟩
theorem z91 (A:Option Addr)(n c:Nat)(a:List (List Nat))(B:Option Addr)(m d:Nat)(b:List (List Nat))(w:World)(ha:Recs 1000000 w w.heap.size A n a)(hb:Recs 1000000 w w.heap.size B m b)(hn:n≤100000)(hm:m≤100000)(hK:Kinds w)(ht:Tabs w) :
 Calls Tryz.prog 25 #[.slice A n c,.slice B m d] w (UnlIs (colX a b) w):=by
 have HA:=hiD ha;have HB:=hiD hb;have HAL:=hiD ha.1;have HBL:=hiD hb.1;have HNM:=hiD (And.intro hn hm);have HK:=hiD hK;have HT:=hiD ht;have CV:=hiD (zfx A n c a w ha hn hK ht);have HXO:Hid (verC a).Ok:=hiD (zdu a);have HYO:Hid (verC b).Ok:=hiD (zdu b);have HCOL:Hid (colX a b=if verE a=0∧verE b=0∧a≠[]∧b≠[]∧(verC a).head=(verC b).head then unlK a.reverse b.reverse else none):=hiD rfl;clear ha hb hn hm hK ht;obtain⟨x,hx⟩:∃ x,verC a=x:=⟨_,rfl⟩;rw[hx] at HXO HCOL;have HX:=hiD hx;obtain⟨y,hy⟩:∃ y,verC b=y:=⟨_,rfl⟩;rw[hy] at HYO HCOL;have HY:=hiD hy;obtain⟨e1,he1⟩:∃ e1,verE a=e1:=⟨_,rfl⟩;rw[he1] at HCOL;have HE1:=hiD he1;obtain⟨e2,he2⟩:∃ e2,verE b=e2:=⟨_,rfl⟩;rw[he2] at HCOL;have HE2:=hiD he2;clear hx hy he1 he2;go_enter Tryz.func25,Tryz.ntmps25
 go_wp2_with fail
 refine CV.o.mono ?_;rintro e w1 ⟨rfl,hb1⟩;rw[HX.o,HE1.o];have HB1:=hiD hb1;clear hb1 CV;go_wp2_with (with_reducible refine st0 ?_)
 refine held (zi rfl 27 (.tmp 7) (.tmp 17) rfl w1.heap.size 0 (chC x) rfl rfl 27 (chC ch0) (Bk.new w1 27 (chC ch0)) (by rw[zx HXO.o];exact Nat.le_refl _) (info_ch' HXO.o) (zt _) ?_);intro w2 hw2;obtain⟨k7,hb2⟩:=za1 HXO.o hw2;have K7:=hiD k7;have HB2:=hiD (HB1.o.trans (hb2.mono HB1.o.size));obtain⟨b7,hb7⟩:∃ b,w1.heap.size=b:=⟨_,rfl⟩;rw[hb7] at K7 ⊢;clear k7 hb2 hw2 hb7 HB1;go_wp2_with fail
 refine(zfx B m d b w2 (HB.o.later HB2.o) HNM.o.2 (HK.o.below HB2.o) (Tabs.later15 HT.o HB2.o)).mono ?_;rintro e w3 ⟨rfl,hb1⟩;rw[HY.o,HE2.o];have HB3:=hiD (HB2.o.trans (hb1.mono HB2.o.size));have K7b:=hiD (K7.o.below hb1 K7.o.lt);clear hb1 HB2 K7;go_wp2_with (with_reducible refine st0 ?_)
 refine held (zi rfl 27 (.tmp 9) (.tmp 22) rfl w3.heap.size 0 (chC y) rfl rfl 27 (chC ch0) (Bk.new w3 27 (chC ch0)) (by rw[zx HYO.o];exact Nat.le_refl _) (info_ch' HYO.o) (zt _) ?_);intro w4 hw4;obtain⟨k9,hb2⟩:=za1 HYO.o hw4;have K9:=hiD k9;have K7:=hiD (K7b.o.below hb2 K7b.o.lt);have HB4:=hiD (HB3.o.trans (hb2.mono HB3.o.size));obtain⟨b9,hb9⟩:∃ b,w3.heap.size=b:=⟨_,rfl⟩;rw[hb9] at K9 ⊢;clear k9 hb2 hw4 hb9 HB3 K7b;by_cases h1:e1=0
 case neg =>
  have HC:Hid (colX a b=none):=hiD (by rw[HCOL.o,if_neg (fun h=>h1 h.1)]);have hne:(((e1:Nat):Int) != 0)=true:=by simpa using h1
  clear h1;go_wp2_with fail
  go_ret3;rw[HC.o];exact UnlIs.none HB4.o
 subst h1;by_cases h2:e2=0
 case neg =>
  have HC:Hid (colX a b=none):=hiD (by rw[HCOL.o,if_neg (fun h=>h2 h.2.1)]);have hne:(((e2:Nat):Int) != 0)=true:=by simpa using h2
  clear h2;go_wp2_with fail
  go_ret3;rw[HC.o];exact UnlIs.none HB4.o
 subst h2;by_cases h3:n=0
 ·have HC:Hid (colX a b=none):=hiD (by rw[HCOL.o,if_neg (fun h=>h.2.2.1 (List.eq_nil_of_length_eq_zero (by rw[HAL.o];exact h3)))])
  have hq:((n:Int) == 0)=true:=by simpa using h3
  clear h3;go_wp2_with fail
  go_ret3;rw[HC.o];exact UnlIs.none HB4.o
 have hq:((n:Int) == 0)=false:=by simpa using h3
 by_cases h4:m=0
 ·have HC:Hid (colX a b=none):=hiD (by rw[HCOL.o,if_neg (fun h=>h.2.2.2.1 (List.eq_nil_of_length_eq_zero (by rw[HBL.o];exact h4)))])
  have hq2:((m:Int) == 0)=true:=by simpa using h4
  clear h3 h4;go_wp2_with fail
  go_ret3;rw[HC.o];exact UnlIs.none HB4.o
 have hq2:((m:Int) == 0)=false:=by simpa using h4
 have HNE:Hid (a≠[]∧b≠[]):=hiD ⟨fun h=>h3 (by rw[← HAL.o,h];rfl),fun h=>h4 (by rw[← HBL.o,h];rfl)⟩;obtain⟨q,hqq⟩:∃ q,decide (x.head=y.head)=q:=⟨_,rfl⟩;have hneq:∀ W,(binOp .neq 25 (.agg (cb x.head)) (.agg (cb y.head))).run Tryz.prog W=.ok (.bool (!q)) W:=fun W=>by rw[← hqq];exact zi7 W HXO.o HYO.o
 have HQ:=hiD hqq;clear h3 h4 hqq;go_wp2_with (with_reducible refine stn 42 ?_)
 refine held (zde (by rfl) 25 (.tmp 41) rfl b7 0 rfl _ _ (Bk.headRange K7.o HXO.o) Tryz.underlying25 rfl (by rw[zea HXO.o.1];exact zb2) ?_);go_wp2_with (with_reducible refine stn 44 ?_)
 refine held (zde (by rfl) 25 (.tmp 43) rfl b9 0 rfl _ _ (Bk.headRange K9.o HYO.o) Tryz.underlying25 rfl (by rw[zea HYO.o.1];exact zb2) ?_);cases q
 case false =>
  have HC:Hid (colX a b=none):=hiD (by rw[HCOL.o,if_neg (fun h=>of_decide_eq_false HQ.o h.2.2.2.2)]);go_wp2_with fail
  go_ret3;rw[HC.o];exact UnlIs.none HB4.o
 have HC:Hid (colX a b=unlK a.reverse b.reverse):=hiD (by rw[HCOL.o,if_pos ⟨by simp,by simp,HNE.o.1,HNE.o.2,of_decide_eq_true HQ.o⟩]);have HC0:=HC;clear HC HQ HCOL K7 K9 HX HY HE1 HE2 HXO HYO;go_wp2_with fail
 clear hneq hq hq2
 go_loopw [11] (fun x7 wx=>∃ (k:Nat),k≤n∧k≤m∧x7=.int .i64 ((k:Int)+1)∧unlK a.reverse b.reverse=unlK (a.reverse.drop k) (b.reverse.drop k)∧Below w.heap.size w wx) (fun x7 _=>n+1-(intOf x7).toNat)
 case atStart=>exact⟨0,Nat.zero_le _,Nat.zero_le _,rfl,rfl,HB4.o⟩
 case round =>
  obtain⟨k,hkn,hkm,rfl,hu,hbl⟩:=hrel;obtain⟨wo,rfl⟩:∃ wo,wo=wr:=⟨_,rfl⟩;have HU:=hiD hu;have HW:=hiD hbl;have HKN:=hiD (And.intro hkn hkm);clear hu hbl;by_cases hc:k<n∧k<m
  ·have hmn:(k:Int)+1≤(n:Int):=by omega
   have hmm:(k:Int)+1≤(m:Int):=by omega
   have HC:=hiD hc;obtain⟨eb,eo,A1,n1,c1,rfl,heb,hcell,hnc,hcm,hn',hby⟩:=(HA.o.later HW.o).at_ (k:=n-(k+1)) (by omega);obtain⟨fb,fo,B1,m1,d1,rfl,hfb,fcell,fnc,fcm,fn',fby⟩:=(HB.o.later HW.o).at_ (k:=m-(k+1)) (by omega);have HX:=hiD (And.intro hnc (And.intro hcm (And.intro hn' hby)));have HY:=hiD (And.intro fnc (And.intro fcm (And.intro fn' fby)));obtain⟨x,hx⟩:∃ x,zp a (n-(k+1))=x:=⟨_,rfl⟩;obtain⟨y,hy⟩:∃ y,zp b (m-(k+1))=y:=⟨_,rfl⟩;rw[hx] at HX;rw[hy] at HY;have HXE:=hiD hx;have HYE:=hiD hy;obtain⟨i,hi⟩:∃ i,n-(k+1)=i:=⟨_,rfl⟩;obtain⟨j,hj⟩:∃ j,m-(k+1)=j:=⟨_,rfl⟩;rw[hi] at hcell HXE;rw[hj] at fcell HYE;have hwi:IntKind.i64.wrap ((n:Int)-((k:Int)+1))=(i:Int):=by rw[IntWalk.i64_in _ (by have:=HNM.o;omega)];omega
   have hwj:IntKind.i64.wrap ((m:Int)-((k:Int)+1))=(j:Int):=by rw[IntWalk.i64_in _ (by have:=HNM.o;omega)];omega
   have hi0:(0:Int)≤(i:Int):=by omega
   have hj0:(0:Int)≤(j:Int):=by omega
   have hin:(i:Int)<(n:Int):=by omega
   have hjm:(j:Int)<(m:Int):=by omega
   have HIJ:=hiD (And.intro hi hj);clear hnc hcm hn' hby fnc fcm fn' fby hx hy heb hfb hi hj hkn hkm hc;go_wp2_with fail
   go_region;refine zrw (fun W=>Below w.heap.size w W∧Bytes W W.heap.size A1 n1 x∧Bytes W W.heap.size B1 m1 y) ⟨HW.o.drew,HX.o.2.2.2.drew,HY.o.2.2.2.drew⟩ ?_;rintro W1 ⟨q1,q2,q3⟩;have HW1:=hiD q1;have BX:=hiD q2;have BY:=hiD q3;have HXN:=hiD HX.o.2.2.1;have HYN:=hiD HY.o.2.2.1;clear q1 q2 q3 hcell fcell hwi hwj hi0 hj0 hin hjm HW HX HY;have hul:unlK (a.reverse.drop k) (b.reverse.drop k)=if x=y then unlK (a.reverse.drop (k+1)) (b.reverse.drop (k+1))else some (x,y):=by
    have e1:=HIJ.o.1;have e2:=HIJ.o.2;have t1:zp a (a.length-(k+1))=x:=by rw[HAL.o,e1];exact HXE.o
    have t2:zp b (b.length-(k+1))=y:=by rw[HBL.o,e2];exact HYE.o
    have ka:k<a.length:=by have:=HC.o.1;have:=HAL.o;omega
    have kb:k<b.length:=by have:=HC.o.2;have:=HBL.o;omega
    by_cases hxy:x=y
    ·rw[if_pos hxy]
     exact zne ka kb (by rw[t1,t2];exact hxy)
    ·rw[if_neg hxy,znf ka kb (by rw[t1,t2];exact hxy),t1,t2]
   have HUL:=hiD hul;clear hul;go_wp2_with fail
   refine(zd8 A1 n1 c1 W1.heap.size x B1 m1 d1 W1.heap.size y W1 BX.o BY.o).mono ?_;rintro e w' ⟨rfl,rfl⟩;by_cases hxy:x=y
   ·have hd:decide (x=y)=true:=decide_eq_true hxy
    rw[hd];have HU2:Hid (unlK a.reverse b.reverse=unlK (a.reverse.drop (k+1)) (b.reverse.drop (k+1))):=hiD (by rw[HU.o,HUL.o,if_pos hxy]);have hw1:IntKind.i64.wrap ((k:Int)+1+1)=(k:Int)+1+1:=IntWalk.i64_in _ (by have:=HC.o.1;have:=HNM.o.1;omega);clear hd hxy HUL;go_wp2_with fail
    go_roundw
    case rel=>exact⟨k+1,HC.o.1,HC.o.2,by first|rfl|go_num,HU2.o,HW1.o⟩
    case measure=>have:=HC.o.1;simp[intOf];omega
   ·have hd:decide (x=y)=false:=decide_eq_false hxy
    rw[hd];have HU2:Hid (unlK a.reverse b.reverse=some (x,y)):=hiD (by rw[HU.o,HUL.o,if_neg hxy]);clear hd hxy HUL;go_wp2_with (with_reducible refine stn 79 ?_)
    refine held (zao rfl (.tmp 77) (.tmp 78) 48 rfl Tryz.underlying48 zi2 W1.heap.size (some ⟨W1.heap.size,0,none⟩) 0 0 [] rfl (OwnB.empty W1 5) W1.heap.size A1 n1 c1 x rfl (BX.o.below ((Below.refl _ _).alloc (Nat.le_refl _) _) (Nat.le_refl _)) (by have:=HXN.o;have:=HYN.o;omega) (by simp) ?_);intro A8 c8 W2 ho hbq hgq;clear hgq;have hbw:Below W1.heap.size W1 W2:=((Below.refl _ _).alloc (Nat.le_refl _) _).trans hbq;rw[Nat.zero_add,List.nil_append] at ho;rw[Nat.zero_add];clear hbq;have HO:=hiD (ho.base_le HW1.o.size);have HW2:=hiD (HW1.o.trans (hbw.mono HW1.o.size));have BY2:=hiD (BY.o.later hbw);clear ho hbw HW1 BX BY;go_wp2_with (with_reducible refine stn 82 ?_)
    refine held (zao rfl (.tmp 80) (.tmp 81) 48 rfl Tryz.underlying48 zi2 W2.heap.size (some ⟨W2.heap.size,0,none⟩) 0 0 [] rfl (OwnB.empty W2 5) W2.heap.size B1 m1 d1 y rfl (BY2.o.below ((Below.refl _ _).alloc (Nat.le_refl _) _) (Nat.le_refl _)) (by have:=HXN.o;have:=HYN.o;omega) (by simp) ?_);intro A9 c9 W3 ho hbq hgq;clear hgq;have hbw:Below W2.heap.size W2 W3:=((Below.refl _ _).alloc (Nat.le_refl _) _).trans hbq;rw[Nat.zero_add,List.nil_append] at ho;rw[Nat.zero_add];clear hbq;have HO2:=hiD (HO.o.below hbw);have HO3:=hiD (ho.base_le HW2.o.size);have HW3:=hiD (HW2.o.trans (hbw.mono HW2.o.size));clear ho hbw HW2 BY2 HO;go_wp2_with fail
    go_ret3;exact⟨A8,n1,c8,A9,m1,c9,by rw[HC0.o,HU2.o];rfl,by rw[HC0.o,HU2.o];exact HO2.o,by rw[HC0.o,HU2.o];exact HO3.o,HW3.o⟩
  ·have HU2:Hid (unlK a.reverse b.reverse=none):=hiD (by rw[HU.o];exact znd (by have:=HAL.o;have:=HBL.o;omega))
   by_cases hk1:k<n
   ·have hmn:(k:Int)+1≤(n:Int):=by omega
    have hmm:¬ ((k:Int)+1≤(m:Int)):=by omega
    clear hc hk1;go_wp2_with fail
    go_ret3;rw[HC0.o,HU2.o];exact UnlIs.none HW.o
   ·have hmn:¬ ((k:Int)+1≤(n:Int)):=by omega
    clear hc hk1;go_wp2_with fail
    go_ret3;rw[HC0.o,HU2.o];exact UnlIs.none HW.o
def wgN (l:List (List Nat)):Nat:=(l.map fun x=>100+x.length).sum
theorem z92 (l:List (List Nat))(x:List Nat):wgN (l++[x])=wgN l+(100+x.length):=by simp[wgN]
theorem zhe:∀ (l:List (List Nat)),(100*l.length≤wgN l)∧∀ x∈l,x.length≤wgN l
 | []=>⟨by simp[wgN],fun x hx=>by cases hx⟩
 | a :: l => by
   have ih:=zhe l;have e:wgN (a::l)=(100+a.length)+wgN l:=by simp[wgN]
   refine⟨by rw[e,List.length_cons];omega,fun x hx=>?_⟩;rcases List.mem_cons.1 hx with rfl|hx
   ·omega
   ·have:=ih.2 x hx;omega
def Great16 (l:List (List Nat))(w:World)(e:Ending)(w':World):Prop:=∃ g:Bool,e=.returned (.bool g)∧(g=false→wgN l≤20000)∧Below w.heap.size w w'
theorem ztl (A:Option Addr)(n c:Nat)(l:List (List Nat))(w:World)(hl:Recs 140737488355328 w w.heap.size A n l)(hn:n≤140737488355328):Calls Tryz.prog 9 #[.slice A n c] w (Great16 l w):=by
 have HL:=hiD hl;have HLN:=hiD hl.1;have HN:=hiD hn;clear hl hn;go_enter Tryz.func9,Tryz.ntmps9
 go_wp2_with fail
 go_loopw [3,4] (fun x3 x4 wx=>∃ (i N:Nat),i≤n∧x3=.int .i64 (N:Int)∧x4=.int .i64 (i:Int)∧wgN (l.take i)=N∧N≤200000000000000∧Below w.heap.size w wx) (fun _ x4 _=>n-(intOf x4).toNat)
 case atStart=>exact⟨0,0,Nat.zero_le _,rfl,rfl,rfl,by omega,Below.refl _ _⟩
 case round =>
  obtain⟨i,N,hi,rfl,rfl,hw,hN,hb⟩:=hrel;obtain⟨wo,rfl⟩:∃ wo,wo=wr:=⟨_,rfl⟩;have HW:=hiD hw;have HB:=hiD hb;have HI:=hiD hi;clear hw hb hi;by_cases hlt:i<n
  ·have hlt':(i:Int)<(n:Int):=by omega
   by_cases h4:N≤40000
   ·have h4':(N:Int)≤40000:=by omega
    obtain⟨eb,eo,A',n',c',rfl,heb,hcell,hnc,hcm,hn',hby⟩:=(HL.o.later HB.o).at_ hlt;have hi0:(0:Int)≤(i:Int):=by omega
    have e1:IntKind.i64.wrap ((N:Int)+100)=(N:Int)+100:=IntWalk.i64_in _ (by omega);have e2:IntKind.i64.wrap ((N:Int)+100+(n':Int))=(N:Int)+100+(n':Int):=IntWalk.i64_in _ (by omega);have e3:IntKind.i64.wrap ((i:Int)+1)=(i:Int)+1:=IntWalk.i64_in _ (by have:=HN.o;omega)
    have HF:Hid (wgN (l.take (i+1))=N+100+n'):=hiD (by
     rw[zcf (by have:=HLN.o;omega),z92,HW.o,hby.1];omega)
    have HN2:Hid (N+100+n'≤200000000000000):=hiD (by omega);have HLT:=hiD hlt;clear hnc hcm hn' hby heb hlt;go_wp2_with fail
    go_roundw
    case rel=>exact⟨i+1,N+100+n',HLT.o,by first|rfl|go_num,by first|rfl|go_num,HF.o,HN2.o,HB.o⟩
    case measure=>have:=HLT.o;simp[intOf];omega
   ·have h4':¬ ((N:Int)≤40000):=by omega
    have h5:(20000:Int)<(N:Int):=by omega
    clear hlt;go_wp2_with fail
    go_ret;exact⟨true,rfl,fun h=>(by cases h),HB.o⟩
  ·have hlt':¬ ((i:Int)<(n:Int)):=by omega
   have hF:wgN l=N:=by
    have hin:i=n:=by have:=HI.o;omega
    rw[← HW.o,List.take_of_length_le (by have:=HLN.o;omega)]
   have HF:=hiD hF;clear hF hlt;by_cases h5:(20000:Int)<(N:Int)
   ·go_wp2_with fail
    go_ret;exact⟨true,by first|rfl|simp[h5],fun h=>(by cases h),HB.o⟩
   ·go_wp2_with fail
    go_ret;exact⟨false,by first|rfl|simp[h5],fun h=>(by rw[HF.o];omega),HB.o⟩
theorem ztm (M:Nat)(A A':Option Addr)(n c n' c' B B':Nat)(L L':List (List Nat))(w:World)(hl:Recs M w B A n L)(hl':Recs M w B' A' n' L')(hB:B≤w.heap.size)(hB':B'≤w.heap.size)(hn:n≤140737488355328)(hn':n'≤140737488355328) :
 Calls Tryz.prog 28 #[.slice A n c,.slice A' n' c'] w fun e w'=>e=.returned (.bool (decide (L=L')))∧Below w.heap.size w w':=by
 have HL:=hiD hl.1;have HL':=hiD hl'.1;by_cases hnn:n=n'
 ·subst hnn
  have hne:(((n:Nat):Int) != (n:Int))=false:=by simp
  go_enter Tryz.func28,Tryz.ntmps28
  go_wp2_with fail
  go_loopw [5] (fun i wr=>∃ k:Nat,k≤n∧i=.int .i64 k∧(∀ j,j<k→zp L j=zp L' j)∧Below w.heap.size w wr) (fun i _=>n-(intOf i).toNat)
  case atStart=>exact⟨0,Nat.zero_le _,rfl,fun j hj=>by omega,Below.refl _ _⟩
  case round =>
   obtain⟨k,hk,rfl,hsame,hb⟩:=hrel;have HB:=hiD hb;replace hl:=hl.below hb hB;replace hl':=hl'.below hb hB';clear hb;have HS:=hiD hsame;clear hsame;by_cases hlt:k<n
   ·obtain⟨b,o,A1,n1,c1,rfl,hbB,hcell,_,_,hn1,hby⟩:=hl.at_ hlt
    obtain⟨b',o',A2,n2,c2,rfl,hbB',hcell',_,_,hn2,hby'⟩:=hl'.at_ hlt;have hi1:(k:Int)<(n:Int):=by omega
    by_cases hd:zp L k=zp L' k
    ·have HD:=hiD hd
     have hcall:∀ m:Nat,Calls Tryz.prog 26 #[.slice A1 n1 c1,.slice A2 n2 c2] (wr.drewN m) fun e w'=>e=.returned (.bool true)∧w'=wr.drewN m:=fun m=>by
      have:=zd8 A1 n1 c1 _ _ A2 n2 c2 _ _ (wr.drewN m) (hby.drewN m) (hby'.drewN m);rw[decide_eq_true hd] at this;exact this.mono (fun _ _ h=>⟨h.1,h.2.symm⟩)
     clear hd;go_wp2_with fail
     go_quiet ((go_at_call 26;with_reducible exact Calls.quiet_of_same (hcall _)))
     go_wp2
     go_round
     case rel=>exact⟨k+1,by omega,by go_num,(fun j hj=>by
      by_cases hjk:j=k
      ·subst hjk;exact HD.o
      ·exact HS.o j (by omega)),by first|exact HB.o|exact HB.o.drew|(have:=HB.o;exact⟨this.os,this.tape,this.output,this.size,this.block⟩)⟩
     case measure=>simp[intOf];omega
    ·have HD:Hid (decide (L=L')=false):=hiD (decide_eq_false (fun h=>hd (by rw[h])))
     have hcall:∀ m:Nat,Calls Tryz.prog 26 #[.slice A1 n1 c1,.slice A2 n2 c2] (wr.drewN m) fun e w'=>e=.returned (.bool false)∧w'=wr.drewN m:=fun m=>by
      have:=zd8 A1 n1 c1 _ _ A2 n2 c2 _ _ (wr.drewN m) (hby.drewN m) (hby'.drewN m);rw[decide_eq_false hd] at this;exact this.mono (fun _ _ h=>⟨h.1,h.2.symm⟩)
     clear hd;go_wp2_with fail
     go_quiet ((go_at_call 26;with_reducible exact Calls.quiet_of_same (hcall _)))
     go_wp2
     go_ret;exact⟨by rw[HD.o];rfl,by first|exact Below.refl _ _|exact HB.o|exact HB.o.drew|(have:=HB.o;exact⟨this.os,this.tape,this.output,this.size,this.block⟩)⟩
   ·have HD : Hid (decide (L = L') = true) := hiD (decide_eq_true (by
     have h1:=HL.o;have h2:=HL'.o;refine List.ext_getElem (by omega) fun j hj hj'=>?_;have:=HS.o j (by omega)
     simpa [zp,hj,hj'] using this))
    have hi1:¬ (k:Int)<(n:Int):=by omega
    go_wp2
    go_ret;exact⟨by rw[HD.o];rfl,by first|exact Below.refl _ _|exact HB.o|exact HB.o.drew|(have:=HB.o;exact⟨this.os,this.tape,this.output,this.size,this.block⟩)⟩
 ·have HD:Hid (decide (L=L')=false):=hiD (decide_eq_false (fun h=>hnn (by rw[← HL.o,← HL'.o,h])))
  have hne:(((n:Nat):Int) != (n':Int))=true:=by simp;omega
  go_enter Tryz.func28,Tryz.ntmps28
  go_wp2
  go_ret;exact⟨by rw[HD.o];rfl,by first|exact Below.refl _ _|exact HB.o|exact HB.o.drew|(have:=HB.o;exact⟨this.os,this.tape,this.output,this.size,this.block⟩)⟩
end Go.Proofs.YtmjjefnmabbgdaaGreatDoor
