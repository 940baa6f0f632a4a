/- A part of the proof. -/
import Derived.Test.YtmjjefnmabbgdaaGreatDoorSRecH
namespace Go.Proofs.YtmjjefnmabbgdaaGreatDoor
set_option linter.unusedVariables false
set_option linter.unusedSimpArgs false
set_option maxRecDepth 100000
set_option maxHeartbeats 16000000
open Go.RowKit
theorem z9b (c:Ch)(w:World)(hc:c.Ok):Calls Tryz.prog 85 #[.agg (chC c)] w fun e w'=>e=.returned (.bool (zcs c))∧Below w.heap.size w w':=by
 have HC:=hiD hc;clear hc;go_enter Tryz.func85,Tryz.ntmps85
 go_wp2_with (with_reducible refine stn 3 ?_)
 refine held (qk (fun W=>Bk W w.heap.size 27 (chC c)∧Below w.heap.size w W) ⟨Bk.new _ _ _,(Below.refl _ _).alloc (Nat.le_refl _) _⟩ ?_);rintro W ⟨q1,q2⟩;have c32:W.cell? ⟨w.heap.size,32,none⟩=some (.int .i64 c.count):=q1.count HC.o;have Q2:=hiD q2;clear q1 q2;have HR:Hid (zcs c=(decide (0≤c.count) && decide (c.count≤1099511627776))):=hiD rfl;obtain⟨n,hn⟩:∃ n,c.count=n:=⟨_,rfl⟩;rw[hn] at c32 HR;clear hn;by_cases h0:0≤n
 case neg =>
  have HR2:Hid (zcs c=false):=hiD (by rw[HR.o,decide_eq_false h0];rfl);go_wp2_with fail
  go_ret;exact⟨by rw[HR2.o];rfl,Q2.o⟩
 by_cases h1:n≤1099511627776
 case neg =>
  have HR2:Hid (zcs c=false):=hiD (by rw[HR.o,decide_eq_true h0,decide_eq_false h1];rfl);go_wp2_with fail
  go_ret;exact⟨by rw[HR2.o];rfl,Q2.o⟩
 have HR2:Hid (zcs c=true):=hiD (by rw[HR.o,decide_eq_true h0,decide_eq_true h1];rfl);go_wp2_with fail
 go_ret;exact⟨by rw[HR2.o];rfl,Q2.o⟩
theorem ztd (c:Ch)(h:Eh)(w:World)(hc:c.Ok)(Hh:EvIn w w.heap.size h)(hK:Kinds w)(ht:Tabs w):Calls Tryz.prog 44 #[.agg (chC c),.agg (evC h)] w (NextIs c h w):=by
 have hmx:Tryz.prog.follows .mixedOrders=true:=by kernel_rfl
 have HC:=hiD hc;have HH:=hiD Hh;have HK:=hiD hK;have HT:=hiD ht;clear hc Hh hK ht;go_enter Tryz.func44,Tryz.ntmps44
 go_wp2_with (with_reducible refine stn 11 ?_)
 refine held (qk (fun W=>Bk W w.heap.size 27 (chC c)∧Bk W (w.heap.size+1) 50 (evC h)∧Bk W (w.heap.size+1+1) 27 (chC ch0)∧Below w.heap.size w W) ⟨((Bk.new _ _ _).alloc _).alloc _,(Bk.new2 _ _ _ _).alloc _,Bk.new3 _ _ _ _ _,(((Below.refl _ _).alloc (Nat.le_refl _) _).alloc (by simp) _).alloc (by simp;omega) _⟩ ?_);rintro W ⟨q1,q2,q3,q4⟩;have Q:=hiD (And.intro q1 (And.intro q2 (And.intro q3 q4)));clear q1 q2 q3 q4;refine wpList_load_mid rfl 50 (.tmp 3) rfl (w.heap.size+1) 0 rfl _ _ Q.o.2.1.range Tryz.underlying50 rfl (by kernel_rfl) ?_;go_wp2_with fail
 refine(z0p h W (HH.o.later Q.o.2.2.2)).mono ?_;rintro e W1 ⟨A1,N1,c1,rfl,ho,hb⟩;have R:=hiD (NxAt.next Q.o hb);have RO:=hiD (ho.base_le Q.o.2.2.2.size);clear ho hb Q;obtain⟨ez,hez⟩:∃ ez,encE h.e=ez:=⟨_,rfl⟩;have HEZ:=hiD hez;rw[hez];clear hez;go_wp2_with (with_reducible refine stn 16 ?_)
 refine held (wpList_load_mid rfl 27 (.tmp 2) rfl w.heap.size 0 rfl _ _ R.o.1.range Tryz.underlying27 rfl (zcd HC.o) ?_);go_wp2_with fail
 refine(z9b c W1 HC.o).mono ?_;rintro e W2 ⟨rfl,hb⟩;have S:=hiD (NxAt.next R.o hb);have SO:=hiD (RO.o.below hb);clear hb R RO;obtain⟨r,hr⟩:∃ r,zcs c=r:=⟨_,rfl⟩;have HR:=hiD hr;rw[hr];clear hr;cases r
 case false =>
  have HE:Hid (qx c h.e=1):=hiD (by unfold qx;rw[if_neg (by rw[HR.o];simp)]);have HB:Hid (zal c h.e=[]):=hiD (by unfold zal;rw[HE.o,if_neg (by decide)]);have HCC:Hid (jt c h.e=ch0):=hiD (by unfold jt;rw[HE.o,if_neg (by decide)]);go_wp2_with (with_reducible refine stn 23 ?_)
  refine held (j9 rfl 27 #[] rfl [] rfl (chC ch0) zak ?_);go_wp2_with (with_reducible refine st0 ?_)
  refine held (zi rfl 27 (.tmp 5) (.tmp 23) rfl (w.heap.size+1+1) 0 (chC ch0) rfl rfl 27 _ S.o.2.2.1 (Nat.le_refl _) (info_ch' zj) (zt _) ?_);intro w10 hw10;obtain rfl:=q9 hw10 zj zj;go_wp2_with fail
  exact bodyPost_ret (zhm rfl _ _ ⟨w.heap.size+1+1,0,none⟩ _ _ _ rfl rfl rfl (Bk.ch (Bk.setRow_same S.o.2.2.1 _) zj)) rfl ⟨none,0,0,by rw[HE.o,HCC.o];rfl,by rw[HB.o];exact OwnB.nil,below_setRow S.o.2.2.2 (by omega) _⟩
 case true =>
 by_cases hz:ez=0
 case neg =>
  have HE:Hid (qx c h.e=1):=hiD (by unfold qx;rw[if_neg (by rw[HEZ.o];exact fun hh=>hz hh.2)]);have HB:Hid (zal c h.e=[]):=hiD (by unfold zal;rw[HE.o,if_neg (by decide)]);have HCC:Hid (jt c h.e=ch0):=hiD (by unfold jt;rw[HE.o,if_neg (by decide)]);have hne:(((ez:Nat):Int) != 0)=true:=by simpa using hz
  clear hz;go_wp2_with (with_reducible refine stn 23 ?_)
  refine held (j9 rfl 27 #[] rfl [] rfl (chC ch0) zak ?_);go_wp2_with (with_reducible refine st0 ?_)
  refine held (zi rfl 27 (.tmp 5) (.tmp 23) rfl (w.heap.size+1+1) 0 (chC ch0) rfl rfl 27 _ S.o.2.2.1 (Nat.le_refl _) (info_ch' zj) (zt _) ?_);intro w10 hw10;obtain rfl:=q9 hw10 zj zj;go_wp2_with fail
  exact bodyPost_ret (zhm rfl _ _ ⟨w.heap.size+1+1,0,none⟩ _ _ _ rfl rfl rfl (Bk.ch (Bk.setRow_same S.o.2.2.1 _) zj)) rfl ⟨none,0,0,by rw[HE.o,HCC.o];rfl,by rw[HB.o];exact OwnB.nil,below_setRow S.o.2.2.2 (by omega) _⟩
 subst hz;have HRC:=hiD ((zmu c).1 HR.o);have HEV:=hiD (zmv HEZ.o);have c32:W2.cell? ⟨w.heap.size,32,none⟩=some (.int .i64 c.count):=S.o.1.count HC.o;obtain⟨z,hz⟩:∃ z,c.count=z:=⟨_,rfl⟩;have HZ:=hiD hz;rw[hz] at c32;clear hz;by_cases hm:z=1099511627776
 case pos =>
  have HE:Hid (qx c h.e=15):=hiD (by unfold qx;rw[if_pos ⟨HR.o,HEZ.o⟩,HZ.o,if_pos hm]);have HB:Hid (zal c h.e=[]):=hiD (by unfold zal;rw[HE.o,if_neg (by decide)]);have HCC:Hid (jt c h.e=ch0):=hiD (by unfold jt;rw[HE.o,if_neg (by decide)]);go_wp2_with (with_reducible refine stn 28 ?_)
  refine held (j9 rfl 27 #[] rfl [] rfl (chC ch0) zak ?_);go_wp2_with (with_reducible refine st0 ?_)
  refine held (zi rfl 27 (.tmp 5) (.tmp 28) rfl (w.heap.size+1+1) 0 (chC ch0) rfl rfl 27 _ S.o.2.2.1 (Nat.le_refl _) (info_ch' zj) (zt _) ?_);intro w10 hw10;obtain rfl:=q9 hw10 zj zj;go_wp2_with fail
  exact bodyPost_ret (zhm rfl _ _ ⟨w.heap.size+1+1,0,none⟩ _ _ _ rfl rfl rfl (Bk.ch (Bk.setRow_same S.o.2.2.1 _) zj)) rfl ⟨none,0,0,by rw[HE.o,HCC.o];rfl,by rw[HB.o];exact OwnB.nil,below_setRow S.o.2.2.2 (by omega) _⟩
 have HE:Hid (qx c h.e=0):=hiD (by unfold qx;rw[if_pos ⟨HR.o,HEZ.o⟩,HZ.o,if_neg hm]);have HB:Hid (zal c h.e=recB c h.e):=hiD (if_pos HE.o);have HCC:Hid (jt c h.e=qw c (recB c h.e)):=hiD (if_pos HE.o);have HLZ:Hid (0≤z∧z<1099511627776):=hiD (by have:=HRC.o;rw[HZ.o] at this;exact⟨this.1,by omega⟩);have HW:=hiD (IntWalk.i64_in (z+1) (by have:=HLZ.o;omega));have hN1:N1≤20016:=by have h1:=SO.o.len;rw[HEV.o.2] at h1;have:=(zpr HEV.o.1).2;omega
 have HN1:=hiD hN1;go_wp2_with fail
 clear c32 hN1 hm;refine wp_region_held_drew (S:=fun W'=>NxAt w c h W') hmx (NxAt.drew S.o) (fun qch=>?_);have SO2:=hiD (SO.o.below (Below.refl _ _).drew);clear S SO;have SO:=SO2;clear SO2;generalize hW0:W2.drew=W3 at *;clear hW0;simp only[List.size_toArray,List.length_cons,List.length_nil,Nat.reduceAdd];have HL:Hid (w.heap.size<W3.heap.size):=hiD qch.1.lt;have HB3:Hid (w.heap.size+1+1<W3.heap.size):=hiD qch.2.2.1.lt;refine tks (i:=0) (v:=.pointer (some ⟨w.heap.size,0,none⟩)) (s:=qch) (h:=?_);try simp only[nm0]
 refine tks (i:=1) (v:=.slice (some ⟨w.heap.size,0,none⟩) 32 32) (s:=qch) (h:=?_);try simp only[nm0]
 refine tks (i:=2) (v:=.pointer (some ⟨w.heap.size,32,none⟩)) (s:=qch) (h:=?_);try simp only[nm0]
 refine tkx (i:=3) (v:=.int .i64 z) (x:=fun w0 hC=>by simp[execOp,Act.eval,Act.put,go_sem,hC.1.count HC.o,HZ.o]) (s:=qch) (h:=?_);try simp only[nm0]
 refine tkx (i:=4) (v:=.int .i64 (z+1)) (x:=fun w0 hC=>by simp[execOp,Act.eval,Act.put,go_sem,HW.o]) (s:=qch) (h:=?_);try simp only[nm0]
 refine tks (i:=6) (v:=.slice A1 N1 c1) (s:=qch) (h:=?_);try simp only[nm0]
 refine rd1 (r:=5) (h:=fun K hK=>?_);go_wp2_with fail
 refine(zb7 (some ⟨w.heap.size,0,none⟩) 32 32 (z+1) c.head W3 (qch.1.headBytes HC.o HL.o) (by omega)).mono ?_;rintro e W4 ⟨A2,c2,rfl,ho2,hb2⟩;have HO2:Hid (OwnB W4 W3.heap.size 5 A2 40 c2 (c.head++encB 8 (qt (z+1)))):=hiD ho2;have hS:=NxAt.next qch hb2;have SO4:=hiD (SO.o.below hb2);have HBS:Hid (W3.heap.size≤W4.heap.size):=hiD (hb2.size);clear qch hb2 ho2 SO;refine bkk hK hS fun qch=>?_;clear hK K;try simp only[nm0]
 clear hS;obtain⟨A3,c3,W5,hrun,ho3,hb3,_⟩:=zok (c':=c1) HO2.o 48 48 Tryz.underlying48 zaq SO4.o.bytes (by have:=HN1.o;omega) HBS.o
 have HO3:Hid (OwnB W5 W3.heap.size 5 A3 (40+N1) c3 (recB c h.e)):=hiD (by
  have h9:=ho3;rw[HEV.o.2] at h9;unfold recB;rw[HZ.o]
  exact h9)
 have HRUN:=hiD hrun;have hS:=NxAt.under qch hb3 HB3.o;clear hrun ho3 hb3 qch HO2 SO4;refine rd1 (r:=7) (h:=fun K hK=>?_);refine jv (s:=.tmp 34) (x:=.tmp 35) rfl rfl rfl HRUN.o ?_;refine bkk hK hS fun qch=>?_;clear hK K;try simp only[nm0]
 clear hS HRUN;refine rd1 (r:=8) (h:=fun K hK=>?_);go_wp2_with fail
 have hS:=qch;clear qch;refine bkk hK hS fun qch=>?_;clear hK K;try simp only[nm0]
 clear hS;refine wpAnyH_done (by kernel_rfl) ?_ _;have S:=hiD qch;clear qch;go_wp2_with fail
 have K5:=hiD (S.o.2.2.1.drew);have KO:=hiD (HO3.o.below (Below.refl _ _).drew);refine wp_region_held_drew (S:=fun W'=>Bk W' w.heap.size 27 (chC c)∧Below w.heap.size w W') hmx ⟨S.o.1.drew,S.o.2.2.2.drew⟩ (fun qch=>?_);clear S HO3;generalize hW0:W5.drew=W6 at *;clear hW0;simp only[List.size_toArray,List.length_cons,List.length_nil,Nat.reduceAdd];refine tks (i:=0) (v:=.slice A3 (40+N1) c3) (s:=qch) (h:=?_);try simp only[nm0]
 refine tks (i:=1) (v:=.slice A3 (40+N1) c3) (s:=qch) (h:=?_);try simp only[nm0]
 refine tks (i:=3) (v:=.pointer (some ⟨w.heap.size,32,none⟩)) (s:=qch) (h:=?_);try simp only[nm0]
 refine tkx (i:=4) (v:=.int .i64 z) (x:=fun w0 hC=>by simp[execOp,Act.eval,Act.put,go_sem,hC.1.count HC.o,HZ.o]) (s:=qch) (h:=?_);try simp only[nm0]
 refine tkx (i:=5) (v:=.int .i64 (z+1)) (x:=fun w0 hC=>by simp[execOp,Act.eval,Act.put,go_sem,HW.o]) (s:=qch) (h:=?_);try simp only[nm0]
 refine rd1 (r:=2) (h:=fun K hK=>?_);go_wp2_with fail
 refine(zez A3 (40+N1) c3 W6.heap.size (recB c h.e) W6 KO.o.bytes (Nat.le_refl _) (by have:=HN1.o;omega)).mono ?_;rintro e W7 ⟨rfl,hb⟩;have hS:=And.intro (qch.1.below hb qch.1.lt) (qch.2.trans (hb.mono qch.2.size));have L5:=hiD (K5.o.below hb K5.o.lt);have LO:=hiD (KO.o.below hb);clear qch hb K5 KO;refine bkk hK hS fun qch=>?_;clear hK K;try simp only[nm0]
 clear hS;refine tkx (i:=6) (v:=.agg (chC (qw c (recB c h.e)))) (x:=fun w0 hC=>zev rfl rfl (by rw[← HZ.o];exact zhl _ (zc5 _))) (s:=qch) (h:=?_);try simp only[nm0]
 refine rd1 (r:=7) (h:=fun K hK=>?_);go_wp2_with fail
 have hS:=qch;clear qch;refine bkk hK hS fun qch=>?_;clear hK K;try simp only[nm0]
 clear hS;refine rd1 (r:=8) (h:=fun K hK=>?_);have hS:Bk (W7.setRow (w.heap.size+1+1) (chC (qw c (recB c h.e)))) w.heap.size 27 (chC c)∧Below w.heap.size w (W7.setRow (w.heap.size+1+1) (chC (qw c (recB c h.e)))):=⟨qch.1.setRow_other (by omega) _,below_setRow qch.2 (by omega) _⟩;have M5:=hiD (L5.o.setRow_same (chC (qw c (recB c h.e))));have MO:=hiD ((znn LO.o HB3.o (chC (qw c (recB c h.e)))).base_le (by have:=HB3.o;omega:w.heap.size≤W3.heap.size));refine qh (ql rfl rfl rfl L5.o (by rw[zx (zb3 _ _)];rfl) (info_ch' (zb3 _ _)) (zt _)) ?_;clear qch L5 LO;refine bkk hK hS fun qch=>?_;clear hK K;try simp only[nm0]
 clear hS;refine rd1 (r:=9) (h:=fun K hK=>?_);go_wp2_with fail
 have hS:=qch;clear qch;refine bkk hK hS fun qch=>?_;clear hK K;try simp only[nm0]
 clear hS;refine wpAnyH_done (by kernel_rfl) ?_ _;go_wp2_with fail
 exact bodyPost_ret (zhm rfl _ _ ⟨w.heap.size+1+1,0,none⟩ _ _ _ rfl rfl rfl (Bk.ch M5.o (zb3 _ _))) rfl ⟨A3,40+N1,c3,by rw[HE.o,HCC.o];rfl,by rw[HB.o];exact MO.o,qch.2⟩
theorem zte {l:List Ev}{i:Nat}{x:Ev}(hi:l[i]?=some x):alL (l.take (i+1))=zct (alL (l.take i)) x:=by
 rw[List.take_add_one,hi];exact zng _ _
def VRecs (w:World)(lo:Nat)(us:List Value)(ls:List (List Nat)):Prop :=
 us.length=ls.length∧∀ (i:Nat),i<ls.length→∃ A n c,us[i]?=some (.slice A n c)∧n≤1000000∧OwnB w lo 5 A n c (zp ls i)
theorem VRecs.nil (w:World)(lo:Nat):VRecs w lo [] []:=⟨rfl,fun i hi=>absurd hi (Nat.not_lt_zero _)⟩
theorem VRecs.below {w w':World}{lo:Nat}{us:List Value}{ls:List (List Nat)}(h:VRecs w lo us ls)(hb:Below w.heap.size w w'):VRecs w' lo us ls :=
 ⟨h.1,fun i hi=>by
  obtain⟨A,n,c,h1,h2,h3⟩:=h.2 i hi
  exact⟨A,n,c,h1,h2,h3.below hb⟩⟩
theorem VRecs.keptR {w w':World}{lo base n1 c1 k:Nat}{e1:TypeId}{A1:Option Addr}{l1:List Value}{us:List Value}{ls:List (List Nat)}(h:VRecs w lo us ls)(h1:w.ownsRow base e1 k (.slice A1 n1 c1) n1 l1)(hne:e1≠5)(hg:w.grownBy w' (Value.slice A1 n1 c1).ownBlock):VRecs w' lo us ls :=
 ⟨h.1,fun i hi=>by
  obtain⟨A,n,c,q1,q2,q3⟩:=h.2 i hi
  exact⟨A,n,c,q1,q2,q3.1.kept hg (zhg h1 q3.1 hne),q3.2⟩⟩
theorem VRecs.put {w:World}{lo g:Nat}{t:TypeId}{cs:Array Value}{us:List Value}{ls:List (List Nat)}(h:VRecs w lo us ls)(hk:Bk w g t cs)(hne:5≠t)(cs':Array Value):VRecs (w.setRow g cs') lo us ls :=
 ⟨h.1,fun i hi=>by
  obtain⟨A,n,c,q1,q2,q3⟩:=h.2 i hi
  exact⟨A,n,c,q1,q2,zhh q3 hk hne cs'⟩⟩
theorem VRecs.snoc {w:World}{lo:Nat}{us:List Value}{ls:List (List Nat)}(h:VRecs w lo us ls){A:Option Addr}{n c:Nat}{r:List Nat}(h1:n≤1000000)(h4:OwnB w lo 5 A n c r):VRecs w lo (us++[.slice A n c]) (ls++[r]):=by
 refine⟨by rw[List.length_append,List.length_append,h.1];rfl,fun i hi=>?_⟩;rw[List.length_append] at hi;simp only[List.length_singleton] at hi;by_cases hil:i<ls.length
 ·rw[List.getElem?_append_left (by rw[h.1];exact hil)]
  rw[show zp (ls++[r]) i=zp ls i by unfold zp;rw[List.getD_eq_getElem?_getD,List.getD_eq_getElem?_getD,List.getElem?_append_left hil]];exact h.2 i hil
 ·obtain rfl:i=ls.length:=by omega
  rw[List.getElem?_append_right (by rw[h.1];exact Nat.le_refl _),h.1,Nat.sub_self];rw[show zp (ls++[r]) ls.length=r by unfold zp;rw[List.getD_eq_getElem?_getD,List.getElem?_append_right (Nat.le_refl _),Nat.sub_self];rfl];exact⟨A,n,c,rfl,h1,h4⟩
theorem VRecs.recs {w:World}{lo base n c:Nat}{A:Option Addr}{us:List Value}{ls:List (List Nat)}(h:VRecs w lo us ls)(ho:OwnK 1 oneV w base 48 A n c us):Recs 1000000 w w.heap.size A n ls:=by
 refine⟨by rw[← h.1];exact ho.len,fun hn=>?_⟩;obtain⟨g,hA,hgb,hgl,hr⟩:=ho.range hn;refine⟨g,0,hA,hgl,fun i hi=>?_⟩;obtain⟨A',n',c',q1,q2,q3⟩:=h.2 i (by rw[← h.1,ho.len];exact hi);have hc:=hr i _ q1 0 _ rfl;refine⟨A',n',c',?_,q3.cap.1,q3.cap.2,q2,q3.bytes⟩
 simpa using hc
def AllIs (l:List Ev)(w:World)(e:Ending)(w':World):Prop :=
 ∃ A n c us,e=.returned (.slice A n c)∧OwnK 1 oneV w' w.heap.size 48 A n c us∧VRecs w' w.heap.size us (alL l).l∧Below w.heap.size w w'
structure AG (w:World)(b:Nat)(a:Al)(A:Option Addr)(n c:Nat)(us:List Value)(W:World):Prop where
 k4:Bk W b 27 (chC a.c)
 own:OwnK 1 oneV W b 48 A n c us
 rec_:VRecs W b us a.l
 hb:Below b w W
theorem AG.next {w W W':World}{b:Nat}{a:Al}{A:Option Addr}{n c:Nat}{us:List Value}(h:AG w b a A n c us W)(hb:Below W.heap.size W W'):AG w b a A n c us W' :=
 ⟨h.k4.below hb h.k4.lt,h.own.below hb,h.rec_.below hb,h.hb.trans (hb.mono (Nat.le_of_lt h.k4.lt))⟩
theorem AG.app {w W:World}{b:Nat}{a:Al}{A:Option Addr}{n c s:Nat}{us:List Value}{A9:Option Addr}{N9 k9:Nat}{r:List Nat}(h:AG w b a A n c us W)(hs:Bk W s 48 #[.slice A9 N9 k9])(ho:OwnB W b 5 A9 N9 k9 r)(hN:N9≤1000000)(hn:n≤100000)(ty:TypeId) :
 ∃ A' c' W',(Builtin.append_ #[22,22] ty #[.slice A n c,.slice (some ⟨s,0,none⟩) 1 1]).run Tryz.prog W=.ok (.slice A' (n+1) c') W'∧AG w b ⟨a.l++[r],a.c,a.v⟩ A' (n+1) c' (us++[.slice A9 N9 k9]) W'∧(∀ (q:Nat) (t:TypeId) (cs:Array Value),t≠48→Bk W q t cs→Bk W' q t cs):=by
 obtain⟨A2,c2,w',hrun,hown,hb,hg⟩:=zbb (P:=Tryz.prog) (c':=1) h.own 22 ty Tryz.underlying22 zl6 rfl (by omega) (by omega) (us:=[.slice A9 N9 k9]) (A':=some ⟨s,0,none⟩) (m:=1) (B:=s+1) (by
  refine⟨rfl,fun _=>⟨s,0,rfl,by omega,fun i u hi=>?_⟩⟩;obtain rfl:i=0:=by have:=(List.getElem?_eq_some_iff.1 hi).1;simpa using this
  cases hi
  intro j v hj;obtain rfl:j=0:=by have:=(List.getElem?_eq_some_iff.1 hj).1;simpa [oneV] using this
  cases hj
  exact hs.cell 0) (fun u hu v hv=>by rw[List.mem_singleton.1 hu] at hv;rw[List.mem_singleton.1 hv];rfl) (by omega) (Nat.le_of_lt h.k4.lt)
 have hkeep:∀ (q:Nat) (t:TypeId) (cs:Array Value),t≠48→Bk W q t cs→Bk w' q t cs:=fun q t cs hne hk=>by
  refine hk.keptR hg (fun he=>?_);rcases h.own.1.2 with ⟨hv,_⟩|⟨g2,cap2,cur2,hv2,_,hh2,_⟩
  ·rw[hv] at he;simp[Value.ownBlock] at he
  ·rw[hv2] at he
   have e2:q=g2:=by simpa [Value.ownBlock] using he
   subst e2;have hk':W.heap[q]?=some (.cells cs t (0,0)):=hk;rw[hh2] at hk';injection hk' with hk';injection hk' with _ x _;exact hne x.symm
 exact⟨A2,c2,w',hrun,⟨hkeep _ _ _ (by decide) h.k4,hown,(h.rec_.keptR h.own.1 (by decide) hg).snoc hN ⟨ho.1.kept hg (zhg h.own.1 ho.1 (by decide)),ho.2⟩,h.hb.trans hb⟩,hkeep⟩
theorem AG.store {w W:World}{b:Nat}{a:Al}{A:Option Addr}{n c:Nat}{us:List Value}(h:AG w b a A n c us W)(y:Ch)(v:List Ev):AG w b ⟨a.l,y,v⟩ A n c us (W.setRow b (chC y)) :=
 ⟨h.k4.setRow_same _,h.own.put15 h.k4 (by decide) _,h.rec_.put h.k4 (by decide) _,below_setRow h.hb (Nat.le_refl _) _⟩
def NxGot16 (W2:World)(cur:Ch)(e:Ev)(A9:Option Addr)(N9 k9 b10:Nat)(W:World):Prop :=
 Bk W b10 27 (chC (jt cur e))∧OwnB W W2.heap.size 5 A9 N9 k9 (zal cur e)∧W2.heap.size≤b10∧Below W2.heap.size W2 W
theorem zi6 (A:Option Addr)(n c:Nat)(l:List Eh)(w:World)(hl:EvsIn w w.heap.size A n l)(hn:n≤100000)(hK:Kinds w)(ht:Tabs w) :
 Calls Tryz.prog 23 #[.slice A n c] w (AllIs (l.map Eh.e) w):=by
 have hmx:Tryz.prog.follows .mixedOrders=true:=by kernel_rfl
 have HL:=hiD hl;have HK:=hiD hK;have HT:=hiD ht;have HN:=hiD hn;have HLN:Hid (l.length=n):=hiD hl.1.1;clear hl hK ht hn;go_enter Tryz.func23,Tryz.ntmps23
 go_wp2_with fail
 have R0:Hid (AG w w.heap.size al0 none 0 0 [] (w.alloc (.cells (chC ch0) 27))):=hiD ⟨Bk.new _ _ _,OwnK.nil zl5,VRecs.nil _ _,(Below.refl _ _).alloc (Nat.le_refl _) _⟩;obtain⟨b,hb0⟩:∃ b,w.heap.size=b:=⟨_,rfl⟩;have HB:=hiD hb0;rw[hb0] at R0
 try rw[hb0]
 clear hb0
 go_loopw [3,5] (fun x3 x5 wx=>∃ (i m:Nat) (A3:Option Addr) (c3:Nat) (us:List Value),i≤n∧m≤i∧x3=.slice A3 m c3∧x5=.int .i64 (i:Int)∧(alL ((l.map Eh.e).take i)).c.Ok∧AG w b (alL ((l.map Eh.e).take i)) A3 m c3 us wx) (fun _ x5 _=>n-(intOf x5).toNat)
 case atStart=>exact⟨0,0,none,0,[],Nat.zero_le _,Nat.le_refl _,rfl,rfl,zj,R0.o⟩
 case round =>
  obtain⟨i,m,A3,c3,us,hi,hm,rfl,rfl,hok,hr⟩:=hrel;obtain⟨wo,rfl⟩:∃ wo,wo=wr:=⟨_,rfl⟩;obtain⟨a,ha⟩:∃ a,alL ((l.map Eh.e).take i)=a:=⟨_,rfl⟩;rw[ha] at hr hok;have H:=hiD hr;have HA:=hiD ha;have HOK:=hiD hok;have HI:=hiD (And.intro hi hm);clear hr R0 ha hok hi hm;by_cases hlt:i<n
  ·have hbel:Below w.heap.size w wo:=by have:=H.o.hb;rw[← HB.o] at this;exact this
   obtain⟨eb,eo,h,rfl,heb,hle,hrg,hin⟩:=(HL.o.later hbel).at_ hlt;have HRG:=hiD hrg;have HIN:=hiD hin;have HEB:=hiD heb;have HLE:Hid ((l.map Eh.e)[i]?=some h.e):=hiD (by rw[List.getElem?_map,hle];rfl);have HKW:=hiD (HK.o.below hbel);have HTW:=hiD (Tabs.later15 HT.o hbel);have hi0:(0:Int)≤(i:Int):=by omega
   have hin':(i:Int)<(n:Int):=by omega
   have HLT:=hiD hlt;clear hle hrg hin heb hbel;obtain⟨cur,hcur⟩:∃ cur,a.c=cur:=⟨_,rfl⟩;have HCU:=hiD hcur;have HCO:Hid cur.Ok:=hiD (by rw[← hcur];exact HOK.o);have HKC:Hid (Bk wo b 27 (chC cur)):=hiD (by rw[← hcur];exact H.o.k4);clear hcur;obtain⟨X,hX⟩:∃ X,jt cur h.e=X:=⟨_,rfl⟩;have HX:=hiD hX;have HXO:Hid X.Ok:=hiD (by rw[← hX];exact zmx cur h.e);clear hX;obtain⟨er,her⟩:∃ er,qx cur h.e=er:=⟨_,rfl⟩;have HER:=hiD her;clear her
   go_upto_region 6 with (fail)
   go_cut [6,7,8] (fun x6 x7 x8 wx=>∃ (A9:Option Addr) (N9 k9 b10:Nat),x6=.slice A9 N9 k9∧x7=.pointer (some ⟨b10,0,none⟩)∧x8=.int .i64 (er:Int)∧NxGot16 wo cur h.e A9 N9 k9 b10 wx)
   case first =>
    go_wp2_with fail
    refine wp_region_held_drew (S:=fun W'=>Below wo.heap.size wo W') hmx (Below.refl _ _).drew (fun qch=>?_);generalize hW0:wo.drew=V0 at *;clear hW0;simp only[List.size_toArray,List.length_cons,List.length_nil,Nat.reduceAdd];refine tkx (i:=0) (v:=.agg (chC cur)) (x:=fun w0 hC=>jc rfl rfl (HKC.o.below hC HKC.o.lt).range Tryz.underlying27 rfl (info_ch' HCO.o)) (s:=qch) (h:=?_);try simp only[nm0]
    refine tks (i:=1) (v:=.slice (some ⟨eb,eo,none⟩) n c) (s:=qch) (h:=?_);try simp only[nm0]
    refine tks (i:=2) (v:=.int .i64 (i:Int)) (s:=qch) (h:=?_);try simp only[nm0]
    refine tkx (i:=3) (v:=.pointer (some ⟨eb,eo+i*11,none⟩)) (x:=fun w0 hC=>by simp[execOp,Act.eval,Act.put,go_sem,hi0,hin',hlt]) (s:=qch) (h:=?_);try simp only[nm0]
    refine tkx (i:=4) (v:=.agg (evC h)) (x:=fun w0 hC=>jc rfl rfl (zja HRG.o hC HEB.o) Tryz.underlying50 rfl (by rw[zd];exact zr)) (s:=qch) (h:=?_);try simp only[nm0]
    clear hi0 hin' hlt;refine rd2 (r:=5) (s:=10) (h:=fun K hK=>?_) (k:=fun K hK=>?_)
    ·go_wp2_with fail
     refine(ztd cur h V0 HCO.o ((HIN.o.below qch (Nat.le_refl _)).more qch.size) (HKW.o.below qch) (Tabs.later15 HTW.o qch)).mono ?_;rintro e U1 ⟨A9,N9,k9,rfl,ho,hbc⟩;rw[HX.o,HER.o];have HO:=hiD (ho.base_le qch.size);have hS:=qch.trans (hbc.mono qch.size);clear qch ho hbc;refine bkk hK hS fun qch=>?_;clear hK K;try simp only[nm0]
     clear hS;refine tks (i:=6) (v:=.tuple #[.slice A9 N9 k9,.agg (chC X),.int .i64 (er:Int)]) (s:=qch) (h:=?_);try simp only[nm0]
     refine tks (i:=7) (v:=.slice A9 N9 k9) (s:=qch) (h:=?_);try simp only[nm0]
     refine tks (i:=8) (v:=.agg (chC X)) (s:=qch) (h:=?_);try simp only[nm0]
     refine tks (i:=9) (v:=.int .i64 (er:Int)) (s:=qch) (h:=?_);try simp only[nm0]
     refine rd1 (r:=10) (h:=fun K hK=>?_);go_wp2_with fail
     have HB10:Hid (wo.heap.size≤U1.heap.size):=hiD qch.size;refine jg (fun W=>Below wo.heap.size wo W∧Bk W U1.heap.size 27 (chC ch0)∧OwnB W wo.heap.size 5 A9 N9 k9 (zal cur h.e)) ⟨qch.alloc qch.size _,Bk.new _ _ _,HO.o.below ((Below.refl _ _).alloc (Nat.le_refl _) _)⟩ ?_;obtain⟨b10,hb10⟩:∃ b,U1.heap.size=b:=⟨_,rfl⟩;rw[hb10] at HB10 ⊢;clear hb10 qch HO;rintro U2 ⟨hS,q2,q3⟩;have K10:=hiD q2;have HO:=hiD q3;clear q2 q3;refine bkk hK hS fun qch=>?_;clear hK K;try simp only[nm0]
     clear hS;refine rd1 (r:=11) (h:=fun K hK=>?_);go_wp2_with fail
     have hS:=qch;clear qch;refine bkk hK hS fun qch=>?_;clear hK K;try simp only[nm0]
     clear hS;refine rd1 (r:=12) (h:=fun K hK=>?_);have hS:=below_setRow qch HB10.o (chC X);have K10b:=hiD (K10.o.setRow_same (chC X));have HOb:=hiD (zhh HO.o K10.o (by decide) (chC X));refine qh (ql rfl rfl rfl K10.o (by rw[zx HXO.o];rfl) (info_ch' HXO.o) (zt _)) ?_;clear qch K10 HO;refine bkk hK hS fun qch=>?_;clear hK K;try simp only[nm0]
     clear hS;refine rd1 (r:=13) (h:=fun K hK=>?_);go_wp2_with fail
     have hS:=qch;clear qch;refine bkk hK hS fun qch=>?_;clear hK K;try simp only[nm0]
     clear hS;refine wpAnyH_done (by kernel_rfl) ?_ _;go_wp2_with fail
     go_meet;exact⟨A9,N9,k9,b10,rfl,rfl,rfl,by rw[HX.o];exact K10b.o,HOb.o,HB10.o,qch⟩
    ·go_wp2_with fail
     have HB10:Hid (wo.heap.size≤V0.heap.size):=hiD qch.size;refine jg (fun W=>Below wo.heap.size wo W∧Bk W V0.heap.size 27 (chC ch0)) ⟨qch.alloc qch.size _,Bk.new _ _ _⟩ ?_;obtain⟨b10,hb10⟩:∃ b,V0.heap.size=b:=⟨_,rfl⟩;rw[hb10] at HB10 ⊢;clear hb10 qch;rintro U2 ⟨hS,q2⟩;have K10:=hiD q2;clear q2;refine bkk hK hS fun qch=>?_;clear hK K;try simp only[nm0]
     clear hS;refine rd1 (r:=5) (h:=fun K hK=>?_);go_wp2_with fail
     refine(ztd cur h U2 HCO.o ((HIN.o.below qch (Nat.le_refl _)).more qch.size) (HKW.o.below qch) (Tabs.later15 HTW.o qch)).mono ?_;rintro e U1 ⟨A9,N9,k9,rfl,ho,hbc⟩;rw[HX.o,HER.o];have HO:=hiD (ho.base_le qch.size);have hS:=qch.trans (hbc.mono qch.size);have K10:=hiD (K10.o.below hbc K10.o.lt);clear qch ho hbc;refine bkk hK hS fun qch=>?_;clear hK K;try simp only[nm0]
     clear hS;refine tks (i:=6) (v:=.tuple #[.slice A9 N9 k9,.agg (chC X),.int .i64 (er:Int)]) (s:=qch) (h:=?_);try simp only[nm0]
     refine tks (i:=7) (v:=.slice A9 N9 k9) (s:=qch) (h:=?_);try simp only[nm0]
     refine tks (i:=8) (v:=.agg (chC X)) (s:=qch) (h:=?_);try simp only[nm0]
     refine tks (i:=9) (v:=.int .i64 (er:Int)) (s:=qch) (h:=?_);try simp only[nm0]
     refine rd1 (r:=11) (h:=fun K hK=>?_);go_wp2_with fail
     have hS:=qch;clear qch;refine bkk hK hS fun qch=>?_;clear hK K;try simp only[nm0]
     clear hS;refine rd1 (r:=12) (h:=fun K hK=>?_);have hS:=below_setRow qch HB10.o (chC X);have K10b:=hiD (K10.o.setRow_same (chC X));have HOb:=hiD (zhh HO.o K10.o (by decide) (chC X));refine qh (ql rfl rfl rfl K10.o (by rw[zx HXO.o];rfl) (info_ch' HXO.o) (zt _)) ?_;clear qch K10 HO;refine bkk hK hS fun qch=>?_;clear hK K;try simp only[nm0]
     clear hS;refine rd1 (r:=13) (h:=fun K hK=>?_);go_wp2_with fail
     have hS:=qch;clear qch;refine bkk hK hS fun qch=>?_;clear hK K;try simp only[nm0]
     clear hS;refine wpAnyH_done (by kernel_rfl) ?_ _;go_wp2_with fail
     go_meet;exact⟨A9,N9,k9,b10,rfl,rfl,rfl,by rw[HX.o];exact K10b.o,HOb.o,HB10.o,qch⟩
   case rest =>
   obtain⟨A9,N9,k9,b10,rfl,rfl,rfl,hg⟩:=hcut;generalize wc=W3 at *;have G:=hiD hg;clear hg;have H3:=hiD (H.o.next G.o.2.2.2);have HBO:Hid (b<wo.heap.size):=hiD HKC.o.lt;clear H hi0 hin' hlt;by_cases he:er=0
   case neg =>
    have HF:Hid (alL ((l.map Eh.e).take (i+1))=a):=hiD (by rw[zte HLE.o,HA.o];exact znh (by rw[HCU.o,HER.o];exact he));have hne:((((er:Nat):Int)) == 0)=false:=by simpa using he
    clear he G;have hw1:IntKind.i64.wrap ((i:Int)+1)=(i:Int)+1:=IntWalk.i64_in _ (by have:=HLT.o;have:=HN.o;omega);go_wp2_with fail
    go_roundw
    case rel=>exact⟨i+1,m,A3,c3,us,HLT.o,by have:=HI.o.2;omega,rfl,by first|rfl|go_num,by rw[HF.o];exact HOK.o,by rw[HF.o];exact H3.o⟩
    case measure=>have:=HLT.o;simp[intOf];omega
   subst he;have HNB:Hid (zal cur h.e=recB cur h.e):=hiD (if_pos HER.o);have HF:Hid (alL ((l.map Eh.e).take (i+1))=⟨a.l++[recB cur h.e],X,a.v++[h.e]⟩):=hiD (by rw[zte HLE.o,HA.o,zed (by rw[HCU.o,HER.o]),HCU.o,HX.o,HNB.o]);have HO:Hid (OwnB W3 b 5 A9 N9 k9 (recB cur h.e)):=hiD (by have:=G.o.2.1;rw[HNB.o] at this;exact this.base_le (Nat.le_of_lt HBO.o))
   have HN9:Hid (N9≤1000000):=hiD (by
    have h1:=HO.o.len;rw[zmy HCO.o] at h1;have h2:=(zpr (zmw HER.o).2).2
    omega)
   have K10:Hid (Bk W3 b10 27 (chC X)):=hiD (by have:=G.o.1;rw[HX.o] at this;exact this);have HB10:Hid (b<b10):=hiD (Nat.lt_of_lt_of_le HBO.o G.o.2.2.1);have HM:Hid (m≤100000):=hiD (by have:=HI.o.2;have:=HI.o.1;have:=HN.o;omega);clear G;go_wp2_with fail
   have D3:=hiD (H3.o.next (Below.refl _ _).drew);have DO:=hiD (HO.o.below (Below.refl _ _).drew);refine wp_region_held_drew (S:=fun W'=>Bk W' b10 27 (chC X)) hmx K10.o.drew (fun qch=>?_);clear H3 HO K10;generalize hW0:W3.drew=V0 at *;clear hW0;simp only[List.size_toArray,List.length_cons,List.length_nil,Nat.reduceAdd];refine tks (i:=0) (v:=.slice A3 m c3) (s:=qch) (h:=?_);try simp only[nm0]
   refine tks (i:=1) (v:=.slice A9 N9 k9) (s:=qch) (h:=?_);try simp only[nm0]
   refine tkx (i:=4) (v:=.agg (chC X)) (x:=fun w0 hC=>jc rfl rfl hC.range Tryz.underlying27 rfl (info_ch' HXO.o)) (s:=qch) (h:=?_);try simp only[nm0]
   refine rd1 (r:=2) (h:=fun K hK=>?_);go_wp2_with fail
   have hal:∀ (o:Obj),Below V0.heap.size V0 (V0.alloc o):=fun o=>(Below.refl _ _).alloc (Nat.le_refl _) _;refine jg (fun W=>Bk W b10 27 (chC X)∧AG w b a A3 m c3 us W∧OwnB W b 5 A9 N9 k9 (recB cur h.e)∧Bk W V0.heap.size 48 #[.slice A9 N9 k9]) ⟨qch.alloc _,D3.o.next (hal _),DO.o.below (hal _),Bk.new _ _ _⟩ ?_;obtain⟨sb,hsb⟩:∃ b,V0.heap.size=b:=⟨_,rfl⟩;rw[hsb];clear hsb hal D3 DO qch;rintro V1 ⟨hS,q1,q2,q3⟩;have D4:=hiD q1;have DO:=hiD q2;have KN:=hiD q3;clear q1 q2 q3;refine bkk hK hS fun qch=>?_;clear hK K;try simp only[nm0]
   clear hS;refine rd1 (r:=3) (h:=fun K hK=>?_);obtain⟨A4,c4,V2,hrun,hag,hkeep⟩:=D4.o.app KN.o DO.o HN9.o HM.o 22;have D5:=hiD hag;have HRUN:=hiD hrun;have hS:=hkeep _ _ _ (by decide) qch;clear hrun hag hkeep qch D4 DO KN;refine jv (s:=.tmp 27) (x:=.tmp 29) (t:=22) (v:=.slice A3 m c3) (y:=.slice (some ⟨sb,0,none⟩) 1 1) (z:=.slice A4 (m+1) c4) (w':=V2) rfl rfl rfl HRUN.o ?_;refine bkk hK hS fun qch=>?_;clear hK K;try simp only[nm0]
   clear hS HRUN;refine rd1 (r:=5) (h:=fun K hK=>?_);go_wp2_with fail
   have hS:=qch;clear qch;refine bkk hK hS fun qch=>?_;clear hK K;try simp only[nm0]
   clear hS;refine rd1 (r:=6) (h:=fun K hK=>?_);have D6:=hiD (D5.o.store X (a.v++[h.e]));have hS:=qch.setRow_other (show b10≠b by have:=HB10.o;omega) (chC X);refine qh (ql rfl rfl rfl D5.o.k4 (by rw[zx HXO.o,zx HOK.o]) (info_ch' HXO.o) (zt _)) ?_;clear qch D5;refine bkk hK hS fun qch=>?_;clear hK K;try simp only[nm0]
   clear hS;refine wpAnyH_done (by kernel_rfl) ?_ _;have hw1:IntKind.i64.wrap ((i:Int)+1)=(i:Int)+1:=IntWalk.i64_in _ (by have:=HLT.o;have:=HN.o;omega);go_wp2_with fail
   go_roundw
   case rel=>exact⟨i+1,m+1,A4,c4,_,HLT.o,by have:=HI.o.2;omega,rfl,by first|rfl|go_num,by rw[HF.o];exact HXO.o,by rw[HF.o];exact D6.o⟩
   case measure=>have:=HLT.o;simp[intOf];omega
  ·have hin:i=n:=by have:=HI.o;omega
   subst hin;have HF:Hid (alL (l.map Eh.e)=a):=hiD (by rw[← HA.o,List.take_of_length_le (by rw[List.length_map,HLN.o];exact Nat.le_refl _)]);go_wp2_with fail
   go_ret;exact⟨A3,m,c3,us,rfl,by rw[HB.o];exact H.o.own,by rw[HB.o,HF.o];exact H.o.rec_,by rw[HB.o];exact H.o.hb⟩
end Go.Proofs.YtmjjefnmabbgdaaGreatDoor
