/- A part of the proof. -/
import Derived.Test.YtmjjefnmabbgdaaGreatDoorSSortK
import Derived.Test.YtmjjefnmabbgdaaGreatDoorSSortShelf
import Derived.Test.YtmjjefnmabbgdaaGreatDoorSStRl
namespace Go.Proofs.YtmjjefnmabbgdaaGreatDoor
set_option linter.unusedVariables false
set_option linter.unusedSimpArgs false
set_option maxRecDepth 100000
set_option maxHeartbeats 16000000
open Go.RowKit
instance:Inhabited Bh:=⟨⟨noBx,none,0,0⟩⟩
def zdr (p q:Bh):Int:=Lib.compareBytes p.b.name.data.toList q.b.name.data.toList
theorem ztf:∀ a b:List UInt8,Lib.compareBytes a b<0↔a<b
 | [],[]=>by simp[Lib.compareBytes]
 | [],b::m=>by simp[Lib.compareBytes]
 | a::l,[]=>by simp[Lib.compareBytes]
 | a :: l, b :: m => by
   have ih:=ztf l m;unfold Lib.compareBytes;rw[List.cons_lt_cons_iff];by_cases h1:a<b
   ·simp[h1]
   ·by_cases h2:b<a
    ·have hne:a≠b:=fun e=>by rw[e] at h2;exact absurd h2 (UInt8.lt_irrefl _)
     simp[h1,h2,hne]
    ·have he:a=b:=UInt8.le_antisymm (UInt8.not_lt.1 h2) (UInt8.not_lt.1 h1)
     simp[h1,h2,he,ih]
theorem zds (p q:Bh):ltOf zdr p q=true↔ltS p.b.name q.b.name:=by
 unfold ltOf zdr;rw[decide_eq_true_iff,ztf];rfl
theorem z9c:Sort.SWO (ltOf zdr) where
 irrefl x:=by
  cases h:ltOf zdr x x
  ·rfl
  ·exact absurd ((zds x x).1 h) (zfl _)
 trans x y z h1 h2:=(zds x z).2 (zbp ((zds x y).1 h1) ((zds y z).1 h2))
 ntrans x y z h1 h2:=by
  cases h:ltOf zdr x z
  ·rfl
  ·have h3:=(zds x z).1 h
   rcases zfm x.b.name y.b.name with q|q|q
   ·rw[(zds x y).2 q] at h1;cases h1
   ·rw[q] at h3
    rw[(zds y z).2 h3] at h2;cases h2
   ·have:=zbp q h3
    rw[(zds y z).2 this] at h2;cases h2
theorem z9d (x y:Bh)(W:World):Calls Tryz.prog 259 #[.agg (bhC x).toArray,.agg (bhC y).toArray] W fun e w'=>e=.returned (.int .i64 (zdr x y))∧∃ q os',w'=Sort.grow (W.drewN q) os':=by
 have hcon:=fun W'=>Any.strings_Compare z4f x.b.name y.b.name W'
 change ∀ W',Calls Tryz.prog 260 _ _ _ at hcon
 unfold zdr;generalize Lib.compareBytes x.b.name.data.toList y.b.name.data.toList=r at hcon ⊢
 show Calls Tryz.prog 259 #[.agg #[.string x.b.name,.int .i64 x.b.valid,.int .i64 x.b.next,.slice x.A x.n x.c],.agg #[.string y.b.name,.int .i64 y.b.valid,.int .i64 y.b.next,.slice y.A y.n y.c]] W _
 go_enter Tryz.func259,Tryz.ntmps259
 go_wp2_with (go_at_call 260;refine(hcon _).mono ?_;rintro e w' ⟨rfl,rfl⟩)
 go_ret;exact⟨rfl,0,_,by rw[Sort.alloc_eq_grow,Sort.alloc_eq_grow,Sort.grow_grow];rfl⟩
theorem z9e (A:Option Addr)(n c base:Nat)(l:List Bh)(w:World)(h:OwnK 4 bhC w base 76 A n c l)(hn:n≤1000000)(hb:base≤w.heap.size) :
 Calls Tryz.prog 258 #[.slice A n c,.func (.func 259) #[] #[]] w fun e w'=>e=.returned (.tuple #[])∧∃ m:List Bh,m.Perm l∧m.Pairwise (fun p q=>¬ ltS q.b.name p.b.name)∧OwnK 4 bhC w' base 76 A n c m∧Chg 76 base w w':=by
 have hlen:=h.len;by_cases h0:n=0
 ·subst h0
  obtain rfl:l=[]:=List.eq_nil_of_length_eq_zero hlen;refine(AnyF.slices_SortFunc_none ztj A c (.func (.func 259) #[] #[]) w).mono ?_;rintro e w' ⟨rfl,rfl⟩;exact⟨rfl,[],List.Perm.refl _,List.Pairwise.nil,h,Below.refl _ _,none,World.grownBy.refl _ _,fun b cs t fr hh=>by cases hh⟩
 ·obtain⟨g,rfl,hg,hH,hafter⟩:=h.holds (by omega) (by omega)
  have hbg:base≤g:=by
   obtain⟨g',_,e,hg',_⟩:=h.block (by omega);injection e with e;injection e with e _ _;omega
  have eg:∀ args w,(callFunc 259 args).run Tryz.prog w=.ok (.enter 259 args) w:=enters_of Tryz.func259 (by kernel_rfl) rfl;have hc:=AnyQ.slices_SortFunc ztj 4 Tryz.isAgg76 Tryz.sizeOf76 bhC zha zhb zdr z9c 259 #[] g 0 c l.toArray w eg (fun _ _ _ _ x y=>z9d x y _) hH hg (by simp;omega);rw[show l.toArray.size=n by simpa using hlen] at hc;refine hc.mono ?_;rintro e w' ⟨rfl,d',q,os,hp,hs,rfl⟩;have hsz:d'.size=n:=by have:=hp.1;rw[this];simpa using hlen
  have hp2:=z9m (d:=l.toArray) (by rw[show l.toArray.size=n by simpa using hlen];exact hp);have hs2:=z9n (d:=d') (lt:=ltOf zdr) (by rw[hsz];exact hs);obtain⟨h1,h2⟩:=hafter d'.toList q os (by rw[Array.length_toList,hsz,hlen]);rw[Array.toArray_toList] at h1 h2;refine⟨rfl,d'.toList,by simpa using hp2,hs2.imp (fun {p q} hh hl=>?_),h1,Chg.row h.1 h2 ((Below.refl _ _).grown h2 hb (fun k hk=>by cases hk;exact hbg))⟩;rw[(zds q p).2 hl] at hh;cases hh
theorem z9f {m:List Bx}(h:m.Pairwise (fun p q=>¬ ltS q.name p.name))(hne:m.Pairwise (fun a b=>a.name≠b.name)):m.Pairwise (fun a b=>ltS a.name b.name):=by
 refine(h.and hne).imp (fun {a b} hh=>?_);rcases zfm a.name b.name with q|q|q
 ·exact q
 ·exact absurd q hh.2
 ·exact absurd q hh.1
theorem z9g {l m:List Bx}(hl:l.Pairwise (fun a b=>ltS a.name b.name))(hm:m.Pairwise (fun a b=>ltS a.name b.name))(hp:l.Perm m):l=m :=
 hp.eq_of_pairwise (fun a b _ _ h1 h2=>absurd h2 (zd5 h1)) hl hm
theorem ztg (base bs:Nat)(cl nv nt nh:Int)(bA:Option Addr)(bn bc:Nat)(hh:List Bh)(w:World)(hk:∃ a2 a3 a4 a5,Bk w bs 103 #[.int .i64 cl,.slice bA bn bc,a2,a3,a4,a5,.int .i64 nv,.int .i64 nt,.int .i64 nh])(h:OwnK 4 bhC w base 76 bA bn bc hh)(hn:bn≤1000000)(hb:base≤w.heap.size) :
 Calls Tryz.prog 193 #[.pointer (some ⟨bs,0,none⟩)] w fun e w'=>e=.returned (.tuple #[])∧∃ m:List Bh,m.Perm hh∧m.Pairwise (fun p q=>¬ ltS q.b.name p.b.name)∧OwnK 4 bhC w' base 76 bA bn bc m∧Chg 76 base w w':=by
 obtain⟨a2,a3,a4,a5,hk⟩:=hk;have k1:=hk.cell 1;have CS:=hiD (z9e bA bn bc base hh w h hn hb);clear h hk;go_enter Tryz.func193,Tryz.ntmps193
 go_wp2_with fail
 refine CS.o.mono ?_;rintro e w' ⟨rfl,m,h1,h2,h3,h4⟩;have HF:=hiD (And.intro h1 (And.intro h2 (And.intro h3 h4)));clear h1 h2 h3 h4 CS;go_wp2_with fail
 go_end0;exact⟨rfl,m,HF.o⟩
theorem zth {hh m:List Bh}{x:Bh}{boxes:List Bx}(he:hh.map Bh.b=boxes)(hr:boxes.Pairwise (fun a b=>ltS a.name b.name))(hx:∀ b∈boxes,b.name≠x.b.name)(hp:m.Perm (hh++[x]))(hs:m.Pairwise (fun p q=>¬ ltS q.b.name p.b.name)):m.map Bh.b=putB boxes x.b:=by
 have hp2:(m.map Bh.b).Perm (x.b::boxes):=by
  have:=hp.map Bh.b;rw[List.map_append,he] at this;exact this.trans List.perm_append_comm
 have hne:(x.b::boxes).Pairwise (fun a b=>a.name≠b.name):=List.pairwise_cons.2 ⟨fun b hb h=>hx b hb h.symm,hr.imp fun h=>zig h⟩;have hne2:(m.map Bh.b).Pairwise (fun a b=>a.name≠b.name):=(hp2.pairwise_iff (fun h=>Ne.symm h)).2 hne;have hne3:(putB boxes x.b).Pairwise (fun a b=>a.name≠b.name):=((zfi boxes x.b).pairwise_iff (fun h=>Ne.symm h)).2 hne;exact z9g (z9f (List.pairwise_map.2 hs) hne2) (zkr hr hx) (hp2.trans (zfi boxes x.b).symm)
theorem z9h (base bs:Nat)(s:Sta)(p:StaAt)(name:ByteArray)(w:World)(h:ScAt 103 w base bs s p)(hok:OkSta s) :
 Calls Tryz.prog 119 #[.pointer (some ⟨bs,0,none⟩),.string name] w (DoIs 103 base bs (zbe s name) w):=by
 have hmx:Tryz.prog.follows .mixedOrders=true:=by kernel_rfl
 obtain⟨cl,boxes,subs,rules,tombs,holds,nv,nt,nh⟩:=s;obtain⟨⟨bA,bn,bc⟩,⟨sA,sn,sc⟩,⟨rA,rn,rc⟩,⟨tA,tn,tc⟩,⟨gA,gn,gc⟩⟩:=p;have hs:=hok.small;have hk:Bk w bs 103 #[.int .i64 cl,.slice bA bn bc,.slice sA sn sc,.slice rA rn rc,.slice tA tn tc,.slice gA gn gc,.int .i64 nv,.int .i64 nt,.int .i64 nh]:=h.bk;obtain⟨k0,k1,k2,k3,k4,k5,k6,k7,k8⟩:=hk.nine;have hbin:BoxesIn w w.heap.size bA bn boxes:=h.own.bx.in_ hs.bx h.base;have hbl:boxes.length=bn:=h.own.bx.len;have hbn0:bn≤1000:=by have:=hs.lens.1;simp only at this;omega
 have hnv:1≤nv∧nv≤4294967296:=hok.nv;have HRI:=hiD hok.boxes.rise;have CI:=hiD (zs6 cl nv nt nh bA sA rA tA gA bn bc sn sc rn rc tn tc gn gc boxes name w hbin (by omega));have HH:=hiD h;clear h hok hs hk hbin;go_enter Tryz.func119,Tryz.ntmps119
 go_wp2_with fail
 refine CI.o.mono ?_;rintro e w1 ⟨z,rfl,hz,hz1,hz2,hb⟩;rw[← zsl] at hz;have H1:=hiD (HH.o.below hb);have HB1:Hid (Below base w w1):=hiD (hb.mono HH.o.base);clear hb CI k0 k1 k2 k3 k4 k5 k6 k7 k8 HH;have hbk1:Bk w1 bs 103 #[.int .i64 cl,.slice bA bn bc,.slice sA sn sc,.slice rA rn rc,.slice tA tn tc,.slice gA gn gc,.int .i64 nv,.int .i64 nt,.int .i64 nh]:=H1.o.bk;have k1:=hbk1.cell 1;have k6:=hbk1.cell 6;by_cases hz0:0≤z
 ·have HE:Hid ((zbe ⟨cl,boxes,subs,rules,tombs,holds,nv,nt,nh⟩ name).2=7):=hiD (by unfold zbe;rw[if_pos (by show boxN boxes name≠0;omega)])
  clear hbk1;go_wp2_with fail
  go_ret;exact DoIs.no HE.o (by omega) HB1.o
 have hE:boxN boxes name=0:=by omega
 by_cases h16:bn=16
 ·have HE:Hid ((zbe ⟨cl,boxes,subs,rules,tombs,holds,nv,nt,nh⟩ name).2=8):=hiD (by unfold zbe;rw[if_neg (by show ¬ boxN boxes name≠0;omega),if_pos (by show boxes.length=16;omega)])
  have hq:((bn:Int) == 16)=true:=by simp;omega
  clear hbk1;go_wp2_with fail
  go_ret;exact DoIs.no HE.o (by omega) HB1.o
 have hq:((bn:Int) == 16)=false:=by simp;omega
 by_cases hv:4294967295<nv
 ·have HE:Hid ((zbe ⟨cl,boxes,subs,rules,tombs,holds,nv,nt,nh⟩ name).2=13):=hiD (by unfold zbe;rw[if_neg (by show ¬ boxN boxes name≠0;omega),if_neg (by show ¬ boxes.length=16;omega),if_pos hv])
  clear hbk1;go_wp2_with fail
  go_ret;exact DoIs.no HE.o (by omega) HB1.o
 have HX:Hid (zbe ⟨cl,boxes,subs,rules,tombs,holds,nv,nt,nh⟩ name=(⟨cl,putB boxes ⟨name,nv,1,[]⟩,subs,rules,tombs,holds,nv+1,nt,nh⟩,0)):=hiD (by unfold zbe;rw[if_neg (by show ¬ boxN boxes name≠0;omega),if_neg (by show ¬ boxes.length=16;omega),if_neg hv]);have HNN:Hid (∀ b∈boxes,b.name≠name):=hiD (boxN_none.1 hE);have HNV:=hiD hnv;clear hE hz hz1 hz2 hnv;go_wp2_with fail
 clear k1 k6;refine wp_region_held_drew (S:=fun W'=>W'.cell? ⟨bs,6,none⟩=some (.int .i64 nv)) hmx (hbk1.drew.cell 6) (fun qch=>?_);have HD:=hiD (H1.o.below (Below.refl w1.heap.size w1).drew);have HBD:=hiD HB1.o.drew;generalize hW0:w1.drew=W at *;clear hW0 hbk1 H1 HB1;have hbk2:Bk W bs 103 #[.int .i64 cl,.slice bA bn bc,.slice sA sn sc,.slice rA rn rc,.slice tA tn tc,.slice gA gn gc,.int .i64 nv,.int .i64 nt,.int .i64 nh]:=HD.o.bk;have k1:=hbk2.cell 1;have HBK:=hiD hbk2;clear hbk2;simp only[List.size_toArray,List.length_cons,List.length_nil,Nat.reduceAdd];refine tks (i:=0) (v:=.pointer (some ⟨bs,0,none⟩)) (s:=qch) (h:=?_);try simp only[nm0]
 refine tks (i:=1) (v:=.pointer (some ⟨bs,0,none⟩)) (s:=qch) (h:=?_);try simp only[nm0]
 refine tks (i:=2) (v:=.pointer (some ⟨bs,0,none⟩)) (s:=qch) (h:=?_);try simp only[nm0]
 refine tks (i:=3) (v:=.pointer (some ⟨bs,0,none⟩)) (s:=qch) (h:=?_);try simp only[nm0]
 refine tks (i:=4) (v:=.pointer (some ⟨bs,1,none⟩)) (s:=qch) (h:=?_);try simp only[nm0]
 refine tks (i:=6) (v:=.string name) (s:=qch) (h:=?_);try simp only[nm0]
 refine tks (i:=7) (v:=.pointer (some ⟨bs,0,none⟩)) (s:=qch) (h:=?_);try simp only[nm0]
 refine tks (i:=8) (v:=.pointer (some ⟨bs,0,none⟩)) (s:=qch) (h:=?_);try simp only[nm0]
 refine tks (i:=9) (v:=.pointer (some ⟨bs,0,none⟩)) (s:=qch) (h:=?_);try simp only[nm0]
 refine tks (i:=10) (v:=.pointer (some ⟨bs,6,none⟩)) (s:=qch) (h:=?_);try simp only[nm0]
 refine tkx (i:=11) (v:=.int .i64 nv) (x:=fun w0 hC=>by simp[execOp,Act.eval,Act.put,go_sem,hC]) (s:=qch) (h:=?_);try simp only[nm0]
 refine tks (i:=12) (v:=.agg #[.string name,.int .i64 nv,.int .i64 1,.slice none 0 0]) (s:=qch) (h:=?_);try simp only[nm0]
 refine rd2 (r:=5) (s:=13) (h:=fun K hK=>?_) (k:=fun K hK=>?_)
 ·go_wp2_with fail
  refine bkk hK qch fun qch=>?_;clear hK K;try simp only[nm0]
  clear k1;refine rd1 (r:=13) (h:=fun K hK=>?_);go_wp2_with fail
  have hal:Below W.heap.size W (W.alloc (.cells #[.string name,.int .i64 nv,.int .i64 1,.slice none 0 0] 76)):=(Below.refl _ _).alloc (Nat.le_refl _) _;have hbk2:Bk (W.alloc (.cells #[.string name,.int .i64 nv,.int .i64 1,.slice none 0 0] 76)) bs 103 #[.int .i64 cl,.slice bA bn bc,.slice sA sn sc,.slice rA rn rc,.slice tA tn tc,.slice gA gn gc,.int .i64 nv,.int .i64 nt,.int .i64 nh]:=HBK.o.below hal HBK.o.lt;have hSb:=hbk2.cell 6;have HAL:=hiD hal;have HBK2:=hiD hbk2;clear qch hal hbk2;refine bkk hK hSb fun qch=>?_;clear hK K;try simp only[nm0]
  clear hSb;have hSC:ScAt 103 (W.alloc (.cells #[.string name,.int .i64 nv,.int .i64 1,.slice none 0 0] 76)) base bs ⟨cl,boxes,subs,rules,tombs,holds,nv,nt,nh⟩ ⟨⟨bA,bn,bc⟩,⟨sA,sn,sc⟩,⟨rA,rn,rc⟩,⟨tA,tn,tc⟩,⟨gA,gn,gc⟩⟩:=HD.o.below HAL.o;have hkn:Bk (W.alloc (.cells #[.string name,.int .i64 nv,.int .i64 1,.slice none 0 0] 76)) W.heap.size 76 #[.string name,.int .i64 nv,.int .i64 1,.slice none 0 0]:=Bk.new _ _ _;obtain⟨us,hus,hus2,hus3⟩:=hSC.own.bx;have hus':OwnK 4 bhC (W.alloc (.cells #[.string name,.int .i64 nv,.int .i64 1,.slice none 0 0] 76)) base 76 bA bn bc us:=hus;obtain⟨A4,c4,V3,hrun,ho4,hb4,hg4⟩:=zbb (P:=Tryz.prog) (f:=bhC) hus' 34 34 Tryz.underlying34 zlj rfl (by omega) (by omega) (A':=some ⟨W.heap.size,0,none⟩) (m:=1) (c':=1) (B:=W.heap.size+1) (us:=[(⟨⟨name,nv,1,[]⟩,none,0,0⟩:Bh)]) (col_one' (f:=bhC) (a:=(⟨⟨name,nv,1,[]⟩,none,0,0⟩:Bh)) (t:=76) hkn _ (Nat.lt_succ_self _)) (fun u _=>zhb u) (by omega) hSC.base
  have hch:Chg 76 base (W.alloc (.cells #[.string name,.int .i64 nv,.int .i64 1,.slice none 0 0] 76)) V3:=Chg.row hus'.1 hg4 hb4;have hin4:∀ z∈us++[(⟨⟨name,nv,1,[]⟩,none,0,0⟩:Bh)],BhO V3 base z:=fun z hz=>by
   rcases List.mem_append.1 hz with hz|hz
   ·exact bhOwns.chg (hus2 z hz) hch (by decide)
   ·rw[List.mem_singleton.1 hz];exact OwnM.nil
  have hst4:StaO V3 base ⟨cl,boxes++[⟨name,nv,1,[]⟩],subs,rules,tombs,holds,nv,nt,nh⟩ ⟨⟨A4,bn+1,c4⟩,⟨sA,sn,sc⟩,⟨rA,rn,rc⟩,⟨tA,tn,tc⟩,⟨gA,gn,gc⟩⟩ :=
   ⟨⟨us++[(⟨⟨name,nv,1,[]⟩,none,0,0⟩:Bh)],ho4,hin4,by rw[List.map_append,hus3];rfl⟩,hSC.own.sb.chg hch (by decide),hSC.own.ru.chg hch (by decide),hSC.own.tb.chg thOwns hch (by decide) (by decide),hSC.own.ho.chg hhOwns hch (by decide) (by decide)⟩
  have hbk4:Bk V3 bs 103 #[.int .i64 cl,.slice bA bn bc,.slice sA sn sc,.slice rA rn rc,.slice tA tn tc,.slice gA gn gc,.int .i64 nv,.int .i64 nt,.int .i64 nh]:=HBK2.o.chg hch (by decide);have HBB4:=hiD ((HBD.o.trans (HAL.o.mono HD.o.base)).trans hb4);have HST4:=hiD hst4;have HBK4:=hiD hbk4;have HRUN:=hiD hrun;have hSd:=hbk4.cell 6;clear hrun ho4 hb4 hg4 hst4 hbk4 hch hSC hkn hus hus2 hus3 hus' qch hin4 us;refine rd1 (r:=14) (h:=fun K hK=>?_);refine jv (s:=.tmp 33) (x:=.tmp 41) (t:=34) (v:=.slice bA bn bc) (y:=.slice (some ⟨W.heap.size,0,none⟩) 1 1) (z:=.slice A4 (bn+1) c4) (w':=V3) rfl rfl rfl HRUN.o ?_;refine bkk hK hSd fun qch=>?_;clear hK K;try simp only[nm0]
  clear HRUN hSd;refine tks (i:=15) (v:=.pointer (some ⟨bs,0,none⟩)) (s:=qch) (h:=?_);try simp only[nm0]
  refine tks (i:=16) (v:=.pointer (some ⟨bs,0,none⟩)) (s:=qch) (h:=?_);try simp only[nm0]
  refine tks (i:=17) (v:=.pointer (some ⟨bs,1,none⟩)) (s:=qch) (h:=?_);try simp only[nm0]
  have c1':=HBK4.o.cell 1;have f1:=HBK4.o.frozen 1;refine rd1 (r:=18) (h:=fun K hK=>?_);go_wp2_with fail
  have hch5:Chg 103 base V3 (V3.setCell ⟨bs,1,none⟩ (.slice A4 (bn+1) c4)):=Chg.cell HBK4.o HD.o.hb _ _;have hbk5:Bk (V3.setCell ⟨bs,1,none⟩ (.slice A4 (bn+1) c4)) bs 103 #[.int .i64 cl,.slice A4 (bn+1) c4,.slice sA sn sc,.slice rA rn rc,.slice tA tn tc,.slice gA gn gc,.int .i64 nv,.int .i64 nt,.int .i64 nh]:=by have:=HBK4.o.put 1 (.slice A4 (bn+1) c4);simp at this;exact this
  have HST5:=hiD (HST4.o.chg hch5 zfw);have HBB5:=hiD (HBB4.o.trans hch5.1);have HBK5:=hiD hbk5;have hSe:=hbk5.cell 6;clear hch5 hbk5 c1' f1 HST4 HBB4 HBK4 qch;refine bkk hK hSe fun qch=>?_;clear hK K;try simp only[nm0]
  clear hSe qch;refine wpAnyH_done (by kernel_rfl) ?_ _;generalize V3.setCell ⟨bs,1,none⟩ (.slice A4 (bn+1) c4)=V at *;have hnvb:=HNV.o;have k6:=HBK5.o.cell 6;have f6:=HBK5.o.frozen 6;have hw6:IntKind.i64.wrap (nv+1)=nv+1:=IntWalk.i64_in _ (by omega);have hch6:Chg 103 base V (V.setCell ⟨bs,6,none⟩ (.int .i64 (nv+1))):=Chg.cell HBK5.o HD.o.hb _ _;have hst6:=HST5.o.chg hch6 zfw;have hbk6:Bk (V.setCell ⟨bs,6,none⟩ (.int .i64 (nv+1))) bs 103 #[.int .i64 cl,.slice A4 (bn+1) c4,.slice sA sn sc,.slice rA rn rc,.slice tA tn tc,.slice gA gn gc,.int .i64 (nv+1),.int .i64 nt,.int .i64 nh]:=by have:=HBK5.o.put 6 (.int .i64 (nv+1));simp at this;exact this
  have HST6:=hiD hst6;have HBK6:=hiD hbk6;have HBB6:=hiD (HBB5.o.trans hch6.1);clear hch6 hst6 hbk6 HST5 HBB5 HBK5 hnvb;go_wp2_with fail
  generalize V.setCell ⟨bs,6,none⟩ (.int .i64 (nv+1))=V6 at *;clear k6 f6;obtain⟨us,hus,hus2,hus3⟩:=HST6.o.bx;refine(ztg base bs cl (nv+1) nt nh A4 (bn+1) c4 us V6 ⟨_,_,_,_,HBK6.o⟩ hus (by omega) (Nat.le_trans HD.o.hb (Nat.le_of_lt HBK6.o.lt))).mono ?_;rintro e V7 ⟨rfl,m,hp,hm,ho7,hch7⟩;have hmem:∀ z∈m,BhO V7 base z:=fun z hz=>bhOwns.chg (hus2 z (hp.mem_iff.1 hz)) hch7 (by decide);have hlast:∃ us0 x,us=us0++[x]∧us0.map Bh.b=boxes∧x.b=⟨name,nv,1,[]⟩:=by
   have hne:us≠[]:=fun h=>by rw[h] at hus3;simp at hus3
   refine⟨us.dropLast,us.getLast hne,(List.dropLast_concat_getLast hne).symm,?_,?_⟩
   ·have:=congrArg List.dropLast hus3
    rw[List.dropLast_concat] at this;rw[← this];exact List.map_dropLast ..
   ·have h2:=congrArg (fun l=>l.getLast?) hus3
    simp only[List.getLast?_map,List.getLast?_concat] at h2;rw[List.getLast?_eq_some_getLast hne] at h2
    simpa using h2
  obtain⟨us0,x,rfl,he0,hx0⟩:=hlast;have hput:=zth (m:=m) he0 HRI.o (by rw[hx0];exact HNN.o) hp hm;rw[hx0] at hput;have hst7:=HST6.o;have HST7:Hid (ScAt 103 V7 base bs ⟨cl,putB boxes ⟨name,nv,1,[]⟩,subs,rules,tombs,holds,nv+1,nt,nh⟩ ⟨⟨A4,bn+1,c4⟩,⟨sA,sn,sc⟩,⟨rA,rn,rc⟩,⟨tA,tn,tc⟩,⟨gA,gn,gc⟩⟩):=hiD ⟨⟨⟨m,ho7,hmem,hput⟩,hst7.sb.chg hch7 (by decide),hst7.ru.chg hch7 (by decide),hst7.tb.chg thOwns hch7 (by decide) (by decide),hst7.ho.chg hhOwns hch7 (by decide) (by decide)⟩,HBK6.o.chg hch7 (by decide),HD.o.hb⟩;have HB7:=hiD (HBB6.o.trans hch7.1);clear hus hus2 hus3 hp hm ho7 hch7 hmem he0 hx0 hput hst7;go_wp2_with fail
  go_ret;exact DoIs.yes (by rw[HX.o]) HB7.o (by rw[HX.o];exact HST7.o)
 ·go_wp2_with fail
  clear k1;have hal:Below W.heap.size W (W.alloc (.cells #[.string name,.int .i64 nv,.int .i64 1,.slice none 0 0] 76)):=(Below.refl _ _).alloc (Nat.le_refl _) _;have hbk2:Bk (W.alloc (.cells #[.string name,.int .i64 nv,.int .i64 1,.slice none 0 0] 76)) bs 103 #[.int .i64 cl,.slice bA bn bc,.slice sA sn sc,.slice rA rn rc,.slice tA tn tc,.slice gA gn gc,.int .i64 nv,.int .i64 nt,.int .i64 nh]:=HBK.o.below hal HBK.o.lt;have hSb:=hbk2.cell 6;have HAL:=hiD hal;have HBK2:=hiD hbk2;clear qch hal hbk2;refine bkk hK hSb fun qch=>?_;clear hK K;try simp only[nm0]
  clear hSb;have k1:=HBK2.o.cell 1;refine rd1 (r:=5) (h:=fun K hK=>?_);go_wp2_with fail
  refine bkk hK qch fun qch=>?_;clear hK K;try simp only[nm0]
  clear k1;have hSC:ScAt 103 (W.alloc (.cells #[.string name,.int .i64 nv,.int .i64 1,.slice none 0 0] 76)) base bs ⟨cl,boxes,subs,rules,tombs,holds,nv,nt,nh⟩ ⟨⟨bA,bn,bc⟩,⟨sA,sn,sc⟩,⟨rA,rn,rc⟩,⟨tA,tn,tc⟩,⟨gA,gn,gc⟩⟩:=HD.o.below HAL.o;have hkn:Bk (W.alloc (.cells #[.string name,.int .i64 nv,.int .i64 1,.slice none 0 0] 76)) W.heap.size 76 #[.string name,.int .i64 nv,.int .i64 1,.slice none 0 0]:=Bk.new _ _ _;obtain⟨us,hus,hus2,hus3⟩:=hSC.own.bx;have hus':OwnK 4 bhC (W.alloc (.cells #[.string name,.int .i64 nv,.int .i64 1,.slice none 0 0] 76)) base 76 bA bn bc us:=hus;obtain⟨A4,c4,V3,hrun,ho4,hb4,hg4⟩:=zbb (P:=Tryz.prog) (f:=bhC) hus' 34 34 Tryz.underlying34 zlj rfl (by omega) (by omega) (A':=some ⟨W.heap.size,0,none⟩) (m:=1) (c':=1) (B:=W.heap.size+1) (us:=[(⟨⟨name,nv,1,[]⟩,none,0,0⟩:Bh)]) (col_one' (f:=bhC) (a:=(⟨⟨name,nv,1,[]⟩,none,0,0⟩:Bh)) (t:=76) hkn _ (Nat.lt_succ_self _)) (fun u _=>zhb u) (by omega) hSC.base
  have hch:Chg 76 base (W.alloc (.cells #[.string name,.int .i64 nv,.int .i64 1,.slice none 0 0] 76)) V3:=Chg.row hus'.1 hg4 hb4;have hin4:∀ z∈us++[(⟨⟨name,nv,1,[]⟩,none,0,0⟩:Bh)],BhO V3 base z:=fun z hz=>by
   rcases List.mem_append.1 hz with hz|hz
   ·exact bhOwns.chg (hus2 z hz) hch (by decide)
   ·rw[List.mem_singleton.1 hz];exact OwnM.nil
  have hst4:StaO V3 base ⟨cl,boxes++[⟨name,nv,1,[]⟩],subs,rules,tombs,holds,nv,nt,nh⟩ ⟨⟨A4,bn+1,c4⟩,⟨sA,sn,sc⟩,⟨rA,rn,rc⟩,⟨tA,tn,tc⟩,⟨gA,gn,gc⟩⟩ :=
   ⟨⟨us++[(⟨⟨name,nv,1,[]⟩,none,0,0⟩:Bh)],ho4,hin4,by rw[List.map_append,hus3];rfl⟩,hSC.own.sb.chg hch (by decide),hSC.own.ru.chg hch (by decide),hSC.own.tb.chg thOwns hch (by decide) (by decide),hSC.own.ho.chg hhOwns hch (by decide) (by decide)⟩
  have hbk4:Bk V3 bs 103 #[.int .i64 cl,.slice bA bn bc,.slice sA sn sc,.slice rA rn rc,.slice tA tn tc,.slice gA gn gc,.int .i64 nv,.int .i64 nt,.int .i64 nh]:=HBK2.o.chg hch (by decide);have HBB4:=hiD ((HBD.o.trans (HAL.o.mono HD.o.base)).trans hb4);have HST4:=hiD hst4;have HBK4:=hiD hbk4;have HRUN:=hiD hrun;have hSd:=hbk4.cell 6;clear hrun ho4 hb4 hg4 hst4 hbk4 hch hSC hkn hus hus2 hus3 hus' qch hin4 us;refine rd1 (r:=14) (h:=fun K hK=>?_);refine jv (s:=.tmp 33) (x:=.tmp 41) (t:=34) (v:=.slice bA bn bc) (y:=.slice (some ⟨W.heap.size,0,none⟩) 1 1) (z:=.slice A4 (bn+1) c4) (w':=V3) rfl rfl rfl HRUN.o ?_;refine bkk hK hSd fun qch=>?_;clear hK K;try simp only[nm0]
  clear HRUN hSd;refine tks (i:=15) (v:=.pointer (some ⟨bs,0,none⟩)) (s:=qch) (h:=?_);try simp only[nm0]
  refine tks (i:=16) (v:=.pointer (some ⟨bs,0,none⟩)) (s:=qch) (h:=?_);try simp only[nm0]
  refine tks (i:=17) (v:=.pointer (some ⟨bs,1,none⟩)) (s:=qch) (h:=?_);try simp only[nm0]
  have c1':=HBK4.o.cell 1;have f1:=HBK4.o.frozen 1;refine rd1 (r:=18) (h:=fun K hK=>?_);go_wp2_with fail
  have hch5:Chg 103 base V3 (V3.setCell ⟨bs,1,none⟩ (.slice A4 (bn+1) c4)):=Chg.cell HBK4.o HD.o.hb _ _;have hbk5:Bk (V3.setCell ⟨bs,1,none⟩ (.slice A4 (bn+1) c4)) bs 103 #[.int .i64 cl,.slice A4 (bn+1) c4,.slice sA sn sc,.slice rA rn rc,.slice tA tn tc,.slice gA gn gc,.int .i64 nv,.int .i64 nt,.int .i64 nh]:=by have:=HBK4.o.put 1 (.slice A4 (bn+1) c4);simp at this;exact this
  have HST5:=hiD (HST4.o.chg hch5 zfw);have HBB5:=hiD (HBB4.o.trans hch5.1);have HBK5:=hiD hbk5;have hSe:=hbk5.cell 6;clear hch5 hbk5 c1' f1 HST4 HBB4 HBK4 qch;refine bkk hK hSe fun qch=>?_;clear hK K;try simp only[nm0]
  clear hSe qch;refine wpAnyH_done (by kernel_rfl) ?_ _;generalize V3.setCell ⟨bs,1,none⟩ (.slice A4 (bn+1) c4)=V at *;have hnvb:=HNV.o;have k6:=HBK5.o.cell 6;have f6:=HBK5.o.frozen 6;have hw6:IntKind.i64.wrap (nv+1)=nv+1:=IntWalk.i64_in _ (by omega);have hch6:Chg 103 base V (V.setCell ⟨bs,6,none⟩ (.int .i64 (nv+1))):=Chg.cell HBK5.o HD.o.hb _ _;have hst6:=HST5.o.chg hch6 zfw;have hbk6:Bk (V.setCell ⟨bs,6,none⟩ (.int .i64 (nv+1))) bs 103 #[.int .i64 cl,.slice A4 (bn+1) c4,.slice sA sn sc,.slice rA rn rc,.slice tA tn tc,.slice gA gn gc,.int .i64 (nv+1),.int .i64 nt,.int .i64 nh]:=by have:=HBK5.o.put 6 (.int .i64 (nv+1));simp at this;exact this
  have HST6:=hiD hst6;have HBK6:=hiD hbk6;have HBB6:=hiD (HBB5.o.trans hch6.1);clear hch6 hst6 hbk6 HST5 HBB5 HBK5 hnvb;go_wp2_with fail
  generalize V.setCell ⟨bs,6,none⟩ (.int .i64 (nv+1))=V6 at *;clear k6 f6;obtain⟨us,hus,hus2,hus3⟩:=HST6.o.bx;refine(ztg base bs cl (nv+1) nt nh A4 (bn+1) c4 us V6 ⟨_,_,_,_,HBK6.o⟩ hus (by omega) (Nat.le_trans HD.o.hb (Nat.le_of_lt HBK6.o.lt))).mono ?_;rintro e V7 ⟨rfl,m,hp,hm,ho7,hch7⟩;have hmem:∀ z∈m,BhO V7 base z:=fun z hz=>bhOwns.chg (hus2 z (hp.mem_iff.1 hz)) hch7 (by decide);have hlast:∃ us0 x,us=us0++[x]∧us0.map Bh.b=boxes∧x.b=⟨name,nv,1,[]⟩:=by
   have hne:us≠[]:=fun h=>by rw[h] at hus3;simp at hus3
   refine⟨us.dropLast,us.getLast hne,(List.dropLast_concat_getLast hne).symm,?_,?_⟩
   ·have:=congrArg List.dropLast hus3
    rw[List.dropLast_concat] at this;rw[← this];exact List.map_dropLast ..
   ·have h2:=congrArg (fun l=>l.getLast?) hus3
    simp only[List.getLast?_map,List.getLast?_concat] at h2;rw[List.getLast?_eq_some_getLast hne] at h2
    simpa using h2
  obtain⟨us0,x,rfl,he0,hx0⟩:=hlast;have hput:=zth (m:=m) he0 HRI.o (by rw[hx0];exact HNN.o) hp hm;rw[hx0] at hput;have hst7:=HST6.o;have HST7:Hid (ScAt 103 V7 base bs ⟨cl,putB boxes ⟨name,nv,1,[]⟩,subs,rules,tombs,holds,nv+1,nt,nh⟩ ⟨⟨A4,bn+1,c4⟩,⟨sA,sn,sc⟩,⟨rA,rn,rc⟩,⟨tA,tn,tc⟩,⟨gA,gn,gc⟩⟩):=hiD ⟨⟨⟨m,ho7,hmem,hput⟩,hst7.sb.chg hch7 (by decide),hst7.ru.chg hch7 (by decide),hst7.tb.chg thOwns hch7 (by decide) (by decide),hst7.ho.chg hhOwns hch7 (by decide) (by decide)⟩,HBK6.o.chg hch7 (by decide),HD.o.hb⟩;have HB7:=hiD (HBB6.o.trans hch7.1);clear hus hus2 hus3 hp hm ho7 hch7 hmem he0 hx0 hput hst7;go_wp2_with fail
  go_ret;exact DoIs.yes (by rw[HX.o]) HB7.o (by rw[HX.o];exact HST7.o)
theorem z9i (base bs:Nat)(s:Sta)(p:StaAt)(h:Eh)(w:World)(hs:ScAt 103 w base bs s p)(hok:OkSta s)(hi:EvIn w base h)(hk:h.e.kind=1) :
 Calls Tryz.prog 57 #[.pointer (some ⟨bs,0,none⟩),.agg (evC h)] w (DoIs 103 base bs (doS s h.e) w):=by
 obtain⟨⟨kind,at_,box,to_,ids,set,mode,flags,date,n,body⟩,A1,n1,c1,A2,n2,c2,A3,n3,c3⟩:=h;simp only at hk;subst hk;have hb:Below w.heap.size w (w.alloc (.cells #[.int .i64 1,.int .i64 at_,.string box,.string to_,.slice A1 n1 c1,.slice A2 n2 c2,.int .i64 mode,.int .i64 flags,.int .i64 date,.int .i64 n,.slice A3 n3 c3] 50)):=(Below.refl _ _).alloc (Nat.le_refl _) _;have hke:Bk (w.alloc (.cells #[.int .i64 1,.int .i64 at_,.string box,.string to_,.slice A1 n1 c1,.slice A2 n2 c2,.int .i64 mode,.int .i64 flags,.int .i64 date,.int .i64 n,.slice A3 n3 c3] 50)) w.heap.size 50 #[.int .i64 1,.int .i64 at_,.string box,.string to_,.slice A1 n1 c1,.slice A2 n2 c2,.int .i64 mode,.int .i64 flags,.int .i64 date,.int .i64 n,.slice A3 n3 c3]:=Bk.new _ _ _;have HDO:Hid (doS s ⟨1,at_,box,to_,ids,set,mode,flags,date,n,body⟩=zbe s box):=hiD (do_1 rfl)
 have HA:=hiD (hs.below hb);have HEI:=hiD (hi.below (hb.mono hs.base) (Nat.le_refl _));have HOK:=hiD hok;have HB:=hiD (hb.mono hs.base);have k0:=hke.cell 0;have k1:=hke.cell 1;have k2:=hke.cell 2;have k3:=hke.cell 3;have k4:=hke.cell 4;have k5:=hke.cell 5;have k6:=hke.cell 6;have k7:=hke.cell 7;have k8:=hke.cell 8;have k9:=hke.cell 9;have k10:=hke.cell 10;clear hs hi hok hb hke
 show Calls Tryz.prog 57 #[.pointer (some ⟨bs,0,none⟩),.agg #[.int .i64 1,.int .i64 at_,.string box,.string to_,.slice A1 n1 c1,.slice A2 n2 c2,.int .i64 mode,.int .i64 flags,.int .i64 date,.int .i64 n,.slice A3 n3 c3]] w _
 go_enter Tryz.func57,Tryz.ntmps57
 go_wp2_with fail
 generalize w.alloc (.cells #[.int .i64 1,.int .i64 at_,.string box,.string to_,.slice A1 n1 c1,.slice A2 n2 c2,.int .i64 mode,.int .i64 flags,.int .i64 date,.int .i64 n,.slice A3 n3 c3] 50)=w1 at *;refine(z9h base bs s p box w1 HA.o HOK.o).mono ?_;rintro e V hd;have HD:=hiD (DoIs.from_ (show DoIs 103 base bs (doS s ⟨1,at_,box,to_,ids,set,mode,flags,date,n,body⟩) _ e V from hd.same (by rw[HDO.o]) (fun _=>by rw[HDO.o])) HB.o);clear hd;obtain⟨hr,hb2,hp⟩:=HD.o;subst hr;go_wp2_with fail
 go_ret;exact⟨rfl,hb2,hp⟩
end Go.Proofs.YtmjjefnmabbgdaaGreatDoor
