/- A part of the proof. -/
import Derived.Test.YtmjjefnmabbgdaaGreatDoorSEventA
import Derived.Deep.DeepCutAuto
import Derived.Deep.RegionHeld3
import Derived.Test.YtmjjefnmabbgdaaGreatDoorSRgW
namespace Go.Proofs.YtmjjefnmabbgdaaGreatDoor
set_option linter.unusedVariables false
set_option linter.unusedSimpArgs false
set_option maxRecDepth 100000
set_option maxHeartbeats 16000000
open Go.RowKit
def zco (e:Ev)(c:Nat):Bool:=if c∈zg e.kind then okQ e c else jm e c
theorem zsb (e:Ev):z7 e=(!(zg e.kind).isEmpty && (tmB e.at_ && nineL.all (zco e))):=(zyr e).symm
theorem z5d {e:Ev}{c:Nat}(hc:c∈nineL)(h:zco e c=false):z7 e=false:=by
 rw[zsb];have:nineL.all (zco e)=false:=by
  rw[List.all_eq_false];exact⟨c,hc,by rw[h];decide⟩
 rw[this,Bool.and_false,Bool.and_false]
theorem z5e {e:Ev}(h0:¬ zg e.kind=[])(h1:tmB e.at_=true)(h2:∀ c∈nineL,zco e c=true):z7 e=true:=by
 rw[zsb,h1,List.all_eq_true.2 h2];have:(zg e.kind).isEmpty=false:=by simpa using h0
 rw[this];rfl
theorem z5f {e:Ev}{c:Nat}(h:c∈zg e.kind):zco e c=okQ e c:=if_pos h
theorem z5g {e:Ev}{c:Nat}(h:¬ c∈zg e.kind):zco e c=jm e c:=if_neg h
theorem qci {e:Ev}{c:Nat}{x:Bool}(hx:zco e c=x):(c∈zg e.kind∧okQ e c=x)∨(¬ c∈zg e.kind∧jm e c=x) :=
 (Classical.em (c∈zg e.kind)).elim (fun h=>.inl ⟨h,by rw[← z5f h];exact hx⟩) (fun h=>.inr ⟨h,by rw[← z5g h];exact hx⟩)
theorem z5h {e:Ev}{k c:Nat}(h:∀ x∈nineL.take k,zco e x=true)(hc:nineL[k]?=some c)(hx:zco e c=true):∀ x∈nineL.take (k+1),zco e x=true:=by
 intro x hm;rw[zbz nineL k c hc] at hm;rcases List.mem_append.1 hm with hm|hm
 ·exact h x hm
 ·rw[List.mem_singleton.1 hm];exact hx
def zeq (e:Ev):Array Value:=#[.bool (okQ e 98),.bool (okQ e 116),.bool (okQ e 105),.bool (okQ e 115),.bool (okQ e 109),.bool (okQ e 102),.bool (okQ e 100),.bool (okQ e 110),.bool (okQ e 121)]
def zsc (e:Ev):Array Value:=#[.bool (jm e 98),.bool (jm e 116),.bool (jm e 105),.bool (jm e 115),.bool (jm e 109),.bool (jm e 102),.bool (jm e 100),.bool (jm e 110),.bool (jm e 121)]
theorem zsd (s:ByteArray):s.toList.isEmpty=decide (s=zby):=by
 have h:=zeo (nats s);rw[zaw] at h;rw[h];refine decide_eq_decide.2 ⟨fun e=>?_,fun e=>by rw[e];rfl⟩;rw[← zaw s,e];rfl
theorem zlh {α:Type}{l:List α}{n:Nat}(h:l.length=n):((n:Int) == 0)=decide (l=[]):=by
 rw[← h];cases l with
 | nil=>rfl
 | cons a l=>simp;omega
theorem ziw (z:Int):(z == 0)=decide (z=0):=rfl
theorem z5i {l:List Int}{n:Nat}(h:l.length=n)(h1:(1:Int)≤(n:Int))(h2:(n:Int)≤60):idsB l=zel l:=by
 unfold idsB;rw[decide_eq_true (by omega),Bool.true_and]
theorem z5j {P:Program}{o:Oper}{a:Act}{w:World}{K:Act→World→Prop}{Q:Exit→Act→World→Prop}(ty:TypeId)(x y:Operand)(ho:o.op=.store ty x y)
 (g:Nat) (cells:Array Value) (hx:a.eval x=.pointer (some ⟨g,0,none⟩)) (hy:a.eval y=.agg cells)
 (t:TypeId) (cur:Array Value) (hg:Bk w g t cur) (hfit:cells.size=cur.size) (hi:(P.info? ty).map (·.size)=some cells.size) (h1:∀ v∈cells.toList,v.oneCell'=true)
 (h:∀ w',Hid (w'=w.setRow g cells)→K (a.put o.dst undef) w'):o.wp P a w K Q:=by
 refine qh (w':=w.setRow g cells) ?_ (h _ rfl);have:=run_storeCells_at P g 0 t cells.toList 0 cur w hg (by simp;omega) h1;simp only[Nat.add_zero,Nat.zero_add,List.append_assoc] at this;have e:splice cur.toList 0 cells.toList=cells.toList:=zhv (by simp[hfit]);unfold splice at e;simp only[Nat.zero_add] at e;cases hq:P.info? ty with
 | none=>simp[hq] at hi
 | some i =>
   have hs:cells.size=i.size:=by simp[hq] at hi;omega
   unfold execOp;simp only[ho,hx,hy,Instr.storeAt,Instr.sureAddr,Sem.run_bind,Sem.run_pure,Result.andThen_ok];simp only[e,Array.toArray_toList] at this;simp[storeVar,sizeOf,typeInfo,hq,Value.cells,hs,this]
theorem z5k:(Tryz.prog.info? 121).map (·.size)=some 9:=by kernel_rfl
abbrev b9:Obj:=.cells #[.bool false,.bool false,.bool false,.bool false,.bool false,.bool false,.bool false,.bool false,.bool false] 121
theorem zse (h:Eh)(w:World)(Hh:EvIn w w.heap.size h):Calls Tryz.prog 41 #[.agg (evC h)] w (RightIs h w):=by
 have HH:=hiD Hh;clear Hh;go_enter Tryz.func41,Tryz.ntmps41
 go_wp2_with (with_reducible refine stn 8 ?_)
 refine held (qk (fun W=>Bk W w.heap.size 50 (evC h)∧Below w.heap.size w W) ⟨Bk.new _ _ _,(Below.refl _ _).alloc (Nat.le_refl _) _⟩ ?_);rintro W1 ⟨q1,q2⟩;have R1:=hiD q1;have R2:=hiD q2;have c0:W1.cell? ⟨w.heap.size,0,none⟩=some (.int .i64 h.e.kind):=q1.cell 0;have c1:W1.cell? ⟨w.heap.size,1,none⟩=some (.int .i64 h.e.at_):=q1.cell 1;have c4:W1.cell? ⟨w.heap.size,4,none⟩=some (.slice h.A1 h.n1 h.c1):=q1.cell 4;clear q1 q2;go_wp2_with fail
 refine(zk9 h.e.kind W1).mono ?_;rintro e w' ⟨rfl,rfl⟩;by_cases hp0:zg h.e.kind=[]
 ·have HR:=hiD (zrn hp0)
  have he:(za (zg h.e.kind)).toList.isEmpty=true:=by rw[zeo];exact decide_eq_true hp0
  clear hp0;go_wp2_with fail
  go_ret;exact⟨by rw[HR.o]<;>rfl,R2.o⟩
 have he:(za (zg h.e.kind)).toList.isEmpty=false:=by rw[zeo];exact decide_eq_false hp0
 have HP0:=hiD hp0;clear hp0 c0;go_wp2_with fail
 refine(zk7 h.e.at_ W1).mono ?_;rintro e w' ⟨rfl,rfl⟩;cases ht:tmB h.e.at_
 ·have HR:=hiD (zro ht)
  clear ht;go_wp2_with fail
  go_ret;exact⟨by rw[HR.o]<;>rfl,R2.o⟩
 have HT:=hiD ht;clear ht c1
 go_upto_region 4 with (fail)
 go_cut [4] (fun x4 wx=>x4=.bool (idsB h.e.ids)∧Bk wx w.heap.size 50 (evC h)∧Below w.heap.size w wx)
 case first =>
  have hlen:=HH.o.1.1;by_cases h1:(1:Int)≤(h.n1:Int)
  ·by_cases h2:(h.n1:Int)≤60
   ·have HE:=hiD (z5i hlen h1 h2)
    have CR:=hiD (z5b h.A1 h.n1 h.c1 h.e.ids W1 (HH.o.later R2.o).1 HH.o.2.2.2.1);clear hlen;go_wp2_with fail
    refine CR.o.mono ?_;rintro e W2 ⟨rfl,q,hq⟩;clear CR;go_wp2_with fail
    go_meet;exact⟨by rw[HE.o],R1.o.drewNE q,qo R2.o q⟩
   ·have HE:Hid (idsB h.e.ids=false):=hiD (zrc (by omega))
    clear hlen;go_wp2_with fail
    go_meet;exact⟨by rw[HE.o],R1.o,R2.o⟩
  ·have HE:Hid (idsB h.e.ids=false):=hiD (zrb (by omega))
   clear hlen;go_wp2_with fail
   go_meet;exact⟨by rw[HE.o],R1.o,R2.o⟩
 case rest =>
  obtain⟨rfl,hk,hb⟩:=hcut;clear c4 R1 R2;generalize wc=W2 at *;have R1:=hiD hk;have R2:=hiD hb;clear hk hb
  go_upto_region 5 with (fail)
  go_cut [5] (fun x5 wx=>∃ b5,x5=.pointer (some ⟨b5,0,none⟩)∧Bk wx b5 121 (zeq h.e)∧Bk wx w.heap.size 50 (evC h)∧Below w.heap.size w wx)
  case first =>
   have hmx:Tryz.prog.follows .mixedOrders=true:=by kernel_rfl
   have HB:Hid (decide ((h.n3:Int)≤2000)=okQ h.e 121):=hiD (by
    have hbl:=HH.o.2.2.1.1
    show _=decide (h.e.body.length≤2000)
    exact decide_eq_decide.2 (by omega))
   have HM1:Hid (0≤h.e.mode→decide (h.e.mode≤2)=okQ h.e 109):=hiD (fun hmd=>by
    show _=decide (0≤h.e.mode∧h.e.mode≤2)
    exact decide_eq_decide.2 (by omega))
   by_cases hmd:0≤h.e.mode
   all_goals
    go_wp2_with fail
    refine wp_region_held_drew (S:=fun W'=>Below W2.heap.size W2 W') hmx (Below.refl W2.heap.size W2).drew (fun qch=>?_);have hlt:=R1.o.lt;have dc:∀ {W j v},Below W2.heap.size W2 W→(evC h)[j]?=some v→W.cell? ⟨w.heap.size,j,none⟩=some v:=fun q e=>(q.cell (p:=⟨w.heap.size,_,none⟩) hlt).trans ((R1.o.cell _).trans e);obtain⟨V0,hV0⟩:∃ V,V=W2.drew:=⟨_,rfl⟩;rw[← hV0] at qch ⊢;have k1:Hid (Bk V0 w.heap.size 50 (evC h)):=hiD (by rw[hV0];exact R1.o.drew);have k2:Hid (Below w.heap.size w V0):=hiD (by rw[hV0];exact R2.o.drew);have k0:=k1;have k3:Hid (w.heap.size≤V0.heap.size):=hiD k2.out.size;have k4:Hid (W2.heap.size≤V0.heap.size):=hiD qch.size;clear hV0;simp only[List.size_toArray,List.length_cons,List.length_nil,Nat.reduceAdd];refine tks (i:=0) (v:=.pointer (some ⟨w.heap.size,2,none⟩)) (s:=qch) (h:=?_);try simp only[nm0]
    refine tkx (i:=1) (v:=.string h.e.box) (x:=fun w0 hC=>by simp[execOp,Act.eval,Act.put,go_sem,dc (j:=2) hC rfl,evC]) (s:=qch) (h:=?_);try simp only[nm0]
    refine tks (i:=3) (v:=.pointer (some ⟨w.heap.size,3,none⟩)) (s:=qch) (h:=?_);try simp only[nm0]
    refine tkx (i:=4) (v:=.string h.e.to_) (x:=fun w0 hC=>by simp[execOp,Act.eval,Act.put,go_sem,dc (j:=3) hC rfl,evC]) (s:=qch) (h:=?_);try simp only[nm0]
    refine tks (i:=6) (v:=.bool (idsB h.e.ids)) (s:=qch) (h:=?_);try simp only[nm0]
    refine tks (i:=7) (v:=.pointer (some ⟨w.heap.size,5,none⟩)) (s:=qch) (h:=?_);try simp only[nm0]
    refine tkx (i:=8) (v:=.slice h.A2 h.n2 h.c2) (x:=fun w0 hC=>by simp[execOp,Act.eval,Act.put,go_sem,dc (j:=5) hC rfl,evC]) (s:=qch) (h:=?_);try simp only[nm0]
    refine tks (i:=10) (v:=.pointer (some ⟨w.heap.size,6,none⟩)) (s:=qch) (h:=?_);try simp only[nm0]
    refine tkx (i:=11) (v:=.int .i64 h.e.mode) (x:=fun w0 hC=>by simp[execOp,Act.eval,Act.put,go_sem,dc (j:=6) hC rfl,evC]) (s:=qch) (h:=?_);try simp only[nm0]
    first|(have hm:0≤h.e.mode:=hmd;refine tkx (i:=12) (v:=.bool true) (x:=fun w0 hC=>by simp[execOp,Act.eval,Act.put,go_sem,hm]) (s:=qch) (h:=?_);clear hm)|refine tkx (i:=12) (v:=.bool false) (x:=fun w0 hC=>by simp[execOp,Act.eval,Act.put,go_sem,hmd]) (s:=qch) (h:=?_)
    try simp only[nm0]
    refine tks (i:=18) (v:=.pointer (some ⟨w.heap.size,7,none⟩)) (s:=qch) (h:=?_);try simp only[nm0]
    refine tkx (i:=19) (v:=.int .i64 h.e.flags) (x:=fun w0 hC=>by simp[execOp,Act.eval,Act.put,go_sem,dc (j:=7) hC rfl,evC]) (s:=qch) (h:=?_);try simp only[nm0]
    refine tks (i:=21) (v:=.pointer (some ⟨w.heap.size,8,none⟩)) (s:=qch) (h:=?_);try simp only[nm0]
    refine tkx (i:=22) (v:=.int .i64 h.e.date) (x:=fun w0 hC=>by simp[execOp,Act.eval,Act.put,go_sem,dc (j:=8) hC rfl,evC]) (s:=qch) (h:=?_);try simp only[nm0]
    refine tks (i:=24) (v:=.pointer (some ⟨w.heap.size,9,none⟩)) (s:=qch) (h:=?_);try simp only[nm0]
    refine tkx (i:=25) (v:=.int .i64 h.e.n) (x:=fun w0 hC=>by simp[execOp,Act.eval,Act.put,go_sem,dc (j:=9) hC rfl,evC]) (s:=qch) (h:=?_);try simp only[nm0]
    refine tks (i:=27) (v:=.pointer (some ⟨w.heap.size,10,none⟩)) (s:=qch) (h:=?_);try simp only[nm0]
    refine tkx (i:=28) (v:=.slice h.A3 h.n3 h.c3) (x:=fun w0 hC=>by simp[execOp,Act.eval,Act.put,go_sem,dc (j:=10) hC rfl,evC]) (s:=qch) (h:=?_);try simp only[nm0]
    refine tks (i:=29) (v:=.int .i64 (h.n3:Int)) (s:=qch) (h:=?_);try simp only[nm0]
    refine tkx (i:=30) (v:=.bool (okQ h.e 121)) (x:=fun w0 hC=>by simp[execOp,Act.eval,Act.put,go_sem,HB.o]) (s:=qch) (h:=?_);try simp only[nm0]
    all_goals first|(have hm:=kb;clear hm;refine rd1 (r:=2) (h:=fun K hK=>?_))|(refine rd2 (r:=2) (s:=32) (h:=fun K hK=>?_) (k:=fun K hK=>?_);rotate_left;go_wp2_with fail;have hSa:=qch.alloc qch.size b9;replace k1:=hiD (k1.out.alloc b9);replace k2:=hiD (k2.out.alloc k2.out.size b9);have kb:=hiD (Bk.new V0 121 #[.bool false,.bool false,.bool false,.bool false,.bool false,.bool false,.bool false,.bool false,.bool false]);clear qch;refine bkk hK hSa fun qch=>?_;clear hK K hSa;(try simp only[nm0]);refine rd1 (r:=2) (h:=fun K hK=>?_))
    all_goals
     go_wp2_with fail
     refine(zr3 h.e.box HH.o.2.2.2.2.2.2.1 _).mono ?_;rintro e w' ⟨rfl,rfl⟩;have hSa:=qch;clear qch;refine bkk hK hSa fun qch=>?_;clear hK K hSa;try simp only[nm0]
    all_goals first|(have hm:=kb;clear hm;refine rd1 (r:=5) (h:=fun K hK=>?_))|(refine rd2 (r:=5) (s:=32) (h:=fun K hK=>?_) (k:=fun K hK=>?_);rotate_left;go_wp2_with fail;have hSa:=qch.alloc qch.size b9;replace k1:=hiD (k1.out.alloc b9);replace k2:=hiD (k2.out.alloc k2.out.size b9);have kb:=hiD (Bk.new V0 121 #[.bool false,.bool false,.bool false,.bool false,.bool false,.bool false,.bool false,.bool false,.bool false]);clear qch;refine bkk hK hSa fun qch=>?_;clear hK K hSa;(try simp only[nm0]);refine rd1 (r:=5) (h:=fun K hK=>?_))
    all_goals
     go_wp2_with fail
     refine(zr3 h.e.to_ HH.o.2.2.2.2.2.2.2 _).mono ?_;rintro e w' ⟨rfl,rfl⟩;have hSa:=qch;clear qch;refine bkk hK hSa fun qch=>?_;clear hK K hSa;try simp only[nm0]
    all_goals first|(have hm:=kb;clear hm;refine rd1 (r:=9) (h:=fun K hK=>?_))|(refine rd2 (r:=9) (s:=32) (h:=fun K hK=>?_) (k:=fun K hK=>?_);rotate_left;go_wp2_with fail;have hSa:=qch.alloc qch.size b9;replace k1:=hiD (k1.out.alloc b9);replace k2:=hiD (k2.out.alloc k2.out.size b9);have kb:=hiD (Bk.new V0 121 #[.bool false,.bool false,.bool false,.bool false,.bool false,.bool false,.bool false,.bool false,.bool false]);clear qch;refine bkk hK hSa fun qch=>?_;clear hK K hSa;(try simp only[nm0]);refine rd1 (r:=9) (h:=fun K hK=>?_))
    all_goals
     go_wp2_with fail
     refine(z2n h.A2 h.n2 h.c2 h.e.set _ (HH.o.later k2.out).2.1 HH.o.2.2.2.2.1).mono ?_;rintro e w' ⟨rfl,rfl⟩;have hSa:=qch;clear qch;refine bkk hK hSa fun qch=>?_;clear hK K hSa;try simp only[nm0]
    all_goals first|(have hm:=HM1.o hmd;refine tks (i:=13) (v:=.bool true) (s:=qch) (h:=?_);(try simp only[nm0]);refine tks (i:=14) (v:=.pointer (some ⟨w.heap.size,6,none⟩)) (s:=qch) (h:=?_);(try simp only[nm0]);refine tkx (i:=15) (v:=.int .i64 h.e.mode) (x:=fun w0 hC=>by simp[execOp,Act.eval,Act.put,go_sem,dc (j:=6) hC rfl,evC]) (s:=qch) (h:=?_);(try simp only[nm0]);refine tkx (i:=16) (v:=.bool (okQ h.e 109)) (x:=fun w0 hC=>by simp[execOp,Act.eval,Act.put,go_sem,hm]) (s:=qch) (h:=?_);(try simp only[nm0]);refine tks (i:=17) (v:=.bool (okQ h.e 109)) (s:=qch) (h:=?_);clear hm)|(refine tks (i:=13) (v:=.bool false) (s:=qch) (h:=?_);(try simp only[nm0]);refine tku (i:=14) (s:=qch) (h:=?_);(try simp only[nm0]);refine tku (i:=15) (s:=qch) (h:=?_);(try simp only[nm0]);refine tku (i:=16) (s:=qch) (h:=?_);(try simp only[nm0]);refine tkx (i:=17) (v:=.bool (okQ h.e 109)) (x:=fun w0 hC=>by rw[show okQ h.e 109=false from zrk (z:=h.e.mode) (by omega)];simp[execOp,Act.eval,Act.put,go_sem]) (s:=qch) (h:=?_))
    all_goals try simp only[nm0]
    all_goals first|(have hm:=kb;clear hm;refine rd1 (r:=20) (h:=fun K hK=>?_))|(refine rd2 (r:=20) (s:=32) (h:=fun K hK=>?_) (k:=fun K hK=>?_);rotate_left;go_wp2_with fail;have hSa:=qch.alloc qch.size b9;replace k1:=hiD (k1.out.alloc b9);replace k2:=hiD (k2.out.alloc k2.out.size b9);have kb:=hiD (Bk.new V0 121 #[.bool false,.bool false,.bool false,.bool false,.bool false,.bool false,.bool false,.bool false,.bool false]);clear qch;refine bkk hK hSa fun qch=>?_;clear hK K hSa;(try simp only[nm0]);refine rd1 (r:=20) (h:=fun K hK=>?_))
    all_goals
     go_wp2_with fail
     refine(z4s h.e.flags _).mono ?_;rintro e w' ⟨rfl,rfl⟩;have hSa:=qch;clear qch;refine bkk hK hSa fun qch=>?_;clear hK K hSa;try simp only[nm0]
    all_goals first|(have hm:=kb;clear hm;refine rd1 (r:=23) (h:=fun K hK=>?_))|(refine rd2 (r:=23) (s:=32) (h:=fun K hK=>?_) (k:=fun K hK=>?_);rotate_left;go_wp2_with fail;have hSa:=qch.alloc qch.size b9;replace k1:=hiD (k1.out.alloc b9);replace k2:=hiD (k2.out.alloc k2.out.size b9);have kb:=hiD (Bk.new V0 121 #[.bool false,.bool false,.bool false,.bool false,.bool false,.bool false,.bool false,.bool false,.bool false]);clear qch;refine bkk hK hSa fun qch=>?_;clear hK K hSa;(try simp only[nm0]);refine rd1 (r:=23) (h:=fun K hK=>?_))
    all_goals
     go_wp2_with fail
     refine(zk7 h.e.date _).mono ?_;rintro e w' ⟨rfl,rfl⟩;have hSa:=qch;clear qch;refine bkk hK hSa fun qch=>?_;clear hK K hSa;try simp only[nm0]
    all_goals first|(have hm:=kb;clear hm;refine rd1 (r:=26) (h:=fun K hK=>?_))|(refine rd2 (r:=26) (s:=32) (h:=fun K hK=>?_) (k:=fun K hK=>?_);rotate_left;go_wp2_with fail;have hSa:=qch.alloc qch.size b9;replace k1:=hiD (k1.out.alloc b9);replace k2:=hiD (k2.out.alloc k2.out.size b9);have kb:=hiD (Bk.new V0 121 #[.bool false,.bool false,.bool false,.bool false,.bool false,.bool false,.bool false,.bool false,.bool false]);clear qch;refine bkk hK hSa fun qch=>?_;clear hK K hSa;(try simp only[nm0]);refine rd1 (r:=26) (h:=fun K hK=>?_))
    all_goals
     go_wp2_with fail
     refine(zk7 h.e.n _).mono ?_;rintro e w' ⟨rfl,rfl⟩;have hSa:=qch;clear qch;refine bkk hK hSa fun qch=>?_;clear hK K hSa;try simp only[nm0]
    all_goals refine tkx (i:=31) (v:=.agg (zeq h.e)) (x:=fun w0 hC=>by simp[execOp,Act.eval,Act.put,go_sem];rfl) (s:=qch) (h:=?_)
    all_goals try simp only[nm0]
    all_goals first|(have hm:=kb;refine rd1 (r:=33) (h:=fun K hK=>?_))|(refine rd1 (r:=32) (h:=fun K hK=>?_);(go_wp2_with fail;have hSa:=qch.alloc qch.size b9;replace k1:=hiD (k1.out.alloc b9);replace k2:=hiD (k2.out.alloc k2.out.size b9);have kb:=hiD (Bk.new V0 121 #[.bool false,.bool false,.bool false,.bool false,.bool false,.bool false,.bool false,.bool false,.bool false]);clear qch;refine bkk hK hSa fun qch=>?_;clear hK K hSa;try simp only[nm0]);refine rd1 (r:=33) (h:=fun K hK=>?_))
    all_goals
     refine z5j 121 _ _ rfl V0.heap.size (zeq h.e) rfl rfl 121 _ kb.out rfl z5k (by intro v hv;simp[zeq] at hv;rcases hv with rfl|rfl|rfl|rfl|rfl|rfl|rfl|rfl|rfl<;>rfl) ?_;intro W9 hW9;have hl0:w.heap.size≠V0.heap.size:=by have:=k0.out.lt;omega
     have z1:Hid (Bk W9 V0.heap.size 121 (zeq h.e)):=hiD (by rw[hW9.out];exact kb.out.setRow_same _);have z2:Hid (Bk W9 w.heap.size 50 (evC h)):=hiD (by rw[hW9.out];exact k1.out.setRow_other hl0 _);have z3:Hid (Below w.heap.size w W9):=hiD (by rw[hW9.out];exact below_setRow k2.out k3.out _);have hSa:Below W2.heap.size W2 W9:=by rw[hW9.out];exact below_setRow qch k4.out _
     clear qch hW9;refine bkk hK hSa fun qch=>?_;clear hK K hSa;try simp only[nm0]
     refine wpAnyH_done (by kernel_rfl) ?_ _;go_wp2_with fail
     go_meet;exact⟨V0.heap.size,rfl,z1.out,z2.out,z3.out⟩
  case rest =>
   obtain⟨b5,rfl,hk5,hk1,hb⟩:=hcut;generalize wc=W3 at *;have x2:W3.cell? ⟨w.heap.size,2,none⟩=some (.string h.e.box):=hk1.cell 2;have x3:W3.cell? ⟨w.heap.size,3,none⟩=some (.string h.e.to_):=hk1.cell 3;have x4:W3.cell? ⟨w.heap.size,4,none⟩=some (.slice h.A1 h.n1 h.c1):=hk1.cell 4;have x5:W3.cell? ⟨w.heap.size,5,none⟩=some (.slice h.A2 h.n2 h.c2):=hk1.cell 5;have x6:W3.cell? ⟨w.heap.size,6,none⟩=some (.int .i64 h.e.mode):=hk1.cell 6;have x7:W3.cell? ⟨w.heap.size,7,none⟩=some (.int .i64 h.e.flags):=hk1.cell 7;have x8:W3.cell? ⟨w.heap.size,8,none⟩=some (.int .i64 h.e.date):=hk1.cell 8;have x9:W3.cell? ⟨w.heap.size,9,none⟩=some (.int .i64 h.e.n):=hk1.cell 9;have x10:W3.cell? ⟨w.heap.size,10,none⟩=some (.slice h.A3 h.n3 h.c3):=hk1.cell 10;have n98:h.e.box.toList.isEmpty=jm h.e 98:=zsd _;have n116:h.e.to_.toList.isEmpty=jm h.e 116:=zsd _
   have n105:((h.n1:Int) == 0)=jm h.e 105:=zlh HH.o.1.1;have n115:((h.n2:Int) == 0)=jm h.e 115:=zlh HH.o.2.1.1;have n109:(h.e.mode == 0)=jm h.e 109:=ziw _;have n102:(h.e.flags == 0)=jm h.e 102:=ziw _;have n100:(h.e.date == 0)=jm h.e 100:=ziw _;have n110:(h.e.n == 0)=jm h.e 110:=ziw _;have n121:((h.n3:Int) == 0)=jm h.e 121:=zlh HH.o.2.2.1.1;have K5:=hiD hk5;have K1:=hiD hk1;have KB:=hiD hb;clear hk5 hk1 hb R1 R2
   go_upto_region 7 with (fail)
   refine zil (fun W=>Bk W b5 121 (zeq h.e)∧Bk W W3.heap.size 121 (zsc h.e)∧Below w.heap.size w W) ⟨K5.o.alloc _,Bk.new _ _ _,KB.o.alloc KB.o.size _⟩ ?_;rintro W4 ⟨g5,g6,gb⟩;have G5:=hiD g5;have G6:=hiD g6;have GB:=hiD gb;obtain⟨b6,hb6⟩:∃ b,b=W3.heap.size:=⟨_,rfl⟩;rw[← hb6] at G6 ⊢;clear hb6 g5 g6 gb K5 K1 KB x2 x3 x4 x5 x6 x7 x8 x9 x10 n98 n116 n105 n115 n109 n102 n100 n110 n121;go_wp2_with fail
   go_loop [7] (fun i=>∃ k:Nat,k≤9∧i=.int .i64 (k:Int)∧∀ x∈nineL.take k,zco h.e x=true) (fun i=>9-(intOf i).toNat)
   case atStart=>exact⟨0,Nat.zero_le _,rfl,by simp⟩
   case round =>
    obtain⟨k,hk,rfl,hm⟩:=hrel;have HM:=hiD hm;clear hm;have fc:∀ i c,(zeq h.e)[i]?=some (.bool (okQ h.e c))→(zsc h.e)[i]?=some (.bool (jm h.e c))→W4.cell? ⟨b5,i,none⟩=some (.bool (okQ h.e c))∧W4.cell? ⟨b6,i,none⟩=some (.bool (jm h.e c)) ∧
     Hid (Calls Tryz.prog 70 #[.string (za (zg h.e.kind)),.int .u8 c] W4 fun e w'=>e=.returned (.bool (decide (c∈zg h.e.kind)))∧W4=w'):=fun i c x y=>⟨(G5.o.cell i).trans x,(G6.o.cell i).trans y,hiD (zaj h.e.kind c W4)⟩
    rcases(by omega:k=0∨k=1∨k=2∨k=3∨k=4∨k=5∨k=6∨k=7∨k=8∨k=9)with rfl|rfl|rfl|rfl|rfl|rfl|rfl|rfl|rfl|rfl
    obtain⟨u,v,CP⟩:=fc 0 98 rfl rfl;have hn:nineL[0]?=some 98:=rfl;rotate_left;obtain⟨u,v,CP⟩:=fc 1 116 rfl rfl;have hn:nineL[1]?=some 116:=rfl;rotate_left;obtain⟨u,v,CP⟩:=fc 2 105 rfl rfl;have hn:nineL[2]?=some 105:=rfl;rotate_left;obtain⟨u,v,CP⟩:=fc 3 115 rfl rfl;have hn:nineL[3]?=some 115:=rfl;rotate_left;obtain⟨u,v,CP⟩:=fc 4 109 rfl rfl;have hn:nineL[4]?=some 109:=rfl;rotate_left;obtain⟨u,v,CP⟩:=fc 5 102 rfl rfl;have hn:nineL[5]?=some 102:=rfl;rotate_left;obtain⟨u,v,CP⟩:=fc 6 100 rfl rfl;have hn:nineL[6]?=some 100:=rfl;rotate_left;obtain⟨u,v,CP⟩:=fc 7 110 rfl rfl;have hn:nineL[7]?=some 110:=rfl;rotate_left;obtain⟨u,v,CP⟩:=fc 8 121 rfl rfl;have hn:nineL[8]?=some 121:=rfl;rotate_left
    ·have HT2:=hiD (z5e HP0.o HT.o (fun c hc=>HM.o c (by rwa [List.take_of_length_le (by decide)])))
     go_wp2_with fail
     go_ret;exact⟨by rw[HT2.o]<;>rfl,GB.o⟩
    all_goals
     clear fc;have hF:=hiD (z5d (e:=h.e) (List.mem_of_getElem? hn));have hN:=hiD (z5h HM.o hn)
     revert hF hN
     generalize hx:zco h.e _=x;intro hF hN;clear hn;rcases qci hx with ⟨hin,hy⟩|⟨hin,hy⟩
     rw[decide_eq_true hin] at CP
     rotate_left
     rw[decide_eq_false hin] at CP
     all_goals
      try rw[hy] at u
      try rw[hy] at v
      clear hx hy hin;cases x
      all_goals
       go_wp2_with fail
       refine CP.o.mono ?_;rintro e w' ⟨rfl,rfl⟩;go_wp2_with fail
       try
        refine CP.o.mono ?_;rintro e w' ⟨rfl,rfl⟩;go_wp2_with fail
      ·have HF:=hiD (hF.out (by first|rfl|trivial))
       go_ret;exact⟨by rw[HF.o]<;>rfl,GB.o⟩
      go_round
      case rel=>exact⟨_,by first|decide|omega|simp,rfl,hN.out (by first|rfl|trivial)⟩
      case measure=>simp[intOf]
end Go.Proofs.YtmjjefnmabbgdaaGreatDoor
