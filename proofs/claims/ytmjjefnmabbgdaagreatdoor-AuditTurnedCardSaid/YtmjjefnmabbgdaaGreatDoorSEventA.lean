/- A part of the proof. -/
import Derived.Test.YtmjjefnmabbgdaaGreatDoorSNameLib
import Derived.Laws.EntriesVeiled
import Derived.Lib.OthersKept
namespace Go.Proofs.YtmjjefnmabbgdaaGreatDoor
set_option linter.unusedVariables false
set_option linter.unusedSimpArgs false
set_option maxRecDepth 100000
set_option maxHeartbeats 16000000
open Go.RowKit
theorem zq8 {z:Int}(h:¬ 0≤z):tmB z=false:=decide_eq_false fun e=>h e.1
theorem zq9 {z:Int}(h:¬ z≤1099511627776):tmB z=false:=decide_eq_false fun e=>h e.2
theorem zra {z:Int}(h:0≤z)(h2:z≤1099511627776):tmB z=true:=decide_eq_true ⟨h,h2⟩
theorem zk6 (z:Int)(w:World):Calls Tryz.prog 107 #[.int .i64 z] w fun e w'=>e=.returned (.bool (tmB z))∧w=w':=by
 by_cases h1:0≤z
 ·by_cases h2:z≤1099511627776
  ·have HR:=hiD (zra h1 h2)
   go_enter Tryz.func107,Tryz.ntmps107
   go_wp2_with fail
   go_ret;exact⟨by rw[HR.o]<;>rfl,rfl⟩
  ·have HR:=hiD (zq9 h2)
   go_enter Tryz.func107,Tryz.ntmps107
   go_wp2_with fail
   go_ret;exact⟨by rw[HR.o]<;>rfl,rfl⟩
 ·have HR:=hiD (zq8 h1)
  go_enter Tryz.func107,Tryz.ntmps107
  go_wp2_with fail
  go_ret;exact⟨by rw[HR.o]<;>rfl,rfl⟩
theorem zk7 (z:Int)(w:World):Calls Tryz.prog 66 #[.int .i64 z] w fun e w'=>e=.returned (.bool (tmB z))∧w=w':=by
 by_cases h1:0≤z
 ·by_cases h2:z≤1099511627776
  ·have HR:=hiD (zra h1 h2)
   go_enter Tryz.func66,Tryz.ntmps66
   go_wp2_with fail
   go_ret;exact⟨by rw[HR.o]<;>rfl,rfl⟩
  ·have HR:=hiD (zq9 h2)
   go_enter Tryz.func66,Tryz.ntmps66
   go_wp2_with fail
   go_ret;exact⟨by rw[HR.o]<;>rfl,rfl⟩
 ·have HR:=hiD (zq8 h1)
  go_enter Tryz.func66,Tryz.ntmps66
  go_wp2_with fail
  go_ret;exact⟨by rw[HR.o]<;>rfl,rfl⟩
def zg2 (l:List Int)(k:Nat):Int:=if k=0 then 0 else l.getD (k-1) 0
theorem z10 {l:List Int}{k:Nat}{z:Int}(h:l[k]?=some z):zg2 l (k+1)=z:=by
 unfold zg2;rw[if_neg (by omega),Nat.add_sub_cancel];simp[h]
theorem z11 {l:List Int}{k:Nat}{z:Int}(h:l[k]?=some z)(hu:zfs l k):zcl l k=decide (zg2 l k<z∧z≤4294967295):=by
 unfold zcl zg2;have e:l.getD k 0=z:=by simp[h]
 rw[e];refine decide_eq_decide.2 ?_;rcases Nat.eq_zero_or_pos k with h0|h0
 ·rw[if_pos h0]
  constructor
  ·rintro⟨a,b,c⟩;exact⟨by omega,b⟩
  ·rintro⟨a,b⟩;exact⟨by omega,b,.inl h0⟩
 ·rw[if_neg (by omega)]
  have h1:=(of_decide_eq_true (hu (k-1) (by omega))).1;constructor
  ·rintro⟨a,b,c⟩
   rcases c with c|c
   ·omega
   ·exact⟨c,b⟩
  ·rintro⟨a,b⟩;exact⟨by omega,b,.inr a⟩
theorem zrb {l:List Int}(h:l.length<1):idsB l=false:=by unfold idsB;rw[decide_eq_false (by omega)];rfl
theorem zrc {l:List Int}(h:60<l.length):idsB l=false:=by unfold idsB;rw[decide_eq_false (by omega)];rfl
theorem zrd {l:List Int}(h:zel l=false):idsB l=false:=by unfold idsB;rw[h,Bool.and_false]
theorem z12 {l:List Int}(h1:¬ l.length<1)(h2:¬ 60<l.length)(h:zel l=true):idsB l=true:=by unfold idsB;rw[h,decide_eq_true (by omega)];rfl
theorem z13 (A:Option Addr)(n c:Nat)(l:List Int)(w:World)(hl:Col ints w w.heap.size A n l)(hn:n≤140737488355328) :
 Calls Tryz.prog 182 #[.slice A n c] w fun e w'=>e=.returned (.bool (idsB l))∧w=w':=by
 have HL:=hiD hl;have HLN:=hiD hl.1;clear hl;by_cases h1:n<1
 ·have h1':(n:Int)<1:=by omega
  have HR:=hiD (zrb (l:=l) (by rw[HLN.o];exact h1));go_enter Tryz.func182,Tryz.ntmps182
  go_wp2_with fail
  go_ret;exact⟨by rw[HR.o]<;>rfl,rfl⟩
 by_cases h2:60<n
 ·have h1':¬ (n:Int)<1:=by omega
  have h2':(60:Int)<(n:Int):=by omega
  have HR:=hiD (zrc (l:=l) (by rw[HLN.o];exact h2));go_enter Tryz.func182,Tryz.ntmps182
  go_wp2_with fail
  go_ret;exact⟨by rw[HR.o]<;>rfl,rfl⟩
 have h1':¬ (n:Int)<1:=by omega
 have h2':¬ (60:Int)<(n:Int):=by omega
 go_enter Tryz.func182,Tryz.ntmps182
 go_wp2_with fail
 go_loop [3,16] (fun p i=>∃ (k:Nat) (q:Int),k≤n∧i=.int .i64 (k:Int)∧p=.int .i64 q∧q=zg2 l k∧zfs l k) (fun _ i=>n-(intOf i).toNat)
 case atStart=>exact⟨0,0,Nat.zero_le _,rfl,rfl,rfl,fun i hi=>by omega⟩
 case round =>
  obtain⟨k,q,hk,rfl,rfl,hq,hu⟩:=hrel;have HQ:=hiD hq;have HU:=hiD hu;clear hq hu;by_cases hlt:k<n
  ·have hk0:(0:Int)≤(k:Int):=by omega
   have hkn:(k:Int)<(n:Int):=by omega
   obtain⟨b,o,z,rfl,hbb,hla,htk,hc⟩:=HL.o.at_ hlt;unfold ints at hc;have HLA:=hiD hla;have ha:=z11 hla HU.o;rw[← HQ.o] at ha;have HA:=hiD ha;have HLT:=hiD (show k<l.length by rw[HLN.o];exact hlt);clear hla htk ha;by_cases hz1:z≤q
   ·have HR:=hiD (zrd (zgz HLT.o (by rw[HA.o];exact decide_eq_false (by omega))))
    go_wp2_with fail
    go_ret;exact⟨by rw[HR.o]<;>rfl,rfl⟩
   ·by_cases hz2:4294967295<z
    ·have HR:=hiD (zrd (zgz HLT.o (by rw[HA.o];exact decide_eq_false (by omega))))
     go_wp2_with fail
     go_ret;exact⟨by rw[HR.o]<;>rfl,rfl⟩
    ·have HN:=hiD (zlf HU.o (by rw[HA.o];exact decide_eq_true (by omega)))
     go_wp2_with fail
     go_round
     case rel=>exact⟨k+1,z,by omega,by go_num,rfl,(z10 HLA.o).symm,HN.o⟩
     case measure=>simp[intOf];omega
  ·have hkn:¬ (k:Int)<(n:Int):=by omega
   have HR:=hiD (z12 (l:=l) (by rw[HLN.o];exact h1) (by rw[HLN.o];exact h2) (zr6 HU.o (by rw[HLN.o];omega)));go_wp2_with fail
   go_ret;exact⟨by rw[HR.o]<;>rfl,rfl⟩
section
variable {P:Program}
theorem z14 {ops:Array Oper}{rest:List Oper}{o:Oper}{a:Act}{w:World}{Q:Exit→Act→World→Prop}(hgd:o.guard=none)(s x:Operand)(t:TypeId)
 (ho:o.op=.call { callee:=.builtin .append,args:=#[s,x],argTypes:=#[t,t] }) {e:TypeId} (ht:P.underlying t=some (.slice e)) {zv:Value} {by_:Nat}
 (he:(P.info? e).map (fun i=>(i.zero,i.size,i.bytes))=some (some zv,1,by_)) (hzc:zv.cells.size=1) (hby:by_≤24)
 (base:Nat) (A:Option Addr) (n c:Nat) (vs:List Value) (hs:a.eval s=.slice A n c) (hown:OwnV w base e A n c vs)
 (A':Option Addr) (m c':Nat) (us:List Value) (hx:a.eval x=.slice A' m c') (hl:us.length=m) (hc:0<m→∃ b o,A'=some ⟨b,o,none⟩∧∀ (i:Nat) (u:Value),us[i]?=some u→w.cell? ⟨b,o+i,none⟩=some u)
 (hone:∀ u∈us,u.oneCell'=true) (hnm:n+m≤1000000) (hbase:base≤w.heap.size)
 (h:∀ A2 c2 w',OwnV w' base e A2 (n+m) c2 (vs++us)→Below base w w'→wpList P ops Q rest (a.put o.dst (.slice A2 (n+m) c2)) w'):wpList P ops Q (o::rest) a w :=
 wpList_plain hgd fun _ hK=>by
  obtain⟨A2,c2,w',hrun,h1,h2⟩:=zwx (P:=P) hown t o.type ht he hzc hby (c':=c') hl hc hone hnm hbase;unfold Oper.wp execOp;simp only[ho,resolve,invoke,builtin,Sem.run_bind,Sem.run_pure,Result.andThen_ok,List.map_toArray,List.map_cons,List.map_nil,hs,hx,hrun];exact hK _ _ (h A2 c2 w' h1 h2)
end
theorem zk8:(Tryz.prog.info? 3).map (fun i=>(i.zero,i.size,i.bytes))=some (some (.int .i64 0),1,8):=by kernel_rfl
theorem zg3:(Tryz.prog.info? 114).map (fun i=>(i.zero,i.size,i.bytes))=some (some (.agg #[.int .i64 0,.int .i64 0]),2,16):=by kernel_rfl
theorem OwnV.colE {w:World}{base n c:Nat}{A:Option Addr}{l:List Int}(h:OwnV w base 3 A n c (l.map ints)):Col ints w w.heap.size A n l:=by
 have hlen:l.length=n:=by have:=OwnV.len h;simpa using this
 refine⟨hlen,fun hn=>?_⟩;obtain⟨g,hA,_,hg,hc⟩:=OwnV.cells h hn;exact⟨g,0,hA,hg,fun i a ha=>by rw[Nat.zero_add];exact hc i _ (by simp[ha])⟩
def GiveN (l:List Int)(w0:World)(e:Ending)(w':World):Prop:=∃ A c,e=.returned (.slice A l.length c)∧Col ints w' w'.heap.size A l.length l∧Below w0.heap.size w0 w'
theorem z15 {l:List Rg}{k:Nat}{x y:Int}(h:l.take (k+1)=l.take k++[(x,y)]):(qc (l.take (k+1))).map ints=(qc (l.take k)).map ints++[.int .i64 x,.int .i64 y]:=by
 rw[h,zki,List.map_append];rfl
theorem z16 (A:Option Addr)(n c:Nat)(l:List Rg)(w:World)(hl:ColK 2 rgC w w.heap.size A n l)(hn:n≤400000) :
 Calls Tryz.prog 257 #[.slice A n c] w (GiveN (qc l) w):=by
 have HL:=hiD hl;clear hl;go_enter Tryz.func257,Tryz.ntmps257
 go_wp2_with fail
 go_loopw [3,8] (fun t i wx=>∃ (k n2 c2:Nat) (A2:Option Addr),k≤n∧i=.int .i64 (k:Int)∧n2=2*k∧t=.slice A2 n2 c2∧OwnV wx w.heap.size 3 A2 n2 c2 ((qc (l.take k)).map ints)∧Below w.heap.size w wx) (fun _ i _=>n-(intOf i).toNat)
 case atStart=>exact⟨0,0,0,none,Nat.zero_le _,rfl,rfl,rfl,OwnV.nil,Below.refl _ _⟩
 case round =>
  obtain⟨k,n2,c2,A2,hk,rfl,hn2,rfl,ho,hb⟩:=hrel;have hn2':n2≤800000:=by omega
  have HO:=hiD ho;have HB:=hiD hb;have HN2:=hiD hn2;clear ho hb hn2;by_cases hlt:k<n
  ·obtain⟨b,o,x,rfl,hbb,hla,htk,hrow⟩:=(HL.o.below HB.o (Nat.le_refl _)).at_ hlt
   obtain⟨x,y⟩:=x;have HTK:=hiD (z15 htk);have hk0:(0:Int)≤(k:Int):=by omega
   have hkn:(k:Int)<(n:Int):=by omega
   have HROW:=hiD hrow;clear hla htk hrow;go_wp2_with (with_reducible refine stn 11 ?_)
   refine held (wpList_load_mid rfl 114 (.tmp 10) rfl b (o+k*2) rfl (rgC (x,y)) _ HROW.o Tryz.underlying114 rfl (by kernel_rfl) ?_);unfold rgC;go_wp2_with (with_reducible refine stn 18 ?_)
   have hws:=HB.o.size;have hb3:Below w.heap.size w ((wr.alloc (.cells #[.int .i64 x,.int .i64 y] 114)).alloc (.cells #[.int .i64 x,.int .i64 y] 3)):=(HB.o.alloc hws _).alloc (by simp;omega) _;have ho3:=(HO.o.alloc (.cells #[.int .i64 x,.int .i64 y] 114)).alloc (.cells #[.int .i64 x,.int .i64 y] 3);have h3:Bk ((wr.alloc (.cells #[.int .i64 x,.int .i64 y] 114)).alloc (.cells #[.int .i64 x,.int .i64 y] 3)) (wr.heap.size+1) 3 #[.int .i64 x,.int .i64 y]:=Bk.new2 _ _ _ _;refine held (z14 rfl (.tmp 12) (.tmp 17) 46 rfl Tryz.underlying46 zk8 rfl (by omega) w.heap.size A2 n2 c2 _ rfl ho3 (some ⟨wr.heap.size+1,0,none⟩) 2 2 [.int .i64 x,.int .i64 y] rfl rfl (fun _=>⟨_,_,rfl,fun i u hu=>by rw[Nat.zero_add,h3.cell i];simpa using hu⟩) (by simp[Value.oneCell']) (by omega) (by simp;omega) ?_);intro A4 c4 w4 ho4 hb4;have HO4:Hid (OwnV w4 w.heap.size 3 A4 (n2+2) c4 ((qc (l.take (k+1))).map ints)):=hiD (by rw[HTK.o];exact ho4)
   have HB4:=hiD (hb3.trans hb4);clear ho3 hb3 h3 hws ho4 hb4;go_wp2_with fail
   go_roundw
   case rel=>exact⟨k+1,n2+2,c4,A4,by omega,by go_num,by have:=HN2.o;omega,rfl,HO4.o,HB4.o⟩
   case measure=>simp[intOf];omega
  ·have hkn:¬ (k:Int)<(n:Int):=by omega
   have ho4:OwnV wr w.heap.size 3 A2 n2 c2 ((qc l).map ints):=by have:=HO.o;rwa [List.take_of_length_le (by rw[HL.o.1];omega)] at this
   have hlen:(qc l).length=n2:=by have:=OwnV.len ho4;simpa using this
   have HO4:=hiD ho4;have HLE:=hiD hlen;clear ho4 hlen;go_wp2_with fail
   go_ret;exact⟨A2,c2,by rw[HLE.o]<;>rfl,by rw[HLE.o];exact HO4.o.colE,HB.o⟩
def za5 (z:Int):Bool:=decide (z<0∨4294967295<z)
theorem z17 (z:Int)(w:World):Calls Tryz.prog 256 #[.int .i64 z] w fun e w'=>e=.returned (.bool (za5 z))∧w=w':=by
 by_cases h1:z<0
 ·have HR:Hid (za5 z=true):=hiD (decide_eq_true (.inl h1))
  go_enter Tryz.func256,Tryz.ntmps256
  go_wp2_with fail
  go_ret;exact⟨by rw[HR.o]<;>rfl,rfl⟩
 ·by_cases h2:4294967295<z
  ·have HR:Hid (za5 z=true):=hiD (decide_eq_true (.inr h2))
   go_enter Tryz.func256,Tryz.ntmps256
   go_wp2_with fail
   go_ret;exact⟨by rw[HR.o]<;>rfl,rfl⟩
  ·have HR:Hid (za5 z=false):=hiD (decide_eq_false (by omega))
   go_enter Tryz.func256,Tryz.ntmps256
   go_wp2_with fail
   go_ret;exact⟨by rw[HR.o]<;>rfl,rfl⟩
theorem z18 {l:List Int}{k:Nat}{z:Int}{p:Int→Bool}(h:(l.take k).any p=false)(ht:l.take (k+1)=l.take k++[z])(hz:p z=false):(l.take (k+1)).any p=false:=by
 rw[ht,List.any_append,h];simp[hz]
theorem z19 {l:List Int}{p:Int→Bool}{k:Nat}{r:Int}(hr:l[k]?=some r)(h:p r=true):l.any p=true:=List.any_eq_true.2 ⟨r,List.mem_of_getElem? hr,h⟩
theorem z2a (A:Option Addr)(m c:Nat)(l:List Int)(w:World)(hl:Col ints w w.heap.size A m l)(hm:m≤1000000) :
 Calls Tryz.prog 277 #[.slice A m c,.func (.func 256) #[] #[]] w fun e w'=>(∃ z:Int,e=.returned (.int .i64 z)∧(decide (0≤z)=l.any za5))∧w=w':=by
 have HL:=hiD hl;clear hl;go_enter Tryz.func277,Tryz.ntmps277
 go_wp2_with fail
 go_loop [8] (fun i=>∃ k:Nat,k≤m∧i=.int .i64 (k:Int)∧(l.take k).any za5=false) (fun i=>m-(intOf i).toNat)
 case atStart=>exact⟨0,Nat.zero_le _,rfl,rfl⟩
 case round =>
  obtain⟨k,hk,rfl,ha⟩:=hrel;have HA:=hiD ha;clear ha;by_cases hlt:k<m
  ·obtain⟨b,o,z,rfl,hbb,hla,htk,hc⟩:=HL.o.at_ hlt
   unfold ints at hc;have HLA:=hiD hla;have HTK:=hiD htk;have hk0:(0:Int)≤(k:Int):=by omega
   have hkn:(k:Int)<(m:Int):=by omega
   have CI:=hiD (z17 z w);clear hla htk;go_wp2_with fail
   refine CI.o.mono ?_;rintro e w' ⟨rfl,rfl⟩;cases hok:za5 z
   ·have HS:=hiD (z18 HA.o HTK.o hok)
    clear hok;go_wp2_with fail
    go_round
    case rel=>exact⟨k+1,by omega,by go_num,HS.o⟩
    case measure=>simp[intOf];omega
   ·have HS:=hiD (z19 HLA.o hok)
    clear hok;go_wp2_with fail
    go_ret;exact⟨⟨(k:Int),rfl,by rw[HS.o,decide_eq_true hk0]⟩,rfl⟩
  ·have hkn:¬ (k:Int)<(m:Int):=by omega
   have HS:Hid (l.any za5=false):=hiD (by have:=HA.o;rwa [List.take_of_length_le (by rw[HL.o.1];omega)] at this);go_wp2_with fail
   go_ret;exact⟨⟨-1,rfl,by rw[HS.o];rfl⟩,rfl⟩
theorem zfp {a b:Bool}(h:a=b):Ending.returned (.bool a)=.returned (.bool b):=by rw[h]
theorem z2b (A:Option Addr)(m c:Nat)(l:List Int)(w:World)(hl:Col ints w w.heap.size A m l)(hm:m≤1000000) :
 Calls Tryz.prog 214 #[.slice A m c,.func (.func 256) #[] #[]] w fun e w'=>e=.returned (.bool (l.any za5))∧w=w':=by
 have CI:=hiD (z2a A m c l w hl hm);clear hl;go_enter Tryz.func214,Tryz.ntmps214
 go_wp2_with fail
 refine CI.o.mono ?_;rintro e w' ⟨⟨z,rfl,hz⟩,rfl⟩;have HZ:=hiD hz;clear hz CI;by_cases h0:0≤z
 ·have HR:Hid (l.any za5=true):=hiD (by rw[← HZ.o];exact decide_eq_true h0)
  go_wp2_with fail
  go_ret;exact⟨by rw[HR.o]<;>rfl,rfl⟩
 ·have HR:Hid (l.any za5=false):=hiD (by rw[← HZ.o];exact decide_eq_false h0)
  go_wp2_with fail
  go_ret;exact⟨zfp (by rw[HR.o]<;>first|rfl|exact decide_eq_false (by omega)),rfl⟩
theorem z2c (l:List Rg):(qc l).any za5=!decide (∀ r∈l,okR r):=by
 rw[Bool.eq_iff_iff,List.any_eq_true,Bool.not_eq_true',decide_eq_false_iff_not];constructor
 ·rintro⟨z,hz,hw⟩ hall
  unfold qc at hz;obtain⟨r,hr,hz⟩:=List.mem_flatMap.1 hz;obtain⟨⟨a,b⟩,c,d⟩:=hall r hr;have hw':=of_decide_eq_true hw;simp only[List.mem_cons,List.not_mem_nil,or_false] at hz;rcases hz with rfl|rfl<;>omega
 ·intro h
  refine Decidable.byContradiction fun hn=>h fun r hr=>?_;have h1:za5 r.1=false:=Bool.eq_false_iff.2 fun e=>hn ⟨r.1,List.mem_flatMap.2 ⟨r,hr,by simp⟩,e⟩;have h2:za5 r.2=false:=Bool.eq_false_iff.2 fun e=>hn ⟨r.2,List.mem_flatMap.2 ⟨r,hr,by simp⟩,e⟩;have h1':=of_decide_eq_false h1;have h2':=of_decide_eq_false h2;exact⟨⟨by omega,by omega⟩,⟨by omega,by omega⟩⟩
theorem zre (l:List Rg):setB l=(decide (l.length≤60) && !(qc l).any za5):=by
 rw[z2c,Bool.not_not];unfold setB;rw[← Bool.decide_and]
theorem z2d (A:Option Addr)(n c:Nat)(l:List Rg)(w:World)(hl:ColK 2 rgC w w.heap.size A n l)(hn:n≤140737488355328) :
 Calls Tryz.prog 183 #[.slice A n c] w fun e w'=>e=.returned (.bool (setB l))∧Below w.heap.size w w':=by
 by_cases h1:n≤60
 ·have h1':(n:Int)≤60:=by omega
  have CE:=hiD (z16 A n c l w hl (by omega));have hlen:(qc l).length≤1000000:=by rw[zd3,hl.1];omega
  have HLE:=hiD hlen;have HS:Hid (setB l=!(qc l).any za5):=hiD (by rw[zre,decide_eq_true (by rw[hl.1];exact h1)];rfl);clear hl hlen;go_enter Tryz.func183,Tryz.ntmps183
  go_wp2_with fail
  refine CE.o.mono ?_;rintro e w1 ⟨A1,c1,rfl,hc,hb⟩;have CC:=hiD (z2b A1 _ c1 _ w1 hc HLE.o);have HB:=hiD hb;clear hc hb CE;go_wp2_with fail
  refine CC.o.mono ?_;rintro e w' ⟨rfl,rfl⟩;clear CC;go_wp2_with fail
  go_ret;exact⟨by rw[HS.o]<;>rfl,HB.o⟩
 ·have h1':¬ (n:Int)≤60:=by omega
  have HS:Hid (setB l=false):=hiD (by rw[zre,decide_eq_false (by rw[hl.1];exact h1)];rfl);clear hl;go_enter Tryz.func183,Tryz.ntmps183
  go_wp2_with fail
  go_ret;exact⟨by rw[HS.o]<;>rfl,Below.refl _ _⟩
theorem zen (A B:Option Addr)(n c m d:Nat)(l r:List Rg)(w:World)(hl:ColK 2 rgC w w.heap.size A n l)(hr:ColK 2 rgC w w.heap.size B m r)(hn:n≤140737488355328)(hm:m≤140737488355328) :
 Calls Tryz.prog 186 #[.slice A n c,.slice B m d] w fun e w'=>e=.returned (.bool (decide (l=r)))∧∃ q,w'=w.drewN q:=by
 have HL:=hiD hl;have HR:=hiD hr;by_cases hnm:n=m
 ·subst hnm
  have hne:((n:Int) != (n:Int))=false:=by simp
  clear hl hr;go_enter Tryz.func186,Tryz.ntmps186
  go_wp2_with fail
  go_loopw [13] (fun i wx=>∃ k q:Nat,k≤n∧i=.int .i64 (k:Int)∧l.take k=r.take k∧wx=w.drewN q) (fun i _=>n-(intOf i).toNat)
  case atStart=>exact⟨0,0,Nat.zero_le _,rfl,rfl,rfl⟩
  case round =>
   obtain⟨k,q,hk,rfl,hm,hw⟩:=hrel;have HM:=hiD hm;have HW:=hiD hw;clear hm hw;by_cases hlt:k<n
   ·obtain⟨b,o,x,rfl,hbb,hla,htk,hc⟩:=HL.o.at_ hlt
    obtain⟨b2,o2,y,rfl,hbb2,hla2,htk2,hc2⟩:=HR.o.at_ hlt;rw[show w.rangeAt b (o+k*2) (rgC x)=wr.rangeAt b (o+k*2) (rgC x)by rw[HW.o];rfl] at hc;rw[show w.rangeAt b2 (o2+k*2) (rgC y)=wr.rangeAt b2 (o2+k*2) (rgC y)by rw[HW.o];rfl] at hc2;obtain⟨x0,x1⟩:=x;obtain⟨y0,y1⟩:=y;have r0:=hc 0 _ rfl;have r1:=hc 1 _ rfl;have s0:=hc2 0 _ rfl;have s1:=hc2 1 _ rfl;rw[Nat.add_zero] at r0 s0;have hk0:(0:Int)≤(k:Int):=by omega
    have hkn:(k:Int)<(n:Int):=by omega
    have HA1:=hiD hla;have HA2:=hiD hla2;have HT1:=hiD htk;have HT2:=hiD htk2;clear hla hla2 htk htk2 hc hc2;by_cases he:(x0,x1)=(y0,y1)
    ·injection he with he1 he2
     subst he1 he2;have kq:∀ W,(binOp .neq 114 (.agg #[.int .i64 x0,.int .i64 x1]) (.agg #[.int .i64 x0,.int .i64 x1])).run Tryz.prog W=.ok (.bool false) W:=fun W=>by rw[zit];simp
     have HN:Hid (l.take (k+1)=r.take (k+1)):=hiD (by rw[HT1.o,HT2.o,HM.o]);go_wp2_with fail
     go_quiet (fail)
     go_wp2_with fail
     go_roundw
     case rel=>exact⟨k+1,_,by omega,by go_num,HN.o,by rw[HW.o];exact zbf _ _ _⟩
     case measure=>simp[intOf];omega
    ·have kq:∀ W,(binOp .neq 114 (.agg #[.int .i64 x0,.int .i64 x1]) (.agg #[.int .i64 y0,.int .i64 y1])).run Tryz.prog W=.ok (.bool true) W:=fun W=>by rw[zit,decide_eq_false he];rfl
     have HN:Hid (decide (l=r)=false):=hiD (decide_eq_false (zis HA1.o HA2.o he));clear he;go_wp2_with fail
     go_quiet (fail)
     go_wp2_with fail
     go_ret;exact⟨by rw[HN.o]<;>rfl,_,by rw[HW.o];exact zbf _ _ _⟩
   ·have HN:Hid (decide (l=r)=true):=hiD (decide_eq_true (zir (HL.o.1.trans HR.o.1.symm) k HM.o (by rw[HL.o.1];omega)))
    go_wp2_with fail
    go_ret;exact⟨by rw[HN.o]<;>rfl,_,HW.o⟩
 ·have hne:((n:Int) != (m:Int))=true:=by simp;omega
  have HN:Hid (decide (l=r)=false):=hiD (decide_eq_false (fun e=>hnm (by rw[← hl.1,← hr.1,e])));clear hl hr;go_enter Tryz.func186,Tryz.ntmps186
  go_wp2_with fail
  go_ret;exact⟨by rw[HN.o]<;>rfl,0,rfl⟩
theorem zd6 (A B:Option Addr)(n c m d:Nat)(l r:List Int)(w:World)(hl:Col ints w w.heap.size A n l)(hr:Col ints w w.heap.size B m r)(hn:n≤140737488355328)(hm:m≤140737488355328) :
 Calls Tryz.prog 185 #[.slice A n c,.slice B m d] w fun e w'=>e=.returned (.bool (decide (l=r)))∧∃ q,w'=w.drewN q:=by
 have HL:=hiD hl;have HR:=hiD hr;by_cases hnm:n=m
 ·subst hnm
  have hne:((n:Int) != (n:Int))=false:=by simp
  clear hl hr;go_enter Tryz.func185,Tryz.ntmps185
  go_wp2_with fail
  go_loopw [13] (fun i wx=>∃ k q:Nat,k≤n∧i=.int .i64 (k:Int)∧l.take k=r.take k∧wx=w.drewN q) (fun i _=>n-(intOf i).toNat)
  case atStart=>exact⟨0,0,Nat.zero_le _,rfl,rfl,rfl⟩
  case round =>
   obtain⟨k,q,hk,rfl,hm,hw⟩:=hrel;have HM:=hiD hm;have HW:=hiD hw;clear hm hw;by_cases hlt:k<n
   ·obtain⟨b,o,x,rfl,hbb,hla,htk,hc⟩:=HL.o.at_ hlt
    obtain⟨b2,o2,y,rfl,hbb2,hla2,htk2,hc2⟩:=HR.o.at_ hlt;rw[show w.cell? ⟨b,o+k,none⟩=wr.cell? ⟨b,o+k,none⟩by rw[HW.o];rfl] at hc;rw[show w.cell? ⟨b2,o2+k,none⟩=wr.cell? ⟨b2,o2+k,none⟩by rw[HW.o];rfl] at hc2;have hk0:(0:Int)≤(k:Int):=by omega
    have hkn:(k:Int)<(n:Int):=by omega
    unfold ints at hc hc2;have HA1:=hiD hla;have HA2:=hiD hla2;have HT1:=hiD htk;have HT2:=hiD htk2;clear hla hla2 htk htk2;by_cases he:x=y
    ·subst he
     have hxy:(x != x)=false:=by simp
     have HN:Hid (l.take (k+1)=r.take (k+1)):=hiD (by rw[HT1.o,HT2.o,HM.o]);go_wp2_with fail
     go_quiet (fail)
     go_wp2_with fail
     go_roundw
     case rel=>exact⟨k+1,_,by omega,by go_num,HN.o,by rw[HW.o];exact zbf _ _ _⟩
     case measure=>simp[intOf];omega
    ·have hxy:(x != y)=true:=by simp;exact he
     have HN:Hid (decide (l=r)=false):=hiD (decide_eq_false (zis HA1.o HA2.o he));go_wp2_with fail
     go_quiet (fail)
     go_wp2_with fail
     go_ret;exact⟨by rw[HN.o]<;>rfl,_,by rw[HW.o];exact zbf _ _ _⟩
   ·have HN:Hid (decide (l=r)=true):=hiD (decide_eq_true (zir (HL.o.1.trans HR.o.1.symm) k HM.o (by rw[HL.o.1];omega)))
    go_wp2_with fail
    go_ret;exact⟨by rw[HN.o]<;>rfl,_,HW.o⟩
 ·have hne:((n:Int) != (m:Int))=true:=by simp;omega
  have HN:Hid (decide (l=r)=false):=hiD (decide_eq_false (fun e=>hnm (by rw[← hl.1,← hr.1,e])));clear hl hr;go_enter Tryz.func185,Tryz.ntmps185
  go_wp2_with fail
  go_ret;exact⟨by rw[HN.o]<;>rfl,0,rfl⟩
theorem zrf (A:Option Addr)(n c B:Nat)(l:List Nat)(A':Option Addr)(n' c' B':Nat)(l':List Nat)(w:World)(hl:Bytes w B A n l)(hl':Bytes w B' A' n' l') :
 Calls Tryz.prog 87 #[.slice A n c,.slice A' n' c'] w fun e w'=>e=.returned (.bool (decide (l=l')))∧w=w':=by
 have h1:=zcg (P:=Tryz.prog) (c:=c) hl Tryz.underlying48 Tryz.underlying5 Tryz.underlying9;have h2:=zcg (P:=Tryz.prog) (c:=c') hl' Tryz.underlying48 Tryz.underlying5 Tryz.underlying9;have he:=ze8 l l' hl.2.1 hl'.2.1;generalize decide (l=l')=b at *;go_enter Tryz.func87,Tryz.ntmps87
 go_wp2
 go_ret;exact⟨rfl,rfl⟩
theorem zrg (A:Option Addr)(n c B:Nat)(l:List Nat)(A':Option Addr)(n' c' B':Nat)(l':List Nat)(w:World)(hl:Bytes w B A n l)(hl':Bytes w B' A' n' l') :
 Calls Tryz.prog 26 #[.slice A n c,.slice A' n' c'] w fun e w'=>e=.returned (.bool (decide (l=l')))∧w=w':=by
 have h1:=zcg (P:=Tryz.prog) (c:=c) hl Tryz.underlying48 Tryz.underlying5 Tryz.underlying9;have h2:=zcg (P:=Tryz.prog) (c:=c') hl' Tryz.underlying48 Tryz.underlying5 Tryz.underlying9;have he:=ze8 l l' hl.2.1 hl'.2.1;generalize decide (l=l')=b at *;go_enter Tryz.func26,Tryz.ntmps26
 go_wp2
 go_ret;exact⟨rfl,rfl⟩
theorem z2e (a b:ByteArray):(a.toList == b.toList)=decide (a=b):=by
 have h:=z4r a (nats b) (zd1 b);rw[zaw] at h;rw[h];exact decide_eq_decide.2 ⟨fun e=>by rw[← zaw a,e,zaw],fun e=>by rw[e]⟩
theorem zik {a b:ByteArray}(h:¬ a=b):(a.toList == b.toList)=false:=by rw[z2e];exact decide_eq_false h
theorem jf {a b:Int}(h:¬ a=b):(a == b)=false:=by simpa using h
def SameIs (h g:Eh)(w:World)(e:Ending)(w':World):Prop:=e=.returned (.bool (evEq h.e g.e))∧Below w.heap.size w w'
theorem qb {P:Program}{f:FuncId}{vs:Array Value}{W:World}{Q:Ending→World→Prop}(G:World→Prop)(hG:G W)(h:∀ W',G W'→Calls P f vs W' Q):Calls P f vs W Q:=h W hG
theorem Bk.drewNE {w:World}{b:Nat}{t:TypeId}{cs:Array Value}(h:Bk w b t cs)(q:Nat):Bk (w.drewN q) b t cs:=h
def kindC:List Value:=[.int .i64 (((0:Nat):Int)+1),.string (za (letK 0)),.int .i64 (((1:Nat):Int)+1),.string (za (letK 1)),.int .i64 (((2:Nat):Int)+1),.string (za (letK 2)),.int .i64 (((3:Nat):Int)+1),.string (za (letK 3)),.int .i64 (((4:Nat):Int)+1),.string (za (letK 4)),.int .i64 (((5:Nat):Int)+1),.string (za (letK 5)),.int .i64 (((6:Nat):Int)+1),.string (za (letK 6)),.int .i64 (((7:Nat):Int)+1),.string (za (letK 7)),.int .i64 (((8:Nat):Int)+1),.string (za (letK 8)),.int .i64 (((9:Nat):Int)+1),.string (za (letK 9)),.int .i64 (((10:Nat):Int)+1),.string (za (letK 10)),.int .i64 (((11:Nat):Int)+1),.string (za (letK 11)),.int .i64 (((12:Nat):Int)+1),.string (za (letK 12)),.int .i64 (((13:Nat):Int)+1),.string (za (letK 13))]
def Kinds (w:World):Prop:=w.rangeAt 0 0 kindC
theorem Kinds.lt {w:World}(h:Kinds w):0<w.heap.size:=World.block_lt_of_cell? _ _ (h 0 _ rfl)
theorem Kinds.keep {w w':World}(h:Kinds w)(hk:∀ o,w'.cell? ⟨0,o,none⟩=w.cell? ⟨0,o,none⟩):Kinds w':=fun j v hv=>by rw[hk];exact h j v hv
theorem Kinds.below {w w':World}(h:Kinds w)(hb:Below w.heap.size w w'):Kinds w':=h.keep fun o=>hb.cell (p:=⟨0,o,none⟩) h.lt
theorem z2f (k:Nat)(hk:k<14)(W:World):(Instr.index 214 (.agg kindC.toArray) (.int .i64 (k:Int))).run Tryz.prog W=.ok (.agg #[.int .i64 ((k:Int)+1),.string (za (letK k))]) W:=by
 rcases(by omega:k=0∨k=1∨k=2∨k=3∨k=4∨k=5∨k=6∨k=7∨k=8∨k=9∨k=10∨k=11∨k=12∨k=13)with rfl|rfl|rfl|rfl|rfl|rfl|rfl|rfl|rfl|rfl|rfl|rfl|rfl|rfl
 all_goals
  simp[Instr.index,asIntOf,Sem.run_bind,run_underlying Tryz.underlying214,part,Tryz.isAgg213,Tryz.sizeOf213,kindC]
  try rfl
theorem z2g {k:Int}{j:Nat}(hj:j<14)(h:(j:Int)+1=k):zg k=letK j:=by
 subst h;unfold zg;rw[if_pos (by omega),show((j:Int)+1).toNat-1=j by omega]
theorem z2h {k:Int}(h:∀ j:Nat,j<14→(j:Int)+1≠k):zg k=[]:=by
 unfold zg;refine if_neg fun ⟨h1,h2⟩=>h (k.toNat-1) (by omega) (by omega)
theorem z2i {k:Int}{j:Nat}(h:∀ i:Nat,i<j→(i:Int)+1≠k)(hj:(j:Int)+1≠k):∀ i:Nat,i<j+1→(i:Int)+1≠k:=fun i hi=>by
 by_cases e:i=j
 ·rw[e];exact hj
 ·exact h i (by omega)
def PartsIs (k:Int)(w:World)(e:Ending)(w':World):Prop:=e=.returned (.string (za (zg k)))∧Below w.heap.size w w'
theorem zrh (k:Int)(w:World)(hA:Kinds w):Calls Tryz.prog 106 #[.int .i64 k] w (PartsIs k w):=by
 have HRG:=hiD hA;clear hA;go_enter Tryz.func106,Tryz.ntmps106
 go_wp2_with (with_reducible refine stn 5 ?_)
 refine held (wpList_load_mid rfl 214 (.global 0) rfl 0 0 rfl kindC (.array 14 213) HRG.o Tryz.underlying214 rfl (by kernel_rfl) ?_);go_wp2_with fail
 go_loopw [6] (fun i wx=>∃ j:Nat,j≤14∧i=.int .i64 (j:Int)∧(∀ i:Nat,i<j→(i:Int)+1≠k)∧Below w.heap.size w wx) (fun i _=>14-(intOf i).toNat)
 case atStart=>exact⟨0,by omega,rfl,fun i hi=>by omega,Below.refl _ _⟩
 case round =>
  obtain⟨j,hj,rfl,hm,hb⟩:=hrel;have HB:=hiD hb;have HU:=hiD hm;clear hb hm;by_cases hlt:j<14
  ·have hix:=z2f j hlt wr
   have hj14:(j:Int)<14:=by omega
   by_cases hk:(j:Int)+1=k
   ·have hk':((j:Int)+1 == k)=true:=by simpa using hk
    have HR:=hiD (z2g hlt hk);have HB2:=hiD (HB.o.alloc HB.o.size (.cells #[.int .i64 ((j:Int)+1),.string (za (letK j))] 213));clear hk;go_wp2_with fail
    go_ret;exact⟨by rw[HR.o]<;>rfl,HB2.o⟩
   ·have hk':((j:Int)+1 == k)=false:=by simpa using hk
    have HN:=hiD (z2i HU.o hk);have HB2:=hiD (HB.o.alloc HB.o.size (.cells #[.int .i64 ((j:Int)+1),.string (za (letK j))] 213));clear hk;go_wp2_with fail
    go_roundw
    case rel=>exact⟨j+1,by omega,by go_num,HN.o,HB2.o⟩
    case measure=>simp[intOf];omega
  ·have hj14:¬ (j:Int)<14:=by omega
   have HR:=hiD (z2h (k:=k) (fun i hi=>HU.o i (by omega)));go_wp2_with fail
   go_ret;exact⟨by rw[HR.o]<;>rfl,HB.o⟩
theorem zk9 (k:Int)(w:World):Calls Tryz.prog 65 #[.int .i64 k] w fun e w'=>e=.returned (.string (za (zg k)))∧w=w':=by
 by_cases h:1≤k∧k≤14
 ·rcases zfd h with rfl|rfl|rfl|rfl|rfl|rfl|rfl|rfl|rfl|rfl|rfl|rfl|rfl|rfl <;>
  ·go_enter Tryz.func65,Tryz.ntmps65
   go_wp2_with fail
   go_ret;exact⟨rfl,rfl⟩
 ·have HR:Hid (zg k=[]):=hiD (if_neg h)
  have a1:(k == 1)=false:=jf (by omega);have a2:(k == 2)=false:=jf (by omega);have a4:(k == 4)=false:=jf (by omega);have a5:(k == 5)=false:=jf (by omega);have a3:(k == 3)=false:=jf (by omega);have a6:(k == 6)=false:=jf (by omega);have a7:(k == 7)=false:=jf (by omega);have a8:(k == 8)=false:=jf (by omega);have a9:(k == 9)=false:=jf (by omega);have a10:(k == 10)=false:=jf (by omega);have a13:(k == 13)=false:=jf (by omega);have a11:(k == 11)=false:=jf (by omega);have a12:(k == 12)=false:=jf (by omega);have a14:(k == 14)=false:=jf (by omega);clear h;go_enter Tryz.func65,Tryz.ntmps65
  go_wp2_with fail
  go_ret;exact⟨by rw[HR.o]<;>rfl,rfl⟩
theorem z2j {l:List Nat}{k x c:Nat}(h:c ∉ l.take k)(hx:l[k]?=some x)(hne:x≠c):c ∉ l.take (k+1):=by
 rw[zbz l k x hx];intro hm;rcases List.mem_append.1 hm with hm|hm
 ·exact h hm
 ·exact hne (List.mem_singleton.1 hm).symm
theorem z2k (s:ByteArray)(c:Nat)(hs:s.size≤140737488355328)(w:World):Calls Tryz.prog 70 #[.string s,.int .u8 (c:Int)] w fun e w'=>e=.returned (.bool (decide (c∈nats s)))∧w=w':=by
 go_enter Tryz.func70,Tryz.ntmps70
 go_wp2_with fail
 go_loop [5] (fun i=>∃ k:Nat,k≤s.size∧i=.int .i64 (k:Int)∧c ∉ (nats s).take k) (fun i=>s.size-(intOf i).toNat)
 case atStart=>exact⟨0,Nat.zero_le _,rfl,by simp⟩
 case round =>
  obtain⟨k,hk,rfl,hm⟩:=hrel;have HM:=hiD hm;clear hm;by_cases hlt:k<s.size
  ·have hk0:(0:Int)≤(k:Int):=by omega
   have hkn:(k:Int)<(s.size:Int):=by omega
   have hx:(nats s)[k]?=some s[k].toNat:=by
    unfold nats;rw[List.getElem?_map,Lib.data_getElem? s k hlt];rfl
   have HX:=hiD hx;clear hx;by_cases he:s[k].toNat=c
   ·have he':(((s[k].toNat:Nat):Int) == (c:Int))=true:=by simp[he]
    have HR:Hid (decide (c∈nats s)=true):=hiD (decide_eq_true (he ▸ List.mem_of_getElem? HX.o));clear he;go_wp2_with fail
    go_ret;exact⟨by rw[HR.o]<;>rfl,rfl⟩
   ·have he':(((s[k].toNat:Nat):Int) == (c:Int))=false:=by simp;omega
    have HN:=hiD (z2j HM.o HX.o he);clear he;go_wp2_with fail
    go_round
    case rel=>exact⟨k+1,by omega,by go_num,HN.o⟩
    case measure=>simp[intOf];omega
  ·have hkn:¬ (k:Int)<(s.size:Int):=by omega
   have HR:Hid (decide (c∈nats s)=false):=hiD (decide_eq_false (by have:=HM.o;rwa [List.take_of_length_le (by rw[jn];omega)] at this));go_wp2_with fail
   go_ret;exact⟨by rw[HR.o]<;>rfl,rfl⟩
theorem z2l (k:Int):nats (za (zg k))=zg k:=zbw _ fun x hx=>Nat.lt_trans (zkg k x hx) (by decide)
theorem z2m (k:Int):(za (zg k)).size≤4:=by rw[zc7];exact(zgk k).2.2
theorem zaj (k:Int)(c:Nat)(w:World):Calls Tryz.prog 70 #[.string (za (zg k)),.int .u8 (c:Int)] w fun e w'=>e=.returned (.bool (decide (c∈zg k)))∧w=w':=by
 have h:=z2k (za (zg k)) c (by have:=z2m k;omega) w;rw[z2l] at h;exact h
theorem zri (l:List Rg):setB l=(decide (l=[]) || jr l):=by
 unfold setB jr;rw[Bool.eq_iff_iff,Bool.or_eq_true,decide_eq_true_eq,decide_eq_true_eq,decide_eq_true_eq];constructor
 ·rintro⟨h1,h2⟩
  cases l with
  | nil=>exact .inl rfl
  | cons a l=>exact .inr ⟨by simp,h1,h2⟩
 ·rintro(rfl|⟨_,h1,h2⟩)
  ·exact⟨Nat.zero_le _,fun r hr=>by cases hr⟩
  ·exact⟨h1,h2⟩
theorem z2n (A:Option Addr)(n c:Nat)(l:List Rg)(w:World)(hl:ColK 2 rgC w w.heap.size A n l)(hn:n≤140737488355328) :
 Calls Tryz.prog 68 #[.slice A n c] w fun e w'=>e=.returned (.bool (setB l))∧w=w':=by
 by_cases h0:n=0
 ·have h0':((n:Int) == 0)=true:=by simp[h0]
  have HR:Hid (setB l=true):=hiD (by rw[zri,List.eq_nil_of_length_eq_zero (hl.1.trans h0)];rfl);clear h0 hl;go_enter Tryz.func68,Tryz.ntmps68
  go_wp2_with fail
  go_ret;exact⟨by rw[HR.o]<;>rfl,rfl⟩
 ·have h0':((n:Int) == 0)=false:=by simp;omega
  have HR:Hid (setB l=jr l):=hiD (by rw[zri,decide_eq_false (by intro e;rw[e] at hl;exact h0 hl.1.symm)];rfl);have CR:=hiD (z43 A n c l w hl hn);clear h0 hl;go_enter Tryz.func68,Tryz.ntmps68
  go_wp2_with fail
  refine CR.o.mono ?_;rintro e w' ⟨rfl,rfl⟩;clear CR;go_wp2_with fail
  go_ret;exact⟨by rw[HR.o]<;>rfl,rfl⟩
def GreatIs (h:Eh)(w:World)(e:Ending)(w':World):Prop:=∃ b:Bool,e=.returned (.bool b)∧(b=false→h.e.box.size≤500∧h.e.to_.size≤500∧h.n1≤200∧h.n2≤200∧h.n3≤5000)∧Below w.heap.size w w'
theorem zrj (h:Eh)(w:World):Calls Tryz.prog 21 #[.agg (evC h)] w (GreatIs h w):=by
 obtain⟨⟨k,t,bx,tO,ids,st,md,fl,dt,nn,bd⟩,A1,n1,c1,A2,n2,c2,A3,n3,c3⟩:=h
 show Calls Tryz.prog 21 #[.agg #[.int .i64 k,.int .i64 t,.string bx,.string tO,.slice A1 n1 c1,.slice A2 n2 c2,.int .i64 md,.int .i64 fl,.int .i64 dt,.int .i64 nn,.slice A3 n3 c3]] w _
 by_cases h0:(500:Int)<(bx.size:Int)
 ·
  go_enter Tryz.func21,Tryz.ntmps21
  go_wp2_with fail
  go_ret;exact⟨true,rfl,(by intro e;cases e),(Below.refl _ _).alloc (Nat.le_refl _) _⟩
 by_cases h1:(500:Int)<(tO.size:Int)
 ·
  go_enter Tryz.func21,Tryz.ntmps21
  go_wp2_with fail
  go_ret;exact⟨true,rfl,(by intro e;cases e),(Below.refl _ _).alloc (Nat.le_refl _) _⟩
 by_cases h2:(200:Int)<(n1:Int)
 ·
  go_enter Tryz.func21,Tryz.ntmps21
  go_wp2_with fail
  go_ret;exact⟨true,rfl,(by intro e;cases e),(Below.refl _ _).alloc (Nat.le_refl _) _⟩
 by_cases h3:(200:Int)<(n2:Int)
 ·
  go_enter Tryz.func21,Tryz.ntmps21
  go_wp2_with fail
  go_ret;exact⟨true,rfl,(by intro e;cases e),(Below.refl _ _).alloc (Nat.le_refl _) _⟩
 by_cases h4:(5000:Int)<(n3:Int)
 ·
  go_enter Tryz.func21,Tryz.ntmps21
  go_wp2_with fail
  go_ret;exact⟨true,rfl,(by intro e;cases e),(Below.refl _ _).alloc (Nat.le_refl _) _⟩
 go_enter Tryz.func21,Tryz.ntmps21
 go_wp2_with fail
 go_ret;exact⟨false,rfl,(fun _=>⟨by show bx.size≤500;omega,by show tO.size≤500;omega,by show n1≤200;omega,by show n2≤200;omega,by show n3≤5000;omega⟩),(Below.refl _ _).alloc (Nat.le_refl _) _⟩
def MayIs (h:Eh)(c:Nat)(w:World)(e:Ending)(w':World):Prop:=e=.returned (.bool (okQ h.e c))∧Below w.heap.size w w'
theorem zrk {z:Int}(h:¬ 0≤z):zda z=false:=decide_eq_false fun e=>h e.1
theorem z2o {z:Int}(h:¬ z≤2):zda z=false:=decide_eq_false fun e=>h e.2
theorem z2p {z:Int}(h:0≤z)(h2:z≤2):zda z=true:=decide_eq_true ⟨h,h2⟩
theorem z2q (h:Eh)(w:World)(Hh:EvIn w w.heap.size h):Calls Tryz.prog 108 #[.agg (evC h),.int .i32 98] w (MayIs h 98 w):=by
 obtain⟨⟨k,t,bx,tO,ids,st,md,fl,dt,nn,bd⟩,A1,n1,c1,A2,n2,c2,A3,n3,c3⟩:=h;have HH:=hiD Hh;clear Hh
 show Calls Tryz.prog 108 #[.agg #[.int .i64 k,.int .i64 t,.string bx,.string tO,.slice A1 n1 c1,.slice A2 n2 c2,.int .i64 md,.int .i64 fl,.int .i64 dt,.int .i64 nn,.slice A3 n3 c3],.int .i32 98] w _
 go_enter Tryz.func108,Tryz.ntmps108
 go_wp2_with fail
 refine qb (fun W=>Below w.heap.size w W) ((Below.refl _ _).alloc (Nat.le_refl _) _) ?_;intro W q3;have Q3:=hiD q3;clear q3;refine(zfq bx HH.o.2.2.2.2.2.2.1 W).mono ?_;rintro e w' ⟨rfl,hb⟩;have HB:=hiD (Q3.o.trans (hb.mono Q3.o.size));clear hb;go_wp2_with fail
 go_ret;exact⟨rfl,HB.o⟩
theorem z2r (h:Eh)(w:World)(Hh:EvIn w w.heap.size h):Calls Tryz.prog 108 #[.agg (evC h),.int .i32 116] w (MayIs h 116 w):=by
 obtain⟨⟨k,t,bx,tO,ids,st,md,fl,dt,nn,bd⟩,A1,n1,c1,A2,n2,c2,A3,n3,c3⟩:=h;have HH:=hiD Hh;clear Hh
 show Calls Tryz.prog 108 #[.agg #[.int .i64 k,.int .i64 t,.string bx,.string tO,.slice A1 n1 c1,.slice A2 n2 c2,.int .i64 md,.int .i64 fl,.int .i64 dt,.int .i64 nn,.slice A3 n3 c3],.int .i32 116] w _
 go_enter Tryz.func108,Tryz.ntmps108
 go_wp2_with fail
 refine qb (fun W=>Below w.heap.size w W) ((Below.refl _ _).alloc (Nat.le_refl _) _) ?_;intro W q3;have Q3:=hiD q3;clear q3;refine(zfq tO HH.o.2.2.2.2.2.2.2 W).mono ?_;rintro e w' ⟨rfl,hb⟩;have HB:=hiD (Q3.o.trans (hb.mono Q3.o.size));clear hb;go_wp2_with fail
 go_ret;exact⟨rfl,HB.o⟩
theorem z2s (h:Eh)(w:World)(Hh:EvIn w w.heap.size h):Calls Tryz.prog 108 #[.agg (evC h),.int .i32 105] w (MayIs h 105 w):=by
 obtain⟨⟨k,t,bx,tO,ids,st,md,fl,dt,nn,bd⟩,A1,n1,c1,A2,n2,c2,A3,n3,c3⟩:=h;have HH:=hiD Hh;clear Hh
 show Calls Tryz.prog 108 #[.agg #[.int .i64 k,.int .i64 t,.string bx,.string tO,.slice A1 n1 c1,.slice A2 n2 c2,.int .i64 md,.int .i64 fl,.int .i64 dt,.int .i64 nn,.slice A3 n3 c3],.int .i32 105] w _
 go_enter Tryz.func108,Tryz.ntmps108
 go_wp2_with fail
 refine qb (fun W=>Below w.heap.size w W) ((Below.refl _ _).alloc (Nat.le_refl _) _) ?_;intro W q3;have Q3:=hiD q3;clear q3;refine(z13 A1 n1 c1 ids W (HH.o.later Q3.o).1 HH.o.2.2.2.1).mono ?_;rintro e w' ⟨rfl,rfl⟩;go_wp2_with fail
 go_ret;exact⟨rfl,Q3.o⟩
theorem z2t (h:Eh)(w:World)(Hh:EvIn w w.heap.size h):Calls Tryz.prog 108 #[.agg (evC h),.int .i32 115] w (MayIs h 115 w):=by
 obtain⟨⟨k,t,bx,tO,ids,st,md,fl,dt,nn,bd⟩,A1,n1,c1,A2,n2,c2,A3,n3,c3⟩:=h;have HH:=hiD Hh;clear Hh
 show Calls Tryz.prog 108 #[.agg #[.int .i64 k,.int .i64 t,.string bx,.string tO,.slice A1 n1 c1,.slice A2 n2 c2,.int .i64 md,.int .i64 fl,.int .i64 dt,.int .i64 nn,.slice A3 n3 c3],.int .i32 115] w _
 go_enter Tryz.func108,Tryz.ntmps108
 go_wp2_with fail
 refine qb (fun W=>Below w.heap.size w W) ((Below.refl _ _).alloc (Nat.le_refl _) _) ?_;intro W q3;have Q3:=hiD q3;clear q3;refine(z2d A2 n2 c2 st W (HH.o.later Q3.o).2.1 HH.o.2.2.2.2.1).mono ?_;rintro e w' ⟨rfl,hb⟩;have HB:=hiD (Q3.o.trans (hb.mono Q3.o.size));clear hb;go_wp2_with fail
 go_ret;exact⟨rfl,HB.o⟩
theorem z2u (h:Eh)(w:World)(Hh:EvIn w w.heap.size h):Calls Tryz.prog 108 #[.agg (evC h),.int .i32 109] w (MayIs h 109 w):=by
 obtain⟨⟨k,t,bx,tO,ids,st,md,fl,dt,nn,bd⟩,A1,n1,c1,A2,n2,c2,A3,n3,c3⟩:=h;have HH:=hiD Hh;clear Hh
 show Calls Tryz.prog 108 #[.agg #[.int .i64 k,.int .i64 t,.string bx,.string tO,.slice A1 n1 c1,.slice A2 n2 c2,.int .i64 md,.int .i64 fl,.int .i64 dt,.int .i64 nn,.slice A3 n3 c3],.int .i32 109] w _
 by_cases h1:0≤md
 ·by_cases h2:md≤2
  ·have HR:=hiD (z2p h1 h2)
   go_enter Tryz.func108,Tryz.ntmps108
   go_wp2_with fail
   go_ret;exact⟨zfp (by show _=zda md;rw[HR.o]),(Below.refl _ _).alloc (Nat.le_refl _) _⟩
  ·have HR:=hiD (z2o h2)
   go_enter Tryz.func108,Tryz.ntmps108
   go_wp2_with fail
   go_ret;exact⟨zfp (by show _=zda md;rw[HR.o]),(Below.refl _ _).alloc (Nat.le_refl _) _⟩
 ·have HR:=hiD (zrk h1)
  go_enter Tryz.func108,Tryz.ntmps108
  go_wp2_with fail
  go_ret;exact⟨zfp (by show _=zda md;rw[HR.o]),(Below.refl _ _).alloc (Nat.le_refl _) _⟩
theorem z2v (h:Eh)(w:World)(Hh:EvIn w w.heap.size h):Calls Tryz.prog 108 #[.agg (evC h),.int .i32 102] w (MayIs h 102 w):=by
 obtain⟨⟨k,t,bx,tO,ids,st,md,fl,dt,nn,bd⟩,A1,n1,c1,A2,n2,c2,A3,n3,c3⟩:=h;have HH:=hiD Hh;clear Hh
 show Calls Tryz.prog 108 #[.agg #[.int .i64 k,.int .i64 t,.string bx,.string tO,.slice A1 n1 c1,.slice A2 n2 c2,.int .i64 md,.int .i64 fl,.int .i64 dt,.int .i64 nn,.slice A3 n3 c3],.int .i32 102] w _
 go_enter Tryz.func108,Tryz.ntmps108
 go_wp2_with fail
 refine qb (fun W=>Below w.heap.size w W) ((Below.refl _ _).alloc (Nat.le_refl _) _) ?_;intro W q3;have Q3:=hiD q3;clear q3;refine(zfr fl W).mono ?_;rintro e w' ⟨rfl,rfl⟩;go_wp2_with fail
 go_ret;exact⟨rfl,Q3.o⟩
theorem z2w (h:Eh)(w:World)(Hh:EvIn w w.heap.size h):Calls Tryz.prog 108 #[.agg (evC h),.int .i32 100] w (MayIs h 100 w):=by
 obtain⟨⟨k,t,bx,tO,ids,st,md,fl,dt,nn,bd⟩,A1,n1,c1,A2,n2,c2,A3,n3,c3⟩:=h;have HH:=hiD Hh;clear Hh
 show Calls Tryz.prog 108 #[.agg #[.int .i64 k,.int .i64 t,.string bx,.string tO,.slice A1 n1 c1,.slice A2 n2 c2,.int .i64 md,.int .i64 fl,.int .i64 dt,.int .i64 nn,.slice A3 n3 c3],.int .i32 100] w _
 go_enter Tryz.func108,Tryz.ntmps108
 go_wp2_with fail
 refine qb (fun W=>Below w.heap.size w W) ((Below.refl _ _).alloc (Nat.le_refl _) _) ?_;intro W q3;have Q3:=hiD q3;clear q3;refine(zk6 dt W).mono ?_;rintro e w' ⟨rfl,rfl⟩;go_wp2_with fail
 go_ret;exact⟨rfl,Q3.o⟩
theorem z2x (h:Eh)(w:World)(Hh:EvIn w w.heap.size h):Calls Tryz.prog 108 #[.agg (evC h),.int .i32 110] w (MayIs h 110 w):=by
 obtain⟨⟨k,t,bx,tO,ids,st,md,fl,dt,nn,bd⟩,A1,n1,c1,A2,n2,c2,A3,n3,c3⟩:=h;have HH:=hiD Hh;clear Hh
 show Calls Tryz.prog 108 #[.agg #[.int .i64 k,.int .i64 t,.string bx,.string tO,.slice A1 n1 c1,.slice A2 n2 c2,.int .i64 md,.int .i64 fl,.int .i64 dt,.int .i64 nn,.slice A3 n3 c3],.int .i32 110] w _
 go_enter Tryz.func108,Tryz.ntmps108
 go_wp2_with fail
 refine qb (fun W=>Below w.heap.size w W) ((Below.refl _ _).alloc (Nat.le_refl _) _) ?_;intro W q3;have Q3:=hiD q3;clear q3;refine(zk6 nn W).mono ?_;rintro e w' ⟨rfl,rfl⟩;go_wp2_with fail
 go_ret;exact⟨rfl,Q3.o⟩
theorem z2y (h:Eh)(w:World)(Hh:EvIn w w.heap.size h):Calls Tryz.prog 108 #[.agg (evC h),.int .i32 121] w (MayIs h 121 w):=by
 obtain⟨⟨k,t,bx,tO,ids,st,md,fl,dt,nn,bd⟩,A1,n1,c1,A2,n2,c2,A3,n3,c3⟩:=h;have HH:=hiD Hh;clear Hh
 show Calls Tryz.prog 108 #[.agg #[.int .i64 k,.int .i64 t,.string bx,.string tO,.slice A1 n1 c1,.slice A2 n2 c2,.int .i64 md,.int .i64 fl,.int .i64 dt,.int .i64 nn,.slice A3 n3 c3],.int .i32 121] w _
 have hbl:bd.length=n3:=HH.o.2.2.1.1;have HBL:=hiD hbl;clear hbl;by_cases h1:(n3:Int)≤2000
 ·go_enter Tryz.func108,Tryz.ntmps108
  go_wp2_with fail
  go_ret;exact⟨zfp (by show _=decide (bd.length≤2000);rw[HBL.o,eq_comm];exact decide_eq_true (by omega)),(Below.refl _ _).alloc (Nat.le_refl _) _⟩
 ·go_enter Tryz.func108,Tryz.ntmps108
  go_wp2_with fail
  go_ret;exact⟨zfp (by show _=decide (bd.length≤2000);rw[HBL.o,eq_comm];exact decide_eq_false (by omega)),(Below.refl _ _).alloc (Nat.le_refl _) _⟩
theorem z2z (h:Eh){c:Nat}(hc:c∈nineL)(w:World)(Hh:EvIn w w.heap.size h):Calls Tryz.prog 108 #[.agg (evC h),.int .i32 (c:Int)] w (MayIs h c w):=by
 rcases zgm hc with rfl|rfl|rfl|rfl|rfl|rfl|rfl|rfl|rfl
 ·exact z2q h w Hh
 ·exact z2r h w Hh
 ·exact z2s h w Hh
 ·exact z2t h w Hh
 ·exact z2u h w Hh
 ·exact z2v h w Hh
 ·exact z2w h w Hh
 ·exact z2x h w Hh
 ·exact z2y h w Hh
theorem z20 (h g:Eh)(w:World)(Hh:EvIn w w.heap.size h)(Hg:EvIn w w.heap.size g):Calls Tryz.prog 110 #[.agg (evC h),.agg (evC g)] w (SameIs h g w):=by
 obtain⟨⟨k,t,bx,tO,ids,st,md,fl,dt,nn,bd⟩,A1,n1,c1,A2,n2,c2,A3,n3,c3⟩:=h;obtain⟨⟨k',t',bx',to',ids',st',md',fl',dt',nn',bd'⟩,B1,m1,d1,B2,m2,d2,B3,m3,d3⟩:=g;have HH:=hiD Hh;have HG:=hiD Hg;clear Hh Hg
 show Calls Tryz.prog 110 #[.agg #[.int .i64 k,.int .i64 t,.string bx,.string tO,.slice A1 n1 c1,.slice A2 n2 c2,.int .i64 md,.int .i64 fl,.int .i64 dt,.int .i64 nn,.slice A3 n3 c3],.agg #[.int .i64 k',.int .i64 t',.string bx',.string to',.slice B1 m1 d1,.slice B2 m2 d2,.int .i64 md',.int .i64 fl',.int .i64 dt',.int .i64 nn',.slice B3 m3 d3]] w _
 by_cases hx:k=k'
 ·subst hx
  by_cases hx:t=t'
  ·subst hx
   by_cases hx:bx=bx'
   ·subst hx
    by_cases hx:tO=to'
    ·subst hx
     by_cases hx:ids=ids'
     ·subst hx
      by_cases hx:st=st'
      ·subst hx
       by_cases hx:md=md'
       ·subst hx
        by_cases hx:fl=fl'
        ·subst hx
         by_cases hx:dt=dt'
         ·subst hx
          by_cases hx:nn=nn'
          ·subst hx
           by_cases hx:bd=bd'
           ·subst hx
            have HR:Hid (evEq ⟨k,t,bx,tO,ids,st,md,fl,dt,nn,bd⟩ ⟨k,t,bx,tO,ids,st,md,fl,dt,nn,bd⟩=true):=hiD (by simp[evEq]);go_enter Tryz.func110,Tryz.ntmps110
            go_wp2_with fail
            refine qb (fun W=>Bk W w.heap.size 50 #[.int .i64 k,.int .i64 t,.string bx,.string tO,.slice A1 n1 c1,.slice A2 n2 c2,.int .i64 md,.int .i64 fl,.int .i64 dt,.int .i64 nn,.slice A3 n3 c3]∧Bk W (w.heap.size+1) 50 #[.int .i64 k,.int .i64 t,.string bx,.string tO,.slice B1 m1 d1,.slice B2 m2 d2,.int .i64 md,.int .i64 fl,.int .i64 dt,.int .i64 nn,.slice B3 m3 d3]∧Below w.heap.size w W) ⟨(Bk.new _ _ _).alloc _,Bk.new2 _ _ _ _,((Below.refl _ _).alloc (Nat.le_refl _) _).alloc (by simp) _⟩ ?_;rintro W ⟨q1,q2,q3⟩;have Q1:=hiD q1;have Q2:=hiD q2;have Q3:=hiD q3;clear q1 q2 q3;have CC:=hiD (zd6 A1 B1 n1 c1 m1 d1 _ _ W (HH.o.later Q3.o).1 (HG.o.later Q3.o).1 HH.o.2.2.2.1 HG.o.2.2.2.1);rw[decide_eq_true rfl] at CC;refine CC.o.mono ?_;rintro e W1 ⟨rfl,q,hq⟩;clear CC;replace Q1:=hiD (show Bk W1 _ _ _ by rw[hq];exact Q1.o.drewNE q)
            replace Q2:=hiD (show Bk W1 _ _ _ by rw[hq];exact Q2.o.drewNE q);replace Q3:=hiD (show Below w.heap.size w W1 by rw[hq];exact qo Q3.o q);clear hq;obtain⟨⟨x0,x1,x2,x3,x4,x5⟩,x6,x7,x8,x9,x10⟩:=Q1.o.evs;obtain⟨⟨y0,y1,y2,y3,y4,y5⟩,y6,y7,y8,y9,y10⟩:=Q2.o.evs;go_wp2_with fail
            clear x0 x1 x2 x3 x4 x5 x6 x7 x8 x9 x10 y0 y1 y2 y3 y4 y5 y6 y7 y8 y9 y10;have CC:=hiD (zen A2 B2 n2 c2 m2 d2 _ _ W1 (HH.o.later Q3.o).2.1 (HG.o.later Q3.o).2.1 HH.o.2.2.2.2.1 HG.o.2.2.2.2.1);rw[decide_eq_true rfl] at CC;refine CC.o.mono ?_;rintro e W2 ⟨rfl,q,hq⟩;clear CC;replace Q1:=hiD (show Bk W2 _ _ _ by rw[hq];exact Q1.o.drewNE q);replace Q2:=hiD (show Bk W2 _ _ _ by rw[hq];exact Q2.o.drewNE q);replace Q3:=hiD (show Below w.heap.size w W2 by rw[hq];exact qo Q3.o q);clear hq;obtain⟨⟨x0,x1,x2,x3,x4,x5⟩,x6,x7,x8,x9,x10⟩:=Q1.o.evs;obtain⟨⟨y0,y1,y2,y3,y4,y5⟩,y6,y7,y8,y9,y10⟩:=Q2.o.evs;go_wp2_with fail
            clear x0 x1 x2 x3 x4 x5 x6 x7 x8 x9 x10 y0 y1 y2 y3 y4 y5 y6 y7 y8 y9 y10;have CC:=hiD (zrf A3 n3 c3 _ _ B3 m3 d3 _ _ W2 (HH.o.later Q3.o).2.2.1 (HG.o.later Q3.o).2.2.1);rw[decide_eq_true rfl] at CC;refine CC.o.mono ?_;rintro e w' ⟨rfl,rfl⟩;clear CC;go_wp2_with fail
            go_ret;exact⟨by rw[HR.o]<;>rfl,Q3.o⟩
           ·
            have HR:Hid (evEq ⟨k,t,bx,tO,ids,st,md,fl,dt,nn,bd⟩ ⟨k,t,bx,tO,ids,st,md,fl,dt,nn,bd'⟩=false):=hiD (by simp[evEq,hx]);have HNE:=hiD (show decide (bd=bd')=false from decide_eq_false hx);clear hx;go_enter Tryz.func110,Tryz.ntmps110
            go_wp2_with fail
            refine qb (fun W=>Bk W w.heap.size 50 #[.int .i64 k,.int .i64 t,.string bx,.string tO,.slice A1 n1 c1,.slice A2 n2 c2,.int .i64 md,.int .i64 fl,.int .i64 dt,.int .i64 nn,.slice A3 n3 c3]∧Bk W (w.heap.size+1) 50 #[.int .i64 k,.int .i64 t,.string bx,.string tO,.slice B1 m1 d1,.slice B2 m2 d2,.int .i64 md,.int .i64 fl,.int .i64 dt,.int .i64 nn,.slice B3 m3 d3]∧Below w.heap.size w W) ⟨(Bk.new _ _ _).alloc _,Bk.new2 _ _ _ _,((Below.refl _ _).alloc (Nat.le_refl _) _).alloc (by simp) _⟩ ?_;rintro W ⟨q1,q2,q3⟩;have Q1:=hiD q1;have Q2:=hiD q2;have Q3:=hiD q3;clear q1 q2 q3;have CC:=hiD (zd6 A1 B1 n1 c1 m1 d1 _ _ W (HH.o.later Q3.o).1 (HG.o.later Q3.o).1 HH.o.2.2.2.1 HG.o.2.2.2.1);rw[decide_eq_true rfl] at CC;refine CC.o.mono ?_;rintro e W1 ⟨rfl,q,hq⟩;clear CC;replace Q1:=hiD (show Bk W1 _ _ _ by rw[hq];exact Q1.o.drewNE q)
            replace Q2:=hiD (show Bk W1 _ _ _ by rw[hq];exact Q2.o.drewNE q);replace Q3:=hiD (show Below w.heap.size w W1 by rw[hq];exact qo Q3.o q);clear hq;obtain⟨⟨x0,x1,x2,x3,x4,x5⟩,x6,x7,x8,x9,x10⟩:=Q1.o.evs;obtain⟨⟨y0,y1,y2,y3,y4,y5⟩,y6,y7,y8,y9,y10⟩:=Q2.o.evs;go_wp2_with fail
            clear x0 x1 x2 x3 x4 x5 x6 x7 x8 x9 x10 y0 y1 y2 y3 y4 y5 y6 y7 y8 y9 y10;have CC:=hiD (zen A2 B2 n2 c2 m2 d2 _ _ W1 (HH.o.later Q3.o).2.1 (HG.o.later Q3.o).2.1 HH.o.2.2.2.2.1 HG.o.2.2.2.2.1);rw[decide_eq_true rfl] at CC;refine CC.o.mono ?_;rintro e W2 ⟨rfl,q,hq⟩;clear CC;replace Q1:=hiD (show Bk W2 _ _ _ by rw[hq];exact Q1.o.drewNE q);replace Q2:=hiD (show Bk W2 _ _ _ by rw[hq];exact Q2.o.drewNE q);replace Q3:=hiD (show Below w.heap.size w W2 by rw[hq];exact qo Q3.o q);clear hq;obtain⟨⟨x0,x1,x2,x3,x4,x5⟩,x6,x7,x8,x9,x10⟩:=Q1.o.evs;obtain⟨⟨y0,y1,y2,y3,y4,y5⟩,y6,y7,y8,y9,y10⟩:=Q2.o.evs;go_wp2_with fail
            clear x0 x1 x2 x3 x4 x5 x6 x7 x8 x9 x10 y0 y1 y2 y3 y4 y5 y6 y7 y8 y9 y10;have CC:=hiD (zrf A3 n3 c3 _ _ B3 m3 d3 _ _ W2 (HH.o.later Q3.o).2.2.1 (HG.o.later Q3.o).2.2.1)
            dsimp only at CC;rw[HNE.o] at CC
            refine CC.o.mono ?_;rintro e w' ⟨rfl,rfl⟩;clear CC;go_wp2_with fail
            go_ret;exact⟨by rw[HR.o]<;>rfl,Q3.o⟩
          ·
           have HR:Hid (evEq ⟨k,t,bx,tO,ids,st,md,fl,dt,nn,bd⟩ ⟨k,t,bx,tO,ids,st,md,fl,dt,nn',bd'⟩=false):=hiD (by simp[evEq,hx]);have hne:=jf hx;clear hx;go_enter Tryz.func110,Tryz.ntmps110
           go_wp2_with fail
           refine qb (fun W=>Bk W w.heap.size 50 #[.int .i64 k,.int .i64 t,.string bx,.string tO,.slice A1 n1 c1,.slice A2 n2 c2,.int .i64 md,.int .i64 fl,.int .i64 dt,.int .i64 nn,.slice A3 n3 c3]∧Bk W (w.heap.size+1) 50 #[.int .i64 k,.int .i64 t,.string bx,.string tO,.slice B1 m1 d1,.slice B2 m2 d2,.int .i64 md,.int .i64 fl,.int .i64 dt,.int .i64 nn',.slice B3 m3 d3]∧Below w.heap.size w W) ⟨(Bk.new _ _ _).alloc _,Bk.new2 _ _ _ _,((Below.refl _ _).alloc (Nat.le_refl _) _).alloc (by simp) _⟩ ?_;rintro W ⟨q1,q2,q3⟩;have Q1:=hiD q1;have Q2:=hiD q2;have Q3:=hiD q3;clear q1 q2 q3;have CC:=hiD (zd6 A1 B1 n1 c1 m1 d1 _ _ W (HH.o.later Q3.o).1 (HG.o.later Q3.o).1 HH.o.2.2.2.1 HG.o.2.2.2.1);rw[decide_eq_true rfl] at CC;refine CC.o.mono ?_;rintro e W1 ⟨rfl,q,hq⟩;clear CC;replace Q1:=hiD (show Bk W1 _ _ _ by rw[hq];exact Q1.o.drewNE q)
           replace Q2:=hiD (show Bk W1 _ _ _ by rw[hq];exact Q2.o.drewNE q);replace Q3:=hiD (show Below w.heap.size w W1 by rw[hq];exact qo Q3.o q);clear hq;obtain⟨⟨x0,x1,x2,x3,x4,x5⟩,x6,x7,x8,x9,x10⟩:=Q1.o.evs;obtain⟨⟨y0,y1,y2,y3,y4,y5⟩,y6,y7,y8,y9,y10⟩:=Q2.o.evs;go_wp2_with fail
           clear x0 x1 x2 x3 x4 x5 x6 x7 x8 x9 x10 y0 y1 y2 y3 y4 y5 y6 y7 y8 y9 y10;have CC:=hiD (zen A2 B2 n2 c2 m2 d2 _ _ W1 (HH.o.later Q3.o).2.1 (HG.o.later Q3.o).2.1 HH.o.2.2.2.2.1 HG.o.2.2.2.2.1);rw[decide_eq_true rfl] at CC;refine CC.o.mono ?_;rintro e W2 ⟨rfl,q,hq⟩;clear CC;replace Q1:=hiD (show Bk W2 _ _ _ by rw[hq];exact Q1.o.drewNE q);replace Q2:=hiD (show Bk W2 _ _ _ by rw[hq];exact Q2.o.drewNE q);replace Q3:=hiD (show Below w.heap.size w W2 by rw[hq];exact qo Q3.o q);clear hq;obtain⟨⟨x0,x1,x2,x3,x4,x5⟩,x6,x7,x8,x9,x10⟩:=Q1.o.evs;obtain⟨⟨y0,y1,y2,y3,y4,y5⟩,y6,y7,y8,y9,y10⟩:=Q2.o.evs;go_wp2_with fail
           clear x0 x1 x2 x3 x4 x5 x6 x7 x8 x9 x10 y0 y1 y2 y3 y4 y5 y6 y7 y8 y9 y10;go_ret;exact⟨by rw[HR.o]<;>rfl,Q3.o⟩
         ·
          have HR:Hid (evEq ⟨k,t,bx,tO,ids,st,md,fl,dt,nn,bd⟩ ⟨k,t,bx,tO,ids,st,md,fl,dt',nn',bd'⟩=false):=hiD (by simp[evEq,hx]);have hne:=jf hx;clear hx;go_enter Tryz.func110,Tryz.ntmps110
          go_wp2_with fail
          refine qb (fun W=>Bk W w.heap.size 50 #[.int .i64 k,.int .i64 t,.string bx,.string tO,.slice A1 n1 c1,.slice A2 n2 c2,.int .i64 md,.int .i64 fl,.int .i64 dt,.int .i64 nn,.slice A3 n3 c3]∧Bk W (w.heap.size+1) 50 #[.int .i64 k,.int .i64 t,.string bx,.string tO,.slice B1 m1 d1,.slice B2 m2 d2,.int .i64 md,.int .i64 fl,.int .i64 dt',.int .i64 nn',.slice B3 m3 d3]∧Below w.heap.size w W) ⟨(Bk.new _ _ _).alloc _,Bk.new2 _ _ _ _,((Below.refl _ _).alloc (Nat.le_refl _) _).alloc (by simp) _⟩ ?_;rintro W ⟨q1,q2,q3⟩;have Q1:=hiD q1;have Q2:=hiD q2;have Q3:=hiD q3;clear q1 q2 q3;have CC:=hiD (zd6 A1 B1 n1 c1 m1 d1 _ _ W (HH.o.later Q3.o).1 (HG.o.later Q3.o).1 HH.o.2.2.2.1 HG.o.2.2.2.1);rw[decide_eq_true rfl] at CC;refine CC.o.mono ?_;rintro e W1 ⟨rfl,q,hq⟩;clear CC;replace Q1:=hiD (show Bk W1 _ _ _ by rw[hq];exact Q1.o.drewNE q)
          replace Q2:=hiD (show Bk W1 _ _ _ by rw[hq];exact Q2.o.drewNE q);replace Q3:=hiD (show Below w.heap.size w W1 by rw[hq];exact qo Q3.o q);clear hq;obtain⟨⟨x0,x1,x2,x3,x4,x5⟩,x6,x7,x8,x9,x10⟩:=Q1.o.evs;obtain⟨⟨y0,y1,y2,y3,y4,y5⟩,y6,y7,y8,y9,y10⟩:=Q2.o.evs;go_wp2_with fail
          clear x0 x1 x2 x3 x4 x5 x6 x7 x8 x9 x10 y0 y1 y2 y3 y4 y5 y6 y7 y8 y9 y10;have CC:=hiD (zen A2 B2 n2 c2 m2 d2 _ _ W1 (HH.o.later Q3.o).2.1 (HG.o.later Q3.o).2.1 HH.o.2.2.2.2.1 HG.o.2.2.2.2.1);rw[decide_eq_true rfl] at CC;refine CC.o.mono ?_;rintro e W2 ⟨rfl,q,hq⟩;clear CC;replace Q1:=hiD (show Bk W2 _ _ _ by rw[hq];exact Q1.o.drewNE q);replace Q2:=hiD (show Bk W2 _ _ _ by rw[hq];exact Q2.o.drewNE q);replace Q3:=hiD (show Below w.heap.size w W2 by rw[hq];exact qo Q3.o q);clear hq;obtain⟨⟨x0,x1,x2,x3,x4,x5⟩,x6,x7,x8,x9,x10⟩:=Q1.o.evs;obtain⟨⟨y0,y1,y2,y3,y4,y5⟩,y6,y7,y8,y9,y10⟩:=Q2.o.evs;go_wp2_with fail
          clear x0 x1 x2 x3 x4 x5 x6 x7 x8 x9 x10 y0 y1 y2 y3 y4 y5 y6 y7 y8 y9 y10;go_ret;exact⟨by rw[HR.o]<;>rfl,Q3.o⟩
        ·
         have HR:Hid (evEq ⟨k,t,bx,tO,ids,st,md,fl,dt,nn,bd⟩ ⟨k,t,bx,tO,ids,st,md,fl',dt',nn',bd'⟩=false):=hiD (by simp[evEq,hx]);have hne:=jf hx;clear hx;go_enter Tryz.func110,Tryz.ntmps110
         go_wp2_with fail
         refine qb (fun W=>Bk W w.heap.size 50 #[.int .i64 k,.int .i64 t,.string bx,.string tO,.slice A1 n1 c1,.slice A2 n2 c2,.int .i64 md,.int .i64 fl,.int .i64 dt,.int .i64 nn,.slice A3 n3 c3]∧Bk W (w.heap.size+1) 50 #[.int .i64 k,.int .i64 t,.string bx,.string tO,.slice B1 m1 d1,.slice B2 m2 d2,.int .i64 md,.int .i64 fl',.int .i64 dt',.int .i64 nn',.slice B3 m3 d3]∧Below w.heap.size w W) ⟨(Bk.new _ _ _).alloc _,Bk.new2 _ _ _ _,((Below.refl _ _).alloc (Nat.le_refl _) _).alloc (by simp) _⟩ ?_;rintro W ⟨q1,q2,q3⟩;have Q1:=hiD q1;have Q2:=hiD q2;have Q3:=hiD q3;clear q1 q2 q3;have CC:=hiD (zd6 A1 B1 n1 c1 m1 d1 _ _ W (HH.o.later Q3.o).1 (HG.o.later Q3.o).1 HH.o.2.2.2.1 HG.o.2.2.2.1);rw[decide_eq_true rfl] at CC;refine CC.o.mono ?_;rintro e W1 ⟨rfl,q,hq⟩;clear CC;replace Q1:=hiD (show Bk W1 _ _ _ by rw[hq];exact Q1.o.drewNE q)
         replace Q2:=hiD (show Bk W1 _ _ _ by rw[hq];exact Q2.o.drewNE q);replace Q3:=hiD (show Below w.heap.size w W1 by rw[hq];exact qo Q3.o q);clear hq;obtain⟨⟨x0,x1,x2,x3,x4,x5⟩,x6,x7,x8,x9,x10⟩:=Q1.o.evs;obtain⟨⟨y0,y1,y2,y3,y4,y5⟩,y6,y7,y8,y9,y10⟩:=Q2.o.evs;go_wp2_with fail
         clear x0 x1 x2 x3 x4 x5 x6 x7 x8 x9 x10 y0 y1 y2 y3 y4 y5 y6 y7 y8 y9 y10;have CC:=hiD (zen A2 B2 n2 c2 m2 d2 _ _ W1 (HH.o.later Q3.o).2.1 (HG.o.later Q3.o).2.1 HH.o.2.2.2.2.1 HG.o.2.2.2.2.1);rw[decide_eq_true rfl] at CC;refine CC.o.mono ?_;rintro e W2 ⟨rfl,q,hq⟩;clear CC;replace Q1:=hiD (show Bk W2 _ _ _ by rw[hq];exact Q1.o.drewNE q);replace Q2:=hiD (show Bk W2 _ _ _ by rw[hq];exact Q2.o.drewNE q);replace Q3:=hiD (show Below w.heap.size w W2 by rw[hq];exact qo Q3.o q);clear hq;obtain⟨⟨x0,x1,x2,x3,x4,x5⟩,x6,x7,x8,x9,x10⟩:=Q1.o.evs;obtain⟨⟨y0,y1,y2,y3,y4,y5⟩,y6,y7,y8,y9,y10⟩:=Q2.o.evs;go_wp2_with fail
         clear x0 x1 x2 x3 x4 x5 x6 x7 x8 x9 x10 y0 y1 y2 y3 y4 y5 y6 y7 y8 y9 y10;go_ret;exact⟨by rw[HR.o]<;>rfl,Q3.o⟩
       ·
        have HR:Hid (evEq ⟨k,t,bx,tO,ids,st,md,fl,dt,nn,bd⟩ ⟨k,t,bx,tO,ids,st,md',fl',dt',nn',bd'⟩=false):=hiD (by simp[evEq,hx]);have hne:=jf hx;clear hx;go_enter Tryz.func110,Tryz.ntmps110
        go_wp2_with fail
        refine qb (fun W=>Bk W w.heap.size 50 #[.int .i64 k,.int .i64 t,.string bx,.string tO,.slice A1 n1 c1,.slice A2 n2 c2,.int .i64 md,.int .i64 fl,.int .i64 dt,.int .i64 nn,.slice A3 n3 c3]∧Bk W (w.heap.size+1) 50 #[.int .i64 k,.int .i64 t,.string bx,.string tO,.slice B1 m1 d1,.slice B2 m2 d2,.int .i64 md',.int .i64 fl',.int .i64 dt',.int .i64 nn',.slice B3 m3 d3]∧Below w.heap.size w W) ⟨(Bk.new _ _ _).alloc _,Bk.new2 _ _ _ _,((Below.refl _ _).alloc (Nat.le_refl _) _).alloc (by simp) _⟩ ?_;rintro W ⟨q1,q2,q3⟩;have Q1:=hiD q1;have Q2:=hiD q2;have Q3:=hiD q3;clear q1 q2 q3;have CC:=hiD (zd6 A1 B1 n1 c1 m1 d1 _ _ W (HH.o.later Q3.o).1 (HG.o.later Q3.o).1 HH.o.2.2.2.1 HG.o.2.2.2.1);rw[decide_eq_true rfl] at CC;refine CC.o.mono ?_;rintro e W1 ⟨rfl,q,hq⟩;clear CC;replace Q1:=hiD (show Bk W1 _ _ _ by rw[hq];exact Q1.o.drewNE q)
        replace Q2:=hiD (show Bk W1 _ _ _ by rw[hq];exact Q2.o.drewNE q);replace Q3:=hiD (show Below w.heap.size w W1 by rw[hq];exact qo Q3.o q);clear hq;obtain⟨⟨x0,x1,x2,x3,x4,x5⟩,x6,x7,x8,x9,x10⟩:=Q1.o.evs;obtain⟨⟨y0,y1,y2,y3,y4,y5⟩,y6,y7,y8,y9,y10⟩:=Q2.o.evs;go_wp2_with fail
        clear x0 x1 x2 x3 x4 x5 x6 x7 x8 x9 x10 y0 y1 y2 y3 y4 y5 y6 y7 y8 y9 y10;have CC:=hiD (zen A2 B2 n2 c2 m2 d2 _ _ W1 (HH.o.later Q3.o).2.1 (HG.o.later Q3.o).2.1 HH.o.2.2.2.2.1 HG.o.2.2.2.2.1);rw[decide_eq_true rfl] at CC;refine CC.o.mono ?_;rintro e W2 ⟨rfl,q,hq⟩;clear CC;replace Q1:=hiD (show Bk W2 _ _ _ by rw[hq];exact Q1.o.drewNE q);replace Q2:=hiD (show Bk W2 _ _ _ by rw[hq];exact Q2.o.drewNE q);replace Q3:=hiD (show Below w.heap.size w W2 by rw[hq];exact qo Q3.o q);clear hq;obtain⟨⟨x0,x1,x2,x3,x4,x5⟩,x6,x7,x8,x9,x10⟩:=Q1.o.evs;obtain⟨⟨y0,y1,y2,y3,y4,y5⟩,y6,y7,y8,y9,y10⟩:=Q2.o.evs;go_wp2_with fail
        clear x0 x1 x2 x3 x4 x5 x6 x7 x8 x9 x10 y0 y1 y2 y3 y4 y5 y6 y7 y8 y9 y10;go_ret;exact⟨by rw[HR.o]<;>rfl,Q3.o⟩
      ·
       have HR:Hid (evEq ⟨k,t,bx,tO,ids,st,md,fl,dt,nn,bd⟩ ⟨k,t,bx,tO,ids,st',md',fl',dt',nn',bd'⟩=false):=hiD (by simp[evEq,hx]);have HNE:=hiD (show decide (st=st')=false from decide_eq_false hx);clear hx;go_enter Tryz.func110,Tryz.ntmps110
       go_wp2_with fail
       refine qb (fun W=>Bk W w.heap.size 50 #[.int .i64 k,.int .i64 t,.string bx,.string tO,.slice A1 n1 c1,.slice A2 n2 c2,.int .i64 md,.int .i64 fl,.int .i64 dt,.int .i64 nn,.slice A3 n3 c3]∧Bk W (w.heap.size+1) 50 #[.int .i64 k,.int .i64 t,.string bx,.string tO,.slice B1 m1 d1,.slice B2 m2 d2,.int .i64 md',.int .i64 fl',.int .i64 dt',.int .i64 nn',.slice B3 m3 d3]∧Below w.heap.size w W) ⟨(Bk.new _ _ _).alloc _,Bk.new2 _ _ _ _,((Below.refl _ _).alloc (Nat.le_refl _) _).alloc (by simp) _⟩ ?_;rintro W ⟨q1,q2,q3⟩;have Q1:=hiD q1;have Q2:=hiD q2;have Q3:=hiD q3;clear q1 q2 q3;have CC:=hiD (zd6 A1 B1 n1 c1 m1 d1 _ _ W (HH.o.later Q3.o).1 (HG.o.later Q3.o).1 HH.o.2.2.2.1 HG.o.2.2.2.1);rw[decide_eq_true rfl] at CC;refine CC.o.mono ?_;rintro e W1 ⟨rfl,q,hq⟩;clear CC;replace Q1:=hiD (show Bk W1 _ _ _ by rw[hq];exact Q1.o.drewNE q);replace Q2:=hiD (show Bk W1 _ _ _ by rw[hq];exact Q2.o.drewNE q)
       replace Q3:=hiD (show Below w.heap.size w W1 by rw[hq];exact qo Q3.o q);clear hq;obtain⟨⟨x0,x1,x2,x3,x4,x5⟩,x6,x7,x8,x9,x10⟩:=Q1.o.evs;obtain⟨⟨y0,y1,y2,y3,y4,y5⟩,y6,y7,y8,y9,y10⟩:=Q2.o.evs;go_wp2_with fail
       clear x0 x1 x2 x3 x4 x5 x6 x7 x8 x9 x10 y0 y1 y2 y3 y4 y5 y6 y7 y8 y9 y10;have CC:=hiD (zen A2 B2 n2 c2 m2 d2 _ _ W1 (HH.o.later Q3.o).2.1 (HG.o.later Q3.o).2.1 HH.o.2.2.2.2.1 HG.o.2.2.2.2.1)
       dsimp only at CC;rw[HNE.o] at CC
       refine CC.o.mono ?_;rintro e W2 ⟨rfl,q,hq⟩;clear CC;replace Q1:=hiD (show Bk W2 _ _ _ by rw[hq];exact Q1.o.drewNE q);replace Q2:=hiD (show Bk W2 _ _ _ by rw[hq];exact Q2.o.drewNE q);replace Q3:=hiD (show Below w.heap.size w W2 by rw[hq];exact qo Q3.o q);clear hq;obtain⟨⟨x0,x1,x2,x3,x4,x5⟩,x6,x7,x8,x9,x10⟩:=Q1.o.evs;obtain⟨⟨y0,y1,y2,y3,y4,y5⟩,y6,y7,y8,y9,y10⟩:=Q2.o.evs;go_wp2_with fail
       clear x0 x1 x2 x3 x4 x5 x6 x7 x8 x9 x10 y0 y1 y2 y3 y4 y5 y6 y7 y8 y9 y10;go_ret;exact⟨by rw[HR.o]<;>rfl,Q3.o⟩
     ·
      have HR:Hid (evEq ⟨k,t,bx,tO,ids,st,md,fl,dt,nn,bd⟩ ⟨k,t,bx,tO,ids',st',md',fl',dt',nn',bd'⟩=false):=hiD (by simp[evEq,hx]);have HNE:=hiD (show decide (ids=ids')=false from decide_eq_false hx);clear hx;go_enter Tryz.func110,Tryz.ntmps110
      go_wp2_with fail
      refine qb (fun W=>Bk W w.heap.size 50 #[.int .i64 k,.int .i64 t,.string bx,.string tO,.slice A1 n1 c1,.slice A2 n2 c2,.int .i64 md,.int .i64 fl,.int .i64 dt,.int .i64 nn,.slice A3 n3 c3]∧Bk W (w.heap.size+1) 50 #[.int .i64 k,.int .i64 t,.string bx,.string tO,.slice B1 m1 d1,.slice B2 m2 d2,.int .i64 md',.int .i64 fl',.int .i64 dt',.int .i64 nn',.slice B3 m3 d3]∧Below w.heap.size w W) ⟨(Bk.new _ _ _).alloc _,Bk.new2 _ _ _ _,((Below.refl _ _).alloc (Nat.le_refl _) _).alloc (by simp) _⟩ ?_;rintro W ⟨q1,q2,q3⟩;have Q1:=hiD q1;have Q2:=hiD q2;have Q3:=hiD q3;clear q1 q2 q3;have CC:=hiD (zd6 A1 B1 n1 c1 m1 d1 _ _ W (HH.o.later Q3.o).1 (HG.o.later Q3.o).1 HH.o.2.2.2.1 HG.o.2.2.2.1)
      dsimp only at CC;rw[HNE.o] at CC
      refine CC.o.mono ?_;rintro e W1 ⟨rfl,q,hq⟩;clear CC;replace Q1:=hiD (show Bk W1 _ _ _ by rw[hq];exact Q1.o.drewNE q);replace Q2:=hiD (show Bk W1 _ _ _ by rw[hq];exact Q2.o.drewNE q);replace Q3:=hiD (show Below w.heap.size w W1 by rw[hq];exact qo Q3.o q);clear hq;obtain⟨⟨x0,x1,x2,x3,x4,x5⟩,x6,x7,x8,x9,x10⟩:=Q1.o.evs;obtain⟨⟨y0,y1,y2,y3,y4,y5⟩,y6,y7,y8,y9,y10⟩:=Q2.o.evs;go_wp2_with fail
      clear x0 x1 x2 x3 x4 x5 x6 x7 x8 x9 x10 y0 y1 y2 y3 y4 y5 y6 y7 y8 y9 y10;go_ret;exact⟨by rw[HR.o]<;>rfl,Q3.o⟩
    ·
     have HR:Hid (evEq ⟨k,t,bx,tO,ids,st,md,fl,dt,nn,bd⟩ ⟨k,t,bx,to',ids',st',md',fl',dt',nn',bd'⟩=false):=hiD (by simp[evEq,hx]);have hne:=zik hx;clear hx;go_enter Tryz.func110,Tryz.ntmps110
     go_wp2_with fail
     go_ret;exact⟨by rw[HR.o]<;>rfl,((Below.refl _ _).alloc (Nat.le_refl _) _).alloc (by simp) _⟩
   ·
    have HR:Hid (evEq ⟨k,t,bx,tO,ids,st,md,fl,dt,nn,bd⟩ ⟨k,t,bx',to',ids',st',md',fl',dt',nn',bd'⟩=false):=hiD (by simp[evEq,hx]);have hne:=zik hx;clear hx;go_enter Tryz.func110,Tryz.ntmps110
    go_wp2_with fail
    go_ret;exact⟨by rw[HR.o]<;>rfl,((Below.refl _ _).alloc (Nat.le_refl _) _).alloc (by simp) _⟩
  ·
   have HR:Hid (evEq ⟨k,t,bx,tO,ids,st,md,fl,dt,nn,bd⟩ ⟨k,t',bx',to',ids',st',md',fl',dt',nn',bd'⟩=false):=hiD (by simp[evEq,hx]);have hne:=jf hx;clear hx;go_enter Tryz.func110,Tryz.ntmps110
   go_wp2_with fail
   go_ret;exact⟨by rw[HR.o]<;>rfl,((Below.refl _ _).alloc (Nat.le_refl _) _).alloc (by simp) _⟩
 ·
  have HR:Hid (evEq ⟨k,t,bx,tO,ids,st,md,fl,dt,nn,bd⟩ ⟨k',t',bx',to',ids',st',md',fl',dt',nn',bd'⟩=false):=hiD (by simp[evEq,hx]);have hne:=jf hx;clear hx;go_enter Tryz.func110,Tryz.ntmps110
  go_wp2_with fail
  go_ret;exact⟨by rw[HR.o]<;>rfl,((Below.refl _ _).alloc (Nat.le_refl _) _).alloc (by simp) _⟩
def It (w:World)(g:Nat)(p:List Nat)(pos:Nat):Prop:=w.heap[g]?=some (.stringIter (za p) pos)
theorem It.lt {w:World}{g pos:Nat}{p:List Nat}(h:It w g p pos):g<w.heap.size:=(Array.getElem?_eq_some_iff.1 h).1
theorem It.below {w w':World}{g pos:Nat}{p:List Nat}(h:It w g p pos)(hb:Below w.heap.size w w'):It w' g p pos:=(hb.block _ h.lt).trans h
theorem It.far {w:World}{g pos b:Nat}{p:List Nat}(h:It w g p pos){cs:Array Value}{t:TypeId}{cur:Array Value}(hb:Bk w b t cur):It (w.setRow b cs) g p pos:=by
 have hne:g≠b:=by
  intro e;subst e;rw[It,hb] at h;cases h
 exact(setRow_other' w b g cs hne).trans h
theorem It.iter {w:World}{g pos:Nat}{p:List Nat}(h:It w g p pos)(pos':Nat):It (w.iterAt g (za p) pos') g p pos':=Lib.iterAt_heap w g (za p) pos pos' h
theorem Bk.iter {w:World}{g pos b:Nat}{p:List Nat}(h:It w g p pos){t:TypeId}{cs:Array Value}(hb:Bk w b t cs)(pos':Nat):Bk (w.iterAt g (za p) pos') b t cs:=by
 have hne:b≠g:=by
  intro e;subst e;rw[It,hb] at h;cases h
 exact(Lib.iterAt_other w g b (za p) pos' hne).trans hb
theorem z23 {p:List Nat}(hp:∀ x∈p,x<128){pos c:Nat}(hc:p[pos]?=some c):∃ h:pos<(za p).size,((za p)[pos]'h).toNat=c:=by
 have hlt:pos<p.length:=(List.getElem?_eq_some_iff.1 hc).1;have h:pos<(za p).size:=by rw[zc7];exact hlt
 refine⟨h,?_⟩;have e:(nats (za p))[pos]?=some ((za p)[pos]'h).toNat:=by
  unfold nats;rw[List.getElem?_map,Lib.data_getElem? _ pos h];rfl
 rw[zbw p (fun x hx=>Nat.lt_trans (hp x hx) (by decide)),hc] at e;exact(Option.some.inj e).symm
theorem zrl {P:Program}{w:World}{g pos c:Nat}{p:List Nat}(hp:∀ x∈p,x<128)(h:It w g p pos)(hc:p[pos]?=some c)(ty:TypeId) :
 (Instr.next (.pointer (some ⟨g,0,none⟩)) true ty).run P w=.ok (.tuple #[.bool true,.int .i64 (pos:Int),.int .i32 (c:Int)]) (w.iterAt g (za p) (pos+1)):=by
 obtain⟨hlt,e⟩:=z23 hp hc;have hc128:=hp c (List.mem_of_getElem? hc);have:=Lib.run_next_ascii_at (P:=P) w g (za p) pos ty h hlt (by rw[e];exact hc128);rw[e] at this;exact this
theorem zrm {P:Program}{w:World}{g pos:Nat}{p:List Nat}(h:It w g p pos)(hl:p.length≤pos)(ty:TypeId) :
 (Instr.next (.pointer (some ⟨g,0,none⟩)) true ty).run P w=.ok (.tuple #[.bool false]) w :=
 Lib.run_next_end_at (P:=P) w g (za p) pos ty h (by rw[zc7];omega)
theorem zrn {e:Ev}(h:zg e.kind=[]):z7 e=false:=by unfold z7;rw[h];rfl
theorem zro {e:Ev}(h:tmB e.at_=false):z7 e=false:=by unfold z7;rw[h,Bool.false_and,Bool.and_false]
theorem z24 {e:Ev}{c:Nat}(hc:c∈zg e.kind)(h:okQ e c=false):z7 e=false:=by
 unfold z7;have:(zg e.kind).all (okQ e)=false:=by
  rw[List.all_eq_false];exact⟨c,hc,by rw[h];decide⟩
 rw[this,Bool.false_and,Bool.and_false,Bool.and_false]
theorem z26 {e:Ev}(h0:¬ zg e.kind=[])(h1:tmB e.at_=true)(h2:∀ c∈zg e.kind,okQ e c=true):z7 e=evEq ((zg e.kind).foldl outP e) (bare e.kind e.at_):=by
 unfold z7;have:(zg e.kind).isEmpty=false:=by simpa using h0
 rw[this,h1,List.all_eq_true.2 h2,Bool.true_and];rfl
theorem zeo (p:List Nat):(za p).toList.isEmpty=decide (p=[]):=by
 rw[ByteArray.toList_eq,zci];cases p<;>simp
theorem z27 {p:List Nat}{k c:Nat}(hc:p[k]?=some c)(e:Ev):(p.take (k+1)).foldl outP e=outP ((p.take k).foldl outP e) c:=by
 rw[zbz p k c hc,List.foldl_append];rfl
theorem z28 {e:Ev}{p:List Nat}{k c:Nat}(h:∀ x∈p.take k,okQ e x=true)(hc:p[k]?=some c)(hx:okQ e c=true):∀ x∈p.take (k+1),okQ e x=true:=by
 intro x hm;rw[zbz p k c hc] at hm;rcases List.mem_append.1 hm with hm|hm
 ·exact h x hm
 ·rw[List.mem_singleton.1 hm];exact hx
structure RtAt (w:World)(h:Eh)(b1 b4 g:Nat)(p:List Nat)(pos:Nat)(H:Eh)(wx:World):Prop where
 it:It wx g p pos
 bx:Bk wx b1 50 (evC h)
 left:Bk wx b4 50 (evC H)
 val:H.e=(p.take pos).foldl outP h.e
 inn:EvIn w w.heap.size H
 ok:∀ c∈p.take pos,okQ h.e c=true
 below:Below w.heap.size w wx
theorem It.pos {w:World}{g pos:Nat}{p:List Nat}(h:It w g p pos):w.iterPos g=pos:=by unfold World.iterPos;rw[show w.heap[g]?=some (.stringIter (za p) pos)from h]
def RightIs (h:Eh)(w:World)(e:Ending)(w':World):Prop:=e=.returned (.bool (z7 h.e))∧Below w.heap.size w w'
theorem zla (h:Eh)(w:World)(Hh:EvIn w w.heap.size h)(hK:Kinds w):Calls Tryz.prog 55 #[.agg (evC h)] w (RightIs h w):=by
 have HH:=hiD Hh;have HK:=hiD hK;clear Hh hK;go_enter Tryz.func55,Tryz.ntmps55
 go_wp2_with (with_reducible refine stn 7 ?_)
 refine held (qk (fun W=>Bk W w.heap.size 50 (evC h)∧Below w.heap.size w W) ⟨Bk.new _ _ _,(Below.refl _ _).alloc (Nat.le_refl _) _⟩ ?_);rintro W ⟨q1,q2⟩;have Q1:=hiD q1;have Q2:=hiD q2;have c0:W.cell? ⟨w.heap.size,0,none⟩=some (.int .i64 h.e.kind):=q1.cell 0;clear q1 q2;go_wp2_with fail
 refine(zrh h.e.kind W (HK.o.below Q2.o)).mono ?_;rintro e W1 ⟨rfl,hb⟩;have R1:=hiD (Q1.o.below hb Q1.o.lt);have R2:=hiD (Q2.o.trans (hb.mono Q2.o.size));have c1:W1.cell? ⟨w.heap.size,1,none⟩=some (.int .i64 h.e.at_):=R1.o.cell 1;clear hb c0 Q1 Q2;by_cases hp0:zg h.e.kind=[]
 ·have HR:=hiD (zrn hp0)
  have he:(za (zg h.e.kind)).toList.isEmpty=true:=by rw[zeo];exact decide_eq_true hp0
  clear hp0;go_wp2_with fail
  go_ret;exact⟨by rw[HR.o]<;>rfl,R2.o⟩
 have he:(za (zg h.e.kind)).toList.isEmpty=false:=by rw[zeo];exact decide_eq_false hp0
 have HP0:=hiD hp0;clear hp0;go_wp2_with fail
 refine(zk6 h.e.at_ W1).mono ?_;rintro e w' ⟨rfl,rfl⟩;cases ht:tmB h.e.at_
 ·have HR:=hiD (zro ht)
  clear ht;go_wp2_with fail
  go_ret;exact⟨by rw[HR.o]<;>rfl,R2.o⟩
 have HT:=hiD ht;clear ht c1;obtain⟨p,hp⟩:∃ p,zg h.e.kind=p:=⟨_,rfl⟩;rw[hp] at HP0 he ⊢;have hp128:∀ x∈p,x<128:=by rw[← hp];exact zkg _
 have hp9:∀ x∈p,x∈nineL:=by rw[← hp];exact(zgk _).1
 have H128:=hiD hp128;have H9:=hiD hp9;have HP:=hiD hp;clear hp hp128 hp9;go_wp2_with (with_reducible refine stn 18 ?_)
 refine held (wpList_load_mid rfl 50 (.tmp 1) rfl w.heap.size 0 rfl _ _ R1.o.range Tryz.underlying50 rfl (by kernel_rfl) ?_);go_wp2_with (with_reducible refine st0 ?_)
 refine held (zi rfl 50 (.tmp 4) (.tmp 18) rfl W1.heap.size 0 (evC h) rfl rfl 50 (evC (ze 0 0)) (Bk.new W1 50 (evC (ze 0 0))) (by rw[zd,zd];decide) (by rw[zd];exact zr) (zw h) ?_);intro W2 hW2;have hw2:=qa hW2 (by rw[zd,zd])
 have S1:Hid (Bk W2 w.heap.size 50 (evC h)):=hiD (by
  rw[hw2]
  exact(R1.o.alloc _).setRow_other (by have:=R1.o.lt;omega) _)
 have S4:Hid (Bk W2 W1.heap.size 50 (evC h)):=hiD (by rw[hw2];exact(Bk.new W1 50 (evC (ze 0 0))).setRow_same _);have SB:Hid (Below w.heap.size w W2):=hiD (by rw[hw2];exact below_setRow (R2.o.alloc R2.o.size _) R2.o.size _);clear hw2 hW2;go_wp2_with fail
 go_loopw [6] (fun _ wx=>∃ (pos:Nat) (H:Eh),pos≤p.length∧RtAt w h w.heap.size W1.heap.size W2.heap.size p pos H wx) (fun _ wx=>p.length-wx.iterPos W2.heap.size)
 case atStart =>
  refine⟨0,h,Nat.zero_le _,?_⟩;exact { it:=World.iter_heap W2 (za p) 0,bx:=S1.o.alloc _,left:=S4.o.alloc _,val:=rfl,inn:=HH.o,ok:=(by intro c hc;simp at hc),below:=SB.o.alloc SB.o.size _ }
 case round =>
  obtain⟨pos,H,hpos,hr⟩:=hrel;have HR:=hiD hr;have HM:Hid (wr.iterPos W2.heap.size=pos):=hiD hr.it.pos;clear hr;by_cases hlt:pos<p.length
  ·obtain⟨c,hc⟩:∃ c,p[pos]?=some c:=⟨_,List.getElem?_eq_getElem hlt⟩
   have hnx:=fun ty=>zrl (P:=Tryz.prog) H128.o HR.o.it hc ty;have T1:Hid (Bk (wr.iterAt W2.heap.size (za p) (pos+1)) w.heap.size 50 (evC h)):=hiD (Bk.iter HR.o.it HR.o.bx _);have T4:Hid (Bk (wr.iterAt W2.heap.size (za p) (pos+1)) W1.heap.size 50 (evC H)):=hiD (Bk.iter HR.o.it HR.o.left _);have TI:Hid (It (wr.iterAt W2.heap.size (za p) (pos+1)) W2.heap.size p (pos+1)):=hiD (HR.o.it.iter _);have TB:Hid (Below w.heap.size w (wr.iterAt W2.heap.size (za p) (pos+1))):=hiD (Lib.below_iterAt HR.o.below SB.o.size _ _);have HC:=hiD hc;have hc9:=H9.o c (List.mem_of_getElem? hc);have HC9:=hiD hc9;clear hc hc9;go_wp2_with (with_reducible refine stn 24 ?_)
   refine held (qk (fun W=>Bk W w.heap.size 50 (evC h)∧Bk W W1.heap.size 50 (evC H)∧It W W2.heap.size p (pos+1)∧Below w.heap.size w W) ⟨T1.o,T4.o,TI.o,TB.o⟩ ?_);rintro W3 ⟨q1,q2,q3,q4⟩;have U1:=hiD q1;have U4:=hiD q2;have UI:=hiD q3;have UB:=hiD q4;clear q1 q2 q3 q4 hnx T1 T4 TI TB;refine wpList_load_mid rfl 50 (.tmp 1) rfl w.heap.size 0 rfl _ _ U1.o.range Tryz.underlying50 rfl (by kernel_rfl) ?_;go_wp2_with fail
   refine(z2z h HC9.o W3 (HH.o.later UB.o)).mono ?_;rintro e W4 ⟨rfl,hb⟩;have V1:=hiD (U1.o.below hb U1.o.lt);have V4:=hiD (U4.o.below hb U4.o.lt);have VI:=hiD (UI.o.below hb);have VB:=hiD (UB.o.trans (hb.mono UB.o.size));clear hb U1 U4 UI UB;cases hok:okQ h.e c
   ·have HF:=hiD (z24 (by rw[HP.o];exact List.mem_of_getElem? HC.o) hok)
    clear hok;go_wp2_with fail
    go_ret;exact⟨by rw[HF.o]<;>rfl,VB.o⟩
   ·have HOK:=hiD hok
    clear hok;go_wp2_with (with_reducible refine stn 28 ?_)
    refine held (wpList_load_mid rfl 50 (.tmp 4) rfl W1.heap.size 0 rfl _ _ V4.o.range Tryz.underlying50 rfl (by kernel_rfl) ?_);go_wp2_with fail
    refine(z32 H HC9.o W4).mono ?_;rintro e W5 ⟨rfl,hb⟩;have X1:=hiD (V1.o.below hb V1.o.lt);have X4:=hiD (V4.o.below hb V4.o.lt);have XI:=hiD (VI.o.below hb);have XB:=hiD (VB.o.trans (hb.mono VB.o.size));clear hb V1 V4 VI VB;go_wp2_with (with_reducible refine st0 ?_)
    refine held (zi rfl 50 (.tmp 4) (.tmp 30) rfl W1.heap.size 0 (evC (outH H c)) rfl rfl 50 (evC H) X4.o (by rw[zd,zd];decide) (by rw[zd];exact zr) (zw _) ?_);intro W6 hW6;simp only[Act.put];have hw6:=qa hW6 (by rw[zd,zd])
    have R:Hid (RtAt w h w.heap.size W1.heap.size W2.heap.size p (pos+1) (outH H c) W6):=hiD (by
     rw[hw6]
     exact { it:=XI.o.far X4.o,bx:=X1.o.setRow_other (by have:=R1.o.lt;omega) _,left:=X4.o.setRow_same _,val:=by rw[z3r,HR.o.val,z27 HC.o],inn:=HR.o.inn.out HC9.o,ok:=z28 HR.o.ok HC.o HOK.o,below:=below_setRow XB.o R2.o.size _ })
    clear hw6 hW6 HR;go_wp2_with fail
    go_roundw
    case rel=>exact⟨pos+1,outH H c,by omega,R.o⟩
    case measure=>rw[R.o.it.pos];rw[HM.o];omega
  ·have hnx:=fun ty=>zrm (P:=Tryz.prog) HR.o.it (by omega) ty
   obtain rfl:pos=p.length:=by omega
   have T1:=hiD HR.o.bx;have T4:=hiD HR.o.left;have TB:=hiD HR.o.below
   have TV:Hid (z7 h.e=evEq H.e (bare h.e.kind h.e.at_)):=hiD (by
    have h1:=HR.o.val;have h2:=HR.o.ok;rw[List.take_of_length_le (Nat.le_refl _)] at h1 h2
    rw[z26 (by rw[HP.o];exact HP0.o) HT.o (by rw[HP.o];exact h2),HP.o,h1])
   have TN:=hiD HR.o.inn;have d0:wr.cell? ⟨w.heap.size,0,none⟩=some (.int .i64 h.e.kind):=HR.o.bx.cell 0;have d1:wr.cell? ⟨w.heap.size,1,none⟩=some (.int .i64 h.e.at_):=HR.o.bx.cell 1;clear HR;go_wp2_with (with_reducible refine stn 31 ?_)
   refine held (wpList_load_mid rfl 50 (.tmp 4) rfl W1.heap.size 0 rfl _ _ T4.o.range Tryz.underlying50 rfl (by kernel_rfl) ?_);go_wp2_with fail
   refine(z20 H (ze h.e.kind h.e.at_) wr (TN.o.later TB.o) (EvIn.bare _ _ _ _)).mono ?_;rintro e W4 ⟨rfl,hb⟩;have VB:=hiD (TB.o.trans (hb.mono TB.o.size));clear hb d0 d1;go_wp2_with fail
   go_ret;exact⟨by rw[TV.o]<;>rfl,VB.o⟩
end Go.Proofs.YtmjjefnmabbgdaaGreatDoor
