/- A part of the proof. -/
import Derived.Test.YtmjjefnmabbgdaaGreatDoorSTextOwn
import Derived.Laws.StructEq
import Derived.Deep.QuietTactic
namespace Go.Proofs.YtmjjefnmabbgdaaGreatDoor
set_option linter.unusedVariables false
set_option linter.unusedSimpArgs false
set_option maxRecDepth 100000
set_option maxHeartbeats 16000000
open Go.RowKit
def rgC (r:Rg):List Value:=[.int .i64 r.1,.int .i64 r.2]
theorem zip (r:Rg):(rgC r).length=2:=rfl
def ints (z:Int):Value:=.int .i64 z
theorem z40 {l:List Rg}(h:l.length<1):jr l=false:=decide_eq_false fun e=>by omega
theorem zr4 {l:List Rg}(h:60<l.length):jr l=false:=decide_eq_false fun e=>by omega
theorem ziq {l:List Rg}{k:Nat}{r:Rg}(hr:l[k]?=some r)(h:¬ okR r):jr l=false:=decide_eq_false fun e=>h (e.2.2 r (List.mem_of_getElem? hr))
theorem z41 {l:List Rg}(h1:1≤l.length)(h2:l.length≤60)(h:∀ r∈l,okR r):jr l=true:=decide_eq_true ⟨h1,h2,h⟩
theorem z42 {l:List Rg}{k:Nat}{r:Rg}(h:∀ x∈l.take k,okR x)(ht:l.take (k+1)=l.take k++[r])(hr:okR r):∀ x∈l.take (k+1),okR x:=by
 rw[ht];intro x hx;rcases List.mem_append.1 hx with h1|h1
 ·exact h x h1
 ·rw[List.mem_singleton.1 h1];exact hr
theorem z43 (A:Option Addr)(n c:Nat)(l:List Rg)(w:World)(hl:ColK 2 rgC w w.heap.size A n l)(hn:n≤140737488355328) :
 Calls Tryz.prog 64 #[.slice A n c] w fun e w'=>e=.returned (.bool (jr l))∧w=w':=by
 have HL:=hiD hl;have HLN:=hiD hl.1;clear hl;go_enter Tryz.func64,Tryz.ntmps64
 go_wp2_with fail
 go_loop [3] (fun i=>∃ k:Nat,k≤n∧k≤61∧i=.int .i64 (k:Int)∧(∀ r∈l.take k,okR r)) (fun i=>n-(intOf i).toNat)
 case atStart=>exact⟨0,Nat.zero_le _,Nat.zero_le _,rfl,fun r hr=>by simp at hr⟩
 case round =>
  obtain⟨k,hk,hk61,rfl,ha⟩:=hrel;have HA:=hiD ha;clear ha;by_cases hlt:k<n∧k<61
  ·obtain⟨hlt1,hlt2⟩:=hlt
   have hk0:(0:Int)≤(k:Int):=by omega
   have hkn:(k:Int)<(n:Int):=by omega
   have hk6:(k:Int)<61:=by omega
   obtain⟨b,o,r,rfl,hbb,hla,htk,hrow⟩:=HL.o.at_ hlt1;obtain⟨x,y⟩:=r;have r0:=hrow 0 _ rfl;have r1:=hrow 1 _ rfl;rw[Nat.add_zero] at r0;have HLA:=hiD hla;have HTK:=hiD htk;clear hla htk hrow;by_cases hx0:x<0
   ·have HR:Hid (jr l=false):=hiD (ziq HLA.o (fun e=>by have:=e.1.1;simp at this;omega))
    go_wp2_with fail
    go_ret;exact⟨by rw[HR.o]<;>rfl,rfl⟩
   ·by_cases hx1:4294967295<x
    ·have HR:Hid (jr l=false):=hiD (ziq HLA.o (fun e=>by have:=e.1.2;simp at this;omega))
     go_wp2_with fail
     go_ret;exact⟨by rw[HR.o]<;>rfl,rfl⟩
    ·by_cases hy0:y<0
     ·have HR:Hid (jr l=false):=hiD (ziq HLA.o (fun e=>by have:=e.2.1;simp at this;omega))
      go_wp2_with fail
      go_ret;exact⟨by rw[HR.o]<;>rfl,rfl⟩
     ·by_cases hy1:4294967295<y
      ·have HR:Hid (jr l=false):=hiD (ziq HLA.o (fun e=>by have:=e.2.2;simp at this;omega))
       go_wp2_with fail
       go_ret;exact⟨by rw[HR.o]<;>rfl,rfl⟩
      ·have HN:=hiD (z42 HA.o HTK.o ⟨⟨by simp;omega,by simp;omega⟩,⟨by simp;omega,by simp;omega⟩⟩)
       go_wp2_with fail
       go_round
       case rel=>exact⟨k+1,by omega,by omega,by go_num,HN.o⟩
       case measure=>simp[intOf];omega
  ·by_cases hkn:k<n
   ·have hkn':(k:Int)<(n:Int):=by omega
    have hk6:¬ (k:Int)<61:=by omega
    have h60:¬ (n:Int)≤60:=by omega
    have h1:(1:Int)≤(n:Int):=by omega
    have HR:Hid (jr l=false):=hiD (zr4 (by rw[HLN.o];omega));go_wp2_with fail
    go_ret;exact⟨by rw[HR.o]<;>rfl,rfl⟩
   ·have hkn':¬ (k:Int)<(n:Int):=by omega
    have hall:∀ r∈l,okR r:=by have:=HA.o;rwa [List.take_of_length_le (by rw[HLN.o];omega)] at this
    have HALL:=hiD hall;clear hall;by_cases h1:1≤n
    ·have h1':(1:Int)≤(n:Int):=by omega
     by_cases h60:n≤60
     ·have h60':(n:Int)≤60:=by omega
      have HR:Hid (jr l=true):=hiD (z41 (by rw[HLN.o];exact h1) (by rw[HLN.o];exact h60) HALL.o);go_wp2_with fail
      go_ret;exact⟨by rw[HR.o]<;>rfl,rfl⟩
     ·have h60':¬ (n:Int)≤60:=by omega
      have HR:Hid (jr l=false):=hiD (zr4 (by rw[HLN.o];omega));go_wp2_with fail
      go_ret;exact⟨by rw[HR.o]<;>rfl,rfl⟩
    ·have h1':¬ (1:Int)≤(n:Int):=by omega
     have HR:Hid (jr l=false):=hiD (z40 (by rw[HLN.o];omega));go_wp2_with fail
     go_ret;exact⟨by rw[HR.o]<;>rfl,rfl⟩
theorem zir {α:Type}{a b:List α}(hl:a.length=b.length)(k:Nat)(h:a.take k=b.take k)(hk:k=a.length):a=b:=by
 rwa [List.take_of_length_le (by omega),List.take_of_length_le (by omega)] at h
theorem zis {α:Type}{a b:List α}{k:Nat}{x y:α}(hx:a[k]?=some x)(hy:b[k]?=some y)(h:x≠y):a≠b:=fun e=>h (by rw[e,hy] at hx;exact(Option.some.inj hx).symm)
theorem zd7 (A B:Option Addr)(n c m d:Nat)(l r:List Int)(w:World)(hl:Col ints w w.heap.size A n l)(hr:Col ints w w.heap.size B m r)(hn:n≤140737488355328)(hm:m≤140737488355328) :
 Calls Tryz.prog 39 #[.slice A n c,.slice B m d] w fun e w'=>e=.returned (.bool (decide (l=r)))∧∃ q,w'=w.drewN q:=by
 have HL:=hiD hl;have HR:=hiD hr;by_cases hnm:n=m
 ·subst hnm
  have hne:((n:Int) != (n:Int))=false:=by simp
  clear hl hr;go_enter Tryz.func39,Tryz.ntmps39
  go_wp2_with fail
  go_loopw [5] (fun i wx=>∃ k q:Nat,k≤n∧i=.int .i64 (k:Int)∧l.take k=r.take k∧wx=w.drewN q) (fun i _=>n-(intOf i).toNat)
  case atStart=>exact⟨0,0,Nat.zero_le _,rfl,rfl,rfl⟩
  case round =>
   obtain⟨k,q,hk,rfl,hm,hw⟩:=hrel;have HM:=hiD hm;have HW:=hiD hw;clear hm hw;by_cases hlt:k<n
   ·obtain⟨b,o,x,rfl,hbb,hla,htk,hc⟩:=HL.o.at_ hlt
    obtain⟨b2,o2,y,rfl,hbb2,hla2,htk2,hc2⟩:=HR.o.at_ hlt;rw[show w.cell? ⟨b,o+k,none⟩=wr.cell? ⟨b,o+k,none⟩by rw[HW.o];rfl] at hc;rw[show w.cell? ⟨b2,o2+k,none⟩=wr.cell? ⟨b2,o2+k,none⟩by rw[HW.o];rfl] at hc2;have hk0:(0:Int)≤(k:Int):=by omega
    have hkn:(k:Int)<(n:Int):=by omega
    unfold ints at hc hc2;have HA1:=hiD hla;have HA2:=hiD hla2;have HT1:=hiD htk;have HT2:=hiD htk2;clear hla hla2 htk htk2;by_cases he:x=y
    ·subst he
     have hxy:(x != x)=false:=by simp
     have HN:Hid (l.take (k+1)=r.take (k+1)):=hiD (by rw[HT1.o,HT2.o,HM.o]);go_wp2_with fail
     go_quiet (fail)
     go_wp2_with fail
     go_roundw
     case rel=>exact⟨k+1,_,by omega,by go_num,HN.o,by rw[HW.o];exact zbf _ _ _⟩
     case measure=>simp[intOf];omega
    ·have hxy:(x != y)=true:=by simp;exact he
     have HN:Hid (decide (l=r)=false):=hiD (decide_eq_false (zis HA1.o HA2.o he));go_wp2_with fail
     go_quiet (fail)
     go_wp2_with fail
     go_ret;exact⟨by rw[HN.o]<;>rfl,_,by rw[HW.o];exact zbf _ _ _⟩
   ·have HN:Hid (decide (l=r)=true):=hiD (decide_eq_true (zir (HL.o.1.trans HR.o.1.symm) k HM.o (by rw[HL.o.1];omega)))
    go_wp2_with fail
    go_ret;exact⟨by rw[HN.o]<;>rfl,_,HW.o⟩
 ·have hne:((n:Int) != (m:Int))=true:=by simp;omega
  have HN:Hid (decide (l=r)=false):=hiD (decide_eq_false (fun e=>hnm (by rw[← hl.1,← hr.1,e])));clear hl hr;go_enter Tryz.func39,Tryz.ntmps39
  go_wp2_with fail
  go_ret;exact⟨by rw[HN.o]<;>rfl,0,rfl⟩
theorem zr5:Tryz.prog.fieldsOf 114=#[{ name:= "From",type:=3,offset:=0,embedded:=false,tag:= "",pkgPath:= "",byteOffset:=0 },{ name:= "To",type:=3,offset:=1,embedded:=false,tag:= "",pkgPath:= "",byteOffset:=8 }]:=by kernel_rfl
theorem zit (W:World)(x y u v:Int):(binOp .neq 114 (.agg #[.int .i64 x,.int .i64 y]) (.agg #[.int .i64 u,.int .i64 v])).run Tryz.prog W=.ok (.bool (!decide ((x,y)=(u,v)))) W:=by
 have h1:Tryz.prog.underlying 114=some (.struct (Tryz.prog.fieldsOf 114)):=by rw[zr5];exact Tryz.underlying114
 have h2:Tryz.prog.stoodInHeld 114=false:=by kernel_rfl
 simp[binOp,Op.equal,Op.maxDepth,run_equalIn_agg W 9999 114 _ _ h1 h2,zr5];have p0:∀ (a b:Int),(part 3 #[Value.int IntKind.i64 a,Value.int IntKind.i64 b] 0).run Tryz.prog W=.ok (.int .i64 a) W:=fun a b=>by simp[part,isAgg,Sem.run_bind,run_underlying Tryz.underlying3]
 have p1:∀ (a b:Int),(part 3 #[Value.int IntKind.i64 a,Value.int IntKind.i64 b] 1).run Tryz.prog W=.ok (.int .i64 b) W:=fun a b=>by simp[part,isAgg,Sem.run_bind,run_underlying Tryz.underlying3]
 have q:∀ a b,(Op.equalIn 9999 3 (.int .i64 a) (.int .i64 b)).run Tryz.prog W=.ok (a == b) W:=fun a b=>run_equalIn_int W 9998 3 .i64 .i64 a b Tryz.underlying3;simp[Op.eqFields,p0,p1,q,Sem.run_bind];by_cases h1:x=u<;>by_cases h2:y=v<;>simp[h1,h2]
theorem zep (A B:Option Addr)(n c m d:Nat)(l r:List Rg)(w:World)(hl:ColK 2 rgC w w.heap.size A n l)(hr:ColK 2 rgC w w.heap.size B m r)(hn:n≤140737488355328)(hm:m≤140737488355328) :
 Calls Tryz.prog 38 #[.slice A n c,.slice B m d] w fun e w'=>e=.returned (.bool (decide (l=r)))∧∃ q,w'=w.drewN q:=by
 have HL:=hiD hl;have HR:=hiD hr;by_cases hnm:n=m
 ·subst hnm
  have hne:((n:Int) != (n:Int))=false:=by simp
  clear hl hr;go_enter Tryz.func38,Tryz.ntmps38
  go_wp2_with fail
  go_loopw [5] (fun i wx=>∃ k q:Nat,k≤n∧i=.int .i64 (k:Int)∧l.take k=r.take k∧wx=w.drewN q) (fun i _=>n-(intOf i).toNat)
  case atStart=>exact⟨0,0,Nat.zero_le _,rfl,rfl,rfl⟩
  case round =>
   obtain⟨k,q,hk,rfl,hm,hw⟩:=hrel;have HM:=hiD hm;have HW:=hiD hw;clear hm hw;by_cases hlt:k<n
   ·obtain⟨b,o,x,rfl,hbb,hla,htk,hc⟩:=HL.o.at_ hlt
    obtain⟨b2,o2,y,rfl,hbb2,hla2,htk2,hc2⟩:=HR.o.at_ hlt;rw[show w.rangeAt b (o+k*2) (rgC x)=wr.rangeAt b (o+k*2) (rgC x)by rw[HW.o];rfl] at hc;rw[show w.rangeAt b2 (o2+k*2) (rgC y)=wr.rangeAt b2 (o2+k*2) (rgC y)by rw[HW.o];rfl] at hc2;obtain⟨x0,x1⟩:=x;obtain⟨y0,y1⟩:=y;have r0:=hc 0 _ rfl;have r1:=hc 1 _ rfl;have s0:=hc2 0 _ rfl;have s1:=hc2 1 _ rfl;rw[Nat.add_zero] at r0 s0;have hk0:(0:Int)≤(k:Int):=by omega
    have hkn:(k:Int)<(n:Int):=by omega
    have HA1:=hiD hla;have HA2:=hiD hla2;have HT1:=hiD htk;have HT2:=hiD htk2;clear hla hla2 htk htk2 hc hc2;by_cases he:(x0,x1)=(y0,y1)
    ·injection he with he1 he2
     subst he1 he2;have kq:∀ W,(binOp .neq 114 (.agg #[.int .i64 x0,.int .i64 x1]) (.agg #[.int .i64 x0,.int .i64 x1])).run Tryz.prog W=.ok (.bool false) W:=fun W=>by rw[zit];simp
     have HN:Hid (l.take (k+1)=r.take (k+1)):=hiD (by rw[HT1.o,HT2.o,HM.o]);go_wp2_with fail
     go_quiet (fail)
     go_wp2_with fail
     go_roundw
     case rel=>exact⟨k+1,_,by omega,by go_num,HN.o,by rw[HW.o];exact zbf _ _ _⟩
     case measure=>simp[intOf];omega
    ·have kq:∀ W,(binOp .neq 114 (.agg #[.int .i64 x0,.int .i64 x1]) (.agg #[.int .i64 y0,.int .i64 y1])).run Tryz.prog W=.ok (.bool true) W:=fun W=>by rw[zit,decide_eq_false he];rfl
     have HN:Hid (decide (l=r)=false):=hiD (decide_eq_false (zis HA1.o HA2.o he));clear he;go_wp2_with fail
     go_quiet (fail)
     go_wp2_with fail
     go_ret;exact⟨by rw[HN.o]<;>rfl,_,by rw[HW.o];exact zbf _ _ _⟩
   ·have HN:Hid (decide (l=r)=true):=hiD (decide_eq_true (zir (HL.o.1.trans HR.o.1.symm) k HM.o (by rw[HL.o.1];omega)))
    go_wp2_with fail
    go_ret;exact⟨by rw[HN.o]<;>rfl,_,HW.o⟩
 ·have hne:((n:Int) != (m:Int))=true:=by simp;omega
  have HN:Hid (decide (l=r)=false):=hiD (decide_eq_false (fun e=>hnm (by rw[← hl.1,← hr.1,e])));clear hl hr;go_enter Tryz.func38,Tryz.ntmps38
  go_wp2_with fail
  go_ret;exact⟨by rw[HN.o]<;>rfl,0,rfl⟩
theorem zc2 {l:List Int}{k:Nat}{x:Int}(h:l[k]?=some x):l.getD k 0=x:=by rw[List.getD_eq_getElem?_getD,h];rfl
theorem z44 {l:List Int}{k:Nat}{x:Int}(h:l[k]?=some x)(hx:x<1):zcl l k=false:=decide_eq_false fun e=>by rw[zc2 h] at e;omega
theorem z47 {l:List Int}{k:Nat}{x:Int}(h:l[k]?=some x)(hx:4294967295<x):zcl l k=false:=decide_eq_false fun e=>by rw[zc2 h] at e;omega
theorem z48 {l:List Int}{x:Int}(h:l[0]?=some x)(h1:1≤x)(h2:x≤4294967295):zcl l 0=true:=decide_eq_true ⟨by rw[zc2 h];exact h1,by rw[zc2 h];exact h2,.inl rfl⟩
theorem z49 {l:List Int}{j:Nat}{x y:Int}(h:l[j+1]?=some x)(hy:l[j]?=some y)(h1:1≤x)(h2:x≤4294967295)(h3:y<x):zcl l (j+1)=true :=
 decide_eq_true ⟨by rw[zc2 h];exact h1,by rw[zc2 h];exact h2,.inr (by rw[zc2 h,Nat.add_sub_cancel,zc2 hy];exact h3)⟩
theorem z5a {l:List Int}{j:Nat}{x y:Int}(h:l[j+1]?=some x)(hy:l[j]?=some y)(h3:x≤y):zcl l (j+1)=false:=decide_eq_false fun e=>by
 rw[zc2 h,Nat.add_sub_cancel,zc2 hy] at e;rcases e.2.2 with e|e<;>omega
def zfs (l:List Int)(k:Nat):Prop:=∀ i,i<k→zcl l i=true
theorem zlf {l:List Int}{k:Nat}(h:zfs l k)(hk:zcl l k=true):zfs l (k+1):=fun i hi=>by
 by_cases e:i=k
 ·rw[e];exact hk
 ·exact h i (by omega)
theorem zr6 {l:List Int}{k:Nat}(h:zfs l k)(hk:l.length≤k):zel l=true:=decide_eq_true fun i hi=>h i (by omega)
theorem z5b (A:Option Addr)(n c:Nat)(l:List Int)(w:World)(hl:Col ints w w.heap.size A n l)(hn:n≤140737488355328) :
 Calls Tryz.prog 67 #[.slice A n c] w fun e w'=>e=.returned (.bool (zel l))∧∃ q,w'=w.drewN q:=by
 have HL:=hiD hl;clear hl;go_enter Tryz.func67,Tryz.ntmps67
 go_wp2_with fail
 go_loopw [3] (fun i wx=>∃ k q:Nat,k≤n∧i=.int .i64 (k:Int)∧zfs l k∧wx=w.drewN q) (fun i _=>n-(intOf i).toNat)
 case atStart=>exact⟨0,0,Nat.zero_le _,rfl,fun i hi=>by omega,rfl⟩
 case round =>
  obtain⟨k,q,hk,rfl,hm,hw⟩:=hrel;have HM:=hiD hm;have HW:=hiD hw;clear hm hw;by_cases hlt:k<n
  ·obtain⟨b,o,x,rfl,hbb,hla,htk,hc⟩:=HL.o.at_ hlt
   rw[show w.cell? ⟨b,o+k,none⟩=wr.cell? ⟨b,o+k,none⟩by rw[HW.o];rfl] at hc;have hk0:(0:Int)≤(k:Int):=by omega
   have hkn:(k:Int)<(n:Int):=by omega
   unfold ints at hc;have HLA:=hiD hla;clear hla htk;by_cases hx1:x<1
   ·have hd1:decide (x<1)=true:=decide_eq_true hx1
    have HN:=hiD (zgz (l:=l) (k:=k) (by rw[HL.o.1];exact hlt) (z44 HLA.o hx1));go_wp2_with fail
    go_quiet (fail)
    go_wp2_with fail
    go_ret;exact⟨by rw[HN.o]<;>rfl,_,by rw[HW.o];exact zbf _ _ _⟩
   ·have hd1:decide (x<1)=false:=decide_eq_false hx1
    by_cases hx2:4294967295<x
    ·have hd2:decide (4294967295<x)=true:=decide_eq_true hx2
     have HN:=hiD (zgz (l:=l) (k:=k) (by rw[HL.o.1];exact hlt) (z47 HLA.o hx2));go_wp2_with fail
     go_quiet (fail)
     go_wp2_with fail
     go_ret;exact⟨by rw[HN.o]<;>rfl,_,by rw[HW.o];exact zbf _ _ _⟩
    ·have hd2:decide (4294967295<x)=false:=decide_eq_false hx2
     rcases Nat.eq_zero_or_pos k with hkz|hkp
     ·subst hkz
      have HN:=hiD (zlf HM.o (z48 HLA.o (by omega) (by omega)));rw[Nat.add_zero] at hc;go_wp2_with fail
      go_quiet (fail)
      go_wp2_with fail
      go_roundw
      case rel=>exact⟨1,_,by omega,rfl,HN.o,by rw[HW.o];exact zbf _ _ _⟩
      case measure=>simp[intOf];omega
     ·obtain⟨j,rfl⟩:∃ j,k=j+1:=⟨k - 1,by omega⟩
      obtain⟨b',o',y,e,hbb',hla',_,hc'⟩:=HL.o.at_ (show j<n by omega);injection e with e;injection e with e1 e2;subst e1 e2;rw[show w.cell? ⟨b,o+j,none⟩=wr.cell? ⟨b,o+j,none⟩by rw[HW.o];rfl] at hc';unfold ints at hc';have hd3:decide ((0:Int)<(j:Int)+1)=true:=decide_eq_true (by omega);have hj0:(0:Int)≤(j:Int):=by omega
      have hjn:(j:Int)<(n:Int):=by omega
      have hwj:IntKind.i64.wrap (j:Int)=(j:Int):=IntWalk.i64_in _ (by omega);have HLY:=hiD hla';clear hla';by_cases hyx:y<x
      ·have hd4:decide (x≤y)=false:=decide_eq_false (by omega)
       have HN:=hiD (zlf HM.o (z49 HLA.o HLY.o (by omega) (by omega) hyx));go_wp2_with fail
       go_quiet (fail)
       go_wp2_with fail
       go_roundw
       case rel=>exact⟨j+1+1,_,by omega,by go_num,HN.o,by rw[HW.o];exact zbf _ _ _⟩
       case measure=>simp[intOf];omega
      ·have hd4:decide (x≤y)=true:=decide_eq_true (by omega)
       have HN:=hiD (zgz (l:=l) (k:=j+1) (by rw[HL.o.1];exact hlt) (z5a HLA.o HLY.o (by omega)));go_wp2_with fail
       go_quiet (fail)
       go_wp2_with fail
       go_ret;exact⟨by rw[HN.o]<;>rfl,_,by rw[HW.o];exact zbf _ _ _⟩
  ·have HN:=hiD (zr6 HM.o (by rw[HL.o.1];omega))
   go_wp2_with fail
   go_ret;exact⟨by rw[HN.o]<;>rfl,_,HW.o⟩
theorem zr7:∀ (a b:List UInt8),Op.bytesLess a b=true↔a<b
 | a, [] => by
   unfold Op.bytesLess;simp
 | [], b :: l => by
   unfold Op.bytesLess;simp
 | a :: l, b :: m => by
   unfold Op.bytesLess;rw[List.cons_lt_cons_iff,← zr7 l m];simp
theorem zr8 (a b:ByteArray):Op.bytesLess a.toList b.toList=true↔ltS a b:=by
 rw[zr7,ByteArray.toList_eq,ByteArray.toList_eq];rfl
theorem zr9 (a b:ByteArray):(a.toList == b.toList)=decide (a=b):=by
 rw[ByteArray.toList_eq,ByteArray.toList_eq];by_cases h:a=b
 ·subst h;simp
 ·have : ¬ a.data.toList = b.data.toList := fun e => h (by
   obtain⟨⟨x⟩⟩:=a;obtain⟨⟨y⟩⟩:=b;simp only at e
   rw[e])
  have h2:¬ a.data=b.data:=fun e=>this (by rw[e]);simp[h,h2]
theorem zlg (a b:ByteArray):Op.bytesLess a.toList b.toList=decide (ltS a b):=by
 cases h:Op.bytesLess a.toList b.toList
 ·symm;rw[decide_eq_false_iff_not];intro h2;rw[(zr8 a b).2 h2] at h;cases h
 ·symm;rw[decide_eq_true_iff];exact(zr8 a b).1 h
def rulC (r:Rul):List Value:=[.string r.1,.int .i64 r.2]
theorem ziu (r:Rul):(rulC r).length=2:=rfl
theorem z5c (r:Rul):∀ u∈rulC r,u.oneCell'=true:=by
 intro u hu;unfold rulC at hu;simp only[List.mem_cons,List.not_mem_nil,or_false] at hu;rcases hu with rfl|rfl<;>rfl
def hhC (h:Hh):List Value:=[.int .i64 h.id,.string h.box,.slice h.A h.n h.c]
theorem ziv (h:Hh):(hhC h).length=3:=rfl
theorem zsa (h:Hh):∀ u∈hhC h,u.oneCell'=true:=by
 intro u hu;unfold hhC at hu;simp only[List.mem_cons,List.not_mem_nil,or_false] at hu;rcases hu with rfl|rfl|rfl<;>rfl
def HhIn (w:World)(B:Nat)(h:Hh):Prop:=ColK 2 rgC w B h.A h.n h.set∧h.n≤140737488355328
theorem HhIn.keep {w w':World}{B:Nat}{h:Hh}(H:HhIn w B h)(hk:∀ p:Addr,p.block<B→w'.cell? p=w.cell? p):HhIn w' B h:=⟨H.1.keep hk,H.2⟩
theorem HhIn.more {w:World}{B B':Nat}{h:Hh}(H:HhIn w B h)(hB:B≤B'):HhIn w B' h:=⟨H.1.more hB,H.2⟩
def HoldsIn (w:World)(B:Nat)(A:Option Addr)(n:Nat)(l:List Hh):Prop:=ColK 3 hhC w B A n l∧∀ h∈l,HhIn w B h
section
variable {w w':World} {B B' n:Nat} {A:Option Addr} {l:List Hh}
theorem HoldsIn.nil:HoldsIn w B A 0 []:=⟨ColK.nil,fun h hh=>(by cases hh)⟩
theorem HoldsIn.len (h:HoldsIn w B A n l):l.length=n:=h.1.1
theorem HoldsIn.keep (h:HoldsIn w B A n l)(hk:∀ p:Addr,p.block<B→w'.cell? p=w.cell? p):HoldsIn w' B A n l:=⟨h.1.keep hk,fun x hx=>(h.2 x hx).keep hk⟩
theorem HoldsIn.more (h:HoldsIn w B A n l)(hB:B≤B'):HoldsIn w B' A n l:=⟨h.1.more hB,fun x hx=>(h.2 x hx).more hB⟩
theorem HoldsIn.below (h:HoldsIn w B A n l)(hb:Below B' w w')(hB:B≤B'):HoldsIn w' B A n l:=h.keep fun p hp=>hb.cell (p:=p) (by omega)
theorem HoldsIn.later (h:HoldsIn w w.heap.size A n l)(hb:Below w.heap.size w w'):HoldsIn w' w'.heap.size A n l:=(h.below hb (Nat.le_refl _)).more hb.size
theorem HoldsIn.at_ {j:Nat}(h:HoldsIn w B A n l)(hj:j<n):∃ b o x,A=some ⟨b,o,none⟩∧b<B∧l[j]?=some x∧l.take (j+1)=l.take j++[x]∧w.rangeAt b (o+j*3) (hhC x)∧HhIn w B x:=by
 obtain⟨b,o,x,rfl,hb,hx,ht,hr⟩:=h.1.at_ hj;exact⟨b,o,x,rfl,hb,hx,ht,hr,h.2 x (List.mem_of_getElem? hx)⟩
end
theorem ji {a b:Bool}(h:a=b):Ending.returned (.bool a)=.returned (.bool b):=by rw[h]
instance (l:List Rul):Decidable (zdd l):=inferInstanceAs (Decidable (l.Pairwise _))
end Go.Proofs.YtmjjefnmabbgdaaGreatDoor
