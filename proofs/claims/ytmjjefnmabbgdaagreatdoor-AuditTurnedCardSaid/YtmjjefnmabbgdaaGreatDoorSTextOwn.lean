/- A part of the proof. -/
import Derived.Test.YtmjjefnmabbgdaaGreatDoorSDateText
import Derived.Test.YtmjjefnmabbgdaaGreatDoorChecked
import Derived.Test.YtmjjefnmabbgdaaGreatDoorSRowRel
import Derived.Lib.IndexBytes
import Derived.IntWalk
import Derived.BigQuiet
namespace Go.Proofs.YtmjjefnmabbgdaaGreatDoor
set_option linter.unusedVariables false
set_option linter.unusedSimpArgs false
set_option maxRecDepth 100000
set_option maxHeartbeats 16000000
open Go.RowKit
theorem hold {p:Prop}(h:Hid p):p:=h
theorem held {p:Prop}(h:p):Hid p:=h
theorem zrw {Q:Exit→Act→World→Prop}{e:Exit}{a:Act}{W:World}(G:World→Prop)(hG:G W)(h:∀ W',G W'→Q e a W'):Q e a W:=h W hG
theorem zil {P:Program}{c:Code}{a:Act}{W:World}{Q:Exit→Act→World→Prop}(G:World→Prop)(hG:G W)(h:∀ W',G W'→c.wp P Q a W'):c.wp P Q a W:=h W hG
theorem jg {K:Act→World→Prop}{a:Act}{W:World}(G:World→Prop)(hG:G W)(h:∀ W',G W'→K a W'):K a W:=h W hG
theorem zbz (l:List Nat)(k x:Nat)(hx:l[k]?=some x):l.take (k+1)=l.take k++[x]:=by rw[List.take_add_one,hx];rfl
theorem zdo {α:Type}(l:List α)(k:Nat)(x:α)(hx:l[k]?=some x):l.take (k+1)=l.take k++[x]:=by rw[List.take_add_one,hx];rfl
theorem zbf (w:World)(a b:Nat):(w.drewN a).drewN b=w.drewN (a+b):=by unfold World.drewN;simp[Nat.add_assoc]
theorem qo {B:Nat}{a w:World}(h:Below B a w)(q:Nat):Below B a (w.drewN q):=⟨h.os,h.tape,h.output,h.size,h.block⟩
theorem zim:(Tryz.prog.info? 9).map (fun i=>(i.zero,i.size,i.bytes))=some (some (.string ByteArray.empty),1,16):=by kernel_rfl
theorem z4q (a b:List Nat):za a++za b=za (a++b):=by
 refine zc8 ?_;rw[ByteArray.data_append,Array.toList_append,zci,zci,zci,List.map_append]
theorem zrx (x y:ByteArray)(a b:List Nat)(hx:x=za a)(hy:y=za b)(h:a.length+b.length≤1000000000000)(W:World):(Op.stringOp .add x y).run Tryz.prog W=.ok (.string (za (a++b))) W:=by
 subst hx hy;rw[run_string_add_sum _ _ _ (by rw[zc7,zc7];omega),z4q]
theorem z4r (s:ByteArray)(m:List Nat)(hm:∀ x∈m,x<256):(s.toList == (za m).toList)=decide (nats s=m):=by
 have:=ze8 (nats s) m (zd1 s) hm
 rwa [zaw] at this
def Strs (w:World)(b o:Nat)(l:List (List Nat)):Prop:=∀ i p,l[i]?=some p→w.cell? ⟨b,o+i,none⟩=some (.string (za p))
theorem Strs.keep {w w':World}{b o:Nat}{l:List (List Nat)}(h:Strs w b o l)(hk:∀ i,w'.cell? ⟨b,i,none⟩=w.cell? ⟨b,i,none⟩):Strs w' b o l:=fun i p hp=>by rw[hk];exact h i p hp
theorem Strs.below {w w':World}{b o B:Nat}{l:List (List Nat)}(h:Strs w b o l)(hb:Below B w w')(hB:b<B):Strs w' b o l:=h.keep fun i=>hb.cell (p:=⟨b,i,none⟩) hB
def sv (p:List Nat):Value:=.string (za p)
def OwnS (w:World)(base:Nat)(A:Option Addr)(n c:Nat)(l:List (List Nat)):Prop:=OwnV w base 9 A n c (l.map sv)
section
variable {w w':World} {base n c:Nat} {A:Option Addr} {l:List (List Nat)}
theorem OwnS.len (h:OwnS w base A n c l):l.length=n:=by have:=OwnV.len h;simpa using this
theorem OwnS.below (h:OwnS w base A n c l)(hb:Below w.heap.size w w'):OwnS w' base A n c l:=OwnV.below h hb
theorem OwnS.cap (h:OwnS w base A n c l):n≤c:=by
 rcases h.2 with ⟨hv,h0⟩|⟨g,cap,cur,hv,_,_,hnc,_⟩
 ·injection hv with _ _ hc;omega
 ·injection hv with _ _ hc;omega
theorem OwnS.at_ (h:OwnS w base A n c l)(hn:0<n):∃ g,A=some ⟨g,0,none⟩∧base≤g∧g<w.heap.size∧Strs w g 0 l∧(∀ i,w.frozen? ⟨g,i,none⟩=false) ∧
 ∀ i p,i<n→OwnS (w.setCell ⟨g,i,none⟩ (.string (za p))) base A n c (l.set i p):=by
 have hlen:=h.len;rcases h.2 with ⟨_,h0⟩|⟨g,cap,cur,hv,hg,hh,hnc,hcm,hcs,htk⟩
 ·omega
 ·injection hv with hA _ hc
  subst hA hc;refine⟨g,rfl,hg,(Array.getElem?_eq_some_iff.1 hh).1,fun i p hp=>?_,fun i=>frozen_of_row w g i cur _ hh,fun i p hi=>?_⟩
  ·have hil:i<l.length:=(List.getElem?_eq_some_iff.1 hp).1
   rw[Nat.zero_add,cell_of_row w g i cur _ (0,0) hh];have h2:=congrArg (·[i]?) htk;simp only[List.getElem?_take,Nat.mul_one,List.getElem?_map,hp,Option.map_some] at h2;rw[if_pos (by omega)] at h2;have h3:cur[i]?=some (sv p):=by simpa only[Array.getElem?_toList] using h2
   exact h3
  ·refine⟨by simp[hlen],.inr ⟨g,c,cur.setIfInBounds i (.string (za p)),rfl,hg,heap_setCell_same w g i cur _ _ hh,hnc,hcm,by simpa using hcs,?_⟩⟩
   rw[Array.toList_setIfInBounds,List.take_set,htk,List.map_set];rfl
theorem OwnS.col (h:OwnS w base A n c l):Col Value.string w w.heap.size A n (l.map za):=by
 refine⟨by rw[List.length_map];exact h.len,fun hn=>?_⟩;obtain⟨g,rfl,_,hg,hst,_,_⟩:=h.at_ hn;refine⟨g,0,rfl,hg,fun i s hs=>?_⟩;rw[List.getElem?_map] at hs;obtain⟨p,hp,rfl⟩:=Option.map_eq_some_iff.1 hs;exact hst i p hp
end
theorem zry {f:Int}(h:¬ 0≤f):okF f=false:=decide_eq_false fun e=>h e.1
theorem zrz {f:Int}(h:¬ f≤31):okF f=false:=decide_eq_false fun e=>h e.2
theorem zr0 {f:Int}(h:0≤f)(h2:f≤31):okF f=true:=decide_eq_true ⟨h,h2⟩
theorem zfr (f:Int)(w:World):Calls Tryz.prog 184 #[.int .i64 f] w fun e w'=>e=.returned (.bool (okF f))∧w=w':=by
 by_cases h1:0≤f
 ·by_cases h2:f≤31
  ·have HR:=hiD (zr0 h1 h2)
   go_enter Tryz.func184,Tryz.ntmps184
   go_wp2
   go_ret;exact⟨by rw[HR.o]<;>rfl,rfl⟩
  ·have HR:=hiD (zrz h2)
   go_enter Tryz.func184,Tryz.ntmps184
   go_wp2
   go_ret;exact⟨by rw[HR.o]<;>rfl,rfl⟩
 ·have HR:=hiD (zry h1)
  go_enter Tryz.func184,Tryz.ntmps184
  go_wp2
  go_ret;exact⟨by rw[HR.o]<;>rfl,rfl⟩
theorem z4s (f:Int)(w:World):Calls Tryz.prog 69 #[.int .i64 f] w fun e w'=>e=.returned (.bool (okF f))∧w=w':=by
 by_cases h1:0≤f
 ·by_cases h2:f≤31
  ·have HR:=hiD (zr0 h1 h2)
   go_enter Tryz.func69,Tryz.ntmps69
   go_wp2
   go_ret;exact⟨by rw[HR.o]<;>rfl,rfl⟩
  ·have HR:=hiD (zrz h2)
   go_enter Tryz.func69,Tryz.ntmps69
   go_wp2
   go_ret;exact⟨by rw[HR.o]<;>rfl,rfl⟩
 ·have HR:=hiD (zry h1)
  go_enter Tryz.func69,Tryz.ntmps69
  go_wp2
  go_ret;exact⟨by rw[HR.o]<;>rfl,rfl⟩
theorem z4t (c:Nat)(w:World):Calls Tryz.prog 280 #[.int .u8 (c:Int)] w fun e w'=>e=.returned (.bool (jh c))∧w=w':=by
 by_cases h1:32<c
 ·by_cases h2:c≤126
  ·by_cases h3:c=40∨c=41∨c=123∨c=37∨c=42∨c=34∨c=92
   ·rcases h3 with rfl|rfl|rfl|rfl|rfl|rfl|rfl <;>
    ·clear h1 h2
     go_enter Tryz.func280,Tryz.ntmps280
     go_wp2
     go_ret;exact⟨rfl,rfl⟩
   ·have HR:Hid (jh c=true):=hiD (decide_eq_true (by omega))
    have a1:((c:Int) != 40)=true:=by simp;omega
    have a2:((c:Int) != 41)=true:=by simp;omega
    have a3:((c:Int) != 123)=true:=by simp;omega
    have a4:((c:Int) != 37)=true:=by simp;omega
    have a5:((c:Int) != 42)=true:=by simp;omega
    have a6:((c:Int) != 34)=true:=by simp;omega
    have a7:((c:Int) != 92)=true:=by simp;omega
    have b1:(32:Int)<(c:Int):=by omega
    have b2:(c:Int)≤126:=by omega
    clear h1 h2 h3;go_enter Tryz.func280,Tryz.ntmps280
    go_wp2
    go_ret;exact⟨by rw[HR.o]<;>rfl,rfl⟩
  ·have HR:Hid (jh c=false):=hiD (decide_eq_false (by omega))
   have b2:¬ (c:Int)≤126:=by omega
   have b1:(32:Int)<(c:Int):=by omega
   clear h1 h2;go_enter Tryz.func280,Tryz.ntmps280
   go_wp2
   go_ret;exact⟨by rw[HR.o]<;>rfl,rfl⟩
 ·have HR:Hid (jh c=false):=hiD (decide_eq_false (by omega))
  have b1:¬ (32:Int)<(c:Int):=by omega
  clear h1;go_enter Tryz.func280,Tryz.ntmps280
  go_wp2
  go_ret;exact⟨by rw[HR.o]<;>rfl,rfl⟩
theorem zin {l:List Nat}{i:Nat}(hi:i<l.length)(h:zbo l i=false):qd l=false:=decide_eq_false fun e=>by rw[e.2.2.1 i hi] at h;cases h
theorem z4u {l:List Nat}(h1:1≤l.length)(h2:l.length≤40)(h:∀ i,i<l.length→zbo l i=true):qd l=decide (l.count 47≤3):=by
 unfold qd;rw[Bool.eq_iff_iff,decide_eq_true_iff,decide_eq_true_iff];exact⟨fun e=>e.2.2.2,fun e=>⟨h1,h2,h,e⟩⟩
theorem zr1 (s:ByteArray)(i:Nat)(h:i<s.size):(nats s).getD i 0=s[i].toNat:=by rw[List.getD_eq_getElem?_getD,zas s i h];rfl
theorem z4v {l:List Nat}{k x:Nat}(h:l[k]?=some x):(l.take (k+1)).count 47=(l.take k).count 47+if x=47 then 1 else 0:=by
 rw[zbz _ _ _ h,List.count_append,List.count_singleton];by_cases hx:x=47<;>simp[hx]
theorem z4w (s:ByteArray)(hs:s.size≤140737488355328)(w:World):Calls Tryz.prog 221 #[.string s] w fun e w'=>e=.returned (.bool (qd (nats s)))∧w=w':=by
 have HN:=hiD (jn s);by_cases h1:s.size<1
 ·have h1':(s.size:Int)<1:=by omega
  have HR:Hid (qd (nats s)=false):=hiD (decide_eq_false fun e=>by have:=e.1;rw[HN.o] at this;omega);clear h1;go_enter Tryz.func221,Tryz.ntmps221
  go_wp2_with fail
  go_ret;exact⟨by rw[HR.o]<;>rfl,rfl⟩
 ·have h1':¬ (s.size:Int)<1:=by omega
  by_cases h2:40<s.size
  ·have h2':(40:Int)<(s.size:Int):=by omega
   have HR:Hid (qd (nats s)=false):=hiD (decide_eq_false fun e=>by have:=e.2.1;rw[HN.o] at this;omega);go_enter Tryz.func221,Tryz.ntmps221
   go_wp2_with fail
   go_ret;exact⟨by rw[HR.o]<;>rfl,rfl⟩
  ·have h2':¬ (40:Int)<(s.size:Int):=by omega
   go_enter Tryz.func221,Tryz.ntmps221
   go_wp2_with fail
   go_loop [3,4] (fun p i=>∃ k q:Nat,k≤s.size∧i=.int .i64 (k:Int)∧p=.int .i64 (q:Int)∧q=1+((nats s).take k).count 47∧q≤1+k∧∀ j,j<k→zbo (nats s) j=true) (fun _ i=>s.size-(intOf i).toNat)
   case atStart=>exact⟨0,1,Nat.zero_le _,rfl,rfl,rfl,by omega,fun j hj=>absurd hj (by omega)⟩
   case round =>
    obtain⟨k,q,hk,rfl,rfl,hq,hqk,hsp⟩:=hrel;have HQ:=hiD hq;have HSP:=hiD hsp;clear hq hsp;by_cases hlt:k<s.size
    ·have hx:=zas s k hlt
     have hg:=zr1 s k hlt;have hxb:s[k].toNat<256:=s[k].toNat_lt;have hk0:(0:Int)≤(k:Int):=by omega
     have hkn:(k:Int)<(s.size:Int):=by omega
     have hws:IntKind.i64.wrap ((s.size:Int)-1)=(s.size:Int)-1:=IntWalk.i64_in _ (by omega);have HC:=hiD (z4v hx);have CP:∀ W,Calls Tryz.prog 280 #[.int .u8 (s[k].toNat:Int)] W fun e w'=>e=.returned (.bool (jh s[k].toNat))∧W=w':=fun W=>z4t _ W;obtain⟨x,hxe⟩:∃ x,s[k].toNat=x:=⟨_,rfl⟩;cases hpl:jh s[k].toNat
     ·have HR:Hid (qd (nats s)=false):=hiD (zin (by rw[HN.o];exact hlt) (by unfold zbo;rw[hg,hpl];rfl))
      rw[hpl] at CP;clear hpl hxe hg hx;go_wp2_with fail
      refine(CP _).mono ?_;rintro e w' ⟨rfl,rfl⟩;go_wp2_with fail
      go_ret;exact⟨by rw[HR.o]<;>rfl,rfl⟩
     ·rw[hpl] at CP
      by_cases h47:s[k].toNat=47
      ·have e47:((s[k].toNat:Int) == 47)=true:=by rw[h47];rfl
       by_cases hk0':k=0
       ·subst hk0'
        have HR:Hid (qd (nats s)=false):=hiD (zin (by rw[HN.o];exact hlt) (by unfold zbo;rw[hg,hpl,h47];rfl));clear hpl hxe hg hx h47;go_wp2_with fail
        refine(CP _).mono ?_;rintro e w' ⟨rfl,rfl⟩;go_wp2_with fail
        go_ret;exact⟨by rw[HR.o]<;>rfl,rfl⟩
       ·have ek:((k:Int) == 0)=false:=by simp;omega
        by_cases hl:k+1=s.size
        ·have el:((k:Int) == (s.size:Int)-1)=true:=by rw[beq_iff_eq];omega
         have HR:Hid (qd (nats s)=false):=hiD (zin (by rw[HN.o];exact hlt) (by unfold zbo;rw[hg,hpl,h47,HN.o,decide_eq_true ⟨rfl,.inr (.inl hl)⟩];rfl));clear hpl hxe hg hx h47 hl;go_wp2_with fail
         refine(CP _).mono ?_;rintro e w' ⟨rfl,rfl⟩;go_wp2_with fail
         go_ret;exact⟨by rw[HR.o]<;>rfl,rfl⟩
        ·have el:((k:Int) == (s.size:Int)-1)=false:=by rw[beq_eq_false_iff_ne];omega
         obtain⟨j,rfl⟩:∃ j,k=j+1:=⟨k - 1,by omega⟩;have ek2:((j:Int)+1 == 0)=false:=by rw[beq_eq_false_iff_ne];omega
         have el2:((j:Int)+1 == (s.size:Int)-1)=false:=by rw[beq_eq_false_iff_ne];omega
         clear ek el;have hwk:IntKind.i64.wrap ((j:Int)+1-1)=(j:Int):=by rw[IntWalk.i64_in _ (by omega)];omega
         have hj0:(0:Int)≤(j:Int):=by omega
         have hjn:(j:Int)<(s.size:Int):=by omega
         have hjs:j<s.size:=by omega
         have hgj:=zr1 s j hjs;by_cases hp:s[j].toNat=47
         ·have ep:((s[j].toNat:Int) == 47)=true:=by rw[hp];rfl
          have HR:Hid (qd (nats s)=false):=hiD (zin (by rw[HN.o];exact hlt) (by unfold zbo;rw[hg,hpl,h47,Nat.add_sub_cancel,hgj,decide_eq_true ⟨rfl,.inr (.inr hp)⟩];rfl));clear hpl hxe hg hx h47 hl hp hgj;go_wp2_with fail
          refine(CP _).mono ?_;rintro e w' ⟨rfl,rfl⟩;go_wp2_with fail
          go_ret;exact⟨by rw[HR.o]<;>rfl,rfl⟩
         ·have ep:((s[j].toNat:Int) == 47)=false:=by simp;omega
          have HS1:Hid (zbo (nats s) (j+1)=true):=hiD (zg0 (by rw[hg];exact hpl) (by rw[hg,h47,HN.o,Nat.add_sub_cancel,hgj];rintro⟨_,h|h|h⟩<;>omega));have HC2:Hid (((nats s).take (j+1+1)).count 47=((nats s).take (j+1)).count 47+1):=hiD (by rw[HC.o,if_pos h47]);have hwq:IntKind.i64.wrap ((q:Int)+1)=(q:Int)+1:=IntWalk.i64_in _ (by omega);clear hpl hxe hg hx h47 hl hp hgj HC;go_wp2_with fail
          refine(CP _).mono ?_;rintro e w' ⟨rfl,rfl⟩;go_wp2_with fail
          go_round
          case rel=>exact⟨j+1+1,q+1,by omega,by go_num,by go_num,by rw[HC2.o,HQ.o];omega,by omega,fun i hi=>by rcases Nat.lt_succ_iff_lt_or_eq.1 hi with h|rfl;exact HSP.o i h;exact HS1.o⟩
          case measure=>simp[intOf];omega
      ·have e47:((s[k].toNat:Int) == 47)=false:=by simp;omega
       have HS1:Hid (zbo (nats s) k=true):=hiD (zg0 (by rw[hg];exact hpl) (by rw[hg];exact fun h=>h47 h.1));have HC2:Hid (((nats s).take (k+1)).count 47=((nats s).take k).count 47):=hiD (by rw[HC.o,if_neg h47,Nat.add_zero]);clear hpl hxe hg hx h47 HC;go_wp2_with fail
       refine(CP _).mono ?_;rintro e w' ⟨rfl,rfl⟩;go_wp2_with fail
       go_round
       case rel=>exact⟨k+1,q,by omega,by go_num,rfl,by rw[HC2.o,HQ.o],by omega,fun i hi=>by rcases Nat.lt_succ_iff_lt_or_eq.1 hi with h|rfl;exact HSP.o i h;exact HS1.o⟩
       case measure=>simp[intOf];omega
    ·have hall:(nats s).take k=nats s:=List.take_of_length_le (by rw[HN.o];omega)
     have HR:Hid (qd (nats s)=decide ((q:Int)≤4)):=hiD (by
      have hq:=HQ.o;rw[hall] at hq;rw[z4u (by rw[HN.o];omega) (by rw[HN.o];omega) (fun i hi=>HSP.o i (by rw[HN.o] at hi;omega)),Bool.eq_iff_iff,decide_eq_true_iff,decide_eq_true_iff]
      omega)
     clear hall;go_wp2_with fail
     go_ret;exact⟨by rw[HR.o]<;>rfl,rfl⟩
theorem qv {l:List Nat}{k x d:Nat}(hk:k<5)(hx:l[k]?=some x)(hd:inboxL[k]?=some d)(h:upC x≠d):zay l=false:=by
 refine decide_eq_false fun e=>h ?_;have e1:=congrArg (·[k]?) e.1;simp only[List.getElem?_map,List.getElem?_take_of_lt hk,hx,hd,Option.map_some] at e1;exact Option.some.inj e1
theorem z4x {l:List Nat}(h:l.length<5):zay l=false:=decide_eq_false fun e=>by
 have:=congrArg List.length e.1;rw[List.length_map,List.length_take] at this;have h5:inboxL.length=5:=rfl;omega
theorem z4y {l:List Nat}{x:Nat}(hl:5<l.length)(hx:l[5]?=some x)(h:x≠47):zay l=false:=decide_eq_false fun e=>by
 rcases e.2 with e2|e2
 ·omega
 ·rw[hx] at e2;exact h (Option.some.inj e2)
theorem zae {l:List Nat}{k x d:Nat}(h:(l.take k).map upC=inboxL.take k)(hx:l[k]?=some x)(hd:inboxL[k]?=some d)(he:upC x=d):(l.take (k+1)).map upC=inboxL.take (k+1):=by
 rw[zbz _ _ _ hx,zbz _ _ _ hd,List.map_append,h,List.map_singleton,he]
theorem qq {s:ByteArray}(hf:qd (nats s)=true)(h:zay (nats s)=false):za (zu (nats s))=s:=by
 unfold zu zcm;rw[if_pos hf,h,if_neg Bool.false_ne_true,zaw]
theorem zr2:(⟨#[73,78,66,79,88]⟩:ByteArray)=za inboxL:=rfl
theorem z4z (s:ByteArray)(hs:s.size≤140737488355328)(w:World):Calls Tryz.prog 134 #[.string s] w fun e w'=>e=.returned (.tuple #[.string (za (zu (nats s))),.int .i64 (jx (nats s))])∧w=w':=by
 have HN:=hiD (jn s);have CF:Hid (∀ W,Calls Tryz.prog 221 #[.string s] W fun e w'=>e=.returned (.bool (qd (nats s)))∧W=w'):=hiD fun W=>z4w s hs W;cases hf:qd (nats s)
 ·have HV:Hid (za (zu (nats s))=⟨#[]⟩):=hiD (by unfold zu;rw[hf,if_neg Bool.false_ne_true];rfl)
  have HE:Hid (jx (nats s)=3):=hiD (by unfold jx;rw[hf,if_neg Bool.false_ne_true]);rw[hf] at CF;clear hf;go_enter Tryz.func134,Tryz.ntmps134
  go_wp2_with fail
  refine(CF.o _).mono ?_;rintro e w' ⟨rfl,rfl⟩;go_wp2_with fail
  go_ret2;exact⟨by rw[HV.o,HE.o]<;>rfl,rfl⟩
 ·have HE:Hid (jx (nats s)=0):=hiD (by unfold jx;rw[hf,if_pos rfl])
  have HF:=hiD hf;have hb1:s.size≤40:=by have:=(of_decide_eq_true hf).2.1;rw[HN.o] at this;exact this
  rw[hf] at CF;clear hf;by_cases h5:s.size<5
  ·have h5':(s.size:Int)<5:=by omega
   have HV:Hid (za (zu (nats s))=s):=hiD (qq HF.o (z4x (by rw[HN.o];exact h5)));clear h5;go_enter Tryz.func134,Tryz.ntmps134
   go_wp2_with fail
   refine(CF.o _).mono ?_;rintro e w' ⟨rfl,rfl⟩;go_wp2_with fail
   go_ret2;exact⟨by rw[HV.o,HE.o]<;>rfl,rfl⟩
  ·have h5':¬ (s.size:Int)<5:=by omega
   have HGO:Hid (s.size=5∨(5<s.size∧∃ h:5<s.size,s[5].toNat=47)→Calls Tryz.prog 134 #[.string s] w fun e w'=>e=.returned (.tuple #[.string (za (zu (nats s))),.int .i64 (jx (nats s))])∧w=w'):=by
    refine hiD fun hor=>?_;have HOR:=hiD hor
    have ka:∀ W,(Op.stringOp .add ⟨#[73,78,66,79,88]⟩ (s.extract 5 s.size)).run Tryz.prog W=.ok (.string (za (inboxL++(nats s).drop 5))) W:=fun W=>zrx _ _ inboxL ((nats s).drop 5) zr2 (by
     refine zqm ?_;rw[zbw _ (fun x hx=>zd1 s x (List.mem_of_mem_drop hx)),zfk]
     exact List.take_of_length_le (by rw[List.length_drop,HN.o];omega)) (by rw[List.length_drop,HN.o];show 5+_≤_;omega) W
    rcases hor with h5e|⟨_,hgt,h47⟩
    ·have g1:¬ (5:Int)<(s.size:Int):=by omega
     go_enter Tryz.func134,Tryz.ntmps134
     go_wp2_with fail
     refine(CF.o _).mono ?_;rintro e w' ⟨rfl,rfl⟩;go_wp2_with fail
     go_loop [4] (fun i=>∃ k:Nat,k≤5∧i=.int .i64 (k:Int)∧((nats s).take k).map upC=inboxL.take k) (fun i=>5-(intOf i).toNat)
     case atStart=>exact⟨0,by decide,rfl,rfl⟩
     case round =>
      obtain⟨k,hk5,rfl,hm⟩:=hrel;have HM:=hiD hm;clear hm;have hcase:k=0∨k=1∨k=2∨k=3∨k=4∨k=5:=by omega
      rcases hcase with rfl|rfl|rfl|rfl|rfl|rfl
      ·have hk:0<s.size:=by omega
       have HX:=hiD (zas s 0 hk);have hxb:s[0].toNat<256:=s[0].toNat_lt;by_cases u1:97≤s[0].toNat
       ·have v1:(97:Int)≤(s[0].toNat:Int):=by omega
        by_cases u2:s[0].toNat≤122
        ·have v2:(s[0].toNat:Int)≤122:=by omega
         have HU:Hid (upC s[0].toNat=s[0].toNat-32):=hiD (if_pos ⟨u1,u2⟩);have hw:IntKind.u8.wrap ((s[0].toNat:Int)-32)=(s[0].toNat:Int)-32:=IntWalk.u8_in _ (by omega);by_cases he:s[0].toNat=73+32
         ·have hc:((s[0].toNat:Int)-32 != (((⟨#[73,78,66,79,88]⟩:ByteArray)[0]'(by decide)).toNat:Int))=false:=by show((s[0].toNat:Int)-32 != 73)=false;simp;omega
          have HM2:Hid (((nats s).take (0+1)).map upC=inboxL.take (0+1)):=hiD (zae HM.o HX.o (d:=73) rfl (by rw[HU.o];omega));clear he;go_wp2_with fail
          go_round
          case rel=>exact⟨0+1,by decide,by first|rfl|go_num,HM2.o⟩
          case measure=>simp[intOf]
         ·have hc:((s[0].toNat:Int)-32 != (((⟨#[73,78,66,79,88]⟩:ByteArray)[0]'(by decide)).toNat:Int))=true:=by show((s[0].toNat:Int)-32 != 73)=true;simp;omega
          have HV:Hid (za (zu (nats s))=s):=hiD (qq HF.o (qv (by decide) HX.o (d:=73) rfl (by rw[HU.o];omega)));clear he;go_wp2_with fail
          go_ret2;exact⟨by rw[HV.o,HE.o]<;>rfl,rfl⟩
        ·have v2:¬ (s[0].toNat:Int)≤122:=by omega
         have HU:Hid (upC s[0].toNat=s[0].toNat):=hiD (if_neg fun h=>u2 h.2);have he:True:=trivial;have hc:((s[0].toNat:Int) != (((⟨#[73,78,66,79,88]⟩:ByteArray)[0]'(by decide)).toNat:Int))=true:=by show((s[0].toNat:Int) != 73)=true;simp;omega
         have HV:Hid (za (zu (nats s))=s):=hiD (qq HF.o (qv (by decide) HX.o (d:=73) rfl (by rw[HU.o];omega)));clear he;go_wp2_with fail
         go_ret2;exact⟨by rw[HV.o,HE.o]<;>rfl,rfl⟩
       ·have v1:¬ (97:Int)≤(s[0].toNat:Int):=by omega
        have HU:Hid (upC s[0].toNat=s[0].toNat):=hiD (if_neg fun h=>u1 h.1);by_cases he:s[0].toNat=73
        ·have hc:((s[0].toNat:Int) != (((⟨#[73,78,66,79,88]⟩:ByteArray)[0]'(by decide)).toNat:Int))=false:=by show((s[0].toNat:Int) != 73)=false;simp;omega
         have HM2:Hid (((nats s).take (0+1)).map upC=inboxL.take (0+1)):=hiD (zae HM.o HX.o (d:=73) rfl (by rw[HU.o];omega));clear he;go_wp2_with fail
         go_round
         case rel=>exact⟨0+1,by decide,by first|rfl|go_num,HM2.o⟩
         case measure=>simp[intOf]
        ·have hc:((s[0].toNat:Int) != (((⟨#[73,78,66,79,88]⟩:ByteArray)[0]'(by decide)).toNat:Int))=true:=by show((s[0].toNat:Int) != 73)=true;simp;omega
         have HV:Hid (za (zu (nats s))=s):=hiD (qq HF.o (qv (by decide) HX.o (d:=73) rfl (by rw[HU.o];omega)));clear he;go_wp2_with fail
         go_ret2;exact⟨by rw[HV.o,HE.o]<;>rfl,rfl⟩
      ·have hk:1<s.size:=by omega
       have HX:=hiD (zas s 1 hk);have hxb:s[1].toNat<256:=s[1].toNat_lt;by_cases u1:97≤s[1].toNat
       ·have v1:(97:Int)≤(s[1].toNat:Int):=by omega
        by_cases u2:s[1].toNat≤122
        ·have v2:(s[1].toNat:Int)≤122:=by omega
         have HU:Hid (upC s[1].toNat=s[1].toNat-32):=hiD (if_pos ⟨u1,u2⟩);have hw:IntKind.u8.wrap ((s[1].toNat:Int)-32)=(s[1].toNat:Int)-32:=IntWalk.u8_in _ (by omega);by_cases he:s[1].toNat=78+32
         ·have hc:((s[1].toNat:Int)-32 != (((⟨#[73,78,66,79,88]⟩:ByteArray)[1]'(by decide)).toNat:Int))=false:=by show((s[1].toNat:Int)-32 != 78)=false;simp;omega
          have HM2:Hid (((nats s).take (1+1)).map upC=inboxL.take (1+1)):=hiD (zae HM.o HX.o (d:=78) rfl (by rw[HU.o];omega));clear he;go_wp2_with fail
          go_round
          case rel=>exact⟨1+1,by decide,by first|rfl|go_num,HM2.o⟩
          case measure=>simp[intOf]
         ·have hc:((s[1].toNat:Int)-32 != (((⟨#[73,78,66,79,88]⟩:ByteArray)[1]'(by decide)).toNat:Int))=true:=by show((s[1].toNat:Int)-32 != 78)=true;simp;omega
          have HV:Hid (za (zu (nats s))=s):=hiD (qq HF.o (qv (by decide) HX.o (d:=78) rfl (by rw[HU.o];omega)));clear he;go_wp2_with fail
          go_ret2;exact⟨by rw[HV.o,HE.o]<;>rfl,rfl⟩
        ·have v2:¬ (s[1].toNat:Int)≤122:=by omega
         have HU:Hid (upC s[1].toNat=s[1].toNat):=hiD (if_neg fun h=>u2 h.2);have he:True:=trivial;have hc:((s[1].toNat:Int) != (((⟨#[73,78,66,79,88]⟩:ByteArray)[1]'(by decide)).toNat:Int))=true:=by show((s[1].toNat:Int) != 78)=true;simp;omega
         have HV:Hid (za (zu (nats s))=s):=hiD (qq HF.o (qv (by decide) HX.o (d:=78) rfl (by rw[HU.o];omega)));clear he;go_wp2_with fail
         go_ret2;exact⟨by rw[HV.o,HE.o]<;>rfl,rfl⟩
       ·have v1:¬ (97:Int)≤(s[1].toNat:Int):=by omega
        have HU:Hid (upC s[1].toNat=s[1].toNat):=hiD (if_neg fun h=>u1 h.1);by_cases he:s[1].toNat=78
        ·have hc:((s[1].toNat:Int) != (((⟨#[73,78,66,79,88]⟩:ByteArray)[1]'(by decide)).toNat:Int))=false:=by show((s[1].toNat:Int) != 78)=false;simp;omega
         have HM2:Hid (((nats s).take (1+1)).map upC=inboxL.take (1+1)):=hiD (zae HM.o HX.o (d:=78) rfl (by rw[HU.o];omega));clear he;go_wp2_with fail
         go_round
         case rel=>exact⟨1+1,by decide,by first|rfl|go_num,HM2.o⟩
         case measure=>simp[intOf]
        ·have hc:((s[1].toNat:Int) != (((⟨#[73,78,66,79,88]⟩:ByteArray)[1]'(by decide)).toNat:Int))=true:=by show((s[1].toNat:Int) != 78)=true;simp;omega
         have HV:Hid (za (zu (nats s))=s):=hiD (qq HF.o (qv (by decide) HX.o (d:=78) rfl (by rw[HU.o];omega)));clear he;go_wp2_with fail
         go_ret2;exact⟨by rw[HV.o,HE.o]<;>rfl,rfl⟩
      ·have hk:2<s.size:=by omega
       have HX:=hiD (zas s 2 hk);have hxb:s[2].toNat<256:=s[2].toNat_lt;by_cases u1:97≤s[2].toNat
       ·have v1:(97:Int)≤(s[2].toNat:Int):=by omega
        by_cases u2:s[2].toNat≤122
        ·have v2:(s[2].toNat:Int)≤122:=by omega
         have HU:Hid (upC s[2].toNat=s[2].toNat-32):=hiD (if_pos ⟨u1,u2⟩);have hw:IntKind.u8.wrap ((s[2].toNat:Int)-32)=(s[2].toNat:Int)-32:=IntWalk.u8_in _ (by omega);by_cases he:s[2].toNat=66+32
         ·have hc:((s[2].toNat:Int)-32 != (((⟨#[73,78,66,79,88]⟩:ByteArray)[2]'(by decide)).toNat:Int))=false:=by show((s[2].toNat:Int)-32 != 66)=false;simp;omega
          have HM2:Hid (((nats s).take (2+1)).map upC=inboxL.take (2+1)):=hiD (zae HM.o HX.o (d:=66) rfl (by rw[HU.o];omega));clear he;go_wp2_with fail
          go_round
          case rel=>exact⟨2+1,by decide,by first|rfl|go_num,HM2.o⟩
          case measure=>simp[intOf]
         ·have hc:((s[2].toNat:Int)-32 != (((⟨#[73,78,66,79,88]⟩:ByteArray)[2]'(by decide)).toNat:Int))=true:=by show((s[2].toNat:Int)-32 != 66)=true;simp;omega
          have HV:Hid (za (zu (nats s))=s):=hiD (qq HF.o (qv (by decide) HX.o (d:=66) rfl (by rw[HU.o];omega)));clear he;go_wp2_with fail
          go_ret2;exact⟨by rw[HV.o,HE.o]<;>rfl,rfl⟩
        ·have v2:¬ (s[2].toNat:Int)≤122:=by omega
         have HU:Hid (upC s[2].toNat=s[2].toNat):=hiD (if_neg fun h=>u2 h.2);have he:True:=trivial;have hc:((s[2].toNat:Int) != (((⟨#[73,78,66,79,88]⟩:ByteArray)[2]'(by decide)).toNat:Int))=true:=by show((s[2].toNat:Int) != 66)=true;simp;omega
         have HV:Hid (za (zu (nats s))=s):=hiD (qq HF.o (qv (by decide) HX.o (d:=66) rfl (by rw[HU.o];omega)));clear he;go_wp2_with fail
         go_ret2;exact⟨by rw[HV.o,HE.o]<;>rfl,rfl⟩
       ·have v1:¬ (97:Int)≤(s[2].toNat:Int):=by omega
        have HU:Hid (upC s[2].toNat=s[2].toNat):=hiD (if_neg fun h=>u1 h.1);by_cases he:s[2].toNat=66
        ·have hc:((s[2].toNat:Int) != (((⟨#[73,78,66,79,88]⟩:ByteArray)[2]'(by decide)).toNat:Int))=false:=by show((s[2].toNat:Int) != 66)=false;simp;omega
         have HM2:Hid (((nats s).take (2+1)).map upC=inboxL.take (2+1)):=hiD (zae HM.o HX.o (d:=66) rfl (by rw[HU.o];omega));clear he;go_wp2_with fail
         go_round
         case rel=>exact⟨2+1,by decide,by first|rfl|go_num,HM2.o⟩
         case measure=>simp[intOf]
        ·have hc:((s[2].toNat:Int) != (((⟨#[73,78,66,79,88]⟩:ByteArray)[2]'(by decide)).toNat:Int))=true:=by show((s[2].toNat:Int) != 66)=true;simp;omega
         have HV:Hid (za (zu (nats s))=s):=hiD (qq HF.o (qv (by decide) HX.o (d:=66) rfl (by rw[HU.o];omega)));clear he;go_wp2_with fail
         go_ret2;exact⟨by rw[HV.o,HE.o]<;>rfl,rfl⟩
      ·have hk:3<s.size:=by omega
       have HX:=hiD (zas s 3 hk);have hxb:s[3].toNat<256:=s[3].toNat_lt;by_cases u1:97≤s[3].toNat
       ·have v1:(97:Int)≤(s[3].toNat:Int):=by omega
        by_cases u2:s[3].toNat≤122
        ·have v2:(s[3].toNat:Int)≤122:=by omega
         have HU:Hid (upC s[3].toNat=s[3].toNat-32):=hiD (if_pos ⟨u1,u2⟩);have hw:IntKind.u8.wrap ((s[3].toNat:Int)-32)=(s[3].toNat:Int)-32:=IntWalk.u8_in _ (by omega);by_cases he:s[3].toNat=79+32
         ·have hc:((s[3].toNat:Int)-32 != (((⟨#[73,78,66,79,88]⟩:ByteArray)[3]'(by decide)).toNat:Int))=false:=by show((s[3].toNat:Int)-32 != 79)=false;simp;omega
          have HM2:Hid (((nats s).take (3+1)).map upC=inboxL.take (3+1)):=hiD (zae HM.o HX.o (d:=79) rfl (by rw[HU.o];omega));clear he;go_wp2_with fail
          go_round
          case rel=>exact⟨3+1,by decide,by first|rfl|go_num,HM2.o⟩
          case measure=>simp[intOf]
         ·have hc:((s[3].toNat:Int)-32 != (((⟨#[73,78,66,79,88]⟩:ByteArray)[3]'(by decide)).toNat:Int))=true:=by show((s[3].toNat:Int)-32 != 79)=true;simp;omega
          have HV:Hid (za (zu (nats s))=s):=hiD (qq HF.o (qv (by decide) HX.o (d:=79) rfl (by rw[HU.o];omega)));clear he;go_wp2_with fail
          go_ret2;exact⟨by rw[HV.o,HE.o]<;>rfl,rfl⟩
        ·have v2:¬ (s[3].toNat:Int)≤122:=by omega
         have HU:Hid (upC s[3].toNat=s[3].toNat):=hiD (if_neg fun h=>u2 h.2);have he:True:=trivial;have hc:((s[3].toNat:Int) != (((⟨#[73,78,66,79,88]⟩:ByteArray)[3]'(by decide)).toNat:Int))=true:=by show((s[3].toNat:Int) != 79)=true;simp;omega
         have HV:Hid (za (zu (nats s))=s):=hiD (qq HF.o (qv (by decide) HX.o (d:=79) rfl (by rw[HU.o];omega)));clear he;go_wp2_with fail
         go_ret2;exact⟨by rw[HV.o,HE.o]<;>rfl,rfl⟩
       ·have v1:¬ (97:Int)≤(s[3].toNat:Int):=by omega
        have HU:Hid (upC s[3].toNat=s[3].toNat):=hiD (if_neg fun h=>u1 h.1);by_cases he:s[3].toNat=79
        ·have hc:((s[3].toNat:Int) != (((⟨#[73,78,66,79,88]⟩:ByteArray)[3]'(by decide)).toNat:Int))=false:=by show((s[3].toNat:Int) != 79)=false;simp;omega
         have HM2:Hid (((nats s).take (3+1)).map upC=inboxL.take (3+1)):=hiD (zae HM.o HX.o (d:=79) rfl (by rw[HU.o];omega));clear he;go_wp2_with fail
         go_round
         case rel=>exact⟨3+1,by decide,by first|rfl|go_num,HM2.o⟩
         case measure=>simp[intOf]
        ·have hc:((s[3].toNat:Int) != (((⟨#[73,78,66,79,88]⟩:ByteArray)[3]'(by decide)).toNat:Int))=true:=by show((s[3].toNat:Int) != 79)=true;simp;omega
         have HV:Hid (za (zu (nats s))=s):=hiD (qq HF.o (qv (by decide) HX.o (d:=79) rfl (by rw[HU.o];omega)));clear he;go_wp2_with fail
         go_ret2;exact⟨by rw[HV.o,HE.o]<;>rfl,rfl⟩
      ·have hk:4<s.size:=by omega
       have HX:=hiD (zas s 4 hk);have hxb:s[4].toNat<256:=s[4].toNat_lt;by_cases u1:97≤s[4].toNat
       ·have v1:(97:Int)≤(s[4].toNat:Int):=by omega
        by_cases u2:s[4].toNat≤122
        ·have v2:(s[4].toNat:Int)≤122:=by omega
         have HU:Hid (upC s[4].toNat=s[4].toNat-32):=hiD (if_pos ⟨u1,u2⟩);have hw:IntKind.u8.wrap ((s[4].toNat:Int)-32)=(s[4].toNat:Int)-32:=IntWalk.u8_in _ (by omega);by_cases he:s[4].toNat=88+32
         ·have hc:((s[4].toNat:Int)-32 != (((⟨#[73,78,66,79,88]⟩:ByteArray)[4]'(by decide)).toNat:Int))=false:=by show((s[4].toNat:Int)-32 != 88)=false;simp;omega
          have HM2:Hid (((nats s).take (4+1)).map upC=inboxL.take (4+1)):=hiD (zae HM.o HX.o (d:=88) rfl (by rw[HU.o];omega));clear he;go_wp2_with fail
          go_round
          case rel=>exact⟨4+1,by decide,by first|rfl|go_num,HM2.o⟩
          case measure=>simp[intOf]
         ·have hc:((s[4].toNat:Int)-32 != (((⟨#[73,78,66,79,88]⟩:ByteArray)[4]'(by decide)).toNat:Int))=true:=by show((s[4].toNat:Int)-32 != 88)=true;simp;omega
          have HV:Hid (za (zu (nats s))=s):=hiD (qq HF.o (qv (by decide) HX.o (d:=88) rfl (by rw[HU.o];omega)));clear he;go_wp2_with fail
          go_ret2;exact⟨by rw[HV.o,HE.o]<;>rfl,rfl⟩
        ·have v2:¬ (s[4].toNat:Int)≤122:=by omega
         have HU:Hid (upC s[4].toNat=s[4].toNat):=hiD (if_neg fun h=>u2 h.2);have he:True:=trivial;have hc:((s[4].toNat:Int) != (((⟨#[73,78,66,79,88]⟩:ByteArray)[4]'(by decide)).toNat:Int))=true:=by show((s[4].toNat:Int) != 88)=true;simp;omega
         have HV:Hid (za (zu (nats s))=s):=hiD (qq HF.o (qv (by decide) HX.o (d:=88) rfl (by rw[HU.o];omega)));clear he;go_wp2_with fail
         go_ret2;exact⟨by rw[HV.o,HE.o]<;>rfl,rfl⟩
       ·have v1:¬ (97:Int)≤(s[4].toNat:Int):=by omega
        have HU:Hid (upC s[4].toNat=s[4].toNat):=hiD (if_neg fun h=>u1 h.1);by_cases he:s[4].toNat=88
        ·have hc:((s[4].toNat:Int) != (((⟨#[73,78,66,79,88]⟩:ByteArray)[4]'(by decide)).toNat:Int))=false:=by show((s[4].toNat:Int) != 88)=false;simp;omega
         have HM2:Hid (((nats s).take (4+1)).map upC=inboxL.take (4+1)):=hiD (zae HM.o HX.o (d:=88) rfl (by rw[HU.o];omega));clear he;go_wp2_with fail
         go_round
         case rel=>exact⟨4+1,by decide,by first|rfl|go_num,HM2.o⟩
         case measure=>simp[intOf]
        ·have hc:((s[4].toNat:Int) != (((⟨#[73,78,66,79,88]⟩:ByteArray)[4]'(by decide)).toNat:Int))=true:=by show((s[4].toNat:Int) != 88)=true;simp;omega
         have HV:Hid (za (zu (nats s))=s):=hiD (qq HF.o (qv (by decide) HX.o (d:=88) rfl (by rw[HU.o];omega)));clear he;go_wp2_with fail
         go_ret2;exact⟨by rw[HV.o,HE.o]<;>rfl,rfl⟩
      ·have hi : zay (nats s) = true := decide_eq_true ⟨HM.o, by
        rcases HOR.o with h|⟨_,h,h2⟩
        ·exact .inl (by rw[HN.o];exact h)
        ·exact .inr (by rw[zas s 5 h,h2])⟩
       have HV:Hid (za (zu (nats s))=⟨#[73,78,66,79,88]⟩):=hiD (by
        unfold zu zcm;rw[if_pos HF.o,if_pos hi]
        rw[List.drop_eq_nil_of_le (by rw[HN.o];omega)];rfl)
       have h55:(5:Int)≤(s.size:Int):=by omega
       clear hi;go_wp2_with fail
       go_ret2;exact⟨by rw[HV.o,HE.o]<;>rfl,rfl⟩
    ·have g1:(5:Int)<(s.size:Int):=by omega
     have g2:((s[5].toNat:Int) != 47)=false:=by simp[h47]
     go_enter Tryz.func134,Tryz.ntmps134
     go_wp2_with fail
     refine(CF.o _).mono ?_;rintro e w' ⟨rfl,rfl⟩;go_wp2_with fail
     go_loop [4] (fun i=>∃ k:Nat,k≤5∧i=.int .i64 (k:Int)∧((nats s).take k).map upC=inboxL.take k) (fun i=>5-(intOf i).toNat)
     case atStart=>exact⟨0,by decide,rfl,rfl⟩
     case round =>
      obtain⟨k,hk5,rfl,hm⟩:=hrel;have HM:=hiD hm;clear hm;have hcase:k=0∨k=1∨k=2∨k=3∨k=4∨k=5:=by omega
      rcases hcase with rfl|rfl|rfl|rfl|rfl|rfl
      ·have hk:0<s.size:=by omega
       have HX:=hiD (zas s 0 hk);have hxb:s[0].toNat<256:=s[0].toNat_lt;by_cases u1:97≤s[0].toNat
       ·have v1:(97:Int)≤(s[0].toNat:Int):=by omega
        by_cases u2:s[0].toNat≤122
        ·have v2:(s[0].toNat:Int)≤122:=by omega
         have HU:Hid (upC s[0].toNat=s[0].toNat-32):=hiD (if_pos ⟨u1,u2⟩);have hw:IntKind.u8.wrap ((s[0].toNat:Int)-32)=(s[0].toNat:Int)-32:=IntWalk.u8_in _ (by omega);by_cases he:s[0].toNat=73+32
         ·have hc:((s[0].toNat:Int)-32 != (((⟨#[73,78,66,79,88]⟩:ByteArray)[0]'(by decide)).toNat:Int))=false:=by show((s[0].toNat:Int)-32 != 73)=false;simp;omega
          have HM2:Hid (((nats s).take (0+1)).map upC=inboxL.take (0+1)):=hiD (zae HM.o HX.o (d:=73) rfl (by rw[HU.o];omega));clear he;go_wp2_with fail
          go_round
          case rel=>exact⟨0+1,by decide,by first|rfl|go_num,HM2.o⟩
          case measure=>simp[intOf]
         ·have hc:((s[0].toNat:Int)-32 != (((⟨#[73,78,66,79,88]⟩:ByteArray)[0]'(by decide)).toNat:Int))=true:=by show((s[0].toNat:Int)-32 != 73)=true;simp;omega
          have HV:Hid (za (zu (nats s))=s):=hiD (qq HF.o (qv (by decide) HX.o (d:=73) rfl (by rw[HU.o];omega)));clear he;go_wp2_with fail
          go_ret2;exact⟨by rw[HV.o,HE.o]<;>rfl,rfl⟩
        ·have v2:¬ (s[0].toNat:Int)≤122:=by omega
         have HU:Hid (upC s[0].toNat=s[0].toNat):=hiD (if_neg fun h=>u2 h.2);have he:True:=trivial;have hc:((s[0].toNat:Int) != (((⟨#[73,78,66,79,88]⟩:ByteArray)[0]'(by decide)).toNat:Int))=true:=by show((s[0].toNat:Int) != 73)=true;simp;omega
         have HV:Hid (za (zu (nats s))=s):=hiD (qq HF.o (qv (by decide) HX.o (d:=73) rfl (by rw[HU.o];omega)));clear he;go_wp2_with fail
         go_ret2;exact⟨by rw[HV.o,HE.o]<;>rfl,rfl⟩
       ·have v1:¬ (97:Int)≤(s[0].toNat:Int):=by omega
        have HU:Hid (upC s[0].toNat=s[0].toNat):=hiD (if_neg fun h=>u1 h.1);by_cases he:s[0].toNat=73
        ·have hc:((s[0].toNat:Int) != (((⟨#[73,78,66,79,88]⟩:ByteArray)[0]'(by decide)).toNat:Int))=false:=by show((s[0].toNat:Int) != 73)=false;simp;omega
         have HM2:Hid (((nats s).take (0+1)).map upC=inboxL.take (0+1)):=hiD (zae HM.o HX.o (d:=73) rfl (by rw[HU.o];omega));clear he;go_wp2_with fail
         go_round
         case rel=>exact⟨0+1,by decide,by first|rfl|go_num,HM2.o⟩
         case measure=>simp[intOf]
        ·have hc:((s[0].toNat:Int) != (((⟨#[73,78,66,79,88]⟩:ByteArray)[0]'(by decide)).toNat:Int))=true:=by show((s[0].toNat:Int) != 73)=true;simp;omega
         have HV:Hid (za (zu (nats s))=s):=hiD (qq HF.o (qv (by decide) HX.o (d:=73) rfl (by rw[HU.o];omega)));clear he;go_wp2_with fail
         go_ret2;exact⟨by rw[HV.o,HE.o]<;>rfl,rfl⟩
      ·have hk:1<s.size:=by omega
       have HX:=hiD (zas s 1 hk);have hxb:s[1].toNat<256:=s[1].toNat_lt;by_cases u1:97≤s[1].toNat
       ·have v1:(97:Int)≤(s[1].toNat:Int):=by omega
        by_cases u2:s[1].toNat≤122
        ·have v2:(s[1].toNat:Int)≤122:=by omega
         have HU:Hid (upC s[1].toNat=s[1].toNat-32):=hiD (if_pos ⟨u1,u2⟩);have hw:IntKind.u8.wrap ((s[1].toNat:Int)-32)=(s[1].toNat:Int)-32:=IntWalk.u8_in _ (by omega);by_cases he:s[1].toNat=78+32
         ·have hc:((s[1].toNat:Int)-32 != (((⟨#[73,78,66,79,88]⟩:ByteArray)[1]'(by decide)).toNat:Int))=false:=by show((s[1].toNat:Int)-32 != 78)=false;simp;omega
          have HM2:Hid (((nats s).take (1+1)).map upC=inboxL.take (1+1)):=hiD (zae HM.o HX.o (d:=78) rfl (by rw[HU.o];omega));clear he;go_wp2_with fail
          go_round
          case rel=>exact⟨1+1,by decide,by first|rfl|go_num,HM2.o⟩
          case measure=>simp[intOf]
         ·have hc:((s[1].toNat:Int)-32 != (((⟨#[73,78,66,79,88]⟩:ByteArray)[1]'(by decide)).toNat:Int))=true:=by show((s[1].toNat:Int)-32 != 78)=true;simp;omega
          have HV:Hid (za (zu (nats s))=s):=hiD (qq HF.o (qv (by decide) HX.o (d:=78) rfl (by rw[HU.o];omega)));clear he;go_wp2_with fail
          go_ret2;exact⟨by rw[HV.o,HE.o]<;>rfl,rfl⟩
        ·have v2:¬ (s[1].toNat:Int)≤122:=by omega
         have HU:Hid (upC s[1].toNat=s[1].toNat):=hiD (if_neg fun h=>u2 h.2);have he:True:=trivial;have hc:((s[1].toNat:Int) != (((⟨#[73,78,66,79,88]⟩:ByteArray)[1]'(by decide)).toNat:Int))=true:=by show((s[1].toNat:Int) != 78)=true;simp;omega
         have HV:Hid (za (zu (nats s))=s):=hiD (qq HF.o (qv (by decide) HX.o (d:=78) rfl (by rw[HU.o];omega)));clear he;go_wp2_with fail
         go_ret2;exact⟨by rw[HV.o,HE.o]<;>rfl,rfl⟩
       ·have v1:¬ (97:Int)≤(s[1].toNat:Int):=by omega
        have HU:Hid (upC s[1].toNat=s[1].toNat):=hiD (if_neg fun h=>u1 h.1);by_cases he:s[1].toNat=78
        ·have hc:((s[1].toNat:Int) != (((⟨#[73,78,66,79,88]⟩:ByteArray)[1]'(by decide)).toNat:Int))=false:=by show((s[1].toNat:Int) != 78)=false;simp;omega
         have HM2:Hid (((nats s).take (1+1)).map upC=inboxL.take (1+1)):=hiD (zae HM.o HX.o (d:=78) rfl (by rw[HU.o];omega));clear he;go_wp2_with fail
         go_round
         case rel=>exact⟨1+1,by decide,by first|rfl|go_num,HM2.o⟩
         case measure=>simp[intOf]
        ·have hc:((s[1].toNat:Int) != (((⟨#[73,78,66,79,88]⟩:ByteArray)[1]'(by decide)).toNat:Int))=true:=by show((s[1].toNat:Int) != 78)=true;simp;omega
         have HV:Hid (za (zu (nats s))=s):=hiD (qq HF.o (qv (by decide) HX.o (d:=78) rfl (by rw[HU.o];omega)));clear he;go_wp2_with fail
         go_ret2;exact⟨by rw[HV.o,HE.o]<;>rfl,rfl⟩
      ·have hk:2<s.size:=by omega
       have HX:=hiD (zas s 2 hk);have hxb:s[2].toNat<256:=s[2].toNat_lt;by_cases u1:97≤s[2].toNat
       ·have v1:(97:Int)≤(s[2].toNat:Int):=by omega
        by_cases u2:s[2].toNat≤122
        ·have v2:(s[2].toNat:Int)≤122:=by omega
         have HU:Hid (upC s[2].toNat=s[2].toNat-32):=hiD (if_pos ⟨u1,u2⟩);have hw:IntKind.u8.wrap ((s[2].toNat:Int)-32)=(s[2].toNat:Int)-32:=IntWalk.u8_in _ (by omega);by_cases he:s[2].toNat=66+32
         ·have hc:((s[2].toNat:Int)-32 != (((⟨#[73,78,66,79,88]⟩:ByteArray)[2]'(by decide)).toNat:Int))=false:=by show((s[2].toNat:Int)-32 != 66)=false;simp;omega
          have HM2:Hid (((nats s).take (2+1)).map upC=inboxL.take (2+1)):=hiD (zae HM.o HX.o (d:=66) rfl (by rw[HU.o];omega));clear he;go_wp2_with fail
          go_round
          case rel=>exact⟨2+1,by decide,by first|rfl|go_num,HM2.o⟩
          case measure=>simp[intOf]
         ·have hc:((s[2].toNat:Int)-32 != (((⟨#[73,78,66,79,88]⟩:ByteArray)[2]'(by decide)).toNat:Int))=true:=by show((s[2].toNat:Int)-32 != 66)=true;simp;omega
          have HV:Hid (za (zu (nats s))=s):=hiD (qq HF.o (qv (by decide) HX.o (d:=66) rfl (by rw[HU.o];omega)));clear he;go_wp2_with fail
          go_ret2;exact⟨by rw[HV.o,HE.o]<;>rfl,rfl⟩
        ·have v2:¬ (s[2].toNat:Int)≤122:=by omega
         have HU:Hid (upC s[2].toNat=s[2].toNat):=hiD (if_neg fun h=>u2 h.2);have he:True:=trivial;have hc:((s[2].toNat:Int) != (((⟨#[73,78,66,79,88]⟩:ByteArray)[2]'(by decide)).toNat:Int))=true:=by show((s[2].toNat:Int) != 66)=true;simp;omega
         have HV:Hid (za (zu (nats s))=s):=hiD (qq HF.o (qv (by decide) HX.o (d:=66) rfl (by rw[HU.o];omega)));clear he;go_wp2_with fail
         go_ret2;exact⟨by rw[HV.o,HE.o]<;>rfl,rfl⟩
       ·have v1:¬ (97:Int)≤(s[2].toNat:Int):=by omega
        have HU:Hid (upC s[2].toNat=s[2].toNat):=hiD (if_neg fun h=>u1 h.1);by_cases he:s[2].toNat=66
        ·have hc:((s[2].toNat:Int) != (((⟨#[73,78,66,79,88]⟩:ByteArray)[2]'(by decide)).toNat:Int))=false:=by show((s[2].toNat:Int) != 66)=false;simp;omega
         have HM2:Hid (((nats s).take (2+1)).map upC=inboxL.take (2+1)):=hiD (zae HM.o HX.o (d:=66) rfl (by rw[HU.o];omega));clear he;go_wp2_with fail
         go_round
         case rel=>exact⟨2+1,by decide,by first|rfl|go_num,HM2.o⟩
         case measure=>simp[intOf]
        ·have hc:((s[2].toNat:Int) != (((⟨#[73,78,66,79,88]⟩:ByteArray)[2]'(by decide)).toNat:Int))=true:=by show((s[2].toNat:Int) != 66)=true;simp;omega
         have HV:Hid (za (zu (nats s))=s):=hiD (qq HF.o (qv (by decide) HX.o (d:=66) rfl (by rw[HU.o];omega)));clear he;go_wp2_with fail
         go_ret2;exact⟨by rw[HV.o,HE.o]<;>rfl,rfl⟩
      ·have hk:3<s.size:=by omega
       have HX:=hiD (zas s 3 hk);have hxb:s[3].toNat<256:=s[3].toNat_lt;by_cases u1:97≤s[3].toNat
       ·have v1:(97:Int)≤(s[3].toNat:Int):=by omega
        by_cases u2:s[3].toNat≤122
        ·have v2:(s[3].toNat:Int)≤122:=by omega
         have HU:Hid (upC s[3].toNat=s[3].toNat-32):=hiD (if_pos ⟨u1,u2⟩);have hw:IntKind.u8.wrap ((s[3].toNat:Int)-32)=(s[3].toNat:Int)-32:=IntWalk.u8_in _ (by omega);by_cases he:s[3].toNat=79+32
         ·have hc:((s[3].toNat:Int)-32 != (((⟨#[73,78,66,79,88]⟩:ByteArray)[3]'(by decide)).toNat:Int))=false:=by show((s[3].toNat:Int)-32 != 79)=false;simp;omega
          have HM2:Hid (((nats s).take (3+1)).map upC=inboxL.take (3+1)):=hiD (zae HM.o HX.o (d:=79) rfl (by rw[HU.o];omega));clear he;go_wp2_with fail
          go_round
          case rel=>exact⟨3+1,by decide,by first|rfl|go_num,HM2.o⟩
          case measure=>simp[intOf]
         ·have hc:((s[3].toNat:Int)-32 != (((⟨#[73,78,66,79,88]⟩:ByteArray)[3]'(by decide)).toNat:Int))=true:=by show((s[3].toNat:Int)-32 != 79)=true;simp;omega
          have HV:Hid (za (zu (nats s))=s):=hiD (qq HF.o (qv (by decide) HX.o (d:=79) rfl (by rw[HU.o];omega)));clear he;go_wp2_with fail
          go_ret2;exact⟨by rw[HV.o,HE.o]<;>rfl,rfl⟩
        ·have v2:¬ (s[3].toNat:Int)≤122:=by omega
         have HU:Hid (upC s[3].toNat=s[3].toNat):=hiD (if_neg fun h=>u2 h.2);have he:True:=trivial;have hc:((s[3].toNat:Int) != (((⟨#[73,78,66,79,88]⟩:ByteArray)[3]'(by decide)).toNat:Int))=true:=by show((s[3].toNat:Int) != 79)=true;simp;omega
         have HV:Hid (za (zu (nats s))=s):=hiD (qq HF.o (qv (by decide) HX.o (d:=79) rfl (by rw[HU.o];omega)));clear he;go_wp2_with fail
         go_ret2;exact⟨by rw[HV.o,HE.o]<;>rfl,rfl⟩
       ·have v1:¬ (97:Int)≤(s[3].toNat:Int):=by omega
        have HU:Hid (upC s[3].toNat=s[3].toNat):=hiD (if_neg fun h=>u1 h.1);by_cases he:s[3].toNat=79
        ·have hc:((s[3].toNat:Int) != (((⟨#[73,78,66,79,88]⟩:ByteArray)[3]'(by decide)).toNat:Int))=false:=by show((s[3].toNat:Int) != 79)=false;simp;omega
         have HM2:Hid (((nats s).take (3+1)).map upC=inboxL.take (3+1)):=hiD (zae HM.o HX.o (d:=79) rfl (by rw[HU.o];omega));clear he;go_wp2_with fail
         go_round
         case rel=>exact⟨3+1,by decide,by first|rfl|go_num,HM2.o⟩
         case measure=>simp[intOf]
        ·have hc:((s[3].toNat:Int) != (((⟨#[73,78,66,79,88]⟩:ByteArray)[3]'(by decide)).toNat:Int))=true:=by show((s[3].toNat:Int) != 79)=true;simp;omega
         have HV:Hid (za (zu (nats s))=s):=hiD (qq HF.o (qv (by decide) HX.o (d:=79) rfl (by rw[HU.o];omega)));clear he;go_wp2_with fail
         go_ret2;exact⟨by rw[HV.o,HE.o]<;>rfl,rfl⟩
      ·have hk:4<s.size:=by omega
       have HX:=hiD (zas s 4 hk);have hxb:s[4].toNat<256:=s[4].toNat_lt;by_cases u1:97≤s[4].toNat
       ·have v1:(97:Int)≤(s[4].toNat:Int):=by omega
        by_cases u2:s[4].toNat≤122
        ·have v2:(s[4].toNat:Int)≤122:=by omega
         have HU:Hid (upC s[4].toNat=s[4].toNat-32):=hiD (if_pos ⟨u1,u2⟩);have hw:IntKind.u8.wrap ((s[4].toNat:Int)-32)=(s[4].toNat:Int)-32:=IntWalk.u8_in _ (by omega);by_cases he:s[4].toNat=88+32
         ·have hc:((s[4].toNat:Int)-32 != (((⟨#[73,78,66,79,88]⟩:ByteArray)[4]'(by decide)).toNat:Int))=false:=by show((s[4].toNat:Int)-32 != 88)=false;simp;omega
          have HM2:Hid (((nats s).take (4+1)).map upC=inboxL.take (4+1)):=hiD (zae HM.o HX.o (d:=88) rfl (by rw[HU.o];omega));clear he;go_wp2_with fail
          go_round
          case rel=>exact⟨4+1,by decide,by first|rfl|go_num,HM2.o⟩
          case measure=>simp[intOf]
         ·have hc:((s[4].toNat:Int)-32 != (((⟨#[73,78,66,79,88]⟩:ByteArray)[4]'(by decide)).toNat:Int))=true:=by show((s[4].toNat:Int)-32 != 88)=true;simp;omega
          have HV:Hid (za (zu (nats s))=s):=hiD (qq HF.o (qv (by decide) HX.o (d:=88) rfl (by rw[HU.o];omega)));clear he;go_wp2_with fail
          go_ret2;exact⟨by rw[HV.o,HE.o]<;>rfl,rfl⟩
        ·have v2:¬ (s[4].toNat:Int)≤122:=by omega
         have HU:Hid (upC s[4].toNat=s[4].toNat):=hiD (if_neg fun h=>u2 h.2);have he:True:=trivial;have hc:((s[4].toNat:Int) != (((⟨#[73,78,66,79,88]⟩:ByteArray)[4]'(by decide)).toNat:Int))=true:=by show((s[4].toNat:Int) != 88)=true;simp;omega
         have HV:Hid (za (zu (nats s))=s):=hiD (qq HF.o (qv (by decide) HX.o (d:=88) rfl (by rw[HU.o];omega)));clear he;go_wp2_with fail
         go_ret2;exact⟨by rw[HV.o,HE.o]<;>rfl,rfl⟩
       ·have v1:¬ (97:Int)≤(s[4].toNat:Int):=by omega
        have HU:Hid (upC s[4].toNat=s[4].toNat):=hiD (if_neg fun h=>u1 h.1);by_cases he:s[4].toNat=88
        ·have hc:((s[4].toNat:Int) != (((⟨#[73,78,66,79,88]⟩:ByteArray)[4]'(by decide)).toNat:Int))=false:=by show((s[4].toNat:Int) != 88)=false;simp;omega
         have HM2:Hid (((nats s).take (4+1)).map upC=inboxL.take (4+1)):=hiD (zae HM.o HX.o (d:=88) rfl (by rw[HU.o];omega));clear he;go_wp2_with fail
         go_round
         case rel=>exact⟨4+1,by decide,by first|rfl|go_num,HM2.o⟩
         case measure=>simp[intOf]
        ·have hc:((s[4].toNat:Int) != (((⟨#[73,78,66,79,88]⟩:ByteArray)[4]'(by decide)).toNat:Int))=true:=by show((s[4].toNat:Int) != 88)=true;simp;omega
         have HV:Hid (za (zu (nats s))=s):=hiD (qq HF.o (qv (by decide) HX.o (d:=88) rfl (by rw[HU.o];omega)));clear he;go_wp2_with fail
         go_ret2;exact⟨by rw[HV.o,HE.o]<;>rfl,rfl⟩
      ·have hi : zay (nats s) = true := decide_eq_true ⟨HM.o, by
        rcases HOR.o with h|⟨_,h,h2⟩
        ·exact .inl (by rw[HN.o];exact h)
        ·exact .inr (by rw[zas s 5 h,h2])⟩
       have HV:Hid (za (zu (nats s))=za (inboxL++(nats s).drop 5)):=hiD (by
        unfold zu zcm
        rw[if_pos HF.o,if_pos hi])
       have h55:(5:Int)≤(s.size:Int):=by omega
       clear hi;go_wp2_with fail
       go_ret2;exact⟨by rw[HV.o,HE.o]<;>rfl,rfl⟩
   by_cases he5:s.size=5
   ·exact HGO.o (.inl he5)
   ·have hgt:5<s.size:=by omega
    by_cases h47:s[5].toNat=47
    ·exact HGO.o (.inr ⟨hgt,hgt,h47⟩)
    ·have HV:Hid (za (zu (nats s))=s):=hiD (qq HF.o (z4y (by rw[HN.o];exact hgt) (zas s 5 hgt) h47))
     have g1:(5:Int)<(s.size:Int):=by omega
     have g2:((s[5].toNat:Int) != 47)=true:=by simp;omega
     clear h47 he5 h5 HGO;go_enter Tryz.func134,Tryz.ntmps134
     go_wp2_with fail
     refine(CF.o _).mono ?_;rintro e w' ⟨rfl,rfl⟩;go_wp2_with fail
     go_ret2;exact⟨by rw[HV.o,HE.o]<;>rfl,rfl⟩
theorem zio {s:ByteArray}(hf:qd (nats s)=true):js (nats s)=decide (za (zu (nats s))=s):=by
 unfold js zu;rw[if_pos hf,Bool.eq_iff_iff,decide_eq_true_iff,decide_eq_true_iff];constructor
 ·rintro⟨_,h⟩;rw[h,zaw]
 ·intro h
  have hlt:∀ x∈zcm (nats s),x<256:=fun x hx=>by
   have:=z0b (z0a (by rw[z0f];exact hf) x hx);omega
  exact⟨hf,by rw[← zbw _ hlt,h]⟩
theorem zr3 (s:ByteArray)(hs:s.size≤140737488355328)(w:World):Calls Tryz.prog 62 #[.string s] w fun e w'=>e=.returned (.bool (js (nats s)))∧w=w':=by
 have CC:Hid (∀ W,Calls Tryz.prog 134 #[.string s] W fun e w'=>e=.returned (.tuple #[.string (za (zu (nats s))),.int .i64 (jx (nats s))])∧W=w'):=hiD fun W=>z4z s hs W;cases hf:qd (nats s)
 ·have HR:Hid (js (nats s)=false):=hiD (zqu hf)
  have he:jx (nats s)=3:=by unfold jx;rw[hf,if_neg Bool.false_ne_true]
  rw[he] at CC;clear hf he;go_enter Tryz.func62,Tryz.ntmps62
  go_wp2_with fail
  refine(CC.o _).mono ?_;rintro e w' ⟨rfl,rfl⟩;go_wp2_with fail
  go_ret;exact⟨by rw[HR.o]<;>rfl,rfl⟩
 ·have he:jx (nats s)=0:=by unfold jx;rw[hf,if_pos rfl]
  rw[he] at CC;by_cases hq:za (zu (nats s))=s
  ·have HR:Hid (js (nats s)=true):=hiD ((zio hf).trans (decide_eq_true hq))
   rw[hq] at CC;have hss:(s.toList == s.toList)=true:=by simp
   clear hf he hq;go_enter Tryz.func62,Tryz.ntmps62
   go_wp2_with fail
   refine(CC.o _).mono ?_;rintro e w' ⟨rfl,rfl⟩;go_wp2_with fail
   go_ret;exact⟨by rw[HR.o]<;>rfl,rfl⟩
  ·have HR:Hid (js (nats s)=false):=hiD ((zio hf).trans (decide_eq_false hq))
   have hss:((za (zu (nats s))).toList == s.toList)=false:=by
    rw[beq_eq_false_iff_ne];intro e;rw[ByteArray.toList_eq,ByteArray.toList_eq] at e;exact hq (zc8 e)
   obtain⟨t,ht⟩:∃ t,za (zu (nats s))=t:=⟨_,rfl⟩;rw[ht] at CC hss;clear hf he hq ht;go_enter Tryz.func62,Tryz.ntmps62
   go_wp2_with fail
   refine(CC.o _).mono ?_;rintro e w' ⟨rfl,rfl⟩;go_wp2_with fail
   go_ret;exact⟨by rw[HR.o]<;>rfl,rfl⟩
end Go.Proofs.YtmjjefnmabbgdaaGreatDoor
