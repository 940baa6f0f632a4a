/- A part of the proof. -/
import Derived.Test.YtmjjefnmabbgdaaGreatDoorSNameShelf
import Derived.Test.YtmjjefnmabbgdaaGreatDoorSNameRefC
import Derived.Lib.IndexAny
import Derived.Laws.OwnMore
import Derived.Test.YtmjjefnmabbgdaaGreatDoorSEventMath
import Derived.Test.YtmjjefnmabbgdaaGreatDoorSUidsA
import Derived.Test.YtmjjefnmabbgdaaGreatDoorSWide
namespace Go.Proofs.YtmjjefnmabbgdaaGreatDoor
set_option linter.unusedVariables false
set_option linter.unusedSimpArgs false
set_option maxRecDepth 100000
set_option maxHeartbeats 16000000
open Go.RowKit
open Go.Lib hiding intOf
def barredL:List UInt8:=[40,41,123,37,42,34,92]
theorem z29 (s:ByteArray)(c:Int)(w:World):Calls Tryz.prog 334 #[.string s,.int .u8 c] w fun e w'=>e=.returned (.int .i64 (indexByte s.data.toList c.toNat.toUInt8))∧w=w' :=
 (Any.strings_IndexByte z34 s c w).mono fun _ _ h=>⟨h.1,h.2.symm⟩
theorem z3a (c:Nat)(h:c<256):(c=40∨c=41∨c=123∨c=37∨c=42∨c=34∨c=92)↔0≤indexByte barredL (c.toUInt8):=by
 have h1:=contains_iff_indexByte barredL c.toUInt8;have h2:barredL.contains c.toUInt8=decide (c=40∨c=41∨c=123∨c=37∨c=42∨c=34∨c=92):=by
  have:∀ c:Fin 256,barredL.contains c.val.toUInt8=decide (c.val=40∨c.val=41∨c.val=123∨c.val=37∨c.val=42∨c.val=34∨c.val=92):=by decide +kernel
  exact this ⟨c,h⟩
 rw[h2] at h1;exact decide_eq_decide.1 h1
theorem z3b (s:ByteArray)(hs:s.size<4294967281)(c:UInt8)(n:Int)(N:Nat)(hn0:n≠0)(hn63:n≤9223372036854775807)(hN:(N:Int)=min (if n<0 then (countB s ⟨#[c]⟩:Int)+1 else n) ((s.size:Int)+1))(w:World) :
 Calls Tryz.prog 335 #[.string s,.string ⟨#[c]⟩,.int .i64 0,.int .i64 n] w fun e w' =>
  e=.returned (.slice (some ⟨w.heap.size,0,none⟩) (splitB ⟨#[c]⟩ 0 (N-1) s).length N)∧w'=w.alloc (.cells (cellsOf (splitB ⟨#[c]⟩ 0 (N-1) s) N) 9):=by
 refine Any.strings_genSplit_core z4d (by kernel_rfl) s ⟨#[c]⟩ 0 n N w hs (Nat.le_refl _) (Nat.zero_le _) ?_ ?_ hn0 hn63 hN
 ·intro x cs hx
  refine(Any.strings_Index_one z38 x c _).mono ?_;rintro e w' ⟨rfl,rfl⟩;exact⟨by rw[show indexB x ⟨#[c]⟩=indexByte x.data.toList c from index_one _ _],rfl⟩
 ·refine(Any.strings_Count_one z4b s c w).mono ?_
  rintro e w' ⟨rfl,rfl⟩;refine⟨?_,rfl⟩;rw[show countB s ⟨#[c]⟩=countByte s.data.toList c from count_one _ _]
theorem z3c (w:World)(L:List ByteArray)(c:Array Value)(t:TypeId)(hc:∀ (i:Nat)(s:ByteArray),L[i]?=some s→c[i]?=some (Value.string s)):Strs (w.alloc (.cells c t)) w.heap.size 0 (L.map nats):=by
 intro i p hp;rw[List.getElem?_map] at hp;obtain⟨s,hs,rfl⟩:=Option.map_eq_some_iff.1 hp;rw[Nat.zero_add,zaw,cell_of_row (w.alloc (.cells c t)) w.heap.size i c t (0,0) (heap_alloc_new w _),hc i s hs]
theorem z3d (s:ByteArray)(hs:s.size<4294967281)(c:UInt8)(w:World):Calls Tryz.prog 314 #[.string s,.string ⟨#[c]⟩] w fun e w' =>
 e=.returned (.slice (some ⟨w.heap.size,0,none⟩) (zah c.toNat (nats s)).length (zah c.toNat (nats s)).length)∧Below w.heap.size w w'∧Strs w' w.heap.size 0 (zah c.toNat (nats s))∧w'.heap.size=w.heap.size+1:=by
 obtain⟨L,hL⟩:∃ L,splitB ⟨#[c]⟩ 0 (countB s ⟨#[c]⟩) s=L:=⟨_,rfl⟩;have hm:=zqo c (countB s ⟨#[c]⟩) s (Nat.le_refl _);have hlen:=splitB_all ⟨#[c]⟩ (Nat.le_refl _) 0 _ s rfl;have hle:=countB_le ⟨#[c]⟩ (Nat.le_refl _) s.size s (Nat.le_refl _);have cg:=z3b s hs c (-1) (countB s ⟨#[c]⟩+1) (by decide) (by decide) (by rw[if_pos (by decide)];omega) w;rw[Nat.add_sub_cancel,hL] at cg;rw[hL] at hm hlen;rw[← hlen,cellsOf_full] at cg;have hl2:(zah c.toNat (nats s)).length=L.length:=by rw[← hm,List.length_map]
 have HL:=hiD hm;have H2:=hiD hl2;clear hm hlen hle hL hl2;go_enter Tryz.func314,Tryz.ntmps314
 go_wp2_with (go_at_call 335;refine cg.mono ?_;rintro e w' ⟨rfl,hw⟩;rw[hw])
 go_ret;refine⟨by rw[H2.o]<;>rfl,(Below.refl _ _).alloc (Nat.le_refl _) _,?_,by simp⟩;rw[← HL.o];exact z3c w L _ _ (fun i x hx=>by simp[hx])
theorem z3e (s:ByteArray)(c:UInt8)(w:World):Calls Tryz.prog 336 #[.string s,.string ⟨#[c]⟩] w fun e w'=>e=.returned (.int .i64 (Lib.indexB s ⟨#[c]⟩))∧w=w':=by
 refine(Any.stringslite_Index_one z36 s c w).mono ?_;rintro e w' ⟨rfl,rfl⟩;exact⟨by rw[show indexB s ⟨#[c]⟩=indexByte s.data.toList c from index_one _ _],rfl⟩
def CutIs (s p:ByteArray):Prop:=(p=s∧∀ x∈nats s,x≠47)∨∃ q,nats s=nats p++47::nats q∧∀ x∈nats p,x≠47
theorem z3f (s:ByteArray)(hs:s.size≤140737488355328)(w:World):Calls Tryz.prog 315 #[.string s,.string ⟨#[47]⟩] w fun e w' =>
 ∃ p q b,e=.returned (.tuple #[.string p,.string q,.bool b])∧CutIs s p∧∃ n,w'=w.drewN n:=by
 have CI:=hiD (z3e s 47 w);rcases zkv s 47 with ⟨h1,h2⟩|⟨i,h1,h2,h3,h4⟩
 ·have H1:=hiD h1
  have H2:=hiD h2;clear h1 h2;go_enter Tryz.func315,Tryz.ntmps315
  go_wp2_with fail
  refine CI.o.mono ?_;rintro e w' ⟨rfl,rfl⟩;rw[H2.o];go_wp2_with fail
  go_ret3;exact⟨_,_,_,rfl,.inl ⟨rfl,H1.o⟩,0,rfl⟩
 ·have H1:=hiD h1
  have H3:=hiD h3;have H4:=hiD h4;have c1:(0:Int)≤(i:Int):=by omega
  have c2:(i:Int)≤(s.size:Int):=by omega
  have c3:(0:Int)≤(i:Int)+1:=by omega
  have c4:(i:Int)+1≤(s.size:Int):=by omega
  have c5:IntKind.i64.wrap ((i:Int)+1)=(i:Int)+1:=IntWalk.i64_in _ (by omega);have c6:((i:Int)+1).toNat=i+1:=by omega
  have HP:Hid (nats (s.extract 0 i)=(nats s).take i):=hiD (by rw[zfk];simp);have HQ:Hid (nats (s.extract (i+1) s.size)=(nats s).drop (i+1)):=hiD (by rw[zfk,List.take_of_length_le];rw[List.length_drop,jn];exact Nat.le_refl _);clear h1 h3 h4;go_enter Tryz.func315,Tryz.ntmps315
  go_wp2_with fail
  refine CI.o.mono ?_;rintro e w' ⟨rfl,rfl⟩;rw[H1.o];go_wp2_with fail
  go_quiet (fail)
  go_wp2_with fail
  go_ret3;exact⟨_,_,_,rfl,.inr ⟨s.extract (i+1) s.size,by rw[HP.o,HQ.o];exact H4.o,by rw[HP.o];exact H3.o⟩,_,rfl⟩
theorem z3g (s:ByteArray)(hs:s.size≤140737488355328)(w:World):Calls Tryz.prog 291 #[.string s,.string ⟨#[47]⟩] w fun e w' =>
 ∃ p q b,e=.returned (.tuple #[.string p,.string q,.bool b])∧CutIs s p∧∃ n,w'=w.drewN n:=by
 have CI:=hiD (z3f s hs w);go_enter Tryz.func291,Tryz.ntmps291
 go_wp2_with fail
 refine CI.o.mono ?_;rintro e w' ⟨p,q,b,rfl,h,n,rfl⟩;have H:=hiD h;clear h CI;go_wp2_with fail
 go_ret3;exact⟨_,_,_,rfl,H.o,n,rfl⟩
def IdxRes (l:List (List Nat))(t:ByteArray)(e:Ending):Prop:=∃ z:Int,e=.returned (.int .i64 z)∧decide (0≤z)=decide (nats t∈l)
theorem z3h (b o n c:Nat)(l:List (List Nat))(t:ByteArray)(w:World)(hlen:l.length=n)(hst:0<n→Strs w b o l)(hlt:∀ p∈l,∀ x∈p,x<256)(hn:n≤140737488355328)(A:Option Addr)(hA:0<n→A=some ⟨b,o,none⟩) :
 Calls Tryz.prog 298 #[.slice A n c,.string t] w fun e w'=>IdxRes l t e∧w=w':=by
 have HLT:=hiD hlt;have HLEN:=hiD hlen;have HST:=hiD hst;have HA:=hiD hA;clear hlt hlen hst hA;go_enter Tryz.func298,Tryz.ntmps298
 go_wp2_with fail
 go_loop [8] (fun i=>∃ k:Nat,k≤n∧i=.int .i64 (k:Int)∧nats t ∉ l.take k) (fun i=>n-(intOf i).toNat)
 case atStart=>exact⟨0,Nat.zero_le _,rfl,fun h=>by simp at h⟩
 case round =>
  obtain⟨k,hk,rfl,hm⟩:=hrel;have HM:=hiD hm;clear hm;by_cases hlk:k<n
  ·obtain⟨p,hp⟩:∃ p,l[k]?=some p:=⟨_,List.getElem?_eq_getElem (by rw[HLEN.o];exact hlk)⟩
   obtain rfl:A=some ⟨b,o,none⟩:=HA.o (by omega);have hcell:=HST.o (by omega) k p hp;have a0:(0:Int)≤(k:Int):=by omega
   have a1:(k:Int)<(n:Int):=by omega
   have hq:(t.toList == (za p).toList)=decide (p=nats t):=by rw[Bool.beq_comm];exact z4g t p (HLT.o p (List.mem_of_getElem? hp))
   have HP:=hiD hp;clear hp;by_cases he:p=nats t
   ·have hq2:(t.toList == (za p).toList)=true:=by rw[hq];exact decide_eq_true he
    have HR:Hid (decide (0≤(k:Int))=decide (nats t∈l)):=hiD (by rw[decide_eq_true a0,decide_eq_true (he ▸ List.mem_of_getElem? HP.o)]);clear hq he;go_wp2_with fail
    go_ret;exact⟨⟨_,rfl,HR.o⟩,rfl⟩
   ·have hq2:(t.toList == (za p).toList)=false:=by rw[hq];exact decide_eq_false he
    have HM2:Hid (nats t ∉ l.take (k+1)):=hiD (by
     rw[zdo _ _ _ HP.o];intro h;rcases List.mem_append.1 h with h|h
     ·exact HM.o h
     ·exact he (List.mem_singleton.1 h).symm)
    clear hq he;go_wp2_with fail
    go_round
    case rel=>exact⟨k+1,by omega,by go_num,HM2.o⟩
    case measure=>simp[intOf];omega
  ·have a1:¬ (k:Int)<(n:Int):=by omega
   have HR:Hid (decide (0≤(-1:Int))=decide (nats t∈l)):=hiD (by
    rw[decide_eq_false (by decide),eq_comm,decide_eq_false_iff_not];intro h
    exact HM.o (by rw[List.take_of_length_le (by rw[HLEN.o];omega)];exact h))
   go_wp2_with fail
   go_ret;exact⟨⟨_,rfl,HR.o⟩,rfl⟩
theorem z3i (b o n c:Nat)(l:List (List Nat))(t:ByteArray)(w:World)(hlen:l.length=n)(hst:0<n→Strs w b o l)(hlt:∀ p∈l,∀ x∈p,x<256)(hn:n≤140737488355328)(A:Option Addr)(hA:0<n→A=some ⟨b,o,none⟩) :
 Calls Tryz.prog 261 #[.slice A n c,.string t] w fun e w'=>e=.returned (.bool (decide (nats t∈l)))∧w=w':=by
 have CI:=hiD (z3h b o n c l t w hlen hst hlt hn A hA);clear hlen hst hlt hA;go_enter Tryz.func261,Tryz.ntmps261
 go_wp2_with fail
 refine CI.o.mono ?_;rintro e w' ⟨⟨z,rfl,hz⟩,rfl⟩;have HZ:=hiD hz;clear hz;go_wp2_with fail
 go_ret;exact⟨by rw[HZ.o]<;>rfl,rfl⟩
end Go.Proofs.YtmjjefnmabbgdaaGreatDoor
namespace Go.Proofs.YtmjjefnmabbgdaaGreatDoor
set_option linter.unusedVariables false
set_option linter.unusedSimpArgs false
set_option maxRecDepth 100000
set_option maxHeartbeats 16000000
open Go.RowKit
theorem zrp (c:Nat)(hc:c<256)(w:World):Calls Tryz.prog 316 #[.int .u8 (c:Int)] w fun e w'=>e=.returned (.int .u8 (jw c:Nat))∧w=w':=by
 by_cases h1:65≤c
 ·by_cases h2:c≤90
  ·have HR:Hid (jw c=c+32):=hiD (if_pos ⟨h1,h2⟩)
   go_enter Tryz.func316,Tryz.ntmps316
   go_wp2
   go_ret;exact⟨zbt (by rw[HR.o];omega),rfl⟩
  ·have HR:Hid (jw c=c):=hiD (if_neg (by omega))
   go_enter Tryz.func316,Tryz.ntmps316
   go_wp2
   go_ret;exact⟨by rw[HR.o]<;>rfl,rfl⟩
 ·have HR:Hid (jw c=c):=hiD (if_neg (by omega))
  go_enter Tryz.func316,Tryz.ntmps316
  go_wp2
  go_ret;exact⟨by rw[HR.o]<;>rfl,rfl⟩
theorem z3j {a b:List Nat}{k x y:Nat}(hx:a[k]?=some x)(hy:b[k]?=some y)(h:jw x≠jw y):zbx a b=false:=by
 unfold zbx;refine decide_eq_false fun e=>h ?_;have:=congrArg (·[k]?) e
 simpa [hx,hy] using this
theorem z3k (a b:ByteArray)(ha:a.size≤140737488355328)(hb:b.size≤140737488355328)(w:World) :
 Calls Tryz.prog 292 #[.string a,.string b] w fun e w'=>e=.returned (.bool (zbx (nats a) (nats b)))∧∃ n,w'=w.drewN n:=by
 by_cases hl:a.size=b.size
 ·have HL:=hiD hl
  have h64:a.size≤9223372036854775807:=by omega
  have h65:b.size≤9223372036854775807:=by omega
  have hle:((a.size:Int) != b.size)=false:=by simp;omega
  clear hl;go_enter Tryz.func292,Tryz.ntmps292
  go_wp2_with fail
  go_loopw [13] (fun i wx=>∃ k n:Nat,k≤a.size∧i=.int .i64 (k:Int)∧((nats a).take k).map jw=((nats b).take k).map jw∧wx=w.drewN n) (fun i _=>a.size-(intOf i).toNat)
  case atStart=>exact⟨0,0,Nat.zero_le _,rfl,by simp,rfl⟩
  case round =>
   obtain⟨k,n,hk,rfl,hm,hw⟩:=hrel;have HM:=hiD hm;have HW:=hiD hw;clear hm hw;by_cases hlt:k<a.size
   ·have hlb:k<b.size:=by have:=HL.o;omega
    have hx:=zas a k hlt;have hy:=zas b k hlb;have hxa:a[k].toNat<256:=a[k].toNat_lt;have hxb:b[k].toNat<256:=b[k].toNat_lt;have HX:=hiD hx;have HY:=hiD hy;have HTA:=hiD (zbz _ _ _ hx);have HTB:=hiD (zbz _ _ _ hy);have ca:=fun W=>(zrp a[k].toNat hxa W).mono (fun _ _ h=>(⟨h.1,h.2.symm⟩:_∧_));have cb:=fun W=>(zrp b[k].toNat hxb W).mono (fun _ _ h=>(⟨h.1,h.2.symm⟩:_∧_));clear hx hy;by_cases he:jw a[k].toNat=jw b[k].toNat
    ·have hne:((jw a[k].toNat:Int) != jw b[k].toNat)=false:=by simp;omega
     have HE:=hiD he;clear he;go_wp2_with fail
     go_quiet ((go_at_call 316;first|(with_reducible exact Calls.quiet_of_same (ca _))|(with_reducible exact Calls.quiet_of_same (cb _))))
     go_wp2_with fail
     go_roundw
     case rel=>exact⟨k+1,_,by omega,by go_num,by rw[HTA.o,HTB.o,List.map_append,List.map_append,HM.o,List.map_singleton,List.map_singleton,HE.o],by rw[HW.o];exact zbf _ _ _⟩
     case measure=>simp[intOf];omega
    ·have hne:((jw a[k].toNat:Int) != jw b[k].toNat)=true:=by simp;omega
     have HE:=hiD he;clear he;go_wp2_with fail
     go_quiet ((go_at_call 316;first|(with_reducible exact Calls.quiet_of_same (ca _))|(with_reducible exact Calls.quiet_of_same (cb _))))
     go_wp2_with fail
     go_ret;exact⟨by rw[z3j HX.o HY.o HE.o]<;>rfl,_,by rw[HW.o];exact zbf _ _ _⟩
   ·have HR : Hid (zbx (nats a) (nats b) = true) := hiD (by
     have:=HM.o;rw[List.take_of_length_le (by rw[jn];omega),List.take_of_length_le (by rw[jn,← HL.o];omega)] at this
     exact decide_eq_true this)
    go_wp2_with fail
    go_ret;exact⟨by rw[HR.o]<;>rfl,_,HW.o⟩
 ·have HR : Hid (zbx (nats a) (nats b) = false) := hiD (by
   cases h:zbx (nats a) (nats b)
   ·rfl
   ·have:=zyd h
    rw[jn,jn] at this
    exact absurd this hl)
  have hle:((a.size:Int) != b.size)=true:=by simp;omega
  clear hl;go_enter Tryz.func292,Tryz.ntmps292
  go_wp2_with fail
  go_ret;exact⟨by rw[HR.o]<;>rfl,0,rfl⟩
theorem z3l (c:Nat)(hc:c<256)(w:World):Calls Tryz.prog 313 #[.int .u8 (c:Int)] w fun e w'=>e=.returned (.bool (jh c))∧w=w':=by
 by_cases h1:32<c
 ·by_cases h2:c≤126
  ·have CI : Hid (∀ W, Calls Tryz.prog 334 #[.string ⟨#[40, 41, 123, 37, 42, 34, 92]⟩, .int .u8 (c : Int)] W fun e w' => e = .returned (.int .i64 (Lib.indexByte barredL c.toUInt8)) ∧ W = w') := hiD fun W => by
    have:=z29 ⟨#[40,41,123,37,42,34,92]⟩ (c:Int) W
    rwa [Int.toNat_natCast] at this
   have hb:=z3a c hc;generalize Lib.indexByte barredL c.toUInt8=z at CI hb;have d1:(32:Int)<(c:Int):=by omega
   have d2:(c:Int)≤126:=by omega
   have HR:Hid (jh c=decide (z<0)):=hiD (by unfold jh;rw[decide_eq_decide];omega);clear hb h1 h2;go_enter Tryz.func313,Tryz.ntmps313
   go_wp2_with fail
   refine(CI.o _).mono ?_;rintro e w' ⟨rfl,rfl⟩;go_wp2_with fail
   go_ret;exact⟨by rw[HR.o]<;>rfl,rfl⟩
  ·have HR:Hid (jh c=false):=hiD (decide_eq_false (by omega))
   have d1:(32:Int)<(c:Int):=by omega
   have d2:¬ (c:Int)≤126:=by omega
   go_enter Tryz.func313,Tryz.ntmps313
   go_wp2_with fail
   go_ret;exact⟨by rw[HR.o]<;>rfl,rfl⟩
 ·have HR:Hid (jh c=false):=hiD (decide_eq_false (by omega))
  have d1:¬ (32:Int)<(c:Int):=by omega
  go_enter Tryz.func313,Tryz.ntmps313
  go_wp2_with fail
  go_ret;exact⟨by rw[HR.o]<;>rfl,rfl⟩
theorem z3m (s:ByteArray)(hs:s.size≤140737488355328)(w:World):Calls Tryz.prog 290 #[.string s] w fun e w'=>e=.returned (.bool (qd (nats s)))∧Below w.heap.size w w':=by
 have HN:=hiD (jn s);by_cases h40:40<s.size
 ·have HR:Hid (qd (nats s)=false):=hiD (z4j (by rw[jn];exact h40))
  have d1:(40:Int)<(s.size:Int):=by omega
  go_enter Tryz.func290,Tryz.ntmps290
  go_wp2_with fail
  go_ret;exact⟨by rw[HR.o]<;>rfl,Below.refl _ _⟩
 ·have d1:¬ (40:Int)<(s.size:Int):=by omega
  go_enter Tryz.func290,Tryz.ntmps290
  go_wp2_with fail
  go_loop [10] (fun i=>∃ k:Nat,k≤s.size∧i=.int .i64 (k:Int)∧∀ c∈(nats s).take k,jh c=true) (fun i=>s.size-(intOf i).toNat)
  case atStart=>exact⟨0,Nat.zero_le _,rfl,fun c h=>by simp at h⟩
  case round =>
   obtain⟨k,hk,rfl,hm⟩:=hrel;have HM:=hiD hm;clear hm;by_cases hlt:k<s.size
   ·have a0:(0:Int)≤(k:Int):=by omega
    have a1:(k:Int)<(s.size:Int):=by omega
    have HX:=hiD (zas s k hlt);have hxb:s[k].toNat<256:=s[k].toNat_lt;have HP:Hid (∀ W,Calls Tryz.prog 313 #[.int .u8 (s[k].toNat:Int)] W fun e w'=>e=.returned (.bool (jh s[k].toNat))∧W=w'):=hiD fun W=>z3l s[k].toNat hxb W;cases hp:jh s[k].toNat
    ·have HR:Hid (qd (nats s)=false):=hiD (z4k HX.o hp)
     rw[hp] at HP;clear hp;go_wp2_with fail
     refine(HP.o _).mono ?_;rintro e w' ⟨rfl,rfl⟩;go_wp2_with fail
     go_ret;exact⟨by rw[HR.o]<;>rfl,Below.refl _ _⟩
    ·have HS : Hid (∀ c ∈ (nats s).take (k + 1), jh c = true) := hiD (by
      rw[zbz _ _ _ HX.o];intro c hc;rcases List.mem_append.1 hc with h|h
      ·exact HM.o c h
      ·rw[List.mem_singleton.1 h];exact hp)
     rw[hp] at HP;clear hp;go_wp2_with fail
     refine(HP.o _).mono ?_;rintro e w' ⟨rfl,rfl⟩;go_wp2_with fail
     go_round
     case rel=>exact⟨k+1,by omega,by go_num,HS.o⟩
     case measure=>simp[intOf];omega
   ·have a1:¬ (k:Int)<(s.size:Int):=by omega
    have hall:∀ c∈nats s,jh c=true:=by
     have h:=HM.o
     rwa [List.take_of_length_le (by rw[HN.o];omega)] at h
    have hfm:=z4l (by rw[HN.o];omega:(nats s).length≤40) hall;have CS:=hiD (z3d s (by omega) 47 w);rw[show(47:UInt8).toNat=47 from rfl] at CS;have hlen:(zah 47 (nats s)).length≤41:=by rw[zrq];have:=List.count_le_length (a:=47) (l:=nats s);rw[HN.o] at this;omega
    have hlt256:∀ p∈zah 47 (nats s),∀ x∈p,x<256:=zz9 (zd1 s);generalize zah 47 (nats s)=l at CS hfm hlen hlt256;obtain⟨n,hn⟩:∃ n,l.length=n:=⟨_,rfl⟩;rw[hn] at CS hfm hlen;have HNL:=hiD hn;have HLT:=hiD hlt256;clear hn hlt256 hall;by_cases h4:n≤4
    ·have d2:(n:Int)≤4:=by omega
     have HR:Hid (qd (nats s)=!decide ([]∈l)):=hiD (by rw[hfm,decide_eq_true h4,Bool.true_and]);clear hfm;go_wp2_with fail
     refine CS.o.mono ?_;rintro e w1 ⟨rfl,hb,hst,hsz⟩;have HB:=hiD hb;have CC:=hiD (z3i w.heap.size 0 n n l ⟨#[]⟩ w1 HNL.o (fun _=>hst) HLT.o (by omega) (some ⟨w.heap.size,0,none⟩) (fun _=>rfl));clear hb hst hsz;go_wp2_with fail
     refine CC.o.mono ?_;rintro e w' ⟨rfl,rfl⟩;go_wp2_with fail
     go_ret;exact⟨by rw[HR.o]<;>rfl,HB.o⟩
    ·have d2:¬ (n:Int)≤4:=by omega
     have HR:Hid (qd (nats s)=false):=hiD (by rw[hfm,decide_eq_false h4,Bool.false_and]);clear hfm;go_wp2_with fail
     refine CS.o.mono ?_;rintro e w1 ⟨rfl,hb,hst,hsz⟩;have HB:=hiD hb;clear hb hst hsz;go_wp2_with fail
     go_ret;exact⟨by rw[HR.o]<;>rfl,HB.o⟩
theorem z3n {s p:ByteArray}(h:CutIs s p):zay (nats s)=zbx (nats p) inboxL:=by
 rcases h with ⟨rfl,h⟩|⟨q,h1,h2⟩
 ·exact z4o h
 ·exact z4p h1 h2
theorem z3o {s p:ByteArray}(h:CutIs s p):p.size≤s.size:=by
 rcases h with ⟨rfl,h⟩|⟨q,h1,h2⟩
 ·exact Nat.le_refl _
 ·have:=congrArg List.length h1
  rw[List.length_append,List.length_cons,jn,jn,jn] at this;omega
theorem z3p {l:List Nat}(h:zay l=true):5≤l.length:=by
 have:=congrArg List.length (of_decide_eq_true h).1;rw[List.length_map,List.length_take] at this;have h5:inboxL.length=5:=rfl;omega
theorem z3q (s:ByteArray)(hs:s.size≤140737488355328)(w:World):Calls Tryz.prog 238 #[.string s] w fun e w'=>e=.returned (.tuple #[.string (za (zu (nats s))),.int .i64 (jx (nats s))])∧Below w.heap.size w w':=by
 have HN:=hiD (jn s);have CF:Hid (∀ W,Calls Tryz.prog 290 #[.string s] W fun e w'=>e=.returned (.bool (qd (nats s)))∧Below W.heap.size W w'):=hiD fun W=>z3m s hs W;cases hf:qd (nats s)
 ·have HV:Hid (za (zu (nats s))=⟨#[]⟩):=hiD (by unfold zu;rw[hf,if_neg Bool.false_ne_true];rfl)
  have HE:Hid (jx (nats s)=3):=hiD (by unfold jx;rw[hf,if_neg Bool.false_ne_true]);rw[hf] at CF;clear hf;go_enter Tryz.func238,Tryz.ntmps238
  go_wp2_with fail
  refine(CF.o _).mono ?_;rintro e w1 ⟨rfl,hb⟩;have HB:=hiD hb;clear hb;go_wp2_with fail
  go_ret2;exact⟨by rw[HV.o,HE.o]<;>rfl,HB.o⟩
 ·have HE:Hid (jx (nats s)=0):=hiD (by unfold jx;rw[hf,if_pos rfl])
  have HF:=hiD hf;rw[hf] at CF;clear hf;have CC:Hid (∀ W,Calls Tryz.prog 291 #[.string s,.string ⟨#[47]⟩] W fun e w'=>∃ p q b,e=.returned (.tuple #[.string p,.string q,.bool b])∧CutIs s p∧∃ n,w'=W.drewN n):=hiD fun W=>z3g s hs W;go_enter Tryz.func238,Tryz.ntmps238
  go_wp2_with fail
  refine(CF.o _).mono ?_;rintro e w1 ⟨rfl,hb⟩;have HB:=hiD hb;clear hb CF;go_wp2_with fail
  refine(CC.o _).mono ?_;rintro e w2 ⟨p,q,b,rfl,hcut,n2,hw2⟩;have HB2:Hid (Below w.heap.size w w2):=hiD (by rw[hw2];exact qo HB.o n2);have HI:=hiD (z3n hcut);have hps:p.size≤140737488355328:=Nat.le_trans (z3o hcut) hs;have CS:Hid (∀ W,Calls Tryz.prog 292 #[.string p,.string ⟨#[73,78,66,79,88]⟩] W fun e w'=>e=.returned (.bool (zbx (nats p) inboxL))∧∃ n,w'=W.drewN n):=hiD fun W=>z3k p ⟨#[73,78,66,79,88]⟩ hps (by decide) W;rw[← HI.o] at CS;clear hcut hw2 CC;cases hi:zay (nats s)
  ·have HV:Hid (za (zu (nats s))=s):=hiD (qq HF.o hi)
   rw[hi] at CS;clear hi;go_wp2_with fail
   refine(CS.o _).mono ?_;rintro e w3 ⟨rfl,n3,hw3⟩;have HB3:Hid (Below w.heap.size w w3):=hiD (by rw[hw3];exact qo HB2.o n3);clear hw3;go_wp2_with fail
   go_ret2;exact⟨by rw[HV.o,HE.o]<;>rfl,HB3.o⟩
  ·have h5:5≤s.size:=by have:=z3p hi;rwa [HN.o] at this
   have h40:s.size≤40:=by have:=(of_decide_eq_true HF.o).2.1;rw[HN.o] at this;exact this
   have HV:Hid (zu (nats s)=inboxL++(nats s).drop 5):=hiD (by unfold zu zcm;rw[if_pos HF.o,if_pos hi])
   have ka:∀ W,(Op.stringOp .add ⟨#[73,78,66,79,88]⟩ (s.extract 5 s.size)).run Tryz.prog W=.ok (.string (za (inboxL++(nats s).drop 5))) W:=fun W=>zrx _ _ inboxL ((nats s).drop 5) zr2 (by
    refine zqm ?_;rw[zbw _ (fun x hx=>zd1 s x (List.mem_of_mem_drop hx)),zfk]
    exact List.take_of_length_le (by rw[List.length_drop,HN.o];omega)) (by rw[List.length_drop,HN.o];show 5+_≤_;omega) W
   have h5':(5:Int)≤(s.size:Int):=by omega
   rw[hi] at CS;clear hi;go_wp2_with fail
   refine(CS.o _).mono ?_;rintro e w3 ⟨rfl,n3,hw3⟩;have HB3:Hid (Below w.heap.size w w3):=hiD (by rw[hw3];exact qo HB2.o n3);clear hw3;go_wp2_with fail
   go_ret2;exact⟨by rw[HV.o,HE.o]<;>rfl,HB3.o⟩
theorem zfq (s:ByteArray)(hs:s.size≤140737488355328)(w:World):Calls Tryz.prog 163 #[.string s] w fun e w'=>e=.returned (.bool (js (nats s)))∧Below w.heap.size w w':=by
 have CC:Hid (∀ W,Calls Tryz.prog 238 #[.string s] W fun e w'=>e=.returned (.tuple #[.string (za (zu (nats s))),.int .i64 (jx (nats s))])∧Below W.heap.size W w'):=hiD fun W=>z3q s hs W;cases hf:qd (nats s)
 ·have HR:Hid (js (nats s)=false):=hiD (zqu hf)
  have he:jx (nats s)=3:=by unfold jx;rw[hf,if_neg Bool.false_ne_true]
  rw[he] at CC;clear hf he;go_enter Tryz.func163,Tryz.ntmps163
  go_wp2_with fail
  refine(CC.o _).mono ?_;rintro e w1 ⟨rfl,hb⟩;have HB:=hiD hb;clear hb;go_wp2_with fail
  go_ret;exact⟨by rw[HR.o]<;>rfl,HB.o⟩
 ·have he:jx (nats s)=0:=by unfold jx;rw[hf,if_pos rfl]
  rw[he] at CC;by_cases hq:za (zu (nats s))=s
  ·have HR:Hid (js (nats s)=true):=hiD ((zio hf).trans (decide_eq_true hq))
   rw[hq] at CC;have hss:(s.toList == s.toList)=true:=by simp
   clear hf he hq;go_enter Tryz.func163,Tryz.ntmps163
   go_wp2_with fail
   refine(CC.o _).mono ?_;rintro e w1 ⟨rfl,hb⟩;have HB:=hiD hb;clear hb;go_wp2_with fail
   go_ret;exact⟨by rw[HR.o]<;>rfl,HB.o⟩
  ·have HR:Hid (js (nats s)=false):=hiD ((zio hf).trans (decide_eq_false hq))
   have hss:((za (zu (nats s))).toList == s.toList)=false:=by
    rw[beq_eq_false_iff_ne];intro e;rw[ByteArray.toList_eq,ByteArray.toList_eq] at e;exact hq (zc8 e)
   obtain⟨t,ht⟩:∃ t,za (zu (nats s))=t:=⟨_,rfl⟩;rw[ht] at CC hss;clear hf he hq ht;go_enter Tryz.func163,Tryz.ntmps163
   go_wp2_with fail
   refine(CC.o _).mono ?_;rintro e w1 ⟨rfl,hb⟩;have HB:=hiD hb;clear hb;go_wp2_with fail
   go_ret;exact⟨by rw[HR.o]<;>rfl,HB.o⟩
structure Eh where
 e:Ev
 A1:Option Addr
 n1:Nat
 c1:Nat
 A2:Option Addr
 n2:Nat
 c2:Nat
 A3:Option Addr
 n3:Nat
 c3:Nat
def evC (h:Eh):Array Value:=#[.int .i64 h.e.kind,.int .i64 h.e.at_,.string h.e.box,.string h.e.to_,.slice h.A1 h.n1 h.c1,.slice h.A2 h.n2 h.c2,.int .i64 h.e.mode,.int .i64 h.e.flags,.int .i64 h.e.date,.int .i64 h.e.n,.slice h.A3 h.n3 h.c3]
theorem zd (h:Eh):(evC h).size=11:=rfl
theorem zw (h:Eh):∀ v∈(evC h).toList,v.oneCell'=true:=by
 intro v hv;simp only[evC,List.mem_cons,List.not_mem_nil,or_false] at hv;rcases hv with rfl|rfl|rfl|rfl|rfl|rfl|rfl|rfl|rfl|rfl|rfl<;>rfl
def ze (k t:Int):Eh:=⟨bare k t,none,0,0,none,0,0,none,0,0⟩
def EvIn (w:World)(B:Nat)(h:Eh):Prop :=
 Col ints w B h.A1 h.n1 h.e.ids∧ColK 2 rgC w B h.A2 h.n2 h.e.set∧Bytes w B h.A3 h.n3 h.e.body∧h.n1≤140737488355328∧h.n2≤140737488355328∧h.n3≤140737488355328∧h.e.box.size≤140737488355328∧h.e.to_.size≤140737488355328
theorem EvIn.below {w w':World}{B B':Nat}{h:Eh}(H:EvIn w B h)(hb:Below B' w w')(hB:B≤B'):EvIn w' B h:=⟨H.1.below hb hB,H.2.1.below hb hB,H.2.2.1.below hb hB,H.2.2.2⟩
theorem EvIn.more {w:World}{B B':Nat}{h:Eh}(H:EvIn w B h)(hB:B≤B'):EvIn w B' h:=⟨H.1.more hB,H.2.1.more hB,H.2.2.1.more hB,H.2.2.2⟩
theorem EvIn.later {w w':World}{h:Eh}(H:EvIn w w.heap.size h)(hb:Below w.heap.size w w'):EvIn w' w'.heap.size h:=(H.below hb (Nat.le_refl _)).more hb.size
theorem EvIn.bare (w:World)(B:Nat)(k t:Int):EvIn w B (ze k t):=⟨Col.nil,ColK.nil,Bytes.nil,Nat.zero_le _,Nat.zero_le _,Nat.zero_le _,Nat.zero_le _,Nat.zero_le _⟩
theorem EvIn.drewN {w:World}{B:Nat}{h:Eh}(H:EvIn w B h)(q:Nat):EvIn (w.drewN q) B h:=H
def outH (h:Eh)(c:Nat):Eh :=
 if c=98 then { h with e:=outP h.e c } else if c=116 then { h with e:=outP h.e c } else if c=105 then { h with e:=outP h.e c,A1:=none,n1:=0,c1:=0 } else if c=115 then { h with e:=outP h.e c,A2:=none,n2:=0,c2:=0 } else
 if c=121 then { h with e:=outP h.e c,A3:=none,n3:=0,c3:=0 } else { h with e:=outP h.e c }
theorem z3r (h:Eh)(c:Nat):(outH h c).e=outP h.e c:=by
 unfold outH
 repeat (first|rfl|split)
theorem EvIn.out {w:World}{B:Nat}{h:Eh}(H:EvIn w B h){c:Nat}(hc:c∈nineL):EvIn w B (outH h c):=by
 obtain⟨h1,h2,h3,h4,h5,h6,h7,h8⟩:=H;rcases zgm hc with rfl|rfl|rfl|rfl|rfl|rfl|rfl|rfl|rfl
 ·exact⟨h1,h2,h3,h4,h5,h6,Nat.zero_le _,h8⟩
 ·exact⟨h1,h2,h3,h4,h5,h6,h7,Nat.zero_le _⟩
 ·exact⟨Col.nil,h2,h3,Nat.zero_le _,h5,h6,h7,h8⟩
 ·exact⟨h1,ColK.nil,h3,h4,Nat.zero_le _,h6,h7,h8⟩
 ·exact⟨h1,h2,h3,h4,h5,h6,h7,h8⟩
 ·exact⟨h1,h2,h3,h4,h5,h6,h7,h8⟩
 ·exact⟨h1,h2,h3,h4,h5,h6,h7,h8⟩
 ·exact⟨h1,h2,h3,h4,h5,h6,h7,h8⟩
 ·exact⟨h1,h2,Bytes.nil,h4,h5,Nat.zero_le _,h7,h8⟩
theorem zr:(Tryz.prog.info? 50).map (·.size)=some 11:=by kernel_rfl
theorem Bk.ev {w:World}{b:Nat}{h:Eh}(H:Bk w b 50 (evC h)):(loadVar 50 ⟨b,0,none⟩).run Tryz.prog w=.ok (.agg (evC h)) w:=H.load Tryz.underlying50 rfl (by kernel_rfl)
theorem Bk.evs {w:World}{b:Nat}{v0 v1 v2 v3 v4 v5 v6 v7 v8 v9 v10:Value}{t:TypeId}(h:Bk w b t #[v0,v1,v2,v3,v4,v5,v6,v7,v8,v9,v10]) :
 (w.cell? ⟨b,0,none⟩=some v0∧w.cell? ⟨b,1,none⟩=some v1∧w.cell? ⟨b,2,none⟩=some v2∧w.cell? ⟨b,3,none⟩=some v3∧w.cell? ⟨b,4,none⟩=some v4∧w.cell? ⟨b,5,none⟩=some v5) ∧
 (w.cell? ⟨b,6,none⟩=some v6∧w.cell? ⟨b,7,none⟩=some v7∧w.cell? ⟨b,8,none⟩=some v8∧w.cell? ⟨b,9,none⟩=some v9∧w.cell? ⟨b,10,none⟩=some v10) :=
 ⟨⟨h.cell 0,h.cell 1,h.cell 2,h.cell 3,h.cell 4,h.cell 5⟩,h.cell 6,h.cell 7,h.cell 8,h.cell 9,h.cell 10⟩
theorem qk {P:Program}{ops:Array Oper}{l:List Oper}{a:Act}{W:World}{Q:Exit→Act→World→Prop}(G:World→Prop)(hG:G W)(h:∀ W',G W'→wpList P ops Q l a W'):wpList P ops Q l a W:=h W hG
theorem qa {w w':World}{g:Nat}{cur cells:Array Value}(h:Hid (w'=w.setRow g (splice cur.toList 0 cells.toList).toArray))(hs:cells.size=cur.size):w'=w.setRow g cells:=by
 rw[h.out,zhv (by simpa using hs),Array.toArray_toList]
def OutIs (h:Eh)(c:Nat)(w:World)(e:Ending)(w':World):Prop:=e=.returned (.agg (evC (outH h c)))∧Below w.heap.size w w'
theorem z3s (h:Eh)(w:World):Calls Tryz.prog 109 #[.agg (evC h),.int .i32 98] w (OutIs h 98 w):=by
 obtain⟨⟨k,t,bx,tO,ids,st,md,fl,dt,nn,bd⟩,A1,n1,c1,A2,n2,c2,A3,n3,c3⟩:=h;obtain⟨H,hH⟩:∃ H:Eh,outH ⟨⟨k,t,bx,tO,ids,st,md,fl,dt,nn,bd⟩,A1,n1,c1,A2,n2,c2,A3,n3,c3⟩ 98=H:=⟨_,rfl⟩;have b1:Bk ((w.alloc (.cells (evC H) 50)).alloc (.cells (evC (ze 0 0)) 50)) w.heap.size 50 (evC H):=(Bk.new _ _ _).alloc _;have b2:Bk ((w.alloc (.cells (evC H) 50)).alloc (.cells (evC (ze 0 0)) 50)) (w.heap.size+1) 50 (evC (ze 0 0)):=Bk.new2 _ _ _ _;have hB:Below w.heap.size w ((w.alloc (.cells (evC H) 50)).alloc (.cells (evC (ze 0 0)) 50)):=((Below.refl _ _).alloc (Nat.le_refl _) _).alloc (by simp) _;have B1:=hiD b1;have B2:=hiD b2;have HB:=hiD hB;have HH:=hiD hH;clear b1 b2 hB hH
 show Calls Tryz.prog 109 #[.agg #[.int .i64 k,.int .i64 t,.string bx,.string tO,.slice A1 n1 c1,.slice A2 n2 c2,.int .i64 md,.int .i64 fl,.int .i64 dt,.int .i64 nn,.slice A3 n3 c3],.int .i32 98] w _
 go_enter Tryz.func109,Tryz.ntmps109
 go_wp2_with (with_reducible refine stn 33 ?_)
 refine qk (fun W=>Bk W w.heap.size 50 (evC H)∧Bk W (w.heap.size+1) 50 (evC (ze 0 0))∧Below w.heap.size w W) (by rw[← HH.o] at B1 B2 HB ⊢;exact⟨B1.o,B2.o,HB.o⟩) ?_;rintro W ⟨q1,q2,q3⟩;have Q1:=hiD q1;have Q2:=hiD q2;have Q3:=hiD q3;clear q1 q2 q3 B1 B2 HB;refine held (wpList_load_mid rfl 50 (.tmp 2) rfl w.heap.size 0 rfl _ _ Q1.o.range Tryz.underlying50 rfl (by kernel_rfl) ?_);refine zi rfl 50 (.tmp 4) (.tmp 33) rfl (w.heap.size+1) 0 (evC H) rfl rfl 50 _ Q2.o (by rw[zd,zd];decide) (by rw[zd];exact zr) (zw _) ?_;intro w' hw';obtain rfl:=qa hw' (by rw[zd,zd]);go_wp2_with fail
 refine bodyPost_ret (qi (a:=⟨w.heap.size+1,0,none⟩) rfl rfl (Bk.ev (Bk.setRow_same Q2.o _))) rfl ⟨by rw[HH.o],below_setRow Q3.o (by omega) _⟩
theorem z3t (h:Eh)(w:World):Calls Tryz.prog 109 #[.agg (evC h),.int .i32 116] w (OutIs h 116 w):=by
 obtain⟨⟨k,t,bx,tO,ids,st,md,fl,dt,nn,bd⟩,A1,n1,c1,A2,n2,c2,A3,n3,c3⟩:=h;obtain⟨H,hH⟩:∃ H:Eh,outH ⟨⟨k,t,bx,tO,ids,st,md,fl,dt,nn,bd⟩,A1,n1,c1,A2,n2,c2,A3,n3,c3⟩ 116=H:=⟨_,rfl⟩;have b1:Bk ((w.alloc (.cells (evC H) 50)).alloc (.cells (evC (ze 0 0)) 50)) w.heap.size 50 (evC H):=(Bk.new _ _ _).alloc _;have b2:Bk ((w.alloc (.cells (evC H) 50)).alloc (.cells (evC (ze 0 0)) 50)) (w.heap.size+1) 50 (evC (ze 0 0)):=Bk.new2 _ _ _ _;have hB:Below w.heap.size w ((w.alloc (.cells (evC H) 50)).alloc (.cells (evC (ze 0 0)) 50)):=((Below.refl _ _).alloc (Nat.le_refl _) _).alloc (by simp) _;have B1:=hiD b1;have B2:=hiD b2;have HB:=hiD hB;have HH:=hiD hH;clear b1 b2 hB hH
 show Calls Tryz.prog 109 #[.agg #[.int .i64 k,.int .i64 t,.string bx,.string tO,.slice A1 n1 c1,.slice A2 n2 c2,.int .i64 md,.int .i64 fl,.int .i64 dt,.int .i64 nn,.slice A3 n3 c3],.int .i32 116] w _
 go_enter Tryz.func109,Tryz.ntmps109
 go_wp2_with (with_reducible refine stn 33 ?_)
 refine qk (fun W=>Bk W w.heap.size 50 (evC H)∧Bk W (w.heap.size+1) 50 (evC (ze 0 0))∧Below w.heap.size w W) (by rw[← HH.o] at B1 B2 HB ⊢;exact⟨B1.o,B2.o,HB.o⟩) ?_;rintro W ⟨q1,q2,q3⟩;have Q1:=hiD q1;have Q2:=hiD q2;have Q3:=hiD q3;clear q1 q2 q3 B1 B2 HB;refine held (wpList_load_mid rfl 50 (.tmp 2) rfl w.heap.size 0 rfl _ _ Q1.o.range Tryz.underlying50 rfl (by kernel_rfl) ?_);refine zi rfl 50 (.tmp 4) (.tmp 33) rfl (w.heap.size+1) 0 (evC H) rfl rfl 50 _ Q2.o (by rw[zd,zd];decide) (by rw[zd];exact zr) (zw _) ?_;intro w' hw';obtain rfl:=qa hw' (by rw[zd,zd]);go_wp2_with fail
 refine bodyPost_ret (qi (a:=⟨w.heap.size+1,0,none⟩) rfl rfl (Bk.ev (Bk.setRow_same Q2.o _))) rfl ⟨by rw[HH.o],below_setRow Q3.o (by omega) _⟩
theorem z3u (h:Eh)(w:World):Calls Tryz.prog 109 #[.agg (evC h),.int .i32 105] w (OutIs h 105 w):=by
 obtain⟨⟨k,t,bx,tO,ids,st,md,fl,dt,nn,bd⟩,A1,n1,c1,A2,n2,c2,A3,n3,c3⟩:=h;obtain⟨H,hH⟩:∃ H:Eh,outH ⟨⟨k,t,bx,tO,ids,st,md,fl,dt,nn,bd⟩,A1,n1,c1,A2,n2,c2,A3,n3,c3⟩ 105=H:=⟨_,rfl⟩;have b1:Bk ((w.alloc (.cells (evC H) 50)).alloc (.cells (evC (ze 0 0)) 50)) w.heap.size 50 (evC H):=(Bk.new _ _ _).alloc _;have b2:Bk ((w.alloc (.cells (evC H) 50)).alloc (.cells (evC (ze 0 0)) 50)) (w.heap.size+1) 50 (evC (ze 0 0)):=Bk.new2 _ _ _ _;have hB:Below w.heap.size w ((w.alloc (.cells (evC H) 50)).alloc (.cells (evC (ze 0 0)) 50)):=((Below.refl _ _).alloc (Nat.le_refl _) _).alloc (by simp) _;have B1:=hiD b1;have B2:=hiD b2;have HB:=hiD hB;have HH:=hiD hH;clear b1 b2 hB hH
 show Calls Tryz.prog 109 #[.agg #[.int .i64 k,.int .i64 t,.string bx,.string tO,.slice A1 n1 c1,.slice A2 n2 c2,.int .i64 md,.int .i64 fl,.int .i64 dt,.int .i64 nn,.slice A3 n3 c3],.int .i32 105] w _
 go_enter Tryz.func109,Tryz.ntmps109
 go_wp2_with (with_reducible refine stn 33 ?_)
 refine qk (fun W=>Bk W w.heap.size 50 (evC H)∧Bk W (w.heap.size+1) 50 (evC (ze 0 0))∧Below w.heap.size w W) (by rw[← HH.o] at B1 B2 HB ⊢;exact⟨B1.o,B2.o,HB.o⟩) ?_;rintro W ⟨q1,q2,q3⟩;have Q1:=hiD q1;have Q2:=hiD q2;have Q3:=hiD q3;clear q1 q2 q3 B1 B2 HB;refine held (wpList_load_mid rfl 50 (.tmp 2) rfl w.heap.size 0 rfl _ _ Q1.o.range Tryz.underlying50 rfl (by kernel_rfl) ?_);refine zi rfl 50 (.tmp 4) (.tmp 33) rfl (w.heap.size+1) 0 (evC H) rfl rfl 50 _ Q2.o (by rw[zd,zd];decide) (by rw[zd];exact zr) (zw _) ?_;intro w' hw';obtain rfl:=qa hw' (by rw[zd,zd]);go_wp2_with fail
 refine bodyPost_ret (qi (a:=⟨w.heap.size+1,0,none⟩) rfl rfl (Bk.ev (Bk.setRow_same Q2.o _))) rfl ⟨by rw[HH.o],below_setRow Q3.o (by omega) _⟩
theorem z3v (h:Eh)(w:World):Calls Tryz.prog 109 #[.agg (evC h),.int .i32 115] w (OutIs h 115 w):=by
 obtain⟨⟨k,t,bx,tO,ids,st,md,fl,dt,nn,bd⟩,A1,n1,c1,A2,n2,c2,A3,n3,c3⟩:=h;obtain⟨H,hH⟩:∃ H:Eh,outH ⟨⟨k,t,bx,tO,ids,st,md,fl,dt,nn,bd⟩,A1,n1,c1,A2,n2,c2,A3,n3,c3⟩ 115=H:=⟨_,rfl⟩;have b1:Bk ((w.alloc (.cells (evC H) 50)).alloc (.cells (evC (ze 0 0)) 50)) w.heap.size 50 (evC H):=(Bk.new _ _ _).alloc _;have b2:Bk ((w.alloc (.cells (evC H) 50)).alloc (.cells (evC (ze 0 0)) 50)) (w.heap.size+1) 50 (evC (ze 0 0)):=Bk.new2 _ _ _ _;have hB:Below w.heap.size w ((w.alloc (.cells (evC H) 50)).alloc (.cells (evC (ze 0 0)) 50)):=((Below.refl _ _).alloc (Nat.le_refl _) _).alloc (by simp) _;have B1:=hiD b1;have B2:=hiD b2;have HB:=hiD hB;have HH:=hiD hH;clear b1 b2 hB hH
 show Calls Tryz.prog 109 #[.agg #[.int .i64 k,.int .i64 t,.string bx,.string tO,.slice A1 n1 c1,.slice A2 n2 c2,.int .i64 md,.int .i64 fl,.int .i64 dt,.int .i64 nn,.slice A3 n3 c3],.int .i32 115] w _
 go_enter Tryz.func109,Tryz.ntmps109
 go_wp2_with (with_reducible refine stn 33 ?_)
 refine qk (fun W=>Bk W w.heap.size 50 (evC H)∧Bk W (w.heap.size+1) 50 (evC (ze 0 0))∧Below w.heap.size w W) (by rw[← HH.o] at B1 B2 HB ⊢;exact⟨B1.o,B2.o,HB.o⟩) ?_;rintro W ⟨q1,q2,q3⟩;have Q1:=hiD q1;have Q2:=hiD q2;have Q3:=hiD q3;clear q1 q2 q3 B1 B2 HB;refine held (wpList_load_mid rfl 50 (.tmp 2) rfl w.heap.size 0 rfl _ _ Q1.o.range Tryz.underlying50 rfl (by kernel_rfl) ?_);refine zi rfl 50 (.tmp 4) (.tmp 33) rfl (w.heap.size+1) 0 (evC H) rfl rfl 50 _ Q2.o (by rw[zd,zd];decide) (by rw[zd];exact zr) (zw _) ?_;intro w' hw';obtain rfl:=qa hw' (by rw[zd,zd]);go_wp2_with fail
 refine bodyPost_ret (qi (a:=⟨w.heap.size+1,0,none⟩) rfl rfl (Bk.ev (Bk.setRow_same Q2.o _))) rfl ⟨by rw[HH.o],below_setRow Q3.o (by omega) _⟩
theorem z3w (h:Eh)(w:World):Calls Tryz.prog 109 #[.agg (evC h),.int .i32 109] w (OutIs h 109 w):=by
 obtain⟨⟨k,t,bx,tO,ids,st,md,fl,dt,nn,bd⟩,A1,n1,c1,A2,n2,c2,A3,n3,c3⟩:=h;obtain⟨H,hH⟩:∃ H:Eh,outH ⟨⟨k,t,bx,tO,ids,st,md,fl,dt,nn,bd⟩,A1,n1,c1,A2,n2,c2,A3,n3,c3⟩ 109=H:=⟨_,rfl⟩;have b1:Bk ((w.alloc (.cells (evC H) 50)).alloc (.cells (evC (ze 0 0)) 50)) w.heap.size 50 (evC H):=(Bk.new _ _ _).alloc _;have b2:Bk ((w.alloc (.cells (evC H) 50)).alloc (.cells (evC (ze 0 0)) 50)) (w.heap.size+1) 50 (evC (ze 0 0)):=Bk.new2 _ _ _ _;have hB:Below w.heap.size w ((w.alloc (.cells (evC H) 50)).alloc (.cells (evC (ze 0 0)) 50)):=((Below.refl _ _).alloc (Nat.le_refl _) _).alloc (by simp) _;have B1:=hiD b1;have B2:=hiD b2;have HB:=hiD hB;have HH:=hiD hH;clear b1 b2 hB hH
 show Calls Tryz.prog 109 #[.agg #[.int .i64 k,.int .i64 t,.string bx,.string tO,.slice A1 n1 c1,.slice A2 n2 c2,.int .i64 md,.int .i64 fl,.int .i64 dt,.int .i64 nn,.slice A3 n3 c3],.int .i32 109] w _
 go_enter Tryz.func109,Tryz.ntmps109
 go_wp2_with (with_reducible refine stn 33 ?_)
 refine qk (fun W=>Bk W w.heap.size 50 (evC H)∧Bk W (w.heap.size+1) 50 (evC (ze 0 0))∧Below w.heap.size w W) (by rw[← HH.o] at B1 B2 HB ⊢;exact⟨B1.o,B2.o,HB.o⟩) ?_;rintro W ⟨q1,q2,q3⟩;have Q1:=hiD q1;have Q2:=hiD q2;have Q3:=hiD q3;clear q1 q2 q3 B1 B2 HB;refine held (wpList_load_mid rfl 50 (.tmp 2) rfl w.heap.size 0 rfl _ _ Q1.o.range Tryz.underlying50 rfl (by kernel_rfl) ?_);refine zi rfl 50 (.tmp 4) (.tmp 33) rfl (w.heap.size+1) 0 (evC H) rfl rfl 50 _ Q2.o (by rw[zd,zd];decide) (by rw[zd];exact zr) (zw _) ?_;intro w' hw';obtain rfl:=qa hw' (by rw[zd,zd]);go_wp2_with fail
 refine bodyPost_ret (qi (a:=⟨w.heap.size+1,0,none⟩) rfl rfl (Bk.ev (Bk.setRow_same Q2.o _))) rfl ⟨by rw[HH.o],below_setRow Q3.o (by omega) _⟩
theorem z3x (h:Eh)(w:World):Calls Tryz.prog 109 #[.agg (evC h),.int .i32 102] w (OutIs h 102 w):=by
 obtain⟨⟨k,t,bx,tO,ids,st,md,fl,dt,nn,bd⟩,A1,n1,c1,A2,n2,c2,A3,n3,c3⟩:=h;obtain⟨H,hH⟩:∃ H:Eh,outH ⟨⟨k,t,bx,tO,ids,st,md,fl,dt,nn,bd⟩,A1,n1,c1,A2,n2,c2,A3,n3,c3⟩ 102=H:=⟨_,rfl⟩;have b1:Bk ((w.alloc (.cells (evC H) 50)).alloc (.cells (evC (ze 0 0)) 50)) w.heap.size 50 (evC H):=(Bk.new _ _ _).alloc _;have b2:Bk ((w.alloc (.cells (evC H) 50)).alloc (.cells (evC (ze 0 0)) 50)) (w.heap.size+1) 50 (evC (ze 0 0)):=Bk.new2 _ _ _ _;have hB:Below w.heap.size w ((w.alloc (.cells (evC H) 50)).alloc (.cells (evC (ze 0 0)) 50)):=((Below.refl _ _).alloc (Nat.le_refl _) _).alloc (by simp) _;have B1:=hiD b1;have B2:=hiD b2;have HB:=hiD hB;have HH:=hiD hH;clear b1 b2 hB hH
 show Calls Tryz.prog 109 #[.agg #[.int .i64 k,.int .i64 t,.string bx,.string tO,.slice A1 n1 c1,.slice A2 n2 c2,.int .i64 md,.int .i64 fl,.int .i64 dt,.int .i64 nn,.slice A3 n3 c3],.int .i32 102] w _
 go_enter Tryz.func109,Tryz.ntmps109
 go_wp2_with (with_reducible refine stn 33 ?_)
 refine qk (fun W=>Bk W w.heap.size 50 (evC H)∧Bk W (w.heap.size+1) 50 (evC (ze 0 0))∧Below w.heap.size w W) (by rw[← HH.o] at B1 B2 HB ⊢;exact⟨B1.o,B2.o,HB.o⟩) ?_;rintro W ⟨q1,q2,q3⟩;have Q1:=hiD q1;have Q2:=hiD q2;have Q3:=hiD q3;clear q1 q2 q3 B1 B2 HB;refine held (wpList_load_mid rfl 50 (.tmp 2) rfl w.heap.size 0 rfl _ _ Q1.o.range Tryz.underlying50 rfl (by kernel_rfl) ?_);refine zi rfl 50 (.tmp 4) (.tmp 33) rfl (w.heap.size+1) 0 (evC H) rfl rfl 50 _ Q2.o (by rw[zd,zd];decide) (by rw[zd];exact zr) (zw _) ?_;intro w' hw';obtain rfl:=qa hw' (by rw[zd,zd]);go_wp2_with fail
 refine bodyPost_ret (qi (a:=⟨w.heap.size+1,0,none⟩) rfl rfl (Bk.ev (Bk.setRow_same Q2.o _))) rfl ⟨by rw[HH.o],below_setRow Q3.o (by omega) _⟩
theorem z3y (h:Eh)(w:World):Calls Tryz.prog 109 #[.agg (evC h),.int .i32 100] w (OutIs h 100 w):=by
 obtain⟨⟨k,t,bx,tO,ids,st,md,fl,dt,nn,bd⟩,A1,n1,c1,A2,n2,c2,A3,n3,c3⟩:=h;obtain⟨H,hH⟩:∃ H:Eh,outH ⟨⟨k,t,bx,tO,ids,st,md,fl,dt,nn,bd⟩,A1,n1,c1,A2,n2,c2,A3,n3,c3⟩ 100=H:=⟨_,rfl⟩;have b1:Bk ((w.alloc (.cells (evC H) 50)).alloc (.cells (evC (ze 0 0)) 50)) w.heap.size 50 (evC H):=(Bk.new _ _ _).alloc _;have b2:Bk ((w.alloc (.cells (evC H) 50)).alloc (.cells (evC (ze 0 0)) 50)) (w.heap.size+1) 50 (evC (ze 0 0)):=Bk.new2 _ _ _ _;have hB:Below w.heap.size w ((w.alloc (.cells (evC H) 50)).alloc (.cells (evC (ze 0 0)) 50)):=((Below.refl _ _).alloc (Nat.le_refl _) _).alloc (by simp) _;have B1:=hiD b1;have B2:=hiD b2;have HB:=hiD hB;have HH:=hiD hH;clear b1 b2 hB hH
 show Calls Tryz.prog 109 #[.agg #[.int .i64 k,.int .i64 t,.string bx,.string tO,.slice A1 n1 c1,.slice A2 n2 c2,.int .i64 md,.int .i64 fl,.int .i64 dt,.int .i64 nn,.slice A3 n3 c3],.int .i32 100] w _
 go_enter Tryz.func109,Tryz.ntmps109
 go_wp2_with (with_reducible refine stn 33 ?_)
 refine qk (fun W=>Bk W w.heap.size 50 (evC H)∧Bk W (w.heap.size+1) 50 (evC (ze 0 0))∧Below w.heap.size w W) (by rw[← HH.o] at B1 B2 HB ⊢;exact⟨B1.o,B2.o,HB.o⟩) ?_;rintro W ⟨q1,q2,q3⟩;have Q1:=hiD q1;have Q2:=hiD q2;have Q3:=hiD q3;clear q1 q2 q3 B1 B2 HB;refine held (wpList_load_mid rfl 50 (.tmp 2) rfl w.heap.size 0 rfl _ _ Q1.o.range Tryz.underlying50 rfl (by kernel_rfl) ?_);refine zi rfl 50 (.tmp 4) (.tmp 33) rfl (w.heap.size+1) 0 (evC H) rfl rfl 50 _ Q2.o (by rw[zd,zd];decide) (by rw[zd];exact zr) (zw _) ?_;intro w' hw';obtain rfl:=qa hw' (by rw[zd,zd]);go_wp2_with fail
 refine bodyPost_ret (qi (a:=⟨w.heap.size+1,0,none⟩) rfl rfl (Bk.ev (Bk.setRow_same Q2.o _))) rfl ⟨by rw[HH.o],below_setRow Q3.o (by omega) _⟩
theorem z3z (h:Eh)(w:World):Calls Tryz.prog 109 #[.agg (evC h),.int .i32 110] w (OutIs h 110 w):=by
 obtain⟨⟨k,t,bx,tO,ids,st,md,fl,dt,nn,bd⟩,A1,n1,c1,A2,n2,c2,A3,n3,c3⟩:=h;obtain⟨H,hH⟩:∃ H:Eh,outH ⟨⟨k,t,bx,tO,ids,st,md,fl,dt,nn,bd⟩,A1,n1,c1,A2,n2,c2,A3,n3,c3⟩ 110=H:=⟨_,rfl⟩;have b1:Bk ((w.alloc (.cells (evC H) 50)).alloc (.cells (evC (ze 0 0)) 50)) w.heap.size 50 (evC H):=(Bk.new _ _ _).alloc _;have b2:Bk ((w.alloc (.cells (evC H) 50)).alloc (.cells (evC (ze 0 0)) 50)) (w.heap.size+1) 50 (evC (ze 0 0)):=Bk.new2 _ _ _ _;have hB:Below w.heap.size w ((w.alloc (.cells (evC H) 50)).alloc (.cells (evC (ze 0 0)) 50)):=((Below.refl _ _).alloc (Nat.le_refl _) _).alloc (by simp) _;have B1:=hiD b1;have B2:=hiD b2;have HB:=hiD hB;have HH:=hiD hH;clear b1 b2 hB hH
 show Calls Tryz.prog 109 #[.agg #[.int .i64 k,.int .i64 t,.string bx,.string tO,.slice A1 n1 c1,.slice A2 n2 c2,.int .i64 md,.int .i64 fl,.int .i64 dt,.int .i64 nn,.slice A3 n3 c3],.int .i32 110] w _
 go_enter Tryz.func109,Tryz.ntmps109
 go_wp2_with (with_reducible refine stn 33 ?_)
 refine qk (fun W=>Bk W w.heap.size 50 (evC H)∧Bk W (w.heap.size+1) 50 (evC (ze 0 0))∧Below w.heap.size w W) (by rw[← HH.o] at B1 B2 HB ⊢;exact⟨B1.o,B2.o,HB.o⟩) ?_;rintro W ⟨q1,q2,q3⟩;have Q1:=hiD q1;have Q2:=hiD q2;have Q3:=hiD q3;clear q1 q2 q3 B1 B2 HB;refine held (wpList_load_mid rfl 50 (.tmp 2) rfl w.heap.size 0 rfl _ _ Q1.o.range Tryz.underlying50 rfl (by kernel_rfl) ?_);refine zi rfl 50 (.tmp 4) (.tmp 33) rfl (w.heap.size+1) 0 (evC H) rfl rfl 50 _ Q2.o (by rw[zd,zd];decide) (by rw[zd];exact zr) (zw _) ?_;intro w' hw';obtain rfl:=qa hw' (by rw[zd,zd]);go_wp2_with fail
 refine bodyPost_ret (qi (a:=⟨w.heap.size+1,0,none⟩) rfl rfl (Bk.ev (Bk.setRow_same Q2.o _))) rfl ⟨by rw[HH.o],below_setRow Q3.o (by omega) _⟩
theorem z30 (h:Eh)(w:World):Calls Tryz.prog 109 #[.agg (evC h),.int .i32 121] w (OutIs h 121 w):=by
 obtain⟨⟨k,t,bx,tO,ids,st,md,fl,dt,nn,bd⟩,A1,n1,c1,A2,n2,c2,A3,n3,c3⟩:=h;obtain⟨H,hH⟩:∃ H:Eh,outH ⟨⟨k,t,bx,tO,ids,st,md,fl,dt,nn,bd⟩,A1,n1,c1,A2,n2,c2,A3,n3,c3⟩ 121=H:=⟨_,rfl⟩;have b1:Bk ((w.alloc (.cells (evC H) 50)).alloc (.cells (evC (ze 0 0)) 50)) w.heap.size 50 (evC H):=(Bk.new _ _ _).alloc _;have b2:Bk ((w.alloc (.cells (evC H) 50)).alloc (.cells (evC (ze 0 0)) 50)) (w.heap.size+1) 50 (evC (ze 0 0)):=Bk.new2 _ _ _ _;have hB:Below w.heap.size w ((w.alloc (.cells (evC H) 50)).alloc (.cells (evC (ze 0 0)) 50)):=((Below.refl _ _).alloc (Nat.le_refl _) _).alloc (by simp) _;have B1:=hiD b1;have B2:=hiD b2;have HB:=hiD hB;have HH:=hiD hH;clear b1 b2 hB hH
 show Calls Tryz.prog 109 #[.agg #[.int .i64 k,.int .i64 t,.string bx,.string tO,.slice A1 n1 c1,.slice A2 n2 c2,.int .i64 md,.int .i64 fl,.int .i64 dt,.int .i64 nn,.slice A3 n3 c3],.int .i32 121] w _
 go_enter Tryz.func109,Tryz.ntmps109
 go_wp2_with (with_reducible refine stn 33 ?_)
 refine qk (fun W=>Bk W w.heap.size 50 (evC H)∧Bk W (w.heap.size+1) 50 (evC (ze 0 0))∧Below w.heap.size w W) (by rw[← HH.o] at B1 B2 HB ⊢;exact⟨B1.o,B2.o,HB.o⟩) ?_;rintro W ⟨q1,q2,q3⟩;have Q1:=hiD q1;have Q2:=hiD q2;have Q3:=hiD q3;clear q1 q2 q3 B1 B2 HB;refine held (wpList_load_mid rfl 50 (.tmp 2) rfl w.heap.size 0 rfl _ _ Q1.o.range Tryz.underlying50 rfl (by kernel_rfl) ?_);refine zi rfl 50 (.tmp 4) (.tmp 33) rfl (w.heap.size+1) 0 (evC H) rfl rfl 50 _ Q2.o (by rw[zd,zd];decide) (by rw[zd];exact zr) (zw _) ?_;intro w' hw';obtain rfl:=qa hw' (by rw[zd,zd]);go_wp2_with fail
 refine bodyPost_ret (qi (a:=⟨w.heap.size+1,0,none⟩) rfl rfl (Bk.ev (Bk.setRow_same Q2.o _))) rfl ⟨by rw[HH.o],below_setRow Q3.o (by omega) _⟩
theorem z32 (h:Eh){c:Nat}(hc:c∈nineL)(w:World):Calls Tryz.prog 109 #[.agg (evC h),.int .i32 (c:Int)] w (OutIs h c w):=by
 rcases zgm hc with rfl|rfl|rfl|rfl|rfl|rfl|rfl|rfl|rfl
 ·exact z3s h w
 ·exact z3t h w
 ·exact z3u h w
 ·exact z3v h w
 ·exact z3w h w
 ·exact z3x h w
 ·exact z3y h w
 ·exact z3z h w
 ·exact z30 h w
end Go.Proofs.YtmjjefnmabbgdaaGreatDoor
