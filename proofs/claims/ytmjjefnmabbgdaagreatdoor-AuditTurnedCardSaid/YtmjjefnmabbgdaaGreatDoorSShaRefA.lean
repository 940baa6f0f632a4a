/- A part of the proof. -/
import Derived.Test.YtmjjefnmabbgdaaGreatDoorProg
import Derived.Test.YtmjjefnmabbgdaaGreatDoorSBytes
import Derived.Laws.Externs
import Derived.Shelf.Bits.Mul64
namespace Go.Proofs.YtmjjefnmabbgdaaGreatDoor
set_option linter.unusedVariables false
set_option linter.unusedSimpArgs false
set_option maxRecDepth 100000
set_option maxHeartbeats 16000000
open Go.RowKit
theorem zhq (x y:Nat)(w:World)(hx:x<18446744073709551616)(hy:y<18446744073709551616) :
 Calls Tryz.prog 151 #[.int .u64 (x:Int),.int .u64 (y:Int)] w fun e w'=>e=.returned (.tuple #[.int .u64 ((x*y / 18446744073709551616:Nat):Int),.int .u64 ((x*y % 18446744073709551616:Nat):Int)])∧w=w':=by
 obtain⟨b1,b2,b3,hhi⟩:=Lib.mul64_hi x y hx hy;have q1:=Lib.half_mul_le (a:=x / 4294967296) (b:=y / 4294967296) (by omega) (by omega);have q2:=Lib.half_mul_le (a:=x / 4294967296) (b:=y % 4294967296) (by omega) (by omega);have q3:=Lib.half_mul_le (a:=x % 4294967296) (b:=y / 4294967296) (by omega) (by omega);go_enter Tryz.func151,Tryz.ntmps151
 go_wp2
 simp only[Mul64.maskN x hx,Mul64.maskN y hy,Mul64.divN,Mul64.mulN,Mul64.addN];generalize x / 4294967296*(y / 4294967296)=A at *;generalize x / 4294967296*(y % 4294967296)=B at *;generalize x % 4294967296*(y / 4294967296)=C at *;generalize x % 4294967296*(y % 4294967296)=D at *;have hA:A<18446744073709551616:=by omega
 have hB:B<18446744073709551616:=by omega
 have hC:C<18446744073709551616:=by omega
 have h1:A+(B+D / 4294967296) / 4294967296<18446744073709551616:=by omega
 have h2:A+(B+D / 4294967296) / 4294967296+((B+D / 4294967296) % 4294967296+C) / 4294967296<18446744073709551616:=by omega
 simp only[Mul64.wrapN A hA,Mul64.wrapN B hB,Mul64.wrapN C hC,Mul64.wrapN D b1,Mul64.divN,Mul64.addN,Mul64.wrapN _ b2,Mul64.maskN _ b2,Mul64.wrapN _ b3,Mul64.wrapN _ h1,Mul64.wrapN _ h2,Mul64.wrapM (x*y)];rw[hhi];go_ret2;exact⟨rfl,rfl⟩
theorem zwh (x y:Nat)(w:World)(h:x+y<18446744073709551616) :
 (callFunc 152 #[.int .u64 (x:Int),.int .u64 (y:Int),.int .u64 0]).run Tryz.prog w=.ok (.value (.tuple #[.int .u64 ((x+y:Nat):Int),.int .u64 0])) w:=by
 rw[run_callFunc_extern Tryz.func152 (by kernel_rfl) (by kernel_rfl) (by kernel_rfl) (e:=add64Entry) (by kernel_rfl),run_add64 _ _ 0 (by omega) (by omega) (by omega) (by omega)];simp only[Result.andThen];rw[show((x:Int)+(y:Int)+0) % 18446744073709551616=((x+y:Nat):Int)by omega,show((x:Int)+(y:Int)+0) / 18446744073709551616=0 by omega]
def zee (n:Nat):Bool:=(List.range 23).all fun j=>decide (j<2) || decide (n<j*j) || decide (n % j≠0)
def zf8 (n:Nat):Bool:=zee n && decide (2≤n)
theorem zwi {n d:Nat}(hn:n≤400)(hd:n<d*d)(h:∀ j,2≤j→j<d→j*j≤n→n % j≠0):zee n=true:=by
 unfold zee;rw[List.all_eq_true];intro j _;by_cases h2:j<2
 ·simp[h2]
 ·by_cases h3:n<j*j
  ·simp[h3]
  ·have : n % j ≠ 0 := by
    refine h j (by omega) ?_ (by omega);rcases Nat.lt_or_ge j d with h'|h'
    ·exact h'
    ·exact absurd (Nat.mul_le_mul h' h') (by omega)
   simp[this]
theorem zwj {n d:Nat}(h2:2≤d)(hd:d<23)(h:d*d≤n)(h0:n % d=0):zee n=false:=by
 unfold zee;rw[List.all_eq_false];exact⟨d,List.mem_range.2 hd,by simp[h0];omega⟩
theorem zwk (d n:Nat)(hn:n≤400)(h:d*d≤n):d<21:=by
 rcases Nat.lt_or_ge d 21 with h'|h'
 ·exact h'
 ·have:=Nat.mul_le_mul h' h';omega
theorem znz {v:Value}{b c:Bool}(h:c=b)(hv:v=.bool b):Ending.returned v=.returned (.bool c):=by rw[h,hv]
theorem zn0 (n:Nat)(w:World)(hn:n≤400)(h2n:2≤n):Calls Tryz.prog 150 #[.int .u64 (n:Int)] w fun e w'=>e=.returned (.bool (zee n))∧w=w':=by
 go_enter Tryz.func150,Tryz.ntmps150
 go_wp2
 go_loop [3] (fun t=>∃ d:Nat,2≤d∧d≤21∧t=.int .u64 (d:Int)∧∀ j,2≤j→j<d→j*j≤n→n % j≠0) (fun t=>30-(intOf t).toNat)
 case atStart=>exact⟨2,by omega,by omega,rfl,fun j h1 h2=>by omega⟩
 case round =>
  obtain⟨d,hd,hd2,rfl,hj⟩:=hrel;have HJ:=hide hj;clear hj;have hdd:d*d≤441:=Nat.mul_le_mul hd2 hd2;by_cases hle:d*d≤n
  ·have hlt:=zwk d n hn hle
   by_cases h0:n % d=0
   ·have HN:=hide (zwj hd (by omega) hle h0)
    have hm:(d:Int)*(d:Int)=((d*d:Nat):Int):=(Int.natCast_mul d d).symm;generalize d*d=q at *;have hz:(((n % d:Nat):Int) == 0)=true:=by rw[h0];rfl
    have HZ:=hide h0;clear h0;go_wp2
    go_ret;exact⟨znz HN.o rfl,rfl⟩
   ·have hm:(d:Int)*(d:Int)=((d*d:Nat):Int):=(Int.natCast_mul d d).symm
    have HS:Hid (∀ j,2≤j→j<d+1→j*j≤n→n % j≠0):=hide (fun j h2 h3 h4=>by
     rcases Nat.lt_or_ge j d with h'|h'
     ·exact HJ.o j h2 h' h4
     ·obtain rfl:j=d:=by omega
      exact h0)
    generalize d*d=q at *;have hz:(((n % d:Nat):Int) == 0)=false:=by simp;omega
    have HZ:=hide h0;clear h0;go_wp2
    go_round
    case rel=>exact⟨d+1,by omega,by omega,by go_num,HS.o⟩
    case measure=>simp[intOf];omega
  ·have HN:=hide (zwi hn (by omega) HJ.o)
   have hm:(d:Int)*(d:Int)=((d*d:Nat):Int):=(Int.natCast_mul d d).symm;generalize d*d=q at *;have hd2':decide ((2:Int)≤(n:Int))=true:=by simp;omega
   go_wp2
   go_ret;exact⟨znz HN.o rfl,rfl⟩
def sqN (p:Nat):Nat→Nat
 | 0=>0
 | m+1=>if (sqN p m+2 ^ (36-m))*(sqN p m+2 ^ (36-m))≤p*18446744073709551616 then sqN p m+2 ^ (36-m)else sqN p m
theorem zn1 (p m:Nat):sqN p (m+1)=if (sqN p m+2 ^ (36-m))*(sqN p m+2 ^ (36-m))≤p*18446744073709551616 then sqN p m+2 ^ (36-m)else sqN p m:=rfl
def cuN (p:Nat):Nat→Nat
 | 0=>0
 | m+1=>if (cuN p m+2 ^ (36-m))*(cuN p m+2 ^ (36-m))*(cuN p m+2 ^ (36-m))≤p*79228162514264337593543950336 then cuN p m+2 ^ (36-m)else cuN p m
theorem zn2 (p m:Nat):cuN p (m+1)=if (cuN p m+2 ^ (36-m))*(cuN p m+2 ^ (36-m))*(cuN p m+2 ^ (36-m))≤p*79228162514264337593543950336 then cuN p m+2 ^ (36-m)else cuN p m:=rfl
theorem zn3 (p:Nat):∀ m,m≤37→sqN p m+2 ^ (37-m)≤2 ^ 37
 | 0,_=>by simp[sqN]
 | m + 1, h => by
   have h1:=zn3 p m (by omega);have e:2 ^ (37-m)=2 ^ (36-m)*2:=by rw[← Nat.pow_succ];congr 1;omega
   have e2:37-(m+1)=36-m:=by omega
   rw[zn1,e2]
   split<;>omega
theorem zn4 (p:Nat):∀ m,m≤37→cuN p m+2 ^ (37-m)≤2 ^ 37
 | 0,_=>by simp[cuN]
 | m + 1, h => by
   have h1:=zn4 p m (by omega);have e:2 ^ (37-m)=2 ^ (36-m)*2:=by rw[← Nat.pow_succ];congr 1;omega
   have e2:37-(m+1)=36-m:=by omega
   rw[zn2,e2]
   split<;>omega
theorem sqs:[2,3,5,7,11,13,17,19].map (fun p=>sqN p 37 % 4294967296)=firstL:=by decide +kernel
def qr (p:Nat):List Nat:=(List.range p).filter zf8
theorem cus:(qr 312).map (fun p=>cuN p 37 % 4294967296)=kL:=by decide +kernel
attribute [irreducible] sqN cuN qr
theorem zwl (p:Nat)(w:World)(hp:p≤400):Calls Tryz.prog 90 #[.int .u64 (p:Int)] w fun e w'=>e=.returned (.int .u32 ((sqN p 37 % 4294967296:Nat):Int))∧w=w':=by
 go_enter Tryz.func90,Tryz.ntmps90
 go_wp2
 go_loop [3,4] (fun x t=>∃ m:Nat,m≤37∧t=.int .i64 (36-(m:Int))∧x=.int .u64 ((sqN p m:Nat):Int)) (fun _ t=>(intOf t+1).toNat)
 case atStart=>exact⟨0,by omega,by simp,by rw[show sqN p 0=0 by unfold sqN;rfl];rfl⟩
 case round =>
  obtain⟨m,hm,rfl,rfl⟩:=hrel;have hle:=zn3 p m hm;by_cases hlt:m<37
  ·obtain⟨b,hb⟩:∃ b:Nat,b=36-m:=⟨_,rfl⟩
   have e1:(36:Int)-(m:Int)=(b:Int):=by omega
   have HS:=hide (zn1 p m);have hpow:2 ^ (37-m)=2 ^ b*2:=by rw[← Nat.pow_succ];congr 1;omega
   rw[← hb] at HS;rw[hpow] at hle;have hb36:b≤36:=by omega
   have HB:=hide hb;clear hb hpow;rw[e1];have E1:=hide e1;clear e1;have hc:(2:Int) ^ b=((2 ^ b:Nat):Int):=by rw[Int.natCast_pow];rfl
   have hpos:0<2 ^ b:=Nat.pow_pos (by omega);generalize 2 ^ b=q at *;generalize sqN p m=x at *;have hx:x+q≤137438953472:=by omega
   obtain⟨y,hy⟩:∃ y,y=x+q:=⟨_,rfl⟩;rw[← hy] at HS hx;have hyi:(x:Int)+(q:Int)=(y:Int):=by omega
   have HC:=zhq y y w (by omega) (by omega);have hdm:=Nat.div_add_mod (y*y) 18446744073709551616;have hmod:y*y % 18446744073709551616<18446744073709551616:=Nat.mod_lt _ (by omega);generalize y*y / 18446744073709551616=hi at *;generalize y*y % 18446744073709551616=lo at *;generalize y*y=yy at *;have HY:=hide hy;have HDM:=hide hdm;have HMOD:=hide hmod;clear hy hdm hmod hpos;clear hle;by_cases h1:hi<p
   ·have HS2:=hide (HS.o.trans (if_pos (by have:=HDM.o;have:=HMOD.o;omega)))
    have h1i:(hi:Int)<(p:Int):=by omega
    clear HS;go_wp2_with fail
    refine HC.mono ?_;rintro e w' ⟨rfl,rfl⟩;go_wp2
    go_round
    case rel=>exact⟨m+1,by omega,by have:=E1.o;go_num,by rw[HS2.o]⟩
    case measure=>simp[intOf]
   ·have h1i:¬ (hi:Int)<(p:Int):=by omega
    by_cases h2:hi=p∧lo=0
    ·have HS2:=hide (HS.o.trans (if_pos (by have:=HDM.o;have:=HMOD.o;omega)))
     have h2i:((hi:Int) == (p:Int))=true:=by simp;omega
     have h3i:((lo:Int) == 0)=true:=by simp;omega
     clear HS h2 h1;go_wp2_with fail
     refine HC.mono ?_;rintro e w' ⟨rfl,rfl⟩;go_wp2
     go_round
     case rel=>exact⟨m+1,by omega,by have:=E1.o;go_num,by rw[HS2.o]⟩
     case measure=>simp[intOf]
    ·have HS2:=hide (HS.o.trans (if_neg (by have:=HDM.o;have:=HMOD.o;omega)))
     by_cases h4:hi=p
     ·have h2i:((hi:Int) == (p:Int))=true:=by simp;omega
      have h3i:((lo:Int) == 0)=false:=by simp;omega
      clear HS h2 h1 h4;go_wp2_with fail
      refine HC.mono ?_;rintro e w' ⟨rfl,rfl⟩;go_wp2
      go_round
      case rel=>exact⟨m+1,by omega,by have:=E1.o;go_num,by rw[HS2.o]⟩
      case measure=>simp[intOf]
     ·have h2i:((hi:Int) == (p:Int))=false:=by simp;omega
      clear HS h2 h1 h4;go_wp2_with fail
      refine HC.mono ?_;rintro e w' ⟨rfl,rfl⟩;go_wp2
      go_round
      case rel=>exact⟨m+1,by omega,by have:=E1.o;go_num,by rw[HS2.o]⟩
      case measure=>simp[intOf]
  ·have hm37:m=37:=by omega
   rw[hm37] at hle ⊢;have hneg:(36:Int)-((37:Nat):Int)=-1:=by omega
   rw[hneg];obtain⟨x,hx0⟩:∃ x,x=sqN p 37:=⟨_,rfl⟩;rw[← hx0] at hle ⊢;have HX:=hide hx0;have hx:x≤137438953472:=by omega
   clear hle hlt hm hm37 hx0;go_wp2
   go_ret;exact⟨zbt (by rw[← HX.o];try omega),rfl⟩
theorem zwm {y hi lo b a:Nat}(h1:y*y=18446744073709551616*hi+lo)(h2:lo*y=18446744073709551616*b+a):y*y*y=18446744073709551616*(b+hi*y)+a:=by
 rw[h1,Nat.add_mul,h2,Nat.mul_assoc,Nat.mul_add];omega
theorem zwn (p:Nat)(w:World)(hp:p≤400):Calls Tryz.prog 91 #[.int .u64 (p:Int)] w fun e w'=>e=.returned (.int .u32 ((cuN p 37 % 4294967296:Nat):Int))∧w=w':=by
 go_enter Tryz.func91,Tryz.ntmps91
 go_wp2
 go_loop [3,4] (fun x t=>∃ m:Nat,m≤37∧t=.int .i64 (36-(m:Int))∧x=.int .u64 ((cuN p m:Nat):Int)) (fun _ t=>(intOf t+1).toNat)
 case atStart=>exact⟨0,by omega,by simp,by rw[show cuN p 0=0 by unfold cuN;rfl];rfl⟩
 case round =>
  obtain⟨m,hm,rfl,rfl⟩:=hrel;have hle:=zn4 p m hm;by_cases hlt:m<37
  ·obtain⟨b,hb⟩:∃ b:Nat,b=36-m:=⟨_,rfl⟩
   have e1:(36:Int)-(m:Int)=(b:Int):=by omega
   have HS:=hide (zn2 p m);have hpow:2 ^ (37-m)=2 ^ b*2:=by rw[← Nat.pow_succ];congr 1;omega
   rw[← hb] at HS;rw[hpow] at hle;have hb36:b≤36:=by omega
   have HB:=hide hb;clear hb hpow;rw[e1];have E1:=hide e1;clear e1;have hc:(2:Int) ^ b=((2 ^ b:Nat):Int):=by rw[Int.natCast_pow];rfl
   have hpos:0<2 ^ b:=Nat.pow_pos (by omega);generalize 2 ^ b=q at *;generalize cuN p m=x at *;have hx:x+q≤137438953472:=by omega
   obtain⟨y,hy⟩:∃ y,y=x+q:=⟨_,rfl⟩;rw[← hy] at HS hx;have hyi:(x:Int)+(q:Int)=(y:Int):=by omega
   have HC:=zhq y y w (by omega) (by omega);have hdm:=Nat.div_add_mod (y*y) 18446744073709551616;have hmod:y*y % 18446744073709551616<18446744073709551616:=Nat.mod_lt _ (by omega);have hyy:y*y≤137438953472*137438953472:=Nat.mul_le_mul hx hx;generalize y*y / 18446744073709551616=hi at *;generalize y*y % 18446744073709551616=lo at *;have hhi:hi≤1024:=by omega
   have HC2:=zhq lo y w hmod (by omega);have hdm2:=Nat.div_add_mod (lo*y) 18446744073709551616;have hmod2:lo*y % 18446744073709551616<18446744073709551616:=Nat.mod_lt _ (by omega);have hly:lo*y≤18446744073709551616*137438953472:=Nat.mul_le_mul (by omega) hx;generalize lo*y / 18446744073709551616=bb at *;generalize lo*y % 18446744073709551616=aa at *;have hcw:=zwm hdm.symm hdm2.symm;have hbb:bb≤137438953472:=by omega
   have hcy:hi*y≤1024*137438953472:=Nat.mul_le_mul hhi hx;have HC3:=zhq hi y w (by omega) (by omega);rw[Nat.div_eq_of_lt (by omega),Nat.mod_eq_of_lt (by omega),show((0:Nat):Int)=0 from rfl] at HC3;have HA:=fun W=>zwh bb (hi*y) W (by omega);rw[hcw] at HS;generalize hi*y=cc at *;clear hly hyy hdm hdm2 hcw;obtain⟨mid,hmid⟩:∃ mid,mid=bb+cc:=⟨_,rfl⟩;rw[← hmid] at HS HA;have HMID:=hide hmid;have hmid2:mid≤281474976710656:=by omega
   obtain⟨want,hwant⟩:∃ want,want=p*4294967296:=⟨_,rfl⟩;have hwi:(p:Int)*4294967296=(want:Int):=by omega
   have hcond:(18446744073709551616*mid+aa≤p*79228162514264337593543950336)↔(mid<want∨mid=want∧aa=0):=by omega
   have hwl:want≤1717986918400:=by omega
   have HY:=hide hy;have HCOND:=hide hcond;clear hcond hmod hy hmid hwant hpos hle hcy hbb hhi;have hwb:(want:Int)<18446744073709551616:=by omega
   have hmod3:(aa:Int)<18446744073709551616:=by omega
   clear hmod2;go_wp2_with fail
   refine HC.mono ?_;rintro e w' ⟨rfl,rfl⟩;go_wp2_with fail
   refine HC2.mono ?_;rintro e w' ⟨rfl,rfl⟩;go_wp2_with fail
   refine HC3.mono ?_;rintro e w' ⟨rfl,rfl⟩
   dsimp only
   iterate 78 go_step
   clear HC HC2 HC3 HA hwi hwb hwl hmid2 hyi hc hmod3;by_cases h1:mid<want
   ·have HS2:=hide (HS.o.trans (if_pos (HCOND.o.2 (.inl h1))))
    have h1i:(mid:Int)<(want:Int):=by omega
    clear HS HCOND;go_wp2
    go_round
    case rel=>exact⟨m+1,by omega,by have:=E1.o;go_num,by rw[HS2.o]⟩
    case measure=>simp[intOf]
   ·have h1i:¬ (mid:Int)<(want:Int):=by omega
    by_cases h2:mid=want∧aa=0
    ·have HS2:=hide (HS.o.trans (if_pos (HCOND.o.2 (.inr h2))))
     have h2i:((mid:Int) == (want:Int))=true:=by simp;omega
     have h3i:((aa:Int) == 0)=true:=by simp;omega
     clear HS HCOND h1 h2;go_wp2
     go_round
     case rel=>exact⟨m+1,by omega,by have:=E1.o;go_num,by rw[HS2.o]⟩
     case measure=>simp[intOf]
    ·have HS2:=hide (HS.o.trans (if_neg (fun h=>(HCOND.o.1 h).elim h1 h2)))
     by_cases h4:mid=want
     ·have h2i:((mid:Int) == (want:Int))=true:=by simp;omega
      have h3i:((aa:Int) == 0)=false:=by simp;omega
      clear HS HCOND h1 h2 h4;go_wp2
      go_round
      case rel=>exact⟨m+1,by omega,by have:=E1.o;go_num,by rw[HS2.o]⟩
      case measure=>simp[intOf]
     ·have h2i:((mid:Int) == (want:Int))=false:=by simp;omega
      clear HS HCOND h1 h2 h4;go_wp2
      go_round
      case rel=>exact⟨m+1,by omega,by have:=E1.o;go_num,by rw[HS2.o]⟩
      case measure=>simp[intOf]
  ·have hm37:m=37:=by omega
   rw[hm37] at hle ⊢;have hneg:(36:Int)-((37:Nat):Int)=-1:=by omega
   rw[hneg];obtain⟨x,hx0⟩:∃ x,x=cuN p 37:=⟨_,rfl⟩;rw[← hx0] at hle ⊢;have HX:=hide hx0;have hx:x≤137438953472:=by omega
   clear hle hlt hm hm37 hx0;go_wp2
   go_ret;exact⟨zbt (by rw[← HX.o];try omega),rfl⟩
end Go.Proofs.YtmjjefnmabbgdaaGreatDoor
