/- A part of the proof. -/
import Derived.Below
import Derived.Deep.MidRow
import Derived.Deep.Draws
import Derived.WalkKit
import Derived.Lib.Hide
import Derived.Laws.BitsAllLaws
import Derived.Laws.MakeOwn
import Derived.OwnWalk
import Derived.Maps.AppendAt
import Derived.Test.YtmjjefnmabbgdaaGreatDoorSRgW
namespace Go.Proofs.YtmjjefnmabbgdaaGreatDoor
set_option linter.unusedVariables false
set_option linter.unusedSimpArgs false
set_option maxRecDepth 100000
set_option maxHeartbeats 16000000
open Go.RowKit
theorem hide {p:Prop}(h:p):Hid p:=h
theorem zbt {k:IntKind}{a b:Int}(h:a=b):Ending.returned (.int k a)=.returned (.int k b):=by rw[h]
def zf (l:List Nat)(i:Nat):Nat:=l.getD i 0
def Bytes (w:World)(B:Nat)(A:Option Addr)(n:Nat)(l:List Nat):Prop :=
 l.length=n∧(∀ x∈l,x<256)∧(0<n→∃ b o,A=some ⟨b,o,none⟩∧b<B∧∀ i,i<n→w.cell? ⟨b,o+i,none⟩=some (.int .u8 ((zf l i:Nat):Int)))
section
variable {w w':World} {B B' n:Nat} {A:Option Addr} {l:List Nat}
theorem Bytes.nil:Bytes w B A 0 []:=⟨rfl,by simp,fun h=>absurd h (Nat.lt_irrefl _)⟩
theorem Bytes.keep (h:Bytes w B A n l)(hk:∀ p:Addr,p.block<B→w'.cell? p=w.cell? p):Bytes w' B A n l :=
 ⟨h.1,h.2.1,fun hn=>by
  obtain⟨b,o,e,hb,hc⟩:=h.2.2 hn
  exact⟨b,o,e,hb,fun i hi=>(hk _ hb).trans (hc i hi)⟩⟩
theorem Bytes.more (h:Bytes w B A n l)(hB:B≤B'):Bytes w B' A n l :=
 ⟨h.1,h.2.1,fun hn=>by
  obtain⟨b,o,e,hb,hc⟩:=h.2.2 hn
  exact⟨b,o,e,by omega,hc⟩⟩
theorem Bytes.below (h:Bytes w B A n l)(hb:Below B' w w')(hB:B≤B'):Bytes w' B A n l:=h.keep fun _ hp=>hb.cell (by omega)
theorem Bytes.later (h:Bytes w w.heap.size A n l)(hb:Below w.heap.size w w'):Bytes w' w'.heap.size A n l:=(h.below hb (Nat.le_refl _)).more hb.size
theorem Bytes.drewN (h:Bytes w B A n l)(k:Nat):Bytes (w.drewN k) B A n l:=h
theorem Bytes.drew (h:Bytes w B A n l):Bytes w.drew B A n l:=h
theorem Bytes.lt (h:Bytes w B A n l)(i:Nat):zf l i<256:=by
 unfold zf;rw[List.getD_eq_getElem?_getD];cases hx:l[i]? with
 | none=>simp
 | some x=>exact h.2.1 x (List.mem_of_getElem? hx)
theorem Bytes.at_ {k:Nat}(h:Bytes w B A n l)(hk:k<n):∃ b o,A=some ⟨b,o,none⟩∧b<B∧w.cell? ⟨b,o+k,none⟩=some (.int .u8 ((zf l k:Nat):Int)):=by
 obtain⟨b,o,e,hb,hc⟩:=h.2.2 (by omega);exact⟨b,o,e,hb,hc k hk⟩
end
def zp (ls:List (List Nat))(i:Nat):List Nat:=ls.getD i []
def Bss (w:World)(B:Nat)(A:Option Addr)(n:Nat)(ls:List (List Nat)):Prop :=
 ls.length=n∧(0<n→∃ b o,A=some ⟨b,o,none⟩∧b<B∧∀ i,i<n→∃ A' n' c',w.cell? ⟨b,o+i,none⟩=some (.slice A' n' c')∧n'≤140737488355328∧Bytes w B A' n' (zp ls i))
section
variable {w w':World} {B B' n:Nat} {A:Option Addr} {ls:List (List Nat)}
theorem Bss.nil:Bss w B A 0 []:=⟨rfl,fun h=>absurd h (Nat.lt_irrefl _)⟩
theorem Bss.keep (h:Bss w B A n ls)(hk:∀ p:Addr,p.block<B→w'.cell? p=w.cell? p):Bss w' B A n ls :=
 ⟨h.1,fun hn=>by
  obtain⟨b,o,e,hb,hc⟩:=h.2 hn;refine⟨b,o,e,hb,fun i hi=>?_⟩;obtain⟨A',n',c',h1,h2,h3⟩:=hc i hi
  exact⟨A',n',c',(hk _ hb).trans h1,h2,h3.keep hk⟩⟩
theorem Bss.more (h:Bss w B A n ls)(hB:B≤B'):Bss w B' A n ls :=
 ⟨h.1,fun hn=>by
  obtain⟨b,o,e,hb,hc⟩:=h.2 hn;refine⟨b,o,e,by omega,fun i hi=>?_⟩;obtain⟨A',n',c',h1,h2,h3⟩:=hc i hi
  exact⟨A',n',c',h1,h2,h3.more hB⟩⟩
theorem Bss.below (h:Bss w B A n ls)(hb:Below B' w w')(hB:B≤B'):Bss w' B A n ls:=h.keep fun _ hp=>hb.cell (by omega)
theorem Bss.later (h:Bss w w.heap.size A n ls)(hb:Below w.heap.size w w'):Bss w' w'.heap.size A n ls:=(h.below hb (Nat.le_refl _)).more hb.size
theorem Bss.at_ {k:Nat}(h:Bss w B A n ls)(hk:k<n):∃ b o A' n' c',A=some ⟨b,o,none⟩∧b<B∧w.cell? ⟨b,o+k,none⟩=some (.slice A' n' c')∧n'≤140737488355328∧Bytes w B A' n' (zp ls k):=by
 obtain⟨b,o,e,hb,hc⟩:=h.2 (by omega);obtain⟨A',n',c',h1,h2,h3⟩:=hc k hk;exact⟨b,o,A',n',c',e,hb,h1,h2,h3⟩
theorem Bss.one (w:World){B:Nat}{A:Option Addr}{n c:Nat}{l:List Nat}(h:Bytes w B A n l)(hn:n≤140737488355328)(hB:B≤w.heap.size)(t:TypeId) :
 Bss (w.alloc (.cells #[.slice A n c] t)) (w.heap.size+1) (some ⟨w.heap.size,0,none⟩) 1 [l]:=by
 refine⟨rfl,fun _=>⟨w.heap.size,0,rfl,by omega,fun i hi=>?_⟩⟩;obtain rfl:i=0:=by omega
 refine⟨A,n,c,?_,hn,((h.keep (fun p hp=>World.cell?_alloc_lt w _ p (by omega))).more (by omega))⟩;rw[cell_of_row _ _ _ _ _ _ (heap_alloc_new w _)];rfl
end
theorem take_snoc' (l:List Nat)(k:Nat)(h:k<l.length):l.take (k+1)=l.take k++[zf l k]:=by
 unfold zf;rw[List.take_succ_eq_append_getElem h];simp[h]
def rotN (x n:Nat):Nat:=x / 2 ^ n+x % 2 ^ n*2 ^ (32-n)
theorem zjn {n:Nat}(hn:n≤32):2 ^ (32-n)*2 ^ n=4294967296:=by
 rw[← Nat.pow_add,show 32-n+n=32 by omega]
theorem zn5 {x n:Nat}(hn:n≤32):x*2 ^ (32-n) % 4294967296=x % 2 ^ n*2 ^ (32-n):=by
 rw[← zjn hn,Nat.mul_comm (2 ^ (32-n)) (2 ^ n),Nat.mul_mod_mul_right]
theorem zn6 {x n:Nat}(hx:x<4294967296)(hn:n≤32):x / 2 ^ n<2 ^ (32-n):=by
 rw[Nat.div_lt_iff_lt_mul (Nat.pow_pos (by omega)),zjn hn];exact hx
theorem ja {x n:Nat}(hx:x<4294967296)(hn:n≤32):rotN x n<4294967296:=by
 have h1:=zn6 hx hn;have h2:x % 2 ^ n<2 ^ n:=Nat.mod_lt _ (Nat.pow_pos (by omega));have h3:(x % 2 ^ n+1)*2 ^ (32-n)≤2 ^ n*2 ^ (32-n):=Nat.mul_le_mul_right _ h2;rw[Nat.mul_comm (2 ^ n),zjn hn,Nat.add_mul,Nat.one_mul] at h3;unfold rotN;omega
theorem zwo {x n:Nat}(hx:x<4294967296)(hn:n≤32):x*2 ^ (32-n) % 4294967296 ||| x / 2 ^ n=rotN x n:=by
 rw[zn5 hn,nat_join (32-n) _ _ (Nat.mul_mod_left _ _) (zn6 hx hn)];unfold rotN;omega
theorem zwp {x n:Nat}(hx:x<4294967296)(hn:n≤32):(x / 2 ^ n+x*2 ^ (32-n) % 4294967296) % 4294967296=rotN x n:=by
 rw[zn5 hn];exact Nat.mod_eq_of_lt (ja hx hn)
def s0N (x:Nat):Nat:=rotN x 7 ^^^ rotN x 18 ^^^ x / 8
def s1N (x:Nat):Nat:=rotN x 17 ^^^ rotN x 19 ^^^ x / 1024
def g0N (x:Nat):Nat:=rotN x 2 ^^^ rotN x 13 ^^^ rotN x 22
def g1N (x:Nat):Nat:=rotN x 6 ^^^ rotN x 11 ^^^ rotN x 25
theorem jz {a b:Nat}(ha:a<4294967296)(hb:b<4294967296):a ^^^ b<4294967296:=Nat.xor_lt_two_pow (n:=32) ha hb
theorem zbj {a:Nat}(b:Nat)(ha:a<4294967296):a &&& b<4294967296:=Nat.lt_of_le_of_lt Nat.and_le_left ha
theorem zwq {x:Nat}(h:x<4294967296):g1N x<4294967296:=jz (jz (ja h (by omega)) (ja h (by omega))) (ja h (by omega))
theorem zwr {x:Nat}(h:x<4294967296):s0N x<4294967296:=jz (jz (ja h (by omega)) (ja h (by omega))) (by omega)
theorem zws {x:Nat}(h:x<4294967296):s1N x<4294967296:=jz (jz (ja h (by omega)) (ja h (by omega))) (by omega)
def chN (e f g:Nat):Nat:=(e &&& f) ^^^ ((e ^^^ 4294967295) &&& g)
def majN (a b c:Nat):Nat:=(a &&& b) ^^^ (a &&& c) ^^^ (b &&& c)
def W32 (l:List Nat):Prop:=∀ x∈l,x<4294967296
theorem W32.lt {l:List Nat}(h:W32 l)(i:Nat):zf l i<4294967296:=by
 unfold zf;rw[List.getD_eq_getElem?_getD];cases hx:l[i]? with
 | none=>simp
 | some x=>exact h x (List.mem_of_getElem? hx)
theorem W32.set {l:List Nat}(h:W32 l)(i:Nat){x:Nat}(hx:x<4294967296):W32 (l.set i x):=by
 intro y hy;rcases List.mem_or_eq_of_mem_set hy with hy|rfl
 ·exact h y hy
 ·exact hx
def zy (l:List Nat):Nat→List Nat
 | 0=>List.replicate 64 0
 | k+1=>(zy l k).set (k / 4) ((zf (zy l k) (k / 4)*256+zf l k) % 4294967296)
theorem ze0 (l:List Nat):∀ k,(zy l k).length=64
 | 0=>by simp[zy]
 | k+1=>by rw[zy,List.length_set,ze0 l k]
theorem ze1 (l:List Nat):∀ k,W32 (zy l k)
 | 0=>fun x hx=>by rw[(List.mem_replicate.1 hx).2];omega
 | k+1=>(ze1 l k).set _ (Nat.mod_lt _ (by omega))
def zef (ws:List Nat)(t:Nat):Nat:=(((s1N (zf ws (t-2))+zf ws (t-7)) % 4294967296+s0N (zf ws (t-15))) % 4294967296+zf ws (t-16)) % 4294967296
def extN (ws:List Nat):Nat→List Nat
 | 0=>ws
 | k+1=>(extN ws k).set (16+k) (zef (extN ws k) (16+k))
theorem zhr (l:List Nat):∀ k,(extN l k).length=l.length
 | 0=>rfl
 | k+1=>by rw[extN,List.length_set,zhr l k]
theorem zhs {l:List Nat}(h:W32 l):∀ k,W32 (extN l k)
 | 0=>h
 | k+1=>(zhs h k).set _ (Nat.mod_lt _ (by omega))
def zcu (l:List Nat):List Nat:=extN (zy l 64) 48
theorem zjo (l:List Nat):(zcu l).length=64:=by rw[zcu,zhr,ze0]
theorem zn7 (l:List Nat):W32 (zcu l):=zhs (ze1 l 64) 48
structure Wd where
 a:Nat
 b:Nat
 c:Nat
 d:Nat
 e:Nat
 f:Nat
 g:Nat
 h:Nat
def Wd.list (s:Wd):List Nat:=[s.a,s.b,s.c,s.d,s.e,s.f,s.g,s.h]
structure Wd.Ok (s:Wd):Prop where
 a:s.a<4294967296
 b:s.b<4294967296
 c:s.c<4294967296
 d:s.d<4294967296
 e:s.e<4294967296
 f:s.f<4294967296
 g:s.g<4294967296
 h:s.h<4294967296
def t1N (s:Wd)(k w:Nat):Nat:=((((s.h+g1N s.e) % 4294967296+chN s.e s.f s.g) % 4294967296+k) % 4294967296+w) % 4294967296
def t2N (s:Wd):Nat:=(g0N s.a+majN s.a s.b s.c) % 4294967296
def zeg (s:Wd)(k w:Nat):Wd:=⟨(t1N s k w+t2N s) % 4294967296,s.a,s.b,s.c,(s.d+t1N s k w) % 4294967296,s.e,s.f,s.g⟩
theorem zwt {s:Wd}(h:s.Ok)(k w:Nat):(zeg s k w).Ok:=⟨Nat.mod_lt _ (by omega),h.a,h.b,h.c,Nat.mod_lt _ (by omega),h.e,h.f,h.g⟩
def za9 (ks ws:List Nat)(s:Wd):Nat→Wd
 | 0=>s
 | n+1=>zeg (za9 ks ws s n) (zf ks n) (zf ws n)
theorem zjp (ks ws:List Nat){s:Wd}(h:s.Ok):∀ n,(za9 ks ws s n).Ok
 | 0=>h
 | n+1=>zwt (zjp ks ws h n) _ _
def sumN (s v:Wd):Wd:=⟨(s.a+v.a) % 4294967296,(s.b+v.b) % 4294967296,(s.c+v.c) % 4294967296,(s.d+v.d) % 4294967296,(s.e+v.e) % 4294967296,(s.f+v.f) % 4294967296,(s.g+v.g) % 4294967296,(s.h+v.h) % 4294967296⟩
def zb5 (ks:List Nat)(s:Wd)(block:List Nat):Wd:=sumN s (za9 ks (zcu block) s 64)
theorem zn8 (ks:List Nat)(s:Wd)(block:List Nat):(zb5 ks s block).Ok:=by
 constructor<;>exact Nat.mod_lt _ (by omega)
def firstL:List Nat:=[1779033703,3144134277,1013904242,2773480762,1359893119,2600822924,528734635,1541459225]
def kL:List Nat:=[1116352408,1899447441,3049323471,3921009573,961987163,1508970993,2453635748,2870763221,3624381080,310598401,607225278,1426881987,1925078388,2162078206,2614888103,3248222580,3835390401,4022224774,264347078,604807628,770255983,1249150122,1555081692,1996064986,2554220882,2821834349,2952996808,3210313671,3336571891,3584528711,113926993,338241895,666307205,773529912,1294757372,1396182291,1695183700,1986661051,2177026350,2456956037,2730485921,2820302411,3259730800,3345764771,3516065817,3600352804,4094571909,275423344,430227734,506948616,659060556,883997877,958139571,1322822218,1537002063,1747873779,1955562222,2024104815,2227730452,2361852424,2428436474,2756734187,3204031479,3329325298]
def first0:Wd:=⟨1779033703,3144134277,1013904242,2773480762,1359893119,2600822924,528734635,1541459225⟩
theorem zn9:first0.Ok:=by constructor<;>decide
theorem kL_lt:W32 kL:=by unfold W32;decide
theorem zba:kL.length=64:=rfl
theorem za3:firstL.length=8:=rfl
theorem zoa (l:List Nat):zy l 0=List.replicate 64 0:=rfl
theorem zob (l:List Nat)(k:Nat):zy l (k+1)=(zy l k).set (k / 4) ((zf (zy l k) (k / 4)*256+zf l k) % 4294967296):=rfl
theorem zoc (ws:List Nat):extN ws 0=ws:=rfl
theorem zod (ws:List Nat)(k:Nat):extN ws (k+1)=(extN ws k).set (16+k) (zef (extN ws k) (16+k)):=rfl
theorem zoe (ks ws:List Nat)(s:Wd):za9 ks ws s 0=s:=rfl
theorem zof (ks ws:List Nat)(s:Wd)(n:Nat):za9 ks ws s (n+1)=zeg (za9 ks ws s n) (zf ks n) (zf ws n):=rfl
theorem zog (l:List Nat):extN (zy l 64) 48=zcu l:=rfl
def zf9 (ws:List Nat)(i:Nat):Nat:=zf ws (i / 4) / 2 ^ (24-8*(i % 4)) % 256
def flN (ws:List Nat):Nat→List Nat
 | 0=>List.replicate 32 0
 | k+1=>(flN ws k).set k (zf9 ws k)
theorem zoh (ws:List Nat):flN ws 0=List.replicate 32 0:=rfl
theorem zoi (ws:List Nat)(k:Nat):flN ws (k+1)=(flN ws k).set k (zf9 ws k):=rfl
theorem zga (ws:List Nat):∀ k,(flN ws k).length=32
 | 0=>by simp[flN]
 | k+1=>by rw[flN,List.length_set,zga ws k]
theorem zwu (ws:List Nat)(i:Nat):zf9 ws i<256:=Nat.mod_lt _ (by omega)
theorem zoj (ws:List Nat):∀ k,∀ x∈flN ws k,x<256
 | 0=>fun x hx=>by rw[flN] at hx;rw[(List.mem_replicate.1 hx).2];omega
 | k + 1 => fun x hx => by
   rw[flN] at hx;rcases List.mem_or_eq_of_mem_set hx with hx|rfl
   ·exact zoj ws k x hx
   ·exact zwu ws k
attribute [irreducible] kL flN zy extN za9 zcu
theorem holdB {p:Prop}(h:Hid p):p:=h
theorem heldB {p:Prop}(h:p):Hid p:=h
def bv (x:Nat):Value:=.int .u8 (x:Int)
theorem zht (l:List Nat):∀ u∈l.map bv,u.oneCell'=true:=by
 intro u hu;obtain⟨x,_,rfl⟩:=List.mem_map.1 hu;rfl
def OwnB (w:World)(base:Nat)(e:TypeId)(A:Option Addr)(n c:Nat)(l:List Nat):Prop :=
 w.ownsRow base e 1 (.slice A n c) n (l.map bv)∧∀ x∈l,x<256
section
variable {w w':World} {base n c:Nat} {e:TypeId} {A:Option Addr} {l:List Nat}
theorem OwnB.nil:OwnB w base e none 0 0 []:=⟨⟨by simp,.inl ⟨rfl,rfl⟩⟩,by simp⟩
theorem OwnB.empty (w:World)(e:TypeId):OwnB (w.alloc (.cells #[] e)) w.heap.size e (some ⟨w.heap.size,0,none⟩) 0 0 [] :=
 ⟨⟨by simp,.inr ⟨w.heap.size,0,#[],rfl,Nat.le_refl _,heap_alloc_new w _,Nat.le_refl _,by unfold maxLen;omega,by simp,by simp⟩⟩,by simp⟩
theorem OwnB.len (h:OwnB w base e A n c l):l.length=n:=by simpa using h.1.1
theorem OwnB.below (h:OwnB w base e A n c l)(hb:Below w.heap.size w w'):OwnB w' base e A n c l:=by
 refine⟨⟨h.1.1,?_⟩,h.2⟩;rcases h.1.2 with h0|⟨g,cap,cur,hv,hg,hh,r⟩
 ·exact .inl h0
 ·exact .inr ⟨g,cap,cur,hv,hg,(hb.block g (Array.getElem?_eq_some_iff.1 hh).1).trans hh,r⟩
theorem OwnB.base_le (h:OwnB w base e A n c l){base':Nat}(hb:base'≤base):OwnB w base' e A n c l:=by
 refine⟨⟨h.1.1,?_⟩,h.2⟩;rcases h.1.2 with h0|⟨g,cap,cur,hv,hg,r⟩
 ·exact .inl h0
 ·exact .inr ⟨g,cap,cur,hv,Nat.le_trans hb hg,r⟩
theorem OwnB.cells (h:OwnB w base e A n c l)(hn:0<n):∃ g,A=some ⟨g,0,none⟩∧base≤g∧g<w.heap.size∧(∀ i,w.frozen? ⟨g,i,none⟩=false)∧∀ i,i<n→w.cell? ⟨g,i,none⟩=some (.int .u8 ((zf l i:Nat):Int)):=by
 have hlen:=h.len;rcases h.1.2 with ⟨_,h0⟩|⟨g,cap,cur,hv,hg,hh,hnc,hcm,hcs,htk⟩
 ·omega
 ·injection hv with hA _ hc
  subst hA;refine⟨g,rfl,hg,(Array.getElem?_eq_some_iff.1 hh).1,fun i=>frozen_of_row w g i cur e hh,fun i hi=>?_⟩;rw[cell_of_row w g i cur e (0,0) hh];have:(cur.toList.take (n*1))[i]?=(l.map bv)[i]?:=by rw[htk]
  rw[List.getElem?_take,if_pos (by omega)] at this;simp only[Array.getElem?_toList] at this;rw[this,List.getElem?_map];unfold zf;simp[List.getElem?_eq_getElem (show i<l.length by omega),bv]
theorem OwnB.bytes (h:OwnB w base e A n c l):Bytes w w.heap.size A n l:=by
 refine⟨h.len,h.2,fun hn=>?_⟩;obtain⟨g,rfl,_,hl,_,hc⟩:=h.cells hn;exact⟨g,0,rfl,hl,fun i hi=>by rw[Nat.zero_add];exact hc i hi⟩
theorem OwnB.cap (h:OwnB w base e A n c l):n≤c∧c≤maxLen:=by
 rcases h.1.2 with ⟨hv,h0⟩|⟨g,cap,cur,hv,hg,hh,hnc,hcm,hcs,htk⟩
 ·injection hv with _ _ hc
  subst hc;subst h0;exact⟨Nat.le_refl _,by unfold maxLen;omega⟩
 ·injection hv with _ _ hc
  subst hc;exact⟨hnc,hcm⟩
theorem OwnB.put (h:OwnB w base e A n c l){i:Nat}(_hi:i<n)(x:Nat)(hx:x<256){g:Nat}(hA:A=some ⟨g,0,none⟩):OwnB (w.setCell ⟨g,i,none⟩ (.int .u8 (x:Int))) base e A n c (l.set i x):=by
 subst hA;have hlen:=h.len;refine⟨⟨by simp[hlen],?_⟩,fun y hy=>?_⟩
 ·rcases h.1.2 with ⟨hv,_⟩|⟨g',cap,cur,hv,hg,hh,hnc,hcm,hcs,htk⟩
  ·cases hv
  ·injection hv with hA _ hc
   injection hA with hA;injection hA with hA;subst hA;subst hc;refine .inr ⟨g,c,cur.setIfInBounds i (.int .u8 (x:Int)),rfl,hg,?_,hnc,hcm,by simpa using hcs,?_⟩
   ·exact heap_setCell_same w g i cur e _ hh
   ·rw[Array.toList_setIfInBounds,List.take_set,htk,List.map_set]
    rfl
 ·rcases List.mem_or_eq_of_mem_set hy with hy|rfl
  ·exact h.2 y hy
  ·exact hx
end
section
variable {P:Program}
theorem zok {w:World}{base:Nat}{e:TypeId}{A:Option Addr}{n c:Nat}{l:List Nat}(ho:OwnB w base e A n c l)(t ty:TypeId)(ht:P.underlying t=some (.slice e))
 (he:(P.info? e).map (fun i=>(i.zero,i.size,i.bytes))=some (some (.int .u8 0),1,1)) {B:Nat} {A':Option Addr} {m c':Nat} {l':List Nat} (hb:Bytes w B A' m l') (hnm:n+m≤1000000000) (hbase:base≤w.heap.size) :
 ∃ A2 c2 w',(Builtin.append_ #[t,t] ty #[.slice A n c,.slice A' m c']).run P w=.ok (.slice A2 (n+m) c2) w'∧OwnB w' base e A2 (n+m) c2 (l++l')∧Below base w w'∧w.grownBy w' (Value.slice A n c).ownBlock:=by
 obtain⟨i,hi,hz,hs,hby⟩:=info_parts he;have hall:∀ x∈l++l',x<256:=fun x hx=>(List.mem_append.1 hx).elim (ho.2 x) (hb.2.1 x);cases A' with
 | none =>
   have hm:m=0:=by
    rcases Nat.eq_zero_or_pos m with h|h
    ·exact h
    ·obtain⟨b,o,h',_⟩:=hb.2.2 h;cases h'
   subst hm;have hl':l'=[]:=List.eq_nil_of_length_eq_zero hb.1;subst hl';refine⟨A,c,w,?_,by simpa using ho,Below.refl _ _,World.grownBy.refl w _⟩;have hc:=ho.cap.1;cases A with
   | none => 
     rcases ho.1.2 with ⟨hv,h0⟩|⟨g,cap,cur,hv,_⟩
     ·injection hv with _ _ hc
      subst hc;subst h0;simp[Builtin.append_,run_underlying ht,sizeOf,typeInfo,hi,Builtin.lenOf,Builtin.firstCells]
     ·cases hv
   | some a=>simp[Builtin.append_,run_underlying ht,sizeOf,typeInfo,hi,Builtin.lenOf,Builtin.firstCells,hc,storeCells]
 | some ad =>
   have hnews:∀ (j:Nat) (u:Value),(l'.map bv)[j]?=some u→w.cell? (ad.add j)=some u:=by
    intro j u hu;rw[List.getElem?_map] at hu;have hj:j<l'.length:=by
     rcases Nat.lt_or_ge j l'.length with h|h
     ·exact h
     ·rw[List.getElem?_eq_none h] at hu;cases hu
    rw[List.getElem?_eq_getElem hj] at hu;injection hu with hu;subst hu;obtain⟨b,o,h',_,hc⟩:=hb.2.2 (by rw[← hb.1];omega);injection h' with h';subst h';rw[Addr.add_mid,hc j (by rw[← hb.1];exact hj)];unfold zf bv;simp[List.getElem?_eq_getElem hj]
   obtain⟨v',w',hrun,h1,h2,_,_⟩:=run_append_own_at (P:=P) w base t ty e i (.int .u8 0) 1 1 ht hi hz hs hby rfl (by omega) (.slice A n c) n (l.map bv) ho.1 ad m c' (l'.map bv) (by simp[hb.1]) hnews (zht _) (by unfold maxLen;omega) (by omega) hbase;have hsh:∃ A2 c2,v'=.slice A2 (n+m) c2:=by
    rcases h1.2 with ⟨rfl,h0⟩|⟨g,cap,cur,rfl,_⟩
    ·rw[h0];exact⟨_,_,rfl⟩
    ·exact⟨_,_,rfl⟩
   obtain⟨A2,c2,rfl⟩:=hsh;refine⟨A2,c2,w',hrun,⟨by rw[List.map_append];exact h1,hall⟩,(Below.refl _ _).grown h2 hbase (fun k hk=>?_),h2⟩;exact(ho.1.lt k hk).1
theorem zao {ops:Array Oper}{rest:List Oper}{o:Oper}{a:Act}{w:World}{Q:Exit→Act→World→Prop}(hgd:o.guard=none)(s x:Operand)(t:TypeId)
 (ho:o.op=.call { callee:=.builtin .append,args:=#[s,x],argTypes:=#[t,t] }) {e:TypeId} (ht:P.underlying t=some (.slice e))
 (he:(P.info? e).map (fun i=>(i.zero,i.size,i.bytes))=some (some (.int .u8 0),1,1))
 (base:Nat) (A:Option Addr) (n c:Nat) (l:List Nat) (hs:a.eval s=.slice A n c) (hown:OwnB w base e A n c l)
 (B:Nat) (A':Option Addr) (m c':Nat) (l':List Nat) (hx:a.eval x=.slice A' m c') (hb:Bytes w B A' m l') (hnm:n+m≤1000000000) (hbase:base≤w.heap.size)
 (h:∀ A2 c2 w',OwnB w' base e A2 (n+m) c2 (l++l')→Below base w w'→w.grownBy w' (Value.slice A n c).ownBlock→wpList P ops Q rest (a.put o.dst (.slice A2 (n+m) c2)) w'):wpList P ops Q (o::rest) a w :=
 wpList_plain hgd fun _ hK=>by
  obtain⟨A2,c2,w',hrun,h2,h3,h4⟩:=zok (P:=P) hown t o.type ht he (c':=c') hb hnm hbase;unfold Oper.wp execOp;simp only[ho,resolve,invoke,builtin,Sem.run_bind,Sem.run_pure,Result.andThen_ok,List.map_toArray,List.map_cons,List.map_nil,hs,hx,hrun];exact hK _ _ (h A2 c2 w' h2 h3 h4)
end
def OwnV (w:World)(base:Nat)(e:TypeId)(A:Option Addr)(n c:Nat)(vs:List Value):Prop :=
 w.ownsRow base e 1 (.slice A n c) n vs
section
variable {w w':World} {base n c:Nat} {e:TypeId} {A:Option Addr} {vs:List Value}
theorem OwnV.nil:OwnV w base e none 0 0 []:=⟨by simp,.inl ⟨rfl,rfl⟩⟩
theorem OwnV.len (h:OwnV w base e A n c vs):vs.length=n:=by simpa using h.1
theorem OwnV.below (h:OwnV w base e A n c vs)(hb:Below w.heap.size w w'):OwnV w' base e A n c vs:=by
 refine⟨h.1,?_⟩;rcases h.2 with h0|⟨g,cap,cur,hv,hg,hh,r⟩
 ·exact .inl h0
 ·exact .inr ⟨g,cap,cur,hv,hg,(hb.block g (Array.getElem?_eq_some_iff.1 hh).1).trans hh,r⟩
theorem OwnV.alloc (h:OwnV w base e A n c vs)(o:Obj):OwnV (w.alloc o) base e A n c vs:=h.below ((Below.refl _ _).alloc (Nat.le_refl _) _)
theorem OwnV.cells (h:OwnV w base e A n c vs)(hn:0<n):∃ g,A=some ⟨g,0,none⟩∧base≤g∧g<w.heap.size∧∀ i v,vs[i]?=some v→w.cell? ⟨g,i,none⟩=some v:=by
 have hlen:=h.len;rcases h.2 with ⟨_,h0⟩|⟨g,cap,cur,hv,hg,hh,hnc,hcm,hcs,htk⟩
 ·omega
 ·injection hv with hA _ hc
  subst hA;refine⟨g,rfl,hg,(Array.getElem?_eq_some_iff.1 hh).1,fun i v hi=>?_⟩;have hil:i<vs.length:=(List.getElem?_eq_some_iff.1 hi).1;rw[cell_of_row w g i cur e (0,0) hh];rw[← htk,List.getElem?_take,if_pos (by omega)] at hi
  simpa only[Array.getElem?_toList] using hi
end
section
variable {P:Program}
theorem zol {ops:Array Oper}{rest:List Oper}{o:Oper}{a:Act}{w:World}{Q:Exit→Act→World→Prop}(hgd:o.guard=none)(s x:Operand)(t:TypeId)
 (ho:o.op=.call { callee:=.builtin .append,args:=#[s,x],argTypes:=#[t,t] }) {e:TypeId} (ht:P.underlying t=some (.slice e)) {zv:Value} {by_:Nat}
 (he:(P.info? e).map (fun i=>(i.zero,i.size,i.bytes))=some (some zv,1,by_)) (hzc:zv.cells.size=1) (hby:by_≤24)
 (base:Nat) (A:Option Addr) (n c:Nat) (vs:List Value) (hs:a.eval s=.slice A n c) (hown:OwnV w base e A n c vs)
 (b off:Nat) (v:Value) (hx:a.eval x=.slice (some ⟨b,off,none⟩) 1 1) (hc:w.cell? ⟨b,off,none⟩=some v) (hv:v.oneCell'=true) (hn:n≤1000000) (hbase:base≤w.heap.size)
 (h:∀ A2 c2 w',OwnV w' base e A2 (n+1) c2 (vs++[v])→Below base w w'→wpList P ops Q rest (a.put o.dst (.slice A2 (n+1) c2)) w'):wpList P ops Q (o::rest) a w :=
 wpList_plain hgd fun _ hK=>by
  obtain⟨i,hi,hz,hs',hby'⟩:=info_parts he;obtain⟨v',w',hrun,h1,h2,_,_⟩:=run_append_own_at (P:=P) w base t o.type e i zv 1 by_ ht hi hz hs' hby' hzc (by omega) (.slice A n c) n vs hown ⟨b,off,none⟩ 1 1 [v] rfl
   (fun j u hu=>by
    cases j with
    | zero=>simp at hu;subst hu;rw[Addr.add_mid,Nat.add_zero];exact hc
    | succ j=>simp at hu) (by simpa using hv) (by unfold maxLen;omega) (Nat.le_trans (Nat.mul_le_mul_left _ hby) (by omega)) hbase
  have hsh:∃ A2 c2,v'=.slice A2 (n+1) c2:=by
   rcases h1.2 with ⟨rfl,h0⟩|⟨g,cap,cur,rfl,_⟩
   ·rw[h0];exact⟨_,_,rfl⟩
   ·exact⟨_,_,rfl⟩
  obtain⟨A2,c2,rfl⟩:=hsh;unfold Oper.wp execOp;simp only[ho,resolve,invoke,builtin,Sem.run_bind,Sem.run_pure,Result.andThen_ok,List.map_toArray,List.map_cons,List.map_nil,hs,hx,hrun];exact hK _ _ (h A2 c2 w' h1 ((Below.refl _ _).grown h2 hbase (fun k hk=>(hown.lt k hk).1)))
end
def ColK {α:Type}(k:Nat)(f:α→List Value)(w:World)(B:Nat)(A:Option Addr)(n:Nat)(l:List α):Prop :=
 l.length=n∧(0<n→∃ b o,A=some ⟨b,o,none⟩∧b<B∧∀ i a,l[i]?=some a→w.rangeAt b (o+i*k) (f a))
theorem zwv {w w':World}{b o:Nat}{cs:List Value}(h:w.rangeAt b o cs)(hk:∀ i,w'.cell? ⟨b,i,none⟩=w.cell? ⟨b,i,none⟩):w'.rangeAt b o cs:=fun j v hv=>by rw[hk];exact h j v hv
section
variable {α:Type} {k:Nat} {f:α→List Value} {w w':World} {B B' n:Nat} {A:Option Addr} {l:List α}
theorem ColK.nil:ColK k f w B A 0 []:=⟨rfl,fun h=>absurd h (by omega)⟩
theorem ColK.keep (h:ColK k f w B A n l)(hk:∀ p:Addr,p.block<B→w'.cell? p=w.cell? p):ColK k f w' B A n l:=by
 refine⟨h.1,fun hn=>?_⟩;obtain⟨b,o,rfl,hb,hc⟩:=h.2 hn;exact⟨b,o,rfl,hb,fun i a ha=>zwv (hc i a ha) (fun j=>hk ⟨b,j,none⟩ hb)⟩
theorem ColK.more (h:ColK k f w B A n l)(hB:B≤B'):ColK k f w B' A n l:=by
 refine⟨h.1,fun hn=>?_⟩;obtain⟨b,o,rfl,hb,hc⟩:=h.2 hn;exact⟨b,o,rfl,by omega,hc⟩
theorem ColK.below (h:ColK k f w B A n l)(hb:Below B' w w')(hB:B≤B'):ColK k f w' B A n l:=h.keep fun p hp=>hb.cell (p:=p) (by omega)
theorem ColK.later (h:ColK k f w w.heap.size A n l)(hb:Below w.heap.size w w'):ColK k f w' w'.heap.size A n l:=(h.below hb (Nat.le_refl _)).more hb.size
theorem ColK.at_ {j:Nat}(h:ColK k f w B A n l)(hj:j<n):∃ b o a,A=some ⟨b,o,none⟩∧b<B∧l[j]?=some a∧l.take (j+1)=l.take j++[a]∧w.rangeAt b (o+j*k) (f a):=by
 obtain⟨b,o,rfl,hb,hc⟩:=h.2 (by omega);have hl:j<l.length:=by rw[h.1];exact hj
 refine⟨b,o,l[j],rfl,hb,List.getElem?_eq_getElem hl,?_,hc j _ (List.getElem?_eq_getElem hl)⟩;rw[List.take_add_one,List.getElem?_eq_getElem hl];rfl
end
def OwnK {α:Type}(k:Nat)(f:α→List Value)(w:World)(base:Nat)(e:TypeId)(A:Option Addr)(n c:Nat)(l:List α):Prop :=
 w.ownsRow base e k (.slice A n c) n (l.flatMap f)∧l.length=n∧∀ a,(f a).length=k
section
variable {α:Type} {k:Nat} {f:α→List Value} {w w':World} {base n c:Nat} {e:TypeId} {A:Option Addr} {l:List α}
theorem ju (hk:∀ a,(f a).length=k)(l:List α):(l.flatMap f).length=l.length*k:=by
 induction l with
 | nil=>simp
 | cons a l ih=>rw[List.flatMap_cons,List.length_append,ih,hk,List.length_cons,Nat.add_mul];omega
theorem zhu (hk:∀ a,(f a).length=k):∀ (l:List α) (i:Nat) (a:α),l[i]?=some a→∀ j v,(f a)[j]?=some v→(l.flatMap f)[i*k+j]?=some v
 | b :: l, 0, a, h, j, v, hv => by
   cases h
   have hj:j<(f b).length:=(List.getElem?_eq_some_iff.1 hv).1;rw[List.flatMap_cons,List.getElem?_append_left (by omega)]
   simpa using hv
 | b :: l, i + 1, a, h, j, v, hv => by
   rw[List.flatMap_cons,List.getElem?_append_right (by rw[hk,Nat.add_mul];omega),hk,show(i+1)*k+j-k=i*k+j by rw[Nat.add_mul];omega];exact zhu hk l i a h j v hv
theorem OwnK.nil (hk:∀ a,(f a).length=k):OwnK k f w base e none 0 0 []:=⟨⟨by simp,.inl ⟨rfl,rfl⟩⟩,rfl,hk⟩
theorem OwnK.len (h:OwnK k f w base e A n c l):l.length=n:=h.2.1
theorem OwnK.below (h:OwnK k f w base e A n c l)(hb:Below w.heap.size w w'):OwnK k f w' base e A n c l:=by
 refine⟨⟨h.1.1,?_⟩,h.2⟩;rcases h.1.2 with h0|⟨g,cap,cur,hv,hg,hh,r⟩
 ·exact .inl h0
 ·exact .inr ⟨g,cap,cur,hv,hg,(hb.block g (Array.getElem?_eq_some_iff.1 hh).1).trans hh,r⟩
theorem OwnK.alloc (h:OwnK k f w base e A n c l)(o:Obj):OwnK k f (w.alloc o) base e A n c l:=h.below ((Below.refl _ _).alloc (Nat.le_refl _) _)
theorem OwnK.from_ {base':Nat}(h:OwnK k f w base e A n c l)(hb:base'≤base):OwnK k f w base' e A n c l:=by
 refine⟨⟨h.1.1,?_⟩,h.2⟩;rcases h.1.2 with h0|⟨g,cap,cur,hv,hg,r⟩
 ·exact .inl h0
 ·exact .inr ⟨g,cap,cur,hv,Nat.le_trans hb hg,r⟩
theorem OwnK.cap (h:OwnK k f w base e A n c l):n≤c∧c≤maxLen:=by
 rcases h.1.2 with ⟨hv,h0⟩|⟨g,cap,cur,hv,_,_,h1,h2,_⟩
 ·injection hv with _ _ hc;subst hc;exact⟨by omega,by unfold maxLen;omega⟩
 ·injection hv with _ _ hc;subst hc;exact⟨h1,h2⟩
theorem OwnK.block (h:OwnK k f w base e A n c l)(hn:0<n):∃ g cur,A=some ⟨g,0,none⟩∧base≤g∧w.heap[g]?=some (.cells cur e (0,0))∧cur.size=c*k∧cur.toList.take (n*k)=l.flatMap f:=by
 rcases h.1.2 with ⟨_,h0⟩|⟨g,cap,cur,hv,hg,hh,h1,h2,h3,h4⟩
 ·omega
 ·injection hv with hA _ hc
  subst hA hc;exact⟨g,cur,rfl,hg,hh,h3,h4⟩
theorem OwnK.range (h:OwnK k f w base e A n c l)(hn:0<n):∃ g,A=some ⟨g,0,none⟩∧base≤g∧g<w.heap.size∧∀ i a,l[i]?=some a→w.rangeAt g (i*k) (f a):=by
 obtain⟨g,cur,rfl,hg,hh,hcs,htk⟩:=h.block hn;refine⟨g,rfl,hg,(Array.getElem?_eq_some_iff.1 hh).1,fun i a ha j v hv=>?_⟩;have h1:=zhu h.2.2 l i a ha j v hv;have hi:i<l.length:=(List.getElem?_eq_some_iff.1 ha).1;have hj:j<k:=by rw[← h.2.2 a];exact(List.getElem?_eq_some_iff.1 hv).1
 rw[← htk,List.getElem?_take,if_pos (by
  have:(i+1)*k≤n*k:=Nat.mul_le_mul_right k (by rw[← h.len];omega)
  rw[Nat.add_mul] at this;omega)] at h1
 rw[cell_of_row w g (i*k+j) cur e (0,0) hh]
 simpa only[Array.getElem?_toList] using h1
theorem OwnK.col (h:OwnK k f w base e A n c l):ColK k f w w.heap.size A n l:=by
 refine⟨h.len,fun hn=>?_⟩;obtain⟨g,rfl,_,hg,hr⟩:=h.range hn;exact⟨g,0,rfl,hg,fun i a ha=>by rw[Nat.zero_add];exact hr i a ha⟩
end
section
variable {P:Program} {α:Type} {k:Nat} {f:α→List Value}
theorem zww {ops:Array Oper}{rest:List Oper}{o:Oper}{a:Act}{w:World}{Q:Exit→Act→World→Prop}(hgd:o.guard=none)(s x:Operand)(t:TypeId)
 (ho:o.op=.call { callee:=.builtin .append,args:=#[s,x],argTypes:=#[t,t] }) {e:TypeId} (ht:P.underlying t=some (.slice e)) {zv:Value} {by_:Nat}
 (he:(P.info? e).map (fun i=>(i.zero,i.size,i.bytes))=some (some zv,k,by_)) (hzc:zv.cells.size=k) (hk0:0<k) (hby:by_≤100)
 (base:Nat) (A:Option Addr) (n c:Nat) (l:List α) (hs:a.eval s=.slice A n c) (hown:OwnK k f w base e A n c l)
 (b off:Nat) (v:α) (hx:a.eval x=.slice (some ⟨b,off,none⟩) 1 1) (hc:w.rangeAt b off (f v)) (hv:∀ u∈f v,u.oneCell'=true) (hn:n≤1000000) (hbase:base≤w.heap.size)
 (h:∀ A2 c2 w',OwnK k f w' base e A2 (n+1) c2 (l++[v])→Below base w w'→w.grownBy w' (Value.slice A n c).ownBlock→wpList P ops Q rest (a.put o.dst (.slice A2 (n+1) c2)) w'):wpList P ops Q (o::rest) a w :=
 wpList_plain hgd fun _ hK=>by
  obtain⟨i,hi,hz,hs',hby'⟩:=info_parts he;obtain⟨v',w',hrun,h1,h2,_,_⟩:=run_append_own_at (P:=P) w base t o.type e i zv k by_ ht hi hz hs' hby' hzc hk0 (.slice A n c) n (l.flatMap f) hown.1 ⟨b,off,none⟩ 1 1 (f v) (by rw[hown.2.2,Nat.one_mul])
   (fun j u hu=>by rw[Addr.add_mid];exact hc j u hu) hv (by unfold maxLen;omega) (Nat.le_trans (Nat.mul_le_mul_left _ hby) (by omega)) hbase
  have hsh:∃ A2 c2,v'=.slice A2 (n+1) c2:=by
   rcases h1.2 with ⟨rfl,h0⟩|⟨g,cap,cur,rfl,_⟩
   ·omega
   ·exact⟨_,_,rfl⟩
  obtain⟨A2,c2,rfl⟩:=hsh;unfold Oper.wp execOp;simp only[ho,resolve,invoke,builtin,Sem.run_bind,Sem.run_pure,Result.andThen_ok,List.map_toArray,List.map_cons,List.map_nil,hs,hx,hrun];refine hK _ _ (h A2 c2 w' ⟨?_,by rw[List.length_append,hown.len];rfl,hown.2.2⟩ ((Below.refl _ _).grown h2 hbase (fun k hk=>(hown.1.lt k hk).1)) h2);rw[List.flatMap_append,List.flatMap_singleton];exact h1
end
section
variable {P:Program}
theorem OwnV.cap_ {w:World}{base n c:Nat}{e:TypeId}{A:Option Addr}{vs:List Value}(h:OwnV w base e A n c vs):n≤c∧c≤maxLen:=by
 rcases h.2 with ⟨hv,h0⟩|⟨g,cap,cur,hv,hg,hh,hnc,hcm,hcs,htk⟩
 ·injection hv with _ h1 h2
  subst h1;subst h2;exact⟨Nat.le_refl _,by unfold maxLen;omega⟩
 ·injection hv with _ _ hc
  subst hc;exact⟨hnc,hcm⟩
theorem OwnV.empty (w:World)(e:TypeId):OwnV (w.alloc (.cells #[] e)) w.heap.size e (some ⟨w.heap.size,0,none⟩) 0 0 [] :=
 ⟨by simp,.inr ⟨w.heap.size,0,#[],rfl,Nat.le_refl _,heap_alloc_new w _,by omega,by unfold maxLen;omega,by simp,by simp⟩⟩
theorem zwx {w:World}{base:Nat}{e:TypeId}{A:Option Addr}{n c:Nat}{vs:List Value}(ho:OwnV w base e A n c vs)(t ty:TypeId)(ht:P.underlying t=some (.slice e)){zv:Value}{by_:Nat}
 (he:(P.info? e).map (fun i=>(i.zero,i.size,i.bytes))=some (some zv,1,by_)) (hzc:zv.cells.size=1) (hby:by_≤24) {A':Option Addr} {m c':Nat} {us:List Value} (hl:us.length=m)
 (hc:0<m→∃ b o,A'=some ⟨b,o,none⟩∧∀ (i:Nat) (u:Value),us[i]?=some u→w.cell? ⟨b,o+i,none⟩=some u) (hone:∀ u∈us,u.oneCell'=true) (hnm:n+m≤1000000) (hbase:base≤w.heap.size) :
 ∃ A2 c2 w',(Builtin.append_ #[t,t] ty #[.slice A n c,.slice A' m c']).run P w=.ok (.slice A2 (n+m) c2) w'∧OwnV w' base e A2 (n+m) c2 (vs++us)∧Below base w w':=by
 obtain⟨i,hi,hz,hs,hby'⟩:=info_parts he;cases A' with
 | none =>
   have hm:m=0:=by
    rcases Nat.eq_zero_or_pos m with h|h
    ·exact h
    ·obtain⟨b,o,h',_⟩:=hc h;cases h'
   subst hm;have hl':us=[]:=List.eq_nil_of_length_eq_zero hl;subst hl';refine⟨A,c,w,?_,by simpa using ho,Below.refl _ _⟩;have hcc:=ho.cap_.1;cases A with
   | none => 
     rcases ho.2 with ⟨hv,h0⟩|⟨g,cap,cur,hv,_⟩
     ·injection hv with _ _ hc
      subst hc;subst h0;simp[Builtin.append_,run_underlying ht,sizeOf,typeInfo,hi,Builtin.lenOf,Builtin.firstCells]
     ·cases hv
   | some a=>simp[Builtin.append_,run_underlying ht,sizeOf,typeInfo,hi,Builtin.lenOf,Builtin.firstCells,hcc,storeCells]
 | some ad =>
   have hnews:∀ (j:Nat) (u:Value),us[j]?=some u→w.cell? (ad.add j)=some u:=by
    intro j u hu;have hj:j<us.length:=(List.getElem?_eq_some_iff.1 hu).1;obtain⟨b,o,h',hcc⟩:=hc (by omega);injection h' with h';subst h';rw[Addr.add_mid];exact hcc j u hu
   obtain⟨v',w',hrun,h1,h2,_,_⟩:=run_append_own_at (P:=P) w base t ty e i zv 1 by_ ht hi hz hs hby' hzc (by omega) (.slice A n c) n vs ho ad m c' us (by simp[hl]) hnews hone (by unfold maxLen;omega) (Nat.le_trans (Nat.mul_le_mul_left _ hby) (by omega)) hbase;have hsh:∃ A2 c2,v'=.slice A2 (n+m) c2:=by
    rcases h1.2 with ⟨rfl,h0⟩|⟨g,cap,cur,rfl,_⟩
    ·rw[h0];exact⟨_,_,rfl⟩
    ·exact⟨_,_,rfl⟩
   obtain⟨A2,c2,rfl⟩:=hsh;exact⟨A2,c2,w',hrun,h1,(Below.refl _ _).grown h2 hbase (fun k hk=>(ho.lt k hk).1)⟩
end
section
variable {P:Program} {α:Type} {k:Nat} {f:α→List Value}
theorem OwnK.empty (hk:∀ a,(f a).length=k)(w:World)(e:TypeId):OwnK k f (w.alloc (.cells #[] e)) w.heap.size e (some ⟨w.heap.size,0,none⟩) 0 0 [] :=
 ⟨⟨by simp,.inr ⟨w.heap.size,0,#[],rfl,Nat.le_refl _,heap_alloc_new w _,by omega,by unfold maxLen;omega,by simp,by simp⟩⟩,rfl,hk⟩
theorem zbb {w:World}{base:Nat}{e:TypeId}{A:Option Addr}{n c:Nat}{l:List α}(ho:OwnK k f w base e A n c l)(t ty:TypeId)(ht:P.underlying t=some (.slice e)){zv:Value}{by_:Nat}
 (he:(P.info? e).map (fun i=>(i.zero,i.size,i.bytes))=some (some zv,k,by_)) (hzc:zv.cells.size=k) (hk0:0<k) (hby:by_≤100) {A':Option Addr} {m c' B:Nat} {us:List α} (hu:ColK k f w B A' m us) (hone:∀ u∈us,∀ v∈f u,v.oneCell'=true) (hnm:n+m≤1000000) (hbase:base≤w.heap.size) :
 ∃ A2 c2 w',(Builtin.append_ #[t,t] ty #[.slice A n c,.slice A' m c']).run P w=.ok (.slice A2 (n+m) c2) w'∧OwnK k f w' base e A2 (n+m) c2 (l++us)∧Below base w w'∧w.grownBy w' (Value.slice A n c).ownBlock:=by
 obtain⟨i,hi,hz,hs,hby'⟩:=info_parts he;have hul:=hu.1;cases A' with
 | none =>
   have hm:m=0:=by
    rcases Nat.eq_zero_or_pos m with h|h
    ·exact h
    ·obtain⟨b,o,h',_⟩:=hu.2 h;cases h'
   subst hm;have hl':us=[]:=List.eq_nil_of_length_eq_zero hul;subst hl';refine⟨A,c,w,?_,by simpa using ho,Below.refl _ _,World.grownBy.refl _ _⟩;have hcc:=ho.cap.1;cases A with
   | none =>
     rcases ho.1.2 with ⟨hv,h0⟩|⟨g,cap,cur,hv,_⟩
     ·injection hv with _ _ hc
      subst hc;subst h0;simp[Builtin.append_,run_underlying ht,sizeOf,typeInfo,hi,Builtin.lenOf,Builtin.firstCells]
     ·cases hv
   | some a=>simp[Builtin.append_,run_underlying ht,sizeOf,typeInfo,hi,Builtin.lenOf,Builtin.firstCells,hcc,storeCells]
 | some ad =>
   have hnews:∀ (j:Nat) (u:Value),(us.flatMap f)[j]?=some u→w.cell? (ad.add j)=some u:=by
    intro j u hju;have hj:j<(us.flatMap f).length:=(List.getElem?_eq_some_iff.1 hju).1;rw[ju ho.2.2,hul] at hj;have hm0:0<m:=by rcases Nat.eq_zero_or_pos m with h|h;(rw[h,Nat.zero_mul] at hj;omega);exact h
    obtain⟨b,o,h',_,hcc⟩:=hu.2 hm0;injection h' with h';subst h';rw[Addr.add_mid];have hq:j / k<us.length:=by rw[hul];exact Nat.div_lt_of_lt_mul (by rw[Nat.mul_comm];exact hj)
    have hr:=hcc (j / k) _ (List.getElem?_eq_getElem hq);have hjj:j / k*k+j % k=j:=by rw[Nat.mul_comm];exact Nat.div_add_mod j k
    have hmod:j % k<k:=Nat.mod_lt _ hk0;have hfl:j % k<(f us[j / k]).length:=by rw[ho.2.2];exact hmod
    have h2:=zhu ho.2.2 us (j / k) _ (List.getElem?_eq_getElem hq) (j % k) _ (List.getElem?_eq_getElem hfl);rw[hjj,hju] at h2;have h3:=hr (j % k) _ (List.getElem?_eq_getElem hfl);rw[Nat.add_assoc,hjj] at h3;rw[h3];exact h2.symm
   obtain⟨v',w',hrun,h1,h2,_,_⟩:=run_append_own_at (P:=P) w base t ty e i zv k by_ ht hi hz hs hby' hzc hk0 (.slice A n c) n (l.flatMap f) ho.1 ad m c' (us.flatMap f) (by rw[ju ho.2.2,hul]) hnews (fun u hu'=>by obtain⟨a,ha,hau⟩:=List.mem_flatMap.1 hu';exact hone a ha u hau) (by unfold maxLen;omega) (Nat.le_trans (Nat.mul_le_mul_left _ hby) (by omega)) hbase;have hsh:∃ A2 c2,v'=.slice A2 (n+m) c2:=by
    rcases h1.2 with ⟨rfl,h0⟩|⟨g,cap,cur,rfl,_⟩
    ·rw[h0];exact⟨_,_,rfl⟩
    ·exact⟨_,_,rfl⟩
   obtain⟨A2,c2,rfl⟩:=hsh;refine⟨A2,c2,w',hrun,⟨?_,by rw[List.length_append,ho.len,hul],ho.2.2⟩,(Below.refl _ _).grown h2 hbase (fun k hk=>(ho.1.lt k hk).1),h2⟩;rw[List.flatMap_append];exact h1
theorem jv {o:Oper}{a:Act}{w w':World}{K:Act→World→Prop}{Q:Exit→Act→World→Prop}{s x:Operand}{t:TypeId}{v y z:Value}(ho:o.op=.call { callee:=.builtin .append,args:=#[s,x],argTypes:=#[t,t] })
 (hs:a.eval s=v) (hx:a.eval x=y) (hrun:(Builtin.append_ #[t,t] o.type #[v,y]).run P w=.ok z w') (hK:K (a.put o.dst z) w'):o.wp P a w K Q:=by
 unfold Oper.wp execOp;simp only[ho,resolve,invoke,builtin,Sem.run_bind,Sem.run_pure,Result.andThen_ok,List.map_toArray,List.map_cons,List.map_nil,hs,hx,hrun];exact hK
theorem ColK.to {w:World}{B n:Nat}{A:Option Addr}{l:List α}(h:ColK k f w B A n l){j:Nat}(hj:j≤n):ColK k f w B A j (l.take j):=by
 refine⟨by rw[List.length_take,h.1];omega,fun hj0=>?_⟩;obtain⟨b,o,e,hb,hc⟩:=h.2 (by omega);refine⟨b,o,e,hb,fun i a hi=>hc i a ?_⟩;have hij:i<j:=by have:=(List.getElem?_eq_some_iff.1 hi).1;rw[List.length_take] at this;omega
 rwa [List.getElem?_take_of_lt hij] at hi
theorem ColK.from_ {w:World}{B n b o:Nat}{l:List α}(h:ColK k f w B (some ⟨b,o,none⟩) n l){j:Nat}(hj:j≤n):ColK k f w B (some ⟨b,o+j*k,none⟩) (n-j) (l.drop j):=by
 refine⟨by rw[List.length_drop,h.1],fun hj0=>?_⟩;obtain⟨b',o',e,hb,hc⟩:=h.2 (by omega);injection e with e;injection e with e1 e2;subst e1;subst e2;refine⟨b,o+j*k,rfl,hb,fun i a hi=>?_⟩;rw[List.getElem?_drop] at hi;have:=hc (j+i) a hi
 rwa [show o+(j+i)*k=o+j*k+i*k by rw[Nat.add_mul];omega] at this
end
end Go.Proofs.YtmjjefnmabbgdaaGreatDoor
