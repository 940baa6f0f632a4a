/- A part of the proof. -/
import Derived.Test.YtmjjefnmabbgdaaGreatDoorSStateOwn
namespace Go.Proofs.YtmjjefnmabbgdaaGreatDoor
set_option linter.unusedVariables false
set_option linter.unusedSimpArgs false
set_option maxRecDepth 100000
set_option maxHeartbeats 16000000
open Go.RowKit
theorem OwnM.putF {w:World}{base n c g i:Nat}{L:List Mg}{a:Mg}(h:OwnM w base (some ⟨g,0,none⟩) n c L)(hi:L[i]?=some a)(z:Int) :
 base≤g∧g<w.heap.size∧w.frozen? ⟨g,i*4+1,none⟩=false∧w.cell? ⟨g,i*4+1,none⟩=some (.int .i64 a.flags)∧OwnM (w.setCell ⟨g,i*4+1,none⟩ (.int .i64 z)) base (some ⟨g,0,none⟩) n c (L.set i { a with flags:=z }):=by
 obtain⟨hs,h1,h2,rfl⟩:=h;rw[List.getElem?_map] at hi;cases hx:hs[i]? with
 | none=>rw[hx] at hi;cases hi
 | some x =>
   rw[hx] at hi;obtain rfl:x.m=a:=Option.some.inj hi;obtain⟨g',e,hg,hl,hf,hc,ho⟩:=OwnK.putX h1 hx (j:=1) (a':=({ x with m:={ x.m with flags:=z } }:Hd)) (by omega) (.int .i64 z) (by unfold hdC;rfl);injection e with e;injection e with e;subst e;refine⟨hg,hl,hf,hc,hs.set i { x with m:={ x.m with flags:=z } },ho,fun y hy=>?_,?_⟩
   ·have hall : OwnB w base 5 y.A y.n y.c y.m.body := by
     rcases List.mem_or_eq_of_mem_set hy with hy|rfl
     ·exact h2 y hy
     ·exact h2 x (List.mem_of_getElem? hx)
    exact⟨zcc hall.1 (jk w g _ _) (fun b cs fr e _=>ziy h1.1 (show 108≠5 by decide) b cs fr e),hall.2⟩
   ·rw[List.map_set]
def TakeIs (b:Bx)(ids:List Int)(w:World)(e:Ending)(w':World):Prop :=
 ∃ (A' : Option Addr) (n' c' : Nat) (A2 : Option Addr) (n2 c2 : Nat), e = .returned (.tuple #[.agg #[.string (tkB b ids).name, .int .i64 (tkB b ids).valid, .int .i64 (tkB b ids).next, .slice A' n' c'], .slice A2 n2 c2, .int .i64 (tkE b ids)]) ∧
   MsgsIn w' w'.heap.size A' n' (tkB b ids).msgs∧MsgsIn w' w'.heap.size A2 n2 (tkM b ids)∧Below w.heap.size w w'
theorem TakeIs.no {b:Bx}{ids:List Int}{w w':World}{A':Option Addr}{n' c':Nat}{z:Int}(h:tkE b ids=z)(hz:z≠0)(hm:MsgsIn w' w'.heap.size A' n' b.msgs)(hb:Below w.heap.size w w'):TakeIs b ids w (.returned (.tuple #[.agg #[.string b.name,.int .i64 b.valid,.int .i64 b.next,.slice A' n' c'],.slice none 0 0,.int .i64 z])) w':=by
 have hn:=zpn (b:=b) (ids:=ids) (by rw[h];exact hz);refine⟨A',n',c',none,0,0,?_,by rw[hn.1];exact hm,by rw[hn.2];exact MsgsIn.nil,hb⟩;rw[hn.1,h]
theorem TakeIs.yes {b:Bx}{ids:List Int}{w w':World}{A' A2:Option Addr}{n' c' n2 c2:Nat}(h:tkE b ids=0)(hm:MsgsIn w' w'.heap.size A' n' (zgj b.msgs ids))(h2:MsgsIn w' w'.heap.size A2 n2 (zh7 b.msgs ids))(hb:Below w.heap.size w w'):TakeIs b ids w (.returned (.tuple #[.agg #[.string b.name,.int .i64 b.valid,.int .i64 b.next,.slice A' n' c'],.slice A2 n2 c2,.int .i64 0])) w':=by
 have hn:=zfc (b:=b) (ids:=ids) h;refine⟨A',n',c',A2,n2,c2,?_,by rw[hn.1];exact hm,by rw[hn.2];exact h2,hb⟩;rw[hn.1,h]
def TakeO (b:Bx)(ids:List Int)(w:World)(e:Ending)(w':World):Prop :=
 ∃ (A' : Option Addr) (n' c' : Nat) (A2 : Option Addr) (n2 c2 : Nat), e = .returned (.tuple #[.agg #[.string (tkB b ids).name, .int .i64 (tkB b ids).valid, .int .i64 (tkB b ids).next, .slice A' n' c'], .slice A2 n2 c2, .int .i64 (tkE b ids)]) ∧
   MsgsIn w' w'.heap.size A' n' (tkB b ids).msgs∧MsgsIn w' w'.heap.size A2 n2 (tkM b ids)∧Below w.heap.size w w'∧(tkE b ids=0→OwnM w' w.heap.size A' n' c' (tkB b ids).msgs∧OwnM w' w.heap.size A2 n2 c2 (tkM b ids))
theorem TakeO.is {b:Bx}{ids:List Int}{w w':World}{e:Ending}(h:TakeO b ids w e w'):TakeIs b ids w e w':=by
 obtain⟨A',n',c',A2,n2,c2,h1,h2,h3,h4,_⟩:=h;exact⟨A',n',c',A2,n2,c2,h1,h2,h3,h4⟩
theorem TakeO.no {b:Bx}{ids:List Int}{w w':World}{A':Option Addr}{n' c':Nat}{z:Int}(h:tkE b ids=z)(hz:z≠0)(hm:MsgsIn w' w'.heap.size A' n' b.msgs)(hb:Below w.heap.size w w'):TakeO b ids w (.returned (.tuple #[.agg #[.string b.name,.int .i64 b.valid,.int .i64 b.next,.slice A' n' c'],.slice none 0 0,.int .i64 z])) w':=by
 have hn:=zpn (b:=b) (ids:=ids) (by rw[h];exact hz);refine⟨A',n',c',none,0,0,?_,by rw[hn.1];exact hm,by rw[hn.2];exact MsgsIn.nil,hb,fun h0=>absurd (h.symm.trans h0) hz⟩;rw[hn.1,h]
theorem TakeO.yes {b:Bx}{ids:List Int}{w w':World}{A' A2:Option Addr}{n' c' n2 c2:Nat}(h:tkE b ids=0)(hs:∀ m∈b.msgs,m.body.length≤140737488355328)(hm:OwnM w' w.heap.size A' n' c' (zgj b.msgs ids))(h2:OwnM w' w.heap.size A2 n2 c2 (zh7 b.msgs ids))(hb:Below w.heap.size w w'):TakeO b ids w (.returned (.tuple #[.agg #[.string b.name,.int .i64 b.valid,.int .i64 b.next,.slice A' n' c'],.slice A2 n2 c2,.int .i64 0])) w':=by
 have hn:=zfc (b:=b) (ids:=ids) h;refine⟨A',n',c',A2,n2,c2,?_,by rw[hn.1];exact hm.msgs fun m hm=>hs m (List.mem_filter.1 hm).1,by rw[hn.2];exact h2.msgs fun m hm=>hs m (List.mem_filter.1 hm).1,hb,fun _=>⟨by rw[hn.1];exact hm,by rw[hn.2];exact h2⟩⟩;rw[hn.1,h]
def TwoAt (w:World)(nm:ByteArray)(v nx:Int)(A:Option Addr)(n c:Nat)(B1:Nat)(wx:World):Prop :=
 Bk wx w.heap.size 76 #[.string nm,.int .i64 v,.int .i64 nx,.slice A n c]∧Bk wx (w.heap.size+1) 76 #[.string ⟨#[]⟩,.int .i64 0,.int .i64 0,.slice none 0 0]∧Below w.heap.size w wx∧w.heap.size+2≤wx.heap.size∧B1≤wx.heap.size
theorem TwoAt.below {w wx W:World}{nm:ByteArray}{v nx:Int}{A:Option Addr}{n c B1:Nat}(h:TwoAt w nm v nx A n c B1 wx)(hb:Below wx.heap.size wx W):TwoAt w nm v nx A n c B1 W:=by
 obtain⟨h1,h2,h3,h4,h5⟩:=h;exact⟨h1.below hb h1.lt,h2.below hb h2.lt,h3.trans (hb.mono h3.size),Nat.le_trans h4 hb.size,Nat.le_trans h5 hb.size⟩
theorem TwoAt.below2 {w wx W:World}{nm:ByteArray}{v nx:Int}{A:Option Addr}{n c B1:Nat}(h:TwoAt w nm v nx A n c B1 wx){B:Nat}(hB:w.heap.size+2≤B)(hb:Below B wx W):TwoAt w nm v nx A n c B1 W:=by
 obtain⟨h1,h2,h3,h4,h5⟩:=h;exact⟨h1.below hb (by omega),h2.below hb (by omega),h3.trans (hb.mono (by omega)),Nat.le_trans h4 hb.size,Nat.le_trans h5 hb.size⟩
def ApartM (v v':Value):Prop:=∀ g,v.ownBlock=some g→v'.ownBlock≠some g
theorem ApartM.symm {v v':Value}(h:ApartM v v'):ApartM v' v:=fun g h1 h2=>h g h2 h1
theorem ApartM.row {v v':Value}(h:ApartM v v'):v'.ownBlock=none∨v'.ownBlock≠v.ownBlock:=by
 cases hv:v'.ownBlock with
 | none=>exact .inl rfl
 | some g=>exact .inr fun e=>h g e.symm hv
theorem ApartM.next {w:World}{base size n:Nat}{e:TypeId}{v v' v2:Value}{xs:List Value}(h:ApartM v v')(h':w.ownsRow base e size v' n xs)(hat:v2.ownBlock=v.ownBlock∨v2.ownBlock=some w.heap.size):ApartM v2 v':=by
 intro g hg hv;rcases hat with ha|ha
 ·exact h g (by rw[← ha];exact hg) hv
 ·rw[ha] at hg
  injection hg with hg;have:=(h'.lt g hv).2;omega
def HdO (w:World)(lo B:Nat)(h:Hd):Prop:=OwnB w lo 5 h.A h.n h.c h.m.body∧(∀ g,(Value.slice h.A h.n h.c).ownBlock=some g→g<B)
def MsgsO (w:World)(lo B:Nat)(A:Option Addr)(n:Nat)(l:List Mg):Prop:=∃ hs:List Hd,ColK 4 hdC w B A n hs∧(∀ h∈hs,HdO w lo B h)∧hs.map Hd.m=l
def OwnR (w:World)(lo base:Nat)(A:Option Addr)(n c:Nat)(l:List Mg):Prop:=∃ hs:List Hd,OwnK 4 hdC w base 108 A n c hs∧(∀ h∈hs,HdO w lo base h)∧hs.map Hd.m=l
section
variable {w w':World} {base n c:Nat} {A:Option Addr} {l:List Mg}
theorem z67 {w w':World}{lo B:Nat}{e:TypeId}{k:Nat}{v:Value}{n:Nat}{xs:List Value}(h:w.ownsRow lo e k v n xs)(hg:∀ g,v.ownBlock=some g→g<B)(hb:Below B w w'):w'.ownsRow lo e k v n xs:=by
 refine⟨h.1,?_⟩;rcases h.2 with h0|⟨g,cap,cur,hv,hg',hh,r⟩
 ·exact .inl h0
 ·refine .inr ⟨g,cap,cur,hv,hg',?_,r⟩
  exact(show Bk w' g e cur from Bk.below (w:=w) (show Bk w g e cur from hh) hb (hg g (by rw[hv];rfl)))
theorem HdO.below {lo B B':Nat}{h:Hd}(H:HdO w lo B h)(hb:Below B' w w')(hB:B≤B'):HdO w' lo B h :=
 ⟨⟨z67 H.1.1 (fun g hg=>Nat.lt_of_lt_of_le (H.2 g hg) hB) hb,H.1.2⟩,H.2⟩
theorem MsgsO.below {lo B B':Nat}(h:MsgsO w lo B A n l)(hb:Below B' w w')(hB:B≤B'):MsgsO w' lo B A n l:=by
 obtain⟨hs,h1,h2,h3⟩:=h;exact⟨hs,h1.below hb hB,fun x hx=>(h2 x hx).below hb hB,h3⟩
theorem MsgsO.at_ {lo B j:Nat}(h:MsgsO w lo B A n l)(hj:j<n):∃ b o x,A=some ⟨b,o,none⟩∧b<B∧l[j]?=some x.m∧l.take (j+1)=l.take j++[x.m]∧w.rangeAt b (o+j*4) (hdC x)∧HdO w lo B x:=by
 obtain⟨hs,h1,h2,rfl⟩:=h;obtain⟨b,o,x,rfl,hb,hx,ht,hr⟩:=h1.at_ hj;have hx':(hs.map Hd.m)[j]?=some x.m:=by rw[List.getElem?_map,hx];rfl
 exact⟨b,o,x,rfl,hb,hx',by rw[← List.map_take,ht,List.map_append,List.map_take];rfl,hr,h2 x (List.mem_of_getElem? hx)⟩
theorem OwnR.nil {lo:Nat}:OwnR w lo base none 0 0 []:=⟨[],OwnK.nil zg9,fun h hh=>(by cases hh),rfl⟩
theorem OwnR.len {lo:Nat}(h:OwnR w lo base A n c l):l.length=n:=by
 obtain⟨hs,h1,_,h3⟩:=h;rw[← h3,List.length_map,h1.len]
theorem OwnR.below {lo:Nat}(h:OwnR w lo base A n c l)(hb:Below w.heap.size w w')(hB:base≤w.heap.size):OwnR w' lo base A n c l:=by
 obtain⟨hs,h1,h2,h3⟩:=h;exact⟨hs,h1.below hb,fun x hx=>(h2 x hx).below hb hB,h3⟩
theorem OwnR.other {lo:Nat}(h:OwnR w lo base A n c l){v:Value}(hg:w.grownBy w' v.ownBlock)(ha:ApartM v (.slice A n c))(hb:Below base w w'):OwnR w' lo base A n c l:=by
 obtain⟨hs,h1,h2,h3⟩:=h;exact⟨hs,⟨h1.1.kept hg ha.row,h1.2⟩,fun x hx=>(h2 x hx).below hb (Nat.le_refl _),h3⟩
theorem OwnR.far {lo b:Nat}{cs:Array Value}(h:OwnR w lo base A n c l)(hk:Bk w b 76 cs)(hg:w.grownBy w' (some b))(hb:b<base):OwnR w' lo base A n c l:=by
 obtain⟨hs,h1,h2,h3⟩:=h;refine⟨hs,⟨zcc h1.1 hg (fun b' cs fr q hb'=>by injection q with q;omega),h1.2⟩,fun y hy=>⟨⟨zcc (h2 y hy).1.1 hg (fun b' cs' fr q hb' hh=>?_),(h2 y hy).1.2⟩,(h2 y hy).2⟩,h3⟩;injection q with q;subst q;unfold Bk at hk;rw[hk] at hh;injection hh with hh;injection hh with _ q2 _;exact absurd q2 (by decide)
theorem OwnR.own {lo:Nat}(h:OwnR w lo base A n c l)(hB:lo≤base):OwnM w lo A n c l:=by
 obtain⟨hs,h1,h2,h3⟩:=h;exact⟨hs,h1.from_ hB,fun x hx=>(h2 x hx).1,h3⟩
end
theorem z68 (g:Nat)(caps:Array Value)(p:ByteArray→Bool)(A:Option Addr)(n c:Nat)(l:List ByteArray)(w:World)(hl:StrsIn w w.heap.size A n l)(hn:n≤140737488355328)
 (hg:Enters Tryz.prog g) (hc:CallP Tryz.prog g caps (fun x=>.string x) TrueP (id:ByteArray→ByteArray) l p w) :
 Calls Tryz.prog 293 #[.slice A n c,.func (.func g) #[] caps] w (IsAt l p w):=by
 have HL:=hiD hl;have HC:=hiD hc;have HG:=hiD hg;clear hl hc hg;go_enter Tryz.func293,Tryz.ntmps293
 go_wp2_with fail
 go_loopw [8] (fun i wx=>∃ k:Nat,k≤n∧i=.int .i64 (k:Int)∧(∀ b∈l.take k,p b=false)∧Below w.heap.size w wx) (fun i _=>n-(intOf i).toNat)
 case atStart=>exact⟨0,Nat.zero_le _,rfl,fun b hb=>by simp at hb,Below.refl _ _⟩
 case round =>
  obtain⟨k,hk,rfl,ha,hb⟩:=hrel;have HB:=hiD hb;have HU:=hiD ha;clear ha hb;by_cases hlt:k<n
  ·obtain⟨b,o,x,rfl,hbb,hla,htk,hrow,hin⟩:=(HL.o.below trueStays HB.o (Nat.le_refl _)).at_ hlt
   have HLA:=hiD hla;have HTK:=hiD htk;have HROW:=hiD hrow;have hk0:(0:Int)≤(k:Int):=by omega
   have hkn:(k:Int)<(n:Int):=by omega
   have CI:=hiD (HC.o wr x HB.o (List.mem_of_getElem? hla) (trueStays.more hin HB.o.size));have c0:=row1 hrow;rw[Nat.mul_one] at c0;clear hla htk hrow hin;go_wp2_with fail
   rw[HG.o];refine CI.o.mono ?_;rintro e w' ⟨rfl,hb2⟩;have HB2:=hiD (HB.o.trans (hb2.mono HB.o.size));clear hb2 CI;cases hok:p ((id:ByteArray→ByteArray) x)
   ·have HS:=hiD (zg4 HU.o HTK.o hok)
    clear hok;go_wp2_with fail
    go_roundw
    case rel=>exact⟨k+1,by omega,by go_num,HS.o,HB2.o⟩
    case measure=>simp[intOf];omega
   ·have HS:=hiD (zfu HU.o HLA.o hok)
    clear hok;go_wp2_with fail
    go_ret;exact⟨(k:Int),rfl,by rw[HS.o];simp,by omega,by omega,HB2.o⟩
  ·have hkn:¬ (k:Int)<(n:Int):=by omega
   have HS:=hiD (zg5 HU.o HL.o.len hlt);go_wp2_with fail
   go_ret;exact⟨-1,rfl,by rw[HS.o];rfl,by omega,by omega,HB.o⟩
theorem z69 (g:Nat)(caps:Array Value)(p:ByteArray→Bool)(A:Option Addr)(n c:Nat)(l:List ByteArray)(w:World)(hl:StrsIn w w.heap.size A n l)(hn:n≤140737488355328)
 (hg:Enters Tryz.prog g) (hc:CallP Tryz.prog g caps (fun x=>.string x) TrueP (id:ByteArray→ByteArray) l p w) :
 Calls Tryz.prog 245 #[.slice A n c,.func (.func g) #[] caps] w (SaysB (l.any p) w):=by
 have CI:=hiD (z68 g caps p A n c l w hl hn hg hc);clear hl hc hg;go_enter Tryz.func245,Tryz.ntmps245
 go_wp2_with fail
 refine CI.o.mono ?_;rintro e w' ⟨z,rfl,hz,hz1,hz2,hb⟩;have HZ:=hiD hz;have HB:=hiD hb;clear hz hb CI;by_cases h0:0≤z
 ·have HR:Hid (l.any p=true):=hiD (by rw[← zc3];have:=HZ.o;exact decide_eq_true (by omega))
  go_wp2_with fail
  go_ret;exact⟨by rw[HR.o]<;>rfl,HB.o⟩
 ·have HR:Hid (l.any p=false):=hiD (by rw[← zc3];have:=HZ.o;exact decide_eq_false (by omega))
  go_wp2_with fail
  go_ret;exact⟨ji (by rw[HR.o]<;>first|rfl|exact decide_eq_false (by omega)),HB.o⟩
theorem zss (g:Nat)(A:Option Addr)(n c:Nat)(l:List ByteArray)(w:World)(hl:StrsIn w w.heap.size A n l)(hn:n≤140737488355328)
 (hg:Enters Tryz.prog g) (hk:CallK Tryz.prog g (fun x=>.string x) TrueP (id:ByteArray→ByteArray) (fun b=>.string b)) :
 Calls Tryz.prog 244 #[.slice A n c,.func (.func g) #[] #[]] w (SaysB (decide (l.Pairwise ltS)) w):=by
 have hmx:Tryz.prog.follows .mixedOrders=true:=by kernel_rfl
 have HL:=hiD hl;have HK:=hiD hk;have HG:=hiD hg;clear hl hk hg;go_enter Tryz.func244,Tryz.ntmps244
 go_wp2_with fail
 go_loopw [5] (fun i wx=>∃ k:Nat,1≤k∧i=.int .i64 (k:Int)∧(n=0∨k≤n)∧(l.take k).Pairwise ltS∧Below w.heap.size w wx) (fun i _=>n-(intOf i).toNat)
 case atStart=>exact⟨1,Nat.le_refl _,rfl,by omega,zg6 l,Below.refl _ _⟩
 case round =>
  obtain⟨k,hk1,rfl,hkn0,ha,hb⟩:=hrel;have HB:=hiD hb;have HU:=hiD ha;clear ha hb;by_cases hlt:k<n
  ·obtain⟨j,rfl⟩:∃ j,k=j+1:=⟨k - 1,by omega⟩
   obtain⟨b,o,x,rfl,hbb,hla,htk,hrow,hin⟩:=(HL.o.below trueStays HB.o (Nat.le_refl _)).at_ hlt;obtain⟨b',o',y,he,hbb',hlb,htk',hrow',hin'⟩:=(HL.o.below trueStays HB.o (Nat.le_refl _)).at_ (show j<n by omega);injection he with he;injection he with e1 e2;subst e1;subst e2;have HLA:=hiD hla;have HLB:=hiD hlb;have HX:=hiD (trueStays.more hin HB.o.size);have HY:=hiD (trueStays.more hin' HB.o.size);have hk0:(0:Int)≤(j:Int)+1:=by omega
   have hj0:(0:Int)≤(j:Int):=by omega
   have hkn:(j:Int)+1<(n:Int):=by omega
   have hjn:(j:Int)<(n:Int):=by omega
   have hsub:(j:Int)+1-1=(j:Int):=by omega
   have hbw:b<wr.heap.size:=Nat.lt_of_lt_of_le hbb HB.o.size;have rx:=row1 hrow;have ry:=row1 hrow';rw[Nat.mul_one] at rx ry;clear hla hlb htk htk' hin hin';have HCASE:∀ q:Bool,decide (ltS y x)=q→Hid (decide (ltS y x)=q):=fun q h=>hiD h;cases hq:decide (ltS y x)
   ·have HQ:=HCASE _ hq
    clear hq HCASE;go_wp2_with fail
    refine wp_region_held_drew (S:=fun W'=>Below wr.heap.size wr W') hmx (Below.refl wr.heap.size wr).drew (fun qch=>?_);generalize hW0:wr.drew=W at *;clear hW0;simp only[List.size_toArray,List.length_cons,List.length_nil,Nat.reduceAdd];refine tks (i:=0) (v:=.func (.func g) #[] #[]) (s:=qch) (h:=?_);try simp only[nm0]
    refine tks (i:=1) (v:=.slice (some ⟨b,o,none⟩) n c) (s:=qch) (h:=?_);try simp only[nm0]
    refine tks (i:=2) (v:=.int .i64 ((j:Int)+1)) (s:=qch) (h:=?_);try simp only[nm0]
    refine tkx (i:=3) (v:=.pointer (some ⟨b,o+(j+1),none⟩)) (x:=fun w0 hC=>by simp[execOp,Act.eval,Act.put,go_sem,hk0,hkn,hlt,show((j:Int)+1).toNat=j+1 by omega]) (s:=qch) (h:=?_);try simp only[nm0]
    refine tkx (i:=4) (v:=.string x) (x:=fun w0 hC=>by simp[execOp,Act.eval,Act.put,go_sem,(hC.cell (p:=⟨b,o+(j+1),none⟩) hbw).trans rx]) (s:=qch) (h:=?_);try simp only[nm0]
    refine tks (i:=6) (v:=.func (.func g) #[] #[]) (s:=qch) (h:=?_);try simp only[nm0]
    refine tks (i:=7) (v:=.slice (some ⟨b,o,none⟩) n c) (s:=qch) (h:=?_);try simp only[nm0]
    refine tks (i:=8) (v:=.int .i64 ((j:Int)+1)) (s:=qch) (h:=?_);try simp only[nm0]
    refine tkx (i:=9) (v:=.int .i64 (j:Int)) (x:=fun w0 hC=>by simp[execOp,Act.eval,Act.put,go_sem,hsub,zc4 j (by omega)]) (s:=qch) (h:=?_);try simp only[nm0]
    refine tkx (i:=10) (v:=.pointer (some ⟨b,o+j,none⟩)) (x:=fun w0 hC=>by simp[execOp,Act.eval,Act.put,go_sem,hj0,hjn,show j<n by omega]) (s:=qch) (h:=?_);try simp only[nm0]
    refine tkx (i:=11) (v:=.string y) (x:=fun w0 hC=>by simp[execOp,Act.eval,Act.put,go_sem,(hC.cell (p:=⟨b,o+j,none⟩) hbw).trans ry]) (s:=qch) (h:=?_);try simp only[nm0]
    refine rd1 (r:=5) (h:=fun K hK=>?_);go_wp2_with fail
    rw[HG.o];refine(HK.o W x (trueStays.later_ HX.o qch)).mono ?_;rintro e W2 ⟨rfl,hb5⟩;have hS:=qch.trans (hb5.mono qch.size);clear qch hb5;refine bkk hK hS fun qch=>?_;clear hK K;try simp only[nm0]
    clear hS;refine rd1 (r:=12) (h:=fun K hK=>?_);go_wp2_with fail
    rw[HG.o];refine(HK.o _ y (trueStays.later_ HY.o qch)).mono ?_;rintro e W3 ⟨rfl,hb5⟩;have hS:=qch.trans (hb5.mono qch.size);clear qch hb5;refine bkk hK hS fun qch=>?_;clear hK K;try simp only[nm0]
    clear hS;refine tkx (i:=13) (v:=.bool true) (x:=fun w0 hC=>by first|(simp[execOp,Act.eval,Act.put,go_sem,HQ.o];done)|simp[execOp,Act.eval,Act.put,go_sem,zfv,HQ.o]) (s:=qch) (h:=?_);try simp only[nm0]
    refine wpAnyH_done (by kernel_rfl) ?_ _;have HB2:=hiD (HB.o.trans (qch.mono HB.o.size));clear qch;have HS:=hiD (decide_eq_false (zfh (R:=ltS) HLB.o HLA.o (of_decide_eq_false HQ.o)));go_wp2_with fail
    go_ret;exact⟨by rw[HS.o]<;>rfl,HB2.o⟩
   ·have HQ:=HCASE _ hq
    clear hq HCASE;go_wp2_with fail
    refine wp_region_held_drew (S:=fun W'=>Below wr.heap.size wr W') hmx (Below.refl wr.heap.size wr).drew (fun qch=>?_);generalize hW0:wr.drew=W at *;clear hW0;simp only[List.size_toArray,List.length_cons,List.length_nil,Nat.reduceAdd];refine tks (i:=0) (v:=.func (.func g) #[] #[]) (s:=qch) (h:=?_);try simp only[nm0]
    refine tks (i:=1) (v:=.slice (some ⟨b,o,none⟩) n c) (s:=qch) (h:=?_);try simp only[nm0]
    refine tks (i:=2) (v:=.int .i64 ((j:Int)+1)) (s:=qch) (h:=?_);try simp only[nm0]
    refine tkx (i:=3) (v:=.pointer (some ⟨b,o+(j+1),none⟩)) (x:=fun w0 hC=>by simp[execOp,Act.eval,Act.put,go_sem,hk0,hkn,hlt,show((j:Int)+1).toNat=j+1 by omega]) (s:=qch) (h:=?_);try simp only[nm0]
    refine tkx (i:=4) (v:=.string x) (x:=fun w0 hC=>by simp[execOp,Act.eval,Act.put,go_sem,(hC.cell (p:=⟨b,o+(j+1),none⟩) hbw).trans rx]) (s:=qch) (h:=?_);try simp only[nm0]
    refine tks (i:=6) (v:=.func (.func g) #[] #[]) (s:=qch) (h:=?_);try simp only[nm0]
    refine tks (i:=7) (v:=.slice (some ⟨b,o,none⟩) n c) (s:=qch) (h:=?_);try simp only[nm0]
    refine tks (i:=8) (v:=.int .i64 ((j:Int)+1)) (s:=qch) (h:=?_);try simp only[nm0]
    refine tkx (i:=9) (v:=.int .i64 (j:Int)) (x:=fun w0 hC=>by simp[execOp,Act.eval,Act.put,go_sem,hsub,zc4 j (by omega)]) (s:=qch) (h:=?_);try simp only[nm0]
    refine tkx (i:=10) (v:=.pointer (some ⟨b,o+j,none⟩)) (x:=fun w0 hC=>by simp[execOp,Act.eval,Act.put,go_sem,hj0,hjn,show j<n by omega]) (s:=qch) (h:=?_);try simp only[nm0]
    refine tkx (i:=11) (v:=.string y) (x:=fun w0 hC=>by simp[execOp,Act.eval,Act.put,go_sem,(hC.cell (p:=⟨b,o+j,none⟩) hbw).trans ry]) (s:=qch) (h:=?_);try simp only[nm0]
    refine rd1 (r:=5) (h:=fun K hK=>?_);go_wp2_with fail
    rw[HG.o];refine(HK.o W x (trueStays.later_ HX.o qch)).mono ?_;rintro e W2 ⟨rfl,hb5⟩;have hS:=qch.trans (hb5.mono qch.size);clear qch hb5;refine bkk hK hS fun qch=>?_;clear hK K;try simp only[nm0]
    clear hS;refine rd1 (r:=12) (h:=fun K hK=>?_);go_wp2_with fail
    rw[HG.o];refine(HK.o _ y (trueStays.later_ HY.o qch)).mono ?_;rintro e W3 ⟨rfl,hb5⟩;have hS:=qch.trans (hb5.mono qch.size);clear qch hb5;refine bkk hK hS fun qch=>?_;clear hK K;try simp only[nm0]
    clear hS;refine tkx (i:=13) (v:=.bool false) (x:=fun w0 hC=>by first|(simp[execOp,Act.eval,Act.put,go_sem,HQ.o];done)|simp[execOp,Act.eval,Act.put,go_sem,zfv,HQ.o]) (s:=qch) (h:=?_);try simp only[nm0]
    refine wpAnyH_done (by kernel_rfl) ?_ _;have HB2:=hiD (HB.o.trans (qch.mono HB.o.size));clear qch;have HS:=hiD (zg7 (R:=ltS) (fun a b c h1 h2=>@zbp _ b _ h1 h2) HU.o HLB.o HLA.o (of_decide_eq_true HQ.o));go_wp2_with fail
    go_roundw
    case rel=>exact⟨j+1+1,by omega,by go_num,by omega,HS.o,HB2.o⟩
    case measure=>simp[intOf];omega
  ·have hkn:¬ (k:Int)<(n:Int):=by omega
   have HS:Hid (decide (l.Pairwise ltS)=true):=hiD (decide_eq_true (by have:=HU.o;rwa [List.take_of_length_le (by rw[HL.o.len];omega)] at this));go_wp2_with fail
   go_ret;exact⟨by rw[HS.o]<;>rfl,HB.o⟩
theorem z7a (g bp:Nat)(caps:Array Value)(p:ByteArray→Bool)(l:List ByteArray)(w:World)(x:ByteArray)(hg:Enters Tryz.prog g)(hc:CallP Tryz.prog g caps (fun x=>.string x) TrueP (id:ByteArray→ByteArray) l p w)(hm:(id:ByteArray→ByteArray) x∈l)(hx:TrueP w w.heap.size x)
 (hp:w.cell? ⟨bp,0,none⟩=some (.func (.func g) #[] caps)) :
 Calls Tryz.prog 246 #[.string x,.pointer (some ⟨bp,0,none⟩)] w fun e w'=>e=.returned (.bool (!p ((id:ByteArray→ByteArray) x)))∧Below w.heap.size w w':=by
 have CI:=hiD (hc w x (Below.refl _ _) hm hx);have HG:=hiD hg;clear hc hx hg;go_enter Tryz.func246,Tryz.ntmps246
 go_wp2_with fail
 rw[HG.o];refine CI.o.mono ?_;rintro e w' ⟨rfl,hb2⟩;have HB2:=hiD hb2;clear hb2 CI;go_wp2_with fail
 go_ret;exact⟨rfl,HB2.o⟩
theorem z7b (most g gk:Nat)(caps:Array Value)(p:ByteArray→Bool)(A:Option Addr)(n c:Nat)(l:List ByteArray)(w:World)(hl:StrsIn w w.heap.size A n l)(hn:n≤140737488355328)
 (hgk:Enters Tryz.prog gk) (hg:Enters Tryz.prog g) (hk:CallK Tryz.prog gk (fun x=>.string x) TrueP (id:ByteArray→ByteArray) (fun b=>.string b)) (hc:CallP Tryz.prog g caps (fun x=>.string x) TrueP (id:ByteArray→ByteArray) l p w) (q:Bool) (hq:jb most ltS p l↔q=true) :
 Calls Tryz.prog 169 #[.slice A n c,.int .i64 (most:Int),.func (.func gk) #[] #[],.func (.func g) #[] caps] w (SaysB q w):=by
 have hb1:∀ t,Below w.heap.size w (w.alloc (.cells #[.func (.func g) #[] caps] t)):=fun t=>(Below.refl _ _).alloc (Nat.le_refl _) _;have HL:=hiD hl;have HK:=hiD hk;have HC:=hiD hc;have HQ:=hiD hq;have HBB:=hiD hb1;have HG:=hiD hg;have HGK:=hiD hgk;clear hl hk hc hq hb1 hg hgk;by_cases hm:n≤most
 ·have hmb:(n:Int)≤(most:Int):=by omega
  cases hr:decide (l.Pairwise ltS)
  ·have HR:=hiD hr
   have HF:Hid (q=false):=hiD (by cases q;rfl;exact absurd (HQ.o.2 rfl).2.2 (of_decide_eq_false HR.o));clear hr;go_enter Tryz.func169,Tryz.ntmps169
   go_wp2_with fail
   refine(zss gk A n c l _ (HL.o.later_ trueStays (HBB.o _)) hn HGK.o HK.o).mono ?_;rintro e w' ⟨rfl,hb⟩;rw[HR.o];have HB:=hiD ((HBB.o _).trans (hb.mono (HBB.o _).size));clear hb;go_wp2_with fail
   go_ret;exact⟨by rw[HF.o]<;>rfl,HB.o⟩
  ·have HR:=hiD hr
   clear hr;go_enter Tryz.func169,Tryz.ntmps169
   go_wp2_with fail
   refine(zss gk A n c l _ (HL.o.later_ trueStays (HBB.o _)) hn HGK.o HK.o).mono ?_;rintro e w' ⟨rfl,hb⟩;rw[HR.o];have HB:=hiD ((HBB.o _).trans (hb.mono (HBB.o _).size));have hcell:w'.cell? ⟨w.heap.size,0,none⟩=some (.func (.func g) #[] caps):=(hb.cell (p:=⟨w.heap.size,0,none⟩) (by simp)).trans ((Bk.new w _ #[.func (.func g) #[] caps]).cell 0);have HCE:=hiD hcell;clear hb hcell;go_wp2_with fail
   refine(z69 246 #[.pointer (some ⟨w.heap.size,0,none⟩)] (fun b=>!p b) A n c l w' (HL.o.later_ trueStays HB.o) hn (enters_of Tryz.func246 (by decide) (by kernel_rfl)) ?_).mono ?_
   ·intro W x hW hx hQ
    exact z7a g w.heap.size caps p l W x HG.o (HC.o.later (HB.o.trans (hW.mono HB.o.size))) hx hQ ((hW.cell (p:=⟨w.heap.size,0,none⟩) (World.block_lt_of_cell? _ _ HCE.o)).trans HCE.o)
   ·rintro e w2 ⟨rfl,hb2⟩
    have HB2:=hiD (HB.o.trans (hb2.mono HB.o.size));have HF:Hid ((!(l.any fun b=>!p b))=q):=hiD (zg8 (by rw[HL.o.len];exact hm) (of_decide_eq_true HR.o) HQ.o);clear hb2;go_wp2_with fail
    go_ret;exact⟨ji (by simpa using HF.o),HB2.o⟩
 ·have hmb:¬ (n:Int)≤(most:Int):=by omega
  have HF:Hid (q=false):=hiD (by cases q;rfl;exact absurd (HQ.o.2 rfl).1 (by rw[HL.o.len];exact hm));go_enter Tryz.func169,Tryz.ntmps169
  go_wp2_with fail
  go_ret;exact⟨ji (by rw[HF.o]<;>first|rfl|simp[hmb]),HBB.o _⟩
end Go.Proofs.YtmjjefnmabbgdaaGreatDoor
