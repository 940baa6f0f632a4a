/- A part of the proof. -/
import Derived.Test.YtmjjefnmabbgdaaGreatDoorSBoxB
import Derived.Deep.RegionHeld3
namespace Go.Proofs.YtmjjefnmabbgdaaGreatDoor
open List renaming set_cons_zero → jB, set_cons_succ → jC
set_option linter.unusedVariables false
set_option linter.unusedSimpArgs false
set_option maxRecDepth 100000
set_option maxHeartbeats 16000000
open Go.RowKit
theorem z6y (hs:List Hd):∀ u∈hs,∀ v∈hdC u,v.oneCell'=true:=fun u _=>z6h u
def GiveK (w0:World)(n:Nat)(hs:List Hd)(e:Ending)(w':World):Prop :=
 ∃ A' c',e=.returned (.slice A' n c')∧OwnK 4 hdC w' w0.heap.size 108 A' n c' hs∧Below w0.heap.size w0 w'
theorem z6z (A:Option Addr)(n c:Nat)(hs:List Hd)(w:World)(hl:ColK 4 hdC w w.heap.size A n hs)(hn:n≤1000000) :
 Calls Tryz.prog 188 #[.slice A n c] w (GiveK w n hs):=by
 cases A with
 | none =>
   have h0:n=0:=by
    rcases Nat.eq_zero_or_pos n with h|h
    ·exact h
    ·obtain⟨b,o,h',_⟩:=hl.2 h;cases h'
   subst h0;have hl':hs=[]:=List.eq_nil_of_length_eq_zero hl.1;subst hl';have heq:=fun W=>Lib.run_eql_slice_nil (P:=Tryz.prog) W 74 108 none 0 c 0 0 Tryz.underlying74;go_enter Tryz.func188,Tryz.ntmps188
   go_wp2
   go_ret;exact⟨_,_,rfl,OwnK.nil zg9,Below.refl _ _⟩
 | some a =>
   have heq:=fun W=>Lib.run_eql_slice_nil (P:=Tryz.prog) W 74 108 (some a) n c 0 0 Tryz.underlying74;obtain⟨A3,c3,w3,hrun,ho3,hb3,hg3⟩:=zbb (P:=Tryz.prog) (f:=hdC) (OwnK.empty zg9 w 108) 74 74 Tryz.underlying74 z6i rfl (by omega) (by omega) (A':=some a) (m:=n) (c':=c) (hl.below ((Below.refl _ _).alloc (Nat.le_refl _) (.cells #[] 108)) (Nat.le_refl _)) (z6y hs) (by omega) (by simp);rw[Nat.zero_add,List.nil_append] at ho3;rw[Nat.zero_add] at hrun;have hb3':Below w.heap.size w w3:=((Below.refl _ _).alloc (Nat.le_refl _) _).trans hb3;have HRUN:=hiD hrun;clear hrun hl hg3 hb3;go_enter Tryz.func188,Tryz.ntmps188
   go_wp2_with (with_reducible refine stn 7 ?_)
   refine held (wpList_plain rfl fun K hK=>jv (s:=.tmp 5) (x:=.tmp 6) rfl rfl rfl HRUN.o (hK _ _ ?_));go_wp2
   go_ret;exact⟨_,_,rfl,ho3,hb3'⟩
def GiveX (w0:World)(nm:ByteArray)(v nx:Int)(n:Nat)(l:List Mg)(e:Ending)(w':World):Prop :=
 ∃ A' c',e=.returned (.agg #[.string nm,.int .i64 v,.int .i64 nx,.slice A' n c'])∧OwnM w' w0.heap.size A' n c' l∧Below w0.heap.size w0 w'
theorem zsn {α:Type}{k:Nat}{f:α→List Value}(hk:∀ a,(f a).length=k)(a':α)(j:Nat)(v:Value)(hj:j<k):∀ (l:List α) (i:Nat) (a:α),l[i]?=some a→f a'=(f a).set j v→(l.set i a').flatMap f=(l.flatMap f).set (i*k+j) v
 | [],_,_,h,_=>by simp at h
 | b :: l, 0, a, h, e => by
   cases h
   rw[jB,List.flatMap_cons,List.flatMap_cons,e,Nat.zero_mul,Nat.zero_add,List.set_append_left _ _ (by rw[hk];exact hj)]
 | b :: l, i + 1, a, h, e => by
   rw[jC,List.flatMap_cons,List.flatMap_cons,zsn hk a' j v hj l i a h e,List.set_append_right _ _ (by rw[hk,Nat.add_mul];omega),hk,show(i+1)*k+j-k=i*k+j by rw[Nat.add_mul];omega]
theorem OwnK.putX {α:Type}{k:Nat}{f:α→List Value}{w:World}{base n c:Nat}{e:TypeId}{A:Option Addr}{l:List α}(h:OwnK k f w base e A n c l){i j:Nat}{a a':α}(hi:l[i]?=some a)(hj:j<k)(v:Value)(hf:f a'=(f a).set j v) :
 ∃ g,A=some ⟨g,0,none⟩∧base≤g∧g<w.heap.size∧w.frozen? ⟨g,i*k+j,none⟩=false∧w.cell? ⟨g,i*k+j,none⟩=(f a)[j]?∧OwnK k f (w.setCell ⟨g,i*k+j,none⟩ v) base e A n c (l.set i a'):=by
 have hlen:=h.len;have hil:i<l.length:=(List.getElem?_eq_some_iff.1 hi).1;obtain⟨g',hA',_,hlt,hr⟩:=h.range (by omega);rcases h.1.2 with ⟨_,h0⟩|⟨g,cap,cur,hv,hg,hh,hnc,hcm,hcs,htk⟩
 ·omega
 ·injection hv with hA _ hc
  subst hA hc;injection hA' with hA';injection hA' with hA';subst hA';have hcell:=hr i a hi j ((f a)[j]'(by rw[h.2.2];exact hj)) (List.getElem?_eq_getElem (by rw[h.2.2];exact hj));refine⟨g,rfl,hg,hlt,frozen_of_row w g _ cur _ hh,by rw[hcell,List.getElem?_eq_getElem],?_,by rw[List.length_set];exact hlen,h.2.2⟩;refine⟨by rw[ju h.2.2,List.length_set,hlen],.inr ⟨g,c,cur.setIfInBounds (i*k+j) v,rfl,hg,heap_setCell_same w g _ cur _ _ hh,hnc,hcm,by simpa using hcs,?_⟩⟩;rw[Array.toList_setIfInBounds,List.take_set,htk,zsn h.2.2 a' j v hj l i a hi hf]
theorem OwnK.putM {w:World}{base n c g:Nat}{l:List Hd}(h:OwnK 4 hdC w base 108 (some ⟨g,0,none⟩) n c l){i:Nat}{m:Mg}{xA yA:Option Addr}{xn xc yn yc:Nat}(hi:l[i]?=some ⟨m,xA,xn,xc⟩) :
 OwnK 4 hdC ((((w.setCell ⟨g,i*4,none⟩ (.int .i64 m.uid)).setCell ⟨g,i*4+1,none⟩ (.int .i64 m.flags)).setCell ⟨g,i*4+2,none⟩ (.int .i64 m.date)).setCell ⟨g,i*4+3,none⟩ (.slice yA yn yc)) base 108 (some ⟨g,0,none⟩) n c (l.set i ⟨m,yA,yn,yc⟩):=by
 have same:l.set i ⟨m,xA,xn,xc⟩=l:=by
  obtain⟨hil,e2⟩:=List.getElem?_eq_some_iff.1 hi;rw[← e2,List.set_getElem_self]
 have hh:∀ g':Nat,some (⟨g,0,none⟩:Addr)=some ⟨g',0,none⟩→g'=g:=fun g' e=>by injection e with e;injection e with e;exact e.symm
 obtain⟨g0,e0,_,_,_,_,h0⟩:=OwnK.putX h hi (j:=0) (a':=(⟨m,xA,xn,xc⟩:Hd)) (by omega) (.int .i64 m.uid) (by unfold hdC;rfl);rw[hh g0 e0,same] at h0;obtain⟨g1,e1,_,_,_,_,h1⟩:=OwnK.putX h0 hi (j:=1) (a':=(⟨m,xA,xn,xc⟩:Hd)) (by omega) (.int .i64 m.flags) (by unfold hdC;rfl);rw[hh g1 e1,same] at h1;obtain⟨g2,e2,_,_,_,_,h2⟩:=OwnK.putX h1 hi (j:=2) (a':=(⟨m,xA,xn,xc⟩:Hd)) (by omega) (.int .i64 m.date) (by unfold hdC;rfl);rw[hh g2 e2,same] at h2;obtain⟨g3,e3,_,_,_,_,h3⟩:=OwnK.putX h2 hi (j:=3) (a':=(⟨m,yA,yn,yc⟩:Hd)) (by omega) (.slice yA yn yc) (by unfold hdC;rfl);rw[hh g3 e3] at h3;exact h3
theorem OwnK.rowF {w:World}{base n c g:Nat}{l:List Hd}(h:OwnK 4 hdC w base 108 (some ⟨g,0,none⟩) n c l)(hn:0<n):∀ i,w.frozen? ⟨g,i,none⟩=false:=by
 obtain⟨g',cur,e,_,hh,_⟩:=h.block hn;injection e with e;injection e with e;subst e;exact fun i=>frozen_of_row w g i cur _ hh
theorem zi3 (w:World)(b o:Nat)(a0 a1 a2 a3:Value):w.grownBy ((((w.setCell ⟨b,o,none⟩ a0).setCell ⟨b,o+1,none⟩ a1).setCell ⟨b,o+2,none⟩ a2).setCell ⟨b,o+3,none⟩ a3) (some b) :=
 zat (zat (zat (jk w b o a0) (jk _ b _ a1)) (jk _ b _ a2)) (jk _ b _ a3)
theorem Bk.grown {w w':World}{b g:Nat}{t:TypeId}{cs:Array Value}(h:Bk w b t cs)(hg:w.grownBy w' (some g))(hne:b≠g):Bk w' b t cs :=
 (hg.block b h.lt (fun e=>hne (by injection e))).trans h
theorem zso {B:Nat}{w0 w:World}(h:Below B w0 w){b:Nat}(hb:B≤b)(o:Nat)(a0 a1 a2 a3:Value) :
 Below B w0 ((((w.setCell ⟨b,o,none⟩ a0).setCell ⟨b,o+1,none⟩ a1).setCell ⟨b,o+2,none⟩ a2).setCell ⟨b,o+3,none⟩ a3) :=
 (((h.setCell hb a0).setCell hb a1).setCell hb a2).setCell hb a3
theorem z60 {gs hs:List Hd}{k:Nat}{a a':Hd}(hg:gs.length=k)(ha:hs[k]?=some a):(gs++hs.drop k).set k a'=(gs++[a'])++hs.drop (k+1):=by
 subst hg;have hk:=(List.getElem?_eq_some_iff.1 ha).1;rw[List.set_append_right _ _ (Nat.le_refl _),Nat.sub_self,List.drop_eq_getElem_cons hk,jB,List.append_assoc];rfl
theorem zls {gs hs:List Hd}{k:Nat}{a:Hd}(hg:gs.length=k)(ha:hs[k]?=some a):(gs++hs.drop k)[k]?=some a:=by
 subst hg;rw[List.getElem?_append_right (Nat.le_refl _),Nat.sub_self,List.getElem?_drop,Nat.add_zero];exact ha
def CopyAt (w:World)(nm:ByteArray)(v nx:Int)(A:Option Addr)(n c:Nat)(hs:List Hd)(k:Nat)(wr:World):Prop :=
 ∃ gs : List Hd, OwnK 4 hdC wr (w.heap.size + 2) 108 A n c (gs ++ hs.drop k) ∧ gs.length = k ∧ (∀ h ∈ gs, OwnB wr (w.heap.size + 2) 5 h.A h.n h.c h.m.body) ∧ gs.map Hd.m = (hs.take k).map Hd.m ∧
   Bk wr w.heap.size 76 #[.string nm,.int .i64 v,.int .i64 nx,.slice A n c]∧Bk wr (w.heap.size+1) 76 #[.string ⟨#[]⟩,.int .i64 0,.int .i64 0,.slice none 0 0]∧Below w.heap.size w wr∧w.heap.size+2≤wr.heap.size
theorem CopyAt.below {w wr W:World}{nm:ByteArray}{v nx:Int}{A:Option Addr}{n c k:Nat}{hs:List Hd}(h:CopyAt w nm v nx A n c hs k wr)(hb:Below wr.heap.size wr W):CopyAt w nm v nx A n c hs k W:=by
 obtain⟨gs,h1,h2,h3,h4,h5,h6,h7,h8⟩:=h;exact⟨gs,h1.below hb,h2,fun x hx=>(h3 x hx).below hb,h4,h5.below hb h5.lt,h6.below hb h6.lt,h7.trans (hb.mono h7.size),Nat.le_trans h8 hb.size⟩
theorem CopyAt.next {w W:World}{nm:ByteArray}{v nx:Int}{n c k g:Nat}{hs:List Hd}{m:Mg}{xA yA:Option Addr}{xn xc yc:Nat}(h:CopyAt w nm v nx (some ⟨g,0,none⟩) n c hs k W)(hx:hs[k]?=some ⟨m,xA,xn,xc⟩)(hy:OwnB W (w.heap.size+2) 5 yA xn yc m.body) :
 CopyAt w nm v nx (some ⟨g,0,none⟩) n c hs (k+1) ((((W.setCell ⟨g,k*4,none⟩ (.int .i64 m.uid)).setCell ⟨g,k*4+1,none⟩ (.int .i64 m.flags)).setCell ⟨g,k*4+2,none⟩ (.int .i64 m.date)).setCell ⟨g,k*4+3,none⟩ (.slice yA xn yc)):=by
 obtain⟨gs,h1,h2,h3,h4,h5,h6,h7,h8⟩:=h;have hg:=zi3 W g (k*4) (.int .i64 m.uid) (.int .i64 m.flags) (.int .i64 m.date) (.slice yA xn yc);have hgb:w.heap.size+2≤g:=by
  have hk:k<n:=by
   have:=h1.len;rw[List.length_append,List.length_drop,h2] at this;have:=(List.getElem?_eq_some_iff.1 hx).1;omega
  exact(h1.1.lt g rfl).1
 have hne:∀ b cs fr,some g=some b→w.heap.size+2≤b→W.heap[b]?≠some (.cells cs 5 fr):=fun b cs fr e _=>ziy h1.1 (show 108≠5 by decide) b cs fr e;have h1':=h1.putM (yA:=yA) (yn:=xn) (yc:=yc) (zls h2 hx);rw[z60 h2 hx] at h1';refine⟨gs++[⟨m,yA,xn,yc⟩],h1',by rw[List.length_append,h2];rfl,fun x hx'=>?_,?_,h5.grown hg (by omega),h6.grown hg (by omega),zso h7 (by omega) _ _ _ _ _,by simpa [World.setCell] using h8⟩
 ·have hall : OwnB W (w.heap.size + 2) 5 x.A x.n x.c x.m.body := by
   rcases List.mem_append.1 hx' with hx'|hx'
   ·exact h3 x hx'
   ·rw[List.mem_singleton.1 hx'];exact hy
  exact⟨zcc hall.1 hg hne,hall.2⟩
 ·rw[List.map_append,h4,List.take_add_one,hx,List.map_append]
  rfl
theorem zsp (nm:ByteArray)(v nx:Int)(A:Option Addr)(n c:Nat)(l:List Mg)(w:World)(hl:MsgsIn w w.heap.size A n l)(hn:n≤1000000)(hsm:∀ m∈l,m.body.length≤1000000) :
 Calls Tryz.prog 112 #[.agg #[.string nm,.int .i64 v,.int .i64 nx,.slice A n c]] w (GiveX w nm v nx n l):=by
 obtain⟨hs,hc,hin,rfl⟩:=hl;have hmx:Tryz.prog.follows .mixedOrders=true:=by kernel_rfl
 have h1:Bk ((w.alloc (.cells #[.string nm,.int .i64 v,.int .i64 nx,.slice A n c] 76)).alloc (.cells #[.string ⟨#[]⟩,.int .i64 0,.int .i64 0,.slice none 0 0] 76)) w.heap.size 76 #[.string nm,.int .i64 v,.int .i64 nx,.slice A n c]:=(Bk.new _ _ _).alloc _;have h2:Bk ((w.alloc (.cells #[.string nm,.int .i64 v,.int .i64 nx,.slice A n c] 76)).alloc (.cells #[.string ⟨#[]⟩,.int .i64 0,.int .i64 0,.slice none 0 0] 76)) (w.heap.size+1) 76 #[.string ⟨#[]⟩,.int .i64 0,.int .i64 0,.slice none 0 0]:=Bk.new2 _ _ _ _;have hB:Below w.heap.size w ((w.alloc (.cells #[.string nm,.int .i64 v,.int .i64 nx,.slice A n c] 76)).alloc (.cells #[.string ⟨#[]⟩,.int .i64 0,.int .i64 0,.slice none 0 0] 76)):=((Below.refl _ _).alloc (Nat.le_refl _) _).alloc (by simp) _;have HL:=hiD hc.1;have HIN:=hiD hin;have HB:=hiD hB;have HSM:=hiD hsm;have HZ:Hid (((w.alloc (.cells #[.string nm,.int .i64 v,.int .i64 nx,.slice A n c] 76)).alloc (.cells #[.string ⟨#[]⟩,.int .i64 0,.int .i64 0,.slice none 0 0] 76)).heap.size=w.heap.size+2):=hiD (by simp)
 have CC:=hiD (z6z A n c hs _ ((hc.below hB (Nat.le_refl _)).more hB.size) hn);have c3:=h1.cell 3;have H1:=hiD h1;have H2:=hiD h2;clear h1 h2 hB hin hsm hc;go_enter Tryz.func112,Tryz.ntmps112
 go_wp2_with fail
 generalize (w.alloc (.cells #[.string nm,.int .i64 v,.int .i64 nx,.slice A n c] 76)).alloc (.cells #[.string ⟨#[]⟩,.int .i64 0,.int .i64 0,.slice none 0 0] 76)=w1 at *;refine CC.o.mono ?_;rintro e w2 ⟨A',c',rfl,ho,hb⟩;rw[HZ.o] at ho hb;have h1:=H1.o.below hb (by omega);have h2:=H2.o.below hb (by omega);have f3:=h1.frozen 3;have e3:=h1.cell 3;have HAT:Hid (CopyAt w nm v nx A' n c' hs 0 (w2.setCell ⟨w.heap.size,3,none⟩ (.slice A' n c'))):=hiD
  ⟨[],⟨zcc ho.1 (jk w2 w.heap.size 3 _) (fun b cs fr q hb'=>by injection q with q;omega),ho.2⟩,rfl,fun x hx=>(by cases hx),rfl,h1.put 3 _,h2.far (show w.heap.size+1≠w.heap.size by omega) _,(HB.o.trans (hb.mono (by omega))).setCell (Nat.le_refl _) _,by have:=hb.size;rw[HZ.o] at this;simpa [World.setCell] using this⟩
 clear ho hb h1 h2 c3 CC H1 H2 HB HZ;go_wp2_with fail
 generalize w2.setCell ⟨w.heap.size,3,none⟩ (.slice A' n c')=w3 at *
 go_loopw [12] (fun i wx=>∃ k:Nat,k≤n∧i=.int .i64 (k:Int)∧CopyAt w nm v nx A' n c' hs k wx) (fun i _=>n-(intOf i).toNat)
 case atStart=>exact⟨0,Nat.zero_le _,rfl,HAT.o⟩
 case round =>
  obtain⟨k,hk,rfl,hat⟩:=hrel;have HAT2:=hiD hat
  clear hat HAT;by_cases hlt:k<n
  ·obtain⟨x,hx⟩:∃ x,hs[k]?=some x:=⟨_,List.getElem?_eq_getElem (by rw[HL.o];exact hlt)⟩
   have hat:=HAT2.o;obtain⟨gs,q1,q2,q3,q4,q5,q6,q7,q8⟩:=hat
   obtain⟨g,rfl,hgb,hgl,hrg⟩:=q1.range (by omega);have hin:=HIN.o x (List.mem_of_getElem? hx);have hbl:x.n≤1000000:=by have:=HSM.o x.m (List.mem_map.2 ⟨x,List.mem_of_getElem? hx,rfl⟩);rw[hin.1.1] at this;exact this
   have HROW:=hiD (hrg k x (zls q2 hx));have hk0:(0:Int)≤(k:Int):=by omega
   have hkn:(k:Int)<(n:Int):=by omega
   obtain⟨⟨u,f,d,bl⟩,xA,xn,xc⟩:=x;replace hbl:xn≤1000000:=hbl;have hbW:Below wr.heap.size wr (wr.alloc (.cells #[.int .i64 u,.int .i64 f,.int .i64 d,.slice xA xn xc] 108)):=(Below.refl _ _).alloc (Nat.le_refl _) _;have CM:=hiD (z6m u f d xA xn xc bl (wr.alloc (.cells #[.int .i64 u,.int .i64 f,.int .i64 d,.slice xA xn xc] 108)).drew (hin.1.below (q7.trans (hbW.drew.mono q7.size)) (Nat.le_refl _) |>.more (q7.trans (hbW.drew.mono q7.size)).size) (by omega));have HAT3:=hiD (HAT2.o.below hbW.drew);have HX:=hiD hx;have HGB:=hiD hgb;have HGL:=hiD (show g<((wr.alloc (.cells #[.int .i64 u,.int .i64 f,.int .i64 d,.slice xA xn xc] 108)).drew).heap.size from Nat.lt_of_lt_of_le hgl hbW.drew.size);have HSZ:=hiD (show w.heap.size+2≤((wr.alloc (.cells #[.int .i64 u,.int .i64 f,.int .i64 d,.slice xA xn xc] 108)).drew).heap.size from Nat.le_trans q8 hbW.drew.size)
   have HGM:=hiD (show wr.heap.size≠g by omega);have hbx:=(q5.alloc (.cells #[.int .i64 u,.int .i64 f,.int .i64 d,.slice xA xn xc] 108));have hmg:Bk (wr.alloc (.cells #[.int .i64 u,.int .i64 f,.int .i64 d,.slice xA xn xc] 108)) wr.heap.size 108 #[.int .i64 u,.int .i64 f,.int .i64 d,.slice xA xn xc]:=Bk.new _ _ _;have hwl:w.heap.size<wr.heap.size:=q5.lt;have hS0:((wr.alloc (.cells #[.int .i64 u,.int .i64 f,.int .i64 d,.slice xA xn xc] 108)).drew).cell? ⟨w.heap.size,3,none⟩=some (.slice (some ⟨g,0,none⟩) n c')∧(((wr.alloc (.cells #[.int .i64 u,.int .i64 f,.int .i64 d,.slice xA xn xc] 108)).drew).cell? ⟨wr.heap.size,0,none⟩=some (.int .i64 u)∧((wr.alloc (.cells #[.int .i64 u,.int .i64 f,.int .i64 d,.slice xA xn xc] 108)).drew).cell? ⟨wr.heap.size,1,none⟩=some (.int .i64 f)∧((wr.alloc (.cells #[.int .i64 u,.int .i64 f,.int .i64 d,.slice xA xn xc] 108)).drew).cell? ⟨wr.heap.size,2,none⟩=some (.int .i64 d)∧((wr.alloc (.cells #[.int .i64 u,.int .i64 f,.int .i64 d,.slice xA xn xc] 108)).drew).cell? ⟨wr.heap.size,3,none⟩=some (.slice xA xn xc)):=⟨hbx.cell 3,hmg.cell 0,hmg.cell 1,hmg.cell 2,hmg.cell 3⟩
   have HS0:=hiD hS0;clear hx hin hbl hrg q1 q2 q3 q4 q5 q6 q7 q8 hbx hmg hbW hS0 HAT2;go_wp2_with (with_reducible refine stn 16 ?_)
   refine held (wpList_load_mid rfl 108 (.tmp 15) rfl g (k*4) rfl _ _ HROW.o Tryz.underlying108 rfl (by kernel_rfl) ?_);unfold hdC;go_wp2_with fail
   obtain⟨bm,hbm⟩:∃ bm,wr.heap.size=bm:=⟨_,rfl⟩;rw[hbm] at hwl HS0 HGM ⊢;clear hbm HROW;refine wp_region_held_drew (S:=fun W'=>W'.cell? ⟨w.heap.size,3,none⟩=some (.slice (some ⟨g,0,none⟩) n c')∧(W'.cell? ⟨bm,0,none⟩=some (.int .i64 u)∧W'.cell? ⟨bm,1,none⟩=some (.int .i64 f)∧W'.cell? ⟨bm,2,none⟩=some (.int .i64 d)∧W'.cell? ⟨bm,3,none⟩=some (.slice xA xn xc))) hmx HS0.o (fun qch=>?_);generalize (wr.alloc (.cells #[.int .i64 u,.int .i64 f,.int .i64 d,.slice xA xn xc] 108)).drew=W at *;simp only[List.size_toArray,List.length_cons,List.length_nil,Nat.reduceAdd];refine tks (i:=0) (v:=.pointer (some ⟨w.heap.size,3,none⟩)) (s:=qch) (h:=?_);try simp only[nm0]
   refine tkx (i:=1) (v:=.slice (some ⟨g,0,none⟩) n c') (x:=fun w0 hC=>by simp[execOp,Act.eval,Act.put,go_sem,hC.1]) (s:=qch) (h:=?_);try simp only[nm0]
   refine tks (i:=2) (v:=.int .i64 (k:Int)) (s:=qch) (h:=?_);try simp only[nm0]
   refine tkx (i:=3) (v:=.agg #[.int .i64 u,.int .i64 f,.int .i64 d,.slice xA xn xc]) (x:=fun w0 hC=>by simp[execOp,Act.eval,Act.put,go_sem,hC.2.1,hC.2.2.1,hC.2.2.2.1,hC.2.2.2.2]) (s:=qch) (h:=?_);try simp only[nm0]
   refine rd1 (r:=4) (h:=fun K hK=>?_);go_wp2_with fail
   refine CM.o.mono ?_;rintro e W2 ⟨yA,yc,rfl,hy,hb2⟩;have hgW:g<W.heap.size:=HGL.o;have hws:=hb2.size;have hat4:=HAT3.o.below hb2;have HY:=hiD (hy.base_le HSZ.o);obtain⟨gs,q1,q2,q3,q4,q5,q6,q7,q8⟩:=hat4;obtain⟨g',e',_,_,hrg⟩:=q1.range (by omega);injection e' with e';injection e' with e';subst e';have hr:=row4 (hrg k _ (zls q2 HX.o));simp only at hr;obtain⟨r0,r1,r2,r3⟩:=hr;have hfr:=q1.rowF (by omega);have f0:=hfr (k*4);have f1:=hfr (k*4+1);have f2:=hfr (k*4+2);have f3':=hfr (k*4+3);have hS:W2.cell? ⟨w.heap.size,3,none⟩=some (.slice (some ⟨g,0,none⟩) n c')∧(W2.cell? ⟨bm,0,none⟩=some (.int .i64 u)∧W2.cell? ⟨bm,1,none⟩=some (.int .i64 f)∧W2.cell? ⟨bm,2,none⟩=some (.int .i64 d)∧W2.cell? ⟨bm,3,none⟩=some (.slice xA xn xc)) :=
    ⟨(hb2.cell (p:=⟨w.heap.size,3,none⟩) (World.block_lt_of_cell? _ _ qch.1)).trans qch.1,(hb2.cell (p:=⟨bm,0,none⟩) (World.block_lt_of_cell? _ _ qch.2.1)).trans qch.2.1,(hb2.cell (p:=⟨bm,1,none⟩) (World.block_lt_of_cell? _ _ qch.2.2.1)).trans qch.2.2.1,(hb2.cell (p:=⟨bm,2,none⟩) (World.block_lt_of_cell? _ _ qch.2.2.2.1)).trans qch.2.2.2.1,(hb2.cell (p:=⟨bm,3,none⟩) (World.block_lt_of_cell? _ _ qch.2.2.2.2)).trans qch.2.2.2.2⟩
   have HAT4:=hiD (HAT3.o.below hb2);clear q1 q2 q3 q4 q5 q6 q7 q8 hrg hfr qch hy hb2 hws HAT3 HS0;refine bkk hK hS fun qch=>?_;clear hK K;try simp only[nm0]
   have HS2:=hiD hS;clear hS;refine tkx (i:=5) (v:=.pointer (some ⟨g,k*4,none⟩)) (x:=fun w0 hC=>by simp[execOp,Act.eval,Act.put,go_sem,hk0,hkn,hlt]) (s:=qch) (h:=?_);try simp only[nm0]
   refine rd1 (r:=6) (h:=fun K hK=>?_);go_wp2_with fail
   have hS:(((((W2.setCell ⟨g,k*4,none⟩ (.int .i64 u)).setCell ⟨g,k*4+1,none⟩ (.int .i64 f)).setCell ⟨g,k*4+2,none⟩ (.int .i64 d)).setCell ⟨g,k*4+3,none⟩ (.slice yA xn yc))).cell? ⟨w.heap.size,3,none⟩=some (.slice (some ⟨g,0,none⟩) n c')∧(((((W2.setCell ⟨g,k*4,none⟩ (.int .i64 u)).setCell ⟨g,k*4+1,none⟩ (.int .i64 f)).setCell ⟨g,k*4+2,none⟩ (.int .i64 d)).setCell ⟨g,k*4+3,none⟩ (.slice yA xn yc)).cell? ⟨bm,0,none⟩=some (.int .i64 u)∧((((W2.setCell ⟨g,k*4,none⟩ (.int .i64 u)).setCell ⟨g,k*4+1,none⟩ (.int .i64 f)).setCell ⟨g,k*4+2,none⟩ (.int .i64 d)).setCell ⟨g,k*4+3,none⟩ (.slice yA xn yc)).cell? ⟨bm,1,none⟩=some (.int .i64 f)∧((((W2.setCell ⟨g,k*4,none⟩ (.int .i64 u)).setCell ⟨g,k*4+1,none⟩ (.int .i64 f)).setCell ⟨g,k*4+2,none⟩ (.int .i64 d)).setCell ⟨g,k*4+3,none⟩ (.slice yA xn yc)).cell? ⟨bm,2,none⟩=some (.int .i64 d)∧((((W2.setCell ⟨g,k*4,none⟩ (.int .i64 u)).setCell ⟨g,k*4+1,none⟩ (.int .i64 f)).setCell ⟨g,k*4+2,none⟩ (.int .i64 d)).setCell ⟨g,k*4+3,none⟩ (.slice yA xn yc)).cell? ⟨bm,3,none⟩=some (.slice xA xn xc)):=by
    have hg:=zi3 W2 g (k*4) (.int .i64 u) (.int .i64 f) (.int .i64 d) (.slice yA xn yc);exact⟨hg.cell HS2.o.1 (fun e=>by injection e with e;have:=HGB.o;simp only at e;omega),hg.cell HS2.o.2.1 (fun e=>by injection e with e;have:=HGM.o;simp only at e;omega),hg.cell HS2.o.2.2.1 (fun e=>by injection e with e;have:=HGM.o;simp only at e;omega),hg.cell HS2.o.2.2.2.1 (fun e=>by injection e with e;have:=HGM.o;simp only at e;omega),hg.cell HS2.o.2.2.2.2 (fun e=>by injection e with e;have:=HGM.o;simp only at e;omega)⟩
   refine bkk hK hS fun qch=>?_;clear hK K;try simp only[nm0]
   refine wpAnyH_done (by kernel_rfl) ?_ _;have HAT5:=hiD (HAT4.o.next HX.o HY.o);clear qch hS HS2 HAT4 HY r0 r1 r2 r3 f0 f1 f2 f3' CM;go_wp2_with fail
   go_roundw
   case rel=>exact⟨k+1,by omega,by go_num,HAT5.o⟩
   case measure=>simp[intOf];omega
  ·have hkn:¬ (k:Int)<(n:Int):=by omega
   obtain rfl:n=k:=by omega
   obtain⟨gs,q1,q2,q3,q4,q5,q6,q7,q8⟩:=HAT2.o;have HO4:Hid (OwnM wr (w.heap.size+2) A' n c' (hs.map Hd.m)):=hiD ⟨gs,by rw[List.drop_eq_nil_of_le (by rw[HL.o];omega),List.append_nil] at q1;exact q1,q3,by rw[q4,List.take_of_length_le (by rw[HL.o];omega)]⟩;have HE2:=hiD q6;have HB2:=hiD q7;obtain⟨⟨d0,d1,d2,d3⟩,g0,g1,g2,g3⟩:=q5.four;obtain⟨⟨p0,p1,p2,p3⟩,t0,t1,t2,t3⟩:=q6.four;clear q1 q2 q3 q4 q5 q6 q7 q8 HAT2;go_wp2_with fail
   refine bodyPost_ret (qi (a:=⟨w.heap.size+1,0,none⟩) rfl rfl (Bk.box_ (Bk.put4 HE2.o _ _ _ _))) rfl ⟨A',c',rfl,?_,?_⟩
   ·exact(HO4.o.far (zi1 _ _ _ _ _ _) (by omega)).from_ (by omega)
   ·exact zlq HB2.o (by omega) _ _ _ _
theorem zsq (a b:ByteArray):(a.toList == b.toList)=decide (a=b):=by
 rw[ByteArray.toList_eq,ByteArray.toList_eq];by_cases h:a=b
 ·subst h;simp
 ·have : ¬ a.data.toList = b.data.toList := fun e => h (by
   obtain⟨⟨x⟩⟩:=a;obtain⟨⟨y⟩⟩:=b;simp only at e
   rw[e])
  have h2:¬ a.data=b.data:=fun e=>this (by rw[e]);simp[h,h2]
def SaysB (q:Bool)(w:World)(e:Ending)(w':World):Prop:=e=.returned (.bool q)∧Below w.heap.size w w'
def LastIs (l:List Mg)(k:Nat)(la:Int):Prop:=(k=0∧la=0)∨∃ j p,k=j+1∧l[j]?=some p∧la=p.uid
theorem z61 {l:List Mg}{k:Nat}{a:Mg}(ha:l[k]?=some a):LastIs l (k+1) a.uid:=.inr ⟨k,a,rfl,ha,rfl⟩
theorem z62 {nx la:Int}{l:List Mg}{k:Nat}{a:Mg}(h:OkTo nx (l.take k))(hl:LastIs l k la)(ha:l[k]?=some a)(h1:okMg a=true)(h2:¬ nx≤a.uid)(h3:¬ a.uid≤la):OkTo nx (l.take (k+1)):=by
 rcases hl with ⟨rfl,rfl⟩|⟨j,p,rfl,hp,rfl⟩
 ·exact zyh ha h1 (by omega)
 ·exact zyi h hp ha h1 (by omega) (by omega)
theorem z63 {nx la:Int}{l:List Mg}{k:Nat}{a:Mg}(hl:LastIs l k la)(ha:l[k]?=some a)(h3:a.uid≤la):¬ OkTo nx l:=by
 rcases hl with ⟨rfl,rfl⟩|⟨j,p,rfl,hp,rfl⟩
 ·intro h
  have:=(zfb (h.1 a (List.mem_of_getElem? ha)).1).1;omega
 ·exact zyk hp ha h3
theorem z64 {nx:Int}{l:List Mg}{k:Nat}{a:Mg}(ha:l[k]?=some a)(h:okMg a=false):¬ OkTo nx l:=fun H=>by
 have:=(H.1 a (List.mem_of_getElem? ha)).1;rw[h] at this;cases this
theorem z65 {nx:Int}{l:List Mg}{k:Nat}{a:Mg}(ha:l[k]?=some a)(h:nx≤a.uid):¬ OkTo nx l:=fun H=>by
 have:=(H.1 a (List.mem_of_getElem? ha)).2;omega
theorem zlt {nm:ByteArray}{v nx:Int}{l:List Mg}(h:¬ OkTo nx l):okBx ⟨nm,v,nx,l⟩=false:=zfa (fun q=>h q.2.2.2.2.2)
theorem zsr (nm:ByteArray)(v nx:Int)(A:Option Addr)(n c:Nat)(l:List Mg)(w:World)(hl:MsgsIn w w.heap.size A n l)(hn:n≤140737488355328) :
 Calls Tryz.prog 164 #[.agg #[.string nm,.int .i64 v,.int .i64 nx,.slice A n c]] w fun e w'=>e=.returned (.bool (okBx ⟨nm,v,nx,l⟩))∧Below w.heap.size w w':=by
 have h1:Bk (w.alloc (.cells #[.string nm,.int .i64 v,.int .i64 nx,.slice A n c] 76)) w.heap.size 76 #[.string nm,.int .i64 v,.int .i64 nx,.slice A n c]:=Bk.new _ _ _;have hB:Below w.heap.size w (w.alloc (.cells #[.string nm,.int .i64 v,.int .i64 nx,.slice A n c] 76)):=(Below.refl _ _).alloc (Nat.le_refl _) _;have HL:=hiD hl;have HN:=hiD hl.len;have HB:=hiD hB;have H1:=hiD h1;have HZ:Hid ((w.alloc (.cells #[.string nm,.int .i64 v,.int .i64 nx,.slice A n c] 76)).heap.size=w.heap.size+1):=hiD (by simp);have c1:=h1.cell 1;have c2:=h1.cell 2;have c3:=h1.cell 3;clear h1 hB hl;cases hv:zcx v
 ·have HR:Hid (okBx ⟨nm,v,nx,l⟩=false):=hiD (zfa (fun q=>by rw[show zcx v=true from decide_eq_true ⟨q.1,q.2.1⟩] at hv;cases hv))
  have HV:=hiD hv;clear hv;go_enter Tryz.func164,Tryz.ntmps164
  go_wp2_with fail
  refine(zcq v _).mono ?_;rintro e w' ⟨rfl,rfl⟩;rw[HV.o];go_wp2_with fail
  go_ret;exact⟨by rw[HR.o]<;>rfl,HB.o⟩
 have HVV:Hid (1≤v∧v≤4294967295):=hiD (of_decide_eq_true hv);by_cases h1:nx<1
 ·have HR:Hid (okBx ⟨nm,v,nx,l⟩=false):=hiD (zfa (fun q=>by have:=q.2.2.1;simp only at this;omega))
  have HV:=hiD hv;clear hv;go_enter Tryz.func164,Tryz.ntmps164
  go_wp2_with fail
  refine(zcq v _).mono ?_;rintro e w' ⟨rfl,rfl⟩;rw[HV.o];go_wp2_with fail
  go_ret;exact⟨by rw[HR.o]<;>rfl,HB.o⟩
 by_cases h2:4294967296<nx
 ·have HR:Hid (okBx ⟨nm,v,nx,l⟩=false):=hiD (zfa (fun q=>by have:=q.2.2.2.1;simp only at this;omega))
  have HV:=hiD hv;clear hv;go_enter Tryz.func164,Tryz.ntmps164
  go_wp2_with fail
  refine(zcq v _).mono ?_;rintro e w' ⟨rfl,rfl⟩;rw[HV.o];go_wp2_with fail
  go_ret;exact⟨by rw[HR.o]<;>rfl,HB.o⟩
 by_cases h3:40<n
 ·have HR:Hid (okBx ⟨nm,v,nx,l⟩=false):=hiD (zfa (fun q=>by have:=q.2.2.2.2.1;simp only at this;rw[HN.o] at this;omega))
  have h3':(40:Int)<(n:Int):=by omega
  have HV:=hiD hv;clear hv;go_enter Tryz.func164,Tryz.ntmps164
  go_wp2_with fail
  refine(zcq v _).mono ?_;rintro e w' ⟨rfl,rfl⟩;rw[HV.o];go_wp2_with fail
  go_ret;exact⟨by rw[HR.o]<;>rfl,HB.o⟩
 have h3':¬ (40:Int)<(n:Int):=by omega
 have HYES:Hid (OkTo nx l→okBx ⟨nm,v,nx,l⟩=true):=hiD (fun h=>zpj ⟨HVV.o.1,HVV.o.2,by show 1≤nx;omega,by show nx≤_;omega,by show l.length≤40;rw[HN.o];omega,h⟩);have HV:=hiD hv;clear hv;go_enter Tryz.func164,Tryz.ntmps164
 go_wp2_with fail
 refine(zcq v _).mono ?_;rintro e w' ⟨rfl,rfl⟩;rw[HV.o];go_wp2_with fail
 generalize w.alloc (.cells #[.string nm,.int .i64 v,.int .i64 nx,.slice A n c] 76)=w1 at *
 go_loopw [3,29] (fun t i wx=>∃ (k:Nat) (la:Int),k≤n∧i=.int .i64 (k:Int)∧t=.int .i64 la∧LastIs l k la∧OkTo nx (l.take k)∧Below (w.heap.size+1) w1 wx) (fun _ i _=>n-(intOf i).toNat)
 case atStart=>exact⟨0,0,Nat.zero_le _,rfl,rfl,.inl ⟨rfl,rfl⟩,zyg _ _,Below.refl _ _⟩
 case round =>
  obtain⟨k,la,hk,rfl,rfl,hla,ho,hb⟩:=hrel;have HLA:=hiD hla;have HO:=hiD ho;have HBR:=hiD hb;have HB2:=hiD (HB.o.trans (hb.mono (by omega)));have HS1:=hiD (show w.heap.size+1≤wr.heap.size by have:=hb.size;rw[HZ.o] at this;exact this);have HE:=hiD (H1.o.below hb (by omega));clear hla ho hb c1 c2 c3;by_cases hlt:k<n
  ·obtain⟨b,o,x,rfl,hbb,hlk,htk,hrow,hin⟩:=(HL.o.below HB2.o (Nat.le_refl _)).at_ hlt
   have HLK:=hiD hlk;have HROW:=hiD hrow;have hk0:(0:Int)≤(k:Int):=by omega
   have hkn:(k:Int)<(n:Int):=by omega
   obtain⟨⟨u,f,d,bl⟩,xA,xn,xc⟩:=x;have CM:=hiD (z6t u f d xA xn xc bl (wr.alloc (.cells #[.int .i64 u,.int .i64 f,.int .i64 d,.slice xA xn xc] 108)) hin.1.1 hin.2);have HBN:=hiD ((HBR.o.alloc HS1.o (.cells #[.int .i64 u,.int .i64 f,.int .i64 d,.slice xA xn xc] 108)).alloc (by have:=HS1.o;simp;omega) (.cells #[.int .i64 u,.int .i64 f,.int .i64 d,.slice xA xn xc] 108));have HBW:=hiD ((HB2.o.alloc HB2.o.size (.cells #[.int .i64 u,.int .i64 f,.int .i64 d,.slice xA xn xc] 108)).alloc (by have:=HB2.o.size;simp;omega) (.cells #[.int .i64 u,.int .i64 f,.int .i64 d,.slice xA xn xc] 108));have hm1:Bk ((wr.alloc (.cells #[.int .i64 u,.int .i64 f,.int .i64 d,.slice xA xn xc] 108)).alloc (.cells #[.int .i64 u,.int .i64 f,.int .i64 d,.slice xA xn xc] 108)) wr.heap.size 108 #[.int .i64 u,.int .i64 f,.int .i64 d,.slice xA xn xc]:=(Bk.new _ _ _).alloc _
   have hx2:((wr.alloc (.cells #[.int .i64 u,.int .i64 f,.int .i64 d,.slice xA xn xc] 108)).alloc (.cells #[.int .i64 u,.int .i64 f,.int .i64 d,.slice xA xn xc] 108)).cell? ⟨w.heap.size,2,none⟩=some (.int .i64 nx):=(((HE.o.alloc _).alloc _).cell 2).trans rfl;have m0:=hm1.cell 0;have HM0:=hiD m0;have HX2:=hiD hx2;clear hlk htk hrow hin hm1 m0 hx2;cases hm:okMg ⟨u,f,d,bl⟩
   ·have HR:=hiD (zlt (nm:=nm) (v:=v) (z64 (nx:=nx) HLK.o hm))
    have HM:=hiD hm;clear hm;go_wp2_with (with_reducible refine stn 32 ?_)
    refine held (wpList_load_mid rfl 108 (.tmp 31) rfl b (o+k*4) rfl _ _ HROW.o Tryz.underlying108 rfl (by kernel_rfl) ?_);unfold hdC;go_wp2_with fail
    refine CM.o.mono ?_;rintro e w' ⟨rfl,rfl⟩;rw[HM.o];have m0:=HM0.o;have hx2:=HX2.o;go_wp2_with fail
    go_ret;exact⟨by rw[HR.o]<;>rfl,HBW.o⟩
   by_cases h4:u≤la
   ·have HR:=hiD (zlt (nm:=nm) (v:=v) (z63 (nx:=nx) HLA.o HLK.o h4))
    have HM:=hiD hm;clear hm;go_wp2_with (with_reducible refine stn 32 ?_)
    refine held (wpList_load_mid rfl 108 (.tmp 31) rfl b (o+k*4) rfl _ _ HROW.o Tryz.underlying108 rfl (by kernel_rfl) ?_);unfold hdC;go_wp2_with fail
    refine CM.o.mono ?_;rintro e w' ⟨rfl,rfl⟩;rw[HM.o];have m0:=HM0.o;have hx2:=HX2.o;go_wp2_with fail
    go_ret;exact⟨by rw[HR.o]<;>rfl,HBW.o⟩
   by_cases h5:nx≤u
   ·have HR:=hiD (zlt (nm:=nm) (v:=v) (z65 (nx:=nx) HLK.o h5))
    have HM:=hiD hm;clear hm;go_wp2_with (with_reducible refine stn 32 ?_)
    refine held (wpList_load_mid rfl 108 (.tmp 31) rfl b (o+k*4) rfl _ _ HROW.o Tryz.underlying108 rfl (by kernel_rfl) ?_);unfold hdC;go_wp2_with fail
    refine CM.o.mono ?_;rintro e w' ⟨rfl,rfl⟩;rw[HM.o];have m0:=HM0.o;have hx2:=HX2.o;go_wp2_with fail
    go_ret;exact⟨by rw[HR.o]<;>rfl,HBW.o⟩
   have HN2:=hiD (z62 HO.o HLA.o HLK.o hm h5 h4);have HM:=hiD hm;clear hm;go_wp2_with (with_reducible refine stn 32 ?_)
   refine held (wpList_load_mid rfl 108 (.tmp 31) rfl b (o+k*4) rfl _ _ HROW.o Tryz.underlying108 rfl (by kernel_rfl) ?_);unfold hdC;go_wp2_with fail
   refine CM.o.mono ?_;rintro e w' ⟨rfl,rfl⟩;rw[HM.o];have m0:=HM0.o;have hx2:=HX2.o;go_wp2_with fail
   go_roundw
   case rel=>exact⟨k+1,u,by omega,by go_num,rfl,z61 HLK.o,HN2.o,HBN.o⟩
   case measure=>simp[intOf];omega
  ·have hkn:¬ (k:Int)<(n:Int):=by omega
   have HR:Hid (okBx ⟨nm,v,nx,l⟩=true):=hiD (HYES.o (zyj HO.o (by rw[HN.o];omega)));go_wp2_with fail
   go_ret;exact⟨by rw[HR.o]<;>rfl,HB2.o⟩
end Go.Proofs.YtmjjefnmabbgdaaGreatDoor
