/- A part of the proof. -/
import Derived.Test.YtmjjefnmabbgdaaGreatDoorSEventA
namespace Go.Proofs.YtmjjefnmabbgdaaGreatDoor
set_option linter.unusedVariables false
set_option linter.unusedSimpArgs false
set_option maxRecDepth 100000
set_option maxHeartbeats 16000000
open Go.RowKit
theorem qa6 (h g:Eh)(w:World)(Hh:EvIn w w.heap.size h)(Hg:EvIn w w.heap.size g):Calls Tryz.prog 19 #[.agg (evC h),.agg (evC g)] w (SameIs h g w):=by
 obtain⟨⟨k,t,bx,tO,ids,st,md,fl,dt,nn,bd⟩,A1,n1,c1,A2,n2,c2,A3,n3,c3⟩:=h;obtain⟨⟨k',t',bx',to',ids',st',md',fl',dt',nn',bd'⟩,B1,m1,d1,B2,m2,d2,B3,m3,d3⟩:=g;have HH:=hiD Hh;have HG:=hiD Hg;clear Hh Hg
 show Calls Tryz.prog 19 #[.agg #[.int .i64 k,.int .i64 t,.string bx,.string tO,.slice A1 n1 c1,.slice A2 n2 c2,.int .i64 md,.int .i64 fl,.int .i64 dt,.int .i64 nn,.slice A3 n3 c3],.agg #[.int .i64 k',.int .i64 t',.string bx',.string to',.slice B1 m1 d1,.slice B2 m2 d2,.int .i64 md',.int .i64 fl',.int .i64 dt',.int .i64 nn',.slice B3 m3 d3]] w _
 by_cases hx:k=k'
 ·subst hx
  by_cases hx:t=t'
  ·subst hx
   by_cases hx:bx=bx'
   ·subst hx
    by_cases hx:tO=to'
    ·subst hx
     by_cases hx:ids=ids'
     ·subst hx
      by_cases hx:st=st'
      ·subst hx
       by_cases hx:md=md'
       ·subst hx
        by_cases hx:fl=fl'
        ·subst hx
         by_cases hx:dt=dt'
         ·subst hx
          by_cases hx:nn=nn'
          ·subst hx
           by_cases hx:bd=bd'
           ·subst hx
            have HR:Hid (evEq ⟨k,t,bx,tO,ids,st,md,fl,dt,nn,bd⟩ ⟨k,t,bx,tO,ids,st,md,fl,dt,nn,bd⟩=true):=hiD (by simp[evEq]);go_enter Tryz.func19,Tryz.ntmps19
            go_wp2_with fail
            refine qb (fun W=>Bk W w.heap.size 50 #[.int .i64 k,.int .i64 t,.string bx,.string tO,.slice A1 n1 c1,.slice A2 n2 c2,.int .i64 md,.int .i64 fl,.int .i64 dt,.int .i64 nn,.slice A3 n3 c3]∧Bk W (w.heap.size+1) 50 #[.int .i64 k,.int .i64 t,.string bx,.string tO,.slice B1 m1 d1,.slice B2 m2 d2,.int .i64 md,.int .i64 fl,.int .i64 dt,.int .i64 nn,.slice B3 m3 d3]∧Below w.heap.size w W) ⟨(Bk.new _ _ _).alloc _,Bk.new2 _ _ _ _,((Below.refl _ _).alloc (Nat.le_refl _) _).alloc (by simp) _⟩ ?_;rintro W ⟨q1,q2,q3⟩;have Q1:=hiD q1;have Q2:=hiD q2;have Q3:=hiD q3;clear q1 q2 q3;have CC:=hiD (zd7 A1 B1 n1 c1 m1 d1 _ _ W (HH.o.later Q3.o).1 (HG.o.later Q3.o).1 HH.o.2.2.2.1 HG.o.2.2.2.1);rw[decide_eq_true rfl] at CC;refine CC.o.mono ?_;rintro e W1 ⟨rfl,q,hq⟩;clear CC;replace Q1:=hiD (show Bk W1 _ _ _ by rw[hq];exact Q1.o.drewNE q)
            replace Q2:=hiD (show Bk W1 _ _ _ by rw[hq];exact Q2.o.drewNE q);replace Q3:=hiD (show Below w.heap.size w W1 by rw[hq];exact qo Q3.o q);clear hq;obtain⟨⟨x0,x1,x2,x3,x4,x5⟩,x6,x7,x8,x9,x10⟩:=Q1.o.evs;obtain⟨⟨y0,y1,y2,y3,y4,y5⟩,y6,y7,y8,y9,y10⟩:=Q2.o.evs;go_wp2_with fail
            clear x0 x1 x2 x3 x4 x5 x6 x7 x8 x9 x10 y0 y1 y2 y3 y4 y5 y6 y7 y8 y9 y10;have CC:=hiD (zep A2 B2 n2 c2 m2 d2 _ _ W1 (HH.o.later Q3.o).2.1 (HG.o.later Q3.o).2.1 HH.o.2.2.2.2.1 HG.o.2.2.2.2.1);rw[decide_eq_true rfl] at CC;refine CC.o.mono ?_;rintro e W2 ⟨rfl,q,hq⟩;clear CC;replace Q1:=hiD (show Bk W2 _ _ _ by rw[hq];exact Q1.o.drewNE q);replace Q2:=hiD (show Bk W2 _ _ _ by rw[hq];exact Q2.o.drewNE q);replace Q3:=hiD (show Below w.heap.size w W2 by rw[hq];exact qo Q3.o q);clear hq;obtain⟨⟨x0,x1,x2,x3,x4,x5⟩,x6,x7,x8,x9,x10⟩:=Q1.o.evs;obtain⟨⟨y0,y1,y2,y3,y4,y5⟩,y6,y7,y8,y9,y10⟩:=Q2.o.evs;go_wp2_with fail
            clear x0 x1 x2 x3 x4 x5 x6 x7 x8 x9 x10 y0 y1 y2 y3 y4 y5 y6 y7 y8 y9 y10;have CC:=hiD (zrg A3 n3 c3 _ _ B3 m3 d3 _ _ W2 (HH.o.later Q3.o).2.2.1 (HG.o.later Q3.o).2.2.1);rw[decide_eq_true rfl] at CC;refine CC.o.mono ?_;rintro e w' ⟨rfl,rfl⟩;clear CC;go_wp2_with fail
            go_ret;exact⟨by rw[HR.o]<;>rfl,Q3.o⟩
           ·
            have HR:Hid (evEq ⟨k,t,bx,tO,ids,st,md,fl,dt,nn,bd⟩ ⟨k,t,bx,tO,ids,st,md,fl,dt,nn,bd'⟩=false):=hiD (by simp[evEq,hx]);have HNE:=hiD (show decide (bd=bd')=false from decide_eq_false hx);clear hx;go_enter Tryz.func19,Tryz.ntmps19
            go_wp2_with fail
            refine qb (fun W=>Bk W w.heap.size 50 #[.int .i64 k,.int .i64 t,.string bx,.string tO,.slice A1 n1 c1,.slice A2 n2 c2,.int .i64 md,.int .i64 fl,.int .i64 dt,.int .i64 nn,.slice A3 n3 c3]∧Bk W (w.heap.size+1) 50 #[.int .i64 k,.int .i64 t,.string bx,.string tO,.slice B1 m1 d1,.slice B2 m2 d2,.int .i64 md,.int .i64 fl,.int .i64 dt,.int .i64 nn,.slice B3 m3 d3]∧Below w.heap.size w W) ⟨(Bk.new _ _ _).alloc _,Bk.new2 _ _ _ _,((Below.refl _ _).alloc (Nat.le_refl _) _).alloc (by simp) _⟩ ?_;rintro W ⟨q1,q2,q3⟩;have Q1:=hiD q1;have Q2:=hiD q2;have Q3:=hiD q3;clear q1 q2 q3;have CC:=hiD (zd7 A1 B1 n1 c1 m1 d1 _ _ W (HH.o.later Q3.o).1 (HG.o.later Q3.o).1 HH.o.2.2.2.1 HG.o.2.2.2.1);rw[decide_eq_true rfl] at CC;refine CC.o.mono ?_;rintro e W1 ⟨rfl,q,hq⟩;clear CC;replace Q1:=hiD (show Bk W1 _ _ _ by rw[hq];exact Q1.o.drewNE q)
            replace Q2:=hiD (show Bk W1 _ _ _ by rw[hq];exact Q2.o.drewNE q);replace Q3:=hiD (show Below w.heap.size w W1 by rw[hq];exact qo Q3.o q);clear hq;obtain⟨⟨x0,x1,x2,x3,x4,x5⟩,x6,x7,x8,x9,x10⟩:=Q1.o.evs;obtain⟨⟨y0,y1,y2,y3,y4,y5⟩,y6,y7,y8,y9,y10⟩:=Q2.o.evs;go_wp2_with fail
            clear x0 x1 x2 x3 x4 x5 x6 x7 x8 x9 x10 y0 y1 y2 y3 y4 y5 y6 y7 y8 y9 y10;have CC:=hiD (zep A2 B2 n2 c2 m2 d2 _ _ W1 (HH.o.later Q3.o).2.1 (HG.o.later Q3.o).2.1 HH.o.2.2.2.2.1 HG.o.2.2.2.2.1);rw[decide_eq_true rfl] at CC;refine CC.o.mono ?_;rintro e W2 ⟨rfl,q,hq⟩;clear CC;replace Q1:=hiD (show Bk W2 _ _ _ by rw[hq];exact Q1.o.drewNE q);replace Q2:=hiD (show Bk W2 _ _ _ by rw[hq];exact Q2.o.drewNE q);replace Q3:=hiD (show Below w.heap.size w W2 by rw[hq];exact qo Q3.o q);clear hq;obtain⟨⟨x0,x1,x2,x3,x4,x5⟩,x6,x7,x8,x9,x10⟩:=Q1.o.evs;obtain⟨⟨y0,y1,y2,y3,y4,y5⟩,y6,y7,y8,y9,y10⟩:=Q2.o.evs;go_wp2_with fail
            clear x0 x1 x2 x3 x4 x5 x6 x7 x8 x9 x10 y0 y1 y2 y3 y4 y5 y6 y7 y8 y9 y10;have CC:=hiD (zrg A3 n3 c3 _ _ B3 m3 d3 _ _ W2 (HH.o.later Q3.o).2.2.1 (HG.o.later Q3.o).2.2.1)
            dsimp only at CC;rw[HNE.o] at CC
            refine CC.o.mono ?_;rintro e w' ⟨rfl,rfl⟩;clear CC;go_wp2_with fail
            go_ret;exact⟨by rw[HR.o]<;>rfl,Q3.o⟩
          ·
           have HR:Hid (evEq ⟨k,t,bx,tO,ids,st,md,fl,dt,nn,bd⟩ ⟨k,t,bx,tO,ids,st,md,fl,dt,nn',bd'⟩=false):=hiD (by simp[evEq,hx]);have hne:=jf hx;clear hx;go_enter Tryz.func19,Tryz.ntmps19
           go_wp2_with fail
           refine qb (fun W=>Bk W w.heap.size 50 #[.int .i64 k,.int .i64 t,.string bx,.string tO,.slice A1 n1 c1,.slice A2 n2 c2,.int .i64 md,.int .i64 fl,.int .i64 dt,.int .i64 nn,.slice A3 n3 c3]∧Bk W (w.heap.size+1) 50 #[.int .i64 k,.int .i64 t,.string bx,.string tO,.slice B1 m1 d1,.slice B2 m2 d2,.int .i64 md,.int .i64 fl,.int .i64 dt,.int .i64 nn',.slice B3 m3 d3]∧Below w.heap.size w W) ⟨(Bk.new _ _ _).alloc _,Bk.new2 _ _ _ _,((Below.refl _ _).alloc (Nat.le_refl _) _).alloc (by simp) _⟩ ?_;rintro W ⟨q1,q2,q3⟩;have Q1:=hiD q1;have Q2:=hiD q2;have Q3:=hiD q3;clear q1 q2 q3;have CC:=hiD (zd7 A1 B1 n1 c1 m1 d1 _ _ W (HH.o.later Q3.o).1 (HG.o.later Q3.o).1 HH.o.2.2.2.1 HG.o.2.2.2.1);rw[decide_eq_true rfl] at CC;refine CC.o.mono ?_;rintro e W1 ⟨rfl,q,hq⟩;clear CC;replace Q1:=hiD (show Bk W1 _ _ _ by rw[hq];exact Q1.o.drewNE q)
           replace Q2:=hiD (show Bk W1 _ _ _ by rw[hq];exact Q2.o.drewNE q);replace Q3:=hiD (show Below w.heap.size w W1 by rw[hq];exact qo Q3.o q);clear hq;obtain⟨⟨x0,x1,x2,x3,x4,x5⟩,x6,x7,x8,x9,x10⟩:=Q1.o.evs;obtain⟨⟨y0,y1,y2,y3,y4,y5⟩,y6,y7,y8,y9,y10⟩:=Q2.o.evs;go_wp2_with fail
           clear x0 x1 x2 x3 x4 x5 x6 x7 x8 x9 x10 y0 y1 y2 y3 y4 y5 y6 y7 y8 y9 y10;have CC:=hiD (zep A2 B2 n2 c2 m2 d2 _ _ W1 (HH.o.later Q3.o).2.1 (HG.o.later Q3.o).2.1 HH.o.2.2.2.2.1 HG.o.2.2.2.2.1);rw[decide_eq_true rfl] at CC;refine CC.o.mono ?_;rintro e W2 ⟨rfl,q,hq⟩;clear CC;replace Q1:=hiD (show Bk W2 _ _ _ by rw[hq];exact Q1.o.drewNE q);replace Q2:=hiD (show Bk W2 _ _ _ by rw[hq];exact Q2.o.drewNE q);replace Q3:=hiD (show Below w.heap.size w W2 by rw[hq];exact qo Q3.o q);clear hq;obtain⟨⟨x0,x1,x2,x3,x4,x5⟩,x6,x7,x8,x9,x10⟩:=Q1.o.evs;obtain⟨⟨y0,y1,y2,y3,y4,y5⟩,y6,y7,y8,y9,y10⟩:=Q2.o.evs;go_wp2_with fail
           clear x0 x1 x2 x3 x4 x5 x6 x7 x8 x9 x10 y0 y1 y2 y3 y4 y5 y6 y7 y8 y9 y10;go_ret;exact⟨by rw[HR.o]<;>rfl,Q3.o⟩
         ·
          have HR:Hid (evEq ⟨k,t,bx,tO,ids,st,md,fl,dt,nn,bd⟩ ⟨k,t,bx,tO,ids,st,md,fl,dt',nn',bd'⟩=false):=hiD (by simp[evEq,hx]);have hne:=jf hx;clear hx;go_enter Tryz.func19,Tryz.ntmps19
          go_wp2_with fail
          refine qb (fun W=>Bk W w.heap.size 50 #[.int .i64 k,.int .i64 t,.string bx,.string tO,.slice A1 n1 c1,.slice A2 n2 c2,.int .i64 md,.int .i64 fl,.int .i64 dt,.int .i64 nn,.slice A3 n3 c3]∧Bk W (w.heap.size+1) 50 #[.int .i64 k,.int .i64 t,.string bx,.string tO,.slice B1 m1 d1,.slice B2 m2 d2,.int .i64 md,.int .i64 fl,.int .i64 dt',.int .i64 nn',.slice B3 m3 d3]∧Below w.heap.size w W) ⟨(Bk.new _ _ _).alloc _,Bk.new2 _ _ _ _,((Below.refl _ _).alloc (Nat.le_refl _) _).alloc (by simp) _⟩ ?_;rintro W ⟨q1,q2,q3⟩;have Q1:=hiD q1;have Q2:=hiD q2;have Q3:=hiD q3;clear q1 q2 q3;have CC:=hiD (zd7 A1 B1 n1 c1 m1 d1 _ _ W (HH.o.later Q3.o).1 (HG.o.later Q3.o).1 HH.o.2.2.2.1 HG.o.2.2.2.1);rw[decide_eq_true rfl] at CC;refine CC.o.mono ?_;rintro e W1 ⟨rfl,q,hq⟩;clear CC;replace Q1:=hiD (show Bk W1 _ _ _ by rw[hq];exact Q1.o.drewNE q)
          replace Q2:=hiD (show Bk W1 _ _ _ by rw[hq];exact Q2.o.drewNE q);replace Q3:=hiD (show Below w.heap.size w W1 by rw[hq];exact qo Q3.o q);clear hq;obtain⟨⟨x0,x1,x2,x3,x4,x5⟩,x6,x7,x8,x9,x10⟩:=Q1.o.evs;obtain⟨⟨y0,y1,y2,y3,y4,y5⟩,y6,y7,y8,y9,y10⟩:=Q2.o.evs;go_wp2_with fail
          clear x0 x1 x2 x3 x4 x5 x6 x7 x8 x9 x10 y0 y1 y2 y3 y4 y5 y6 y7 y8 y9 y10;have CC:=hiD (zep A2 B2 n2 c2 m2 d2 _ _ W1 (HH.o.later Q3.o).2.1 (HG.o.later Q3.o).2.1 HH.o.2.2.2.2.1 HG.o.2.2.2.2.1);rw[decide_eq_true rfl] at CC;refine CC.o.mono ?_;rintro e W2 ⟨rfl,q,hq⟩;clear CC;replace Q1:=hiD (show Bk W2 _ _ _ by rw[hq];exact Q1.o.drewNE q);replace Q2:=hiD (show Bk W2 _ _ _ by rw[hq];exact Q2.o.drewNE q);replace Q3:=hiD (show Below w.heap.size w W2 by rw[hq];exact qo Q3.o q);clear hq;obtain⟨⟨x0,x1,x2,x3,x4,x5⟩,x6,x7,x8,x9,x10⟩:=Q1.o.evs;obtain⟨⟨y0,y1,y2,y3,y4,y5⟩,y6,y7,y8,y9,y10⟩:=Q2.o.evs;go_wp2_with fail
          clear x0 x1 x2 x3 x4 x5 x6 x7 x8 x9 x10 y0 y1 y2 y3 y4 y5 y6 y7 y8 y9 y10;go_ret;exact⟨by rw[HR.o]<;>rfl,Q3.o⟩
        ·
         have HR:Hid (evEq ⟨k,t,bx,tO,ids,st,md,fl,dt,nn,bd⟩ ⟨k,t,bx,tO,ids,st,md,fl',dt',nn',bd'⟩=false):=hiD (by simp[evEq,hx]);have hne:=jf hx;clear hx;go_enter Tryz.func19,Tryz.ntmps19
         go_wp2_with fail
         refine qb (fun W=>Bk W w.heap.size 50 #[.int .i64 k,.int .i64 t,.string bx,.string tO,.slice A1 n1 c1,.slice A2 n2 c2,.int .i64 md,.int .i64 fl,.int .i64 dt,.int .i64 nn,.slice A3 n3 c3]∧Bk W (w.heap.size+1) 50 #[.int .i64 k,.int .i64 t,.string bx,.string tO,.slice B1 m1 d1,.slice B2 m2 d2,.int .i64 md,.int .i64 fl',.int .i64 dt',.int .i64 nn',.slice B3 m3 d3]∧Below w.heap.size w W) ⟨(Bk.new _ _ _).alloc _,Bk.new2 _ _ _ _,((Below.refl _ _).alloc (Nat.le_refl _) _).alloc (by simp) _⟩ ?_;rintro W ⟨q1,q2,q3⟩;have Q1:=hiD q1;have Q2:=hiD q2;have Q3:=hiD q3;clear q1 q2 q3;have CC:=hiD (zd7 A1 B1 n1 c1 m1 d1 _ _ W (HH.o.later Q3.o).1 (HG.o.later Q3.o).1 HH.o.2.2.2.1 HG.o.2.2.2.1);rw[decide_eq_true rfl] at CC;refine CC.o.mono ?_;rintro e W1 ⟨rfl,q,hq⟩;clear CC;replace Q1:=hiD (show Bk W1 _ _ _ by rw[hq];exact Q1.o.drewNE q)
         replace Q2:=hiD (show Bk W1 _ _ _ by rw[hq];exact Q2.o.drewNE q);replace Q3:=hiD (show Below w.heap.size w W1 by rw[hq];exact qo Q3.o q);clear hq;obtain⟨⟨x0,x1,x2,x3,x4,x5⟩,x6,x7,x8,x9,x10⟩:=Q1.o.evs;obtain⟨⟨y0,y1,y2,y3,y4,y5⟩,y6,y7,y8,y9,y10⟩:=Q2.o.evs;go_wp2_with fail
         clear x0 x1 x2 x3 x4 x5 x6 x7 x8 x9 x10 y0 y1 y2 y3 y4 y5 y6 y7 y8 y9 y10;have CC:=hiD (zep A2 B2 n2 c2 m2 d2 _ _ W1 (HH.o.later Q3.o).2.1 (HG.o.later Q3.o).2.1 HH.o.2.2.2.2.1 HG.o.2.2.2.2.1);rw[decide_eq_true rfl] at CC;refine CC.o.mono ?_;rintro e W2 ⟨rfl,q,hq⟩;clear CC;replace Q1:=hiD (show Bk W2 _ _ _ by rw[hq];exact Q1.o.drewNE q);replace Q2:=hiD (show Bk W2 _ _ _ by rw[hq];exact Q2.o.drewNE q);replace Q3:=hiD (show Below w.heap.size w W2 by rw[hq];exact qo Q3.o q);clear hq;obtain⟨⟨x0,x1,x2,x3,x4,x5⟩,x6,x7,x8,x9,x10⟩:=Q1.o.evs;obtain⟨⟨y0,y1,y2,y3,y4,y5⟩,y6,y7,y8,y9,y10⟩:=Q2.o.evs;go_wp2_with fail
         clear x0 x1 x2 x3 x4 x5 x6 x7 x8 x9 x10 y0 y1 y2 y3 y4 y5 y6 y7 y8 y9 y10;go_ret;exact⟨by rw[HR.o]<;>rfl,Q3.o⟩
       ·
        have HR:Hid (evEq ⟨k,t,bx,tO,ids,st,md,fl,dt,nn,bd⟩ ⟨k,t,bx,tO,ids,st,md',fl',dt',nn',bd'⟩=false):=hiD (by simp[evEq,hx]);have hne:=jf hx;clear hx;go_enter Tryz.func19,Tryz.ntmps19
        go_wp2_with fail
        refine qb (fun W=>Bk W w.heap.size 50 #[.int .i64 k,.int .i64 t,.string bx,.string tO,.slice A1 n1 c1,.slice A2 n2 c2,.int .i64 md,.int .i64 fl,.int .i64 dt,.int .i64 nn,.slice A3 n3 c3]∧Bk W (w.heap.size+1) 50 #[.int .i64 k,.int .i64 t,.string bx,.string tO,.slice B1 m1 d1,.slice B2 m2 d2,.int .i64 md',.int .i64 fl',.int .i64 dt',.int .i64 nn',.slice B3 m3 d3]∧Below w.heap.size w W) ⟨(Bk.new _ _ _).alloc _,Bk.new2 _ _ _ _,((Below.refl _ _).alloc (Nat.le_refl _) _).alloc (by simp) _⟩ ?_;rintro W ⟨q1,q2,q3⟩;have Q1:=hiD q1;have Q2:=hiD q2;have Q3:=hiD q3;clear q1 q2 q3;have CC:=hiD (zd7 A1 B1 n1 c1 m1 d1 _ _ W (HH.o.later Q3.o).1 (HG.o.later Q3.o).1 HH.o.2.2.2.1 HG.o.2.2.2.1);rw[decide_eq_true rfl] at CC;refine CC.o.mono ?_;rintro e W1 ⟨rfl,q,hq⟩;clear CC;replace Q1:=hiD (show Bk W1 _ _ _ by rw[hq];exact Q1.o.drewNE q)
        replace Q2:=hiD (show Bk W1 _ _ _ by rw[hq];exact Q2.o.drewNE q);replace Q3:=hiD (show Below w.heap.size w W1 by rw[hq];exact qo Q3.o q);clear hq;obtain⟨⟨x0,x1,x2,x3,x4,x5⟩,x6,x7,x8,x9,x10⟩:=Q1.o.evs;obtain⟨⟨y0,y1,y2,y3,y4,y5⟩,y6,y7,y8,y9,y10⟩:=Q2.o.evs;go_wp2_with fail
        clear x0 x1 x2 x3 x4 x5 x6 x7 x8 x9 x10 y0 y1 y2 y3 y4 y5 y6 y7 y8 y9 y10;have CC:=hiD (zep A2 B2 n2 c2 m2 d2 _ _ W1 (HH.o.later Q3.o).2.1 (HG.o.later Q3.o).2.1 HH.o.2.2.2.2.1 HG.o.2.2.2.2.1);rw[decide_eq_true rfl] at CC;refine CC.o.mono ?_;rintro e W2 ⟨rfl,q,hq⟩;clear CC;replace Q1:=hiD (show Bk W2 _ _ _ by rw[hq];exact Q1.o.drewNE q);replace Q2:=hiD (show Bk W2 _ _ _ by rw[hq];exact Q2.o.drewNE q);replace Q3:=hiD (show Below w.heap.size w W2 by rw[hq];exact qo Q3.o q);clear hq;obtain⟨⟨x0,x1,x2,x3,x4,x5⟩,x6,x7,x8,x9,x10⟩:=Q1.o.evs;obtain⟨⟨y0,y1,y2,y3,y4,y5⟩,y6,y7,y8,y9,y10⟩:=Q2.o.evs;go_wp2_with fail
        clear x0 x1 x2 x3 x4 x5 x6 x7 x8 x9 x10 y0 y1 y2 y3 y4 y5 y6 y7 y8 y9 y10;go_ret;exact⟨by rw[HR.o]<;>rfl,Q3.o⟩
      ·
       have HR:Hid (evEq ⟨k,t,bx,tO,ids,st,md,fl,dt,nn,bd⟩ ⟨k,t,bx,tO,ids,st',md',fl',dt',nn',bd'⟩=false):=hiD (by simp[evEq,hx]);have HNE:=hiD (show decide (st=st')=false from decide_eq_false hx);clear hx;go_enter Tryz.func19,Tryz.ntmps19
       go_wp2_with fail
       refine qb (fun W=>Bk W w.heap.size 50 #[.int .i64 k,.int .i64 t,.string bx,.string tO,.slice A1 n1 c1,.slice A2 n2 c2,.int .i64 md,.int .i64 fl,.int .i64 dt,.int .i64 nn,.slice A3 n3 c3]∧Bk W (w.heap.size+1) 50 #[.int .i64 k,.int .i64 t,.string bx,.string tO,.slice B1 m1 d1,.slice B2 m2 d2,.int .i64 md',.int .i64 fl',.int .i64 dt',.int .i64 nn',.slice B3 m3 d3]∧Below w.heap.size w W) ⟨(Bk.new _ _ _).alloc _,Bk.new2 _ _ _ _,((Below.refl _ _).alloc (Nat.le_refl _) _).alloc (by simp) _⟩ ?_;rintro W ⟨q1,q2,q3⟩;have Q1:=hiD q1;have Q2:=hiD q2;have Q3:=hiD q3;clear q1 q2 q3;have CC:=hiD (zd7 A1 B1 n1 c1 m1 d1 _ _ W (HH.o.later Q3.o).1 (HG.o.later Q3.o).1 HH.o.2.2.2.1 HG.o.2.2.2.1);rw[decide_eq_true rfl] at CC;refine CC.o.mono ?_;rintro e W1 ⟨rfl,q,hq⟩;clear CC;replace Q1:=hiD (show Bk W1 _ _ _ by rw[hq];exact Q1.o.drewNE q);replace Q2:=hiD (show Bk W1 _ _ _ by rw[hq];exact Q2.o.drewNE q)
       replace Q3:=hiD (show Below w.heap.size w W1 by rw[hq];exact qo Q3.o q);clear hq;obtain⟨⟨x0,x1,x2,x3,x4,x5⟩,x6,x7,x8,x9,x10⟩:=Q1.o.evs;obtain⟨⟨y0,y1,y2,y3,y4,y5⟩,y6,y7,y8,y9,y10⟩:=Q2.o.evs;go_wp2_with fail
       clear x0 x1 x2 x3 x4 x5 x6 x7 x8 x9 x10 y0 y1 y2 y3 y4 y5 y6 y7 y8 y9 y10;have CC:=hiD (zep A2 B2 n2 c2 m2 d2 _ _ W1 (HH.o.later Q3.o).2.1 (HG.o.later Q3.o).2.1 HH.o.2.2.2.2.1 HG.o.2.2.2.2.1)
       dsimp only at CC;rw[HNE.o] at CC
       refine CC.o.mono ?_;rintro e W2 ⟨rfl,q,hq⟩;clear CC;replace Q1:=hiD (show Bk W2 _ _ _ by rw[hq];exact Q1.o.drewNE q);replace Q2:=hiD (show Bk W2 _ _ _ by rw[hq];exact Q2.o.drewNE q);replace Q3:=hiD (show Below w.heap.size w W2 by rw[hq];exact qo Q3.o q);clear hq;obtain⟨⟨x0,x1,x2,x3,x4,x5⟩,x6,x7,x8,x9,x10⟩:=Q1.o.evs;obtain⟨⟨y0,y1,y2,y3,y4,y5⟩,y6,y7,y8,y9,y10⟩:=Q2.o.evs;go_wp2_with fail
       clear x0 x1 x2 x3 x4 x5 x6 x7 x8 x9 x10 y0 y1 y2 y3 y4 y5 y6 y7 y8 y9 y10;go_ret;exact⟨by rw[HR.o]<;>rfl,Q3.o⟩
     ·
      have HR:Hid (evEq ⟨k,t,bx,tO,ids,st,md,fl,dt,nn,bd⟩ ⟨k,t,bx,tO,ids',st',md',fl',dt',nn',bd'⟩=false):=hiD (by simp[evEq,hx]);have HNE:=hiD (show decide (ids=ids')=false from decide_eq_false hx);clear hx;go_enter Tryz.func19,Tryz.ntmps19
      go_wp2_with fail
      refine qb (fun W=>Bk W w.heap.size 50 #[.int .i64 k,.int .i64 t,.string bx,.string tO,.slice A1 n1 c1,.slice A2 n2 c2,.int .i64 md,.int .i64 fl,.int .i64 dt,.int .i64 nn,.slice A3 n3 c3]∧Bk W (w.heap.size+1) 50 #[.int .i64 k,.int .i64 t,.string bx,.string tO,.slice B1 m1 d1,.slice B2 m2 d2,.int .i64 md',.int .i64 fl',.int .i64 dt',.int .i64 nn',.slice B3 m3 d3]∧Below w.heap.size w W) ⟨(Bk.new _ _ _).alloc _,Bk.new2 _ _ _ _,((Below.refl _ _).alloc (Nat.le_refl _) _).alloc (by simp) _⟩ ?_;rintro W ⟨q1,q2,q3⟩;have Q1:=hiD q1;have Q2:=hiD q2;have Q3:=hiD q3;clear q1 q2 q3;have CC:=hiD (zd7 A1 B1 n1 c1 m1 d1 _ _ W (HH.o.later Q3.o).1 (HG.o.later Q3.o).1 HH.o.2.2.2.1 HG.o.2.2.2.1)
      dsimp only at CC;rw[HNE.o] at CC
      refine CC.o.mono ?_;rintro e W1 ⟨rfl,q,hq⟩;clear CC;replace Q1:=hiD (show Bk W1 _ _ _ by rw[hq];exact Q1.o.drewNE q);replace Q2:=hiD (show Bk W1 _ _ _ by rw[hq];exact Q2.o.drewNE q);replace Q3:=hiD (show Below w.heap.size w W1 by rw[hq];exact qo Q3.o q);clear hq;obtain⟨⟨x0,x1,x2,x3,x4,x5⟩,x6,x7,x8,x9,x10⟩:=Q1.o.evs;obtain⟨⟨y0,y1,y2,y3,y4,y5⟩,y6,y7,y8,y9,y10⟩:=Q2.o.evs;go_wp2_with fail
      clear x0 x1 x2 x3 x4 x5 x6 x7 x8 x9 x10 y0 y1 y2 y3 y4 y5 y6 y7 y8 y9 y10;go_ret;exact⟨by rw[HR.o]<;>rfl,Q3.o⟩
    ·
     have HR:Hid (evEq ⟨k,t,bx,tO,ids,st,md,fl,dt,nn,bd⟩ ⟨k,t,bx,to',ids',st',md',fl',dt',nn',bd'⟩=false):=hiD (by simp[evEq,hx]);have hne:=zik hx;clear hx;go_enter Tryz.func19,Tryz.ntmps19
     go_wp2_with fail
     go_ret;exact⟨by rw[HR.o]<;>rfl,((Below.refl _ _).alloc (Nat.le_refl _) _).alloc (by simp) _⟩
   ·
    have HR:Hid (evEq ⟨k,t,bx,tO,ids,st,md,fl,dt,nn,bd⟩ ⟨k,t,bx',to',ids',st',md',fl',dt',nn',bd'⟩=false):=hiD (by simp[evEq,hx]);have hne:=zik hx;clear hx;go_enter Tryz.func19,Tryz.ntmps19
    go_wp2_with fail
    go_ret;exact⟨by rw[HR.o]<;>rfl,((Below.refl _ _).alloc (Nat.le_refl _) _).alloc (by simp) _⟩
  ·
   have HR:Hid (evEq ⟨k,t,bx,tO,ids,st,md,fl,dt,nn,bd⟩ ⟨k,t',bx',to',ids',st',md',fl',dt',nn',bd'⟩=false):=hiD (by simp[evEq,hx]);have hne:=jf hx;clear hx;go_enter Tryz.func19,Tryz.ntmps19
   go_wp2_with fail
   go_ret;exact⟨by rw[HR.o]<;>rfl,((Below.refl _ _).alloc (Nat.le_refl _) _).alloc (by simp) _⟩
 ·
  have HR:Hid (evEq ⟨k,t,bx,tO,ids,st,md,fl,dt,nn,bd⟩ ⟨k',t',bx',to',ids',st',md',fl',dt',nn',bd'⟩=false):=hiD (by simp[evEq,hx]);have hne:=jf hx;clear hx;go_enter Tryz.func19,Tryz.ntmps19
  go_wp2_with fail
  go_ret;exact⟨by rw[HR.o]<;>rfl,((Below.refl _ _).alloc (Nat.le_refl _) _).alloc (by simp) _⟩
end Go.Proofs.YtmjjefnmabbgdaaGreatDoor
