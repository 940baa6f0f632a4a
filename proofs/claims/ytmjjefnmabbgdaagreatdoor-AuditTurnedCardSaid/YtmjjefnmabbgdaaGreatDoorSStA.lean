/- A part of the proof. -/
import Derived.Test.YtmjjefnmabbgdaaGreatDoorSEventA
import Derived.Test.YtmjjefnmabbgdaaGreatDoorSBoxJ
import Derived.Test.YtmjjefnmabbgdaaGreatDoorSStKBx
namespace Go.Proofs.YtmjjefnmabbgdaaGreatDoor
open List renaming set_cons_zero → jB
set_option linter.unusedVariables false
set_option linter.unusedSimpArgs false
set_option maxRecDepth 100000
set_option maxHeartbeats 16000000
open Go.RowKit
def nxB (n:Int):Bool:=decide (1≤n∧n≤4294967296)
def gvB (n k:Int):Bool:=decide (1≤n∧n<k)
theorem zsf (n:Int)(w:World):Calls Tryz.prog 99 #[.int .i64 n] w fun e w'=>e=.returned (.bool (tmB n))∧w=w':=by
 by_cases h1:0≤n<;>by_cases h2:n≤1099511627776 <;>
 ·have HR:Hid (tmB n=(decide (0≤n) && decide (n≤1099511627776))):=hiD (by unfold tmB;simp)
  go_enter Tryz.func99,Tryz.ntmps99
  go_wp2_with fail
  go_ret;exact⟨ji (by rw[HR.o];simp[h1,h2]),rfl⟩
theorem zli (n:Int)(w:World):Calls Tryz.prog 100 #[.int .i64 n] w fun e w'=>e=.returned (.bool (nxB n))∧w=w':=by
 by_cases h1:1≤n<;>by_cases h2:n≤4294967296 <;>
 ·have HR:Hid (nxB n=(decide (1≤n) && decide (n≤4294967296))):=hiD (by unfold nxB;simp)
  go_enter Tryz.func100,Tryz.ntmps100
  go_wp2_with fail
  go_ret;exact⟨ji (by rw[HR.o];simp[h1,h2]),rfl⟩
theorem zsg (n k:Int)(w:World):Calls Tryz.prog 175 #[.int .i64 n,.int .i64 k] w fun e w'=>e=.returned (.bool (gvB n k))∧w=w':=by
 by_cases h1:1≤n<;>by_cases h2:n<k <;>
 ·have HR:Hid (gvB n k=(decide (1≤n) && decide (n<k))):=hiD (by unfold gvB;simp)
  go_enter Tryz.func175,Tryz.ntmps175
  go_wp2_with fail
  go_ret;exact⟨ji (by rw[HR.o];simp[h1,h2]),rfl⟩
theorem z5l:CallK Tryz.prog 166 (fun x=>.agg (bhA x)) BhIn Bh.b (fun b=>.string b.name):=by
 intro w x hx;have hb:Below w.heap.size w (w.alloc (.cells (bhA x) 76)):=(Below.refl _ _).alloc (Nat.le_refl _) _;have c0:(bhA x)[0]?=some (.string x.b.name):=rfl;go_enter Tryz.func166,Tryz.ntmps166
 go_wp2_with fail
 go_ret;exact⟨rfl,hb⟩
theorem z5m:CallK Tryz.prog 173 (fun x=>.agg (rulA' x)) TrueP (id:Rul→Rul) (fun b=>.string b.1):=by
 intro w x hx;have hb:Below w.heap.size w (w.alloc (.cells (rulA' x) 106)):=(Below.refl _ _).alloc (Nat.le_refl _) _;have c0:(rulA' x)[0]?=some (.string x.1):=rfl;go_enter Tryz.func173,Tryz.ntmps173
 go_wp2_with fail
 go_ret;exact⟨rfl,hb⟩
theorem z5n:CallK Tryz.prog 178 (fun x=>.agg (thA x)) ThIn Th.t (fun b=>.int .i64 b.id):=by
 intro w x hx;have hb:Below w.heap.size w (w.alloc (.cells (thA x) 110)):=(Below.refl _ _).alloc (Nat.le_refl _) _;have c0:(thA x)[0]?=some (.int .i64 x.t.id):=rfl;go_enter Tryz.func178,Tryz.ntmps178
 go_wp2_with fail
 go_ret;exact⟨rfl,hb⟩
theorem z5o:CallK Tryz.prog 181 (fun x=>.agg (hhA x)) HhIn Hh.hol (fun b=>.int .i64 b.id):=by
 intro w x hx;have hb:Below w.heap.size w (w.alloc (.cells (hhA x) 78)):=(Below.refl _ _).alloc (Nat.le_refl _) _;have c0:(hhA x)[0]?=some (.int .i64 x.id):=rfl;go_enter Tryz.func181,Tryz.ntmps181
 go_wp2_with fail
 go_ret;exact⟨rfl,hb⟩
theorem z5p:CallK Tryz.prog 170 (fun x=>.string x) TrueP (id:ByteArray→ByteArray) (fun b=>.string b):=by
 intro w x hx;go_enter Tryz.func170,Tryz.ntmps170
 go_wp2_with fail
 go_ret;exact⟨rfl,Below.refl _ _⟩
theorem col_one' {α:Type}{k:Nat}{f:α→List Value}{w:World}{b:Nat}{t:TypeId}{a:α}(h:Bk w b t (f a).toArray)(B:Nat)(hB:b<B):ColK k f w B (some ⟨b,0,none⟩) 1 [a]:=by
 refine⟨rfl,fun _=>⟨b,0,rfl,hB,fun i x hx=>?_⟩⟩;cases i with
 | zero =>
   have e:a=x:=by simpa using hx
   subst e;have:=h.range
   simpa using this
 | succ i=>simp at hx
def LoneIs (m:Mg)(w:World)(e:Ending)(w':World):Prop:=∃ g,e=.returned (.agg #[.string ⟨#[]⟩,.int .i64 1,.int .i64 4294967296,.slice (some ⟨g,0,none⟩) 1 1])∧MsgsIn w' w'.heap.size (some ⟨g,0,none⟩) 1 [m]∧Below w.heap.size w w'
theorem zsh (u f d:Int)(A:Option Addr)(n c:Nat)(l:List Nat)(w:World)(hl:Bytes w w.heap.size A n l)(hn:n≤140737488355328) :
 Calls Tryz.prog 176 #[.agg #[.int .i64 u,.int .i64 f,.int .i64 d,.slice A n c]] w (LoneIs ⟨u,f,d,l⟩ w):=by
 have hB:Below w.heap.size w ((w.alloc (.cells #[.int .i64 u,.int .i64 f,.int .i64 d,.slice A n c] 108)).alloc (.cells #[.string ⟨#[]⟩,.int .i64 0,.int .i64 0,.slice none 0 0] 76)):=((Below.refl _ _).alloc (Nat.le_refl _) _).alloc (by simp) _;have h1:Bk ((w.alloc (.cells #[.int .i64 u,.int .i64 f,.int .i64 d,.slice A n c] 108)).alloc (.cells #[.string ⟨#[]⟩,.int .i64 0,.int .i64 0,.slice none 0 0] 76)) w.heap.size 108 #[.int .i64 u,.int .i64 f,.int .i64 d,.slice A n c]:=(Bk.new _ _ _).alloc _;have h2:Bk ((w.alloc (.cells #[.int .i64 u,.int .i64 f,.int .i64 d,.slice A n c] 108)).alloc (.cells #[.string ⟨#[]⟩,.int .i64 0,.int .i64 0,.slice none 0 0] 76)) (w.heap.size+1) 76 #[.string ⟨#[]⟩,.int .i64 0,.int .i64 0,.slice none 0 0]:=Bk.new2 _ _ _ _;obtain⟨⟨c0,c1,c2,c3⟩,g0,g1,g2,g3⟩:=h1.four;have HL:=hiD hl;have HB:=hiD hB;have H2:=hiD h2;have HZ:Hid (((w.alloc (.cells #[.int .i64 u,.int .i64 f,.int .i64 d,.slice A n c] 108)).alloc (.cells #[.string ⟨#[]⟩,.int .i64 0,.int .i64 0,.slice none 0 0] 76)).heap.size=w.heap.size+2):=hiD (by simp)
 clear hl hB h1 h2;go_enter Tryz.func176,Tryz.ntmps176
 go_wp2_with fail
 have HK:Hid (Bk (((w.alloc (.cells #[.int .i64 u,.int .i64 f,.int .i64 d,.slice A n c] 108)).alloc (.cells #[.string ⟨#[]⟩,.int .i64 1,.int .i64 4294967296,.slice (some ⟨w.heap.size+1+1,0,none⟩) 1 1] 76)).alloc (.cells #[.int .i64 u,.int .i64 f,.int .i64 d,.slice A n c] 108)) (w.heap.size+1+1) 108 #[.int .i64 u,.int .i64 f,.int .i64 d,.slice A n c]):=hiD (Bk.new3 _ _ _ _ _);have HX:Hid (Bk (((w.alloc (.cells #[.int .i64 u,.int .i64 f,.int .i64 d,.slice A n c] 108)).alloc (.cells #[.string ⟨#[]⟩,.int .i64 1,.int .i64 4294967296,.slice (some ⟨w.heap.size+1+1,0,none⟩) 1 1] 76)).alloc (.cells #[.int .i64 u,.int .i64 f,.int .i64 d,.slice A n c] 108)) (w.heap.size+1) 76 #[.string ⟨#[]⟩,.int .i64 1,.int .i64 4294967296,.slice (some ⟨w.heap.size+1+1,0,none⟩) 1 1]):=hiD ((Bk.new2 _ _ _ _).alloc _);have HBB:Hid (Below w.heap.size w (((w.alloc (.cells #[.int .i64 u,.int .i64 f,.int .i64 d,.slice A n c] 108)).alloc (.cells #[.string ⟨#[]⟩,.int .i64 1,.int .i64 4294967296,.slice (some ⟨w.heap.size+1+1,0,none⟩) 1 1] 76)).alloc (.cells #[.int .i64 u,.int .i64 f,.int .i64 d,.slice A n c] 108))):=hiD ((((Below.refl _ _).alloc (Nat.le_refl _) _).alloc (by simp) _).alloc (by simp;omega) _)
 generalize (((w.alloc (.cells #[.int .i64 u,.int .i64 f,.int .i64 d,.slice A n c] 108)).alloc (.cells #[.string ⟨#[]⟩,.int .i64 1,.int .i64 4294967296,.slice (some ⟨w.heap.size+1+1,0,none⟩) 1 1] 76)).alloc (.cells #[.int .i64 u,.int .i64 f,.int .i64 d,.slice A n c] 108))=W at *;refine bodyPost_ret (qi (a:=⟨w.heap.size+1,0,none⟩) rfl rfl (Bk.box_ HX.o)) rfl ⟨w.heap.size+1+1,rfl,?_,HBB.o⟩;refine⟨[⟨⟨u,f,d,l⟩,A,n,c⟩],col_one' (f:=hdC) (a:=(⟨⟨u,f,d,l⟩,A,n,c⟩:Hd)) (t:=108) HK.o _ HK.o.lt,fun h hh=>?_,rfl⟩;rw[List.mem_singleton.1 hh];exact⟨HL.o.later HBB.o,hn⟩
def GiveO {α:Type}(k:Nat)(f:α→List Value)(t:TypeId)(w:World)(n:Nat)(l:List α)(e:Ending)(w':World):Prop:=∃ A' c',e=.returned (.slice A' n c')∧OwnK k f w' w.heap.size t A' n c' l∧Below w.heap.size w w'
theorem zlj:(Tryz.prog.info? 76).map (fun i=>(i.zero,i.size,i.bytes))=some (some (.agg #[.string ByteArray.empty,.int .i64 0,.int .i64 0,.slice none 0 0]),4,56):=by kernel_rfl
theorem z5q:(Tryz.prog.info? 110).map (fun i=>(i.zero,i.size,i.bytes))=some (some (.agg #[.int .i64 0,.string ByteArray.empty,.int .i64 0,.int .i64 0,.int .i64 0,.int .i64 0,.slice none 0 0]),7,80):=by kernel_rfl
theorem z5r:(Tryz.prog.info? 78).map (fun i=>(i.zero,i.size,i.bytes))=some (some (.agg #[.int .i64 0,.string ByteArray.empty,.slice none 0 0]),3,48):=by kernel_rfl
theorem zsi (r:Rg):(rgC r).length=2:=rfl
theorem z5s (r:Rg):∀ u∈rgC r,u.oneCell'=true:=by
 intro u hu;unfold rgC at hu;simp only[List.mem_cons,List.not_mem_nil,or_false] at hu;rcases hu with rfl|rfl<;>rfl
theorem z5t (A:Option Addr)(n c:Nat)(l:List ByteArray)(w:World)(hl:ColK 1 strC w w.heap.size A n l)(hn:n≤1000000) :
 Calls Tryz.prog 113 #[.slice A n c] w (GiveO 1 strC 9 w n l):=by
 cases A with
 | none =>
   have h0:n=0:=by
    rcases Nat.eq_zero_or_pos n with h|h
    ·exact h
    ·obtain⟨b,o,h',_⟩:=hl.2 h;cases h'
   subst h0;have hl':l=[]:=List.eq_nil_of_length_eq_zero hl.1;subst hl';have heq:=fun W=>Lib.run_eql_slice_nil (P:=Tryz.prog) W 35 9 none 0 c 0 0 Tryz.underlying35;go_enter Tryz.func113,Tryz.ntmps113
   go_wp2
   go_ret;exact⟨_,_,rfl,OwnK.nil zdp,Below.refl _ _⟩
 | some a =>
   have heq:=fun W=>Lib.run_eql_slice_nil (P:=Tryz.prog) W 35 9 (some a) n c 0 0 Tryz.underlying35;obtain⟨A3,c3,w3,hrun,ho3,hb3,hg3⟩:=zbb (P:=Tryz.prog) (f:=strC) (OwnK.empty zdp w 9) 35 35 Tryz.underlying35 zim rfl (by omega) (by omega) (A':=some a) (m:=n) (c':=c) (hl.below ((Below.refl _ _).alloc (Nat.le_refl _) (.cells #[] 9)) (Nat.le_refl _)) (fun u _=>zi0 u) (by omega) (by simp);rw[Nat.zero_add,List.nil_append] at ho3;rw[Nat.zero_add] at hrun;have hb3':Below w.heap.size w w3:=((Below.refl _ _).alloc (Nat.le_refl _) _).trans hb3;have HRUN:=hiD hrun;clear hrun hl hg3 hb3;go_enter Tryz.func113,Tryz.ntmps113
   go_wp2_with (with_reducible refine stn 7 ?_)
   refine held (wpList_plain rfl fun K hK=>jv (s:=.tmp 5) (x:=.tmp 6) rfl rfl rfl HRUN.o (hK _ _ ?_));go_wp2
   go_ret;exact⟨_,_,rfl,ho3,hb3'⟩
theorem z5u (A:Option Addr)(n c:Nat)(l:List Bh)(w:World)(hl:ColK 4 bhC w w.heap.size A n l)(hn:n≤1000000) :
 Calls Tryz.prog 187 #[.slice A n c] w (GiveO 4 bhC 76 w n l):=by
 cases A with
 | none =>
   have h0:n=0:=by
    rcases Nat.eq_zero_or_pos n with h|h
    ·exact h
    ·obtain⟨b,o,h',_⟩:=hl.2 h;cases h'
   subst h0;have hl':l=[]:=List.eq_nil_of_length_eq_zero hl.1;subst hl';have heq:=fun W=>Lib.run_eql_slice_nil (P:=Tryz.prog) W 34 76 none 0 c 0 0 Tryz.underlying34;go_enter Tryz.func187,Tryz.ntmps187
   go_wp2
   go_ret;exact⟨_,_,rfl,OwnK.nil zha,Below.refl _ _⟩
 | some a =>
   have heq:=fun W=>Lib.run_eql_slice_nil (P:=Tryz.prog) W 34 76 (some a) n c 0 0 Tryz.underlying34;obtain⟨A3,c3,w3,hrun,ho3,hb3,hg3⟩:=zbb (P:=Tryz.prog) (f:=bhC) (OwnK.empty zha w 76) 34 34 Tryz.underlying34 zlj rfl (by omega) (by omega) (A':=some a) (m:=n) (c':=c) (hl.below ((Below.refl _ _).alloc (Nat.le_refl _) (.cells #[] 76)) (Nat.le_refl _)) (fun u _=>zhb u) (by omega) (by simp);rw[Nat.zero_add,List.nil_append] at ho3;rw[Nat.zero_add] at hrun;have hb3':Below w.heap.size w w3:=((Below.refl _ _).alloc (Nat.le_refl _) _).trans hb3;have HRUN:=hiD hrun;clear hrun hl hg3 hb3;go_enter Tryz.func187,Tryz.ntmps187
   go_wp2_with (with_reducible refine stn 7 ?_)
   refine held (wpList_plain rfl fun K hK=>jv (s:=.tmp 5) (x:=.tmp 6) rfl rfl rfl HRUN.o (hK _ _ ?_));go_wp2
   go_ret;exact⟨_,_,rfl,ho3,hb3'⟩
theorem z5v (A:Option Addr)(n c:Nat)(l:List Th)(w:World)(hl:ColK 7 thC w w.heap.size A n l)(hn:n≤1000000) :
 Calls Tryz.prog 190 #[.slice A n c] w (GiveO 7 thC 110 w n l):=by
 cases A with
 | none =>
   have h0:n=0:=by
    rcases Nat.eq_zero_or_pos n with h|h
    ·exact h
    ·obtain⟨b,o,h',_⟩:=hl.2 h;cases h'
   subst h0;have hl':l=[]:=List.eq_nil_of_length_eq_zero hl.1;subst hl';have heq:=fun W=>Lib.run_eql_slice_nil (P:=Tryz.prog) W 37 110 none 0 c 0 0 Tryz.underlying37;go_enter Tryz.func190,Tryz.ntmps190
   go_wp2
   go_ret;exact⟨_,_,rfl,OwnK.nil ziz,Below.refl _ _⟩
 | some a =>
   have heq:=fun W=>Lib.run_eql_slice_nil (P:=Tryz.prog) W 37 110 (some a) n c 0 0 Tryz.underlying37;obtain⟨A3,c3,w3,hrun,ho3,hb3,hg3⟩:=zbb (P:=Tryz.prog) (f:=thC) (OwnK.empty ziz w 110) 37 37 Tryz.underlying37 z5q rfl (by omega) (by omega) (A':=some a) (m:=n) (c':=c) (hl.below ((Below.refl _ _).alloc (Nat.le_refl _) (.cells #[] 110)) (Nat.le_refl _)) (fun u _=>zsm u) (by omega) (by simp);rw[Nat.zero_add,List.nil_append] at ho3;rw[Nat.zero_add] at hrun;have hb3':Below w.heap.size w w3:=((Below.refl _ _).alloc (Nat.le_refl _) _).trans hb3;have HRUN:=hiD hrun;clear hrun hl hg3 hb3;go_enter Tryz.func190,Tryz.ntmps190
   go_wp2_with (with_reducible refine stn 7 ?_)
   refine held (wpList_plain rfl fun K hK=>jv (s:=.tmp 5) (x:=.tmp 6) rfl rfl rfl HRUN.o (hK _ _ ?_));go_wp2
   go_ret;exact⟨_,_,rfl,ho3,hb3'⟩
theorem z5w (A:Option Addr)(n c:Nat)(l:List Hh)(w:World)(hl:ColK 3 hhC w w.heap.size A n l)(hn:n≤1000000) :
 Calls Tryz.prog 191 #[.slice A n c] w (GiveO 3 hhC 78 w n l):=by
 cases A with
 | none =>
   have h0:n=0:=by
    rcases Nat.eq_zero_or_pos n with h|h
    ·exact h
    ·obtain⟨b,o,h',_⟩:=hl.2 h;cases h'
   subst h0;have hl':l=[]:=List.eq_nil_of_length_eq_zero hl.1;subst hl';have heq:=fun W=>Lib.run_eql_slice_nil (P:=Tryz.prog) W 38 78 none 0 c 0 0 Tryz.underlying38;go_enter Tryz.func191,Tryz.ntmps191
   go_wp2
   go_ret;exact⟨_,_,rfl,OwnK.nil ziv,Below.refl _ _⟩
 | some a =>
   have heq:=fun W=>Lib.run_eql_slice_nil (P:=Tryz.prog) W 38 78 (some a) n c 0 0 Tryz.underlying38;obtain⟨A3,c3,w3,hrun,ho3,hb3,hg3⟩:=zbb (P:=Tryz.prog) (f:=hhC) (OwnK.empty ziv w 78) 38 38 Tryz.underlying38 z5r rfl (by omega) (by omega) (A':=some a) (m:=n) (c':=c) (hl.below ((Below.refl _ _).alloc (Nat.le_refl _) (.cells #[] 78)) (Nat.le_refl _)) (fun u _=>zsa u) (by omega) (by simp);rw[Nat.zero_add,List.nil_append] at ho3;rw[Nat.zero_add] at hrun;have hb3':Below w.heap.size w w3:=((Below.refl _ _).alloc (Nat.le_refl _) _).trans hb3;have HRUN:=hiD hrun;clear hrun hl hg3 hb3;go_enter Tryz.func191,Tryz.ntmps191
   go_wp2_with (with_reducible refine stn 7 ?_)
   refine held (wpList_plain rfl fun K hK=>jv (s:=.tmp 5) (x:=.tmp 6) rfl rfl rfl HRUN.o (hK _ _ ?_));go_wp2
   go_ret;exact⟨_,_,rfl,ho3,hb3'⟩
theorem z5x (A:Option Addr)(n c:Nat)(l:List Rul)(w:World)(hl:ColK 2 rulC w w.heap.size A n l)(hn:n≤1000000) :
 Calls Tryz.prog 114 #[.slice A n c] w (GiveO 2 rulC 106 w n l):=by
 cases A with
 | none =>
   have h0:n=0:=by
    rcases Nat.eq_zero_or_pos n with h|h
    ·exact h
    ·obtain⟨b,o,h',_⟩:=hl.2 h;cases h'
   subst h0;have hl':l=[]:=List.eq_nil_of_length_eq_zero hl.1;subst hl';have heq:=fun W=>Lib.run_eql_slice_nil (P:=Tryz.prog) W 36 106 none 0 c 0 0 Tryz.underlying36;go_enter Tryz.func114,Tryz.ntmps114
   go_wp2
   go_ret;exact⟨_,_,rfl,OwnK.nil ziu,Below.refl _ _⟩
 | some a =>
   have heq:=fun W=>Lib.run_eql_slice_nil (P:=Tryz.prog) W 36 106 (some a) n c 0 0 Tryz.underlying36;obtain⟨A3,c3,w3,hrun,ho3,hb3,hg3⟩:=zbb (P:=Tryz.prog) (f:=rulC) (OwnK.empty ziu w 106) 36 36 Tryz.underlying36 z6u rfl (by omega) (by omega) (A':=some a) (m:=n) (c':=c) (hl.below ((Below.refl _ _).alloc (Nat.le_refl _) (.cells #[] 106)) (Nat.le_refl _)) (fun u _=>z5c u) (by omega) (by simp);rw[Nat.zero_add,List.nil_append] at ho3;rw[Nat.zero_add] at hrun;have hb3':Below w.heap.size w w3:=((Below.refl _ _).alloc (Nat.le_refl _) _).trans hb3;have HRUN:=hiD hrun;clear hrun hl hg3 hb3;go_enter Tryz.func114,Tryz.ntmps114
   go_wp2_with (with_reducible refine stn 7 ?_)
   refine held (wpList_plain rfl fun K hK=>jv (s:=.tmp 5) (x:=.tmp 6) rfl rfl rfl HRUN.o (hK _ _ ?_));go_wp2
   go_ret;exact⟨_,_,rfl,ho3,hb3'⟩
theorem z5y (A:Option Addr)(n c:Nat)(l:List Rg)(w:World)(hl:ColK 2 rgC w w.heap.size A n l)(hn:n≤1000000) :
 Calls Tryz.prog 192 #[.slice A n c] w (GiveO 2 rgC 114 w n l):=by
 cases A with
 | none =>
   have h0:n=0:=by
    rcases Nat.eq_zero_or_pos n with h|h
    ·exact h
    ·obtain⟨b,o,h',_⟩:=hl.2 h;cases h'
   subst h0;have hl':l=[]:=List.eq_nil_of_length_eq_zero hl.1;subst hl';have heq:=fun W=>Lib.run_eql_slice_nil (P:=Tryz.prog) W 47 114 none 0 c 0 0 Tryz.underlying47;go_enter Tryz.func192,Tryz.ntmps192
   go_wp2
   go_ret;exact⟨_,_,rfl,OwnK.nil zsi,Below.refl _ _⟩
 | some a =>
   have heq:=fun W=>Lib.run_eql_slice_nil (P:=Tryz.prog) W 47 114 (some a) n c 0 0 Tryz.underlying47;obtain⟨A3,c3,w3,hrun,ho3,hb3,hg3⟩:=zbb (P:=Tryz.prog) (f:=rgC) (OwnK.empty zsi w 114) 47 47 Tryz.underlying47 zg3 rfl (by omega) (by omega) (A':=some a) (m:=n) (c':=c) (hl.below ((Below.refl _ _).alloc (Nat.le_refl _) (.cells #[] 114)) (Nat.le_refl _)) (fun u _=>z5s u) (by omega) (by simp);rw[Nat.zero_add,List.nil_append] at ho3;rw[Nat.zero_add] at hrun;have hb3':Below w.heap.size w w3:=((Below.refl _ _).alloc (Nat.le_refl _) _).trans hb3;have HRUN:=hiD hrun;clear hrun hl hg3 hb3;go_enter Tryz.func192,Tryz.ntmps192
   go_wp2_with (with_reducible refine stn 7 ?_)
   refine held (wpList_plain rfl fun K hK=>jv (s:=.tmp 5) (x:=.tmp 6) rfl rfl rfl HRUN.o (hK _ _ ?_));go_wp2
   go_ret;exact⟨_,_,rfl,ho3,hb3'⟩
theorem Bk.put7 {w:World}{b:Nat}{t:TypeId}{v0 v1 v2 v3 v4 v5 v6:Value}(h:Bk w b t #[v0,v1,v2,v3,v4,v5,v6])(a0 a1 a2 a3 a4 a5 a6:Value) :
 Bk (((((((w.setCell ⟨b,0,none⟩ a0).setCell ⟨b,1,none⟩ a1).setCell ⟨b,2,none⟩ a2).setCell ⟨b,3,none⟩ a3).setCell ⟨b,4,none⟩ a4).setCell ⟨b,5,none⟩ a5).setCell ⟨b,6,none⟩ a6) b t #[a0,a1,a2,a3,a4,a5,a6]:=by simpa using ((((((h.put 0 a0).put 1 a1).put 2 a2).put 3 a3).put 4 a4).put 5 a5).put 6 a6
theorem zlk (w:World)(b:Nat)(a0 a1 a2 a3 a4 a5 a6:Value):w.grownBy (((((((w.setCell ⟨b,0,none⟩ a0).setCell ⟨b,1,none⟩ a1).setCell ⟨b,2,none⟩ a2).setCell ⟨b,3,none⟩ a3).setCell ⟨b,4,none⟩ a4).setCell ⟨b,5,none⟩ a5).setCell ⟨b,6,none⟩ a6) (some b) :=
 zat (zat (zat (zi1 w b a0 a1 a2 a3) (jk _ b 4 a4)) (jk _ b 5 a5)) (jk _ b 6 a6)
theorem zll (w:World)(b:Nat)(a3 a4 a5 a6:Value):w.grownBy ((((w.setCell ⟨b,3,none⟩ a3).setCell ⟨b,4,none⟩ a4).setCell ⟨b,5,none⟩ a5).setCell ⟨b,6,none⟩ a6) (some b):=zi3 w b 3 a3 a4 a5 a6
theorem Bk.put3 {w:World}{b:Nat}{t:TypeId}{v0 v1 v2:Value}(h:Bk w b t #[v0,v1,v2])(a0 a1 a2:Value) :
 Bk (((w.setCell ⟨b,0,none⟩ a0).setCell ⟨b,1,none⟩ a1).setCell ⟨b,2,none⟩ a2) b t #[a0,a1,a2]:=by simpa using ((h.put 0 a0).put 1 a1).put 2 a2
theorem zsj (w:World)(b:Nat)(a0 a1 a2:Value):w.grownBy (((w.setCell ⟨b,0,none⟩ a0).setCell ⟨b,1,none⟩ a1).setCell ⟨b,2,none⟩ a2) (some b) :=
 zat (zat (jk w b 0 a0) (jk _ b 1 a1)) (jk _ b 2 a2)
theorem below_of' {B:Nat}{w0 w w':World}{b:Nat}(h:Below B w0 w)(hg:w.grownBy w' (some b))(hb:B≤b)(hs:B≤w0.heap.size):Below B w0 w':=h.grown hg (Nat.le_trans hs h.size) (fun q hq=>by injection hq with hq;omega)
theorem Bk.tomb_ {w:World}{b:Nat}{t:TypeId}{u0 u1 u2 u3 u4 u5 u6:Value}(h:Bk w b t #[u0,u1,u2,u3,u4,u5,u6]):(loadVar 110 ⟨b,0,none⟩).run Tryz.prog w=.ok (.agg #[u0,u1,u2,u3,u4,u5,u6]) w:=Bk.load h Tryz.underlying110 rfl (by kernel_rfl)
theorem Bk.hold_ {w:World}{b:Nat}{t:TypeId}{u0 u1 u2:Value}(h:Bk w b t #[u0,u1,u2]):(loadVar 78 ⟨b,0,none⟩).run Tryz.prog w=.ok (.agg #[u0,u1,u2]) w:=Bk.load h Tryz.underlying78 rfl (by kernel_rfl)
theorem z5z (v0 v1 v2:Value)(A:Option Addr)(n c:Nat)(W:World):(Instr.field 76 (.agg #[v0,v1,v2,.slice A n c]) 3).run Tryz.prog W=.ok (.slice A n c) W:=by
 kernel_rfl
def GiveT (x:Th)(w:World)(e:Ending)(w':World):Prop:=∃ A' c',e=.returned (.agg (thA ⟨x.t,A',x.n,c'⟩))∧OwnB w' w.heap.size 5 A' x.n c' x.t.msg.body∧Below w.heap.size w w'
def GiveH (x:Hh)(w:World)(e:Ending)(w':World):Prop:=∃ A' c',e=.returned (.agg (hhA ⟨x.id,x.box,A',x.n,c',x.set⟩))∧OwnK 2 rgC w' w.heap.size 114 A' x.n c' x.set∧Below w.heap.size w w'
theorem Bk.seven {w:World}{b:Nat}{t:TypeId}{v0 v1 v2 v3 v4 v5 v6:Value}(h:Bk w b t #[v0,v1,v2,v3,v4,v5,v6]) :
 w.cell? ⟨b,0,none⟩=some v0∧w.cell? ⟨b,1,none⟩=some v1∧w.cell? ⟨b,2,none⟩=some v2∧w.cell? ⟨b,3,none⟩=some v3∧w.cell? ⟨b,4,none⟩=some v4∧w.cell? ⟨b,5,none⟩=some v5∧w.cell? ⟨b,6,none⟩=some v6 :=
 ⟨h.cell 0,h.cell 1,h.cell 2,h.cell 3,h.cell 4,h.cell 5,h.cell 6⟩
theorem z52 (x:Th)(w:World)(hx:ThIn w w.heap.size x)(hn:x.n≤100000):Calls Tryz.prog 116 #[.agg (thA x)] w (GiveT x w):=by
 obtain⟨⟨id,nm,a,u,f,d,bl⟩,xA,xn,xc⟩:=x;replace hx:ThIn w w.heap.size ⟨⟨id,nm,a,⟨u,f,d,bl⟩⟩,xA,xn,xc⟩:=hx;have hB:Below w.heap.size w ((w.alloc (.cells #[.int .i64 id,.string nm,.int .i64 a,.int .i64 u,.int .i64 f,.int .i64 d,.slice xA xn xc] 110)).alloc (.cells #[.int .i64 0,.string ⟨#[]⟩,.int .i64 0,.int .i64 0,.int .i64 0,.int .i64 0,.slice none 0 0] 110)):=((Below.refl _ _).alloc (Nat.le_refl _) _).alloc (by simp) _;have h1:Bk ((w.alloc (.cells #[.int .i64 id,.string nm,.int .i64 a,.int .i64 u,.int .i64 f,.int .i64 d,.slice xA xn xc] 110)).alloc (.cells #[.int .i64 0,.string ⟨#[]⟩,.int .i64 0,.int .i64 0,.int .i64 0,.int .i64 0,.slice none 0 0] 110)) w.heap.size 110 #[.int .i64 id,.string nm,.int .i64 a,.int .i64 u,.int .i64 f,.int .i64 d,.slice xA xn xc]:=(Bk.new _ _ _).alloc _;have h2:Bk ((w.alloc (.cells #[.int .i64 id,.string nm,.int .i64 a,.int .i64 u,.int .i64 f,.int .i64 d,.slice xA xn xc] 110)).alloc (.cells #[.int .i64 0,.string ⟨#[]⟩,.int .i64 0,.int .i64 0,.int .i64 0,.int .i64 0,.slice none 0 0] 110)) (w.heap.size+1) 110 #[.int .i64 0,.string ⟨#[]⟩,.int .i64 0,.int .i64 0,.int .i64 0,.int .i64 0,.slice none 0 0]:=Bk.new2 _ _ _ _
 have HL:=hiD (Bytes.later (show Bytes w w.heap.size xA xn bl from hx.1) hB);have HXN:=hiD (show xn≤100000 from hn);have HB:=hiD hB;have H1:=hiD h1;have H2:=hiD h2;have HZ:Hid (((w.alloc (.cells #[.int .i64 id,.string nm,.int .i64 a,.int .i64 u,.int .i64 f,.int .i64 d,.slice xA xn xc] 110)).alloc (.cells #[.int .i64 0,.string ⟨#[]⟩,.int .i64 0,.int .i64 0,.int .i64 0,.int .i64 0,.slice none 0 0] 110)).heap.size=w.heap.size+2):=hiD (by simp);have HBL:=hiD (show bl.length=xn from hx.1.1);clear hx hB h1 h2 hn;obtain⟨k0,k1,k2,k3,k4,k5,k6⟩:=H1.o.seven
 show Calls Tryz.prog 116 #[.agg #[.int .i64 id,.string nm,.int .i64 a,.int .i64 u,.int .i64 f,.int .i64 d,.slice xA xn xc]] w _
 go_enter Tryz.func116,Tryz.ntmps116
 go_wp2_with fail
 generalize ((w.alloc (.cells #[.int .i64 id,.string nm,.int .i64 a,.int .i64 u,.int .i64 f,.int .i64 d,.slice xA xn xc] 110)).alloc (.cells #[.int .i64 0,.string ⟨#[]⟩,.int .i64 0,.int .i64 0,.int .i64 0,.int .i64 0,.slice none 0 0] 110))=W at *;refine(zsh u f d xA xn xc bl W HL.o (by have:=HXN.o;omega)).mono ?_;rintro e w1 ⟨g,rfl,hms,hb1⟩;have HMS:=hiD hms;have HB1:=hiD hb1;clear k0 k1 k2 k3 k4 k5 k6 hms hb1;go_wp2_with fail
 refine(zsp ⟨#[]⟩ 1 4294967296 (some ⟨g,0,none⟩) 1 1 [⟨u,f,d,bl⟩] w1 HMS.o (by omega) (fun m hm=>by rw[List.mem_singleton.1 hm];show bl.length≤_;have:=HBL.o;have:=HXN.o;omega)).mono ?_;rintro e w3 ⟨cA,cc,rfl,hom,hb3⟩;have hbw:=HB1.o.trans (hb3.mono HB1.o.size);obtain⟨g2,y,rfl,hg1,hg2,hy,-,hrow,hbody⟩:=hom.at_ (j:=0) (by omega);obtain⟨ym,yA,yn,yc⟩:=y;have hy':ym=⟨u,f,d,bl⟩:=by simpa using hy.symm
 subst hy';obtain⟨r0,r1,r2,r3⟩:=row4 hrow;have hyn:yn=xn:=by have:=hbody.len;have:=HBL.o;simp only at *;omega
 subst hyn;simp only[Nat.zero_mul,Nat.zero_add] at r0 r1 r2 r3;have HO:Hid (OwnB w3 (w.heap.size+2) 5 yA yn yc bl):=hiD (OwnB.base_le hbody (by have:=HZ.o;have:=HB1.o.size;omega));have HG:=hiD (show w.heap.size+2≤g2 by have:=HZ.o;have:=HB1.o.size;omega);have hg0:g2≠w.heap.size:=by have:=HG.o;omega
 have hfd:=fun W=>z5z (.string ⟨#[]⟩) (.int .i64 1) (.int .i64 4294967296) (some ⟨g2,0,none⟩) 1 cc W;clear hom hb3 HB1 hrow hy hbody;have HBW:=hiD (HB.o.trans (hbw.mono (by have:=HZ.o;omega)));have HS:=hiD (show w.heap.size+2≤w3.heap.size by have:=hbw.size;have:=HZ.o;omega);have h1:=H1.o.below hbw (by have:=HZ.o;omega);have h2:=H2.o.below hbw (by have:=HZ.o;omega);have H1':=hiD h1;have H2':=hiD h2;have z0:=h1.frozen 0;have z1:=h1.frozen 1;have z2:=h1.frozen 2;have z3:=h1.frozen 3;have z4:=h1.frozen 4;have z5:=h1.frozen 5;have z6:=h1.frozen 6;have y0:=h2.frozen 0;have y1:=h2.frozen 1;have y2:=h2.frozen 2;have y3:=h2.frozen 3;have y4:=h2.frozen 4;have y5:=h2.frozen 5;have y6:=h2.frozen 6;obtain⟨k0,k1,k2,k3,k4,k5,k6⟩:=h1.seven;obtain⟨j0,j1,j2,j3,j4,j5,j6⟩:=h2.seven;clear H1 H2 HB h1 h2 hbw;go_wp2_with fail
 refine bodyPost_ret (qi (a:=⟨w.heap.size+1,0,none⟩) rfl rfl (Bk.tomb_ (Bk.put7 (H2'.o.grown (zll _ _ _ _ _ _) (show w.heap.size+1≠w.heap.size by omega)) _ _ _ _ _ _ _))) rfl ⟨yA,yc,rfl,?_,?_⟩
 ·exact((HO.o.farG (zll _ _ _ _ _ _) (by omega)).farG (zlk _ _ _ _ _ _ _ _ _) (by omega)).base_le (by omega)
 ·exact below_of' (below_of' HBW.o (zll _ _ _ _ _ _) (Nat.le_refl _) (Nat.le_refl _)) (zlk _ _ _ _ _ _ _ _ _) (by omega) (Nat.le_refl _)
theorem z54 (x:Hh)(w:World)(hx:HhIn w w.heap.size x)(hn:x.n≤100000):Calls Tryz.prog 118 #[.agg (hhA x)] w (GiveH x w):=by
 obtain⟨id,nm,xA,xn,xc,st⟩:=x;have hB:Below w.heap.size w ((w.alloc (.cells #[.int .i64 id,.string nm,.slice xA xn xc] 78)).alloc (.cells #[.int .i64 0,.string ⟨#[]⟩,.slice none 0 0] 78)):=((Below.refl _ _).alloc (Nat.le_refl _) _).alloc (by simp) _;have h1:Bk ((w.alloc (.cells #[.int .i64 id,.string nm,.slice xA xn xc] 78)).alloc (.cells #[.int .i64 0,.string ⟨#[]⟩,.slice none 0 0] 78)) w.heap.size 78 #[.int .i64 id,.string nm,.slice xA xn xc]:=(Bk.new _ _ _).alloc _;have h2:Bk ((w.alloc (.cells #[.int .i64 id,.string nm,.slice xA xn xc] 78)).alloc (.cells #[.int .i64 0,.string ⟨#[]⟩,.slice none 0 0] 78)) (w.heap.size+1) 78 #[.int .i64 0,.string ⟨#[]⟩,.slice none 0 0]:=Bk.new2 _ _ _ _;have HL:=hiD (ColK.later (show ColK 2 rgC w w.heap.size xA xn st from hx.1) hB);have HXN:=hiD (show xn≤100000 from hn);have HB:=hiD hB;have H1:=hiD h1;have H2:=hiD h2
 have HZ:Hid (((w.alloc (.cells #[.int .i64 id,.string nm,.slice xA xn xc] 78)).alloc (.cells #[.int .i64 0,.string ⟨#[]⟩,.slice none 0 0] 78)).heap.size=w.heap.size+2):=hiD (by simp);have k2:=h1.cell 2;clear hx hB h1 h2 hn
 show Calls Tryz.prog 118 #[.agg #[.int .i64 id,.string nm,.slice xA xn xc]] w _
 go_enter Tryz.func118,Tryz.ntmps118
 go_wp2_with fail
 generalize ((w.alloc (.cells #[.int .i64 id,.string nm,.slice xA xn xc] 78)).alloc (.cells #[.int .i64 0,.string ⟨#[]⟩,.slice none 0 0] 78))=W at *;refine(z5y xA xn xc st W HL.o (by have:=HXN.o;omega)).mono ?_;rintro e w3 ⟨yA,yc,rfl,ho,hbw⟩;have HO:=hiD (ho.from_ (base':=w.heap.size+2) (by have:=HZ.o;omega));have HBW:=hiD (HB.o.trans (hbw.mono (by have:=HZ.o;omega)));have h1:=H1.o.below hbw (by have:=HZ.o;omega);have h2:=H2.o.below hbw (by have:=HZ.o;omega);have H2':=hiD h2;have k0:=h1.cell 0;have k1:=h1.cell 1;have k2':=h1.cell 2;have z2:=h1.frozen 2;have j0:=h2.cell 0;have j1:=h2.cell 1;have j2:=h2.cell 2;have y0:=h2.frozen 0;have y1:=h2.frozen 1;have y2:=h2.frozen 2;clear H1 H2 HB h1 h2 hbw ho k2;go_wp2_with fail
 refine bodyPost_ret (qi (a:=⟨w.heap.size+1,0,none⟩) rfl rfl (Bk.hold_ (Bk.put3 (H2'.o.grown (jk _ _ _ _) (show w.heap.size+1≠w.heap.size by omega)) _ _ _))) rfl ⟨yA,yc,rfl,?_,?_⟩
 ·exact(OwnK.from_ (base:=w.heap.size+2) ⟨zcc (zcc HO.o.1 (jk _ _ _ _) (fun b cs fr q hb=>by injection q with q;omega)) (zsj _ _ _ _ _) (fun b cs fr q hb=>by injection q with q;omega),HO.o.2⟩ (by omega))
 ·exact below_of' (below_of' HBW.o (jk _ _ _ _) (Nat.le_refl _) (Nat.le_refl _)) (zsj _ _ _ _ _) (by omega) (Nat.le_refl _)
theorem zlm {α:Type}{gs hs:List α}{k:Nat}{a a':α}(hg:gs.length=k)(ha:hs[k]?=some a):(gs++hs.drop k).set k a'=(gs++[a'])++hs.drop (k+1):=by
 have hk:k<hs.length:=(List.getElem?_eq_some_iff.1 ha).1;rw[List.set_append_right _ _ (by omega),hg,Nat.sub_self,List.drop_eq_getElem_cons hk,jB,List.append_assoc];rfl
theorem zln {α:Type}{gs hs:List α}{k:Nat}{a:α}(hg:gs.length=k)(ha:hs[k]?=some a):(gs++hs.drop k)[k]?=some a:=by
 rw[List.getElem?_append_right (by omega),hg,Nat.sub_self,List.getElem?_drop]
 simpa using ha
def CallO (P:Program){α β:Type}(g:Nat)(v:α→Value)(Pr Q:World→Nat→α→Prop)(G:α→β)(l:List β):Prop :=
 ∀ (W:World) (x:α),G x∈l→Pr W W.heap.size x→Calls P g #[v x] W fun e W'=>∃ y,e=.returned (v y)∧G y=G x∧Q W' W.heap.size y∧Below W.heap.size W W'
def OwnedAt {α β:Type}(k:Nat)(f:α→List Value)(t:TypeId)(Q:World→Nat→α→Prop)(G:α→β)(w:World)(A:Option Addr)(n c:Nat)(hs:List α)(j:Nat)(wr:World):Prop :=
 ∃ gs:List α,OwnK k f wr w.heap.size t A n c (gs++hs.drop j)∧gs.length=j∧(∀ h∈gs,Q wr w.heap.size h)∧gs.map G=(hs.take j).map G∧Below w.heap.size w wr
def GiveNest {α β:Type}(k:Nat)(f:α→List Value)(t:TypeId)(Q:World→Nat→α→Prop)(G:α→β)(w:World)(n:Nat)(l:List β)(e:Ending)(w':World):Prop:=∃ A' c',e=.returned (.slice A' n c')∧NestO k f t Q G w' w.heap.size A' n c' l∧Below w.heap.size w w'
theorem z56 (g:Nat)(A:Option Addr)(n c:Nat)(l:List Bx)(w:World)(hl:BoxesIn w w.heap.size A n l)(hn:n≤1000000)(hg:Enters Tryz.prog g)(hc:CallO Tryz.prog g (fun x=>.agg (bhA x)) BhIn BhO Bh.b l) :
 Calls Tryz.prog 111 #[.slice A n c,.func (.func g) #[] #[]] w (GiveNest 4 bhC 76 BhO Bh.b w n l):=by
 obtain⟨hs,h1,h2,rfl⟩:=hl;have HS:=hiD h2;have HLN:=hiD h1.1;have HG:=hiD hg;have HC:=hiD hc;have CC:=hiD (z5u A n c hs w h1 hn);clear h1 h2 hg hc;go_enter Tryz.func111,Tryz.ntmps111
 go_wp2_with fail
 refine CC.o.mono ?_;rintro e w1 ⟨A1,c1,rfl,ho,hb⟩;have HO:=hiD ho;have HB:=hiD hb;clear ho hb CC;go_wp2_with fail
 go_loopw [12] (fun i wx=>∃ j:Nat,j≤n∧i=.int .i64 (j:Int)∧OwnedAt 4 bhC 76 BhO Bh.b w A1 n c1 hs j wx) (fun i _=>n-(intOf i).toNat)
 case atStart=>exact⟨0,Nat.zero_le _,rfl,[],by simpa using HO.o,rfl,(fun h hh=>by simp at hh),rfl,HB.o⟩
 case round =>
  obtain⟨j,hj,rfl,hat⟩:=hrel;have HAT:=hiD hat
  clear hat
  by_cases hlt:j<n
  ·obtain⟨gs,a1,a2,a3,a4,a5⟩:=HAT.o
   obtain⟨x,hx⟩:∃ x,hs[j]?=some x:=⟨_,List.getElem?_eq_getElem (by have:=HLN.o;omega)⟩;obtain⟨⟨nm,v,nx,ms⟩,xA,xn,xc⟩:=x;have hxm:=List.mem_of_getElem? hx;obtain⟨q,rfl,hqb,hR⟩:=a1.rows (by omega);have hrow:=hR.range (zln a2 hx);have HROW:=hiD hrow;have hk0:(0:Int)≤(j:Int):=by omega
   have hkn:(j:Int)<(n:Int):=by omega
   have hb2:Below wr.heap.size wr (wr.alloc (.cells #[.string nm,.int .i64 v,.int .i64 nx,.slice xA xn xc] 76)):=(Below.refl _ _).alloc (Nat.le_refl _) _;have CI:Hid (Calls Tryz.prog g #[.agg #[.string nm,.int .i64 v,.int .i64 nx,.slice xA xn xc]] (wr.alloc (.cells #[.string nm,.int .i64 v,.int .i64 nx,.slice xA xn xc] 76)) fun e W'=>∃ y,e=.returned (.agg (bhA y))∧Bh.b y=Bh.b (⟨⟨nm,v,nx,ms⟩,xA,xn,xc⟩:Bh)∧BhO W' (wr.alloc (.cells #[.string nm,.int .i64 v,.int .i64 nx,.slice xA xn xc] 76)).heap.size y∧Below (wr.alloc (.cells #[.string nm,.int .i64 v,.int .i64 nx,.slice xA xn xc] 76)).heap.size (wr.alloc (.cells #[.string nm,.int .i64 v,.int .i64 nx,.slice xA xn xc] 76)) W'):=hiD (HC.o (wr.alloc (.cells #[.string nm,.int .i64 v,.int .i64 nx,.slice xA xn xc] 76)) _ (List.mem_map_of_mem hxm) (bhStays.later_ (HS.o _ hxm) (a5.trans (hb2.mono a5.size))))
   have m0:=(Bk.new wr 76 #[.string nm,.int .i64 v,.int .i64 nx,.slice xA xn xc]).cell 0;have m1:=(Bk.new wr 76 #[.string nm,.int .i64 v,.int .i64 nx,.slice xA xn xc]).cell 1;have m2:=(Bk.new wr 76 #[.string nm,.int .i64 v,.int .i64 nx,.slice xA xn xc]).cell 2;have m3:=(Bk.new wr 76 #[.string nm,.int .i64 v,.int .i64 nx,.slice xA xn xc]).cell 3;have HB2:=hiD hb2;have HX:=hiD hx;have HB5:=hiD a5;clear hrow a1 a2 a3 a4 a5 hx hxm hR hb2;go_wp2_with (with_reducible refine stn 16 ?_)
   refine held (wpList_load_mid rfl 76 (.tmp 15) rfl q (j*4) rfl (bhC ⟨⟨nm,v,nx,ms⟩,xA,xn,xc⟩) _ HROW.o Tryz.underlying76 rfl (by kernel_rfl) ?_);unfold bhC;go_wp2_with fail
   rw[HG.o];refine CI.o.mono ?_;generalize wr.alloc (.cells #[.string nm,.int .i64 v,.int .i64 nx,.slice xA xn xc] 76)=W1 at *;rintro e W2 ⟨y,rfl,hyx,hq,hbw⟩;have HBW:=hiD (HB2.o.trans (hbw.mono HB2.o.size));have HQ:=hiD (bhOwns.from_ hq (Nat.le_trans HB5.o.size HB2.o.size));have HYX:=hiD hyx;clear hq hbw hyx CI m0 m1 m2 m3;go_wp2_with ((with_reducible show wpList _ _ _ (⟨none,Op.store _ _ _,_,_,_,_⟩::_) _ _);refine hold ?_)
   obtain⟨gs,a1,a2,a3,a4,a5⟩:=HAT.o;obtain⟨q',hqe,hqb',hR⟩:=a1.rows (by omega);injection hqe with hqe;injection hqe with hqe;subst hqe;have hR2:=hR.below HBW.o;have hlen:(gs++hs.drop j).length=n:=a1.len;refine held (zjw rfl 76 (.tmp 22) (.tmp 21) rfl hR2 j (by omega) y rfl (by rw[zlo];rfl) (by kernel_rfl) (zhb y) ?_);intro W3 hR3 hg3;obtain⟨cur,rest',hbk,_,_⟩:=hR2.2.2.2;have hb3:Below w.heap.size W2 W3:=(Below.refl _ W2).grown hg3 (Nat.le_trans HB5.o.size HBW.o.size) (fun z hz=>by injection hz with hz;omega);have hch:Chg 76 w.heap.size W2 W3:=Chg.of hbk hg3 hb3
   have HN:Hid (OwnedAt 4 bhC 76 BhO Bh.b w (some ⟨q,0,none⟩) n c1 hs (j+1) W3):=hiD (by
    refine⟨gs++[y],?_,by simp[a2],fun h hh=>?_,?_,(HB5.o.trans (HBW.o.mono HB5.o.size)).trans hb3⟩
    ·have h8:=hR3.own hqb
     rw[List.length_set,hlen,zlm a2 HX.o] at h8;exact h8
    ·rcases List.mem_append.1 hh with hh|hh
     ·exact bhOwns.chg (bhOwns.below (a3 h hh) HBW.o) hch (by simp)
     ·rw[List.mem_singleton.1 hh];exact bhOwns.chg HQ.o hch (by simp)
    ·rw[List.map_append,a4,zcz HX.o,List.map_append]
     show _++[Bh.b y]=_++[Bh.b (⟨⟨nm,v,nx,ms⟩,xA,xn,xc⟩:Bh)]
     rw[HYX.o])
   clear hb3 hch hg3 hR3 hR2 hR a1 a2 a3 a4 a5 hbk HB5 HB2 HBW HROW;go_wp2_with fail
   go_roundw
   case rel=>exact⟨j+1,by omega,by go_num,HN.o⟩
   case measure=>simp[intOf];omega
  ·have hkn:¬ (j:Int)<(n:Int):=by omega
   obtain rfl:j=n:=by omega
   go_wp2_with fail
   go_ret;obtain⟨gs,a1,a2,a3,a4,a5⟩:=HAT.o;rw[List.drop_of_length_le (by rw[HLN.o];exact Nat.le_refl _),List.append_nil] at a1;rw[List.take_of_length_le (by rw[HLN.o];exact Nat.le_refl _)] at a4;exact⟨A1,c1,rfl,⟨gs,a1,a3,a4⟩,a5⟩
theorem z57 (g:Nat)(A:Option Addr)(n c:Nat)(l:List Tmb)(w:World)(hl:TombsIn w w.heap.size A n l)(hn:n≤1000000)(hg:Enters Tryz.prog g)(hc:CallO Tryz.prog g (fun x=>.agg (thA x)) ThIn ThO Th.t l) :
 Calls Tryz.prog 115 #[.slice A n c,.func (.func g) #[] #[]] w (GiveNest 7 thC 110 ThO Th.t w n l):=by
 obtain⟨hs,h1,h2,rfl⟩:=hl;have HS:=hiD h2;have HLN:=hiD h1.1;have HG:=hiD hg;have HC:=hiD hc;have CC:=hiD (z5v A n c hs w h1 hn);clear h1 h2 hg hc;go_enter Tryz.func115,Tryz.ntmps115
 go_wp2_with fail
 refine CC.o.mono ?_;rintro e w1 ⟨A1,c1,rfl,ho,hb⟩;have HO:=hiD ho;have HB:=hiD hb;clear ho hb CC;go_wp2_with fail
 go_loopw [12] (fun i wx=>∃ j:Nat,j≤n∧i=.int .i64 (j:Int)∧OwnedAt 7 thC 110 ThO Th.t w A1 n c1 hs j wx) (fun i _=>n-(intOf i).toNat)
 case atStart=>exact⟨0,Nat.zero_le _,rfl,[],by simpa using HO.o,rfl,(fun h hh=>by simp at hh),rfl,HB.o⟩
 case round =>
  obtain⟨j,hj,rfl,hat⟩:=hrel;have HAT:=hiD hat
  clear hat
  by_cases hlt:j<n
  ·obtain⟨gs,a1,a2,a3,a4,a5⟩:=HAT.o
   obtain⟨x,hx⟩:∃ x,hs[j]?=some x:=⟨_,List.getElem?_eq_getElem (by have:=HLN.o;omega)⟩;obtain⟨⟨id,nm,a,⟨u,f,d,bl⟩⟩,xA,xn,xc⟩:=x;have hxm:=List.mem_of_getElem? hx;obtain⟨q,rfl,hqb,hR⟩:=a1.rows (by omega);have hrow:=hR.range (zln a2 hx);have HROW:=hiD hrow;have hk0:(0:Int)≤(j:Int):=by omega
   have hkn:(j:Int)<(n:Int):=by omega
   have hb2:Below wr.heap.size wr (wr.alloc (.cells #[.int .i64 id,.string nm,.int .i64 a,.int .i64 u,.int .i64 f,.int .i64 d,.slice xA xn xc] 110)):=(Below.refl _ _).alloc (Nat.le_refl _) _;have CI:Hid (Calls Tryz.prog g #[.agg #[.int .i64 id,.string nm,.int .i64 a,.int .i64 u,.int .i64 f,.int .i64 d,.slice xA xn xc]] (wr.alloc (.cells #[.int .i64 id,.string nm,.int .i64 a,.int .i64 u,.int .i64 f,.int .i64 d,.slice xA xn xc] 110)) fun e W'=>∃ y,e=.returned (.agg (thA y))∧Th.t y=Th.t (⟨⟨id,nm,a,⟨u,f,d,bl⟩⟩,xA,xn,xc⟩:Th)∧ThO W' (wr.alloc (.cells #[.int .i64 id,.string nm,.int .i64 a,.int .i64 u,.int .i64 f,.int .i64 d,.slice xA xn xc] 110)).heap.size y∧Below (wr.alloc (.cells #[.int .i64 id,.string nm,.int .i64 a,.int .i64 u,.int .i64 f,.int .i64 d,.slice xA xn xc] 110)).heap.size (wr.alloc (.cells #[.int .i64 id,.string nm,.int .i64 a,.int .i64 u,.int .i64 f,.int .i64 d,.slice xA xn xc] 110)) W'):=hiD (HC.o (wr.alloc (.cells #[.int .i64 id,.string nm,.int .i64 a,.int .i64 u,.int .i64 f,.int .i64 d,.slice xA xn xc] 110)) _ (List.mem_map_of_mem hxm) (thStays.later_ (HS.o _ hxm) (a5.trans (hb2.mono a5.size))))
   have m0:=(Bk.new wr 110 #[.int .i64 id,.string nm,.int .i64 a,.int .i64 u,.int .i64 f,.int .i64 d,.slice xA xn xc]).cell 0;have m1:=(Bk.new wr 110 #[.int .i64 id,.string nm,.int .i64 a,.int .i64 u,.int .i64 f,.int .i64 d,.slice xA xn xc]).cell 1;have m2:=(Bk.new wr 110 #[.int .i64 id,.string nm,.int .i64 a,.int .i64 u,.int .i64 f,.int .i64 d,.slice xA xn xc]).cell 2;have m3:=(Bk.new wr 110 #[.int .i64 id,.string nm,.int .i64 a,.int .i64 u,.int .i64 f,.int .i64 d,.slice xA xn xc]).cell 3;have m4:=(Bk.new wr 110 #[.int .i64 id,.string nm,.int .i64 a,.int .i64 u,.int .i64 f,.int .i64 d,.slice xA xn xc]).cell 4;have m5:=(Bk.new wr 110 #[.int .i64 id,.string nm,.int .i64 a,.int .i64 u,.int .i64 f,.int .i64 d,.slice xA xn xc]).cell 5;have m6:=(Bk.new wr 110 #[.int .i64 id,.string nm,.int .i64 a,.int .i64 u,.int .i64 f,.int .i64 d,.slice xA xn xc]).cell 6
   have HB2:=hiD hb2;have HX:=hiD hx;have HB5:=hiD a5;clear hrow a1 a2 a3 a4 a5 hx hxm hR hb2;go_wp2_with (with_reducible refine stn 16 ?_)
   refine held (wpList_load_mid rfl 110 (.tmp 15) rfl q (j*7) rfl (thC ⟨⟨id,nm,a,⟨u,f,d,bl⟩⟩,xA,xn,xc⟩) _ HROW.o Tryz.underlying110 rfl (by kernel_rfl) ?_);unfold thC;go_wp2_with fail
   rw[HG.o];refine CI.o.mono ?_;generalize wr.alloc (.cells #[.int .i64 id,.string nm,.int .i64 a,.int .i64 u,.int .i64 f,.int .i64 d,.slice xA xn xc] 110)=W1 at *;rintro e W2 ⟨y,rfl,hyx,hq,hbw⟩;have HBW:=hiD (HB2.o.trans (hbw.mono HB2.o.size));have HQ:=hiD (thOwns.from_ hq (Nat.le_trans HB5.o.size HB2.o.size));have HYX:=hiD hyx;clear hq hbw hyx CI m0 m1 m2 m3 m4 m5 m6;go_wp2_with ((with_reducible show wpList _ _ _ (⟨none,Op.store _ _ _,_,_,_,_⟩::_) _ _);refine hold ?_)
   obtain⟨gs,a1,a2,a3,a4,a5⟩:=HAT.o;obtain⟨q',hqe,hqb',hR⟩:=a1.rows (by omega);injection hqe with hqe;injection hqe with hqe;subst hqe;have hR2:=hR.below HBW.o;have hlen:(gs++hs.drop j).length=n:=a1.len;refine held (zjw rfl 110 (.tmp 22) (.tmp 21) rfl hR2 j (by omega) y rfl (by rw[zlp];rfl) (by kernel_rfl) (zsm y) ?_);intro W3 hR3 hg3;obtain⟨cur,rest',hbk,_,_⟩:=hR2.2.2.2;have hb3:Below w.heap.size W2 W3:=(Below.refl _ W2).grown hg3 (Nat.le_trans HB5.o.size HBW.o.size) (fun z hz=>by injection hz with hz;omega);have hch:Chg 110 w.heap.size W2 W3:=Chg.of hbk hg3 hb3
   have HN:Hid (OwnedAt 7 thC 110 ThO Th.t w (some ⟨q,0,none⟩) n c1 hs (j+1) W3):=hiD (by
    refine⟨gs++[y],?_,by simp[a2],fun h hh=>?_,?_,(HB5.o.trans (HBW.o.mono HB5.o.size)).trans hb3⟩
    ·have h8:=hR3.own hqb
     rw[List.length_set,hlen,zlm a2 HX.o] at h8;exact h8
    ·rcases List.mem_append.1 hh with hh|hh
     ·exact thOwns.chg (thOwns.below (a3 h hh) HBW.o) hch (by simp)
     ·rw[List.mem_singleton.1 hh];exact thOwns.chg HQ.o hch (by simp)
    ·rw[List.map_append,a4,zcz HX.o,List.map_append]
     show _++[Th.t y]=_++[Th.t (⟨⟨id,nm,a,⟨u,f,d,bl⟩⟩,xA,xn,xc⟩:Th)]
     rw[HYX.o])
   clear hb3 hch hg3 hR3 hR2 hR a1 a2 a3 a4 a5 hbk HB5 HB2 HBW HROW;go_wp2_with fail
   go_roundw
   case rel=>exact⟨j+1,by omega,by go_num,HN.o⟩
   case measure=>simp[intOf];omega
  ·have hkn:¬ (j:Int)<(n:Int):=by omega
   obtain rfl:j=n:=by omega
   go_wp2_with fail
   go_ret;obtain⟨gs,a1,a2,a3,a4,a5⟩:=HAT.o;rw[List.drop_of_length_le (by rw[HLN.o];exact Nat.le_refl _),List.append_nil] at a1;rw[List.take_of_length_le (by rw[HLN.o];exact Nat.le_refl _)] at a4;exact⟨A1,c1,rfl,⟨gs,a1,a3,a4⟩,a5⟩
theorem z58 (g:Nat)(A:Option Addr)(n c:Nat)(l:List Hol)(w:World)(hl:HolsIn w w.heap.size A n l)(hn:n≤1000000)(hg:Enters Tryz.prog g)(hc:CallO Tryz.prog g (fun x=>.agg (hhA x)) HhIn HhO Hh.hol l) :
 Calls Tryz.prog 117 #[.slice A n c,.func (.func g) #[] #[]] w (GiveNest 3 hhC 78 HhO Hh.hol w n l):=by
 obtain⟨hs,h1,h2,rfl⟩:=hl;have HS:=hiD h2;have HLN:=hiD h1.1;have HG:=hiD hg;have HC:=hiD hc;have CC:=hiD (z5w A n c hs w h1 hn);clear h1 h2 hg hc;go_enter Tryz.func117,Tryz.ntmps117
 go_wp2_with fail
 refine CC.o.mono ?_;rintro e w1 ⟨A1,c1,rfl,ho,hb⟩;have HO:=hiD ho;have HB:=hiD hb;clear ho hb CC;go_wp2_with fail
 go_loopw [12] (fun i wx=>∃ j:Nat,j≤n∧i=.int .i64 (j:Int)∧OwnedAt 3 hhC 78 HhO Hh.hol w A1 n c1 hs j wx) (fun i _=>n-(intOf i).toNat)
 case atStart=>exact⟨0,Nat.zero_le _,rfl,[],by simpa using HO.o,rfl,(fun h hh=>by simp at hh),rfl,HB.o⟩
 case round =>
  obtain⟨j,hj,rfl,hat⟩:=hrel;have HAT:=hiD hat
  clear hat
  by_cases hlt:j<n
  ·obtain⟨gs,a1,a2,a3,a4,a5⟩:=HAT.o
   obtain⟨x,hx⟩:∃ x,hs[j]?=some x:=⟨_,List.getElem?_eq_getElem (by have:=HLN.o;omega)⟩;obtain⟨id,nm,xA,xn,xc,st⟩:=x;have hxm:=List.mem_of_getElem? hx;obtain⟨q,rfl,hqb,hR⟩:=a1.rows (by omega);have hrow:=hR.range (zln a2 hx);have HROW:=hiD hrow;have hk0:(0:Int)≤(j:Int):=by omega
   have hkn:(j:Int)<(n:Int):=by omega
   have hb2:Below wr.heap.size wr (wr.alloc (.cells #[.int .i64 id,.string nm,.slice xA xn xc] 78)):=(Below.refl _ _).alloc (Nat.le_refl _) _;have CI:Hid (Calls Tryz.prog g #[.agg #[.int .i64 id,.string nm,.slice xA xn xc]] (wr.alloc (.cells #[.int .i64 id,.string nm,.slice xA xn xc] 78)) fun e W'=>∃ y,e=.returned (.agg (hhA y))∧Hh.hol y=Hh.hol (⟨id,nm,xA,xn,xc,st⟩:Hh)∧HhO W' (wr.alloc (.cells #[.int .i64 id,.string nm,.slice xA xn xc] 78)).heap.size y∧Below (wr.alloc (.cells #[.int .i64 id,.string nm,.slice xA xn xc] 78)).heap.size (wr.alloc (.cells #[.int .i64 id,.string nm,.slice xA xn xc] 78)) W'):=hiD (HC.o (wr.alloc (.cells #[.int .i64 id,.string nm,.slice xA xn xc] 78)) _ (List.mem_map_of_mem hxm) (hhStays.later_ (HS.o _ hxm) (a5.trans (hb2.mono a5.size))));have m0:=(Bk.new wr 78 #[.int .i64 id,.string nm,.slice xA xn xc]).cell 0;have m1:=(Bk.new wr 78 #[.int .i64 id,.string nm,.slice xA xn xc]).cell 1
   have m2:=(Bk.new wr 78 #[.int .i64 id,.string nm,.slice xA xn xc]).cell 2;have HB2:=hiD hb2;have HX:=hiD hx;have HB5:=hiD a5;clear hrow a1 a2 a3 a4 a5 hx hxm hR hb2;go_wp2_with (with_reducible refine stn 16 ?_)
   refine held (wpList_load_mid rfl 78 (.tmp 15) rfl q (j*3) rfl (hhC ⟨id,nm,xA,xn,xc,st⟩) _ HROW.o Tryz.underlying78 rfl (by kernel_rfl) ?_);unfold hhC;go_wp2_with fail
   rw[HG.o];refine CI.o.mono ?_;generalize wr.alloc (.cells #[.int .i64 id,.string nm,.slice xA xn xc] 78)=W1 at *;rintro e W2 ⟨y,rfl,hyx,hq,hbw⟩;have HBW:=hiD (HB2.o.trans (hbw.mono HB2.o.size));have HQ:=hiD (hhOwns.from_ hq (Nat.le_trans HB5.o.size HB2.o.size));have HYX:=hiD hyx;clear hq hbw hyx CI m0 m1 m2;go_wp2_with ((with_reducible show wpList _ _ _ (⟨none,Op.store _ _ _,_,_,_,_⟩::_) _ _);refine hold ?_)
   obtain⟨gs,a1,a2,a3,a4,a5⟩:=HAT.o;obtain⟨q',hqe,hqb',hR⟩:=a1.rows (by omega);injection hqe with hqe;injection hqe with hqe;subst hqe;have hR2:=hR.below HBW.o;have hlen:(gs++hs.drop j).length=n:=a1.len;refine held (zjw rfl 78 (.tmp 22) (.tmp 21) rfl hR2 j (by omega) y rfl (by rw[zlu];rfl) (by kernel_rfl) (zsa y) ?_);intro W3 hR3 hg3;obtain⟨cur,rest',hbk,_,_⟩:=hR2.2.2.2;have hb3:Below w.heap.size W2 W3:=(Below.refl _ W2).grown hg3 (Nat.le_trans HB5.o.size HBW.o.size) (fun z hz=>by injection hz with hz;omega);have hch:Chg 78 w.heap.size W2 W3:=Chg.of hbk hg3 hb3
   have HN:Hid (OwnedAt 3 hhC 78 HhO Hh.hol w (some ⟨q,0,none⟩) n c1 hs (j+1) W3):=hiD (by
    refine⟨gs++[y],?_,by simp[a2],fun h hh=>?_,?_,(HB5.o.trans (HBW.o.mono HB5.o.size)).trans hb3⟩
    ·have h8:=hR3.own hqb
     rw[List.length_set,hlen,zlm a2 HX.o] at h8;exact h8
    ·rcases List.mem_append.1 hh with hh|hh
     ·exact hhOwns.chg (hhOwns.below (a3 h hh) HBW.o) hch (by simp)
     ·rw[List.mem_singleton.1 hh];exact hhOwns.chg HQ.o hch (by simp)
    ·rw[List.map_append,a4,zcz HX.o,List.map_append]
     show _++[Hh.hol y]=_++[Hh.hol (⟨id,nm,xA,xn,xc,st⟩:Hh)]
     rw[HYX.o])
   clear hb3 hch hg3 hR3 hR2 hR a1 a2 a3 a4 a5 hbk HB5 HB2 HBW HROW;go_wp2_with fail
   go_roundw
   case rel=>exact⟨j+1,by omega,by go_num,HN.o⟩
   case measure=>simp[intOf];omega
  ·have hkn:¬ (j:Int)<(n:Int):=by omega
   obtain rfl:j=n:=by omega
   go_wp2_with fail
   go_ret;obtain⟨gs,a1,a2,a3,a4,a5⟩:=HAT.o;rw[List.drop_of_length_le (by rw[HLN.o];exact Nat.le_refl _),List.append_nil] at a1;rw[List.take_of_length_le (by rw[HLN.o];exact Nat.le_refl _)] at a4;exact⟨A1,c1,rfl,⟨gs,a1,a3,a4⟩,a5⟩
noncomputable def zcp (nv:Int)(b:Bx):Bool:=qj b.name && (okBx b && decide (b.valid<nv))
def zbq (r:Rul):Bool:=qj r.1 && (decide (0<r.2) && tmB r.2)
noncomputable def zbg (clock nt:Int)(t:Tmb):Bool:=gvB t.id nt && (qj t.box && (decide (0≤t.at_) && (decide (t.at_≤clock) && okBx ⟨⟨#[]⟩,1,4294967296,[t.msg]⟩)))
def zft (box:ByteArray)(set:List Rg):Ev:=⟨12,0,box,zby,[],set,0,0,0,0,[]⟩
def zcb (nh:Int)(h:Hol):Bool:=gvB h.id nh && z7 (zft h.box h.set)
theorem z59 (bs:Nat)(nv:Int)(l:List Bx)(w:World)(hc:w.cell? ⟨bs,6,none⟩=some (.int .i64 nv))(hsz:∀ b∈l,b.name.size≤140737488355328) :
 CallP Tryz.prog 162 #[.pointer (some ⟨bs,0,none⟩)] (fun x=>.agg (bhA x)) BhIn Bh.b l (zcp nv) w:=by
 intro W x hW hm hx;have hs:=hsz _ hm;obtain⟨⟨nm,v,nx,ms⟩,xA,xn,xc⟩:=x
 show Calls Tryz.prog 162 #[.agg #[.string nm,.int .i64 v,.int .i64 nx,.slice xA xn xc],.pointer (some ⟨bs,0,none⟩)] W _
 replace hs:nm.size≤140737488355328:=hs;have hb1:Below W.heap.size W (W.alloc (.cells #[.string nm,.int .i64 v,.int .i64 nx,.slice xA xn xc] 76)):=(Below.refl _ _).alloc (Nat.le_refl _) _;have hk1:Bk (W.alloc (.cells #[.string nm,.int .i64 v,.int .i64 nx,.slice xA xn xc] 76)) W.heap.size 76 #[.string nm,.int .i64 v,.int .i64 nx,.slice xA xn xc]:=Bk.new _ _ _;have hc1:=(hb1.cell (p:=⟨bs,6,none⟩) (World.block_lt_of_cell? _ _ ((hW.cell (p:=⟨bs,6,none⟩) (World.block_lt_of_cell? _ _ hc)).trans hc))).trans ((hW.cell (p:=⟨bs,6,none⟩) (World.block_lt_of_cell? _ _ hc)).trans hc);have HX:=hiD (bhStays.later_ hx hb1);have HB1:=hiD hb1;have HK1:=hiD hk1;have HC1:=hiD hc1;have HS:=hiD hs;clear hs hx hm hW hc hb1 hk1 hc1 hsz;have HE:Hid (∀ a b c:Bool,qj nm=a→okBx ⟨nm,v,nx,ms⟩=b→decide (v<nv)=c→zcp nv ⟨nm,v,nx,ms⟩=(a && (b && c))):=hiD (fun a b c h1 h2 h3=>by unfold zcp;rw[h1,h2,h3])
 have k0:=HK1.o.cell 0;go_enter Tryz.func162,Tryz.ntmps162
 go_wp2_with fail
 refine(zfq nm HS.o _).mono ?_;generalize W.alloc (.cells #[.string nm,.int .i64 v,.int .i64 nx,.slice xA xn xc] 76)=W1 at *;rintro e w2 ⟨rfl,hb2⟩;have HB2:=hiD (HB1.o.trans (hb2.mono HB1.o.size));have HK2:=hiD (HK1.o.below hb2 HK1.o.lt);have HC2:=hiD ((hb2.cell (p:=⟨bs,6,none⟩) (World.block_lt_of_cell? _ _ HC1.o)).trans HC1.o);have HX2:=hiD (bhStays.later_ HX.o hb2);clear hb2 k0 HB1 HK1 HC1 HX;cases h1:js (nats nm)
 ·have HR:Hid (zcp nv ⟨nm,v,nx,ms⟩=false):=hiD (HE.o false _ _ h1 rfl rfl)
  clear h1;go_wp2_with fail
  go_ret;exact⟨by rw[HR.o]<;>rfl,HB2.o⟩
 ·have H1:=hiD h1
  clear h1;obtain⟨⟨d0,d1,d2,d3⟩,-,-,-,-⟩:=HK2.o.four;go_wp2_with fail
  refine(zsr nm v nx xA xn xc ms w2 HX2.o.1 HX2.o.2).mono ?_;rintro e w3 ⟨rfl,hb3⟩;have HB3:=hiD (HB2.o.trans (hb3.mono HB2.o.size));have HK3:=hiD (HK2.o.below hb3 HK2.o.lt);have c6:=(hb3.cell (p:=⟨bs,6,none⟩) (World.block_lt_of_cell? _ _ HC2.o)).trans HC2.o;clear hb3 d0 d1 d2 d3 HX2;cases h2:okBx ⟨nm,v,nx,ms⟩
  ·have HR:Hid (zcp nv ⟨nm,v,nx,ms⟩=false):=hiD (HE.o true false _ H1.o h2 rfl)
   clear h2 c6;go_wp2_with fail
   go_ret;exact⟨by rw[HR.o]<;>rfl,HB3.o⟩
  ·have H2:=hiD h2
   clear h2;have d1:=HK3.o.cell 1;have HR:Hid (zcp nv ⟨nm,v,nx,ms⟩=decide (v<nv)):=hiD (by rw[HE.o true true _ H1.o H2.o rfl];rfl);go_wp2_with fail
   go_ret;exact⟨by rw[HR.o]<;>rfl,HB3.o⟩
theorem z6a (l:List Rul)(w:World)(hsz:∀ b∈l,b.1.size≤140737488355328) :
 CallP Tryz.prog 171 #[] (fun x=>.agg (rulA' x)) TrueP (id:Rul→Rul) l zbq w:=by
 intro W x hW hm hx;have hs:=hsz _ hm;obtain⟨nm,v⟩:=x
 show Calls Tryz.prog 171 #[.agg #[.string nm,.int .i64 v]] W fun e W'=>e=.returned (.bool (zbq (nm,v)))∧Below W.heap.size W W'
 replace hs:nm.size≤140737488355328:=hs;have HB1:Hid (Below W.heap.size W (W.alloc (.cells #[.string nm,.int .i64 v] 106))):=hiD ((Below.refl _ _).alloc (Nat.le_refl _) _);have HK1:Hid (Bk (W.alloc (.cells #[.string nm,.int .i64 v] 106)) W.heap.size 106 #[.string nm,.int .i64 v]):=hiD (Bk.new _ _ _);have HS:=hiD hs;clear hs hx hm hW hsz;have HE:Hid (∀ a b c:Bool,qj nm=a→decide (0<v)=b→tmB v=c→zbq (nm,v)=(a && (b && c))):=hiD (fun a b c h1 h2 h3=>by unfold zbq;rw[h1,h2,h3]);have k0:=HK1.o.cell 0;go_enter Tryz.func171,Tryz.ntmps171
 go_wp2_with fail
 refine(zfq nm HS.o _).mono ?_;generalize W.alloc (.cells #[.string nm,.int .i64 v] 106)=W1 at *;rintro e w2 ⟨rfl,hb2⟩;have HB2:=hiD (HB1.o.trans (hb2.mono HB1.o.size));have HK2:=hiD (HK1.o.below hb2 HK1.o.lt);clear hb2 k0 HB1 HK1;cases h1:js (nats nm)
 ·have HR:Hid (zbq (nm,v)=false):=hiD (HE.o false _ _ h1 rfl rfl)
  clear h1;go_wp2_with fail
  go_ret;exact⟨by rw[HR.o]<;>rfl,HB2.o⟩
 ·have H1:=hiD h1
  clear h1;have d1:=HK2.o.cell 1;by_cases h2:0<v
  ·have HR:Hid (zbq (nm,v)=tmB v):=hiD (by rw[HE.o true true _ H1.o (decide_eq_true h2) rfl];rfl)
   go_wp2_with fail
   refine(zsf v w2).mono ?_;rintro e w3 ⟨rfl,rfl⟩;go_wp2_with fail
   go_ret;exact⟨by rw[HR.o]<;>rfl,HB2.o⟩
  ·have HR:Hid (zbq (nm,v)=false):=hiD (HE.o true false _ H1.o (decide_eq_false h2) rfl)
   go_wp2_with fail
   go_ret;exact⟨ji (by rw[HR.o]<;>first|rfl|simp[h2]),HB2.o⟩
theorem z6b (bs:Nat)(clock nt:Int)(l:List Tmb)(w:World)(hc:w.cell? ⟨bs,0,none⟩=some (.int .i64 clock))(hc7:w.cell? ⟨bs,7,none⟩=some (.int .i64 nt))(hsz:∀ b∈l,b.box.size≤140737488355328) :
 CallP Tryz.prog 174 #[.pointer (some ⟨bs,0,none⟩)] (fun x=>.agg (thA x)) ThIn Th.t l (zbg clock nt) w:=by
 intro W x hW hm hx;have hs:=hsz _ hm;obtain⟨⟨id,nm,a,u,f,d,bl⟩,xA,xn,xc⟩:=x
 show Calls Tryz.prog 174 #[.agg #[.int .i64 id,.string nm,.int .i64 a,.int .i64 u,.int .i64 f,.int .i64 d,.slice xA xn xc],.pointer (some ⟨bs,0,none⟩)] W _
 replace hs:nm.size≤140737488355328:=hs;have hb1:Below W.heap.size W (W.alloc (.cells #[.int .i64 id,.string nm,.int .i64 a,.int .i64 u,.int .i64 f,.int .i64 d,.slice xA xn xc] 110)):=(Below.refl _ _).alloc (Nat.le_refl _) _;have HK1:Hid (Bk (W.alloc (.cells #[.int .i64 id,.string nm,.int .i64 a,.int .i64 u,.int .i64 f,.int .i64 d,.slice xA xn xc] 110)) W.heap.size 110 #[.int .i64 id,.string nm,.int .i64 a,.int .i64 u,.int .i64 f,.int .i64 d,.slice xA xn xc]):=hiD (Bk.new _ _ _);have hcw:=(hW.cell (p:=⟨bs,0,none⟩) (World.block_lt_of_cell? _ _ hc)).trans hc;have hcw7:=(hW.cell (p:=⟨bs,7,none⟩) (World.block_lt_of_cell? _ _ hc7)).trans hc7;have hc1:=(hb1.cell (p:=⟨bs,0,none⟩) (World.block_lt_of_cell? _ _ hcw)).trans hcw;have c7:=(hb1.cell (p:=⟨bs,7,none⟩) (World.block_lt_of_cell? _ _ hcw7)).trans hcw7;have HX:=hiD (thStays.later_ hx hb1)
 have HB1:=hiD hb1;have HC1:=hiD hc1;have HS:=hiD hs;clear hs hx hm hW hc hc7 hb1 hc1 hcw hcw7 hsz;have HE:Hid (∀ a1 b1 c1 d1 e1:Bool,gvB id nt=a1→qj nm=b1→decide (0≤a)=c1→decide (a≤clock)=d1→okBx ⟨⟨#[]⟩,1,4294967296,[⟨u,f,d,bl⟩]⟩=e1→zbg clock nt ⟨id,nm,a,u,f,d,bl⟩=(a1 && (b1 && (c1 && (d1 && e1))))):=hiD (fun a1 b1 c1 d1 e1 h1 h2 h3 h4 h5=>by unfold zbg;rw[h1,h2,h3,h4,h5]);have k0:=HK1.o.cell 0;go_enter Tryz.func174,Tryz.ntmps174
 go_wp2_with fail
 refine(zsg id nt _).mono ?_;generalize W.alloc (.cells #[.int .i64 id,.string nm,.int .i64 a,.int .i64 u,.int .i64 f,.int .i64 d,.slice xA xn xc] 110)=W1 at *;rintro e w1 ⟨rfl,rfl⟩;cases h1:gvB id nt
 ·have HR:Hid (zbg clock nt ⟨id,nm,a,u,f,d,bl⟩=false):=hiD (HE.o false _ _ _ _ h1 rfl rfl rfl rfl)
  clear h1;go_wp2_with fail
  go_ret;exact⟨by rw[HR.o]<;>rfl,HB1.o⟩
 have H1:=hiD h1;clear h1 k0 c7;have k1:=HK1.o.cell 1;go_wp2_with fail
 refine(zfq nm HS.o _).mono ?_;rintro e w2 ⟨rfl,hb2⟩;have HB2:=hiD (HB1.o.trans (hb2.mono HB1.o.size));have HK2:=hiD (HK1.o.below hb2 HK1.o.lt);have c0:=(hb2.cell (p:=⟨bs,0,none⟩) (World.block_lt_of_cell? _ _ HC1.o)).trans HC1.o;have HX2:=hiD (thStays.later_ HX.o hb2);clear hb2 k1 HB1 HK1 HC1 HX;cases h2:js (nats nm)
 ·have HR:Hid (zbg clock nt ⟨id,nm,a,u,f,d,bl⟩=false):=hiD (HE.o true false _ _ _ H1.o h2 rfl rfl rfl)
  clear h2;go_wp2_with fail
  go_ret;exact⟨by rw[HR.o]<;>rfl,HB2.o⟩
 have H2:=hiD h2;clear h2;obtain⟨k0,k1,k2,k3,k4,k5,k6⟩:=HK2.o.seven;by_cases h3:0≤a
 ·by_cases h4:a≤clock
  ·have H3:=hiD h3
   have H4:=hiD h4;go_wp2_with fail
   refine(zsh u f d xA xn xc bl w2 HX2.o.1 HX2.o.2).mono ?_;rintro e w3 ⟨g,rfl,hms,hb3⟩;have HB3:=hiD (HB2.o.trans (hb3.mono HB2.o.size));have HMS:=hiD hms;clear hb3 k0 k1 k2 k3 k4 k5 k6 c0 HX2 hms h3 h4;go_wp2_with fail
   refine(zsr ⟨#[]⟩ 1 4294967296 (some ⟨g,0,none⟩) 1 1 [⟨u,f,d,bl⟩] w3 HMS.o (by omega)).mono ?_;rintro e w4 ⟨rfl,hb4⟩;have HB4:=hiD (HB3.o.trans (hb4.mono HB3.o.size));have HR:Hid (zbg clock nt ⟨id,nm,a,u,f,d,bl⟩=okBx ⟨⟨#[]⟩,1,4294967296,[⟨u,f,d,bl⟩]⟩):=hiD (by rw[HE.o true true true true _ H1.o H2.o (decide_eq_true H3.o) (decide_eq_true H4.o) rfl];rfl);clear hb4;go_wp2_with fail
   go_ret;exact⟨by rw[HR.o]<;>rfl,HB4.o⟩
  ·have HR:Hid (zbg clock nt ⟨id,nm,a,u,f,d,bl⟩=false):=hiD (HE.o true true true false _ H1.o H2.o (decide_eq_true h3) (decide_eq_false h4) rfl)
   go_wp2_with fail
   go_ret;exact⟨ji (by rw[HR.o]<;>first|rfl|simp[h3,h4]),HB2.o⟩
 ·have HR:Hid (zbg clock nt ⟨id,nm,a,u,f,d,bl⟩=false):=hiD (HE.o true true false _ _ H1.o H2.o (decide_eq_false h3) rfl rfl)
  go_wp2_with fail
  go_ret;exact⟨ji (by rw[HR.o]<;>first|rfl|simp[h3]),HB2.o⟩
theorem z6c (bs:Nat)(nh:Int)(l:List Hol)(w:World)(hK:Kinds w)(hc:w.cell? ⟨bs,8,none⟩=some (.int .i64 nh))(hsz:∀ b∈l,b.box.size≤140737488355328) :
 CallP Tryz.prog 179 #[.pointer (some ⟨bs,0,none⟩)] (fun x=>.agg (hhA x)) HhIn Hh.hol l (zcb nh) w:=by
 intro W x hW hm hx;have hs:=hsz _ hm;obtain⟨id,nm,xA,xn,xc,st⟩:=x
 show Calls Tryz.prog 179 #[.agg #[.int .i64 id,.string nm,.slice xA xn xc],.pointer (some ⟨bs,0,none⟩)] W _
 replace hs:nm.size≤140737488355328:=hs;have hb1:Below W.heap.size W (W.alloc (.cells #[.int .i64 id,.string nm,.slice xA xn xc] 78)):=(Below.refl _ _).alloc (Nat.le_refl _) _;have hk1:Bk (W.alloc (.cells #[.int .i64 id,.string nm,.slice xA xn xc] 78)) W.heap.size 78 #[.int .i64 id,.string nm,.slice xA xn xc]:=Bk.new _ _ _;have hcw:=(hW.cell (p:=⟨bs,8,none⟩) (World.block_lt_of_cell? _ _ hc)).trans hc;have c8:=(hb1.cell (p:=⟨bs,8,none⟩) (World.block_lt_of_cell? _ _ hcw)).trans hcw;have HX:=hiD (hhStays.later_ hx hb1);have HB1:=hiD hb1;have HKK:=hiD ((hK.below hW).below hb1);have k0:=hk1.cell 0;have k1:=hk1.cell 1;have k2:=hk1.cell 2;have HS:=hiD hs;clear hs hx hm hW hc hb1 hk1 hcw hsz hK;have HE:Hid (∀ a1 b1:Bool,gvB id nh=a1→z7 (zft nm st)=b1→zcb nh (Hh.hol ⟨id,nm,xA,xn,xc,st⟩)=(a1 && b1)):=hiD (fun a1 b1 h1 h2=>by unfold zcb;exact(congr (congrArg and h1) h2))
 go_enter Tryz.func179,Tryz.ntmps179
 go_wp2_with fail
 refine(zsg id nh _).mono ?_;generalize W.alloc (.cells #[.int .i64 id,.string nm,.slice xA xn xc] 78)=W1 at *;rintro e w1 ⟨rfl,rfl⟩;cases h1:gvB id nh
 ·have HR:Hid (zcb nh (Hh.hol ⟨id,nm,xA,xn,xc,st⟩)=false):=hiD (HE.o false _ h1 rfl)
  clear h1;go_wp2_with fail
  go_ret;exact⟨by rw[HR.o]<;>rfl,HB1.o⟩
 have H1:=hiD h1;clear h1;go_wp2_with fail
 refine(zla ⟨zft nm st,none,0,0,xA,xn,xc,none,0,0⟩ _ ⟨Col.nil,HX.o.1,Bytes.nil,Nat.zero_le _,HX.o.2,Nat.zero_le _,HS.o,Nat.zero_le _⟩ HKK.o).mono ?_;rintro e w2 ⟨rfl,hb2⟩;have HB2:=hiD (HB1.o.trans (hb2.mono HB1.o.size));have HR:Hid (zcb nh (Hh.hol ⟨id,nm,xA,xn,xc,st⟩)=z7 (zft nm st)):=hiD (by rw[HE.o true _ H1.o rfl];rfl);clear hb2;go_wp2_with fail
 go_ret;exact⟨by rw[HR.o]<;>rfl,HB2.o⟩
open Classical in
noncomputable instance:DecidableEq Tmb:=fun a b=>propDecidable (a=b)
open Classical in
noncomputable instance:DecidableEq Hol:=fun a b=>propDecidable (a=b)
open Classical in
noncomputable instance:DecidableEq Sta:=fun a b=>propDecidable (a=b)
section
variable {β:Type} [DecidableEq β] {l l':List β} {k n n':Nat} {a a':β}
end
theorem z6d {a b:ByteArray}(h:a≠b):(a.toList == b.toList)=false:=by rw[zsq];exact decide_eq_false h
end Go.Proofs.YtmjjefnmabbgdaaGreatDoor
