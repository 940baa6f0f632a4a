/- A part of the proof. -/
import Derived.Test.YtmjjefnmabbgdaaGreatDoorSTextOwn
import Derived.StillTailTactics
namespace Go.Proofs.YtmjjefnmabbgdaaGreatDoor
set_option linter.unusedVariables false
set_option linter.unusedSimpArgs false
set_option maxRecDepth 100000
set_option maxHeartbeats 16000000
open Go.RowKit
theorem z4g (s:ByteArray)(m:List Nat)(hm:∀ x∈m,x<256):((za m).toList == s.toList)=decide (m=nats s):=by
 rw[Bool.eq_iff_iff,beq_iff_eq,decide_eq_true_iff,ByteArray.toList_eq,ByteArray.toList_eq];constructor
 ·intro e;rw[← zbw m hm,zc8 e]
 ·intro e;rw[e,zaw]
def BRow (w:World)(g:Nat)(vs:List Bool):Prop:=w.heap[g]?=some (.cells (vs.map Value.bool).toArray 4 (0,0))
section
variable {w w':World} {g:Nat} {vs:List Bool}
theorem BRow.lt (h:BRow w g vs):g<w.heap.size:=(Array.getElem?_eq_some_iff.1 h).1
theorem BRow.cell (h:BRow w g vs){i:Nat}{b:Bool}(hb:vs[i]?=some b):w.cell? ⟨g,i,none⟩=some (.bool b):=by
 rw[cell_of_row w g i _ _ (0,0) h];simp[hb]
theorem BRow.frozen (h:BRow w g vs)(i:Nat):w.frozen? ⟨g,i,none⟩=false:=frozen_of_row w g i _ _ h
theorem BRow.put (h:BRow w g vs)(i:Nat)(b:Bool):BRow (w.setCell ⟨g,i,none⟩ (.bool b)) g (vs.set i b):=by
 unfold BRow;rw[heap_setCell_same w g i _ _ _ h]
 congr 2
 apply Array.ext'
 simp[List.map_set]
theorem BRow.far (h:BRow w g vs){g':Nat}(hne:g≠g')(i:Nat)(v:Value):BRow (w.setCell ⟨g',i,none⟩ v) g vs:=(Below.heap_setCell w ⟨g',i,none⟩ v g hne).trans h
theorem BRow.alloc (h:BRow w g vs)(o:Obj):BRow (w.alloc o) g vs:=(Below.heap_alloc w o g h.lt).trans h
theorem BRow.new (w:World)(n:Nat):BRow (w.alloc (.cells (Array.replicate n (Value.bool false)) 4)) w.heap.size (List.replicate n false):=by
 unfold BRow;rw[heap_alloc_new w _,List.map_replicate,List.toArray_replicate]
theorem BRow.drew (h:BRow w g vs):BRow w.drew g vs:=h
end
def rowF (p s:List Nat)(i k:Nat):Bool:=zif (p.take i) (s.take k)
theorem zlb (c:Nat):∀ (l cur:List Nat),(zag c cur l).length=l.count c+1
 | [],cur=>rfl
 | x :: l, cur => by
   unfold zag;by_cases h:x=c
   ·subst h
    rw[if_pos rfl,List.length_cons,zlb x l,List.count_cons_self]
   ·rw[if_neg h,zlb c l,List.count_cons_of_ne h]
theorem zrq (c:Nat)(l:List Nat):(zah c l).length=l.count c+1:=zlb c l []
def EndE (l:List Nat):Prop:=∃ i,i<l.length∧l.getD i 0=47∧(i+1=l.length∨l.getD (i+1) 0=47)
theorem EndE.cons {x:Nat}{l:List Nat}:EndE (x::l)↔(x=47∧(l=[]∨l.getD 0 0=47))∨EndE l:=by
 constructor
 ·rintro⟨i,h1,h2,h3⟩
  cases i with
  | zero =>
    refine .inl ⟨by simpa using h2,?_⟩;rcases h3 with h3|h3
    ·left
     simp only[List.length_cons] at h3;exact List.eq_nil_of_length_eq_zero (by omega)
    ·right;simpa using h3
  | succ i =>
    refine .inr ⟨i,by simpa using h1,by simpa using h2,?_⟩;rcases h3 with h3|h3
    ·left;simpa using h3
    ·right;simpa using h3
 ·rintro(⟨rfl,h⟩|⟨i,h1,h2,h3⟩)
  ·refine⟨0,by simp,by simp,?_⟩
   rcases h with rfl|h
   ·left;rfl
   ·right;simpa using h
  ·refine⟨i+1,by simpa using h1,by simpa using h2,?_⟩
   rcases h3 with h3|h3
   ·left;simpa using h3
   ·right;simpa using h3
theorem EndE.nil:¬ EndE []:=fun ⟨i,h,_⟩=>by simp at h
theorem zlc:∀ (l cur:List Nat),[]∈zag 47 cur l↔(cur=[]∧(l=[]∨l.getD 0 0=47))∨EndE l
 | [], cur => by
   unfold zag;rw[List.mem_singleton];constructor
   ·intro h;exact .inl ⟨h.symm,.inl rfl⟩
   ·rintro(h|h)
    ·exact h.1.symm
    ·exact absurd h EndE.nil
 | x :: l, cur => by
   unfold zag;rw[EndE.cons];by_cases h:x=47
   ·rw[if_pos h,List.mem_cons,zlc l []]
    subst h;constructor
    ·rintro(h|h|h)
     ·exact .inl ⟨h.symm,.inr rfl⟩
     ·exact .inr (.inl ⟨rfl,h.2⟩)
     ·exact .inr (.inr h)
    ·rintro(h|h|h)
     ·exact .inl h.1.symm
     ·exact .inr (.inl ⟨rfl,h.2⟩)
     ·exact .inr (.inr h)
   ·rw[if_neg h,zlc l (cur++[x])]
    constructor
    ·rintro(⟨h1,_⟩|h2)
     ·simp at h1
     ·exact .inr (.inr h2)
    ·rintro(⟨_,h1⟩|⟨h1,_⟩|h2)
     ·rcases h1 with h1|h1
      ·cases h1
      ·exact absurd h1 h
     ·exact absurd h1 h
     ·exact .inr h2
theorem z4h (l:List Nat):[]∈zah 47 l↔l=[]∨l.getD 0 0=47∨EndE l:=by
 rw[show([]∈zah 47 l)↔([]∈zag 47 [] l)from Iff.rfl,zlc];constructor
 ·rintro(⟨_,h|h⟩|h)
  ·exact .inl h
  ·exact .inr (.inl h)
  ·exact .inr (.inr h)
 ·rintro(h|h|h)
  ·exact .inl ⟨rfl,.inl h⟩
  ·exact .inl ⟨rfl,.inr h⟩
  ·exact .inr h
theorem z4i {l:List Nat}{i:Nat}(h:l.length≤i):l.getD i 0=0:=by
 rw[List.getD_eq_getElem?_getD,List.getElem?_eq_none h];rfl
theorem zrr {l:List Nat}{i:Nat}(h:i<l.length):l.getD i 0=l[i]:=by
 rw[List.getD_eq_getElem?_getD,List.getElem?_eq_getElem h];rfl
theorem zrs {l:List Nat}{i:Nat}(h:l.getD i 0=47):i<l.length:=by
 by_cases hi:i<l.length
 ·exact hi
 ·rw[z4i (by omega)] at h;cases h
theorem zrt (l:List Nat):(∃ i,i<l.length∧(l.getD i 0=47∧(i=0∨i+1=l.length∨l.getD (i-1) 0=47)))↔l.getD 0 0=47∨EndE l:=by
 constructor
 ·rintro⟨i,h1,h2,h3⟩
  by_cases hi:i=0
  ·subst hi;exact .inl h2
  ·rcases h3 with h3|h3|h3
   ·exact absurd h3 hi
   ·exact .inr ⟨i,h1,h2,.inl h3⟩
   ·exact .inr ⟨i - 1,by omega,h3,.inr (by rw[show i - 1+1=i by omega];exact h2)⟩
 ·rintro(h|⟨i,h1,h2,h3⟩)
  ·exact⟨0,zrs h,h,.inl rfl⟩
  ·rcases h3 with h3|h3
   ·exact⟨i,h1,h2,.inr (.inl h3)⟩
   ·exact⟨i+1,zrs h3,h3,.inr (.inr (by rw[Nat.add_sub_cancel];exact h2))⟩
def zld (l:List Nat):Bool:=decide (l.length≤40∧(∀ x∈l,jh x=true)∧(zah 47 l).length≤4∧[] ∉ zah 47 l)
theorem zle (l:List Nat):zld l=qd l:=by
 unfold zld qd;rw[decide_eq_decide];rw[zrq,z4h];constructor
 ·rintro⟨h1,h2,h3,h4⟩
  refine⟨?_,h1,fun i hi=>?_,by omega⟩
  ·rcases l with _|⟨x,l⟩
   ·exact absurd (.inl rfl) h4
   ·exact Nat.succ_le_succ (Nat.zero_le _)
  ·refine zg0 ?_ fun hb=>h4 (.inr ((zrt l).1 ⟨i,hi,hb⟩))
   rw[zrr hi];exact h2 _ (List.getElem_mem hi)
 ·rintro⟨h1,h2,h3,h4⟩
  refine⟨h2,fun x hx=>?_,by omega,?_⟩
  ·obtain⟨i,hi,rfl⟩:=List.mem_iff_getElem.1 hx
   have:=(zie (h3 i hi)).1
   rwa [zrr hi] at this
  ·rintro(h|h)
   ·subst h;simp at h1
   ·obtain⟨i,hi,hb⟩:=(zrt l).2 h
    exact(zie (h3 i hi)).2 hb
theorem z4j {l:List Nat}(h:40<l.length):qd l=false:=by
 rw[← zle];exact decide_eq_false fun e=>by omega
theorem z4k {l:List Nat}{k x:Nat}(hx:l[k]?=some x)(h:jh x=false):qd l=false:=by
 rw[← zle];refine decide_eq_false fun e=>?_;rw[e.2.1 x (List.mem_of_getElem? hx)] at h;cases h
theorem z4l {l:List Nat}(h1:l.length≤40)(h2:∀ x∈l,jh x=true):qd l=(decide ((zah 47 l).length≤4) && !decide ([]∈zah 47 l)):=by
 rw[← zle];unfold zld;rw[Bool.eq_iff_iff];simp only[decide_eq_true_iff,Bool.and_eq_true,Bool.not_eq_true',decide_eq_false_iff_not];exact⟨fun h=>⟨h.2.2.1,h.2.2.2⟩,fun h=>⟨h1,h2,h.1,h.2⟩⟩
theorem z4m {x d:Nat}(h:65≤d∧d≤90):jw x=jw d↔upC x=d:=by
 unfold jw upC;rw[if_pos h]
 split<;>split<;>omega
theorem zru:∀ (a b:List Nat),(∀ d∈b,65≤d∧d≤90)→(a.map jw=b.map jw↔a.map upC=b)
 | [],[],_=>by simp
 | [],_::_,_=>by simp
 | _::_,[],_=>by simp
 | x :: a, d :: b, h => by
   rw[List.map_cons,List.map_cons,List.map_cons,List.cons.injEq,List.cons.injEq,z4m (h d (List.mem_cons_self ..)),zru a b fun y hy=>h y (List.mem_cons_of_mem _ hy)]
theorem z4n:∀ d∈inboxL,65≤d∧d≤90:=by decide
theorem zrv (a:List Nat):zbx a inboxL=decide (a.map upC=inboxL):=by
 unfold zbx;rw[decide_eq_decide];exact zru a inboxL z4n
theorem z4o {l:List Nat}(h:∀ x∈l,x≠47):zay l=zbx l inboxL:=by
 rw[zrv];unfold zay;rw[decide_eq_decide];constructor
 ·rintro⟨h1,h2|h2⟩
  ·rwa [List.take_of_length_le (by omega)] at h1
  ·exact absurd rfl (h 47 (List.mem_of_getElem? h2))
 ·intro h1
  have h5:l.length=5:=by have:=congrArg List.length h1;rw[List.length_map] at this;exact this
  exact⟨by rw[List.take_of_length_le (by omega)];exact h1,.inl h5⟩
theorem z4p {l p r:List Nat}(e:l=p++47::r)(h:∀ x∈p,x≠47):zay l=zbx p inboxL:=by
 rw[zrv];unfold zay;rw[decide_eq_decide];subst e;constructor
 ·rintro⟨h1,h2⟩
  rcases Nat.lt_trichotomy p.length 5 with h5|h5|h5
  ·exfalso
   have e1:=congrArg (·[p.length]?) h1;simp only[List.getElem?_map,List.getElem?_take_of_lt h5,List.getElem?_append_right (Nat.le_refl _),Nat.sub_self,List.getElem?_cons_zero,Option.map_some] at e1;have:upC 47∈inboxL:=List.mem_of_getElem? e1.symm;exact absurd this (by decide)
  ·rwa [List.take_left' h5] at h1
  ·exfalso
   rcases h2 with h2|h2
   ·simp at h2;omega
   ·rw[List.getElem?_append_left h5] at h2
    exact h 47 (List.mem_of_getElem? h2) rfl
 ·intro h1
  have h5:p.length=5:=by have:=congrArg List.length h1;rw[List.length_map] at this;exact this
  exact⟨by rw[List.take_left' h5];exact h1,.inr (by rw[List.getElem?_append_right (by omega),h5];rfl)⟩
end Go.Proofs.YtmjjefnmabbgdaaGreatDoor
