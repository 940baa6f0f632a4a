/- A part of the proof. -/
import Derived.Test.YtmjjefnmabbgdaaGreatDoorSBytes
import Derived.ProofKit
import Derived.OpenShut
import Derived.ShutString
import Derived.ChangeOld
import Derived.Deep.Slices
import Derived.SizedLaws
import Derived.Test.YtmjjefnmabbgdaaGreatDoorSPackMath
import Derived.Lib.AppendStr
import Derived.Lib.ConvBytes
import Derived.Test.YtmjjefnmabbgdaaGreatDoorProg
import Derived.Lib.SliceRun
import Derived.LaidMore
import Derived.Stop.Joined
namespace Go.Proofs.YtmjjefnmabbgdaaGreatDoor
set_option linter.unusedVariables false
set_option linter.unusedSimpArgs false
set_option maxRecDepth 100000
set_option maxHeartbeats 16000000
open Go.ChangeShapes Go.WideShapes Go.ChangeAt Go.RowKit Go.Deep
structure RowRel (α:Type) where
 k:Nat
 R:World→Nat→List Value→α→Prop
 len:∀ {w:World} {B:Nat} {cs:List Value} {a:α},R w B cs a→cs.length=k
 keep:∀ {w w':World} {B:Nat} {cs:List Value} {a:α},R w B cs a→(∀ p:Addr,p.block<B→w'.cell? p=w.cell? p)→R w' B cs a
 more:∀ {w:World} {B B':Nat} {cs:List Value} {a:α},R w B cs a→B≤B'→R w B' cs a
namespace RowRel
variable {α β:Type}
theorem below (r:RowRel α){w w':World}{B B':Nat}{cs:List Value}{a:α}(h:r.R w B cs a)(hb:Below B' w w')(hB:B≤B'):r.R w' B cs a:=r.keep h fun _ hp=>hb.cell (by omega)
theorem later (r:RowRel α){w w':World}{cs:List Value}{a:α}(h:r.R w w.heap.size cs a)(hb:Below w.heap.size w w'):r.R w' w'.heap.size cs a:=r.more (r.below h hb (Nat.le_refl _)) hb.size
def int (k:IntKind):RowRel Int where
 k:=1
 R:=fun _ _ cs a=>cs=[.int k a]∧(Lit.int k a).wf=true
 len:=fun h=>by rw[h.1];rfl
 keep:=fun h _=>h
 more:=fun h _=>h
def byte:RowRel Nat where
 k:=1
 R:=fun _ _ cs a=>cs=[.int .u8 (a:Int)]∧a<256
 len:=fun h=>by rw[h.1];rfl
 keep:=fun h _=>h
 more:=fun h _=>h
def bool:RowRel Bool where
 k:=1
 R:=fun _ _ cs a=>cs=[.bool a]
 len:=fun h=>by rw[h];rfl
 keep:=fun h _=>h
 more:=fun h _=>h
def str:RowRel ByteArray where
 k:=1
 R:=fun _ _ cs a=>cs=[.string a]∧a.size≤140737488355328
 len:=fun h=>by rw[h.1];rfl
 keep:=fun h _=>h
 more:=fun h _=>h
def rows (r:RowRel α)(w:World)(B b o:Nat)(l:List α):Prop:=∀ i a,l[i]?=some a→∃ cs,w.rangeAt b (o+i*r.k) cs∧r.R w B cs a
def slice (r:RowRel α):RowRel (List α) where
 k:=1
 R:=fun w B cs l=>∃ A n c,cs=[.slice A n c]∧n≤c∧c≤maxLen∧n≤140737488355328∧l.length=n∧(0<n→∃ b o,A=some ⟨b,o,none⟩∧b<B∧r.rows w B b o l)
 len:=fun h=>by obtain⟨A,n,c,rfl,_⟩:=h;rfl
 keep:=fun h hk=>by
  obtain⟨A,n,c,e,h1,h2,h3,h4,h5⟩:=h;refine⟨A,n,c,e,h1,h2,h3,h4,fun hn=>?_⟩;obtain⟨b,o,e,hb,hr⟩:=h5 hn;refine⟨b,o,e,hb,fun i a ha=>?_⟩;obtain⟨cs,hc,hR⟩:=hr i a ha;exact⟨cs,fun j v hv=>(hk _ hb).trans (hc j v hv),r.keep hR hk⟩
 more:=fun h hB=>by
  obtain⟨A,n,c,e,h1,h2,h3,h4,h5⟩:=h;refine⟨A,n,c,e,h1,h2,h3,h4,fun hn=>?_⟩;obtain⟨b,o,e,hb,hr⟩:=h5 hn;refine⟨b,o,e,by omega,fun i a ha=>?_⟩;obtain⟨cs,hc,hR⟩:=hr i a ha;exact⟨cs,hc,r.more hR hB⟩
def bytes:RowRel (List Nat) where
 k:=1
 R:=fun w B cs l=>∃ A n c,cs=[.slice A n c]∧n≤c∧c≤maxLen∧n≤140737488355328∧Bytes w B A n l
 len:=fun h=>by obtain⟨A,n,c,rfl,_⟩:=h;rfl
 keep:=fun h hk=>by
  obtain⟨A,n,c,e,h1,h2,h3,h4⟩:=h;exact⟨A,n,c,e,h1,h2,h3,h4.keep hk⟩
 more:=fun h hB=>by
  obtain⟨A,n,c,e,h1,h2,h3,h4⟩:=h;exact⟨A,n,c,e,h1,h2,h3,h4.more hB⟩
theorem bytes_of_slice {w:World}{B:Nat}{cs:List Value}{l:List Nat}(h:byte.slice.R w B cs l):bytes.R w B cs l:=by
 obtain⟨A,n,c,e,h1,h2,h3,h4,h5⟩:=h;refine⟨A,n,c,e,h1,h2,h3,h4,?_,fun hn=>?_⟩
 ·intro x hx
  obtain⟨i,hi,rfl⟩:=List.mem_iff_getElem.1 hx;obtain⟨b,o,_,_,hr⟩:=h5 (by omega);obtain⟨cs,_,_,hlt⟩:=hr i _ (List.getElem?_eq_getElem hi);exact hlt
 ·obtain⟨b,o,e,hb,hr⟩:=h5 hn
  refine⟨b,o,e,hb,fun i hi=>?_⟩;obtain⟨cs,hc,rfl,hlt⟩:=hr i l[i] (List.getElem?_eq_getElem (by omega));have:=hc 0 _ rfl;rw[Nat.add_zero,show i*byte.k=i from Nat.mul_one i] at this;rw[this];unfold zf;simp[List.getElem?_eq_getElem (show i<l.length by omega)]
end RowRel
section
variable {P:Program}
def Opens {α:Type}(P:Program)(t:TypeId)(r:RowRel α):Prop :=
 P.cellsOf t=r.k∧∀ (H:Type) (enc:TypeId×Value→H) (w:World) (base:Nat) (heldB:Bool) (fuel:Nat) (cs:List Value) (x:DataW H×List MemPlace),
  DataW.trod enc P w base (fun _=>true) heldB fuel t cs=some x→(x.1.weights P t).all (·≤reachBytes)=true→∃ a,r.R w w.heap.size cs a
theorem zot {t:TypeId}{k:IntKind}(ht:P.underlying t=some (.int k))(hc:P.cellsOf t=1):Opens P t (RowRel.int k) :=
 ⟨hc,fun H enc w base heldB fuel cs x h _=>by
  obtain⟨n,h1,_,h2⟩:=DataW.trod_int ht h
  exact⟨n,h1,h2⟩⟩
theorem zxk {t:TypeId}(ht:P.underlying t=some (.int .u8))(hc:P.cellsOf t=1):Opens P t RowRel.byte :=
 ⟨hc,fun H enc w base heldB fuel cs x h _=>by
  obtain⟨n,h1,_,h2⟩:=DataW.trod_int ht h;obtain⟨b0,b1⟩:=bounds_u8 h2;obtain⟨k,rfl⟩:=Int.eq_ofNat_of_zero_le b0
  exact⟨k,h1,by omega⟩⟩
theorem zxl {t:TypeId}(ht:P.underlying t=some .string)(hc:P.cellsOf t=1):Opens P t RowRel.str :=
 ⟨hc,fun H enc w base heldB fuel cs x h hz=>by
  obtain⟨s,h1,h2,_⟩:=DataW.trod_string ht h;subst h2;have hz':s.data.toList.length≤reachBytes:=by simpa [DataW.weights] using hz
  have e:s.size=s.data.toList.length:=(Array.length_toList (xs:=s.data)).symm;rw[← e] at hz';unfold reachBytes at hz'
  exact⟨s,h1,by omega⟩⟩
theorem zou {H:Type}{P:Program}{e:TypeId}:∀ {l:List (DataW H)} {d:DataW H},d∈l→∀ n∈d.weights P e,n∈DataW.weightsAll P e l
 | d' :: r, d, hd, n, hn => by
   simp only[DataW.weightsAll,List.mem_append];rcases List.mem_cons.1 hd with rfl|h
   ·exact Or.inl hn
   ·exact Or.inr (zou h n hn)
theorem zxm {α:Type}{p:Nat→α→Prop}(n:Nat)(h:∀ i,i<n→∃ a,p i a):∃ l:List α,l.length=n∧∀ i a,l[i]?=some a→p i a:=by
 induction n with
 | zero=>exact⟨[],rfl,fun i a h=>by simp at h⟩
 | succ n ih =>
   obtain⟨l,h1,h2⟩:=ih (fun i hi=>h i (by omega));obtain⟨y,h3⟩:=h n (by omega);refine⟨l++[y],by simp[h1],fun i a ha=>?_⟩;by_cases hin:i<l.length
   ·rw[List.getElem?_append_left hin] at ha
    exact h2 i a ha
   ·have hi:i<(l++[y]).length:=(List.getElem?_eq_some_iff.1 ha).1
    have:i=n:=by simp at hi;omega
    subst this;rw[List.getElem?_append_right (by omega),h1] at ha;simp at ha;exact ha ▸ h3
theorem zge {α:Type}{r:RowRel α}{t e:TypeId}(ht:P.underlying t=some (.slice e))(hc:P.cellsOf t=1)(hk:0<r.k)(hb:0<P.bytesOf e)(he:Opens P e r):Opens P t r.slice:=by
 refine⟨hc,fun H enc w base heldB fuel cs x h hz=>?_⟩;rcases open_slice ht h with ⟨rfl,_⟩|⟨a,len,cap,m,n,D,Pl,rfl,_,hl,hm,hmm,rfl,hx⟩
 ·exact⟨[],none,0,0,rfl,Nat.le_refl _,by unfold maxLen;omega,by omega,rfl,fun h=>absurd h (by omega)⟩
 ·simp only[if_true] at hmm
  subst hmm;have hw:∀ y∈DataW.weights P t (.slice ((List.range len).map D) ((List.range (m-len)).map fun j=>D (len+j))),y≤reachBytes:=by simpa using hz
  have hlen:len≤140737488355328:=by
   have:=hw _ (by simp only[DataW.weights,ht];exact List.mem_cons_self);simp only[List.length_map,List.length_range,reachBytes] at this;have h2:len*1≤(len+(m-len))*P.bytesOf e:=Nat.mul_le_mul (by omega) hb;omega
  have hall:∀ i,i<len→∃ a',∃ cs',(cs'.length=r.k∧∀ j,j<r.k→w.cell? (a.add (i*r.k+j))=cs'[j]?)∧r.R w w.heap.size cs' a':=by
   intro i hi;obtain⟨cs',h1,h2⟩:=hx i (by omega);have hwi:((D i).weights P e).all (·≤reachBytes)=true:=by
    rw[List.all_eq_true];intro y hy;refine decide_eq_true (hw y ?_);simp only[DataW.weights,ht,List.mem_cons,List.mem_append];exact .inr (.inl (zou (List.mem_map.2 ⟨i,List.mem_range.2 hi,rfl⟩) y hy))
   obtain⟨a',hR⟩:=he.2 H enc w base heldB n cs' _ h2 hwi;rw[he.1] at h1;obtain⟨_,h3,h4⟩:=World.cells?_some h1;exact⟨a',cs',⟨h3,fun j hj=>by rw[← h4 j hj,Go.Deep.add_add]⟩,hR⟩
  obtain⟨l,hll,hlr⟩:=zxm len hall;refine⟨l,some a,len,m,rfl,hl,hm,hlen,hll,fun hn=>?_⟩;obtain⟨cs0,⟨h0l,h0⟩,_⟩:=hlr 0 _ (List.getElem?_eq_getElem (by omega));have h0:=h0 0 hk;rw[List.getElem?_eq_getElem (by omega)] at h0;obtain⟨ab,ao,asp⟩:=a;have hsp:asp=none:=by simpa [Addr.add] using World.cell?_spot h0
  subst hsp;refine⟨ab,ao,rfl,block_lt_of_cell (a:=⟨ab,ao,none⟩) (by simpa [Addr.add] using h0),fun i y hy=>?_⟩;obtain⟨cs',⟨h1,h2⟩,hR⟩:=hlr i y hy;refine⟨cs',fun j v hv=>?_,hR⟩;have hj:j<r.k:=by rw[← h1];exact(List.getElem?_eq_some_iff.1 hv).1
  have:=h2 j hj;rw[Addr.add_mid] at this;rw[Nat.add_assoc,this,hv]
theorem zxn {t e:TypeId}(ht:P.underlying t=some (.slice e))(he:P.underlying e=some (.int .u8))(hc:P.cellsOf t=1)(hce:P.cellsOf e=1)(hb:0<P.bytesOf e):Opens P t RowRel.bytes :=
 ⟨hc,fun H enc w base heldB fuel cs x h hz=>by
  obtain⟨a,ha⟩:=(zge ht hc (by decide) hb (zxk he hce)).2 H enc w base heldB fuel cs x h hz
  exact⟨a,RowRel.bytes_of_slice ha⟩⟩
theorem Opens.arg {α:Type}{t:TypeId}{r:RowRel α}(h:Opens P t r){H:Type}{enc:TypeId×Value→H}{w:World}{base:Nat}{heldB:Bool}{v:Value}{d:DataW H}{p:List MemPlace}
 (hd:DataW.Trod enc P w base (fun _=>true) heldB t v d p) (hz:(d.weights P t).all (·≤reachBytes)=true):∃ a,r.R w w.heap.size v.cells.toList a:=by
 obtain⟨fuel,hf⟩:=hd;exact h.2 H enc w base heldB fuel _ _ hf hz
end
end Go.Proofs.YtmjjefnmabbgdaaGreatDoor
namespace Go.Proofs.YtmjjefnmabbgdaaGreatDoor
set_option linter.unusedVariables false
set_option linter.unusedSimpArgs false
set_option maxRecDepth 100000
set_option maxHeartbeats 16000000
open Go.RowKit
def Col {α:Type}(f:α→Value)(w:World)(B:Nat)(A:Option Addr)(n:Nat)(l:List α):Prop :=
 l.length=n∧(0<n→∃ b o,A=some ⟨b,o,none⟩∧b<B∧∀ i a,l[i]?=some a→w.cell? ⟨b,o+i,none⟩=some (f a))
section
variable {α:Type} {f:α→Value} {w w':World} {B B' n:Nat} {A:Option Addr} {l:List α}
theorem Col.nil:Col f w B A 0 []:=⟨rfl,fun h=>absurd h (Nat.lt_irrefl _)⟩
theorem Col.keep (h:Col f w B A n l)(hk:∀ p:Addr,p.block<B→w'.cell? p=w.cell? p):Col f w' B A n l :=
 ⟨h.1,fun hn=>by
  obtain⟨b,o,e,hb,hc⟩:=h.2 hn
  exact⟨b,o,e,hb,fun i a ha=>(hk _ hb).trans (hc i a ha)⟩⟩
theorem Col.more (h:Col f w B A n l)(hB:B≤B'):Col f w B' A n l :=
 ⟨h.1,fun hn=>by
  obtain⟨b,o,e,hb,hc⟩:=h.2 hn
  exact⟨b,o,e,by omega,hc⟩⟩
theorem Col.below (h:Col f w B A n l)(hb:Below B' w w')(hB:B≤B'):Col f w' B A n l:=h.keep fun _ hp=>hb.cell (by omega)
theorem Col.later (h:Col f w w.heap.size A n l)(hb:Below w.heap.size w w'):Col f w' w'.heap.size A n l:=(h.below hb (Nat.le_refl _)).more hb.size
theorem Col.at_ {k:Nat}(h:Col f w B A n l)(hk:k<n):∃ b o a,A=some ⟨b,o,none⟩∧b<B∧l[k]?=some a∧l.take (k+1)=l.take k++[a]∧w.cell? ⟨b,o+k,none⟩=some (f a):=by
 obtain⟨b,o,e,hb,hc⟩:=h.2 (by omega);have hl:k<l.length:=by rw[h.1];exact hk
 exact⟨b,o,l[k],e,hb,List.getElem?_eq_getElem hl,List.take_succ_eq_append_getElem hl,hc k _ (List.getElem?_eq_getElem hl)⟩
theorem Col.one (w:World)(f:α→Value)(a:α)(hf:(f a).oneCell'=true)(t:TypeId) :
 Col f (w.alloc (.cells #[f a] t)) (w.heap.size+1) (some ⟨w.heap.size,0,none⟩) 1 [a]:=by
 refine⟨rfl,fun _=>⟨w.heap.size,0,rfl,by omega,fun i x hx=>?_⟩⟩;have hi:i<1:=(List.getElem?_eq_some_iff.1 hx).1;obtain rfl:i=0:=by omega
 obtain rfl:a=x:=by simpa using hx
 rw[cell_of_row _ _ _ _ _ _ (heap_alloc_new w _)];rfl
end
theorem Col.of_ints {w:World}{B:Nat}{A:Option Addr}{n c:Nat}{k:IntKind}{l:List Int}(h:(RowRel.int k).slice.R w B [.slice A n c] l) :
 Col (fun z=>.int k z) w B A n l∧(∀ z∈l,(Lit.int k z).wf=true)∧n≤140737488355328:=by
 obtain⟨A1,n1,c1,e,h1,h2,h3,h4,h5⟩:=h;injection e with e _;injection e with e1 e2 e3;subst e1;subst e2;subst e3;refine⟨⟨h4,fun hn=>?_⟩,?_,h3⟩
 ·obtain⟨b,o,e,hb,hr⟩:=h5 hn
  refine⟨b,o,e,hb,fun i a ha=>?_⟩;obtain⟨cs,hc,rfl,_⟩:=hr i a ha;have:=hc 0 _ rfl
  rwa [Nat.add_zero,show i*(RowRel.int k).k=i from Nat.mul_one i] at this
 ·intro z hz
  obtain⟨i,hi,rfl⟩:=List.mem_iff_getElem.1 hz;obtain⟨b,o,_,_,hr⟩:=h5 (by omega);obtain⟨cs,_,_,hw⟩:=hr i _ (List.getElem?_eq_getElem hi);exact hw
theorem zxo (s:ByteArray):Lib.strCells s=(nats s).map bv:=by
 unfold Lib.strCells nats bv;rw[List.map_map];rfl
section
variable {P:Program}
theorem zxp {ops:Array Oper}{rest:List Oper}{o:Oper}{a:Act}{w:World}{Q:Exit→Act→World→Prop}(hgd:o.guard=none)(s x:Operand)(t u:TypeId)
 (ho:o.op=.call { callee:=.builtin .append,args:=#[s,x],argTypes:=#[t,u] }) {e:TypeId} (ht:P.underlying t=some (.slice e)) (hu:P.underlying u=some .string)
 (he:(P.info? e).map (fun i=>(i.zero,i.size,i.bytes))=some (some (.int .u8 0),1,1))
 (base:Nat) (A:Option Addr) (n c:Nat) (l:List Nat) (hs:a.eval s=.slice A n c) (hown:OwnB w base e A n c l)
 (z:ByteArray) (hx:a.eval x=.string z) (hnm:n+z.size≤1000000000) (hbase:base≤w.heap.size)
 (h:∀ A2 c2 w',OwnB w' base e A2 (n+z.size) c2 (l++nats z)→Below base w w'→w.grownBy w' (Value.slice A n c).ownBlock→wpList P ops Q rest (a.put o.dst (.slice A2 (n+z.size) c2)) w'):wpList P ops Q (o::rest) a w:=by
 obtain⟨i,hi,hz,hsz,hby⟩:=info_parts he;refine Lib.wpList_append_own_string w hgd s x t u ho base e i ht hu hi hz hsz hby (.slice A n c) n (l.map bv) hs hown.1 z hx (by unfold maxLen;omega) (by omega) hbase ?_;intro v' w' h1 h2 _;have hsh:∃ A2 c2,v'=.slice A2 (n+z.size) c2:=by
  rcases h1.2 with ⟨rfl,h0⟩|⟨g,cap,cur,rfl,_⟩
  ·rw[h0];exact⟨_,_,rfl⟩
  ·exact⟨_,_,rfl⟩
 obtain⟨A2,c2,rfl⟩:=hsh;refine h A2 c2 w' ⟨by rw[List.map_append,← zxo];exact h1,fun y hy=>?_⟩ ((Below.refl _ _).grown h2 hbase (fun k hk=>(hown.1.lt k hk).1)) h2;exact(List.mem_append.1 hy).elim (hown.2 y) (zd1 z y)
theorem zxq (w:World)(a:Addr):(loadCells a 0).run P w=.ok #[] w:=by simp[loadCells,loadCellsFrom]
theorem zcg {w:World}{B:Nat}{A:Option Addr}{n c:Nat}{l:List Nat}(h:Bytes w B A n l){src dst e:TypeId}(hs:P.underlying src=some (.slice e))(he:P.underlying e=some (.int .u8))(hd:P.underlying dst=some .string) :
 (convert src dst (.slice A n c)).run P w=.ok (.string (za l)) w:=by
 rcases Nat.eq_zero_or_pos n with h0|h0
 ·subst h0
  have hl:l=[]:=List.eq_nil_of_length_eq_zero h.1;subst hl;cases A with
  | none=>exact run_convert_bytes_nil w src e hs he 0 c dst hd
  | some a =>
    rw[run_convert_bytes_string w src dst e _ 0 c hs he hd,run_bytesToString w a 0 c [] (zxq w a)];rfl
 ·obtain⟨b,o,rfl,_,hc⟩:=h.2.2 h0
  refine run_convert_bytes_arg w src e hs he b o n c (l.map fun x:Nat=>(x:Int)) (by rw[List.length_map,h.1]) (fun i hi=>?_) dst hd;rw[hc i hi];unfold zf;simp[List.getD_eq_getElem?_getD,List.getElem?_eq_getElem (show i<l.length by rw[h.1];exact hi)]
end
theorem zjy (w:World)(e:TypeId)(s:ByteArray):Bytes (Lib.bytesWorld w e s) (w.heap.size+1) (some ⟨w.heap.size,0,none⟩) s.size (nats s):=by
 refine⟨jn s,zd1 s,fun _=>⟨w.heap.size,0,rfl,by omega,fun i hi=>?_⟩⟩;rw[Nat.zero_add,Lib.bytesWorld_cell w e s i hi];unfold zf nats;have:i<s.data.toList.length:=by rw[Array.length_toList];exact hi
 simp only[List.getD_eq_getElem?_getD,List.getElem?_map,List.getElem?_eq_getElem this,Option.getD_some,Option.map_some]
theorem zhy (w:World)(e:TypeId)(s:ByteArray)(row:Option Nat):w.grownBy (Lib.bytesWorld w e s) row :=
 ⟨rfl,rfl,rfl,by rw[Lib.bytesWorld_size];omega,fun k hk _=>Lib.bytesWorld_at_old w e s k hk⟩
theorem zaa {a w w':World}{row:Option Nat}(h:a.grownBy w row)(k:w.grownBy w' row):a.grownBy w' row :=
 ⟨k.os.trans h.os,k.tape.trans h.tape,k.output.trans h.output,Nat.le_trans h.size k.size,fun j hj hr=>(k.block j (Nat.lt_of_lt_of_le hj h.size) hr).trans (h.block j hj hr)⟩
theorem zaq:(Tryz.prog.info? 5).map (fun i=>(i.zero,i.size,i.bytes))=some (some (.int .u8 0),1,1):=by kernel_rfl
def Made (base:Nat)(w0:World)(n:Nat)(l:List Nat)(e:Ending)(w':World):Prop :=
 ∃ A' c',e=.returned (.slice A' n c')∧OwnB w' base 5 A' n c' l∧Below base w0 w'
theorem Bytes.one (w:World){b:Nat}(hb:b<256)(t:TypeId):Bytes (w.alloc (.cells #[.int .u8 (b:Int)] t)) (w.heap.size+1) (some ⟨w.heap.size,0,none⟩) 1 [b]:=by
 refine⟨rfl,by simpa using hb,fun _=>⟨w.heap.size,0,rfl,by omega,fun i hi=>?_⟩⟩;obtain rfl:i=0:=by omega
 rw[cell_of_row _ _ _ _ _ _ (heap_alloc_new w _)];rfl
theorem OwnB.alloc {w:World}{base n c:Nat}{e:TypeId}{A:Option Addr}{l:List Nat}(h:OwnB w base e A n c l)(o:Obj):OwnB (w.alloc o) base e A n c l:=h.below ((Below.refl _ _).alloc (Nat.le_refl _) _)
theorem zxr (A:Option Addr)(n c:Nat)(l:List Nat)(w:World)(hl:Bytes w w.heap.size A n l)(hn:n≤1000000000) :
 Calls Tryz.prog 232 #[.slice A n c] w (Made w.heap.size w n l):=by
 cases A with
 | none =>
   have h0:n=0:=by
    rcases Nat.eq_zero_or_pos n with h|h
    ·exact h
    ·obtain⟨b,o,h',_⟩:=hl.2.2 h;cases h'
   subst h0;have hl':l=[]:=List.eq_nil_of_length_eq_zero hl.1;subst hl';have heq:=fun W=>Lib.run_eql_slice_nil (P:=Tryz.prog) W 48 5 none 0 c 0 0 Tryz.underlying48;go_enter Tryz.func232,Tryz.ntmps232
   go_wp2
   go_ret;exact⟨_,_,rfl,OwnB.nil,Below.refl _ _⟩
 | some a =>
   have heq:=fun W=>Lib.run_eql_slice_nil (P:=Tryz.prog) W 48 5 (some a) n c 0 0 Tryz.underlying48;go_enter Tryz.func232,Tryz.ntmps232
   go_wp2_with (with_reducible refine stn 7 ?_)
   refine heldB (zao rfl (.tmp 5) (.tmp 6) 48 rfl Tryz.underlying48 zaq w.heap.size (some ⟨w.heap.size,0,none⟩) 0 0 [] rfl (OwnB.empty w 5) w.heap.size (some a) n c l rfl
    (hl.below ((Below.refl _ _).alloc (Nat.le_refl _) _) (Nat.le_refl _)) (by omega) (by simp) ?_)
   intro A3 c3 w3 ho3 hb3 hg3;clear hg3;have hb3':Below w.heap.size w w3:=((Below.refl _ _).alloc (Nat.le_refl _) _).trans hb3;rw[Nat.zero_add,List.nil_append] at ho3;rw[Nat.zero_add];go_wp2
   go_ret;exact⟨_,_,rfl,ho3,hb3'⟩
theorem zxs (A:Option Addr)(n c k v base:Nat)(l:List Nat)(w:World)(hl:OwnB w base 5 A n c l)(hn:n+k≤1000000000)(hk:k≤8)(hv:v<18446744073709551616)(hbase:base≤w.heap.size) :
 Calls Tryz.prog 233 #[.slice A n c,.int .i64 (k:Int),.int .u64 (v:Int)] w (Made base w (n+k) (l++encB k v)):=by
 have HV:=hide hv;clear hv;go_enter Tryz.func233,Tryz.ntmps233
 go_wp2
 go_loopw [0,7] (fun s t wr=>∃ m A' c',m≤k∧s=.slice A' (n+(k-m)) c'∧OwnB wr base 5 A' (n+(k-m)) c' (l++encB (k-m) (v / 256 ^ m))∧t=.int .i64 (8*(m:Int)-8)∧Below base w wr) (fun _ t _=>(intOf t+8).toNat)
 case atStart=>exact⟨k,A,c,Nat.le_refl _,by simp,by rw[Nat.sub_self];simpa [encB] using hl,by go_num,Below.refl _ _⟩
 case round =>
  obtain⟨m,A',c',hm,rfl,ho,rfl,hb⟩:=hrel;by_cases h0:m=0
  ·subst h0
   go_wp2
   go_ret;refine⟨A',c',rfl,?_,hb⟩
   simpa using ho
  ·obtain⟨j,rfl⟩:∃ j,m=j+1:=⟨m - 1,by omega⟩
   have e1:(8*((j+1:Nat):Int)-8)=8*(j:Int):=by omega
   rw[e1];have hbyte:(v:Int) / 2 ^ (8*j) % 256=((v / 256 ^ j % 256:Nat):Int):=by
    rw[show(2:Int) ^ (8*j)=((256 ^ j:Nat):Int)by rw[Int.pow_mul];simp];omega
   have HB:=hide hbyte;clear hbyte;go_wp2_with (with_reducible refine stn 21 ?_)
   rw[HB.o];refine heldB (zao rfl (.tmp 15) (.tmp 20) 48 rfl Tryz.underlying48 zaq base A' (n+(k-(j+1))) c' _ rfl (ho.alloc _) _ _ 1 1 _ rfl (Bytes.one wr (Nat.mod_lt _ (by omega)) _) (by omega) (by have:=hb.size;simp;omega) ?_);intro A3 c3 w3 ho3 hb3 hg3;clear hg3;have hbb:Below base w w3:=(hb.alloc (Nat.le_trans hbase hb.size) _).trans hb3;have HL:=hide (show k-j=k-(j+1)+1 by omega);go_wp2
   go_roundw
   case rel=>exact⟨j,A3,c3,by omega,by rw[HL.o];rfl,by
    rw[HL.o,encB,Nat.div_div_eq_div_mul,← Nat.pow_succ,← List.append_assoc]
    exact ho3,by go_num,hbb⟩
   case measure=>simp[intOf];omega
theorem zxt (W:World)(k:Nat)(hk:k≤1000000000):(Instr.makeSlice 48 (.int .i64 (k:Int)) (.int .i64 (k:Int))).run Tryz.prog W=.ok (.slice (some ⟨W.heap.size,0,none⟩) k k) (W.alloc (.cells (madeCells #[.int .u8 0] k) 5)):=by
 obtain⟨i,hi,hz,hs,hby⟩:=info_parts zaq;have:=run_make (P:=Tryz.prog) W 48 5 i (.int .u8 0) Tryz.underlying48 hi hz .i64 .i64 (k:Int) (k:Int) (by omega) (by omega) (by rw[hby];omega) (by omega);rw[hs,show(Value.int .u8 0).cells=#[.int .u8 0] from rfl] at this
 simpa using this
theorem OwnB.made (w:World)(k:Nat)(hk:k≤1000000000)(e:TypeId):OwnB (w.alloc (.cells (madeCells #[.int .u8 0] k) e)) w.heap.size e (some ⟨w.heap.size,0,none⟩) k k (List.replicate k 0):=by
 refine⟨⟨by simp,.inr ⟨w.heap.size,k,madeCells #[.int .u8 0] k,rfl,Nat.le_refl _,heap_alloc_new w _,Nat.le_refl _,by unfold maxLen;omega,?_,?_⟩⟩,?_⟩
 ·simp[size_madeCells]
 ·apply List.ext_getElem?
  intro i;by_cases hi:i<k
  ·simp[madeCells,hi,bv,List.getElem?_take,Nat.mod_one]
  ·rw[List.getElem?_eq_none (by simp[size_madeCells];omega),List.getElem?_eq_none (by simp;omega)]
 ·intro x hx
  rw[(List.mem_replicate.1 hx).2];omega
theorem zxu (j r v x:Nat)(hx:x=v / 256 ^ r % 256):(List.replicate (j+1) 0++encB r v).set j x=List.replicate j 0++encB (r+1) v:=by
 rw[zpa,hx,List.replicate_succ',List.append_assoc,List.set_append_right _ _ (by simp)];simp
theorem zov (k v:Nat)(w:World)(hk:k≤8)(hv:v≤4611686018427387904) :
 Calls Tryz.prog 149 #[.int .i64 (v:Int),.int .i64 (k:Int)] w (Made w.heap.size w k (encB k v)):=by
 have hmk:=fun W=>zxt W k (by omega);have HV:=hide hv;go_enter Tryz.func149,Tryz.ntmps149
 go_wp2
 clear hmk
 go_loopw [0,6] (fun s t wr=>∃ m:Nat,m≤k∧s=.int .i64 ((v / 256 ^ (k-m):Nat):Int)∧OwnB wr w.heap.size 5 (some ⟨w.heap.size,0,none⟩) k k (List.replicate m 0++encB (k-m) v)∧t=.int .i64 ((m:Int)-1)∧Below w.heap.size w wr) (fun _ t _=>(intOf t+1).toNat)
 case atStart=>exact⟨k,Nat.le_refl _,by simp,by simpa [encB] using OwnB.made w k (by omega) 5,by go_num,(Below.refl _ _).alloc (Nat.le_refl _) _⟩
 case round =>
  obtain⟨m,hm,rfl,ho,rfl,hb⟩:=hrel;by_cases h0:m=0
  ·subst h0
   go_wp2
   go_ret;exact⟨_,_,rfl,by simpa using ho,hb⟩
  ·obtain⟨j,rfl⟩:∃ j,m=j+1:=⟨m - 1,by omega⟩
   have e1:(((j+1:Nat):Int)-1)=(j:Int):=by omega
   have hx:v / 256 ^ (k-(j+1))≤4611686018427387904:=Nat.le_trans (Nat.div_le_self _ _) hv;have HX:=hide (show v / 256 ^ (k-j)=v / 256 ^ (k-(j+1)) / 256 by rw[Nat.div_div_eq_div_mul,← Nat.pow_succ,show(k-(j+1)).succ=k-j by omega]);have HS:=hide (zxu j (k-(j+1)) v (v / 256 ^ (k-(j+1)) % 256) rfl);have HL:=hide (show k-(j+1)+1=k-j by omega);have hp:=ho.put (i:=j) (by omega) (v / 256 ^ (k-(j+1)) % 256) (Nat.mod_lt _ (by omega)) rfl;obtain⟨g,hA,hg1,hg2,hfz,hcl⟩:=ho.cells (by omega);injection hA with hA;injection hA with hA;subst hA;have hc:=hcl j (by omega);have hf:=hfz j;clear hcl hfz;generalize v / 256 ^ (k-(j+1))=x at *;rw[e1];go_wp2
   go_roundw
   case rel=>exact⟨j,by omega,by rw[HX.o];rfl,by rw[← HL.o,← HS.o];exact hp,by go_num,hb.setCell (Nat.le_refl _) _⟩
   case measure=>simp[intOf]
theorem zow (l:List Nat)(k:Nat)(h:k<l.length):decB (l.take (k+1))=decB (l.take k)*256+zf l k:=by rw[take_snoc' l k h,zh1]
theorem zox (A:Option Addr)(n c B:Nat)(l:List Nat)(w:World)(hl:Bytes w B A n l)(hn:n≤maxLen) :
 Calls Tryz.prog 95 #[.slice A n c] w fun e w'=>e=.returned (.int .i64 (numB l))∧w=w':=by
 unfold maxLen at hn;go_enter Tryz.func95,Tryz.ntmps95
 go_wp2
 go_loop [3,4] (fun t i=>∃ k:Nat,k≤n∧i=.int .i64 k∧t=.int .i64 ((decB (l.take k):Nat):Int)) (fun _ i=>n-(intOf i).toNat)
 case atStart=>exact⟨0,Nat.zero_le _,rfl,rfl⟩
 case round =>
  obtain⟨k,hk,rfl,rfl⟩:=hrel;by_cases hlt:k<n
  ·obtain⟨b,o,rfl,_,hc⟩:=hl.at_ hlt
   have hb:=hl.lt k;have HG:=hide (zya l k (by rw[hl.1];exact hlt));have HT:=hide (zow l k (by rw[hl.1];exact hlt));generalize decB (l.take k)=x at *;by_cases hg:36028797018963968≤x
   ·have HN:=hide (show numB l=-1 by unfold numB;rw[if_pos (HG.o hg)])
    have hgi:(36028797018963968:Int)≤(x:Int):=by omega
    clear hg HG HT;go_wp2
    go_ret;exact⟨zbt HN.o.symm,rfl⟩
   ·have hgi:¬ (36028797018963968:Int)≤(x:Int):=by omega
    have hgi2:(x:Int)<36028797018963968:=by omega
    clear hg HG;go_wp2
    go_round
    case rel=>exact⟨k+1,by omega,by go_num,by rw[HT.o];go_num⟩
    case measure=>simp[intOf];omega
  ·have HK:=hide (show l.take k=l from List.take_of_length_le (by rw[hl.1];omega))
   rw[HK.o];have HN:Hid (numB l=if 4611686018427387904<decB l then -1 else (decB l:Int)):=hide rfl;by_cases hg:4611686018427387904<decB l
   ·have HN2:=hide (HN.o.trans (if_pos hg))
    generalize decB l=x at *;have hgi:(4611686018427387904:Int)<(x:Int):=by omega
    clear hg;go_wp2
    go_ret;exact⟨zbt HN2.o.symm,rfl⟩
   ·have HN2:=hide (HN.o.trans (if_neg hg))
    generalize decB l=x at *;have hgi:¬ (4611686018427387904:Int)<(x:Int):=by omega
    clear hg;go_wp2
    go_ret;exact⟨zbt HN2.o.symm,rfl⟩
theorem zxv {z:Int}(h0:0≤z)(h1:z≤4611686018427387904):qt z=z.toNat:=by unfold qt;omega
theorem zb7 (A:Option Addr)(n c:Nat)(z:Int)(l:List Nat)(w:World)(hl:Bytes w w.heap.size A n l)(hn:n≤100000000) :
 Calls Tryz.prog 86 #[.slice A n c,.int .i64 z] w (Made w.heap.size w (n+8) (l++encB 8 (qt z))):=by
 go_enter Tryz.func86,Tryz.ntmps86
 go_wp2_with (with_reducible refine stn 7 ?_)
 refine heldB (zao rfl (.tmp 5) (.tmp 6) 48 rfl Tryz.underlying48 zaq w.heap.size (some ⟨w.heap.size,0,none⟩) 0 0 [] rfl (OwnB.empty w 5) w.heap.size A n c l rfl
  (hl.below ((Below.refl _ _).alloc (Nat.le_refl _) _) (Nat.le_refl _)) (by omega) (by simp) ?_)
 intro A3 c3 w3 ho3 hb3 hg3;clear hg3;have hb3':Below w.heap.size w w3:=((Below.refl _ _).alloc (Nat.le_refl _) _).trans hb3;rw[Nat.zero_add,List.nil_append] at ho3;rw[Nat.zero_add];have hc:qt z≤4611686018427387904:=zh2 z;have hmm:(if (4611686018427387904:Int)<(if z<0 then 0 else z)then 4611686018427387904 else (if z<0 then 0 else z))=((qt z:Nat):Int):=by
  unfold qt
  split<;>split at *<;>omega
 go_wp2_with fail
 all_goals
  refine(zov 8 (qt z) w3 (by omega) hc).mono ?_;rintro e w4 ⟨A4,c4,rfl,ho4,hb4⟩;have hb34:=hb3'.trans (hb4.mono hb3'.size);have ho3':=ho3.below hb4;go_wp2_with (with_reducible refine stn 12 ?_)
  refine heldB (zao rfl (.tmp 7) (.tmp 11) 48 rfl Tryz.underlying48 zaq w.heap.size A3 n c3 l rfl ho3' w4.heap.size A4 8 c4 _ rfl ho4.bytes (by omega) hb34.size ?_);intro A5 c5 w5 ho5 hb5 hg5;clear hg5;have hb5':=hb34.trans hb5;go_wp2
  go_ret;exact⟨_,_,rfl,ho5,hb5'⟩
def cutS (z:ByteArray):ByteArray:=z.extract 0 4096
theorem zjz (z:ByteArray):nats (cutS z)=(nats z).take 4096:=by
 have h:=zpd (nats z) 4096;rw[zaw] at h;unfold cutS;rw[h,zbw _ (fun x hx=>zd1 z x (List.mem_of_mem_take hx))]
theorem zxw {z:ByteArray}(h:z.size≤4096):cutS z=z:=by
 rw[← zaw (cutS z),zjz,List.take_of_length_le (by rw[jn];exact h),zaw]
theorem zxx (z:ByteArray):(cutS z).size=min 4096 z.size:=by rw[← jn,zjz,List.length_take,jn]
theorem zxy (z:ByteArray):jd (nats z)=encB 4 (cutS z).size++nats (cutS z):=by unfold jd;rw[← zjz,jn]
theorem zj0 (A:Option Addr)(n c:Nat)(z:ByteArray)(l:List Nat)(w:World)(hl:Bytes w w.heap.size A n l)(hn:n≤100000000)(hz:z.size≤140737488355328) :
 Calls Tryz.prog 148 #[.slice A n c,.string z] w (Made w.heap.size w (n+(jd (nats z)).length) (l++jd (nats z))):=by
 have HB:=hide (zxy z);have HL:Hid ((jd (nats z)).length=4+(cutS z).size):=hide (by rw[HB.o,List.length_append,zbv,jn]);have hq:(cutS z).size≤4096:=by rw[zxx];omega
 have HC:Hid (z.extract 0 4096=cutS z):=hide rfl;by_cases hs:z.size≤4096
 all_goals
  first
   | (have HS := hide (zxw hs)
      have hsI:¬ (4096:Int)<(z.size:Int):=by omega)
   | (have hsI:(4096:Int)<(z.size:Int):=by omega)
  go_enter Tryz.func148,Tryz.ntmps148
  go_wp2_with (with_reducible refine stn 12 ?_)
  first
   | (rw[HC.o];clear HC;generalize cutS z=q at *)
   | (rw[HS.o] at HB HL hq)
  refine heldB (zao rfl (.tmp 10) (.tmp 11) 48 rfl Tryz.underlying48 zaq w.heap.size (some ⟨w.heap.size,0,none⟩) 0 0 [] rfl (OwnB.empty w 5) w.heap.size A n c l rfl
   (hl.below ((Below.refl _ _).alloc (Nat.le_refl _) _) (Nat.le_refl _)) (by omega) (by simp) ?_)
  intro A3 c3 w3 ho3 hb3 hg3;clear hg3;have hb3':Below w.heap.size w w3:=((Below.refl _ _).alloc (Nat.le_refl _) _).trans hb3;rw[Nat.zero_add,List.nil_append] at ho3;rw[Nat.zero_add];go_wp2_with fail
  refine(zov 4 _ w3 (by omega) (by omega)).mono ?_;rintro e w4 ⟨A4,c4,rfl,ho4,hb4⟩;have hb34:=hb3'.trans (hb4.mono hb3'.size);have ho3':=ho3.below hb4;go_wp2_with (with_reducible refine stn 16 ?_)
  refine heldB (zao rfl (.tmp 12) (.tmp 15) 48 rfl Tryz.underlying48 zaq w.heap.size A3 n c3 l rfl ho3' w4.heap.size A4 4 c4 _ rfl ho4.bytes (by omega) hb34.size ?_);intro A5 c5 w5 ho5 hb5 hg5;clear hg5;have hb5':=hb34.trans hb5;go_wp2_with (with_reducible refine stn 18 ?_)
  refine heldB (zxp rfl (.tmp 16) (.tmp 17) 48 9 rfl Tryz.underlying48 Tryz.underlying9 zaq w.heap.size A5 (n+4) c5 _ rfl ho5 _ rfl (by omega) hb5'.size ?_);intro A6 c6 w6 ho6 hb6 hg6;clear hg6;have hb6':=hb5'.trans hb6;have ho7:OwnB w6 w.heap.size 5 A6 (n+(jd (nats z)).length) c6 (l++jd (nats z)):=by rw[HL.o,HB.o,← List.append_assoc,← Nat.add_assoc];exact ho6
  rw[Nat.add_assoc,← HL.o];go_wp2
  go_ret;exact⟨_,_,rfl,ho7,hb6'⟩
def RdP (w:World)(g:Nat)(l:List Nat)(e:Nat):Prop:=w.heap[g]?=some (.cells #[.string (za l),.int .i64 (e:Int)] 246)
section
variable {w w':World} {g e:Nat} {l:List Nat}
theorem RdP.lt (h:RdP w g l e):g<w.heap.size:=(Array.getElem?_eq_some_iff.1 h).1
theorem RdP.c0 (h:RdP w g l e):w.cell? ⟨g,0,none⟩=some (.string (za l)):=by rw[cell_of_row w g 0 _ _ (0,0) h];rfl
theorem RdP.c1 (h:RdP w g l e):w.cell? ⟨g,1,none⟩=some (.int .i64 (e:Int)):=by rw[cell_of_row w g 1 _ _ (0,0) h];rfl
theorem RdP.f0 (h:RdP w g l e):w.frozen? ⟨g,0,none⟩=false:=frozen_of_row w g 0 _ _ h
theorem RdP.f1 (h:RdP w g l e):w.frozen? ⟨g,1,none⟩=false:=frozen_of_row w g 1 _ _ h
theorem RdP.grown (h:RdP w g l e){row:Option Nat}(hg:w.grownBy w' row)(hr:some g≠row):RdP w' g l e:=(hg.block g h.lt hr).trans h
theorem RdP.below (h:RdP w g l e){B:Nat}(hb:Below B w w')(hB:g<B):RdP w' g l e:=(hb.block g hB).trans h
theorem RdP.put0 (h:RdP w g l e)(l':List Nat):RdP (w.setCell ⟨g,0,none⟩ (.string (za l'))) g l' e:=by
 have:=heap_setCell_same w g 0 _ _ (.string (za l')) h;exact this
theorem RdP.put1 (h:RdP w g l e)(e':Nat):RdP (w.setCell ⟨g,1,none⟩ (.int .i64 (e':Int))) g l e':=by
 have:=heap_setCell_same w g 1 _ _ (.int .i64 (e':Int)) h;exact this
theorem RdP.new (w:World)(l:List Nat):RdP (w.alloc (.cells #[.string (za l),.int .i64 0] 246)) w.heap.size l 0:=heap_alloc_new w _
end
theorem qe (w:World)(b i:Nat)(v:Value):w.grownBy (w.setCell ⟨b,i,none⟩ v) (some b) :=
 ⟨rfl,rfl,rfl,by simp,fun k _ hr=>Below.heap_setCell w _ v k (fun e=>hr (by rw[e]))⟩
def Stood (g:Nat)(l:List Nat)(e:Nat)(w w':World):Prop:=RdP w' g l e∧w.grownBy w' (some g)
def Gave (v:Value)(g:Nat)(l:List Nat)(e:Nat)(w:World)(x:Ending)(w':World):Prop:=x=.returned v∧Stood g l e w w'
def ze5 (e k:Nat):Nat:=if e=0 then k else e
theorem zhz (k:Nat):ze5 0 k=k:=rfl
theorem zxz {e:Nat}(k:Nat)(h:e≠0):ze5 e k=e:=if_neg h
theorem ze6 (g e k:Nat)(l:List Nat)(w:World)(h:RdP w g l e) :
 Calls Tryz.prog 229 #[.pointer (some ⟨g,0,none⟩),.int .i64 (k:Int)] w (Gave (.tuple #[]) g l (ze5 e k) w):=by
 have h1:=h.c1;have h2:=h.f1;have hp:=h.put1 k;by_cases he:e=0
 ·subst he
  rw[zhz];have H:=hide h;clear h;go_enter Tryz.func229,Tryz.ntmps229
  go_wp2
  go_end0;exact⟨rfl,hp,qe _ _ _ _⟩
 ·rw[zxz k he]
  have heb:((e:Int) == 0)=false:=by simp;omega
  have H:=hide h;clear h;go_enter Tryz.func229,Tryz.ntmps229
  go_wp2
  go_end0;exact⟨rfl,H.o,World.grownBy.refl _ _⟩
theorem zoy {l:List Nat}{n:Nat}(h:n≤l.length):zq l 0 n=l.take n:=if_pos ⟨rfl,h⟩
theorem zoz {l:List Nat}{n:Nat}(h:n≤l.length):zh l 0 n=l.drop n:=if_pos ⟨rfl,h⟩
theorem zo0 {l:List Nat}{n:Nat}(h:n≤l.length):qf l 0 n=0:=if_neg (by omega)
theorem zo1 {l:List Nat}{n:Nat}(h:l.length<n):zq l 0 n=[]:=if_neg (by omega)
theorem zo2 {l:List Nat}{n:Nat}(h:l.length<n):zh l 0 n=l:=if_neg (by omega)
theorem zo3 {l:List Nat}{n:Nat}(h:l.length<n):qf l 0 n=2:=if_pos ⟨rfl,h⟩
theorem zh0:za []=⟨#[]⟩:=rfl
theorem zo4 (g e n:Nat)(l:List Nat)(w:World)(h:RdP w g l e)(hl:l.length≤140737488355328)(hn:n≤18446744073709551615 / 2) :
 Calls Tryz.prog 282 #[.pointer (some ⟨g,0,none⟩),.int .i64 (n:Int)] w (Gave (.string (za (zq l e n))) g (zh l e n) (qf l e n) w):=by
 have h0:=h.c0;have h1:=h.c1;have h2:=h.f0;have hsz:=zc7 l;by_cases he:e=0
 ·subst he
  have HP:=hide (h.put0 (l.drop n));have HT:=hide (zpd l n);have HF:=hide (zyc l n l.length (Nat.le_refl _));by_cases hlt:l.length<n
  ·rw[zo1 hlt,zo2 hlt,zo3 hlt,zh0]
   have H:=hide h;clear h;generalize za l=s at *;go_enter Tryz.func282,Tryz.ntmps282
   go_wp2_with fail
   refine(ze6 g 0 2 l w H.o).mono ?_;rintro e' w1 ⟨rfl,hr1,hg1⟩;rw[zhz] at hr1;go_wp2
   go_ret;exact⟨rfl,hr1,hg1⟩
  ·have hle:n≤l.length:=by omega
   rw[zoy hle,zoz hle,zo0 hle];have H:=hide h;clear h;generalize za l=s at *;go_enter Tryz.func282,Tryz.ntmps282
   go_wp2
   rw[HT.o,HF.o];go_ret;exact⟨rfl,HP.o,qe _ _ _ _⟩
 ·rw[zgg he,zb8 he,zei he,zh0]
  have heb:((e:Int) == 0)=false:=by simp;omega
  have H:=hide h;clear h;generalize za l=s at *;go_enter Tryz.func282,Tryz.ntmps282
  go_wp2
  go_ret;exact⟨rfl,H.o,World.grownBy.refl _ _⟩
theorem or8 (x y:Nat)(hx:x<72057594037927936)(hy:y<256):bits .or .u64 ((x:Int)*256) (y:Int)=((x*256+y:Nat):Int):=by
 have h:=u64_or_nat (x*256) y (by omega) (by omega);rw[nat_join 8 (x*256) y (by omega) (by omega)] at h;exact h
theorem zo5 {k m:Nat}(h:k≤m):256 ^ k≤256 ^ m:=Nat.pow_le_pow_right (by omega) h
theorem zo6 (g e n:Nat)(l:List Nat)(w:World)(h:RdP w g l e)(hl:l.length≤140737488355328)(hb:∀ x∈l,x<256)(hn:n≤8) :
 Calls Tryz.prog 228 #[.pointer (some ⟨g,0,none⟩),.int .i64 (n:Int)] w (Gave (.int .u64 ((decB (zq l e n):Nat):Int)) g (zh l e n) (qf l e n) w):=by
 have kc:=fun W s=>Lib.run_convert_string_bytes (P:=Tryz.prog) W 9 48 5 s Tryz.underlying9 Tryz.underlying48 Tryz.underlying5;go_enter Tryz.func228,Tryz.ntmps228
 go_wp2_with fail
 refine(zo4 g e n l w h hl (by omega)).mono ?_;rintro e' w1 ⟨rfl,hr1,hg1⟩;have hv:∀ x∈zq l e n,x<256:=zj8 hb;have hvl:(zq l e n).length≤n:=zpe;generalize zq l e n=v at *;generalize zh l e n=l' at *;generalize qf l e n=e2 at *;have hS:(za v).size=v.length:=zc7 v;have HNS:=hide (zbw v hv);generalize za v=s at *;go_wp2
 clear kc;have hB:=zjy w1 5 s;rw[HNS.o,hS] at hB;have hgW:=zaa hg1 (zhy w1 5 s (some g));have hrW:=hr1.grown (zhy w1 5 s none) (by simp);generalize Lib.bytesWorld w1 5 s=W at *;generalize w1.heap.size=bb at *;clear hr1 hg1 hS HNS;have HP:=hide hrW;clear hrW h
 go_loop [5,13] (fun t i=>∃ k:Nat,k≤v.length∧i=.int .i64 k∧t=.int .u64 ((decB (v.take k):Nat):Int)) (fun _ i=>v.length-(intOf i).toNat)
 case atStart=>exact⟨0,Nat.zero_le _,rfl,rfl⟩
 case round =>
  obtain⟨k,hk,rfl,rfl⟩:=hrel;by_cases hlt:k<v.length
  ·obtain⟨b,o,hA,_,hc⟩:=hB.at_ hlt
   injection hA with hA;injection hA with hA1 hA2;subst hA1;subst hA2;rw[Nat.zero_add] at hc;have hby:=hB.lt k;have hx:decB (v.take k)<72057594037927936:=by
    have h1:=zpc (v.take k) (fun x hx=>hv x (List.mem_of_mem_take hx));have h2:256 ^ (v.take k).length≤256 ^ 7:=zo5 (by rw[List.length_take];omega);omega
   have HT:=hide (zow v k hlt);have HO:=fun hx=>hide (or8 (decB (v.take k)) (zf v k) hx hby);have HO:=HO hx;generalize decB (v.take k)=x at *;generalize zf v k=y at *;go_wp2
   go_round
   case rel=>exact⟨k+1,by omega,by go_num,by rw[HO.o,HT.o]⟩
   case measure=>simp[intOf];omega
  ·have HK:=hide (show v.take k=v from List.take_of_length_le (by omega))
   rw[HK.o];go_wp2
   go_ret;exact⟨rfl,HP.o,hgW⟩
theorem Stood.trans {g:Nat}{l l':List Nat}{e e':Nat}{w w' w'':World}(h:Stood g l e w w')(h':Stood g l' e' w' w''):Stood g l' e' w w'':=⟨h'.1,zaa h.2 h'.2⟩
theorem zch (g e:Nat)(l:List Nat)(w:World)(h:RdP w g l e)(hl:l.length≤140737488355328)(hb:∀ x∈l,x<256) :
 Calls Tryz.prog 154 #[.pointer (some ⟨g,0,none⟩)] w (Gave (.int .i64 ((numV l e:Nat):Int)) g (zh l e 8) (numE l e) w):=by
 have HV:Hid (numV l e=if 4611686018427387904<decB (zq l e 8)then 0 else decB (zq l e 8)):=hide rfl;have HE:Hid (numE l e=if 4611686018427387904<decB (zq l e 8)then 3 else qf l e 8):=hide rfl;have HX:Hid (qf l e 8≠0→zq l e 8=[]):=hide zgf;go_enter Tryz.func154,Tryz.ntmps154
 go_wp2_with fail
 refine(zo6 g e 8 l w h hl hb (by omega)).mono ?_;rintro e' w1 ⟨rfl,hs1⟩;generalize zq l e 8=v at *;generalize qf l e 8=e1 at *;generalize zh l e 8=l1 at *;by_cases hg:4611686018427387904<decB v
 ·have he : e1 = 0 := by
   rcases Nat.eq_zero_or_pos e1 with h0|h0
   ·exact h0
   ·have:=HX.o (by omega);subst this;rw[zeh] at hg;omega
  subst he;have HV2:=hide (HV.o.trans (if_pos hg));have HE2:=hide (HE.o.trans (if_pos hg));have hgi:(4611686018427387904:Int)<((decB v:Nat):Int):=by omega
  clear hg HV HE HX;generalize decB v=x at *;go_wp2_with fail
  refine(ze6 g 0 3 l1 w1 hs1.1).mono ?_;rintro e' w2 ⟨rfl,hs2⟩;rw[zhz] at hs2;go_wp2
  go_ret;rw[HV2.o,HE2.o];exact⟨rfl,hs1.trans hs2⟩
 ·have HV2:=hide (HV.o.trans (if_neg hg))
  have HE2:=hide (HE.o.trans (if_neg hg));have hgi:¬ (4611686018427387904:Int)<((decB v:Nat):Int):=by omega
  clear hg HV HE HX;generalize decB v=x at *;go_wp2
  go_ret;rw[HV2.o,HE2.o];exact⟨rfl,hs1⟩
theorem zj1 (g e:Nat)(l:List Nat)(w:World)(h:RdP w g l e)(hl:l.length≤140737488355328)(hb:∀ x∈l,x<256) :
 Calls Tryz.prog 283 #[.pointer (some ⟨g,0,none⟩)] w (Gave (.string (za (zl l e))) g (zar l e) (zbm l e) w):=by
 have HV:Hid (zl l e=if 4096<decB (zq l e 4)then [] else zq (zh l e 4) (qf l e 4) (decB (zq l e 4))):=hide rfl;have HL:Hid (zar l e=if 4096<decB (zq l e 4)then zh l e 4 else zh (zh l e 4) (qf l e 4) (decB (zq l e 4))):=hide rfl;have HE:Hid (zbm l e=if 4096<decB (zq l e 4)then 4 else qf (zh l e 4) (qf l e 4) (decB (zq l e 4))):=hide rfl;have HX:Hid (qf l e 4≠0→zq l e 4=[]):=hide zgf;have hl1:(zh l e 4).length≤140737488355328:=Nat.le_trans zaf hl;go_enter Tryz.func283,Tryz.ntmps283
 go_wp2_with fail
 refine(zo6 g e 4 l w h hl hb (by omega)).mono ?_;rintro e' w1 ⟨rfl,hs1⟩;generalize zq l e 4=v at *;generalize qf l e 4=e1 at *;generalize zh l e 4=l1 at *;by_cases hg:4096<decB v
 ·have he : e1 = 0 := by
   rcases Nat.eq_zero_or_pos e1 with h0|h0
   ·exact h0
   ·have:=HX.o (by omega);subst this;rw[zeh] at hg;omega
  subst he;have HV2:=hide (HV.o.trans (if_pos hg));have HE2:=hide (HE.o.trans (if_pos hg));have HL2:=hide (HL.o.trans (if_pos hg));have hgi:(4096:Int)<((decB v:Nat):Int):=by omega
  clear hg HV HE HX HL;generalize decB v=x at *;go_wp2_with fail
  refine(ze6 g 0 4 l1 w1 hs1.1).mono ?_;rintro e' w2 ⟨rfl,hs2⟩;rw[zhz] at hs2;go_wp2
  go_ret;rw[HV2.o,HE2.o,HL2.o];exact⟨rfl,hs1.trans hs2⟩
 ·have HV2:=hide (HV.o.trans (if_neg hg))
  have HE2:=hide (HE.o.trans (if_neg hg));have HL2:=hide (HL.o.trans (if_neg hg));have hgi:¬ (4096:Int)<((decB v:Nat):Int):=by omega
  clear HV HE HX HL;generalize decB v=x at *;go_wp2_with fail
  refine(zo4 g e1 x l1 w1 hs1.1 hl1 (by omega)).mono ?_;rintro e' w2 ⟨rfl,hs2⟩;go_wp2
  go_ret;rw[HV2.o,HE2.o,HL2.o];exact⟨rfl,hs1.trans hs2⟩
theorem zx0 (g e:Nat)(m:Nat)(l:List Nat)(w:World)(h:RdP w g l e)(hl:l.length≤140737488355328)(hb:∀ x∈l,x<256)(hm:m≤4611686018427387904) :
 Calls Tryz.prog 309 #[.pointer (some ⟨g,0,none⟩),.int .i64 (m:Int)] w (Gave (.int .i64 ((qu l e m:Nat):Int)) g (zh l e 8) (qs l e m) w):=by
 have HV:Hid (qu l e m=if (m:Int)<(numV l e:Int)then 0 else numV l e):=hide rfl;have HE:Hid (qs l e m=if numE l e=0∧(m:Int)<(numV l e:Int)then 4 else numE l e):=hide rfl;have hle:numV l e≤4611686018427387904:=by unfold numV;split<;>omega
 go_enter Tryz.func309,Tryz.ntmps309
 go_wp2_with fail
 refine(zch g e l w h hl hb).mono ?_;rintro e' w1 ⟨rfl,hs1⟩;generalize numV l e=x at *;generalize numE l e=e1 at *;generalize zh l e 8=l1 at *;by_cases hg:(m:Int)<(x:Int)
 ·have HV2:=hide (HV.o.trans (if_pos hg))
  have HE2:Hid (qs l e m=ze5 e1 4):=hide (HE.o.trans (by simp[hg];rfl));clear HV HE;go_wp2_with fail
  refine(ze6 g e1 4 l1 w1 hs1.1).mono ?_;rintro e' w2 ⟨rfl,hs2⟩;go_wp2
  go_ret;rw[HV2.o,HE2.o];exact⟨rfl,hs1.trans hs2⟩
 ·have HV2:=hide (HV.o.trans (if_neg hg))
  have HE2:=hide (HE.o.trans (if_neg (fun h=>hg h.2)));clear HV HE;go_wp2
  go_ret;rw[HV2.o,HE2.o];exact⟨rfl,hs1⟩
theorem zx1 (g e:Nat)(b:Bool)(l:List Nat)(w:World)(h:RdP w g l e) :
 Calls Tryz.prog 155 #[.pointer (some ⟨g,0,none⟩),.bool b] w (Gave (.tuple #[]) g l (jl e b) w):=by
 have HE:Hid (jl e b=if e=0∧b=true then 3 else e):=hide rfl;cases b with
 | true =>
   have HI:Hid (jl e true=ze5 e 3):=hide (by rw[HE.o];simp;rfl);rw[HI.o];clear HI HE;have HH:=hide h;clear h;go_enter Tryz.func155,Tryz.ntmps155
   go_wp2_with fail
   refine(ze6 g e 3 l w HH.o).mono ?_;rintro e' w1 ⟨rfl,hs1⟩;go_wp2
   go_end0;exact⟨rfl,hs1⟩
 | false =>
   have HI:Hid (jl e false=e):=hide (by rw[HE.o];simp);rw[HI.o];clear HI HE;go_enter Tryz.func155,Tryz.ntmps155
   go_wp2
   go_end0;exact⟨rfl,h,World.grownBy.refl _ _⟩
theorem zx2 (g e:Nat)(l:List Nat)(w:World)(h:RdP w g l e) :
 Calls Tryz.prog 156 #[.pointer (some ⟨g,0,none⟩)] w fun x w'=>x=.returned (.int .i64 (e:Int))∧w=w':=by
 have h1:=h.c1;go_enter Tryz.func156,Tryz.ntmps156
 go_wp2
 go_ret;exact⟨rfl,rfl⟩
theorem zx3 (g e:Nat)(l:List Nat)(w:World)(h:RdP w g l e)(hb:∀ x∈l,x<256) :
 Calls Tryz.prog 231 #[.pointer (some ⟨g,0,none⟩)] w fun x w'=>x=.returned (.int .i64 ((zcw l e:Nat):Int))∧w=w':=by
 have h0:=h.c0;have h1:=h.c1;have HE:Hid (zcw l e=if e=0∧l≠[] then 3 else e):=hide rfl;have hq:=ze8 l [] hb (by simp);by_cases he:e=0
 ·subst he
  by_cases hle:l=[]
  ·rw[HE.o,if_neg (by simp[hle])]
   have hq2:((za l).toList == (⟨#[]⟩:ByteArray).toList)=true:=by rw[← zh0,hq];simp[hle]
   have hq3:(za l).toList=[]:=by subst hle;rw[ByteArray.toList_eq];rfl
   clear hq HE hle h;generalize za l=s at *;go_enter Tryz.func231,Tryz.ntmps231
   go_wp2
   go_ret;exact⟨rfl,rfl⟩
  ·rw[HE.o,if_pos ⟨rfl,hle⟩]
   have hq2:((za l).toList == (⟨#[]⟩:ByteArray).toList)=false:=by rw[← zh0,hq];simp[hle]
   have hq3:¬ (za l).toList=[]:=by intro h;simp[h] at hq2
   have hq4:(!(za l).toList.isEmpty)=true:=by simpa using hq3
   clear hq HE hle h;generalize za l=s at *;go_enter Tryz.func231,Tryz.ntmps231
   go_wp2
   go_ret;exact⟨rfl,rfl⟩
 ·rw[HE.o,if_neg (fun h=>he h.1)]
  have heb:((e:Int) == 0)=false:=by simp;omega
  clear hq HE;generalize za l=s at *;go_enter Tryz.func231,Tryz.ntmps231
  go_wp2
  go_ret;exact⟨rfl,rfl⟩
def NewRd (l:List Nat)(w:World)(x:Ending)(w':World):Prop:=x=.returned (.pointer (some ⟨w.heap.size,0,none⟩))∧RdP w' w.heap.size l 0∧Below w.heap.size w w'
theorem zo7 (A:Option Addr)(n c B:Nat)(l:List Nat)(w:World)(hl:Bytes w B A n l) :
 Calls Tryz.prog 153 #[.slice A n c] w (NewRd l w):=by
 have kc:=zcg (P:=Tryz.prog) (c:=c) hl Tryz.underlying48 Tryz.underlying5 Tryz.underlying9;have H:=hide (RdP.new w l);generalize za l=s at *;go_enter Tryz.func153,Tryz.ntmps153
 go_wp2
 go_ret;exact⟨rfl,H.o,(Below.refl _ _).alloc (Nat.le_refl _) _⟩
def RdR (w:World)(g B:Nat)(l:List Nat)(e:Nat):Prop:=∃ A n c,w.heap[g]?=some (.cells #[.slice A n c,.int .i64 (e:Int)] 97)∧n≤c∧c≤maxLen∧n≤140737488355328∧Bytes w B A n l
section
variable {w w':World} {g B e:Nat} {l:List Nat}
theorem RdR.lt (h:RdR w g B l e):g<w.heap.size:=by obtain⟨A,n,c,h,_⟩:=h;exact(Array.getElem?_eq_some_iff.1 h).1
theorem RdR.grown (h:RdR w g B l e){row:Option Nat}(hg:w.grownBy w' row)(hr:some g≠row)(hB:∀ k,row=some k→B≤k)(hBw:B≤w.heap.size):RdR w' g B l e:=by
 have hlt:=h.lt;obtain⟨A,n,c,h,h1,h2,h3,h4⟩:=h;exact⟨A,n,c,(hg.block g hlt hr).trans h,h1,h2,h3,h4.below ((Below.refl B w).grown hg hBw hB) (Nat.le_refl _)⟩
end
def StoodR (g B:Nat)(l:List Nat)(e:Nat)(w w':World):Prop:=RdR w' g B l e∧w.grownBy w' (some g)
def GaveR (v:Value)(g B:Nat)(l:List Nat)(e:Nat)(w:World)(x:Ending)(w':World):Prop:=x=.returned v∧StoodR g B l e w w'
theorem StoodR.trans {g B:Nat}{l l':List Nat}{e e':Nat}{w w' w'':World}(h:StoodR g B l e w w')(h':StoodR g B l' e' w' w''):StoodR g B l' e' w w'':=⟨h'.1,zaa h.2 h'.2⟩
def TookR (v:List Nat)(g B:Nat)(l:List Nat)(e:Nat)(w:World)(x:Ending)(w':World):Prop:=∃ A n c,x=.returned (.slice A n c)∧n≤140737488355328∧Bytes w' B A n v∧StoodR g B l e w w'
theorem RdR.open_ {w:World}{g B e:Nat}{l:List Nat}(h:RdR w g B l e)(hgB:B≤g):∃ A n c,n≤c∧c≤maxLen∧n≤140737488355328∧Bytes w B A n l∧l.length=n ∧
 w.cell? ⟨g,0,none⟩=some (.slice A n c)∧w.cell? ⟨g,1,none⟩=some (.int .i64 (e:Int))∧w.frozen? ⟨g,0,none⟩=false∧w.frozen? ⟨g,1,none⟩=false ∧
 (∀ e':Nat,RdR (w.setCell ⟨g,1,none⟩ (.int .i64 (e':Int))) g B l e') ∧
 (∀ A' n' c' l',n'≤c'→c'≤maxLen→n'≤140737488355328→Bytes w B A' n' l'→RdR (w.setCell ⟨g,0,none⟩ (.slice A' n' c')) g B l' e):=by
 obtain⟨A,n,c,h,h1,h2,h3,h4⟩:=h;refine⟨A,n,c,h1,h2,h3,h4,h4.1,?_,?_,frozen_of_row w g 0 _ _ h,frozen_of_row w g 1 _ _ h,fun e'=>?_,fun A' n' c' l' g1 g2 g3 g4=>?_⟩
 ·rw[cell_of_row w g 0 _ _ (0,0) h];rfl
 ·rw[cell_of_row w g 1 _ _ (0,0) h];rfl
 ·exact⟨A,n,c,heap_setCell_same w g 1 _ _ _ h,h1,h2,h3,h4.below ((Below.refl B w).setCell hgB _) (Nat.le_refl _)⟩
 ·exact⟨A',n',c',heap_setCell_same w g 0 _ _ _ h,g1,g2,g3,g4.below ((Below.refl B w).setCell hgB _) (Nat.le_refl _)⟩
theorem Bytes.to {w:World}{B n:Nat}{A:Option Addr}{l:List Nat}(h:Bytes w B A n l){k:Nat}(hk:k≤n):Bytes w B A k (l.take k) :=
 ⟨by rw[List.length_take,h.1];omega,fun x hx=>h.2.1 x (List.mem_of_mem_take hx),fun h0=>by
  obtain⟨b,o,e,hb,hc⟩:=h.2.2 (by omega);refine⟨b,o,e,hb,fun i hi=>?_⟩;rw[hc i (by omega)];unfold zf
  simp[List.getD_eq_getElem?_getD,List.getElem?_take,hi]⟩
theorem Bytes.from_ {w:World}{B n:Nat}{b o:Nat}{l:List Nat}(h:Bytes w B (some ⟨b,o,none⟩) n l){k:Nat}(hk:k≤n)(hkn:0<n):Bytes w B (some ⟨b,o+k,none⟩) (n-k) (l.drop k) :=
 ⟨by rw[List.length_drop,h.1],fun x hx=>h.2.1 x (List.mem_of_mem_drop hx),fun h0=>by
  obtain⟨b',o',e,hb,hc⟩:=h.2.2 (by omega);injection e with e;injection e with e1 e2;subst e1;subst e2;refine⟨b,o+k,rfl,hb,fun i hi=>?_⟩;rw[Nat.add_assoc,hc (k+i) (by omega)];unfold zf
  simp[List.getD_eq_getElem?_getD,List.getElem?_drop]⟩
theorem Bytes.rest {w:World}{B n:Nat}{A:Option Addr}{l:List Nat}(h:Bytes w B A n l){k:Nat}(hk:k≤n):Bytes w B (A.map fun x=>x.add k) (n-k) (l.drop k):=by
 by_cases h0:n-k=0
 ·rw[h0,List.drop_eq_nil_of_le (by rw[h.1];omega)]
  exact Bytes.nil
 ·obtain⟨b,o,rfl,_⟩:=h.2.2 (by omega)
  have e:(some (⟨b,o,none⟩:Addr)).map (fun x=>x.add k)=some ⟨b,o+k,none⟩:=by rw[Option.map_some,Addr.add_mid]
  rw[e];exact h.from_ hk (by omega)
theorem zj2 (g B e n:Nat)(l:List Nat)(w:World)(h:RdR w g B l e)(hgB:B≤g)(hn:n≤4611686018427387904) :
 Calls Tryz.prog 96 #[.pointer (some ⟨g,0,none⟩),.int .i64 (n:Int)] w (TookR (zq l e n) g B (zh l e n) (qf l e n) w):=by
 obtain⟨A,m,c,h1,h2,h3,hl,hlen,hc0,hc1,hf0,hf1,hp1,hp0⟩:=h.open_ hgB;have hmx:m≤maxLen:=by unfold maxLen;omega
 unfold maxLen at h2;have HP1:=hide (hp1 2);by_cases he:e=0
 ·subst he
  by_cases hlt:m<n
  ·have HV:=hide (zo1 (l:=l) (n:=n) (by omega))
   have HL:=hide (zo2 (l:=l) (n:=n) (by omega));have HE:=hide (zo3 (l:=l) (n:=n) (by omega));clear hp0 hp1 h;go_enter Tryz.func96,Tryz.ntmps96
   go_wp2
   go_ret;rw[HV.o,HL.o,HE.o];exact⟨none,0,0,rfl,by omega,Bytes.nil,HP1.o,qe _ _ _ _⟩
  ·have HV:=hide (zoy (l:=l) (n:=n) (by omega))
   have HL:=hide (zoz (l:=l) (n:=n) (by omega));have HE:=hide (zo0 (l:=l) (n:=n) (by omega));have HR:=hide (hl.rest (k:=n) (by omega));have HB:=hide (hl.to (k:=n) (by omega));have HP0:=hide hp0;clear HP1 hp1 hp0 h;have hcm:c≤maxLen:=by unfold maxLen;omega
   by_cases hcn:c=n
   ·have hmn:m-n=0:=by omega
    have HP:=hide (HP0.o A 0 0 (l.drop n) (by omega) (by omega) (by omega) (by rw[List.drop_eq_nil_of_le (by omega)];exact Bytes.nil));subst hcn;have HMN:=hide hmn;clear hmn;go_enter Tryz.func96,Tryz.ntmps96
    go_wp2
    go_ret;rw[HV.o,HL.o,HE.o];exact⟨_,_,_,rfl,by omega,HB.o.below ((Below.refl B w).setCell hgB _) (Nat.le_refl _),HP.o,qe _ _ _ _⟩
   ·have HP:=hide (HP0.o (A.map fun x=>x.add n) (m-n) (c-n) (l.drop n) (by omega) (by omega) (by omega) HR.o)
    go_enter Tryz.func96,Tryz.ntmps96
    go_wp2
    go_ret;rw[HV.o,HL.o,HE.o];exact⟨_,_,_,rfl,by omega,HB.o.below ((Below.refl B w).setCell hgB _) (Nat.le_refl _),HP.o,qe _ _ _ _⟩
 ·have HV:=hide (zgg (l:=l) (n:=n) he)
  have HL:=hide (zb8 (l:=l) (n:=n) he);have HE:=hide (zei (l:=l) (n:=n) he);have heb:((e:Int) == 0)=false:=by simp;omega
  have H:=hide h;clear HP1 hp1 hp0 h;go_enter Tryz.func96,Tryz.ntmps96
  go_wp2
  go_ret;rw[HV.o,HL.o,HE.o];exact⟨none,0,0,rfl,by omega,Bytes.nil,H.o,World.grownBy.refl _ _⟩
theorem zo8 {l:List Nat}(h:¬ 4611686018427387904<decB l):numB l=(decB l:Int):=if_neg h
theorem zx4 {l:List Nat}(h:4611686018427387904<decB l):numB l=-1:=if_pos h
theorem zbu (g B e:Nat)(l:List Nat)(w:World)(h:RdR w g B l e)(hgB:B≤g) :
 Calls Tryz.prog 51 #[.pointer (some ⟨g,0,none⟩)] w (GaveR (.int .i64 ((numV l e:Nat):Int)) g B (zh l e 8) (numE l e) w):=by
 have HV:Hid (numV l e=if 4611686018427387904<decB (zq l e 8)then 0 else decB (zq l e 8)):=hide rfl;have HE:Hid (numE l e=if 4611686018427387904<decB (zq l e 8)then 3 else qf l e 8):=hide rfl;have HX:Hid (qf l e 8≠0→zq l e 8=[]):=hide zgf;go_enter Tryz.func51,Tryz.ntmps51
 go_wp2_with fail
 refine(zj2 g B e 8 l w h hgB (by omega)).mono ?_;rintro e' w1 ⟨A,n,c,rfl,hn,hby,hs1⟩;generalize zq l e 8=v at *;generalize qf l e 8=e1 at *;generalize zh l e 8=l1 at *;go_wp2_with fail
 refine(zox A n c B v w1 hby (by unfold maxLen;omega)).mono ?_;rintro e' w' ⟨rfl,rfl⟩;obtain⟨A1,m1,c1,_,_,_,_,_,hc0,hc1,hf0,hf1,hp1,_⟩:=hs1.1.open_ hgB;by_cases hg:4611686018427387904<decB v
 ·have he : e1 = 0 := by
   rcases Nat.eq_zero_or_pos e1 with h0|h0
   ·exact h0
   ·have:=HX.o (by omega);subst this;rw[zeh] at hg;omega
  subst he;have HV2:=hide (HV.o.trans (if_pos hg));have HE2:=hide (HE.o.trans (if_pos hg));rw[zx4 hg];have HP:=hide (hp1 3);have HS:=hide hs1;clear hg HV HE HX hp1 hby hs1 h;go_wp2
  go_ret;rw[HV2.o,HE2.o];exact⟨rfl,HP.o,zaa HS.o.2 (qe _ _ _ _)⟩
 ·have HV2:=hide (HV.o.trans (if_neg hg))
  have HE2:=hide (HE.o.trans (if_neg hg));rw[zo8 hg];have HS:=hide hs1;have HV3:=hide (fun h0:e1≠0=>show decB v=0 by rw[HX.o h0];rfl);clear hg HV HE HX hp1 hby hs1 h;generalize decB v=x at *;by_cases he:e1=0
  ·subst he
   go_wp2
   go_ret;rw[HV2.o,HE2.o];exact⟨rfl,HS.o⟩
  ·have heb:((e1:Int) == 0)=false:=by simp;omega
   have HV4:=hide (HV3.o he);go_wp2
   go_ret;rw[HV2.o,HE2.o,HV4.o];exact⟨rfl,HS.o⟩
theorem zj3 (g B e:Nat)(l:List Nat)(w:World)(h:RdR w g B l e)(hgB:B≤g)(hb:∀ x∈l,x<256) :
 Calls Tryz.prog 160 #[.pointer (some ⟨g,0,none⟩)] w (GaveR (.string (za (zl l e))) g B (zar l e) (zbm l e) w):=by
 have HV:Hid (zl l e=if 4096<decB (zq l e 4)then [] else zq (zh l e 4) (qf l e 4) (decB (zq l e 4))):=hide rfl;have HL:Hid (zar l e=if 4096<decB (zq l e 4)then zh l e 4 else zh (zh l e 4) (qf l e 4) (decB (zq l e 4))):=hide rfl;have HE:Hid (zbm l e=if 4096<decB (zq l e 4)then 4 else qf (zh l e 4) (qf l e 4) (decB (zq l e 4))):=hide rfl;have HX:Hid (qf l e 4≠0→zq l e 4=[]):=hide zgf;have hsmall:decB (zq l e 4)≤4611686018427387904:=by
  have h1:=zpc (zq l e 4) (zj8 hb);have h2:256 ^ (zq l e 4).length≤256 ^ 4:=zo5 zpe;omega
 go_enter Tryz.func160,Tryz.ntmps160
 go_wp2_with fail
 refine(zj2 g B e 4 l w h hgB (by omega)).mono ?_;rintro e' w1 ⟨A,n,c,rfl,hn,hby,hs1⟩;generalize zq l e 4=v at *;generalize qf l e 4=e1 at *;generalize zh l e 4=l1 at *;go_wp2_with fail
 refine(zox A n c B v w1 hby (by unfold maxLen;omega)).mono ?_;rintro e' w' ⟨rfl,rfl⟩;rw[zo8 (by omega)];obtain⟨A1,m1,c1,_,_,_,_,_,hc0,hc1,hf0,hf1,hp1,_⟩:=hs1.1.open_ hgB;by_cases hg:4096<decB v
 ·have he : e1 = 0 := by
   rcases Nat.eq_zero_or_pos e1 with h0|h0
   ·exact h0
   ·have:=HX.o (by omega);subst this;rw[zeh] at hg;omega
  subst he;have HV2:=hide (HV.o.trans (if_pos hg));have HE2:=hide (HE.o.trans (if_pos hg));have HL2:=hide (HL.o.trans (if_pos hg));have HP:=hide (hp1 4);have HS:=hide hs1;have hgi:(4096:Int)<((decB v:Nat):Int):=by omega
  clear hg HV HE HX hp1 hby hs1 h HL;generalize decB v=x at *;go_wp2
  go_ret;rw[HV2.o,HE2.o,HL2.o];exact⟨rfl,HP.o,zaa HS.o.2 (qe _ _ _ _)⟩
 ·have HV2:=hide (HV.o.trans (if_neg hg))
  have HE2:=hide (HE.o.trans (if_neg hg));have HL2:=hide (HL.o.trans (if_neg hg));have hgi:¬ (4096:Int)<((decB v:Nat):Int):=by omega
  have HS:=hide hs1;have HV3:=hide (fun h0:e1≠0=>show decB v=0 by rw[HX.o h0];rfl);clear hg HV HE HX hp1 hby hs1 h HL;generalize decB v=x at *;by_cases he:e1=0
  ·subst he
   go_wp2_with fail
   refine(zj2 g B 0 x l1 w1 HS.o.1 hgB (by omega)).mono ?_;rintro e' w2 ⟨A2,n2,c2,rfl,hn2,hby2,hs2⟩;have kc:=zcg (P:=Tryz.prog) (c:=c2) hby2 Tryz.underlying48 Tryz.underlying5 Tryz.underlying9;have HS2:=hide hs2;clear hs2 hby2 hc0 hc1 hf0 hf1;go_wp2
   go_ret;rw[HV2.o,HE2.o,HL2.o];exact⟨rfl,HS.o.trans HS2.o⟩
  ·have heb:((e1:Int) == 0)=false:=by simp;omega
   go_wp2
   go_ret;rw[HV2.o,HE2.o,HL2.o,zgg he,zb8 he,zei he];exact⟨rfl,HS.o⟩
theorem zx5 (g B e:Nat)(m:Nat)(l:List Nat)(w:World)(h:RdR w g B l e)(hgB:B≤g)(hm:m≤4611686018427387904) :
 Calls Tryz.prog 161 #[.pointer (some ⟨g,0,none⟩),.int .i64 (m:Int)] w (GaveR (.int .i64 ((qu l e m:Nat):Int)) g B (zh l e 8) (qs l e m) w):=by
 have HV:Hid (qu l e m=if (m:Int)<(numV l e:Int)then 0 else numV l e):=hide rfl;have HE:Hid (qs l e m=if numE l e=0∧(m:Int)<(numV l e:Int)then 4 else numE l e):=hide rfl;have hle:numV l e≤4611686018427387904:=by unfold numV;split<;>omega
 have HZ:Hid (numE l e≠0→numV l e=0):=hide (fun h0=>by
  unfold numE at h0;unfold numV
  split
  ·rfl
  ·rename_i h1
   rw[if_neg h1] at h0;rw[zgf h0]
   rfl)
 go_enter Tryz.func161,Tryz.ntmps161
 go_wp2_with fail
 refine(zbu g B e l w h hgB).mono ?_;rintro e' w1 ⟨rfl,hs1⟩;generalize numV l e=x at *;generalize numE l e=e1 at *;generalize zh l e 8=l1 at *;obtain⟨A1,m1,c1,_,_,_,_,_,hc0,hc1,hf0,hf1,hp1,_⟩:=hs1.1.open_ hgB;have HS:=hide hs1;have HP:=hide (hp1 4);clear hp1 hs1 h;by_cases he:e1=0
 ·subst he
  by_cases hg:(m:Int)<(x:Int)
  ·have HV2:=hide (HV.o.trans (if_pos hg))
   have HE2:=hide (HE.o.trans (if_pos ⟨rfl,hg⟩));clear HV HE HZ;go_wp2
   go_ret;rw[HV2.o,HE2.o];exact⟨rfl,HP.o,zaa HS.o.2 (qe _ _ _ _)⟩
  ·have HV2:=hide (HV.o.trans (if_neg hg))
   have HE2:=hide (HE.o.trans (if_neg (fun h=>hg h.2)));clear HV HE HZ;go_wp2
   go_ret;rw[HV2.o,HE2.o];exact⟨rfl,HS.o⟩
 ·have hx:=HZ.o he
  subst hx;have HV2:=hide (HV.o.trans (ite_self _));have HE2:=hide (HE.o.trans (if_neg (fun h=>he h.1)));have heb:((e1:Int) == 0)=false:=by simp;omega
  clear HV HE HZ;go_wp2
  go_ret;rw[HV2.o,HE2.o];exact⟨rfl,HS.o⟩
theorem zx6 (g B e:Nat)(b:Bool)(l:List Nat)(w:World)(h:RdR w g B l e)(hgB:B≤g) :
 Calls Tryz.prog 52 #[.pointer (some ⟨g,0,none⟩),.bool b] w (GaveR (.tuple #[]) g B l (jl e b) w):=by
 have HE:Hid (jl e b=if e=0∧b=true then 3 else e):=hide rfl;obtain⟨A1,m1,c1,_,_,_,_,_,hc0,hc1,hf0,hf1,hp1,_⟩:=h.open_ hgB;have HS:=hide h;have HP:=hide (hp1 3);clear hp1 h;by_cases he:e=0
 ·subst he
  cases b with
  | true =>
    have HE2:=hide (HE.o.trans (if_pos ⟨rfl,rfl⟩));clear HE;go_enter Tryz.func52,Tryz.ntmps52
    go_wp2
    go_end0;rw[HE2.o];exact⟨rfl,HP.o,qe _ _ _ _⟩
  | false =>
    have HE2:=hide (HE.o.trans (if_neg (by simp)));clear HE;go_enter Tryz.func52,Tryz.ntmps52
    go_wp2
    go_end0;rw[HE2.o];exact⟨rfl,HS.o,World.grownBy.refl _ _⟩
 ·have HE2:=hide (HE.o.trans (if_neg (fun h=>he h.1)))
  have heb:((e:Int) == 0)=false:=by simp;omega
  clear HE;go_enter Tryz.func52,Tryz.ntmps52
  go_wp2
  go_end0;rw[HE2.o];exact⟨rfl,HS.o,World.grownBy.refl _ _⟩
theorem zx7 (g B e:Nat)(l:List Nat)(w:World)(h:RdR w g B l e)(hgB:B≤g) :
 Calls Tryz.prog 98 #[.pointer (some ⟨g,0,none⟩)] w fun x w'=>x=.returned (.int .i64 ((zcw l e:Nat):Int))∧w=w':=by
 have HE:Hid (zcw l e=if e=0∧l≠[] then 3 else e):=hide rfl;obtain⟨A1,m1,c1,h1,h2,h3,_,hlen,hc0,hc1,_⟩:=h.open_ hgB;unfold maxLen at h2;clear h;by_cases he:e=0
 ·subst he
  by_cases h0:m1=0
  ·have HE2:=hide (HE.o.trans (if_neg (by simp;exact List.eq_nil_of_length_eq_zero (by omega))))
   subst h0;clear HE hlen;go_enter Tryz.func98,Tryz.ntmps98
   go_wp2
   go_ret;exact⟨zbt (by rw[HE2.o];rfl),rfl⟩
  ·have HE2:=hide (HE.o.trans (if_pos ⟨rfl,by intro hl;rw[hl] at hlen;simp at hlen;omega⟩))
   have hmi:(0:Int)<(m1:Int):=by omega
   clear HE hlen;go_enter Tryz.func98,Tryz.ntmps98
   go_wp2
   go_ret;exact⟨zbt (by rw[HE2.o];rfl),rfl⟩
 ·have HE2:=hide (HE.o.trans (if_neg (fun h=>he h.1)))
  have heb:((e:Int) == 0)=false:=by simp;omega
  clear HE hlen;go_enter Tryz.func98,Tryz.ntmps98
  go_wp2
  go_ret;exact⟨zbt (by rw[HE2.o]),rfl⟩
theorem zx8 (A:Option Addr)(n c:Nat)(l:List Nat)(A':Option Addr)(m c':Nat)(zs:List Int)(w:World)(hl:Bytes w w.heap.size A n l)(hz:Col (fun z=>.int .i64 z) w w.heap.size A' m zs)(hn:n+8*m≤1000000000) :
 Calls Tryz.prog 158 #[.slice A n c,.slice A' m c'] w (Made w.heap.size w (n+8*m) (l++zk zs)):=by
 go_enter Tryz.func158,Tryz.ntmps158
 go_wp2_with fail
 refine(zxr A n c l w hl (by omega)).mono ?_;rintro e w1 ⟨A1,c1,rfl,ho1,hb1⟩;go_wp2
 go_loopw [5,12] (fun s t wr=>∃ k:Nat,k≤m∧t=.int .i64 k∧∃ A2 c2,s=.slice A2 (n+8*k) c2∧OwnB wr w.heap.size 5 A2 (n+8*k) c2 (l++zk (zs.take k))∧Below w.heap.size w wr) (fun _ t _=>m-(intOf t).toNat)
 case atStart=>exact⟨0,Nat.zero_le _,rfl,A1,c1,rfl,by rw[show zk (zs.take 0)=[] from rfl,List.append_nil];exact ho1,hb1⟩
 case round =>
  obtain⟨k,hk,rfl,A2,c2,rfl,ho,hb⟩:=hrel;by_cases hlt:k<m
  ·obtain⟨b,o,z,rfl,hbl,-,ht,hc⟩:=(hz.below hb (Nat.le_refl _)).at_ hlt
   have HT:=hide ht;clear ht;have HN:=hide (zh4 (zs.take k) z);have hmm:(if (4611686018427387904:Int)<(if z<0 then 0 else z)then 4611686018427387904 else (if z<0 then 0 else z))=((qt z:Nat):Int):=by
    unfold qt
    split<;>split at *<;>omega
   have hcl:=zh2 z;go_wp2_with fail
   all_goals
    refine(zxs A2 _ c2 8 (qt z) w.heap.size _ wr ho (by omega) (by omega) (by omega) hb.size).mono ?_;rintro e w3 ⟨A3,c3,rfl,ho3,hb3⟩;have hb3':=hb.trans hb3;go_wp2
    go_roundw
    case rel=>exact⟨k+1,by omega,by go_num,A3,c3,rfl,by rw[HT.o,HN.o,← List.append_assoc];exact ho3,hb3'⟩
    case measure=>simp[intOf];omega
  ·have HK:=hide (show zs.take k=zs from List.take_of_length_le (by rw[hz.1];omega))
   obtain rfl:k=m:=by omega
   go_wp2
   go_ret;exact⟨A2,c2,rfl,by rw[HK.o] at ho;exact ho,hb⟩
open Go.ChangeShapes Go.WideShapes Go.ChangeAt
theorem ze7 {H:Type}{enc:TypeId×Value→H}{P:Program}{w:World}{base:Nat}{sp:Nat→Bool}{held:Bool}{fuel n:Nat}{t e:TypeId}{k:IntKind}{cs:List Value}{vals:List Int}{p:List MemPlace}
 (ht:P.underlying t=some (.array n e)) (he:P.underlying e=some (.int k)) (hc:P.cellsOf e=1) (hct:P.cellsOf t=n)
 (h:DataW.trod enc P w base sp held fuel t cs=some (.agg (vals.map fun z=>.lit (.int k z)),p)):cs=vals.map (Value.int k):=by
 obtain⟨xs,m,rfl,hx,hl,hxl,hel⟩:=DataW.trod_array ht h;simp only[Prod.mk.injEq,DataW.agg.injEq] at hx;have hvl:vals.length=n:=by
  have:=congrArg List.length hx.1;simp only[List.length_map] at this;rw[this,hxl]
 apply List.ext_getElem?
 intro i;by_cases hi:i<n
 ·have h1:=hel i hi
  rw[hc,Nat.mul_one,List.getElem?_eq_getElem (by rw[hxl];exact hi)] at h1;have h2:(cs.drop i).take 1=[cs[i]'(by rw[hl,hct];exact hi)]:=by
   rw[List.drop_eq_getElem_cons (by rw[hl,hct];exact hi)];rfl
  rw[h2] at h1;obtain⟨z,hz,hx2,_⟩:=DataW.trod_int he h1;have h3:=congrArg (·[i]?) hx.1;simp only[List.getElem?_map,List.getElem?_eq_getElem (show i<vals.length by omega),List.getElem?_eq_getElem (show i<xs.length by omega),Option.map_some,Option.some.injEq] at h3;rw[hx2] at h3;injection h3 with h3;injection h3 with _ h3;injection hz with hz _;rw[List.getElem?_eq_getElem (by rw[hl,hct];exact hi),hz,List.getElem?_map,List.getElem?_eq_getElem (by omega),← h3];rfl
 ·rw[List.getElem?_eq_none (by omega),List.getElem?_eq_none (by simp;omega)]
end Go.Proofs.YtmjjefnmabbgdaaGreatDoor
namespace Go.Proofs.YtmjjefnmabbgdaaGreatDoor
set_option linter.unusedVariables false
set_option linter.unusedSimpArgs false
set_option maxRecDepth 100000
set_option maxHeartbeats 16000000
open Go.RowKit
theorem zj4 (g e:Nat)(b:Bool)(l:List Nat)(w:World)(h:RdP w g l e) :
 Calls Tryz.prog 155 #[.pointer (some ⟨g,0,none⟩),.bool b] w (Gave (.tuple #[]) g l (jl e b) w):=by
 have HE:Hid (jl e b=if e=0∧b=true then 3 else e):=hide rfl;cases b with
 | true =>
   have HI:Hid (jl e true=ze5 e 3):=hide (by rw[HE.o];simp;rfl);rw[HI.o];clear HI HE;have HH:=hide h;clear h;go_enter Tryz.func155,Tryz.ntmps155
   go_wp2_with fail
   refine(ze6 g e 3 l w HH.o).mono ?_;rintro e' w1 ⟨rfl,hs1⟩;go_wp2
   go_end0;exact⟨rfl,hs1⟩
 | false =>
   have HI:Hid (jl e false=e):=hide (by rw[HE.o];simp);rw[HI.o];clear HI HE;go_enter Tryz.func155,Tryz.ntmps155
   go_wp2
   go_end0;exact⟨rfl,h,World.grownBy.refl _ _⟩
theorem zj5 (g B e:Nat)(b:Bool)(l:List Nat)(w:World)(h:RdR w g B l e)(hgB:B≤g) :
 Calls Tryz.prog 52 #[.pointer (some ⟨g,0,none⟩),.bool b] w (GaveR (.tuple #[]) g B l (jl e b) w):=by
 have HE:Hid (jl e b=if e=0∧b=true then 3 else e):=hide rfl;obtain⟨A1,m1,c1,_,_,_,_,_,hc0,hc1,hf0,hf1,hp1,_⟩:=h.open_ hgB;have HS:=hide h;have HP:=hide (hp1 3);clear hp1 h;by_cases he:e=0
 ·subst he
  cases b with
  | true =>
    have HE2:=hide (HE.o.trans (if_pos ⟨rfl,rfl⟩));clear HE;go_enter Tryz.func52,Tryz.ntmps52
    go_wp2
    go_end0;rw[HE2.o];exact⟨rfl,HP.o,qe _ _ _ _⟩
  | false =>
    have HE2:=hide (HE.o.trans (if_neg (by simp)));clear HE;go_enter Tryz.func52,Tryz.ntmps52
    go_wp2
    go_end0;rw[HE2.o];exact⟨rfl,HS.o,World.grownBy.refl _ _⟩
 ·have HE2:=hide (HE.o.trans (if_neg (fun h=>he h.1)))
  have heb:((e:Int) == 0)=false:=by simp;omega
  clear HE;go_enter Tryz.func52,Tryz.ntmps52
  go_wp2
  go_end0;rw[HE2.o];exact⟨rfl,HS.o,World.grownBy.refl _ _⟩
end Go.Proofs.YtmjjefnmabbgdaaGreatDoor
