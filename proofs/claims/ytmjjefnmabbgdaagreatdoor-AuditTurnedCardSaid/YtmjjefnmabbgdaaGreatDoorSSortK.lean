/- A part of the proof. -/
import Derived.Test.YtmjjefnmabbgdaaGreatDoorSBytes
import Derived.Shelf.SlSortCmp.WholeK
import Derived.Shelf.SlSortCmp.NoneTotal
import Derived.Sort.Grow
namespace Go.Proofs.YtmjjefnmabbgdaaGreatDoor
set_option linter.unusedVariables false
set_option linter.unusedSimpArgs false
set_option maxRecDepth 100000
set_option maxHeartbeats 16000000
open Go.Sort Go.Proofs Go.RowKit Go.Shelf
section
variable {α:Type} [Inhabited α] {k:Nat} {f:α→List Value} {w:World} {base n c:Nat} {e:TypeId} {A:Option Addr} {l:List α}
theorem zti (hk:∀ a,(f a).length=k)(hk0:0<k)(l:List α):flatK f k l.toArray=(l.flatMap f).toArray:=by
 refine ext_get! (by simp[ju hk]) (fun t ht=>?_);have ht':t<l.length*k:=by simpa using ht
 rw[get_flatK f k l.toArray t (by simpa using ht')];have hi:t / k<l.length:=(Nat.div_lt_iff_lt_mul hk0).2 ht';have hj:t % k<(f l[t / k]).length:=by rw[hk];exact Nat.mod_lt _ hk0
 have h1:=zhu hk l (t / k) l[t / k] (List.getElem?_eq_getElem hi) (t % k) _ (List.getElem?_eq_getElem hj);rw[show t / k*k+t % k=t by rw[Nat.mul_comm];exact Nat.div_add_mod t k] at h1;have e1:l.toArray[t / k]! = l[t / k]:=by simp[hi]
 rw[e1];have h2:(l.flatMap f).toArray[t]! = (f l[t / k])[t % k]:=by
  rw[getElem!_def];simp[h1]
 rw[h2];simp[hj]
theorem z9j {g m:Nat}{os:Array Obj}{cur:Array Value}{fr:Nat×Nat}(F:Array Value)(hb:w.heap[g]?=some (.cells cur e fr)) :
 (grow (putRow id (Sort.ahead w m) g 0 F) os).heap[g]?=some (.cells (putCells id 0 F cur) e fr):=by
 have hg:g<w.heap.size:=(Array.getElem?_eq_some_iff.1 hb).1;rw[heap_grow_old _ _ (by simpa using hg)];simp[putRow,mapBlock,Sort.ahead,Array.getElem?_modify,hb,onCells]
theorem z9k {g m:Nat}{os:Array Obj}(F:Array Value):w.grownBy (grow (putRow id (Sort.ahead w m) g 0 F) os) (some g):=by
 refine⟨rfl,rfl,rfl,by simp,fun k hk hne=>?_⟩;rw[heap_grow_old _ _ (by simpa using hk)];have:g≠k:=fun e=>hne (by rw[e]);simp[putRow,mapBlock,Sort.ahead,Array.getElem?_modify,this]
theorem z9l (cur:Array Value)(ts:List Value)(h:ts.length≤cur.size):(putCells id 0 ts.toArray cur).toList.take ts.length=ts:=by
 apply List.ext_getElem?
 intro j;by_cases hj:j<ts.length
 ·rw[List.getElem?_take_of_lt hj,Array.getElem?_toList]
  simp[putCells,hj,show j<cur.size by omega]
 ·rw[List.getElem?_take_eq_none (by omega),List.getElem?_eq_none (by omega)]
theorem OwnK.holds (h:OwnK k f w base e A n c l)(hk0:0<k)(hn:0<n):∃ g,A=some ⟨g,0,none⟩∧g<w.heap.size∧HoldsK f k w g 0 l.toArray ∧
 ∀ (m:List α) (q:Nat) (os:Array Obj),m.length=l.length→OwnK k f (sortWorldK f k w g 0 q m.toArray os) base e A n c m∧w.grownBy (sortWorldK f k w g 0 q m.toArray os) (some g):=by
 have hcap:=h.cap;have hlen:=h.len;obtain⟨g,cur,rfl,hg,hh,hcs,htk⟩:=h.block hn;have hle:n*k≤c*k:=Nat.mul_le_mul_right k hcap.1;refine⟨g,rfl,(Array.getElem?_eq_some_iff.1 hh).1,fun j hj=>?_,fun m q os hm=>⟨⟨⟨?_,.inr ⟨g,c,putCells id 0 (flatK f k m.toArray) cur,rfl,hg,?_,hcap.1,hcap.2,?_,?_⟩⟩,by rw[hm];exact hlen,h.2.2⟩,?_⟩⟩
 ·rw[zti h.2.2 hk0] at hj ⊢
  have hj':j<(l.flatMap f).length:=by simpa using hj
  refine⟨?_,by simp[World.frozen?,hh]⟩;have h1:(cur.toList.take (n*k))[j]?=(l.flatMap f)[j]?:=by rw[htk]
  rw[List.getElem?_take_of_lt (by rw[ju h.2.2,hlen] at hj';exact hj')] at h1;simp only[World.cell?,hh,Nat.zero_add];simp only[Option.isSome_none,Bool.false_eq_true,if_false];rw[← Array.getElem?_toList,h1,List.getElem?_eq_getElem hj'];simp;rw[List.getElem?_eq_getElem hj'];rfl
 ·rw[ju h.2.2,hm,hlen]
 ·unfold sortWorldK putRowK
  exact z9j _ hh
 ·simp[putCells,hcs]
 ·rw[zti h.2.2 hk0]
  have:=z9l cur (m.flatMap f) (by rw[ju h.2.2,hm,hlen,hcs];exact hle)
  rwa [ju h.2.2,hm,hlen] at this
 ·unfold sortWorldK putRowK
  exact z9k _
theorem z9m {d d':Array α}(h:PermIn 0 d.size d d'):d'.toList.Perm d.toList:=by
 have h2:=h.2.2;rw[show d.extract 0 d.size=d by simp,show d'.extract 0 d.size=d' by rw[← h.1];simp] at h2;exact h2
theorem z9n {lt:α→α→Bool}{d:Array α}(h:SortedIn lt 0 d.size d):d.toList.Pairwise (fun p q=>lt q p=false):=by
 rw[List.pairwise_iff_getElem];intro i j hi hj hij;have h1:=h i j (Nat.zero_le _) hij (by simpa using hj);have a1:d[i]! = d.toList[i]:=by
  have:i<d.size:=by simpa using hi
  simp[this]
 have a2:d[j]! = d.toList[j]:=by
  have:j<d.size:=by simpa using hj
  simp[this]
 rwa [a1,a2] at h1
end
end Go.Proofs.YtmjjefnmabbgdaaGreatDoor
