/- A part of the proof. -/
import Derived.Test.YtmjjefnmabbgdaaGreatDoorSNameShelf
import Derived.Test.YtmjjefnmabbgdaaGreatDoorSRuleI
namespace Go.Proofs.YtmjjefnmabbgdaaGreatDoor
set_option linter.unusedVariables false
set_option linter.unusedSimpArgs false
set_option maxRecDepth 100000
set_option maxHeartbeats 16000000
open Go.RowKit
def AllLt (l:List Rul)(box:ByteArray)(lo:Nat):Prop:=∀ t r,t<lo→l[t]?=some r→ltS r.1 box
def NoneLt (l:List Rul)(box:ByteArray)(hi:Nat):Prop:=∀ t r,hi≤t→l[t]?=some r→¬ ltS r.1 box
theorem ztc {l:List Rul}(h:zdd l){s t:Nat}{p q:Rul}(hst:s<t)(hp:l[s]?=some p)(hq:l[t]?=some q):ltS p.1 q.1:=by
 unfold zdd at h;rw[List.pairwise_iff_getElem] at h;obtain⟨h1,e1⟩:=List.getElem?_eq_some_iff.1 hp;obtain⟨h2,e2⟩:=List.getElem?_eq_some_iff.1 hq;have:=h s t h1 h2 hst
 rwa [e1,e2] at this
theorem AllLt.up {l:List Rul}{box:ByteArray}{m:Nat}{x:Rul}(h:zdd l)(hx:l[m]?=some x)(hl:ltS x.1 box):AllLt l box (m+1):=by
 intro t r ht hr;rcases Nat.lt_or_ge t m with h1|h1
 ·exact zbp (ztc h h1 hr hx) hl
 ·obtain rfl:t=m:=by omega
  rw[hx] at hr;cases hr;exact hl
theorem NoneLt.down {l:List Rul}{box:ByteArray}{m:Nat}{x:Rul}(h:zdd l)(hx:l[m]?=some x)(hl:¬ ltS x.1 box):NoneLt l box m:=by
 intro t r ht hr hlt;rcases Nat.lt_or_ge m t with h1|h1
 ·exact hl (zbp (ztc h h1 hx hr) hlt)
 ·obtain rfl:t=m:=by omega
  rw[hx] at hr;cases hr;exact hl hlt
theorem OwnK.fresh {α:Type}{k:Nat}{f:α→List Value}{w:World}{base n c:Nat}{e:TypeId}{A:Option Addr}{l:List α}(h:OwnK k f w base e A n c l):∀ a,A=some a→w.heap.size≠a.block:=by
 intro a ha;subst ha;rcases h.1.2 with ⟨hv,_⟩|⟨g,cap,cur,hv,_,hc,_⟩
 ·cases hv
 ·injection hv with hv
  injection hv with hv;subst hv;have:=(Array.getElem?_eq_some_iff.1 hc).1;exact fun e=>by simp only at e;omega
end Go.Proofs.YtmjjefnmabbgdaaGreatDoor
