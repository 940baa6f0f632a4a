/- A part of the proof. -/
import Derived.Test.YtmjjefnmabbgdaaGreatDoorChecked
import Derived.Deep.RegionHeld
import Derived.Lib.Hide
namespace Go.Proofs.YtmjjefnmabbgdaaGreatDoor
set_option linter.unusedVariables false
open Go.RowKit
section
variable {P:Program} {ops:Array Oper} {Q:Exit→Act→World→Prop} {md:Region.Mode} {S:World→Prop}
theorem tkx {i:Nat}{oi:Oper}{v:Value}{fuel:Nat}{listed:Array Bool}{a:Act}{w:World}(p1:ops[i]?=some oi:=by rfl)
 (p2:Region.noSelect ops=true:=by kernel_rfl) (p3:Region.free md ops listed i=true:=by kernel_rfl) (p4:(Region.ready md ops listed).contains i=true:=by kernel_rfl)
 (p5:∀ c a w,Q (.panic c) (a.put oi.dst v) w→Q (.panic c) a w:=by exact fun _ _ _ h=>h) (p6:Region.wanted oi (yielded ops a.tmps)=true:=by rfl)
 (x:∀ w,S w→(execOp a.eval oi).run P w=.ok (.value v) w) (s:S w)
 (h:wpAnyH P md ops Q S fuel (listed.setIfInBounds i true) (a.put oi.dst v) w):wpAnyH P md ops Q S (fuel+1) listed a w :=
 wpAnyH_take p1 p2 p3 p4 p5 (Or.inl ⟨p6,x⟩) s h
theorem tks {i:Nat}{oi:Oper}{v:Value}{fuel:Nat}{listed:Array Bool}{a:Act}{w:World}(p1:ops[i]?=some oi:=by rfl)
 (p2:Region.noSelect ops=true:=by kernel_rfl) (p3:Region.free md ops listed i=true:=by kernel_rfl) (p4:(Region.ready md ops listed).contains i=true:=by kernel_rfl)
 (p5:∀ c a w,Q (.panic c) (a.put oi.dst v) w→Q (.panic c) a w:=by exact fun _ _ _ h=>h) (p6:Region.wanted oi (yielded ops a.tmps)=true:=by rfl)
 (x:∀ w,S w→(execOp a.eval oi).run P w=.ok (.value v) w:=by exact fun w0 hC=>by simp[execOp,Act.eval,Act.put,go_sem]) (s:S w)
 (h:wpAnyH P md ops Q S fuel (listed.setIfInBounds i true) (a.put oi.dst v) w):wpAnyH P md ops Q S (fuel+1) listed a w :=
 wpAnyH_take p1 p2 p3 p4 p5 (Or.inl ⟨p6,x⟩) s h
theorem tku {i:Nat}{oi:Oper}{fuel:Nat}{listed:Array Bool}{a:Act}{w:World}(p1:ops[i]?=some oi:=by rfl)
 (p2:Region.noSelect ops=true:=by kernel_rfl) (p3:Region.free md ops listed i=true:=by kernel_rfl) (p4:(Region.ready md ops listed).contains i=true:=by kernel_rfl)
 (p5:∀ c a w,Q (.panic c) (a.put oi.dst undef) w→Q (.panic c) a w:=by exact fun _ _ _ h=>h) (p6:Region.wanted oi (yielded ops a.tmps)=false:=by rfl) (s:S w)
 (h:wpAnyH P md ops Q S fuel (listed.setIfInBounds i true) (a.put oi.dst undef) w):wpAnyH P md ops Q S (fuel+1) listed a w :=
 wpAnyH_take p1 p2 p3 p4 p5 (Or.inr ⟨p6,rfl⟩) s h
theorem rd1 {r:Nat}{o:Oper}{fuel:Nat}{listed:Array Bool}{a:Act}{w:World}(p1:Region.ready md ops listed=[r]:=by kernel_rfl)(p2:ops[r]?=some o:=by rfl)(p3:Region.wanted o (yielded ops a.tmps)=true:=by rfl)
 (h:∀ K':Act→World→Prop,Shut (∀ a w,S w→(S w→wpAnyH P md ops Q S fuel (listed.setIfInBounds r true) a w)→K' a w)→Oper.wp P o a w K' Q):wpAnyH P md ops Q S (fuel+1) listed a w :=
 wpAnyH_ready p1 (by simp) (AllReadyH.cons p2 (fun K hK=>by rw[if_pos p3];exact h K hK) AllReadyH.nil)
theorem rd2 {r s:Nat}{o o2:Oper}{fuel:Nat}{listed:Array Bool}{a:Act}{w:World}(p1:Region.ready md ops listed=[r,s]:=by kernel_rfl)(p2:ops[r]?=some o:=by rfl)(p3:Region.wanted o (yielded ops a.tmps)=true:=by rfl)(p4:ops[s]?=some o2:=by rfl)(p5:Region.wanted o2 (yielded ops a.tmps)=true:=by rfl)
 (h:∀ K':Act→World→Prop,Shut (∀ a w,S w→(S w→wpAnyH P md ops Q S fuel (listed.setIfInBounds r true) a w)→K' a w)→Oper.wp P o a w K' Q)
 (k:∀ K':Act→World→Prop,Shut (∀ a w,S w→(S w→wpAnyH P md ops Q S fuel (listed.setIfInBounds s true) a w)→K' a w)→Oper.wp P o2 a w K' Q):wpAnyH P md ops Q S (fuel+1) listed a w :=
 wpAnyH_ready p1 (by simp) (AllReadyH.cons p2 (fun K hK=>by rw[if_pos p3];exact h K hK) (AllReadyH.cons p4 (fun K hK=>by rw[if_pos p5];exact k K hK) AllReadyH.nil))
theorem rd3 {r s t:Nat}{o o2 o3:Oper}{fuel:Nat}{listed:Array Bool}{a:Act}{w:World}(p1:Region.ready md ops listed=[r,s,t]:=by kernel_rfl)(p2:ops[r]?=some o:=by rfl)(p3:Region.wanted o (yielded ops a.tmps)=true:=by rfl)(p4:ops[s]?=some o2:=by rfl)(p5:Region.wanted o2 (yielded ops a.tmps)=true:=by rfl)(p6:ops[t]?=some o3:=by rfl)(p7:Region.wanted o3 (yielded ops a.tmps)=true:=by rfl)
 (h:∀ K':Act→World→Prop,Shut (∀ a w,S w→(S w→wpAnyH P md ops Q S fuel (listed.setIfInBounds r true) a w)→K' a w)→Oper.wp P o a w K' Q)
 (k:∀ K':Act→World→Prop,Shut (∀ a w,S w→(S w→wpAnyH P md ops Q S fuel (listed.setIfInBounds s true) a w)→K' a w)→Oper.wp P o2 a w K' Q)
 (l:∀ K':Act→World→Prop,Shut (∀ a w,S w→(S w→wpAnyH P md ops Q S fuel (listed.setIfInBounds t true) a w)→K' a w)→Oper.wp P o3 a w K' Q):wpAnyH P md ops Q S (fuel+1) listed a w :=
 wpAnyH_ready p1 (by simp) (AllReadyH.cons p2 (fun K hK=>by rw[if_pos p3];exact h K hK) (AllReadyH.cons p4 (fun K hK=>by rw[if_pos p5];exact k K hK) (AllReadyH.cons p6 (fun K hK=>by rw[if_pos p7];exact l K hK) AllReadyH.nil)))
theorem bkk {R:Act→World→Prop}{K:Act→World→Prop}{a:Act}{w:World}(hK:Shut (∀ a w,S w→(S w→R a w)→K a w))(hS:S w)(h:S w→R a w):K a w:=hK.out _ _ hS h
end
theorem _root_.Go.RowKit.Hid.o {p:Prop}(h:Hid p):p:=h
theorem st0 {P:Program}{ops:Array Oper}{Q:Exit→Act→World→Prop}{op:Op}{t:TypeId}{p:String}{f:Array Edge}{g:Option (Nat×Bool)}{rest:List Oper}{a:Act}{w:World}(h:Hid (wpList P ops Q (⟨none,op,t,p,f,g⟩::rest) a w)):wpList P ops Q (⟨none,op,t,p,f,g⟩::rest) a w:=h.out
theorem stn {P:Program}{ops:Array Oper}{Q:Exit→Act→World→Prop}(n:Nat){op:Op}{t:TypeId}{p:String}{f:Array Edge}{g:Option (Nat×Bool)}{rest:List Oper}{a:Act}{w:World}(h:Hid (wpList P ops Q (⟨some n,op,t,p,f,g⟩::rest) a w)):wpList P ops Q (⟨some n,op,t,p,f,g⟩::rest) a w:=h.out
theorem nm0:(∀ (a:Act) (d:Tmp) (v:Value),a.put (some d) v={ a with tmps:=a.tmps.setIfInBounds d v })∧(∀ (a:Act) (v:Value),a.put none v=a)∧(∀ (α:Type) (l:List α) (i:Nat) (v:α),l.toArray.setIfInBounds i v=(l.set i v).toArray) ∧
 (∀ (α:Type) (x v:α) (l:List α),(x::l).set 0 v=v::l)∧(∀ (α:Type) (x v:α) (l:List α) (i:Nat),(x::l).set (i+1) v=x::l.set i v) ∧
 (∀ (α:Type) (l:List α) (i:Nat) (h:i<l.toArray.size),l.toArray[i]=l[i]'(by simpa using h))∧(∀ (α:Type) (x:α) (l:List α) (h:0<(x::l).length),(x::l)[0]=x) ∧
 (∀ (α:Type) (x:α) (l:List α) (i:Nat) (h:i+1<(x::l).length),(x::l)[i+1]=l[i]'(by simpa using h)) :=
 ⟨fun _ _ _=>rfl,fun _ _=>rfl,fun _ _ _ _=>by simp,fun _ _ _ _=>rfl,fun _ _ _ _ _=>rfl,fun _ _ _ _=>rfl,fun _ _ _ _=>rfl,fun _ _ _ _ _=>rfl⟩
theorem hiD {p:Prop}(h:p):Hid p:=Lib.hid h
end Go.Proofs.YtmjjefnmabbgdaaGreatDoor