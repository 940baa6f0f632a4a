/- A part of the proof. -/
import Derived.Test.YtmjjefnmabbgdaaGreatDoorSStateOwn
import Derived.Maps.OwnSet
import Derived.Maps.OwnOps
namespace Go.Proofs.YtmjjefnmabbgdaaGreatDoor
set_option linter.unusedVariables false
set_option linter.unusedSimpArgs false
set_option maxRecDepth 100000
set_option maxHeartbeats 16000000
open Go.RowKit Go.Maps
theorem lawI:Keyed Tryz.prog 3:=int_keyed Tryz.underlying3
def z88 (_:Value):Option (DataW Unit×List MemPlace):=some (.lit (.int .i64 0),[])
theorem ztb {z:Int}(h:1≤z∧z≤4294967295):(Lit.int .i64 z).wf=true:=WalkArith.wf_i64 (by omega)
def SetIs (w:World)(b n:Nat)(S:List Int):Prop:=∃ D:DataW Unit,w.ownsMap Tryz.prog 3 z88 b n D∧(∀ z,has D (.int .i64 z)=decide (z∈S))∧Maps.size D≤S.length∧(Maps.size D=S.length↔S.Nodup)
theorem SetIs.kept {w w':World}{b n:Nat}{S:List Int}{row:Option Nat}(h:SetIs w b n S)(hg:w.grownBy w' row)(hne:some b≠row):SetIs w' b n S:=by
 obtain⟨D,h1,r⟩:=h;exact⟨D,h1.kept hg hne,r⟩
theorem SetIs.made (w:World):SetIs (w.alloc (.map #[] 0)) w.heap.size 0 []:=⟨_,World.ownsMap_made _ _ _ _,fun z=>by simp[has],by simp[Maps.size],by simp[Maps.size]⟩
theorem z89 {D:DataW Unit}{S:List Int}{v:Int}(hD:Tidy D)(hw:(Lit.int .i64 v).wf=true)(h1:∀ z,has D (.int .i64 z)=decide (z∈S))(h2:Maps.size D≤S.length)(h3:Maps.size D=S.length↔S.Nodup)(d:DataW Unit) :
 (∀ z,has (D.put (.int .i64 v) d) (.int .i64 z)=decide (z∈S++[v]))∧Maps.size (D.put (.int .i64 v) d)≤(S++[v]).length∧(Maps.size (D.put (.int .i64 v) d)=(S++[v]).length↔(S++[v]).Nodup):=by
 have hs:=size_put (k:=.int .i64 v) hD d;rw[h1 v] at hs;refine⟨fun z=>?_,?_,?_⟩
 ·by_cases hz:z=v
  ·subst hz
   rw[has_put_same hD.isMap (by simp[WideAt.IsKeyLit]) d];simp
  ·rw[has_put_other (by intro e;injection e with _ e;exact hz e) d,h1 z]
   simp[hz]
 ·rw[List.length_append,hs]
  split<;>simp<;>omega
 ·rw[List.length_append,hs,List.nodup_append]
  by_cases hv:v∈S
  ·simp only[hv,decide_true,if_true,List.length_singleton]
   constructor
   ·intro e;omega
   ·intro e;exact absurd rfl (e.2.2 v hv v (List.mem_singleton_self v))
  ·simp only[hv,decide_false,Bool.false_eq_true,if_false,List.length_singleton]
   constructor
   ·intro e
    refine⟨h3.1 (by omega),(by simp),fun a ha b hb e2=>?_⟩;rw[List.mem_singleton.1 hb] at e2;exact hv (e2 ▸ ha)
   ·intro e
    have:=h3.2 e.1;omega
theorem z9a (A:Option Addr)(n c:Nat)(l:List Bx)(w:World)(hl:BoxesIn w w.heap.size A n l)(hn:n≤1000000)(hv:∀ b∈l,1≤b.valid∧b.valid≤4294967295) :
 Calls Tryz.prog 168 #[.slice A n c] w (SaysB (decide (l.map Bx.valid).Nodup) w):=by
 have hmm:=@run_makeMap Tryz.prog;have HL:=hiD hl;have HV:=hiD hv;clear hl hv;go_enter Tryz.func168,Tryz.ntmps168
 go_wp2_with fail
 clear hmm
 go_loopw [9] (fun i wx=>∃ k:Nat,k≤n∧i=.int .i64 (k:Int)∧SetIs wx w.heap.size k ((l.take k).map Bx.valid)∧Below w.heap.size w wx∧w.heap.size<wx.heap.size) (fun i _=>n-(intOf i).toNat)
 case atStart=>exact⟨0,Nat.zero_le _,rfl,by simpa using SetIs.made w,(Below.refl _ _).alloc (Nat.le_refl _) _,by simp⟩
 case round =>
  obtain⟨k,hk,rfl,hs,hb,hlt0⟩:=hrel;have HB:=hiD hb;have HS:=hiD hs;have HLT:=hiD hlt0;clear hb hs hlt0;by_cases hlt:k<n
  ·obtain⟨b,o,x,rfl,hbb,hla,htk,hrow,hin⟩:=(HL.o.below bhStays HB.o (Nat.le_refl _)).at_ hlt
   have hval:=HV.o _ (List.mem_of_getElem? hla);have HTK:Hid (((l.take (k+1)).map Bx.valid)=((l.take k).map Bx.valid)++[x.b.valid]):=hiD (by rw[htk,List.map_append];rfl);have HROW:=hiD hrow;have hk0:(0:Int)≤(k:Int):=by omega
   have hkn:(k:Int)<(n:Int):=by omega
   clear hla htk hrow hin;go_wp2_with (with_reducible refine stn 12 ?_)
   refine held (wpList_load_mid rfl 76 (.tmp 11) rfl b (o+k*4) rfl (bhC x) _ HROW.o Tryz.underlying76 rfl (by kernel_rfl) ?_);obtain⟨⟨nm,v,nx,ms⟩,xA,xn,xc⟩:=x;unfold bhC;replace hval:1≤v∧v≤4294967295:=hval;have hk1:Bk (wr.alloc (.cells #[.string nm,.int .i64 v,.int .i64 nx,.slice xA xn xc] 76)) wr.heap.size 76 #[.string nm,.int .i64 v,.int .i64 nx,.slice xA xn xc]:=Bk.new _ _ _;have d1:=hk1.cell 1;have HM1:=hiD (HS.o.kept (World.grownBy_alloc wr (.cells #[.string nm,.int .i64 v,.int .i64 nx,.slice xA xn xc] 76) none) (by simp));have HB1:=hiD (HB.o.alloc HB.o.size (.cells #[.string nm,.int .i64 v,.int .i64 nx,.slice xA xn xc] 76));have HLT1:=hiD (show w.heap.size<(wr.alloc (.cells #[.string nm,.int .i64 v,.int .i64 nx,.slice xA xn xc] 76)).heap.size by have:=HLT.o;simp;omega);clear hk1 HS;go_wp2_with ((with_reducible show wpList _ _ _ (⟨none,Op.mapUpdate _ _ _ _,_,_,_,_⟩::_) _ _);refine hold ?_)
   clear d1;generalize wr.alloc (.cells #[.string nm,.int .i64 v,.int .i64 nx,.slice xA xn xc] 76)=W1 at *;obtain⟨D,hD,h1,h2,h3⟩:=HM1.o;have HP:=hiD (z89 (hD.tidy lawI) (ztb hval) h1 h2 h3 (.lit (.int .i64 0)));refine held (wpList_mapUpdate_own _ rfl _ _ _ 258 rfl 3 259 lawI Tryz.underlying258 _ w.heap.size k D rfl hD (by unfold maxLen;omega) (.int .i64 v) (.agg #[]) (.int .i64 v) rfl rfl (keyOf_int_mk Tryz.underlying3 (ztb hval)) (.lit (.int .i64 0)) [] rfl ?_);intro W2 hown hg2;have HM2:Hid (SetIs W2 w.heap.size (k+1) ((l.take (k+1)).map Bx.valid)):=hiD ⟨_,hown,by rw[HTK.o];exact HP.o⟩;have HB2:=hiD (HB1.o.grown hg2 HB1.o.size (fun q hq=>by injection hq with hq;omega));have HLT2:=hiD (show w.heap.size<W2.heap.size by have:=hg2.size;have:=HLT1.o;omega);clear hown hg2 hD h1 h2 h3 HM1 HP HB1 HLT1;go_wp2_with fail
   go_roundw
   case rel=>exact⟨k+1,by omega,by go_num,HM2.o,HB2.o,HLT2.o⟩
   case measure=>simp[intOf];omega
  ·have hkn:¬ (k:Int)<(n:Int):=by omega
   obtain rfl:k=n:=by omega
   have HR:Hid (l.take k=l):=hiD (List.take_of_length_le (by rw[HL.o.len];exact Nat.le_refl _));obtain⟨D,hD,h1,h2,h3⟩:=HS.o;have hlen:=fun ty=>hD.len Tryz.underlying258 ty;rw[HR.o,List.length_map,HL.o.len] at h3
   have HQ:Hid (((Maps.size D:Int) == (k:Int))=decide (l.map Bx.valid).Nodup):=hiD (by
    by_cases hq:Maps.size D=k
    ·rw[decide_eq_true (h3.1 hq),hq];simp
    ·rw[decide_eq_false (fun e=>hq (h3.2 e))];simp;omega)
   clear hD h1 h2 h3;go_wp2_with fail
   go_ret;exact⟨ji (by rw[← HQ.o]<;>first|rfl|simp),HB.o⟩
end Go.Proofs.YtmjjefnmabbgdaaGreatDoor
