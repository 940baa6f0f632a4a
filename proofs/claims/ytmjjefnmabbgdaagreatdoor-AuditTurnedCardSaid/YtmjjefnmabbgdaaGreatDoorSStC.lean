/- A part of the proof. -/
import Derived.Test.YtmjjefnmabbgdaaGreatDoorSStA
import Derived.Test.YtmjjefnmabbgdaaGreatDoorSStV
import Derived.Test.YtmjjefnmabbgdaaGreatDoorSRuleH
namespace Go.Proofs.YtmjjefnmabbgdaaGreatDoor
set_option linter.unusedVariables false
set_option linter.unusedSimpArgs false
set_option maxRecDepth 100000
set_option maxHeartbeats 16000000
open Go.RowKit
theorem z8i (bu:Nat)(u:ByteArray)(l:List Bx)(w:World)(hc:w.cell? ⟨bu,0,none⟩=some (.string u)) :
 CallP Tryz.prog 243 #[.pointer (some ⟨bu,0,none⟩)] (fun x=>.agg (bhA x)) BhIn Bh.b l (fun b=>decide (b.name=u)) w:=by
 intro W x hW hm hx
 show Calls Tryz.prog 243 #[.agg (bhA x),.pointer (some ⟨bu,0,none⟩)] W _
 have hb1:Below W.heap.size W (W.alloc (.cells (bhA x) 76)):=(Below.refl _ _).alloc (Nat.le_refl _) _;have hcw:=(hW.cell (p:=⟨bu,0,none⟩) (World.block_lt_of_cell? _ _ hc)).trans hc;have c0:=(hb1.cell (p:=⟨bu,0,none⟩) (World.block_lt_of_cell? _ _ hcw)).trans hcw;have x0:(bhA x)[0]?=some (.string x.b.name):=rfl;have HB:=hiD hb1;have heq:=zr9 x.b.name u;clear hb1 hW hc hcw hx hm;go_enter Tryz.func243,Tryz.ntmps243
 go_wp2_with fail
 go_ret;exact⟨ji (by first|rfl|exact heq|simp[heq]),HB.o⟩
theorem zs6 (cl nv nt nh:Int)(bA sA rA tA gA:Option Addr)(bn bc sn sc rn rc tn tc gn gc:Nat)(l:List Bx)(u:ByteArray)(w:World)(hl:BoxesIn w w.heap.size bA bn l)(hn:bn≤140737488355328) :
 Calls Tryz.prog 167 #[.agg #[.int .i64 cl,.slice bA bn bc,.slice sA sn sc,.slice rA rn rc,.slice tA tn tc,.slice gA gn gc,.int .i64 nv,.int .i64 nt,.int .i64 nh],.string u] w (IsAt l (fun b=>decide (b.name=u)) w):=by
 have hb1:Below w.heap.size w ((w.alloc (.cells #[.int .i64 cl,.slice bA bn bc,.slice sA sn sc,.slice rA rn rc,.slice tA tn tc,.slice gA gn gc,.int .i64 nv,.int .i64 nt,.int .i64 nh] 40)).alloc (.cells #[.string u] 9)):=((Below.refl _ _).alloc (Nat.le_refl _) _).alloc (by simp) _;have hk0:Bk ((w.alloc (.cells #[.int .i64 cl,.slice bA bn bc,.slice sA sn sc,.slice rA rn rc,.slice tA tn tc,.slice gA gn gc,.int .i64 nv,.int .i64 nt,.int .i64 nh] 40)).alloc (.cells #[.string u] 9)) w.heap.size 40 #[.int .i64 cl,.slice bA bn bc,.slice sA sn sc,.slice rA rn rc,.slice tA tn tc,.slice gA gn gc,.int .i64 nv,.int .i64 nt,.int .i64 nh]:=(Bk.new _ _ _).alloc _;have hk1:Bk ((w.alloc (.cells #[.int .i64 cl,.slice bA bn bc,.slice sA sn sc,.slice rA rn rc,.slice tA tn tc,.slice gA gn gc,.int .i64 nv,.int .i64 nt,.int .i64 nh] 40)).alloc (.cells #[.string u] 9)) (w.heap.size+1) 9 #[.string u]:=Bk.new2 _ _ _ _
 have k1:=hk0.cell 1;have hc:=hk1.cell 0;have HB:=hiD hb1;have CI:=hiD (zst 243 #[.pointer (some ⟨w.heap.size+1,0,none⟩)] (fun b=>decide (b.name=u)) bA bn bc l _ (hl.later_ bhStays hb1) hn (enters_of Tryz.func243 (by decide) (by kernel_rfl)) (z8i (w.heap.size+1) u l _ hc));clear hb1 hk0 hk1 hc hl;go_enter Tryz.func167,Tryz.ntmps167
 go_wp2_with fail
 refine CI.o.mono ?_;rintro e w' ⟨z,rfl,h1,h2,h3,h4⟩;have HR:=hiD h1;have HB4:=hiD (HB.o.trans (h4.mono HB.o.size));clear h1 h4 CI;go_wp2_with fail
 go_ret;exact⟨z,rfl,HR.o,h2,h3,HB4.o⟩
structure BigS (s:Sta):Prop where
 bx:∀ b∈s.boxes,b.name.size≤140737488355328
 sb:∀ b∈s.subs,b.size≤140737488355328
 ru:∀ b∈s.rules,b.1.size≤140737488355328
 tb:∀ b∈s.tombs,b.box.size≤140737488355328
 ho:∀ b∈s.holds,b.box.size≤140737488355328
open Classical in
noncomputable def okPr (p:Prop):Bool:=decide p
theorem okPr_iff {p:Prop}:p↔okPr p=true:=by unfold okPr;simp
theorem zhc {p:Prop}(h:p):okPr p=true:=okPr_iff.1 h
theorem zer {p:Prop}(h:¬ p):okPr p=false:=by unfold okPr;simp[h]
theorem zs7 {p q:Prop}(h:p):okPr (p∧q)=okPr q:=by unfold okPr;simp[h]
def OkB16 (nv:Int)(l:List Bx):Prop:=jb 16 (fun a b=>ltS a.name b.name) (zcp nv) l∧boxN l je≠0∧(l.map Bx.valid).Nodup
theorem bxMay_iff {nv:Int}{b:Bx}:zcp nv b=true↔OkBx b∧qj b.name=true∧b.valid<nv:=by
 unfold zcp;simp only[Bool.and_eq_true,decide_eq_true_eq,zyf];constructor
 ·rintro⟨h1,h2,h3⟩;exact⟨h2,h1,h3⟩
 ·rintro⟨h1,h2,h3⟩;exact⟨h2,h1,h3⟩
theorem z8j {nv:Int}{l:List Bx}:OkB16 nv l↔l.length≤16∧OkBoxes nv l:=by
 unfold OkB16 jb OkL;have hn:(l.map Bx.valid).Nodup↔l.Pairwise (fun a b=>a.valid≠b.valid):=by unfold List.Nodup;rw[List.pairwise_map]
 have hi:boxN l je≠0↔∃ b∈l,b.name=je:=by
  constructor
  ·intro h;obtain⟨b,hb,he⟩:=zp8 h;exact⟨b,List.mem_of_getElem? hb,he⟩
  ·rintro⟨b,hb,he⟩ h;exact boxN_none.1 h b hb he
 rw[hn,hi];constructor
 ·rintro⟨⟨h1,h2,h3⟩,h4,h5⟩;exact⟨h1,fun b hb=>bxMay_iff.1 (h2 b hb),h3,h5,h4⟩
 ·rintro⟨h1,h2,h3,h4,h5⟩;exact⟨⟨h1,fun b hb=>bxMay_iff.2 (h2 b hb),h3⟩,h5,h4⟩
theorem z8k {m:Mg}:okBx ⟨⟨#[]⟩,1,4294967296,[m]⟩=okMg m:=by
 by_cases h:okMg m=true
 ·rw[h]
  refine zpj ⟨by show(1:Int)≤1;omega,by show(1:Int)≤4294967295;omega,by show(1:Int)≤4294967296;omega,by show(4294967296:Int)≤4294967296;omega,by show(1:Nat)≤40;omega,fun x hx=>?_,List.pairwise_singleton _ _⟩;rw[List.mem_singleton.1 hx];have:=zfb h;exact⟨h,by show m.uid<4294967296;omega⟩
 ·rw[Bool.eq_false_iff.2 h]
  exact zfa fun q=>h (q.2.2.2.2.2.1 m (List.mem_singleton_self m)).1
theorem z8l {c nt:Int}{l:List Tmb}:jb 60 (fun a b=>a.id<b.id) (zbg c nt) l↔l.length≤60∧OkTombs c nt l:=by
 have h:∀ t,zbg c nt t=true↔1≤t.id∧t.id<nt∧qj t.box=true∧0≤t.at_∧t.at_≤c∧okMg t.msg=true:=by
  intro t;unfold zbg gvB;rw[z8k];simp only[Bool.and_eq_true,decide_eq_true_eq];constructor
  ·rintro⟨⟨h1,h2⟩,h3,h4,h5,h6⟩;exact⟨h1,h2,h3,h4,h5,h6⟩
  ·rintro⟨h1,h2,h3,h4,h5,h6⟩;exact⟨⟨h1,h2⟩,h3,h4,h5,h6⟩
 unfold jb OkL OkTombs;constructor
 ·rintro⟨h1,h2,h3⟩;exact⟨h1,fun t ht=>(h t).1 (h2 t ht),h3⟩
 ·rintro⟨h1,h2,h3⟩;exact⟨h1,fun t ht=>(h t).2 (h2 t ht),h3⟩
theorem z8m {box:ByteArray}{st:List Rg}:z7 (zft box st)=(qj box && setB st):=by
 unfold z7 zft qj;simp[zg,letK,okQ,outP,evEq,bare,tmB]
theorem z8n {st:List Rg}:setB st=true↔(st≠[]→jr st=true):=by
 unfold setB jr;simp only[decide_eq_true_eq];constructor
 ·rintro⟨h1,h2⟩ hn;exact⟨List.length_pos_iff.2 hn,h1,h2⟩
 ·intro h
  by_cases hn:st=[]
  ·subst hn;exact⟨by simp,fun r hr=>by cases hr⟩
  ·exact(h hn).2
theorem z8o {nh:Int}{l:List Hol}:jb 16 (fun a b=>a.id<b.id) (zcb nh) l↔l.length≤16∧OkHolds nh l:=by
 have h:∀ t,zcb nh t=true↔1≤t.id∧t.id<nh∧qj t.box=true∧(t.set≠[]→jr t.set=true):=by
  intro t;unfold zcb gvB;rw[z8m,← z8n];simp only[Bool.and_eq_true,decide_eq_true_eq];constructor
  ·rintro⟨⟨h1,h2⟩,h3,h4⟩;exact⟨h1,h2,h3,h4⟩
  ·rintro⟨h1,h2,h3,h4⟩;exact⟨⟨h1,h2⟩,h3,h4⟩
 unfold jb OkL OkHolds;constructor
 ·rintro⟨h1,h2,h3⟩;exact⟨h1,fun t ht=>(h t).1 (h2 t ht),h3⟩
 ·rintro⟨h1,h2,h3⟩;exact⟨h1,fun t ht=>(h t).2 (h2 t ht),h3⟩
theorem z8p {l:List Rul}:jb 16 (fun a b=>ltS a.1 b.1) zbq l↔l.length≤16∧OkRules l:=by
 have h:∀ t,zbq t=true↔qj t.1=true∧1≤t.2∧t.2≤1099511627776:=by
  intro t;unfold zbq tmB;simp only[Bool.and_eq_true,decide_eq_true_eq];constructor
  ·rintro⟨h1,h2,h3⟩;exact⟨h1,by omega,h3.2⟩
  ·rintro⟨h1,h2,h3⟩;exact⟨h1,by omega,by omega,h3⟩
 unfold jb OkL OkRules;constructor
 ·rintro⟨h1,h2,h3⟩;exact⟨h1,fun t ht=>(h t).1 (h2 t ht),h3⟩
 ·rintro⟨h1,h2,h3⟩;exact⟨h1,fun t ht=>(h t).2 (h2 t ht),h3⟩
theorem z8q {l:List ByteArray}:jb 16 ltS qj l↔l.length≤16∧OkSubs l:=Iff.rfl
theorem z8r (l:List ByteArray)(w:World)(hsz:∀ b∈l,b.size≤140737488355328):CallP Tryz.prog 163 #[] (fun x=>.string x) TrueP (id:ByteArray→ByteArray) l qj w:=by
 intro W x hW hm hx;exact zfq x (hsz x hm) W
theorem z8s (cl nv nt nh:Int)(bA sA rA tA gA:Option Addr)(bn bc sn sc rn rc tn tc gn gc:Nat)(l:List ByteArray)(w:World)(hl:StrsIn w w.heap.size sA sn l)(hn':sn≤140737488355328)(hsz:∀ b∈l,b.size≤140737488355328) :
 Calls Tryz.prog 102 #[.agg #[.int .i64 cl,.slice bA bn bc,.slice sA sn sc,.slice rA rn rc,.slice tA tn tc,.slice gA gn gc,.int .i64 nv,.int .i64 nt,.int .i64 nh]] w (SaysB (okPr (jb 16 ltS qj l)) w):=by
 have hb1:Below w.heap.size w (w.alloc (.cells #[.int .i64 cl,.slice bA bn bc,.slice sA sn sc,.slice rA rn rc,.slice tA tn tc,.slice gA gn gc,.int .i64 nv,.int .i64 nt,.int .i64 nh] 40)):=(Below.refl _ _).alloc (Nat.le_refl _) _;have hk0:Bk (w.alloc (.cells #[.int .i64 cl,.slice bA bn bc,.slice sA sn sc,.slice rA rn rc,.slice tA tn tc,.slice gA gn gc,.int .i64 nv,.int .i64 nt,.int .i64 nh] 40)) w.heap.size 40 #[.int .i64 cl,.slice bA bn bc,.slice sA sn sc,.slice rA rn rc,.slice tA tn tc,.slice gA gn gc,.int .i64 nv,.int .i64 nt,.int .i64 nh]:=Bk.new _ _ _;have k2:=hk0.cell 2;have HB:=hiD hb1;have CI:=hiD (z7b 16 163 170 #[] qj sA sn sc l _ (hl.later_ trueStays hb1) hn' (enters_of Tryz.func170 (by decide) (by kernel_rfl)) (enters_of Tryz.func163 (by decide) (by kernel_rfl)) z5p (z8r l _ hsz) _ okPr_iff);clear hb1 hk0 hl;go_enter Tryz.func102,Tryz.ntmps102
 go_wp2_with fail
 refine CI.o.mono ?_;rintro e w' ⟨rfl,h4⟩;have HB4:=hiD (HB.o.trans (h4.mono HB.o.size));clear h4 CI;go_wp2_with fail
 go_ret;exact⟨rfl,HB4.o⟩
theorem z8t (cl nv nt nh:Int)(bA sA rA tA gA:Option Addr)(bn bc sn sc rn rc tn tc gn gc:Nat)(l:List Rul)(w:World)(hl:RulesIn w w.heap.size rA rn l)(hn':rn≤140737488355328)(hsz:∀ b∈l,b.1.size≤140737488355328) :
 Calls Tryz.prog 103 #[.agg #[.int .i64 cl,.slice bA bn bc,.slice sA sn sc,.slice rA rn rc,.slice tA tn tc,.slice gA gn gc,.int .i64 nv,.int .i64 nt,.int .i64 nh]] w (SaysB (okPr (jb 16 (fun a b=>ltS a.1 b.1) zbq l)) w):=by
 have hb1:Below w.heap.size w (w.alloc (.cells #[.int .i64 cl,.slice bA bn bc,.slice sA sn sc,.slice rA rn rc,.slice tA tn tc,.slice gA gn gc,.int .i64 nv,.int .i64 nt,.int .i64 nh] 40)):=(Below.refl _ _).alloc (Nat.le_refl _) _;have hk0:Bk (w.alloc (.cells #[.int .i64 cl,.slice bA bn bc,.slice sA sn sc,.slice rA rn rc,.slice tA tn tc,.slice gA gn gc,.int .i64 nv,.int .i64 nt,.int .i64 nh] 40)) w.heap.size 40 #[.int .i64 cl,.slice bA bn bc,.slice sA sn sc,.slice rA rn rc,.slice tA tn tc,.slice gA gn gc,.int .i64 nv,.int .i64 nt,.int .i64 nh]:=Bk.new _ _ _;have k3:=hk0.cell 3;have HB:=hiD hb1;have CI:=hiD (z7q 16 171 173 #[] zbq rA rn rc l _ (hl.later_ trueStays hb1) hn' (enters_of Tryz.func173 (by decide) (by kernel_rfl)) (enters_of Tryz.func171 (by decide) (by kernel_rfl)) z5m (z6a l _ hsz) _ okPr_iff);clear hb1 hk0 hl;go_enter Tryz.func103,Tryz.ntmps103
 go_wp2_with fail
 refine CI.o.mono ?_;rintro e w' ⟨rfl,h4⟩;have HB4:=hiD (HB.o.trans (h4.mono HB.o.size));clear h4 CI;go_wp2_with fail
 go_ret;exact⟨rfl,HB4.o⟩
theorem z8u (cl nv nt nh:Int)(bA sA rA tA gA:Option Addr)(bn bc sn sc rn rc tn tc gn gc:Nat)(l:List Tmb)(w:World)(hl:TombsIn w w.heap.size tA tn l)(hn':tn≤140737488355328)(hsz:∀ b∈l,b.box.size≤140737488355328) :
 Calls Tryz.prog 104 #[.agg #[.int .i64 cl,.slice bA bn bc,.slice sA sn sc,.slice rA rn rc,.slice tA tn tc,.slice gA gn gc,.int .i64 nv,.int .i64 nt,.int .i64 nh]] w (SaysB (okPr (jb 60 (fun a b=>a.id<b.id) (zbg cl nt) l)) w):=by
 have hb1:Below w.heap.size w (w.alloc (.cells #[.int .i64 cl,.slice bA bn bc,.slice sA sn sc,.slice rA rn rc,.slice tA tn tc,.slice gA gn gc,.int .i64 nv,.int .i64 nt,.int .i64 nh] 40)):=(Below.refl _ _).alloc (Nat.le_refl _) _;have hk0:Bk (w.alloc (.cells #[.int .i64 cl,.slice bA bn bc,.slice sA sn sc,.slice rA rn rc,.slice tA tn tc,.slice gA gn gc,.int .i64 nv,.int .i64 nt,.int .i64 nh] 40)) w.heap.size 40 #[.int .i64 cl,.slice bA bn bc,.slice sA sn sc,.slice rA rn rc,.slice tA tn tc,.slice gA gn gc,.int .i64 nv,.int .i64 nt,.int .i64 nh]:=Bk.new _ _ _;have k4:=hk0.cell 4;have HB:=hiD hb1;have CI:=hiD (z7i 60 174 178 #[.pointer (some ⟨w.heap.size,0,none⟩)] (zbg cl nt) tA tn tc l _ (hl.later_ thStays hb1) hn' (enters_of Tryz.func178 (by decide) (by kernel_rfl)) (enters_of Tryz.func174 (by decide) (by kernel_rfl)) z5n (z6b w.heap.size cl nt l _ (hk0.cell 0) (hk0.cell 7) hsz) _ okPr_iff)
 clear hb1 hk0 hl;go_enter Tryz.func104,Tryz.ntmps104
 go_wp2_with fail
 refine CI.o.mono ?_;rintro e w' ⟨rfl,h4⟩;have HB4:=hiD (HB.o.trans (h4.mono HB.o.size));clear h4 CI;go_wp2_with fail
 go_ret;exact⟨rfl,HB4.o⟩
theorem z8v (cl nv nt nh:Int)(bA sA rA tA gA:Option Addr)(bn bc sn sc rn rc tn tc gn gc:Nat)(l:List Hol)(w:World)(hl:HolsIn w w.heap.size gA gn l)(hn':gn≤140737488355328)(hsz:∀ b∈l,b.box.size≤140737488355328)(hK:Kinds w) :
 Calls Tryz.prog 105 #[.agg #[.int .i64 cl,.slice bA bn bc,.slice sA sn sc,.slice rA rn rc,.slice tA tn tc,.slice gA gn gc,.int .i64 nv,.int .i64 nt,.int .i64 nh]] w (SaysB (okPr (jb 16 (fun a b=>a.id<b.id) (zcb nh) l)) w):=by
 have hb1:Below w.heap.size w (w.alloc (.cells #[.int .i64 cl,.slice bA bn bc,.slice sA sn sc,.slice rA rn rc,.slice tA tn tc,.slice gA gn gc,.int .i64 nv,.int .i64 nt,.int .i64 nh] 40)):=(Below.refl _ _).alloc (Nat.le_refl _) _;have hk0:Bk (w.alloc (.cells #[.int .i64 cl,.slice bA bn bc,.slice sA sn sc,.slice rA rn rc,.slice tA tn tc,.slice gA gn gc,.int .i64 nv,.int .i64 nt,.int .i64 nh] 40)) w.heap.size 40 #[.int .i64 cl,.slice bA bn bc,.slice sA sn sc,.slice rA rn rc,.slice tA tn tc,.slice gA gn gc,.int .i64 nv,.int .i64 nt,.int .i64 nh]:=Bk.new _ _ _;have k5:=hk0.cell 5;have HB:=hiD hb1;have CI:=hiD (z7m 16 179 181 #[.pointer (some ⟨w.heap.size,0,none⟩)] (zcb nh) gA gn gc l _ (hl.later_ hhStays hb1) hn' (enters_of Tryz.func181 (by decide) (by kernel_rfl)) (enters_of Tryz.func179 (by decide) (by kernel_rfl)) z5o (z6c w.heap.size nh l _ (hK.below hb1) (hk0.cell 8) hsz) _ okPr_iff)
 clear hb1 hk0 hl;go_enter Tryz.func105,Tryz.ntmps105
 go_wp2_with fail
 refine CI.o.mono ?_;rintro e w' ⟨rfl,h4⟩;have HB4:=hiD (HB.o.trans (h4.mono HB.o.size));clear h4 CI;go_wp2_with fail
 go_ret;exact⟨rfl,HB4.o⟩
theorem z8w (cl nv nt nh:Int)(bA sA rA tA gA:Option Addr)(bn bc sn sc rn rc tn tc gn gc:Nat)(l:List Bx)(w:World)(hl:BoxesIn w w.heap.size bA bn l)(hn':bn≤140737488355328)(hsz:∀ b∈l,b.name.size≤140737488355328) :
 Calls Tryz.prog 101 #[.agg #[.int .i64 cl,.slice bA bn bc,.slice sA sn sc,.slice rA rn rc,.slice tA tn tc,.slice gA gn gc,.int .i64 nv,.int .i64 nt,.int .i64 nh]] w (SaysB (okPr (OkB16 nv l)) w):=by
 have hb1:Below w.heap.size w (w.alloc (.cells #[.int .i64 cl,.slice bA bn bc,.slice sA sn sc,.slice rA rn rc,.slice tA tn tc,.slice gA gn gc,.int .i64 nv,.int .i64 nt,.int .i64 nh] 40)):=(Below.refl _ _).alloc (Nat.le_refl _) _;have hk0:Bk (w.alloc (.cells #[.int .i64 cl,.slice bA bn bc,.slice sA sn sc,.slice rA rn rc,.slice tA tn tc,.slice gA gn gc,.int .i64 nv,.int .i64 nt,.int .i64 nh] 40)) w.heap.size 40 #[.int .i64 cl,.slice bA bn bc,.slice sA sn sc,.slice rA rn rc,.slice tA tn tc,.slice gA gn gc,.int .i64 nv,.int .i64 nt,.int .i64 nh]:=Bk.new _ _ _;have k1:=hk0.cell 1;have HB:=hiD hb1;have HK:=hiD hk0;have HL:=hiD (hl.later_ bhStays hb1);have CI:=hiD (z7e 16 162 166 #[.pointer (some ⟨w.heap.size,0,none⟩)] (zcp nv) bA bn bc l _ (hl.later_ bhStays hb1) hn' (enters_of Tryz.func166 (by decide) (by kernel_rfl)) (enters_of Tryz.func162 (by decide) (by kernel_rfl)) z5l (z59 w.heap.size nv l _ (hk0.cell 6) hsz) _ okPr_iff)
 clear hb1 hk0 hl;go_enter Tryz.func101,Tryz.ntmps101
 go_wp2_with fail
 refine CI.o.mono ?_;generalize w.alloc (.cells #[.int .i64 cl,.slice bA bn bc,.slice sA sn sc,.slice rA rn rc,.slice tA tn tc,.slice gA gn gc,.int .i64 nv,.int .i64 nt,.int .i64 nh] 40)=W1 at *;rintro e w2 ⟨rfl,h4⟩;have HB2:=hiD (HB.o.trans (h4.mono HB.o.size));have HK2:=hiD (HK.o.below h4 HK.o.lt);have HL2:=hiD (HL.o.later_ bhStays h4);clear h4 CI k1 HB HK HL;by_cases h1:jb 16 (fun a b=>ltS a.name b.name) (zcp nv) l
 ·rw[zhc h1]
  have H1:=hiD h1;clear h1;have k0:=HK2.o.cell 0;have k1:=HK2.o.cell 1;have k2:=HK2.o.cell 2;have k3:=HK2.o.cell 3;have k4:=HK2.o.cell 4;have k5:=HK2.o.cell 5;have k6:=HK2.o.cell 6;have k7:=HK2.o.cell 7;have k8:=HK2.o.cell 8;go_wp2_with fail
  refine(zs6 cl nv nt nh bA sA rA tA gA bn bc sn sc rn rc tn tc gn gc l je w2 HL2.o hn').mono ?_;rintro e w3 ⟨z,rfl,hz,hz1,hz2,h4⟩;have HB3:=hiD (HB2.o.trans (h4.mono HB2.o.size));have HK3:=hiD (HK2.o.below h4 HK2.o.lt);have HL3:=hiD (HL2.o.later_ bhStays h4);rw[← zsl] at hz;have HZ:=hiD hz;clear h4 hz k0 k1 k2 k3 k4 k5 k6 k7 k8 HB2 HK2 HL2;by_cases h2:0≤z
  ·have H2:Hid (boxN l je≠0):=hiD (by have:=HZ.o;omega)
   have k1:=HK3.o.cell 1;go_wp2_with fail
   refine(z9a bA bn bc l w3 HL3.o (by have:=H1.o.1;rw[HL3.o.len] at this;omega) (fun b hb=>by have:=(bxMay_iff.1 (H1.o.2.1 b hb)).1;exact⟨this.1,this.2.1⟩)).mono ?_;rintro e w4 ⟨rfl,h4⟩;have HB4:=hiD (HB3.o.trans (h4.mono HB3.o.size))
   have HR:Hid (okPr (OkB16 nv l)=decide (l.map Bx.valid).Nodup):=hiD (by
    unfold OkB16;rw[zs7 H1.o,zs7 H2.o];by_cases hq:(l.map Bx.valid).Nodup
    ·rw[zhc hq,decide_eq_true hq]
    ·rw[zer hq,decide_eq_false hq])
   clear h4 k1;go_wp2_with fail
   go_ret;exact⟨by rw[HR.o]<;>rfl,HB4.o⟩
  ·have HR:Hid (okPr (OkB16 nv l)=false):=hiD (zer fun q=>by have:=q.2.1;have:=HZ.o;omega)
   go_wp2_with fail
   go_ret;exact⟨ji (by rw[HR.o]<;>first|rfl|simp[h2]),HB3.o⟩
 ·rw[zer h1]
  have HR:Hid (okPr (OkB16 nv l)=false):=hiD (zer fun q=>h1 q.1);go_wp2_with fail
  go_ret;exact⟨by rw[HR.o]<;>rfl,HB2.o⟩
theorem z8x (s:Sta):okS s=(tmB s.clock && (nxB s.nv && (nxB s.nt && (nxB s.nh && (okPr (OkB16 s.nv s.boxes) && (okPr (jb 16 ltS qj s.subs) && (okPr (jb 16 (fun a b=>ltS a.1 b.1) zbq s.rules) && (okPr (jb 60 (fun a b=>a.id<b.id) (zbg s.clock s.nt) s.tombs) && okPr (jb 16 (fun a b=>a.id<b.id) (zcb s.nh) s.holds))))))))):=by
 apply zzc
 simp only[Bool.and_eq_true,← okPr_iff];rw[z8j,z8q,z8p,z8l,z8o];have ht:tmB s.clock=true↔0≤s.clock∧s.clock≤1099511627776:=by unfold tmB;simp
 have hn:∀ n,nxB n=true↔NextOk n:=by intro n;unfold nxB NextOk;simp
 rw[ht,hn,hn,hn];constructor
 ·intro h
  exact⟨h.clock,h.nv,h.nt,h.nh,⟨h.lens.1,h.boxes⟩,⟨h.lens.2.1,h.subs⟩,⟨h.lens.2.2.1,h.rules⟩,⟨h.lens.2.2.2.1,h.tombs⟩,⟨h.lens.2.2.2.2,h.holds⟩⟩
 ·rintro⟨h1,h2,h3,h4,⟨l1,h5⟩,⟨l2,h6⟩,⟨l3,h7⟩,⟨l4,h8⟩,⟨l5,h9⟩⟩
  exact⟨h1,h2,h3,h4,⟨l1,l2,l3,l4,l5⟩,h5,h6,h7,h8,h9⟩
theorem Bk.nine {w:World}{b:Nat}{t:TypeId}{v0 v1 v2 v3 v4 v5 v6 v7 v8:Value}(h:Bk w b t #[v0,v1,v2,v3,v4,v5,v6,v7,v8]) :
 w.cell? ⟨b,0,none⟩=some v0∧w.cell? ⟨b,1,none⟩=some v1∧w.cell? ⟨b,2,none⟩=some v2∧w.cell? ⟨b,3,none⟩=some v3∧w.cell? ⟨b,4,none⟩=some v4∧w.cell? ⟨b,5,none⟩=some v5∧w.cell? ⟨b,6,none⟩=some v6∧w.cell? ⟨b,7,none⟩=some v7∧w.cell? ⟨b,8,none⟩=some v8 :=
 ⟨h.cell 0,h.cell 1,h.cell 2,h.cell 3,h.cell 4,h.cell 5,h.cell 6,h.cell 7,h.cell 8⟩
theorem z8y (s:Sta)(p:StaAt)(w:World)(h:StaIn w w.heap.size s p)(hb:BigS s)(hK:Kinds w):Calls Tryz.prog 54 #[staV s p] w (SaysB (okS s) w):=by
 obtain⟨cl,boxes,subs,rules,tombs,holds,nv,nt,nh⟩:=s;obtain⟨⟨bA,bn,bc⟩,⟨sA,sn,sc⟩,⟨rA,rn,rc⟩,⟨tA,tn,tc⟩,⟨gA,gn,gc⟩⟩:=p
 show Calls Tryz.prog 54 #[.agg #[.int .i64 cl,.slice bA bn bc,.slice sA sn sc,.slice rA rn rc,.slice tA tn tc,.slice gA gn gc,.int .i64 nv,.int .i64 nt,.int .i64 nh]] w _
 have hE:=z8x ⟨cl,boxes,subs,rules,tombs,holds,nv,nt,nh⟩;simp only at hE;have HB:Hid (Below w.heap.size w (w.alloc (.cells #[.int .i64 cl,.slice bA bn bc,.slice sA sn sc,.slice rA rn rc,.slice tA tn tc,.slice gA gn gc,.int .i64 nv,.int .i64 nt,.int .i64 nh] 40))):=hiD ((Below.refl _ _).alloc (Nat.le_refl _) _);have HK0:Hid (Bk (w.alloc (.cells #[.int .i64 cl,.slice bA bn bc,.slice sA sn sc,.slice rA rn rc,.slice tA tn tc,.slice gA gn gc,.int .i64 nv,.int .i64 nt,.int .i64 nh] 40)) w.heap.size 40 #[.int .i64 cl,.slice bA bn bc,.slice sA sn sc,.slice rA rn rc,.slice tA tn tc,.slice gA gn gc,.int .i64 nv,.int .i64 nt,.int .i64 nh]):=hiD (Bk.new _ _ _);have HH:=hiD h;have HBG:=hiD hb;have HKI:=hiD hK;have HE:=hiD hE;clear h hb hK hE;obtain⟨k0,k1,k2,k3,k4,k5,k6,k7,k8⟩:=HK0.o.nine;go_enter Tryz.func54,Tryz.ntmps54
 go_wp2_with fail
 refine(zsf cl _).mono ?_;generalize w.alloc (.cells #[.int .i64 cl,.slice bA bn bc,.slice sA sn sc,.slice rA rn rc,.slice tA tn tc,.slice gA gn gc,.int .i64 nv,.int .i64 nt,.int .i64 nh] 40)=W0 at *;rintro e w1 ⟨rfl,rfl⟩;cases h0:tmB cl
 ·have HR:Hid (okS ⟨cl,boxes,subs,rules,tombs,holds,nv,nt,nh⟩=false):=hiD (by rw[HE.o,h0];rfl)
  clear h0;go_wp2_with fail
  go_ret;exact⟨by rw[HR.o]<;>rfl,HB.o⟩
 have H0:=hiD h0;clear h0;go_wp2_with fail
 refine(zli nv _).mono ?_;rintro e w1 ⟨rfl,rfl⟩;cases h1:nxB nv
 ·have HR:Hid (okS ⟨cl,boxes,subs,rules,tombs,holds,nv,nt,nh⟩=false):=hiD (by rw[HE.o,H0.o,h1];rfl)
  clear h1;go_wp2_with fail
  go_ret;exact⟨by rw[HR.o]<;>rfl,HB.o⟩
 have H1:=hiD h1;clear h1;go_wp2_with fail
 refine(zli nt _).mono ?_;rintro e w1 ⟨rfl,rfl⟩;cases h2:nxB nt
 ·have HR:Hid (okS ⟨cl,boxes,subs,rules,tombs,holds,nv,nt,nh⟩=false):=hiD (by rw[HE.o,H0.o,H1.o,h2];rfl)
  clear h2;go_wp2_with fail
  go_ret;exact⟨by rw[HR.o]<;>rfl,HB.o⟩
 have H2:=hiD h2;clear h2;go_wp2_with fail
 refine(zli nh _).mono ?_;rintro e w1 ⟨rfl,rfl⟩;cases h3:nxB nh
 ·have HR:Hid (okS ⟨cl,boxes,subs,rules,tombs,holds,nv,nt,nh⟩=false):=hiD (by rw[HE.o,H0.o,H1.o,H2.o,h3];rfl)
  clear h3;go_wp2_with fail
  go_ret;exact⟨by rw[HR.o]<;>rfl,HB.o⟩
 have H3:=hiD h3;clear h3;go_wp2_with fail
 refine(z8w cl nv nt nh bA sA rA tA gA bn bc sn sc rn rc tn tc gn gc boxes _ (HH.o.bx.later_ bhStays HB.o) HH.o.sz.1 HBG.o.bx).mono ?_;rintro e w2 ⟨rfl,hb2⟩;have HBN:=hiD (HB.o.trans (hb2.mono HB.o.size));have HKN:=hiD (HK0.o.below hb2 HK0.o.lt);clear hb2 k0 k1 k2 k3 k4 k5 k6 k7 k8 HB HK0;have HB:=HBN;have HK0:=HKN;clear HBN HKN;obtain⟨k0,k1,k2,k3,k4,k5,k6,k7,k8⟩:=HK0.o.nine;cases h4:okPr (OkB16 nv boxes)
 ·have HR:Hid (okS ⟨cl,boxes,subs,rules,tombs,holds,nv,nt,nh⟩=false):=hiD (by rw[HE.o,H0.o,H1.o,H2.o,H3.o,h4];rfl)
  clear h4;go_wp2_with fail
  go_ret;exact⟨by rw[HR.o]<;>rfl,HB.o⟩
 have H4:=hiD h4;clear h4;go_wp2_with fail
 refine(z8s cl nv nt nh bA sA rA tA gA bn bc sn sc rn rc tn tc gn gc subs _ ((HH.o.sb.later HB.o).nest) HH.o.sz.2.1 HBG.o.sb).mono ?_;rintro e w2 ⟨rfl,hb2⟩;have HBN:=hiD (HB.o.trans (hb2.mono HB.o.size));have HKN:=hiD (HK0.o.below hb2 HK0.o.lt);clear hb2 k0 k1 k2 k3 k4 k5 k6 k7 k8 HB HK0;have HB:=HBN;have HK0:=HKN;clear HBN HKN;obtain⟨k0,k1,k2,k3,k4,k5,k6,k7,k8⟩:=HK0.o.nine;cases h5:okPr (jb 16 ltS qj subs)
 ·have HR:Hid (okS ⟨cl,boxes,subs,rules,tombs,holds,nv,nt,nh⟩=false):=hiD (by rw[HE.o,H0.o,H1.o,H2.o,H3.o,H4.o,h5];rfl)
  clear h5;go_wp2_with fail
  go_ret;exact⟨by rw[HR.o]<;>rfl,HB.o⟩
 have H5:=hiD h5;clear h5;go_wp2_with fail
 refine(z8t cl nv nt nh bA sA rA tA gA bn bc sn sc rn rc tn tc gn gc rules _ ((HH.o.ru.later HB.o).nest) HH.o.sz.2.2.1 HBG.o.ru).mono ?_;rintro e w2 ⟨rfl,hb2⟩;have HBN:=hiD (HB.o.trans (hb2.mono HB.o.size));have HKN:=hiD (HK0.o.below hb2 HK0.o.lt);clear hb2 k0 k1 k2 k3 k4 k5 k6 k7 k8 HB HK0;have HB:=HBN;have HK0:=HKN;clear HBN HKN;obtain⟨k0,k1,k2,k3,k4,k5,k6,k7,k8⟩:=HK0.o.nine;cases h6:okPr (jb 16 (fun a b=>ltS a.1 b.1) zbq rules)
 ·have HR:Hid (okS ⟨cl,boxes,subs,rules,tombs,holds,nv,nt,nh⟩=false):=hiD (by rw[HE.o,H0.o,H1.o,H2.o,H3.o,H4.o,H5.o,h6];rfl)
  clear h6;go_wp2_with fail
  go_ret;exact⟨by rw[HR.o]<;>rfl,HB.o⟩
 have H6:=hiD h6;clear h6;go_wp2_with fail
 refine(z8u cl nv nt nh bA sA rA tA gA bn bc sn sc rn rc tn tc gn gc tombs _ (HH.o.tb.later_ thStays HB.o) HH.o.sz.2.2.2.1 HBG.o.tb).mono ?_;rintro e w2 ⟨rfl,hb2⟩;have HBN:=hiD (HB.o.trans (hb2.mono HB.o.size));have HKN:=hiD (HK0.o.below hb2 HK0.o.lt);clear hb2 k0 k1 k2 k3 k4 k5 k6 k7 k8 HB HK0;have HB:=HBN;have HK0:=HKN;clear HBN HKN;obtain⟨k0,k1,k2,k3,k4,k5,k6,k7,k8⟩:=HK0.o.nine;cases h7:okPr (jb 60 (fun a b=>a.id<b.id) (zbg cl nt) tombs)
 ·have HR:Hid (okS ⟨cl,boxes,subs,rules,tombs,holds,nv,nt,nh⟩=false):=hiD (by rw[HE.o,H0.o,H1.o,H2.o,H3.o,H4.o,H5.o,H6.o,h7];rfl)
  clear h7;go_wp2_with fail
  go_ret;exact⟨by rw[HR.o]<;>rfl,HB.o⟩
 have H7:=hiD h7;clear h7;go_wp2_with fail
 refine(z8v cl nv nt nh bA sA rA tA gA bn bc sn sc rn rc tn tc gn gc holds _ (HH.o.ho.later_ hhStays HB.o) HH.o.sz.2.2.2.2 HBG.o.ho (HKI.o.below HB.o)).mono ?_;rintro e w2 ⟨rfl,hb2⟩;have HBN:=hiD (HB.o.trans (hb2.mono HB.o.size));have HKN:=hiD (HK0.o.below hb2 HK0.o.lt);clear hb2 k0 k1 k2 k3 k4 k5 k6 k7 k8 HB HK0;have HB:=HBN;have HK0:=HKN;clear HBN HKN;obtain⟨k0,k1,k2,k3,k4,k5,k6,k7,k8⟩:=HK0.o.nine;have HR:Hid (okS ⟨cl,boxes,subs,rules,tombs,holds,nv,nt,nh⟩=okPr (jb 16 (fun a b=>a.id<b.id) (zcb nh) holds)):=hiD (by rw[HE.o,H0.o,H1.o,H2.o,H3.o,H4.o,H5.o,H6.o,H7.o];rfl);clear k0 k1 k2 k3 k4 k5 k6 k7 k8;go_wp2_with fail
 go_ret;exact⟨by rw[HR.o]<;>rfl,HB.o⟩
theorem z8z (l:List Bx)(hs:∀ b∈l,b.msgs.length≤100000∧∀ m∈b.msgs,m.body.length≤100000):CallO Tryz.prog 112 (fun x=>.agg (bhA x)) BhIn BhO Bh.b l:=by
 intro W x hm hx;obtain⟨⟨nm,v,nx,ms⟩,xA,xn,xc⟩:=x;have h1:=hs _ hm;have hl:ms.length=xn:=hx.1.len;refine(zsp nm v nx xA xn xc ms W hx.1 (by have:=h1.1;simp only at this;omega) (fun m hm=>Nat.le_trans (h1.2 m hm) (by omega))).mono ?_;rintro e W' ⟨A',c',rfl,ho,hb⟩;exact⟨⟨⟨nm,v,nx,ms⟩,A',xn,c'⟩,rfl,rfl,ho,hb⟩
theorem z80 (l:List Tmb)(hs:∀ t∈l,t.msg.body.length≤100000):CallO Tryz.prog 116 (fun x=>.agg (thA x)) ThIn ThO Th.t l:=by
 intro W x hm hx;have h1:=hs _ hm;have hl:x.t.msg.body.length=x.n:=hx.1.1;refine(z52 x W hx (by omega)).mono ?_;rintro e W' ⟨A',c',rfl,ho,hb⟩;exact⟨⟨x.t,A',x.n,c'⟩,rfl,rfl,ho,hb⟩
theorem z81 (l:List Hol)(hs:∀ t∈l,t.set.length≤100000):CallO Tryz.prog 118 (fun x=>.agg (hhA x)) HhIn HhO Hh.hol l:=by
 intro W x hm hx;have h1:x.set.length≤100000:=hs _ hm;have hl:x.set.length=x.n:=hx.1.1;refine(z54 x W hx (by omega)).mono ?_;rintro e W' ⟨A',c',rfl,ho,hb⟩;exact⟨⟨x.id,x.box,A',x.n,c',x.set⟩,rfl,rfl,ho,hb⟩
theorem Bk.put9 {w:World}{b:Nat}{t:TypeId}{v0 v1 v2 v3 v4 v5 v6 v7 v8:Value}(h:Bk w b t #[v0,v1,v2,v3,v4,v5,v6,v7,v8])(a0 a1 a2 a3 a4 a5 a6 a7 a8:Value) :
 Bk (((((((((w.setCell ⟨b,0,none⟩ a0).setCell ⟨b,1,none⟩ a1).setCell ⟨b,2,none⟩ a2).setCell ⟨b,3,none⟩ a3).setCell ⟨b,4,none⟩ a4).setCell ⟨b,5,none⟩ a5).setCell ⟨b,6,none⟩ a6).setCell ⟨b,7,none⟩ a7).setCell ⟨b,8,none⟩ a8) b t #[a0,a1,a2,a3,a4,a5,a6,a7,a8]:=by simpa using ((((((((h.put 0 a0).put 1 a1).put 2 a2).put 3 a3).put 4 a4).put 5 a5).put 6 a6).put 7 a7).put 8 a8
theorem zbh (w:World)(b:Nat)(a0 a1 a2 a3 a4 a5 a6 a7 a8:Value):w.grownBy (((((((((w.setCell ⟨b,0,none⟩ a0).setCell ⟨b,1,none⟩ a1).setCell ⟨b,2,none⟩ a2).setCell ⟨b,3,none⟩ a3).setCell ⟨b,4,none⟩ a4).setCell ⟨b,5,none⟩ a5).setCell ⟨b,6,none⟩ a6).setCell ⟨b,7,none⟩ a7).setCell ⟨b,8,none⟩ a8) (some b) :=
 zat (zat (zlk w b a0 a1 a2 a3 a4 a5 a6) (jk _ b 7 a7)) (jk _ b 8 a8)
theorem Bk.state_ {w:World}{b:Nat}{t:TypeId}{u0 u1 u2 u3 u4 u5 u6 u7 u8:Value}(h:Bk w b t #[u0,u1,u2,u3,u4,u5,u6,u7,u8]):(loadVar 40 ⟨b,0,none⟩).run Tryz.prog w=.ok (.agg #[u0,u1,u2,u3,u4,u5,u6,u7,u8]) w:=Bk.load h Tryz.underlying40 rfl (by kernel_rfl)
theorem zdq:¬ StaT 40:=by unfold StaT;decide
theorem z82 {w:World}{B:Nat}{s:Sta}{p:StaAt}(h:StaIn w B s p)(hs:SmSta s):p.bx.n≤1000∧p.sb.n≤1000∧p.ru.n≤1000∧p.tb.n≤1000∧p.ho.n≤1000:=by
 have h1:=hs.lens;rw[h.bx.len,h.sb.1,h.ru.1,h.tb.len,h.ho.len] at h1;exact h1
def GiveS14 (s:Sta)(w:World)(e:Ending)(w':World):Prop:=∃ p,e=.returned (staV s p)∧StaO w' w.heap.size s p∧Below w.heap.size w w'
theorem zi5 (s:Sta)(p:StaAt)(w:World)(h:StaIn w w.heap.size s p)(hs:SmSta s):Calls Tryz.prog 56 #[staV s p] w (GiveS14 s w):=by
 obtain⟨cl,boxes,subs,rules,tombs,holds,nv,nt,nh⟩:=s;obtain⟨⟨bA,bn,bc⟩,⟨sA,sn,sc⟩,⟨rA,rn,rc⟩,⟨tA,tn,tc⟩,⟨gA,gn,gc⟩⟩:=p
 show Calls Tryz.prog 56 #[.agg #[.int .i64 cl,.slice bA bn bc,.slice sA sn sc,.slice rA rn rc,.slice tA tn tc,.slice gA gn gc,.int .i64 nv,.int .i64 nt,.int .i64 nh]] w _
 have hB:Below w.heap.size w ((w.alloc (.cells #[.int .i64 cl,.slice bA bn bc,.slice sA sn sc,.slice rA rn rc,.slice tA tn tc,.slice gA gn gc,.int .i64 nv,.int .i64 nt,.int .i64 nh] 40)).alloc (.cells #[.int .i64 0,.slice none 0 0,.slice none 0 0,.slice none 0 0,.slice none 0 0,.slice none 0 0,.int .i64 0,.int .i64 0,.int .i64 0] 40)):=((Below.refl _ _).alloc (Nat.le_refl _) _).alloc (by simp) _;have hk:Bk ((w.alloc (.cells #[.int .i64 cl,.slice bA bn bc,.slice sA sn sc,.slice rA rn rc,.slice tA tn tc,.slice gA gn gc,.int .i64 nv,.int .i64 nt,.int .i64 nh] 40)).alloc (.cells #[.int .i64 0,.slice none 0 0,.slice none 0 0,.slice none 0 0,.slice none 0 0,.slice none 0 0,.int .i64 0,.int .i64 0,.int .i64 0] 40)) w.heap.size 40 #[.int .i64 cl,.slice bA bn bc,.slice sA sn sc,.slice rA rn rc,.slice tA tn tc,.slice gA gn gc,.int .i64 nv,.int .i64 nt,.int .i64 nh]:=(Bk.new _ _ _).alloc _
 have hj:Bk ((w.alloc (.cells #[.int .i64 cl,.slice bA bn bc,.slice sA sn sc,.slice rA rn rc,.slice tA tn tc,.slice gA gn gc,.int .i64 nv,.int .i64 nt,.int .i64 nh] 40)).alloc (.cells #[.int .i64 0,.slice none 0 0,.slice none 0 0,.slice none 0 0,.slice none 0 0,.slice none 0 0,.int .i64 0,.int .i64 0,.int .i64 0] 40)) (w.heap.size+1) 40 #[.int .i64 0,.slice none 0 0,.slice none 0 0,.slice none 0 0,.slice none 0 0,.slice none 0 0,.int .i64 0,.int .i64 0,.int .i64 0]:=Bk.new2 _ _ _ _;have HZ:Hid (w.heap.size+2≤((w.alloc (.cells #[.int .i64 cl,.slice bA bn bc,.slice sA sn sc,.slice rA rn rc,.slice tA tn tc,.slice gA gn gc,.int .i64 nv,.int .i64 nt,.int .i64 nh] 40)).alloc (.cells #[.int .i64 0,.slice none 0 0,.slice none 0 0,.slice none 0 0,.slice none 0 0,.slice none 0 0,.int .i64 0,.int .i64 0,.int .i64 0] 40)).heap.size):=hiD (by simp)
 have HB:=hiD hB;have HK:=hiD hk;have HJ:=hiD hj;have HH:=hiD h;have HSM:=hiD hs;have HSZ:Hid (bn≤1000∧sn≤1000∧rn≤1000∧tn≤1000∧gn≤1000):=hiD (z82 h hs);clear h hs hB hk hj;have k1:=HK.o.cell 1;go_enter Tryz.func56,Tryz.ntmps56
 go_wp2_with fail
 generalize ((w.alloc (.cells #[.int .i64 cl,.slice bA bn bc,.slice sA sn sc,.slice rA rn rc,.slice tA tn tc,.slice gA gn gc,.int .i64 nv,.int .i64 nt,.int .i64 nh] 40)).alloc (.cells #[.int .i64 0,.slice none 0 0,.slice none 0 0,.slice none 0 0,.slice none 0 0,.slice none 0 0,.int .i64 0,.int .i64 0,.int .i64 0] 40))=W0 at *;refine(z56 112 bA bn bc boxes W0 (HH.o.bx.later_ bhStays HB.o) (Nat.le_trans HSZ.o.1 (by omega)) (enters_of Tryz.func112 (by decide) (by kernel_rfl)) (z8z boxes HSM.o.bx)).mono ?_;rintro e V1 ⟨bB,bd,rfl,ho,hb⟩;have HP1:=hiD (ho.from_ bhOwns (base':=w.heap.size) HB.o.size);have HBN:=hiD (HB.o.trans (hb.mono HB.o.size));have HKN:=hiD (HK.o.below hb (by have:=HZ.o;omega));have HJN:=hiD (HJ.o.below hb (by have:=HZ.o;omega));have HZN:=hiD (Nat.le_trans HZ.o hb.size);clear hb ho k1 HB HK HJ HZ;have HB:=HBN
 have HK:=HKN;have HJ:=HJN;have HZ:=HZN;clear HBN HKN HJN HZN;have z1:=HK.o.frozen 1;have k2:=HK.o.cell 2;have y1:=HK.o.cell 1;go_wp2_with fail
 have hch:Chg 40 w.heap.size V1 (V1.setCell ⟨w.heap.size,1,none⟩ (.slice bB bn bd)):=Chg.cell HK.o (Nat.le_refl _) _ _;have HKN:Hid (Bk (V1.setCell ⟨w.heap.size,1,none⟩ (.slice bB bn bd)) w.heap.size 40 #[.int .i64 cl,.slice bB bn bd,.slice sA sn sc,.slice rA rn rc,.slice tA tn tc,.slice gA gn gc,.int .i64 nv,.int .i64 nt,.int .i64 nh]):=hiD (by simpa using HK.o.put 1 (.slice bB bn bd));have HJN:Hid (Bk (V1.setCell ⟨w.heap.size,1,none⟩ (.slice bB bn bd)) (w.heap.size+1) 40 #[.int .i64 0,.slice none 0 0,.slice none 0 0,.slice none 0 0,.slice none 0 0,.slice none 0 0,.int .i64 0,.int .i64 0,.int .i64 0]):=hiD (HJ.o.far (show w.heap.size+1≠w.heap.size by omega) _);have HBN:Hid (Below w.heap.size w (V1.setCell ⟨w.heap.size,1,none⟩ (.slice bB bn bd))):=hiD (HB.o.trans hch.1);have HZN:Hid (w.heap.size+2≤(V1.setCell ⟨w.heap.size,1,none⟩ (.slice bB bn bd)).heap.size):=hiD (Nat.le_trans HZ.o hch.1.size)
 have HQ1:=hiD (HP1.o.chg bhOwns hch (by decide) (by decide));clear hch HB HK HJ HZ z1 y1 HP1;have HP1:=HQ1;clear HQ1;have HB:=HBN;have HK:=HKN;have HJ:=HJN;have HZ:=HZN;clear HBN HKN HJN HZN;clear k2;have k2:=HK.o.cell 2;generalize (V1.setCell ⟨w.heap.size,1,none⟩ (.slice bB bn bd))=W1 at *;refine(z5t sA sn sc subs W1 (HH.o.sb.later HB.o) (Nat.le_trans HSZ.o.2.1 (by omega))).mono ?_;rintro e V2 ⟨sB,sd,rfl,ho,hb⟩;have HP2:=hiD (ho.from_ (base':=w.heap.size) HB.o.size);have HBN:=hiD (HB.o.trans (hb.mono HB.o.size));have HKN:=hiD (HK.o.below hb (by have:=HZ.o;omega));have HJN:=hiD (HJ.o.below hb (by have:=HZ.o;omega));have HZN:=hiD (Nat.le_trans HZ.o hb.size);have HQ1:=hiD (HP1.o.below bhOwns hb);clear hb ho k2 HB HK HJ HZ HP1;have HP1:=HQ1;clear HQ1;have HB:=HBN;have HK:=HKN;have HJ:=HJN;have HZ:=HZN;clear HBN HKN HJN HZN
 have z2:=HK.o.frozen 2;have k3:=HK.o.cell 3;have y2:=HK.o.cell 2;go_wp2_with fail
 have hch:Chg 40 w.heap.size V2 (V2.setCell ⟨w.heap.size,2,none⟩ (.slice sB sn sd)):=Chg.cell HK.o (Nat.le_refl _) _ _;have HKN:Hid (Bk (V2.setCell ⟨w.heap.size,2,none⟩ (.slice sB sn sd)) w.heap.size 40 #[.int .i64 cl,.slice bB bn bd,.slice sB sn sd,.slice rA rn rc,.slice tA tn tc,.slice gA gn gc,.int .i64 nv,.int .i64 nt,.int .i64 nh]):=hiD (by simpa using HK.o.put 2 (.slice sB sn sd));have HJN:Hid (Bk (V2.setCell ⟨w.heap.size,2,none⟩ (.slice sB sn sd)) (w.heap.size+1) 40 #[.int .i64 0,.slice none 0 0,.slice none 0 0,.slice none 0 0,.slice none 0 0,.slice none 0 0,.int .i64 0,.int .i64 0,.int .i64 0]):=hiD (HJ.o.far (show w.heap.size+1≠w.heap.size by omega) _);have HBN:Hid (Below w.heap.size w (V2.setCell ⟨w.heap.size,2,none⟩ (.slice sB sn sd))):=hiD (HB.o.trans hch.1);have HZN:Hid (w.heap.size+2≤(V2.setCell ⟨w.heap.size,2,none⟩ (.slice sB sn sd)).heap.size):=hiD (Nat.le_trans HZ.o hch.1.size)
 have HQ1:=hiD (HP1.o.chg bhOwns hch (by decide) (by decide));have HQ2:=hiD (HP2.o.chg hch (by decide));clear hch HB HK HJ HZ z2 y2 HP1 HP2;have HP1:=HQ1;clear HQ1;have HP2:=HQ2;clear HQ2;have HB:=HBN;have HK:=HKN;have HJ:=HJN;have HZ:=HZN;clear HBN HKN HJN HZN;clear k3;have k3:=HK.o.cell 3;generalize (V2.setCell ⟨w.heap.size,2,none⟩ (.slice sB sn sd))=W2 at *;refine(z5x rA rn rc rules W2 (HH.o.ru.later HB.o) (Nat.le_trans HSZ.o.2.2.1 (by omega))).mono ?_;rintro e V3 ⟨rB,rd,rfl,ho,hb⟩;have HP3:=hiD (ho.from_ (base':=w.heap.size) HB.o.size);have HBN:=hiD (HB.o.trans (hb.mono HB.o.size));have HKN:=hiD (HK.o.below hb (by have:=HZ.o;omega));have HJN:=hiD (HJ.o.below hb (by have:=HZ.o;omega));have HZN:=hiD (Nat.le_trans HZ.o hb.size);have HQ1:=hiD (HP1.o.below bhOwns hb);have HQ2:=hiD (HP2.o.below hb);clear hb ho k3 HB HK HJ HZ HP1 HP2
 have HP1:=HQ1;clear HQ1;have HP2:=HQ2;clear HQ2;have HB:=HBN;have HK:=HKN;have HJ:=HJN;have HZ:=HZN;clear HBN HKN HJN HZN;have z3:=HK.o.frozen 3;have k4:=HK.o.cell 4;have y3:=HK.o.cell 3;go_wp2_with fail
 have hch:Chg 40 w.heap.size V3 (V3.setCell ⟨w.heap.size,3,none⟩ (.slice rB rn rd)):=Chg.cell HK.o (Nat.le_refl _) _ _;have HKN:Hid (Bk (V3.setCell ⟨w.heap.size,3,none⟩ (.slice rB rn rd)) w.heap.size 40 #[.int .i64 cl,.slice bB bn bd,.slice sB sn sd,.slice rB rn rd,.slice tA tn tc,.slice gA gn gc,.int .i64 nv,.int .i64 nt,.int .i64 nh]):=hiD (by simpa using HK.o.put 3 (.slice rB rn rd));have HJN:Hid (Bk (V3.setCell ⟨w.heap.size,3,none⟩ (.slice rB rn rd)) (w.heap.size+1) 40 #[.int .i64 0,.slice none 0 0,.slice none 0 0,.slice none 0 0,.slice none 0 0,.slice none 0 0,.int .i64 0,.int .i64 0,.int .i64 0]):=hiD (HJ.o.far (show w.heap.size+1≠w.heap.size by omega) _);have HBN:Hid (Below w.heap.size w (V3.setCell ⟨w.heap.size,3,none⟩ (.slice rB rn rd))):=hiD (HB.o.trans hch.1);have HZN:Hid (w.heap.size+2≤(V3.setCell ⟨w.heap.size,3,none⟩ (.slice rB rn rd)).heap.size):=hiD (Nat.le_trans HZ.o hch.1.size)
 have HQ1:=hiD (HP1.o.chg bhOwns hch (by decide) (by decide));have HQ2:=hiD (HP2.o.chg hch (by decide));have HQ3:=hiD (HP3.o.chg hch (by decide));clear hch HB HK HJ HZ z3 y3 HP1 HP2 HP3;have HP1:=HQ1;clear HQ1;have HP2:=HQ2;clear HQ2;have HP3:=HQ3;clear HQ3;have HB:=HBN;have HK:=HKN;have HJ:=HJN;have HZ:=HZN;clear HBN HKN HJN HZN;clear k4;have k4:=HK.o.cell 4;generalize (V3.setCell ⟨w.heap.size,3,none⟩ (.slice rB rn rd))=W3 at *;refine(z57 116 tA tn tc tombs W3 (HH.o.tb.later_ thStays HB.o) (Nat.le_trans HSZ.o.2.2.2.1 (by omega)) (enters_of Tryz.func116 (by decide) (by kernel_rfl)) (z80 tombs HSM.o.tb)).mono ?_;rintro e V4 ⟨tB,td,rfl,ho,hb⟩;have HP4:=hiD (ho.from_ thOwns (base':=w.heap.size) HB.o.size);have HBN:=hiD (HB.o.trans (hb.mono HB.o.size));have HKN:=hiD (HK.o.below hb (by have:=HZ.o;omega));have HJN:=hiD (HJ.o.below hb (by have:=HZ.o;omega))
 have HZN:=hiD (Nat.le_trans HZ.o hb.size);have HQ1:=hiD (HP1.o.below bhOwns hb);have HQ2:=hiD (HP2.o.below hb);have HQ3:=hiD (HP3.o.below hb);clear hb ho k4 HB HK HJ HZ HP1 HP2 HP3;have HP1:=HQ1;clear HQ1;have HP2:=HQ2;clear HQ2;have HP3:=HQ3;clear HQ3;have HB:=HBN;have HK:=HKN;have HJ:=HJN;have HZ:=HZN;clear HBN HKN HJN HZN;have z4:=HK.o.frozen 4;have k5:=HK.o.cell 5;have y4:=HK.o.cell 4;go_wp2_with fail
 have hch:Chg 40 w.heap.size V4 (V4.setCell ⟨w.heap.size,4,none⟩ (.slice tB tn td)):=Chg.cell HK.o (Nat.le_refl _) _ _;have HKN:Hid (Bk (V4.setCell ⟨w.heap.size,4,none⟩ (.slice tB tn td)) w.heap.size 40 #[.int .i64 cl,.slice bB bn bd,.slice sB sn sd,.slice rB rn rd,.slice tB tn td,.slice gA gn gc,.int .i64 nv,.int .i64 nt,.int .i64 nh]):=hiD (by simpa using HK.o.put 4 (.slice tB tn td));have HJN:Hid (Bk (V4.setCell ⟨w.heap.size,4,none⟩ (.slice tB tn td)) (w.heap.size+1) 40 #[.int .i64 0,.slice none 0 0,.slice none 0 0,.slice none 0 0,.slice none 0 0,.slice none 0 0,.int .i64 0,.int .i64 0,.int .i64 0]):=hiD (HJ.o.far (show w.heap.size+1≠w.heap.size by omega) _);have HBN:Hid (Below w.heap.size w (V4.setCell ⟨w.heap.size,4,none⟩ (.slice tB tn td))):=hiD (HB.o.trans hch.1);have HZN:Hid (w.heap.size+2≤(V4.setCell ⟨w.heap.size,4,none⟩ (.slice tB tn td)).heap.size):=hiD (Nat.le_trans HZ.o hch.1.size)
 have HQ1:=hiD (HP1.o.chg bhOwns hch (by decide) (by decide));have HQ2:=hiD (HP2.o.chg hch (by decide));have HQ3:=hiD (HP3.o.chg hch (by decide));have HQ4:=hiD (HP4.o.chg thOwns hch (by decide) (by decide));clear hch HB HK HJ HZ z4 y4 HP1 HP2 HP3 HP4;have HP1:=HQ1;clear HQ1;have HP2:=HQ2;clear HQ2;have HP3:=HQ3;clear HQ3;have HP4:=HQ4;clear HQ4;have HB:=HBN;have HK:=HKN;have HJ:=HJN;have HZ:=HZN;clear HBN HKN HJN HZN;clear k5;have k5:=HK.o.cell 5;generalize (V4.setCell ⟨w.heap.size,4,none⟩ (.slice tB tn td))=W4 at *;refine(z58 118 gA gn gc holds W4 (HH.o.ho.later_ hhStays HB.o) (Nat.le_trans HSZ.o.2.2.2.2 (by omega)) (enters_of Tryz.func118 (by decide) (by kernel_rfl)) (z81 holds HSM.o.ho)).mono ?_;rintro e V5 ⟨gB,gd,rfl,ho,hb⟩;have HP5:=hiD (ho.from_ hhOwns (base':=w.heap.size) HB.o.size);have HBN:=hiD (HB.o.trans (hb.mono HB.o.size))
 have HKN:=hiD (HK.o.below hb (by have:=HZ.o;omega));have HJN:=hiD (HJ.o.below hb (by have:=HZ.o;omega));have HZN:=hiD (Nat.le_trans HZ.o hb.size);have HQ1:=hiD (HP1.o.below bhOwns hb);have HQ2:=hiD (HP2.o.below hb);have HQ3:=hiD (HP3.o.below hb);have HQ4:=hiD (HP4.o.below thOwns hb);clear hb ho k5 HB HK HJ HZ HP1 HP2 HP3 HP4;have HP1:=HQ1;clear HQ1;have HP2:=HQ2;clear HQ2;have HP3:=HQ3;clear HQ3;have HP4:=HQ4;clear HQ4;have HB:=HBN;have HK:=HKN;have HJ:=HJN;have HZ:=HZN;clear HBN HKN HJN HZN;obtain⟨k0,k1,k2,k3,k4,k5,k6,k7,k8⟩:=HK.o.nine;obtain⟨j0,j1,j2,j3,j4,j5,j6,j7,j8⟩:=HJ.o.nine;have z5:=HK.o.frozen 5;have y0:=HJ.o.frozen 0;have y1:=HJ.o.frozen 1;have y2:=HJ.o.frozen 2;have y3:=HJ.o.frozen 3;have y4:=HJ.o.frozen 4;have y5:=HJ.o.frozen 5;have y6:=HJ.o.frozen 6;have y7:=HJ.o.frozen 7
 have y8:=HJ.o.frozen 8;go_wp2_with fail
 have hch:Chg 40 w.heap.size V5 (V5.setCell ⟨w.heap.size,5,none⟩ (.slice gB gn gd)):=Chg.cell HK.o (Nat.le_refl _) _ _;have hj2:=HJ.o.far (show w.heap.size+1≠w.heap.size by omega) (p:=⟨w.heap.size,5,none⟩) (.slice gB gn gd);refine bodyPost_ret (qi (a:=⟨w.heap.size+1,0,none⟩) rfl rfl (Bk.state_ (Bk.put9 hj2 _ _ _ _ _ _ _ _ _))) rfl ⟨⟨⟨bB,bn,bd⟩,⟨sB,sn,sd⟩,⟨rB,rn,rd⟩,⟨tB,tn,td⟩,⟨gB,gn,gd⟩⟩,rfl,?_,?_⟩
 ·have hst:StaO V5 w.heap.size ⟨cl,boxes,subs,rules,tombs,holds,nv,nt,nh⟩ ⟨⟨bB,bn,bd⟩,⟨sB,sn,sd⟩,⟨rB,rn,rd⟩,⟨tB,tn,td⟩,⟨gB,gn,gd⟩⟩:=⟨HP1.o,HP2.o,HP3.o,HP4.o,HP5.o⟩
  refine(hst.chg hch zdq).chg (Chg.of hj2 (zbh _ _ _ _ _ _ _ _ _ _ _) ?_) zdq;exact(Below.refl _ _).grown (zbh _ _ _ _ _ _ _ _ _ _ _) (Nat.le_trans HB.o.size hch.1.size) (fun q hq=>by injection hq with hq;omega)
 ·exact below_of' (HB.o.trans hch.1) (zbh _ _ _ _ _ _ _ _ _ _ _) (by omega) (Nat.le_refl _)
theorem z83 (w:World):Calls Tryz.prog 32 #[] w (GiveS14 zck w):=by
 go_enter Tryz.func32,Tryz.ntmps32
 go_wp2_with fail
 have HK:Hid (Bk ((w.alloc (.cells #[.int .i64 0,.slice (some ⟨w.heap.size+1,0,none⟩) 1 1,.slice none 0 0,.slice none 0 0,.slice none 0 0,.slice none 0 0,.int .i64 2,.int .i64 1,.int .i64 1] 40)).alloc (.cells #[.string je,.int .i64 1,.int .i64 1,.slice none 0 0] 76)) (w.heap.size+1) 76 #[.string je,.int .i64 1,.int .i64 1,.slice none 0 0]):=hiD (Bk.new2 _ _ _ _);have HX:Hid (Bk ((w.alloc (.cells #[.int .i64 0,.slice (some ⟨w.heap.size+1,0,none⟩) 1 1,.slice none 0 0,.slice none 0 0,.slice none 0 0,.slice none 0 0,.int .i64 2,.int .i64 1,.int .i64 1] 40)).alloc (.cells #[.string je,.int .i64 1,.int .i64 1,.slice none 0 0] 76)) w.heap.size 40 #[.int .i64 0,.slice (some ⟨w.heap.size+1,0,none⟩) 1 1,.slice none 0 0,.slice none 0 0,.slice none 0 0,.slice none 0 0,.int .i64 2,.int .i64 1,.int .i64 1]):=hiD ((Bk.new _ _ _).alloc _);have HBB:Hid (Below w.heap.size w ((w.alloc (.cells #[.int .i64 0,.slice (some ⟨w.heap.size+1,0,none⟩) 1 1,.slice none 0 0,.slice none 0 0,.slice none 0 0,.slice none 0 0,.int .i64 2,.int .i64 1,.int .i64 1] 40)).alloc (.cells #[.string je,.int .i64 1,.int .i64 1,.slice none 0 0] 76))):=hiD (((Below.refl _ _).alloc (Nat.le_refl _) _).alloc (by simp) _)
 change bodyPost _ _ _ _ _ ((w.alloc (.cells #[.int .i64 0,.slice (some ⟨w.heap.size+1,0,none⟩) 1 1,.slice none 0 0,.slice none 0 0,.slice none 0 0,.slice none 0 0,.int .i64 2,.int .i64 1,.int .i64 1] 40)).alloc (.cells #[.string je,.int .i64 1,.int .i64 1,.slice none 0 0] 76))
 generalize ((w.alloc (.cells #[.int .i64 0,.slice (some ⟨w.heap.size+1,0,none⟩) 1 1,.slice none 0 0,.slice none 0 0,.slice none 0 0,.slice none 0 0,.int .i64 2,.int .i64 1,.int .i64 1] 40)).alloc (.cells #[.string je,.int .i64 1,.int .i64 1,.slice none 0 0] 76))=W at *;refine bodyPost_ret (qi (a:=⟨w.heap.size,0,none⟩) rfl rfl (Bk.state_ HX.o)) rfl ⟨⟨⟨some ⟨w.heap.size+1,0,none⟩,1,1⟩,⟨none,0,0⟩,⟨none,0,0⟩,⟨none,0,0⟩,⟨none,0,0⟩⟩,rfl,?_,HBB.o⟩;refine⟨⟨[⟨⟨je,1,1,[]⟩,none,0,0⟩],⟨⟨rfl,.inr ⟨w.heap.size+1,1,#[.string je,.int .i64 1,.int .i64 1,.slice none 0 0],rfl,by omega,HK.o,Nat.le_refl _,by unfold maxLen;omega,rfl,rfl⟩⟩,rfl,zha⟩,fun x hx=>?_,rfl⟩,OwnK.nil zdp,OwnK.nil ziu,NestO.nil ziz,NestO.nil ziv⟩;rw[List.mem_singleton.1 hx];exact OwnM.nil
def AllLtS (l:List ByteArray)(u:ByteArray)(lo:Nat):Prop:=∀ t r,t<lo→l[t]?=some r→ltS r u
def NoneLtS (l:List ByteArray)(u:ByteArray)(hi:Nat):Prop:=∀ t r,hi≤t→l[t]?=some r→¬ ltS r u
theorem zl0 {l:List ByteArray}(h:l.Pairwise ltS){s t:Nat}{p q:ByteArray}(hst:s<t)(hp:l[s]?=some p)(hq:l[t]?=some q):ltS p q:=by
 rw[List.pairwise_iff_getElem] at h;obtain⟨h1,e1⟩:=List.getElem?_eq_some_iff.1 hp;obtain⟨h2,e2⟩:=List.getElem?_eq_some_iff.1 hq;have:=h s t h1 h2 hst
 rwa [e1,e2] at this
theorem AllLtS.up {l:List ByteArray}{u:ByteArray}{m:Nat}{x:ByteArray}(h:l.Pairwise ltS)(hx:l[m]?=some x)(hl:ltS x u):AllLtS l u (m+1):=by
 intro t r ht hr;rcases Nat.lt_or_ge t m with h1|h1
 ·exact zbp (zl0 h h1 hr hx) hl
 ·obtain rfl:t=m:=by omega
  rw[hx] at hr;cases hr;exact hl
theorem NoneLtS.down {l:List ByteArray}{u:ByteArray}{m:Nat}{x:ByteArray}(h:l.Pairwise ltS)(hx:l[m]?=some x)(hl:¬ ltS x u):NoneLtS l u m:=by
 intro t r ht hr hlt;rcases Nat.lt_or_ge m t with h1|h1
 ·exact hl (zbp (zl0 h h1 hx hr) hlt)
 ·obtain rfl:t=m:=by omega
  rw[hx] at hr;cases hr;exact hl hlt
theorem zs8 {l:List ByteArray}{u:ByteArray}{p:Nat}(h:l.Pairwise ltS)(h1:AllLtS l u p)(h2:NoneLtS l u p)(hu:u∈l):l[p]?=some u:=by
 obtain⟨q,hq⟩:=List.mem_iff_getElem?.1 hu;rcases Nat.lt_trichotomy q p with hqp|rfl|hqp
 ·exact absurd (h1 q u hqp hq) (zfl u)
 ·exact hq
 ·have hpl:p<l.length:=by have:=(List.getElem?_eq_some_iff.1 hq).1;omega
  have hp:l[p]?=some l[p]:=List.getElem?_eq_getElem hpl;exact absurd (zl0 h hqp hp hq) (h2 p _ (Nat.le_refl _) hp)
theorem zs9 {l:List ByteArray}{u:ByteArray}{p:Nat}(h:l.Pairwise ltS)(h1:AllLtS l u p)(h2:NoneLtS l u p)(hp:l[p]?≠some u):okPr (u∈l)=false :=
 zer fun hu=>hp (zs8 h h1 h2 hu)
def PlaceS (l:List ByteArray)(u:ByteArray)(w:World)(e:Ending)(w':World):Prop :=
 ∃ p:Nat,e=.returned (.tuple #[.int .i64 (p:Int),.bool (okPr (u∈l))])∧p≤l.length∧AllLtS l u p∧NoneLtS l u p∧Below w.heap.size w w'
theorem z84 (a b:ByteArray)(W:World):(binOp .lss 9 (.string a) (.string b)).run Tryz.prog W=.ok (.bool (decide (ltS a b))) W:=by
 rw[← zlg];rfl
theorem z85 (a:ByteArray)(w:World):Calls Tryz.prog 299 #[.string a] w fun e w'=>e=.returned (.bool false)∧w=w':=by
 go_enter Tryz.func299,Tryz.ntmps299
 go_wp2
 go_ret;exact⟨by first|rfl|simp,rfl⟩
theorem z86 (a:ByteArray)(w:World):Calls Tryz.prog 264 #[.string a] w fun e w'=>e=.returned (.bool false)∧w=w':=by
 go_enter Tryz.func264,Tryz.ntmps264
 go_wp2
 go_ret;exact⟨by first|rfl|simp,rfl⟩
theorem z87 (a b:ByteArray)(w:World):Calls Tryz.prog 263 #[.string a,.string b] w fun e w'=>e=.returned (.bool (decide (ltS a b)))∧w=w':=by
 have kq:=z84 a b;go_enter Tryz.func263,Tryz.ntmps263
 go_wp2_with fail
 refine(z85 a _).mono ?_;rintro e w1 ⟨rfl,rfl⟩;go_wp2_with fail
 go_ret;exact⟨ji (zlg a b),rfl⟩
theorem zta (A:Option Addr)(n c:Nat)(u:ByteArray)(l:List ByteArray)(w:World)(hl:StrsIn w w.heap.size A n l)(hn:n≤1000000)(hr:l.Pairwise ltS) :
 Calls Tryz.prog 200 #[.slice A n c,.string u] w (PlaceS l u w):=by
 have HL:=hiD hl;have HR:=hiD hr;have A0:Hid (AllLtS l u 0):=hiD (fun t r ht=>absurd ht (Nat.not_lt_zero _))
 have N0:Hid (NoneLtS l u n):=hiD (fun t r ht hr=>by
  have:=(List.getElem?_eq_some_iff.1 hr).1;have:=hl.len
  omega)
 clear hl hr;go_enter Tryz.func200,Tryz.ntmps200
 go_wp2_with fail
 go_loopw [7,8] (fun a b wx=>∃ lo hi:Nat,a=.int .i64 (lo:Int)∧b=.int .i64 (hi:Int)∧lo≤hi∧hi≤n∧Hid (AllLtS l u lo)∧Hid (NoneLtS l u hi)∧Below w.heap.size w wx) (fun a b _=>(intOf b).toNat-(intOf a).toNat)
 case atStart=>exact⟨0,n,rfl,rfl,Nat.zero_le _,Nat.le_refl _,A0,N0,Below.refl _ _⟩
 case round =>
  clear A0 N0;obtain⟨lo,hi,rfl,rfl,hlh,hin,HA,HN,hb⟩:=hrel;have HB:=hiD hb;clear hb;by_cases hlt:lo<hi
  ·obtain⟨b,o,x,rfl,hbb,hla,htk,hrow,-⟩:=(HL.o.below trueStays HB.o (Nat.le_refl _)).at_ (show(lo+hi) / 2<n by omega)
   have c0:=row1 hrow;rw[Nat.mul_one] at c0;have HUP:=hiD (fun h=>AllLtS.up (u:=u) HR.o hla h);have HDN:=hiD (fun h=>NoneLtS.down (u:=u) HR.o hla h);have hmn:(((lo+hi) / 2:Nat):Int)<(n:Int):=by omega
   have hm0:(0:Int)≤(((lo+hi) / 2:Nat):Int):=by omega
   clear hla htk hrow;go_wp2_with fail
   refine(z87 x u _).mono ?_;rintro e w3 ⟨rfl,rfl⟩;by_cases hs:ltS x u
   ·have HA2:=hiD (HUP.o hs)
    rw[decide_eq_true hs];clear hs;go_wp2_with fail
    go_roundw
    case rel=>exact⟨(lo+hi) / 2+1,hi,by go_num,rfl,by omega,hin,HA2,HN,HB.o⟩
    case measure=>simp[intOf];omega
   ·have HN2:=hiD (HDN.o hs)
    rw[decide_eq_false hs];clear hs;go_wp2_with fail
    go_roundw
    case rel=>exact⟨lo,(lo+hi) / 2,rfl,by go_num,by omega,by omega,HA,HN2,HB.o⟩
    case measure=>simp[intOf];omega
  ·obtain rfl:hi=lo:=by omega
   have hnlt:¬ (hi:Int)<(hi:Int):=by omega
   have HLE:Hid (hi≤l.length):=hiD (by rw[HL.o.len];exact hin);by_cases hn2:hi<n
   ·obtain⟨b,o,x,rfl,hbb,hla,htk,hrow,-⟩:=(HL.o.below trueStays HB.o (Nat.le_refl _)).at_ hn2
    have c0:=row1 hrow;rw[Nat.mul_one] at c0;have h0:(0:Int)≤(hi:Int):=by omega
    have hin2:(hi:Int)<(n:Int):=by omega
    by_cases hxu:x=u
    ·have HM:Hid (okPr (u∈l)=true):=hiD (zhc (by rw[← hxu];exact List.mem_of_getElem? hla))
     have hq:(x.toList == u.toList)=true:=by rw[zsq];exact decide_eq_true hxu
     clear hla htk hrow hxu;go_wp2_with fail
     go_ret2;exact⟨hi,by rw[HM.o]<;>rfl,HLE.o,HA.o,HN.o,HB.o⟩
    ·have HM:Hid (okPr (u∈l)=false):=hiD (zs9 HR.o HA.o HN.o (by rw[hla];exact fun e=>hxu (Option.some.inj e)))
     have hq:(x.toList == u.toList)=false:=z6d hxu;clear hla htk hrow hxu;go_wp2_with fail
     refine(z86 x _).mono ?_;rintro e w1 ⟨rfl,rfl⟩;go_wp2_with fail
     go_ret2;exact⟨hi,by rw[HM.o]<;>rfl,HLE.o,HA.o,HN.o,HB.o⟩
   ·have hin2:¬ (hi:Int)<(n:Int):=by omega
    have HM:Hid (okPr (u∈l)=false):=hiD (zs9 HR.o HA.o HN.o (by rw[List.getElem?_eq_none (by rw[HL.o.len];omega)];simp));go_wp2_with fail
    go_ret2;exact⟨hi,by rw[HM.o]<;>rfl,HLE.o,HA.o,HN.o,HB.o⟩
end Go.Proofs.YtmjjefnmabbgdaaGreatDoor
