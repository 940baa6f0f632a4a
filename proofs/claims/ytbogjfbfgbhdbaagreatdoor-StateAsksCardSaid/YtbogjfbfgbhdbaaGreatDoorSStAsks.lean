/-
 A part of the proof: see the last text.
-/
import Derived.Test.YtbogjfbfgbhdbaaGreatDoorSStAlM
import Derived.Test.YtbogjfbfgbhdbaaGreatDoorSStSm
import Derived.Test.YtbogjfbfgbhdbaaGreatDoorSStO
import Derived.Test.YtbogjfbfgbhdbaaGreatDoorSStTm
import Derived.Test.YtbogjfbfgbhdbaaGreatDoorSStG
import Derived.Deep.DeepCutAuto
import Derived.Deep.QuietTactic
import Derived.BigQuiet
import Derived.IntWalk
namespace Go.Proofs.YtbogjfbfgbhdbaaGreatDoor
open List renaming setIfInBounds_toArray → jA, set_cons_zero → jB, set_cons_succ → jC, getElem_toArray → jD, getElem_cons_zero → jE, getElem_cons_succ → jF
set_option linter.unusedVariables false
set_option linter.unusedSimpArgs false
open Go.RowKit
set_option linter.unusedVariables false
set_option linter.unusedSimpArgs false
theorem store_all14 {P : Program} {W : World} {g : Nat} {t : TypeId} {cur ds : Array Value} (h : Bk W g t cur) (hs : ds.size = cur.size) (h1 : ∀ v ∈ ds.toList, v.oneCell' = true) : (storeCells ⟨g, 0, none⟩ ds.toList).run P W = .ok () (W.setRow g ds) := by
 have := run_storeCells_at P g 0 t ds.toList 0 cur W h (by simp [hs]) h1
 rw [this]
 congr 2
 have e : cur.toList.take (0 + 0) ++ ds.toList ++ cur.toList.drop (0 + 0 + ds.toList.length) = ds.toList := by
  rw [Nat.add_zero, List.take_zero, List.nil_append, Nat.zero_add, List.drop_eq_nil_of_le (by simp [hs]), List.append_nil]
 rw [e, Array.toArray_toList]
theorem exec_load14 {P : Program} {o : Oper} {ρ : Operand → Value} {w : World} {ty : TypeId} {x : Operand} (ho : o.op = .load ty x) {b off : Nat} (hx : ρ x = .pointer (some ⟨b, off, none⟩)) {cs : Array Value} {d : TypeDesc} (hc : w.rangeAt b off cs.toList)
 (hu : P.underlying ty = some d) (hd : d.isRow = true) (hi : (P.info? ty).map (·.size) = some cs.size) : (execOp ρ o).run P w = .ok (.value (.agg cs)) w := by
 unfold execOp
 simp only [ho, hx, Instr.loadAt, Instr.sureAddr, Sem.run_bind, Sem.run_pure, Result.andThen_ok, run_loadVar_mid w b off ty cs.toList d hc hu hd (by rw [Array.length_toList]; exact hi), Array.toArray_toList]
theorem exec_store14 {P : Program} {o : Oper} {ρ : Operand → Value} {w : World} {ty : TypeId} {x y : Operand} (ho : o.op = .store ty x y) {g : Nat} (hx : ρ x = .pointer (some ⟨g, 0, none⟩)) {ds cur : Array Value} (hy : ρ y = .agg ds) {t : TypeId} (hg : Bk w g t cur) (hs : ds.size = cur.size)
 (hi : (P.info? ty).map (·.size) = some ds.size) (h1 : ∀ v ∈ ds.toList, v.oneCell' = true) : (execOp ρ o).run P w = .ok .skip (w.setRow g ds) := by
 cases hq : P.info? ty with
 | none => simp [hq] at hi
 | some i =>
   have hs' : ds.size = i.size := by simp [hq] at hi; omega
   unfold execOp
   simp only [ho, hx, hy, Instr.storeAt, Instr.sureAddr, Sem.run_bind, Sem.run_pure, Result.andThen_ok]
   simp [storeVar, sizeOf, typeInfo, hq, Value.cells, hs', store_all14 hg hs h1]
theorem size_sta14 : (Tryz.prog.info? 28).map (·.size) = some 9 := by kernel_rfl
theorem size_box14 : (Tryz.prog.info? 44).map (·.size) = some 4 := by kernel_rfl
theorem size_tmb14 : (Tryz.prog.info? 51).map (·.size) = some 7 := by kernel_rfl
theorem size_msg14 : (Tryz.prog.info? 49).map (·.size) = some 4 := by kernel_rfl
theorem bhA_one (h : Bh) : ∀ v ∈ (bhA h).toList, v.oneCell' = true := bhC_one h
theorem thA_one (h : Th) : ∀ v ∈ (thA h).toList, v.oneCell' = true := thC_one h
theorem stBox_s (s : Sta) (p : StaAt) (u : ByteArray) (w : World) (h : StaIn w w.heap.size s p) (hs : SmSta s) : Calls Tryz.prog 19 #[.agg (staA s p), .string u] w (GiveBx s.boxes u w) :=
 stBox_any s.clock s.nv s.nt s.nh p.bx.A p.sb.A p.ru.A p.tb.A p.ho.A p.bx.n p.bx.c p.sb.n p.sb.c p.ru.n p.ru.c p.tb.n p.tb.c p.ho.n p.ho.c s.boxes u w h.bx h.sz.1 hs.bx
theorem xsBox_s (s : Sta) (p : StaAt) (u : ByteArray) (w : World) (h : StaIn w w.heap.size s p) (hs : SmSta s) : Calls Tryz.prog 20 #[.agg (staA s p), .string u] w (GiveBx s.boxes u w) :=
 xsBox_any s.clock s.nv s.nt s.nh p.bx.A p.sb.A p.ru.A p.tb.A p.ho.A p.bx.n p.bx.c p.sb.n p.sb.c p.ru.n p.ru.c p.tb.n p.tb.c p.ho.n p.ho.c s.boxes u w h.bx h.sz.1 hs.bx
theorem stTomb_s (s : Sta) (p : StaAt) (u : Int) (w : World) (h : StaIn w w.heap.size s p) (hs : SmSta s) : Calls Tryz.prog 22 #[.agg (staA s p), .int .i64 u] w (GiveTm s.tombs u w) :=
 stTomb_any s.clock s.nv s.nt s.nh p.bx.A p.sb.A p.ru.A p.tb.A p.ho.A p.bx.n p.bx.c p.sb.n p.sb.c p.ru.n p.ru.c p.tb.n p.tb.c p.ho.n p.ho.c s.tombs u w h.tb h.sz.2.2.2.1 hs.tb
theorem xsTomb_s (s : Sta) (p : StaAt) (u : Int) (w : World) (h : StaIn w w.heap.size s p) (hs : SmSta s) : Calls Tryz.prog 23 #[.agg (staA s p), .int .i64 u] w (GiveTm s.tombs u w) :=
 xsTomb_any s.clock s.nv s.nt s.nh p.bx.A p.sb.A p.ru.A p.tb.A p.ho.A p.bx.n p.bx.c p.sb.n p.sb.c p.ru.n p.ru.c p.tb.n p.tb.c p.ho.n p.ho.c s.tombs u w h.tb h.sz.2.2.2.1 hs.tb
theorem boxG_small {l : List Bx} (hl : ∀ b ∈ l, b.msgs.length ≤ 100000 ∧ ∀ m ∈ b.msgs, m.body.length ≤ 100000) (u : ByteArray) : (boxG l u).msgs.length ≤ 100000 ∧ ∀ m ∈ (boxG l u).msgs, m.body.length ≤ 100000 := by
 by_cases h : boxN l u = 0
 ·rw [(boxG_none h).1]; exact ⟨Nat.zero_le _, fun m hm => by cases hm⟩
 ·have h1 : boxG l u = boxAt l u := if_neg h
  rw [h1]
  exact hl _ (boxAt_get h).2.2
theorem tombG_small {l : List Tmb} (hl : ∀ t ∈ l, t.msg.body.length ≤ 100000) (u : Int) : (tombG l u).msg.body.length ≤ 100000 := by
 by_cases h : tombN l u = 0
 ·rw [(tombG_none h).1]; exact Nat.zero_le _
 ·have h1 : tombG l u = l.getD (tombN l u - 1) noTmb := if_neg h
  rw [h1]
  by_cases hk : tombN l u - 1 < l.length
  ·rw [List.getD_eq_getElem?_getD, List.getElem?_eq_getElem hk]
   exact hl _ (List.getElem_mem _)
  ·rw [List.getD_eq_getElem?_getD, List.getElem?_eq_none (by omega)]
   exact Nat.zero_le _
theorem th_msg14 {w : World} {b : Nat} {x : Th} (h : Bk w b 51 (thA x)) : w.rangeAt b 3 (#[.int .i64 x.t.msg.uid, .int .i64 x.t.msg.flags, .int .i64 x.t.msg.date, .slice x.A x.n x.c] : Array Value).toList := fun j v hv => by
 rw [h.cell]
 match j, hv with
 | 0, hv => exact hv
 | 1, hv => exact hv
 | 2, hv => exact hv
 | 3, hv => exact hv
theorem stSame_s (s s' : Sta) (p p' : StaAt) (w : World) (h : StaIn w w.heap.size s p) (h' : StaIn w w.heap.size s' p') (hs : ∀ b ∈ s.boxes, b.msgs.length ≤ 100000) : Calls Tryz.prog 25 #[.agg (staA s p), .agg (staA s' p')] w (SaysB (decide (s = s')) w) := stSame_any s s' p p' w h h' hs
theorem xsSame_s (s s' : Sta) (p p' : StaAt) (w : World) (h : StaIn w w.heap.size s p) (h' : StaIn w w.heap.size s' p') (hs : ∀ b ∈ s.boxes, b.msgs.length ≤ 100000) : Calls Tryz.prog 15 #[.agg (staA s p), .agg (staA s' p')] w (SaysB (decide (s = s')) w) := xsSame_any s s' p p' w h h' hs
def GiveA14 (s : Sta) (w : World) (e : Ending) (w' : World) : Prop := ∃ p, e = .returned (.agg (staA s p)) ∧ StaO w' w.heap.size s p ∧ Below w.heap.size w w'
theorem stCopy_s (s : Sta) (p : StaAt) (w : World) (h : StaIn w w.heap.size s p) (hs : SmSta s) : Calls Tryz.prog 26 #[.agg (staA s p)] w (GiveA14 s w) := stCopy_any s p w h hs
theorem stNew_s (w : World) : Calls Tryz.prog 27 #[] w (GiveA14 staNew w) := stNew_any w
theorem xsNew_s (w : World) : Calls Tryz.prog 28 #[] w (GiveA14 staNew w) := xsNew_any w
def AsAt (w : World) (s s' : Sta) (p p' : StaAt) (W : World) : Prop := Bk W w.heap.size 28 (staA s p) ∧ Bk W (w.heap.size + 1) 28 (staA s' p') ∧ Below w.heap.size w W
theorem AsAt.next {w W W' : World} {s s' : Sta} {p p' : StaAt} (d : AsAt w s s' p p' W) (hb : Below W.heap.size W W') : AsAt w s s' p p' W' := ⟨d.1.below hb d.1.lt, d.2.1.below hb d.2.1.lt, d.2.2.trans (hb.mono d.2.2.size)⟩
def BxGot (W : World) (l : List Bx) (u : ByteArray) (b8 : Nat) (A8 : Option Addr) (n8 c8 : Nat) (W' : World) : Prop := Bk W' b8 44 (bhA ⟨boxG l u, A8, n8, c8⟩) ∧ OwnM W' W.heap.size A8 n8 c8 (boxG l u).msgs ∧ W.heap.size ≤ b8 ∧ Below W.heap.size W W'
theorem grownBy_setRow14 {w : World} {g : Nat} {t : TypeId} {cur : Array Value} (h : Bk w g t cur) (cs : Array Value) : w.grownBy (w.setRow g cs) (some g) := by
 have hb := below_setRow (Below.refl g w) (Nat.le_refl g) cs
 exact ⟨hb.os, hb.tape, hb.output, hb.size, fun k hk hne => setRow_other' w g k cs (fun e => hne (by rw [e]))⟩
theorem own_box14 {w : World} {base n c g : Nat} {t : TypeId} {A : Option Addr} {l : List Mg} {cs : Array Value} (h : OwnM w base A n c l) (hg : Bk w g t cs) (hne : t ≠ 49 ∧ t ≠ 5) (cs' : Array Value) : OwnM (w.setRow g cs') base A n c l := h.boxed (grownBy_setRow14 hg cs') hg hne
set_option maxRecDepth 100000 in
set_option maxHeartbeats 8000000 in
theorem stateAsks_walk (s s' : Sta) (p p' : StaAt) (q : Int) (w : World) (hs : StaIn w w.heap.size s p) (hs' : StaIn w w.heap.size s' p') (hK : Kinds w) :
 Calls Tryz.prog 4 #[.agg (staA s p), .agg (staA s' p'), .int .i64 q] w (SaysB true w) := by
 have hmx : Tryz.prog.follows .mixedOrders = true := by kernel_rfl
 have HS := Lib.hid hs
 have HS' := Lib.hid hs'
 have HK := Lib.hid hK
 clear hs hs' hK
 go_enter Tryz.func4, Tryz.ntmps4
 go_wp2_with fail
 refine calls_overE (fun W => AsAt w s s' p p' W) ⟨(Bk.new _ _ _).alloc _, Bk.new2 _ _ _ _, ((Below.refl _ _).alloc (Nat.le_refl _) _).alloc (by simp) _⟩ ?_
 rintro W h
 have Q := Lib.hid h
 clear h
 refine (alive14_any W (HK.out.below Q.out.2.2)).mono ?_
 rintro e W1 ⟨rfl, hb⟩
 have Q1 := Lib.hid (Q.out.next hb)
 clear hb Q
 go_wp2_with ((with_reducible show wpList _ _ _ (⟨some 18, _, _, _, _, _⟩ :: _) _ _); refine hold ?_)
 refine held (wpList_load_mid rfl 28 (.tmp 3) rfl w.heap.size 0 rfl _ _ Q1.out.1.range Tryz.underlying28 rfl (by kernel_rfl) ?_)
 go_wp2_with fail
 refine (xsGreat_any s p W1 (HS.out.later Q1.out.2.2)).mono ?_
 rintro e W2 ⟨g1, rfl, hg1, hb⟩
 have Q2 := Lib.hid (Q1.out.next hb)
 have HG1 := Lib.hid hg1
 clear hb hg1 Q1
 cases g1
 case true =>
  go_wp2_with fail
  go_ret
  exact ⟨rfl, Q2.out.2.2⟩
 have HSM := Lib.hid (HG1.out rfl)
 clear HG1
 go_wp2_with ((with_reducible show wpList _ _ _ (⟨some 21, _, _, _, _, _⟩ :: _) _ _); refine hold ?_)
 refine held (wpList_load_wanted (by rfl) 28 (.tmp 4) rfl (w.heap.size + 1) 0 rfl _ _ Q2.out.2.1.range Tryz.underlying28 rfl (by kernel_rfl) ?_)
 go_wp2_with fail
 refine (xsGreat_any s' p' W2 (HS'.out.later Q2.out.2.2)).mono ?_
 rintro e W3 ⟨g2, rfl, hg2, hb⟩
 have Q3 := Lib.hid (Q2.out.next hb)
 have HG2 := Lib.hid hg2
 clear hb hg2 Q2
 cases g2
 case true =>
  go_wp2_with fail
  go_ret
  exact ⟨rfl, Q3.out.2.2⟩
 have HSM' := Lib.hid (HG2.out rfl)
 clear HG2
 go_wp2_with fail
 obtain ⟨⟨bA', bn', bc'⟩, sb', ru', tb', ho'⟩ := p'
 have HBN : Hid (bn' ≤ 1000) := Lib.hid (by have h1 := HSM'.out.lens.1; have h2 := HS'.out.bx.len; simp only at h2; omega)
 go_loopw [7] (fun x7 wx => ∃ i : Nat, i ≤ bn' ∧ x7 = .int .i64 (i : Int) ∧ AsAt w s s' p ⟨⟨bA', bn', bc'⟩, sb', ru', tb', ho'⟩ wx) (fun x7 _ => bn' - (intOf x7).toNat)
 case atStart => exact ⟨0, Nat.zero_le _, rfl, Q3.out⟩
 case round =>
  obtain ⟨i, hi, rfl, hr⟩ := hrel
  obtain ⟨U, rfl⟩ : ∃ U, U = wr := ⟨_, rfl⟩
  have Q := Lib.hid hr
  have k1 : U.cell? ⟨w.heap.size + 1, 1, none⟩ = some (.slice bA' bn' bc') := hr.2.1.cell 1
  clear hr Q3
  by_cases hlt : i < bn'
  ·have hSI := HS'.out.later Q.out.2.2
   obtain ⟨gb, go, x, hA, hgb, hla, _, hrow, _⟩ := hSI.bx.at_ hlt
   simp only at hA
   subst hA
   obtain ⟨u, hu⟩ : ∃ u, x.b.name = u := ⟨_, rfl⟩
   have HR : Hid (U.cell? ⟨gb, go + i * 4, none⟩ = some (.string u)) := Lib.hid (by
    have h1 := hrow 0 (.string x.b.name) rfl
    rwa [Nat.add_zero, hu] at h1)
   have HGB := Lib.hid hgb
   have HI := Lib.hid (show i < bn' ∧ (0 : Int) ≤ (i : Int) ∧ (i : Int) < (bn' : Int) from ⟨hlt, by omega, by omega⟩)
   obtain ⟨is, his⟩ : ∃ is : Bool, decide (boxN s.boxes u ≠ 0) = is := ⟨_, rfl⟩
   have HIS := Lib.hid his
   have hi0 := HI.out.2.1
   have hi1 := HI.out.2.2
   clear hSI hgb hla hrow hu his
   go_upto_region 8 with (fail)
   go_cut [8, 9] (fun x8 x9 wx => ∃ (b8 : Nat) (A8 : Option Addr) (n8 c8 : Nat), x8 = .pointer (some ⟨b8, 0, none⟩) ∧ x9 = .bool is ∧ BxGot U s.boxes u b8 A8 n8 c8 wx)
   case first =>
    have hi0 := HI.out.2.1
    have hi1 := HI.out.2.2
    have hlt2 := HI.out.1
    go_wp2_with fail
    refine wp_region_held_drew (S := fun W' => Below U.heap.size U W') hmx (Below.refl _ _).drew (fun hHeld => ?_)
    generalize hW0 : U.drew = V0 at *
    clear hW0
    simp only [List.size_toArray, List.length_cons, List.length_nil, Nat.reduceAdd]
    refine wpAnyH_take (i := 0) (v := .agg (staA s p)) rfl (by kernel_rfl) (by kernel_rfl) (by kernel_rfl) (fun _ _ _ h => h) (Or.inl ⟨by rfl, fun w0 hC => exec_load14 rfl rfl (Q.out.1.below hC Q.out.1.lt).range Tryz.underlying28 rfl size_sta14⟩) hHeld ?_
    try simp only [Act.put, jA, jB, jC, jD, jE, jF]
    refine wpAnyH_take (i := 1) (v := .pointer (some ⟨w.heap.size + 1, 1, none⟩)) rfl (by kernel_rfl) (by kernel_rfl) (by kernel_rfl) (fun _ _ _ h => h) (Or.inl ⟨by rfl, fun w0 hC => by simp [execOp, Act.eval, Act.put, go_sem]⟩) hHeld ?_
    try simp only [Act.put, jA, jB, jC, jD, jE, jF]
    refine wpAnyH_take (i := 2) (v := .slice (some ⟨gb, go, none⟩) bn' bc') rfl (by kernel_rfl) (by kernel_rfl) (by kernel_rfl) (fun _ _ _ h => h) (Or.inl ⟨by rfl, fun w0 hC => by simp [execOp, Act.eval, Act.put, go_sem, (hC.cell (p := ⟨w.heap.size + 1, 1, none⟩) Q.out.2.1.lt).trans (Q.out.2.1.cell 1), staA]⟩) hHeld ?_
    try simp only [Act.put, jA, jB, jC, jD, jE, jF]
    refine wpAnyH_take (i := 3) (v := .int .i64 (i : Int)) rfl (by kernel_rfl) (by kernel_rfl) (by kernel_rfl) (fun _ _ _ h => h) (Or.inl ⟨by rfl, fun w0 hC => by simp [execOp, Act.eval, Act.put, go_sem]⟩) hHeld ?_
    try simp only [Act.put, jA, jB, jC, jD, jE, jF]
    refine wpAnyH_take (i := 4) (v := .pointer (some ⟨gb, go + i * 4, none⟩)) rfl (by kernel_rfl) (by kernel_rfl) (by kernel_rfl) (fun _ _ _ h => h) (Or.inl ⟨by rfl, fun w0 hC => by simp [execOp, Act.eval, Act.put, go_sem, hi0, hi1, hlt2]⟩) hHeld ?_
    try simp only [Act.put, jA, jB, jC, jD, jE, jF]
    refine wpAnyH_take (i := 5) (v := .pointer (some ⟨gb, go + i * 4, none⟩)) rfl (by kernel_rfl) (by kernel_rfl) (by kernel_rfl) (fun _ _ _ h => h) (Or.inl ⟨by rfl, fun w0 hC => by simp [execOp, Act.eval, Act.put, go_sem]⟩) hHeld ?_
    try simp only [Act.put, jA, jB, jC, jD, jE, jF]
    refine wpAnyH_take (i := 6) (v := .string u) rfl (by kernel_rfl) (by kernel_rfl) (by kernel_rfl) (fun _ _ _ h => h) (Or.inl ⟨by rfl, fun w0 hC => by simp [execOp, Act.eval, Act.put, go_sem, (hC.cell (p := ⟨gb, go + i * 4, none⟩) HGB.out).trans HR.out]⟩) hHeld ?_
    try simp only [Act.put, jA, jB, jC, jD, jE, jF]
    clear hi0 hi1 hlt2
    refine wpAnyH_ready (rs := [7, 11]) (by kernel_rfl) (by simp) (AllReadyH.cons rfl (fun K hK => ?_) (AllReadyH.cons rfl (fun K hK => ?_) AllReadyH.nil))
    ·rw [if_pos (by rfl)]
     go_wp2_with fail
     refine (stBox_s s p u V0 ((HS.out.later Q.out.2.2).below hHeld (Nat.le_refl _) |>.more hHeld.size) HSM.out).mono ?_
     rintro e V1 ⟨A8, n8, c8, rfl, ho, hbc⟩
     rw [HIS.out]
     have HO := Lib.hid (OwnM.from_ ho hHeld.size)
     have hS := hHeld.trans (hbc.mono hHeld.size)
     clear ho hbc hHeld
     refine hK.out _ _ hS (fun hHeld => ?_)
     clear hK K
     try simp only [Act.put, jA, jB, jC, jD, jE, jF]
     clear hS
     refine wpAnyH_take (i := 8) (v := .tuple #[.agg (bhA ⟨boxG s.boxes u, A8, n8, c8⟩), .bool is]) rfl (by kernel_rfl) (by kernel_rfl) (by kernel_rfl) (fun _ _ _ h => h) (Or.inl ⟨by rfl, fun w0 hC => by simp [execOp, Act.eval, Act.put, go_sem]⟩) hHeld ?_
     try simp only [Act.put, jA, jB, jC, jD, jE, jF]
     refine wpAnyH_take (i := 9) (v := .agg (bhA ⟨boxG s.boxes u, A8, n8, c8⟩)) rfl (by kernel_rfl) (by kernel_rfl) (by kernel_rfl) (fun _ _ _ h => h) (Or.inl ⟨by rfl, fun w0 hC => by simp [execOp, Act.eval, Act.put, go_sem]⟩) hHeld ?_
     try simp only [Act.put, jA, jB, jC, jD, jE, jF]
     refine wpAnyH_take (i := 10) (v := .bool is) rfl (by kernel_rfl) (by kernel_rfl) (by kernel_rfl) (fun _ _ _ h => h) (Or.inl ⟨by rfl, fun w0 hC => by simp [execOp, Act.eval, Act.put, go_sem]⟩) hHeld ?_
     try simp only [Act.put, jA, jB, jC, jD, jE, jF]
     refine wpAnyH_ready (rs := [11]) (by kernel_rfl) (by simp) (AllReadyH.cons rfl (fun K hK => ?_) AllReadyH.nil)
     rw [if_pos (by rfl)]
     go_wp2_with fail
     have HB8 : Hid (U.heap.size ≤ V1.heap.size) := Lib.hid hHeld.size
     refine k_over (fun W => Below U.heap.size U W ∧ Bk W V1.heap.size 44 #[.string ⟨#[]⟩, .int .i64 0, .int .i64 0, .slice none 0 0] ∧ OwnM W U.heap.size A8 n8 c8 (boxG s.boxes u).msgs) ⟨hHeld.alloc hHeld.size _, Bk.new _ _ _, HO.out.below ((Below.refl _ _).alloc (Nat.le_refl _) _)⟩ ?_
     obtain ⟨b8, hb8⟩ : ∃ b, V1.heap.size = b := ⟨_, rfl⟩
     rw [hb8] at HB8 ⊢
     clear hb8 hHeld HO
     rintro V2 ⟨hS, q2, q3⟩
     have K8 := Lib.hid q2
     have HO := Lib.hid q3
     clear q2 q3
     refine hK.out _ _ hS (fun hHeld => ?_)
     clear hK K
     try simp only [Act.put, jA, jB, jC, jD, jE, jF]
     clear hS
     refine wpAnyH_ready (rs := [12]) (by kernel_rfl) (by simp) (AllReadyH.cons rfl (fun K hK => ?_) AllReadyH.nil)
     rw [if_pos (by rfl)]
     have hS := below_setRow hHeld HB8.out (bhA ⟨boxG s.boxes u, A8, n8, c8⟩)
     have K8b := Lib.hid (K8.out.setRow_same (bhA ⟨boxG s.boxes u, A8, n8, c8⟩))
     have HOb := Lib.hid (own_box14 HO.out K8.out (by decide) (bhA ⟨boxG s.boxes u, A8, n8, c8⟩))
     refine wp_skip (exec_store14 (ds := bhA ⟨boxG s.boxes u, A8, n8, c8⟩) rfl rfl rfl K8.out rfl size_box14 (bhA_one _)) ?_
     clear hHeld K8 HO
     refine hK.out _ _ hS (fun hHeld => ?_)
     clear hK K
     try simp only [Act.put, jA, jB, jC, jD, jE, jF]
     clear hS
     refine wpAnyH_ready (rs := [13]) (by kernel_rfl) (by simp) (AllReadyH.cons rfl (fun K hK => ?_) AllReadyH.nil)
     rw [if_pos (by rfl)]
     go_wp2_with fail
     have hS := hHeld
     clear hHeld
     refine hK.out _ _ hS (fun hHeld => ?_)
     clear hK K
     try simp only [Act.put, jA, jB, jC, jD, jE, jF]
     clear hS
     refine wpAnyH_done (by kernel_rfl) ?_ _
     go_wp2_with fail
     go_meet
     exact ⟨b8, A8, n8, c8, rfl, rfl, K8b.out, HOb.out, HB8.out, hHeld⟩
    ·rw [if_pos (by rfl)]
     go_wp2_with fail
     have HB8 : Hid (U.heap.size ≤ V0.heap.size) := Lib.hid hHeld.size
     refine k_over (fun W => Below U.heap.size U W ∧ Bk W V0.heap.size 44 #[.string ⟨#[]⟩, .int .i64 0, .int .i64 0, .slice none 0 0]) ⟨hHeld.alloc hHeld.size _, Bk.new _ _ _⟩ ?_
     obtain ⟨b8, hb8⟩ : ∃ b, V0.heap.size = b := ⟨_, rfl⟩
     rw [hb8] at HB8 ⊢
     clear hb8 hHeld
     rintro V1 ⟨hS, q2⟩
     have K8a := Lib.hid q2
     clear q2
     refine hK.out _ _ hS (fun hHeld => ?_)
     clear hK K
     try simp only [Act.put, jA, jB, jC, jD, jE, jF]
     clear hS
     refine wpAnyH_ready (rs := [7]) (by kernel_rfl) (by simp) (AllReadyH.cons rfl (fun K hK => ?_) AllReadyH.nil)
     rw [if_pos (by rfl)]
     go_wp2_with fail
     refine (stBox_s s p u V1 ((HS.out.later Q.out.2.2).below hHeld (Nat.le_refl _) |>.more hHeld.size) HSM.out).mono ?_
     rintro e V2 ⟨A8, n8, c8, rfl, ho, hbc⟩
     rw [HIS.out]
     have HO := Lib.hid (OwnM.from_ ho hHeld.size)
     have hS := hHeld.trans (hbc.mono hHeld.size)
     have K8 := Lib.hid (K8a.out.below hbc K8a.out.lt)
     clear ho hbc hHeld K8a
     refine hK.out _ _ hS (fun hHeld => ?_)
     clear hK K
     try simp only [Act.put, jA, jB, jC, jD, jE, jF]
     clear hS
     refine wpAnyH_take (i := 8) (v := .tuple #[.agg (bhA ⟨boxG s.boxes u, A8, n8, c8⟩), .bool is]) rfl (by kernel_rfl) (by kernel_rfl) (by kernel_rfl) (fun _ _ _ h => h) (Or.inl ⟨by rfl, fun w0 hC => by simp [execOp, Act.eval, Act.put, go_sem]⟩) hHeld ?_
     try simp only [Act.put, jA, jB, jC, jD, jE, jF]
     refine wpAnyH_take (i := 9) (v := .agg (bhA ⟨boxG s.boxes u, A8, n8, c8⟩)) rfl (by kernel_rfl) (by kernel_rfl) (by kernel_rfl) (fun _ _ _ h => h) (Or.inl ⟨by rfl, fun w0 hC => by simp [execOp, Act.eval, Act.put, go_sem]⟩) hHeld ?_
     try simp only [Act.put, jA, jB, jC, jD, jE, jF]
     refine wpAnyH_take (i := 10) (v := .bool is) rfl (by kernel_rfl) (by kernel_rfl) (by kernel_rfl) (fun _ _ _ h => h) (Or.inl ⟨by rfl, fun w0 hC => by simp [execOp, Act.eval, Act.put, go_sem]⟩) hHeld ?_
     try simp only [Act.put, jA, jB, jC, jD, jE, jF]
     refine wpAnyH_ready (rs := [12]) (by kernel_rfl) (by simp) (AllReadyH.cons rfl (fun K hK => ?_) AllReadyH.nil)
     rw [if_pos (by rfl)]
     have hS := below_setRow hHeld HB8.out (bhA ⟨boxG s.boxes u, A8, n8, c8⟩)
     have K8b := Lib.hid (K8.out.setRow_same (bhA ⟨boxG s.boxes u, A8, n8, c8⟩))
     have HOb := Lib.hid (own_box14 HO.out K8.out (by decide) (bhA ⟨boxG s.boxes u, A8, n8, c8⟩))
     refine wp_skip (exec_store14 (ds := bhA ⟨boxG s.boxes u, A8, n8, c8⟩) rfl rfl rfl K8.out rfl size_box14 (bhA_one _)) ?_
     clear hHeld K8 HO
     refine hK.out _ _ hS (fun hHeld => ?_)
     clear hK K
     try simp only [Act.put, jA, jB, jC, jD, jE, jF]
     clear hS
     refine wpAnyH_ready (rs := [13]) (by kernel_rfl) (by simp) (AllReadyH.cons rfl (fun K hK => ?_) AllReadyH.nil)
     rw [if_pos (by rfl)]
     go_wp2_with fail
     have hS := hHeld
     clear hHeld
     refine hK.out _ _ hS (fun hHeld => ?_)
     clear hK K
     try simp only [Act.put, jA, jB, jC, jD, jE, jF]
     clear hS
     refine wpAnyH_done (by kernel_rfl) ?_ _
     go_wp2_with fail
     go_meet
     exact ⟨b8, A8, n8, c8, rfl, rfl, K8b.out, HOb.out, HB8.out, hHeld⟩
   case rest =>
   obtain ⟨b8, A8, n8, c8, rfl, rfl, hg⟩ := hcut
   generalize wc = U1 at *
   have G8 := Lib.hid hg
   clear hg
   have Q1 := Lib.hid (Q.out.next G8.out.2.2.2)
   have HR1 : Hid (U1.cell? ⟨gb, go + i * 4, none⟩ = some (.string u)) := Lib.hid ((G8.out.2.2.2.cell (p := ⟨gb, go + i * 4, none⟩) HGB.out).trans HR.out)
   have HGB1 : Hid (gb < U1.heap.size) := Lib.hid (Nat.lt_of_lt_of_le HGB.out G8.out.2.2.2.size)
   clear Q HR HGB k1
   have HR := HR1
   have HGB := HGB1
   clear HR1 HGB1
   go_upto_region 9 with (fail)
   go_cut [10, 11] (fun x8 x9 wx => ∃ (b8 : Nat) (A8 : Option Addr) (n8 c8 : Nat), x8 = .pointer (some ⟨b8, 0, none⟩) ∧ x9 = .bool is ∧ BxGot U1 s.boxes u b8 A8 n8 c8 wx)
   case first =>
    have hi0 := HI.out.2.1
    have hi1 := HI.out.2.2
    have hlt2 := HI.out.1
    go_wp2_with fail
    refine wp_region_held_drew (S := fun W' => Below U1.heap.size U1 W') hmx (Below.refl _ _).drew (fun hHeld => ?_)
    generalize hW0 : U1.drew = V0 at *
    clear hW0
    simp only [List.size_toArray, List.length_cons, List.length_nil, Nat.reduceAdd]
    refine wpAnyH_take (i := 0) (v := .agg (staA s p)) rfl (by kernel_rfl) (by kernel_rfl) (by kernel_rfl) (fun _ _ _ h => h) (Or.inl ⟨by rfl, fun w0 hC => exec_load14 rfl rfl (Q1.out.1.below hC Q1.out.1.lt).range Tryz.underlying28 rfl size_sta14⟩) hHeld ?_
    try simp only [Act.put, jA, jB, jC, jD, jE, jF]
    refine wpAnyH_take (i := 1) (v := .pointer (some ⟨w.heap.size + 1, 1, none⟩)) rfl (by kernel_rfl) (by kernel_rfl) (by kernel_rfl) (fun _ _ _ h => h) (Or.inl ⟨by rfl, fun w0 hC => by simp [execOp, Act.eval, Act.put, go_sem]⟩) hHeld ?_
    try simp only [Act.put, jA, jB, jC, jD, jE, jF]
    refine wpAnyH_take (i := 2) (v := .slice (some ⟨gb, go, none⟩) bn' bc') rfl (by kernel_rfl) (by kernel_rfl) (by kernel_rfl) (fun _ _ _ h => h) (Or.inl ⟨by rfl, fun w0 hC => by simp [execOp, Act.eval, Act.put, go_sem, (hC.cell (p := ⟨w.heap.size + 1, 1, none⟩) Q1.out.2.1.lt).trans (Q1.out.2.1.cell 1), staA]⟩) hHeld ?_
    try simp only [Act.put, jA, jB, jC, jD, jE, jF]
    refine wpAnyH_take (i := 3) (v := .int .i64 (i : Int)) rfl (by kernel_rfl) (by kernel_rfl) (by kernel_rfl) (fun _ _ _ h => h) (Or.inl ⟨by rfl, fun w0 hC => by simp [execOp, Act.eval, Act.put, go_sem]⟩) hHeld ?_
    try simp only [Act.put, jA, jB, jC, jD, jE, jF]
    refine wpAnyH_take (i := 4) (v := .pointer (some ⟨gb, go + i * 4, none⟩)) rfl (by kernel_rfl) (by kernel_rfl) (by kernel_rfl) (fun _ _ _ h => h) (Or.inl ⟨by rfl, fun w0 hC => by simp [execOp, Act.eval, Act.put, go_sem, hi0, hi1, hlt2]⟩) hHeld ?_
    try simp only [Act.put, jA, jB, jC, jD, jE, jF]
    refine wpAnyH_take (i := 5) (v := .pointer (some ⟨gb, go + i * 4, none⟩)) rfl (by kernel_rfl) (by kernel_rfl) (by kernel_rfl) (fun _ _ _ h => h) (Or.inl ⟨by rfl, fun w0 hC => by simp [execOp, Act.eval, Act.put, go_sem]⟩) hHeld ?_
    try simp only [Act.put, jA, jB, jC, jD, jE, jF]
    refine wpAnyH_take (i := 6) (v := .string u) rfl (by kernel_rfl) (by kernel_rfl) (by kernel_rfl) (fun _ _ _ h => h) (Or.inl ⟨by rfl, fun w0 hC => by simp [execOp, Act.eval, Act.put, go_sem, (hC.cell (p := ⟨gb, go + i * 4, none⟩) HGB.out).trans HR.out]⟩) hHeld ?_
    try simp only [Act.put, jA, jB, jC, jD, jE, jF]
    clear hi0 hi1 hlt2
    refine wpAnyH_ready (rs := [7, 11]) (by kernel_rfl) (by simp) (AllReadyH.cons rfl (fun K hK => ?_) (AllReadyH.cons rfl (fun K hK => ?_) AllReadyH.nil))
    ·rw [if_pos (by rfl)]
     go_wp2_with fail
     refine (xsBox_s s p u V0 ((HS.out.later Q1.out.2.2).below hHeld (Nat.le_refl _) |>.more hHeld.size) HSM.out).mono ?_
     rintro e V1 ⟨A8, n8, c8, rfl, ho, hbc⟩
     rw [HIS.out]
     have HO := Lib.hid (OwnM.from_ ho hHeld.size)
     have hS := hHeld.trans (hbc.mono hHeld.size)
     clear ho hbc hHeld
     refine hK.out _ _ hS (fun hHeld => ?_)
     clear hK K
     try simp only [Act.put, jA, jB, jC, jD, jE, jF]
     clear hS
     refine wpAnyH_take (i := 8) (v := .tuple #[.agg (bhA ⟨boxG s.boxes u, A8, n8, c8⟩), .bool is]) rfl (by kernel_rfl) (by kernel_rfl) (by kernel_rfl) (fun _ _ _ h => h) (Or.inl ⟨by rfl, fun w0 hC => by simp [execOp, Act.eval, Act.put, go_sem]⟩) hHeld ?_
     try simp only [Act.put, jA, jB, jC, jD, jE, jF]
     refine wpAnyH_take (i := 9) (v := .agg (bhA ⟨boxG s.boxes u, A8, n8, c8⟩)) rfl (by kernel_rfl) (by kernel_rfl) (by kernel_rfl) (fun _ _ _ h => h) (Or.inl ⟨by rfl, fun w0 hC => by simp [execOp, Act.eval, Act.put, go_sem]⟩) hHeld ?_
     try simp only [Act.put, jA, jB, jC, jD, jE, jF]
     refine wpAnyH_take (i := 10) (v := .bool is) rfl (by kernel_rfl) (by kernel_rfl) (by kernel_rfl) (fun _ _ _ h => h) (Or.inl ⟨by rfl, fun w0 hC => by simp [execOp, Act.eval, Act.put, go_sem]⟩) hHeld ?_
     try simp only [Act.put, jA, jB, jC, jD, jE, jF]
     refine wpAnyH_ready (rs := [11]) (by kernel_rfl) (by simp) (AllReadyH.cons rfl (fun K hK => ?_) AllReadyH.nil)
     rw [if_pos (by rfl)]
     go_wp2_with fail
     have HB8 : Hid (U1.heap.size ≤ V1.heap.size) := Lib.hid hHeld.size
     refine k_over (fun W => Below U1.heap.size U1 W ∧ Bk W V1.heap.size 44 #[.string ⟨#[]⟩, .int .i64 0, .int .i64 0, .slice none 0 0] ∧ OwnM W U1.heap.size A8 n8 c8 (boxG s.boxes u).msgs) ⟨hHeld.alloc hHeld.size _, Bk.new _ _ _, HO.out.below ((Below.refl _ _).alloc (Nat.le_refl _) _)⟩ ?_
     obtain ⟨b8, hb8⟩ : ∃ b, V1.heap.size = b := ⟨_, rfl⟩
     rw [hb8] at HB8 ⊢
     clear hb8 hHeld HO
     rintro V2 ⟨hS, q2, q3⟩
     have K8 := Lib.hid q2
     have HO := Lib.hid q3
     clear q2 q3
     refine hK.out _ _ hS (fun hHeld => ?_)
     clear hK K
     try simp only [Act.put, jA, jB, jC, jD, jE, jF]
     clear hS
     refine wpAnyH_ready (rs := [12]) (by kernel_rfl) (by simp) (AllReadyH.cons rfl (fun K hK => ?_) AllReadyH.nil)
     rw [if_pos (by rfl)]
     have hS := below_setRow hHeld HB8.out (bhA ⟨boxG s.boxes u, A8, n8, c8⟩)
     have K8b := Lib.hid (K8.out.setRow_same (bhA ⟨boxG s.boxes u, A8, n8, c8⟩))
     have HOb := Lib.hid (own_box14 HO.out K8.out (by decide) (bhA ⟨boxG s.boxes u, A8, n8, c8⟩))
     refine wp_skip (exec_store14 (ds := bhA ⟨boxG s.boxes u, A8, n8, c8⟩) rfl rfl rfl K8.out rfl size_box14 (bhA_one _)) ?_
     clear hHeld K8 HO
     refine hK.out _ _ hS (fun hHeld => ?_)
     clear hK K
     try simp only [Act.put, jA, jB, jC, jD, jE, jF]
     clear hS
     refine wpAnyH_ready (rs := [13]) (by kernel_rfl) (by simp) (AllReadyH.cons rfl (fun K hK => ?_) AllReadyH.nil)
     rw [if_pos (by rfl)]
     go_wp2_with fail
     have hS := hHeld
     clear hHeld
     refine hK.out _ _ hS (fun hHeld => ?_)
     clear hK K
     try simp only [Act.put, jA, jB, jC, jD, jE, jF]
     clear hS
     refine wpAnyH_done (by kernel_rfl) ?_ _
     go_wp2_with fail
     go_meet
     exact ⟨b8, A8, n8, c8, rfl, rfl, K8b.out, HOb.out, HB8.out, hHeld⟩
    ·rw [if_pos (by rfl)]
     go_wp2_with fail
     have HB8 : Hid (U1.heap.size ≤ V0.heap.size) := Lib.hid hHeld.size
     refine k_over (fun W => Below U1.heap.size U1 W ∧ Bk W V0.heap.size 44 #[.string ⟨#[]⟩, .int .i64 0, .int .i64 0, .slice none 0 0]) ⟨hHeld.alloc hHeld.size _, Bk.new _ _ _⟩ ?_
     obtain ⟨b8, hb8⟩ : ∃ b, V0.heap.size = b := ⟨_, rfl⟩
     rw [hb8] at HB8 ⊢
     clear hb8 hHeld
     rintro V1 ⟨hS, q2⟩
     have K8a := Lib.hid q2
     clear q2
     refine hK.out _ _ hS (fun hHeld => ?_)
     clear hK K
     try simp only [Act.put, jA, jB, jC, jD, jE, jF]
     clear hS
     refine wpAnyH_ready (rs := [7]) (by kernel_rfl) (by simp) (AllReadyH.cons rfl (fun K hK => ?_) AllReadyH.nil)
     rw [if_pos (by rfl)]
     go_wp2_with fail
     refine (xsBox_s s p u V1 ((HS.out.later Q1.out.2.2).below hHeld (Nat.le_refl _) |>.more hHeld.size) HSM.out).mono ?_
     rintro e V2 ⟨A8, n8, c8, rfl, ho, hbc⟩
     rw [HIS.out]
     have HO := Lib.hid (OwnM.from_ ho hHeld.size)
     have hS := hHeld.trans (hbc.mono hHeld.size)
     have K8 := Lib.hid (K8a.out.below hbc K8a.out.lt)
     clear ho hbc hHeld K8a
     refine hK.out _ _ hS (fun hHeld => ?_)
     clear hK K
     try simp only [Act.put, jA, jB, jC, jD, jE, jF]
     clear hS
     refine wpAnyH_take (i := 8) (v := .tuple #[.agg (bhA ⟨boxG s.boxes u, A8, n8, c8⟩), .bool is]) rfl (by kernel_rfl) (by kernel_rfl) (by kernel_rfl) (fun _ _ _ h => h) (Or.inl ⟨by rfl, fun w0 hC => by simp [execOp, Act.eval, Act.put, go_sem]⟩) hHeld ?_
     try simp only [Act.put, jA, jB, jC, jD, jE, jF]
     refine wpAnyH_take (i := 9) (v := .agg (bhA ⟨boxG s.boxes u, A8, n8, c8⟩)) rfl (by kernel_rfl) (by kernel_rfl) (by kernel_rfl) (fun _ _ _ h => h) (Or.inl ⟨by rfl, fun w0 hC => by simp [execOp, Act.eval, Act.put, go_sem]⟩) hHeld ?_
     try simp only [Act.put, jA, jB, jC, jD, jE, jF]
     refine wpAnyH_take (i := 10) (v := .bool is) rfl (by kernel_rfl) (by kernel_rfl) (by kernel_rfl) (fun _ _ _ h => h) (Or.inl ⟨by rfl, fun w0 hC => by simp [execOp, Act.eval, Act.put, go_sem]⟩) hHeld ?_
     try simp only [Act.put, jA, jB, jC, jD, jE, jF]
     refine wpAnyH_ready (rs := [12]) (by kernel_rfl) (by simp) (AllReadyH.cons rfl (fun K hK => ?_) AllReadyH.nil)
     rw [if_pos (by rfl)]
     have hS := below_setRow hHeld HB8.out (bhA ⟨boxG s.boxes u, A8, n8, c8⟩)
     have K8b := Lib.hid (K8.out.setRow_same (bhA ⟨boxG s.boxes u, A8, n8, c8⟩))
     have HOb := Lib.hid (own_box14 HO.out K8.out (by decide) (bhA ⟨boxG s.boxes u, A8, n8, c8⟩))
     refine wp_skip (exec_store14 (ds := bhA ⟨boxG s.boxes u, A8, n8, c8⟩) rfl rfl rfl K8.out rfl size_box14 (bhA_one _)) ?_
     clear hHeld K8 HO
     refine hK.out _ _ hS (fun hHeld => ?_)
     clear hK K
     try simp only [Act.put, jA, jB, jC, jD, jE, jF]
     clear hS
     refine wpAnyH_ready (rs := [13]) (by kernel_rfl) (by simp) (AllReadyH.cons rfl (fun K hK => ?_) AllReadyH.nil)
     rw [if_pos (by rfl)]
     go_wp2_with fail
     have hS := hHeld
     clear hHeld
     refine hK.out _ _ hS (fun hHeld => ?_)
     clear hK K
     try simp only [Act.put, jA, jB, jC, jD, jE, jF]
     clear hS
     refine wpAnyH_done (by kernel_rfl) ?_ _
     go_wp2_with fail
     go_meet
     exact ⟨b8, A8, n8, c8, rfl, rfl, K8b.out, HOb.out, HB8.out, hHeld⟩
   case rest =>
   obtain ⟨b10, A10, n10, c10, rfl, rfl, hg⟩ := hcut
   generalize wc = U2 at *
   have G10 := Lib.hid hg
   clear hg
   have Q2 := Lib.hid (Q1.out.next G10.out.2.2.2)
   have K8 := Lib.hid (G8.out.1.below G10.out.2.2.2 G8.out.1.lt)
   have O8 := Lib.hid (G8.out.2.1.below G10.out.2.2.2)
   have HBS := Lib.hid (boxG_small HSM.out.bx u)
   have CB := Lib.hid (x11same_any (boxG s.boxes u).name (boxG s.boxes u).valid (boxG s.boxes u).next A8 n8 c8 (boxG s.boxes u).msgs (boxG s.boxes u).name (boxG s.boxes u).valid (boxG s.boxes u).next A10 n10 c10 (boxG s.boxes u).msgs U2 (O8.out.msgs (fun m hm => Nat.le_trans (HBS.out.2 m hm) (by omega))) (G10.out.2.1.msgs (fun m hm => Nat.le_trans (HBS.out.2 m hm) (by omega))) (by have h1 := O8.out.len; have h2 := HBS.out.1; omega) (by have h1 := G10.out.2.1.len; have h2 := HBS.out.1; omega))
   rw [decide_eq_true rfl] at CB
   go_wp2_with ((with_reducible show wpList _ _ _ (⟨some 53, _, _, _, _, _⟩ :: _) _ _); refine hold ?_)
   refine held (wpList_load_mid rfl 44 (.tmp 8) rfl b8 0 rfl _ _ K8.out.range Tryz.underlying44 rfl (by kernel_rfl) ?_)
   refine wpList_load_mid rfl 44 (.tmp 10) rfl b10 0 rfl _ _ G10.out.1.range Tryz.underlying44 rfl (by kernel_rfl) ?_
   clear Q1 K8 O8 G8 G10 HR HGB
   go_wp2_with fail
   refine CB.out.mono ?_
   rintro e U3 ⟨rfl, hb⟩
   have Q3 := Lib.hid (Q2.out.next hb)
   have hbn := HBN.out
   clear hb Q2 CB
   cases is
   ·go_wp2_with fail
    go_roundw
    case rel => exact ⟨i + 1, HI.out.1, by go_num, Q3.out⟩
    case measure => simp [intOf]; have := HI.out.1; omega
   ·go_wp2_with fail
    go_roundw
    case rel => exact ⟨i + 1, HI.out.1, by go_num, Q3.out⟩
    case measure => simp [intOf]; have := HI.out.1; omega
  ·have hnl : ¬ (i : Int) < (bn' : Int) := by omega
   obtain ⟨tm, htm⟩ : ∃ tm, tombG s.tombs q = tm := ⟨_, rfl⟩
   obtain ⟨it, hit⟩ : ∃ it : Bool, decide (tombN s.tombs q ≠ 0) = it := ⟨_, rfl⟩
   have HTM := Lib.hid htm
   have HIT := Lib.hid hit
   have HTB : Hid (tm.msg.body.length ≤ 100000) := Lib.hid (by rw [← htm]; exact tombG_small HSM.out.tb q)
   clear htm hit
   go_wp2_with ((with_reducible show wpList _ _ _ (⟨some 63, _, _, _, _, _⟩ :: _) _ _); refine hold ?_)
   refine held (wpList_load_mid rfl 28 (.tmp 3) rfl w.heap.size 0 rfl _ _ Q.out.1.range Tryz.underlying28 rfl (by kernel_rfl) ?_)
   go_wp2_with fail
   refine (stTomb_s s p q U (HS.out.later Q.out.2.2) HSM.out).mono ?_
   rintro e T1 ⟨A12, n12, c12, rfl, ho, hb⟩
   rw [HTM.out, HIT.out]
   rw [HTM.out] at ho
   have R12 := Lib.hid (Q.out.next hb)
   have P12 := Lib.hid ho
   clear ho hb Q
   go_wp2_with ((with_reducible show wpList _ _ _ (⟨none, _, _, _, _, _⟩ :: _) _ _); refine hold ?_)
   refine held (wpList_store_wide rfl 51 (.tmp 12) (.tmp 66) rfl T1.heap.size 0 (thA ⟨tm, A12, n12, c12⟩) rfl rfl 51 #[.int .i64 0, .string ⟨#[]⟩, .int .i64 0, .int .i64 0, .int .i64 0, .int .i64 0, .slice none 0 0] (Bk.new T1 51 _) (Nat.le_refl _) size_tmb14 (thA_one _) ?_)
   intro T2 hw
   have hw' := hw.out
   rw [show (splice (#[.int .i64 0, .string ⟨#[]⟩, .int .i64 0, .int .i64 0, .int .i64 0, .int .i64 0, .slice none 0 0] : Array Value).toList 0 (thA ⟨tm, A12, n12, c12⟩).toList).toArray = thA ⟨tm, A12, n12, c12⟩ from rfl] at hw'
   have hb : Below T1.heap.size T1 T2 := by rw [hw']; exact below_setRow ((Below.refl _ _).alloc (Nat.le_refl _) _) (Nat.le_refl _) _
   have hk : Bk T2 T1.heap.size 51 (thA ⟨tm, A12, n12, c12⟩) := by rw [hw']; exact (Bk.new T1 51 _).setRow_same _
   have Q12 := Lib.hid (R12.out.next hb)
   have K12 := Lib.hid hk
   have O12 := Lib.hid (P12.out.below hb)
   obtain ⟨b12, hbn⟩ : ∃ b, T1.heap.size = b := ⟨_, rfl⟩
   rw [hbn] at K12 ⊢
   clear hb hk hw hw' hbn R12 P12
   go_wp2_with ((with_reducible show wpList _ _ _ (⟨some 69, _, _, _, _, _⟩ :: _) _ _); refine hold ?_)
   refine held (wpList_load_mid rfl 28 (.tmp 3) rfl w.heap.size 0 rfl _ _ Q12.out.1.range Tryz.underlying28 rfl (by kernel_rfl) ?_)
   go_wp2_with fail
   refine (xsTomb_s s p q T2 (HS.out.later Q12.out.2.2) HSM.out).mono ?_
   rintro e T3 ⟨A14, n14, c14, rfl, ho, hb⟩
   rw [HTM.out, HIT.out]
   rw [HTM.out] at ho
   have R14 := Lib.hid (Q12.out.next hb)
   have P14 := Lib.hid ho
   have K12b := Lib.hid (K12.out.below hb K12.out.lt)
   have O12b := Lib.hid (O12.out.below hb)
   clear ho hb Q12 K12 O12
   go_wp2_with ((with_reducible show wpList _ _ _ (⟨none, _, _, _, _, _⟩ :: _) _ _); refine hold ?_)
   refine held (wpList_store_wide rfl 51 (.tmp 14) (.tmp 72) rfl T3.heap.size 0 (thA ⟨tm, A14, n14, c14⟩) rfl rfl 51 #[.int .i64 0, .string ⟨#[]⟩, .int .i64 0, .int .i64 0, .int .i64 0, .int .i64 0, .slice none 0 0] (Bk.new T3 51 _) (Nat.le_refl _) size_tmb14 (thA_one _) ?_)
   intro T4 hw
   have hw' := hw.out
   rw [show (splice (#[.int .i64 0, .string ⟨#[]⟩, .int .i64 0, .int .i64 0, .int .i64 0, .int .i64 0, .slice none 0 0] : Array Value).toList 0 (thA ⟨tm, A14, n14, c14⟩).toList).toArray = thA ⟨tm, A14, n14, c14⟩ from rfl] at hw'
   have hb : Below T3.heap.size T3 T4 := by rw [hw']; exact below_setRow ((Below.refl _ _).alloc (Nat.le_refl _) _) (Nat.le_refl _) _
   have hk : Bk T4 T3.heap.size 51 (thA ⟨tm, A14, n14, c14⟩) := by rw [hw']; exact (Bk.new T3 51 _).setRow_same _
   have Q14 := Lib.hid (R14.out.next hb)
   have K14 := Lib.hid hk
   have O14 := Lib.hid (P14.out.below hb)
   have K12 := Lib.hid (K12b.out.below hb K12b.out.lt)
   have O12 := Lib.hid (O12b.out.below hb)
   obtain ⟨b14, hbn⟩ : ∃ b, T3.heap.size = b := ⟨_, rfl⟩
   rw [hbn] at K14 ⊢
   clear hb hk hw hw' hbn R14 P14 K12b O12b
   obtain ⟨z, hz⟩ : ∃ z : Bool, decide (s = s') = z := ⟨_, rfl⟩
   have HZ := Lib.hid hz
   clear hz
   have HMS : Hid (∀ b ∈ s.boxes, b.msgs.length ≤ 100000) := Lib.hid (fun b hb => (HSM.out.bx b hb).1)
   go_wp2_with fail
   refine wp_region_held_drew (S := fun W' => AsAt w s s' p ⟨⟨bA', bn', bc'⟩, sb', ru', tb', ho'⟩ W' ∧ Bk W' b12 51 (thA ⟨tm, A12, n12, c12⟩) ∧ Bk W' b14 51 (thA ⟨tm, A14, n14, c14⟩)) hmx ⟨Q14.out.next (Below.refl _ _).drew, K12.out.drew, K14.out.drew⟩ (fun hHeld => ?_)
   have E12 := Lib.hid (O12.out.below (Below.refl _ _).drew)
   have E14 := Lib.hid (O14.out.below (Below.refl _ _).drew)
   clear Q14 K12 K14 O12 O14
   generalize hW0 : T4.drew = V0 at *
   clear hW0
   simp only [List.size_toArray, List.length_cons, List.length_nil, Nat.reduceAdd]
   refine wpAnyH_take (i := 0) (v := .pointer (some ⟨b12, 0, none⟩)) rfl (by kernel_rfl) (by kernel_rfl) (by kernel_rfl) (fun _ _ _ h => h) (Or.inl ⟨by rfl, fun w0 hC => by simp [execOp, Act.eval, Act.put, go_sem]⟩) hHeld ?_
   try simp only [Act.put, jA, jB, jC, jD, jE, jF]
   refine wpAnyH_take (i := 1) (v := .int .i64 tm.id) rfl (by kernel_rfl) (by kernel_rfl) (by kernel_rfl) (fun _ _ _ h => h) (Or.inl ⟨by rfl, fun w0 hC => by simp [execOp, Act.eval, Act.put, go_sem, (show w0.cell? ⟨b12, 0, none⟩ = some (.int .i64 tm.id) from hC.2.1.cell 0)]⟩) hHeld ?_
   try simp only [Act.put, jA, jB, jC, jD, jE, jF]
   refine wpAnyH_take (i := 2) (v := .pointer (some ⟨b14, 0, none⟩)) rfl (by kernel_rfl) (by kernel_rfl) (by kernel_rfl) (fun _ _ _ h => h) (Or.inl ⟨by rfl, fun w0 hC => by simp [execOp, Act.eval, Act.put, go_sem]⟩) hHeld ?_
   try simp only [Act.put, jA, jB, jC, jD, jE, jF]
   refine wpAnyH_take (i := 3) (v := .int .i64 tm.id) rfl (by kernel_rfl) (by kernel_rfl) (by kernel_rfl) (fun _ _ _ h => h) (Or.inl ⟨by rfl, fun w0 hC => by simp [execOp, Act.eval, Act.put, go_sem, (show w0.cell? ⟨b14, 0, none⟩ = some (.int .i64 tm.id) from hC.2.2.cell 0)]⟩) hHeld ?_
   try simp only [Act.put, jA, jB, jC, jD, jE, jF]
   refine wpAnyH_take (i := 4) (v := .bool true) rfl (by kernel_rfl) (by kernel_rfl) (by kernel_rfl) (fun _ _ _ h => h) (Or.inl ⟨by rfl, fun w0 hC => by simp [execOp, Act.eval, Act.put, go_sem]⟩) hHeld ?_
   try simp only [Act.put, jA, jB, jC, jD, jE, jF]
   refine wpAnyH_take (i := 5) (v := .bool true) rfl (by kernel_rfl) (by kernel_rfl) (by kernel_rfl) (fun _ _ _ h => h) (Or.inl ⟨by rfl, fun w0 hC => by simp [execOp, Act.eval, Act.put, go_sem]⟩) hHeld ?_
   try simp only [Act.put, jA, jB, jC, jD, jE, jF]
   refine wpAnyH_take (i := 6) (v := .pointer (some ⟨b12, 1, none⟩)) rfl (by kernel_rfl) (by kernel_rfl) (by kernel_rfl) (fun _ _ _ h => h) (Or.inl ⟨by rfl, fun w0 hC => by simp [execOp, Act.eval, Act.put, go_sem]⟩) hHeld ?_
   try simp only [Act.put, jA, jB, jC, jD, jE, jF]
   refine wpAnyH_take (i := 7) (v := .string tm.box) rfl (by kernel_rfl) (by kernel_rfl) (by kernel_rfl) (fun _ _ _ h => h) (Or.inl ⟨by rfl, fun w0 hC => by simp [execOp, Act.eval, Act.put, go_sem, (show w0.cell? ⟨b12, 1, none⟩ = some (.string tm.box) from hC.2.1.cell 1)]⟩) hHeld ?_
   try simp only [Act.put, jA, jB, jC, jD, jE, jF]
   refine wpAnyH_take (i := 8) (v := .pointer (some ⟨b14, 1, none⟩)) rfl (by kernel_rfl) (by kernel_rfl) (by kernel_rfl) (fun _ _ _ h => h) (Or.inl ⟨by rfl, fun w0 hC => by simp [execOp, Act.eval, Act.put, go_sem]⟩) hHeld ?_
   try simp only [Act.put, jA, jB, jC, jD, jE, jF]
   refine wpAnyH_take (i := 9) (v := .string tm.box) rfl (by kernel_rfl) (by kernel_rfl) (by kernel_rfl) (fun _ _ _ h => h) (Or.inl ⟨by rfl, fun w0 hC => by simp [execOp, Act.eval, Act.put, go_sem, (show w0.cell? ⟨b14, 1, none⟩ = some (.string tm.box) from hC.2.2.cell 1)]⟩) hHeld ?_
   try simp only [Act.put, jA, jB, jC, jD, jE, jF]
   refine wpAnyH_take (i := 10) (v := .bool true) rfl (by kernel_rfl) (by kernel_rfl) (by kernel_rfl) (fun _ _ _ h => h) (Or.inl ⟨by rfl, fun w0 hC => by simp [execOp, Act.eval, Act.put, go_sem]⟩) hHeld ?_
   try simp only [Act.put, jA, jB, jC, jD, jE, jF]
   refine wpAnyH_take (i := 11) (v := .bool true) rfl (by kernel_rfl) (by kernel_rfl) (by kernel_rfl) (fun _ _ _ h => h) (Or.inl ⟨by rfl, fun w0 hC => by simp [execOp, Act.eval, Act.put, go_sem]⟩) hHeld ?_
   try simp only [Act.put, jA, jB, jC, jD, jE, jF]
   refine wpAnyH_take (i := 12) (v := .bool true) rfl (by kernel_rfl) (by kernel_rfl) (by kernel_rfl) (fun _ _ _ h => h) (Or.inl ⟨by rfl, fun w0 hC => by simp [execOp, Act.eval, Act.put, go_sem]⟩) hHeld ?_
   try simp only [Act.put, jA, jB, jC, jD, jE, jF]
   refine wpAnyH_take (i := 13) (v := .pointer (some ⟨b12, 2, none⟩)) rfl (by kernel_rfl) (by kernel_rfl) (by kernel_rfl) (fun _ _ _ h => h) (Or.inl ⟨by rfl, fun w0 hC => by simp [execOp, Act.eval, Act.put, go_sem]⟩) hHeld ?_
   try simp only [Act.put, jA, jB, jC, jD, jE, jF]
   refine wpAnyH_take (i := 14) (v := .int .i64 tm.at_) rfl (by kernel_rfl) (by kernel_rfl) (by kernel_rfl) (fun _ _ _ h => h) (Or.inl ⟨by rfl, fun w0 hC => by simp [execOp, Act.eval, Act.put, go_sem, (show w0.cell? ⟨b12, 2, none⟩ = some (.int .i64 tm.at_) from hC.2.1.cell 2)]⟩) hHeld ?_
   try simp only [Act.put, jA, jB, jC, jD, jE, jF]
   refine wpAnyH_take (i := 15) (v := .pointer (some ⟨b14, 2, none⟩)) rfl (by kernel_rfl) (by kernel_rfl) (by kernel_rfl) (fun _ _ _ h => h) (Or.inl ⟨by rfl, fun w0 hC => by simp [execOp, Act.eval, Act.put, go_sem]⟩) hHeld ?_
   try simp only [Act.put, jA, jB, jC, jD, jE, jF]
   refine wpAnyH_take (i := 16) (v := .int .i64 tm.at_) rfl (by kernel_rfl) (by kernel_rfl) (by kernel_rfl) (fun _ _ _ h => h) (Or.inl ⟨by rfl, fun w0 hC => by simp [execOp, Act.eval, Act.put, go_sem, (show w0.cell? ⟨b14, 2, none⟩ = some (.int .i64 tm.at_) from hC.2.2.cell 2)]⟩) hHeld ?_
   try simp only [Act.put, jA, jB, jC, jD, jE, jF]
   refine wpAnyH_take (i := 17) (v := .bool true) rfl (by kernel_rfl) (by kernel_rfl) (by kernel_rfl) (fun _ _ _ h => h) (Or.inl ⟨by rfl, fun w0 hC => by simp [execOp, Act.eval, Act.put, go_sem]⟩) hHeld ?_
   try simp only [Act.put, jA, jB, jC, jD, jE, jF]
   refine wpAnyH_take (i := 18) (v := .bool true) rfl (by kernel_rfl) (by kernel_rfl) (by kernel_rfl) (fun _ _ _ h => h) (Or.inl ⟨by rfl, fun w0 hC => by simp [execOp, Act.eval, Act.put, go_sem]⟩) hHeld ?_
   try simp only [Act.put, jA, jB, jC, jD, jE, jF]
   refine wpAnyH_take (i := 19) (v := .bool true) rfl (by kernel_rfl) (by kernel_rfl) (by kernel_rfl) (fun _ _ _ h => h) (Or.inl ⟨by rfl, fun w0 hC => by simp [execOp, Act.eval, Act.put, go_sem]⟩) hHeld ?_
   try simp only [Act.put, jA, jB, jC, jD, jE, jF]
   refine wpAnyH_take (i := 20) (v := .pointer (some ⟨b12, 3, none⟩)) rfl (by kernel_rfl) (by kernel_rfl) (by kernel_rfl) (fun _ _ _ h => h) (Or.inl ⟨by rfl, fun w0 hC => by simp [execOp, Act.eval, Act.put, go_sem]⟩) hHeld ?_
   try simp only [Act.put, jA, jB, jC, jD, jE, jF]
   refine wpAnyH_take (i := 21) (v := .agg #[.int .i64 tm.msg.uid, .int .i64 tm.msg.flags, .int .i64 tm.msg.date, .slice A12 n12 c12]) rfl (by kernel_rfl) (by kernel_rfl) (by kernel_rfl) (fun _ _ _ h => h) (Or.inl ⟨by rfl, fun w0 hC => exec_load14 rfl rfl (th_msg14 hC.2.1) Tryz.underlying49 rfl size_msg14⟩) hHeld ?_
   try simp only [Act.put, jA, jB, jC, jD, jE, jF]
   refine wpAnyH_take (i := 22) (v := .pointer (some ⟨b14, 3, none⟩)) rfl (by kernel_rfl) (by kernel_rfl) (by kernel_rfl) (fun _ _ _ h => h) (Or.inl ⟨by rfl, fun w0 hC => by simp [execOp, Act.eval, Act.put, go_sem]⟩) hHeld ?_
   try simp only [Act.put, jA, jB, jC, jD, jE, jF]
   refine wpAnyH_take (i := 23) (v := .agg #[.int .i64 tm.msg.uid, .int .i64 tm.msg.flags, .int .i64 tm.msg.date, .slice A14 n14 c14]) rfl (by kernel_rfl) (by kernel_rfl) (by kernel_rfl) (fun _ _ _ h => h) (Or.inl ⟨by rfl, fun w0 hC => exec_load14 rfl rfl (th_msg14 hC.2.2) Tryz.underlying49 rfl size_msg14⟩) hHeld ?_
   try simp only [Act.put, jA, jB, jC, jD, jE, jF]
   refine wpAnyH_ready (rs := [24]) (by kernel_rfl) (by simp) (AllReadyH.cons rfl (fun K hK => ?_) AllReadyH.nil)
   rw [if_pos (by rfl)]
   go_wp2_with fail
   have CM := Lib.hid (x11sameMsg_any tm.msg.uid tm.msg.flags tm.msg.date A12 n12 c12 tm.msg.body tm.msg.uid tm.msg.flags tm.msg.date A14 n14 c14 tm.msg.body V0 E12.out.bytes E14.out.bytes)
   rw [decide_eq_true rfl] at CM
   refine CM.out.mono ?_
   rintro e V1 ⟨rfl, hw⟩
   have hbc : Below V0.heap.size V0 V1 := by rw [hw]; exact ((Below.refl _ _).alloc (Nat.le_refl _) _).alloc (by simp) _
   clear CM hw
   have hS := And.intro (hHeld.1.next hbc) (And.intro (hHeld.2.1.below hbc hHeld.2.1.lt) (hHeld.2.2.below hbc hHeld.2.2.lt))
   clear E12 E14
   clear hHeld hbc
   refine hK.out _ _ hS (fun hHeld => ?_)
   clear hK K
   try simp only [Act.put, jA, jB, jC, jD, jE, jF]
   clear hS
   refine wpAnyH_take (i := 25) (v := .bool true) rfl (by kernel_rfl) (by kernel_rfl) (by kernel_rfl) (fun _ _ _ h => h) (Or.inl ⟨by rfl, fun w0 hC => by simp [execOp, Act.eval, Act.put, go_sem]⟩) hHeld ?_
   try simp only [Act.put, jA, jB, jC, jD, jE, jF]
   refine wpAnyH_take (i := 26) (v := .bool true) rfl (by kernel_rfl) (by kernel_rfl) (by kernel_rfl) (fun _ _ _ h => h) (Or.inl ⟨by rfl, fun w0 hC => by simp [execOp, Act.eval, Act.put, go_sem]⟩) hHeld ?_
   try simp only [Act.put, jA, jB, jC, jD, jE, jF]
   refine wpAnyH_take (i := 27) (v := .bool it) rfl (by kernel_rfl) (by kernel_rfl) (by kernel_rfl) (fun _ _ _ h => h) (Or.inl ⟨by rfl, fun w0 hC => by simp [execOp, Act.eval, Act.put, go_sem]⟩) hHeld ?_
   try simp only [Act.put, jA, jB, jC, jD, jE, jF]
   refine wpAnyH_take (i := 28) (v := .bool it) rfl (by kernel_rfl) (by kernel_rfl) (by kernel_rfl) (fun _ _ _ h => h) (Or.inl ⟨by rfl, fun w0 hC => by simp [execOp, Act.eval, Act.put, go_sem]⟩) hHeld ?_
   try simp only [Act.put, jA, jB, jC, jD, jE, jF]
   refine wpAnyH_take (i := 29) (v := .bool true) rfl (by kernel_rfl) (by kernel_rfl) (by kernel_rfl) (fun _ _ _ h => h) (Or.inl ⟨by rfl, fun w0 hC => by simp [execOp, Act.eval, Act.put, go_sem]⟩) hHeld ?_
   try simp only [Act.put, jA, jB, jC, jD, jE, jF]
   refine wpAnyH_take (i := 30) (v := .bool true) rfl (by kernel_rfl) (by kernel_rfl) (by kernel_rfl) (fun _ _ _ h => h) (Or.inl ⟨by rfl, fun w0 hC => by simp [execOp, Act.eval, Act.put, go_sem]⟩) hHeld ?_
   try simp only [Act.put, jA, jB, jC, jD, jE, jF]
   refine wpAnyH_take (i := 31) (v := .bool true) rfl (by kernel_rfl) (by kernel_rfl) (by kernel_rfl) (fun _ _ _ h => h) (Or.inl ⟨by rfl, fun w0 hC => by simp [execOp, Act.eval, Act.put, go_sem]⟩) hHeld ?_
   try simp only [Act.put, jA, jB, jC, jD, jE, jF]
   refine wpAnyH_take (i := 32) (v := .agg (staA s p)) rfl (by kernel_rfl) (by kernel_rfl) (by kernel_rfl) (fun _ _ _ h => h) (Or.inl ⟨by rfl, fun w0 hC => exec_load14 rfl rfl hC.1.1.range Tryz.underlying28 rfl size_sta14⟩) hHeld ?_
   try simp only [Act.put, jA, jB, jC, jD, jE, jF]
   refine wpAnyH_take (i := 33) (v := .agg (staA s' ⟨⟨bA', bn', bc'⟩, sb', ru', tb', ho'⟩)) rfl (by kernel_rfl) (by kernel_rfl) (by kernel_rfl) (fun _ _ _ h => h) (Or.inl ⟨by rfl, fun w0 hC => exec_load14 rfl rfl hC.1.2.1.range Tryz.underlying28 rfl size_sta14⟩) hHeld ?_
   try simp only [Act.put, jA, jB, jC, jD, jE, jF]
   refine wpAnyH_take (i := 35) (v := .agg (staA s p)) rfl (by kernel_rfl) (by kernel_rfl) (by kernel_rfl) (fun _ _ _ h => h) (Or.inl ⟨by rfl, fun w0 hC => exec_load14 rfl rfl hC.1.1.range Tryz.underlying28 rfl size_sta14⟩) hHeld ?_
   try simp only [Act.put, jA, jB, jC, jD, jE, jF]
   refine wpAnyH_take (i := 36) (v := .agg (staA s' ⟨⟨bA', bn', bc'⟩, sb', ru', tb', ho'⟩)) rfl (by kernel_rfl) (by kernel_rfl) (by kernel_rfl) (fun _ _ _ h => h) (Or.inl ⟨by rfl, fun w0 hC => exec_load14 rfl rfl hC.1.2.1.range Tryz.underlying28 rfl size_sta14⟩) hHeld ?_
   try simp only [Act.put, jA, jB, jC, jD, jE, jF]
   refine wpAnyH_ready (rs := [34]) (by kernel_rfl) (by simp) (AllReadyH.cons rfl (fun K hK => ?_) AllReadyH.nil)
   rw [if_pos (by rfl)]
   go_wp2_with fail
   refine (stSame_s s s' p _ V1 (HS.out.later hHeld.1.2.2) (HS'.out.later hHeld.1.2.2) HMS.out).mono ?_
   rintro e V2 ⟨rfl, hbc⟩
   rw [HZ.out]
   have hS := And.intro (hHeld.1.next hbc) (And.intro (hHeld.2.1.below hbc hHeld.2.1.lt) (hHeld.2.2.below hbc hHeld.2.2.lt))
   clear hHeld hbc
   refine hK.out _ _ hS (fun hHeld => ?_)
   clear hK K
   try simp only [Act.put, jA, jB, jC, jD, jE, jF]
   clear hS
   refine wpAnyH_ready (rs := [37]) (by kernel_rfl) (by simp) (AllReadyH.cons rfl (fun K hK => ?_) AllReadyH.nil)
   rw [if_pos (by rfl)]
   go_wp2_with fail
   refine (xsSame_s s s' p _ V2 (HS.out.later hHeld.1.2.2) (HS'.out.later hHeld.1.2.2) HMS.out).mono ?_
   rintro e V3 ⟨rfl, hbc⟩
   rw [HZ.out]
   have hS := And.intro (hHeld.1.next hbc) (And.intro (hHeld.2.1.below hbc hHeld.2.1.lt) (hHeld.2.2.below hbc hHeld.2.2.lt))
   clear hHeld hbc
   refine hK.out _ _ hS (fun hHeld => ?_)
   clear hK K
   try simp only [Act.put, jA, jB, jC, jD, jE, jF]
   clear hS
   refine wpAnyH_take (i := 38) (v := .bool true) rfl (by kernel_rfl) (by kernel_rfl) (by kernel_rfl) (fun _ _ _ h => h) (Or.inl ⟨by rfl, fun w0 hC => by simp [execOp, Act.eval, Act.put, go_sem]⟩) hHeld ?_
   try simp only [Act.put, jA, jB, jC, jD, jE, jF]
   refine wpAnyH_take (i := 39) (v := .bool true) rfl (by kernel_rfl) (by kernel_rfl) (by kernel_rfl) (fun _ _ _ h => h) (Or.inl ⟨by rfl, fun w0 hC => by simp [execOp, Act.eval, Act.put, go_sem]⟩) hHeld ?_
   try simp only [Act.put, jA, jB, jC, jD, jE, jF]
   refine wpAnyH_take (i := 40) (v := .bool true) rfl (by kernel_rfl) (by kernel_rfl) (by kernel_rfl) (fun _ _ _ h => h) (Or.inl ⟨by rfl, fun w0 hC => by simp [execOp, Act.eval, Act.put, go_sem]⟩) hHeld ?_
   try simp only [Act.put, jA, jB, jC, jD, jE, jF]
   refine wpAnyH_take (i := 41) (v := .agg (staA s p)) rfl (by kernel_rfl) (by kernel_rfl) (by kernel_rfl) (fun _ _ _ h => h) (Or.inl ⟨by rfl, fun w0 hC => exec_load14 rfl rfl hC.1.1.range Tryz.underlying28 rfl size_sta14⟩) hHeld ?_
   try simp only [Act.put, jA, jB, jC, jD, jE, jF]
   refine wpAnyH_take (i := 43) (v := .agg (staA s p)) rfl (by kernel_rfl) (by kernel_rfl) (by kernel_rfl) (fun _ _ _ h => h) (Or.inl ⟨by rfl, fun w0 hC => exec_load14 rfl rfl hC.1.1.range Tryz.underlying28 rfl size_sta14⟩) hHeld ?_
   try simp only [Act.put, jA, jB, jC, jD, jE, jF]
   refine wpAnyH_ready (rs := [42]) (by kernel_rfl) (by simp) (AllReadyH.cons rfl (fun K hK => ?_) AllReadyH.nil)
   rw [if_pos (by rfl)]
   go_wp2_with fail
   refine (stCopy_s s p V3 (HS.out.later hHeld.1.2.2) HSM.out).mono ?_
   rintro e V4 ⟨p2, rfl, ho2, hbc⟩
   have O2 := Lib.hid (ho2.in_ HSM.out hbc.size)
   clear ho2
   have hS := And.intro (hHeld.1.next hbc) (And.intro (hHeld.2.1.below hbc hHeld.2.1.lt) (hHeld.2.2.below hbc hHeld.2.2.lt))
   clear hHeld hbc
   refine hK.out _ _ hS (fun hHeld => ?_)
   clear hK K
   try simp only [Act.put, jA, jB, jC, jD, jE, jF]
   clear hS
   refine wpAnyH_ready (rs := [44]) (by kernel_rfl) (by simp) (AllReadyH.cons rfl (fun K hK => ?_) AllReadyH.nil)
   rw [if_pos (by rfl)]
   go_wp2_with fail
   refine (xsSame_s s s p2 p V4 O2.out (HS.out.later hHeld.1.2.2) HMS.out).mono ?_
   rintro e V5 ⟨rfl, hbc⟩
   rw [decide_eq_true rfl]
   clear O2
   have hS := And.intro (hHeld.1.next hbc) (And.intro (hHeld.2.1.below hbc hHeld.2.1.lt) (hHeld.2.2.below hbc hHeld.2.2.lt))
   clear hHeld hbc
   refine hK.out _ _ hS (fun hHeld => ?_)
   clear hK K
   try simp only [Act.put, jA, jB, jC, jD, jE, jF]
   clear hS
   refine wpAnyH_take (i := 45) (v := .bool true) rfl (by kernel_rfl) (by kernel_rfl) (by kernel_rfl) (fun _ _ _ h => h) (Or.inl ⟨by rfl, fun w0 hC => by simp [execOp, Act.eval, Act.put, go_sem]⟩) hHeld ?_
   try simp only [Act.put, jA, jB, jC, jD, jE, jF]
   refine wpAnyH_take (i := 46) (v := .bool true) rfl (by kernel_rfl) (by kernel_rfl) (by kernel_rfl) (fun _ _ _ h => h) (Or.inl ⟨by rfl, fun w0 hC => by simp [execOp, Act.eval, Act.put, go_sem]⟩) hHeld ?_
   try simp only [Act.put, jA, jB, jC, jD, jE, jF]
   refine wpAnyH_take (i := 47) (v := .agg (staA s p)) rfl (by kernel_rfl) (by kernel_rfl) (by kernel_rfl) (fun _ _ _ h => h) (Or.inl ⟨by rfl, fun w0 hC => exec_load14 rfl rfl hC.1.1.range Tryz.underlying28 rfl size_sta14⟩) hHeld ?_
   try simp only [Act.put, jA, jB, jC, jD, jE, jF]
   refine wpAnyH_take (i := 48) (v := .agg (staA s p)) rfl (by kernel_rfl) (by kernel_rfl) (by kernel_rfl) (fun _ _ _ h => h) (Or.inl ⟨by rfl, fun w0 hC => exec_load14 rfl rfl hC.1.1.range Tryz.underlying28 rfl size_sta14⟩) hHeld ?_
   try simp only [Act.put, jA, jB, jC, jD, jE, jF]
   refine wpAnyH_ready (rs := [49]) (by kernel_rfl) (by simp) (AllReadyH.cons rfl (fun K hK => ?_) AllReadyH.nil)
   rw [if_pos (by rfl)]
   go_wp2_with fail
   refine (stSame_s s s p p V5 (HS.out.later hHeld.1.2.2) (HS.out.later hHeld.1.2.2) HMS.out).mono ?_
   rintro e V6 ⟨rfl, hbc⟩
   rw [decide_eq_true rfl]
   have hS := And.intro (hHeld.1.next hbc) (And.intro (hHeld.2.1.below hbc hHeld.2.1.lt) (hHeld.2.2.below hbc hHeld.2.2.lt))
   clear hHeld hbc
   refine hK.out _ _ hS (fun hHeld => ?_)
   clear hK K
   try simp only [Act.put, jA, jB, jC, jD, jE, jF]
   clear hS
   refine wpAnyH_take (i := 50) (v := .bool true) rfl (by kernel_rfl) (by kernel_rfl) (by kernel_rfl) (fun _ _ _ h => h) (Or.inl ⟨by rfl, fun w0 hC => by simp [execOp, Act.eval, Act.put, go_sem]⟩) hHeld ?_
   try simp only [Act.put, jA, jB, jC, jD, jE, jF]
   refine wpAnyH_take (i := 51) (v := .bool true) rfl (by kernel_rfl) (by kernel_rfl) (by kernel_rfl) (fun _ _ _ h => h) (Or.inl ⟨by rfl, fun w0 hC => by simp [execOp, Act.eval, Act.put, go_sem]⟩) hHeld ?_
   try simp only [Act.put, jA, jB, jC, jD, jE, jF]
   refine wpAnyH_ready (rs := [52]) (by kernel_rfl) (by simp) (AllReadyH.cons rfl (fun K hK => ?_) AllReadyH.nil)
   rw [if_pos (by rfl)]
   go_wp2_with fail
   refine (stNew_s V6).mono ?_
   rintro e V7 ⟨p3, rfl, ho3, hbc⟩
   have O3 := Lib.hid (ho3.in_ new_right.small hbc.size)
   clear ho3
   have hS := And.intro (hHeld.1.next hbc) (And.intro (hHeld.2.1.below hbc hHeld.2.1.lt) (hHeld.2.2.below hbc hHeld.2.2.lt))
   clear hHeld hbc
   refine hK.out _ _ hS (fun hHeld => ?_)
   clear hK K
   try simp only [Act.put, jA, jB, jC, jD, jE, jF]
   clear hS
   refine wpAnyH_ready (rs := [53]) (by kernel_rfl) (by simp) (AllReadyH.cons rfl (fun K hK => ?_) AllReadyH.nil)
   rw [if_pos (by rfl)]
   go_wp2_with fail
   refine (xsNew_s V7).mono ?_
   rintro e V8 ⟨p4, rfl, ho4, hbc⟩
   have O4 := Lib.hid (ho4.in_ new_right.small hbc.size)
   have O3b := Lib.hid (O3.out.later hbc)
   clear ho4 O3
   have hS := And.intro (hHeld.1.next hbc) (And.intro (hHeld.2.1.below hbc hHeld.2.1.lt) (hHeld.2.2.below hbc hHeld.2.2.lt))
   clear hHeld hbc
   refine hK.out _ _ hS (fun hHeld => ?_)
   clear hK K
   try simp only [Act.put, jA, jB, jC, jD, jE, jF]
   clear hS
   refine wpAnyH_ready (rs := [54]) (by kernel_rfl) (by simp) (AllReadyH.cons rfl (fun K hK => ?_) AllReadyH.nil)
   rw [if_pos (by rfl)]
   go_wp2_with fail
   refine (xsSame_s staNew staNew p3 p4 V8 O3b.out O4.out (fun b hb => (new_right.small.bx b hb).1)).mono ?_
   rintro e V9 ⟨rfl, hbc⟩
   rw [decide_eq_true rfl]
   clear O3b O4
   have hS := And.intro (hHeld.1.next hbc) (And.intro (hHeld.2.1.below hbc hHeld.2.1.lt) (hHeld.2.2.below hbc hHeld.2.2.lt))
   clear hHeld hbc
   refine hK.out _ _ hS (fun hHeld => ?_)
   clear hK K
   try simp only [Act.put, jA, jB, jC, jD, jE, jF]
   clear hS
   refine wpAnyH_take (i := 55) (v := .bool true) rfl (by kernel_rfl) (by kernel_rfl) (by kernel_rfl) (fun _ _ _ h => h) (Or.inl ⟨by rfl, fun w0 hC => by simp [execOp, Act.eval, Act.put, go_sem]⟩) hHeld ?_
   try simp only [Act.put, jA, jB, jC, jD, jE, jF]
   refine wpAnyH_ready (rs := [56]) (by kernel_rfl) (by simp) (AllReadyH.cons rfl (fun K hK => ?_) AllReadyH.nil)
   rw [if_pos (by rfl)]
   go_wp2_with fail
   have hS := hHeld
   clear hHeld
   refine hK.out _ _ hS (fun hHeld => ?_)
   clear hK K
   try simp only [Act.put, jA, jB, jC, jD, jE, jF]
   clear hS
   refine wpAnyH_done (by kernel_rfl) ?_ _
   go_wp2_with fail
   go_ret
   exact ⟨rfl, hHeld.1.2.2⟩
theorem stateAsks_law (s s' : Sta) (p p' : StaAt) (q : Int) (w : World) (hs : StaIn w w.heap.size s p) (hs' : StaIn w w.heap.size s' p') (hK : Kinds w) :
 Calls Tryz.prog 4 #[.agg (staA s p), .agg (staA s' p'), .int .i64 q] w fun e w' => e = .returned (.bool true) ∧ Below w.heap.size w w' := stateAsks_walk s s' p p' q w hs hs' hK
end Go.Proofs.YtbogjfbfgbhdbaaGreatDoor
