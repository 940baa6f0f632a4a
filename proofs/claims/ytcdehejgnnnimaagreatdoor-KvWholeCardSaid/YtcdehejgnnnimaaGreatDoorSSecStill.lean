/-
 A part of the proof: see the last text.
-/
import Derived.Test.YtcdehejgnnnimaaGreatDoorSRefRight
import Derived.Test.YtcdehejgnnnimaaGreatDoorSSecStart
import Derived.Test.YtcdehejgnnnimaaGreatDoorSSecWords
import Derived.StillTailTactics
import Derived.Test.YtcdehejgnnnimaaGreatDoorSSecSettled
namespace Go.Proofs.YtcdehejgnnnimaaGreatDoor
set_option linter.unusedVariables false
set_option linter.unusedSimpArgs false
open Go.RowKit
set_option maxRecDepth 20000 in
set_option maxHeartbeats 2000000 in
theorem rarm_any (v : Value) (d : Dk) (f : Int) (w : World) (hd : DkAt w w.heap.size v d) :
 Calls Tryz.prog 8 #[v, .int .i64 f] w (DkRes w (armM d f)) := by
 have hdW := fun W => hd.later (W := W)
 obtain ⟨A, n, c, A', n', c', rfl, hnc, hnc', hc, hc', hS, hL⟩ := hd
 by_cases hr : rightB d = true
 ·by_cases hf : fuseB f = true
  ·have hM : armM d f = ({ d with fuse := f }, 0) := by unfold armM; simp [hr, hf]
   rw [hM]
   clear hM
   have HS := Lib.hid hS; have HL := Lib.hid hL; clear hS hL
   have Hd := Lib.hid hdW; clear hdW
   go_enter Tryz.func8, Tryz.ntmps8
   go_wp2_with fail
   refine (rright_any _ d _ ?hd).mono ?_
   case hd => exact Hd.out _ (by repeat (first | with_reducible exact Below.refl _ _ | (refine Below.alloc ?_ (by simp <;> omega) _)))
   rintro e w1 ⟨rfl, hb1⟩
   obtain ⟨⟨p0, p1, p2, p3⟩, q0, q1, q2, q3⟩ := (Bk.below (b := w.heap.size) (t := 27) (cs := #[.slice A n c, .slice A' n' c', .int .i64 d.fuse, .bool d.down]) (by exact (Bk.new _ _ _).alloc _) hb1 (by simp only [World.size_alloc]; omega)).four
   obtain ⟨⟨r0, r1, r2, r3⟩, s0, s1, s2, s3⟩ := (Bk.below (b := w.heap.size + 1) (t := 27) (cs := #[.slice none 0 0, .slice none 0 0, .int .i64 0, .bool false]) (by exact Bk.new2 _ _ _ _) hb1 (by simp only [World.size_alloc]; omega)).four
   have hz : w.heap.size + 2 ≤ w1.heap.size := by have := hb1.size; simpa using this
   have hb : Below w.heap.size w w1 := (((Below.refl _ _).alloc (Nat.le_refl _) _).alloc (by simp) _).trans (hb1.mono (by simp; omega))
   have hfb := hf
   unfold fuseB at hfb
   simp only [Bool.and_eq_true, decide_eq_true_eq] at hfb
   have hd1 : decide (f < -1) = false := by simp; omega
   have hd2 : decide (1099511627776 < f) = false := by simp; omega
   clear hfb
   go_wp2
   refine bodyPost_ret (v := .tuple #[.agg #[.slice A n c, .slice A' n' c', .int .i64 f, .bool d.down], .int .i64 0]) (by simp [results, Tryz.results8, go_sem, *]) rfl ?_
   refine DkRes.same rfl HS.out HL.out hnc hnc' hc hc' ?_
   repeat (first | with_reducible exact hb | (refine Below.setCell ?_ (by simp <;> omega) _))
  ·have hf' : fuseB f = false := by simpa using hf
   clear hf
   have hM : armM d f = (d, 1) := by unfold armM; simp [hf']
   rw [hM]
   clear hM
   have hfb : f < -1 ∨ 1099511627776 < f := by unfold fuseB at hf'; simp only [Bool.and_eq_false_iff, decide_eq_false_iff_not] at hf'; omega
   by_cases hlow : f < -1
   ·have HS := Lib.hid hS; have HL := Lib.hid hL; clear hS hL
    have Hd := Lib.hid hdW; clear hdW
    go_enter Tryz.func8, Tryz.ntmps8
    go_wp2_with fail
    refine (rright_any _ d _ ?hd).mono ?_
    case hd => exact Hd.out _ (by repeat (first | with_reducible exact Below.refl _ _ | (refine Below.alloc ?_ (by simp <;> omega) _)))
    rintro e w1 ⟨rfl, hb1⟩
    obtain ⟨⟨p0, p1, p2, p3⟩, q0, q1, q2, q3⟩ := (Bk.below (b := w.heap.size) (t := 27) (cs := #[.slice A n c, .slice A' n' c', .int .i64 d.fuse, .bool d.down]) (by exact (Bk.new _ _ _).alloc _) hb1 (by simp only [World.size_alloc]; omega)).four
    obtain ⟨⟨r0, r1, r2, r3⟩, s0, s1, s2, s3⟩ := (Bk.below (b := w.heap.size + 1) (t := 27) (cs := #[.slice none 0 0, .slice none 0 0, .int .i64 0, .bool false]) (by exact Bk.new2 _ _ _ _) hb1 (by simp only [World.size_alloc]; omega)).four
    have hz : w.heap.size + 2 ≤ w1.heap.size := by have := hb1.size; simpa using this
    have hb : Below w.heap.size w w1 := (((Below.refl _ _).alloc (Nat.le_refl _) _).alloc (by simp) _).trans (hb1.mono (by simp; omega))
    have hd1 : decide (f < -1) = true := by simp; omega
    go_wp2
    refine bodyPost_ret (v := .tuple #[.agg #[.slice A n c, .slice A' n' c', .int .i64 d.fuse, .bool d.down], .int .i64 1]) (by simp [results, Tryz.results8, go_sem, *]) rfl ?_
    refine DkRes.same rfl HS.out HL.out hnc hnc' hc hc' ?_
    repeat (first | with_reducible exact hb | (refine Below.setCell ?_ (by simp <;> omega) _))
   ·have HS := Lib.hid hS; have HL := Lib.hid hL; clear hS hL
    have Hd := Lib.hid hdW; clear hdW
    go_enter Tryz.func8, Tryz.ntmps8
    go_wp2_with fail
    refine (rright_any _ d _ ?hd).mono ?_
    case hd => exact Hd.out _ (by repeat (first | with_reducible exact Below.refl _ _ | (refine Below.alloc ?_ (by simp <;> omega) _)))
    rintro e w1 ⟨rfl, hb1⟩
    obtain ⟨⟨p0, p1, p2, p3⟩, q0, q1, q2, q3⟩ := (Bk.below (b := w.heap.size) (t := 27) (cs := #[.slice A n c, .slice A' n' c', .int .i64 d.fuse, .bool d.down]) (by exact (Bk.new _ _ _).alloc _) hb1 (by simp only [World.size_alloc]; omega)).four
    obtain ⟨⟨r0, r1, r2, r3⟩, s0, s1, s2, s3⟩ := (Bk.below (b := w.heap.size + 1) (t := 27) (cs := #[.slice none 0 0, .slice none 0 0, .int .i64 0, .bool false]) (by exact Bk.new2 _ _ _ _) hb1 (by simp only [World.size_alloc]; omega)).four
    have hz : w.heap.size + 2 ≤ w1.heap.size := by have := hb1.size; simpa using this
    have hb : Below w.heap.size w w1 := (((Below.refl _ _).alloc (Nat.le_refl _) _).alloc (by simp) _).trans (hb1.mono (by simp; omega))
    have hd1 : decide (f < -1) = false := by simp; omega
    have hd2 : decide (1099511627776 < f) = true := by simp; omega
    go_wp2
    refine bodyPost_ret (v := .tuple #[.agg #[.slice A n c, .slice A' n' c', .int .i64 d.fuse, .bool d.down], .int .i64 1]) (by simp [results, Tryz.results8, go_sem, *]) rfl ?_
    refine DkRes.same rfl HS.out HL.out hnc hnc' hc hc' ?_
    repeat (first | with_reducible exact hb | (refine Below.setCell ?_ (by simp <;> omega) _))
 ·have hr' : rightB d = false := by simpa using hr
  clear hr
  have hM : armM d f = (d, 1) := by unfold armM; simp [hr']
  rw [hM]
  clear hM
  have HS := Lib.hid hS; have HL := Lib.hid hL; clear hS hL
  have Hd := Lib.hid hdW; clear hdW
  go_enter Tryz.func8, Tryz.ntmps8
  go_wp2_with fail
  refine (rright_any _ d _ ?hd).mono ?_
  case hd => exact Hd.out _ (by repeat (first | with_reducible exact Below.refl _ _ | (refine Below.alloc ?_ (by simp <;> omega) _)))
  rintro e w1 ⟨rfl, hb1⟩
  obtain ⟨⟨p0, p1, p2, p3⟩, q0, q1, q2, q3⟩ := (Bk.below (b := w.heap.size) (t := 27) (cs := #[.slice A n c, .slice A' n' c', .int .i64 d.fuse, .bool d.down]) (by exact (Bk.new _ _ _).alloc _) hb1 (by simp only [World.size_alloc]; omega)).four
  obtain ⟨⟨r0, r1, r2, r3⟩, s0, s1, s2, s3⟩ := (Bk.below (b := w.heap.size + 1) (t := 27) (cs := #[.slice none 0 0, .slice none 0 0, .int .i64 0, .bool false]) (by exact Bk.new2 _ _ _ _) hb1 (by simp only [World.size_alloc]; omega)).four
  have hz : w.heap.size + 2 ≤ w1.heap.size := by have := hb1.size; simpa using this
  have hb : Below w.heap.size w w1 := (((Below.refl _ _).alloc (Nat.le_refl _) _).alloc (by simp) _).trans (hb1.mono (by simp; omega))
  go_wp2
  refine bodyPost_ret (v := .tuple #[.agg #[.slice A n c, .slice A' n' c', .int .i64 d.fuse, .bool d.down], .int .i64 1]) (by simp [results, Tryz.results8, go_sem, *]) rfl ?_
  refine DkRes.same rfl HS.out HL.out hnc hnc' hc hc' ?_
  repeat (first | with_reducible exact hb | (refine Below.setCell ?_ (by simp <;> omega) _))
end Go.Proofs.YtcdehejgnnnimaaGreatDoor
namespace Go.Proofs.YtcdehejgnnnimaaGreatDoor
set_option linter.unusedVariables false
set_option linter.unusedSimpArgs false
open Go.RowKit
theorem RowsOut.low {w : World} {base base' k n : Nat} {e : TypeId} {v : Value} {xs : List (List Value)} (h : RowsOut w base e k v n xs) (hb : base' ≤ base) : RowsOut w base' e k v n xs := by
 obtain ⟨A, c, rfl, h1, h2, h3, h4, h5⟩ := h
 exact ⟨A, c, rfl, h1, h2, h3, h4, fun hn => by
  obtain ⟨g, cs, e1, e2, e3⟩ := h5 hn
  exact ⟨g, cs, e1, by omega, e3⟩⟩
def DkOut (w : World) (base : Nat) (v : Value) (d : Dk) : Prop :=
 ∃ A n c A' n' c', v = .agg #[.slice A n c, .slice A' n' c', .int .i64 d.fuse, .bool d.down] ∧ RowsOut w base 84 64 (.slice A n c) n (d.secs.map secv) ∧ RowsOut w base 90 65 (.slice A' n' c') n' (d.loose.map wrv)
theorem DkOut.at_ {w : World} {base : Nat} {v : Value} {d : Dk} (h : DkOut w base v d) : DkAt w w.heap.size v d := by
 obtain ⟨A, n, c, A', n', c', rfl, h1, h2⟩ := h
 obtain ⟨_, _, e1, a1, a2, a3⟩ := h1.arr
 obtain ⟨_, _, e2, b1, b2, b3⟩ := h2.arr
 injection e1 with e11 _ e13
 injection e2 with e21 _ e23
 subst e11 e13 e21 e23
 exact ⟨A, n, c, A', n', c', rfl, a1, b1, a2, b2, a3, b3⟩
set_option maxRecDepth 20000 in
set_option maxHeartbeats 1000000 in
theorem rcopy_any (v : Value) (d : Dk) (w : World) (hd : DkAt w w.heap.size v d) (h1 : d.secs.length ≤ 1000000) (h2 : d.loose.length ≤ 1000000) :
 Calls Tryz.prog 50 #[v] w fun e w' => ∃ v', e = .returned v' ∧ DkOut w' w.heap.size v' d ∧ Below w.heap.size w w' := by
 obtain ⟨A, n, c, A', n', c', rfl, hnc, hnc', hc, hc', hS, hL⟩ := hd
 have hn : d.secs.length = n := by have := hS.1; simpa using this
 have hn' : d.loose.length = n' := by have := hL.1; simpa using this
 rw [hn] at h1
 rw [hn'] at h2
 have HS := Lib.hid hS; have HL := Lib.hid hL
 clear hS hL hn hn'
 go_enter Tryz.func50, Tryz.ntmps50
 go_wp2_with ((with_reducible show wpList _ _ _ (⟨some 6, _, _, _, _, _⟩ :: _) _ _); refine hold ?_)
 refine held (wpList_append_rows rfl (.tmp 3) (.tmp 5) 24 rfl 84 (.agg (Array.replicate 64 (.int .u8 0))) 64 64 Tryz.underlying24 info_sec (by simp [Value.cells]) (by omega) (by omega) (w.heap.size + 1 + 1) rfl (Bk.new3 _ _ _ _ _) w.heap.size A n c (d.secs.map secv) rfl
  (HS.out.below ((((Below.refl w.heap.size w).alloc (Nat.le_refl _) _).alloc (by simp) _).alloc (by simp only [World.size_alloc]; omega) _) (Nat.le_refl _)) (fun x hx => by obtain ⟨y, _, rfl⟩ := List.mem_map.1 hx; exact secv_one y) h1 ?_)
 intro v1 w1 hR1 hg1
 have hgb : Below (w.heap.size + 1 + 1) (((w.alloc (.cells #[.slice A n c, .slice A' n' c', .int .i64 d.fuse, .bool d.down] 27)).alloc (.cells #[.slice none 0 0, .slice none 0 0, .int .i64 0, .bool false] 27)).alloc (.cells #[] 84)) w1 :=
  (Below.refl _ _).grown hg1 (by simp only [World.size_alloc]; omega) (fun k e => by cases e; exact Nat.le_refl _)
 have B0 : Bk w1 w.heap.size 27 #[.slice A n c, .slice A' n' c', .int .i64 d.fuse, .bool d.down] := Bk.below (((Bk.new _ _ _).alloc _).alloc _) hgb (by omega)
 have B1 : Bk w1 (w.heap.size + 1) 27 #[.slice none 0 0, .slice none 0 0, .int .i64 0, .bool false] := Bk.below ((Bk.new2 _ _ _ _).alloc _) hgb (by omega)
 have hb1 : Below w.heap.size w w1 := (((((Below.refl w.heap.size w).alloc (Nat.le_refl _) _).alloc (by simp) _).alloc (by simp only [World.size_alloc]; omega) _)).trans (hgb.mono (by omega))
 have hlt : w.heap.size + 1 < w1.heap.size := B1.lt
 obtain ⟨A1, c1, hv1⟩ : ∃ A1 c1, v1 = .slice A1 n c1 := by obtain ⟨A1, c1, h, _⟩ := hR1; exact ⟨A1, c1, h⟩
 rw [hv1] at hR1 ⊢
 clear hv1 hgb hg1
 obtain ⟨⟨p0, p1, p2, p3⟩, q0, q1, q2, q3⟩ := B0.four
 have HB0 := Lib.hid B0; have HB1 := Lib.hid B1; have HR1 := Lib.hid hR1; have HW1 := Lib.hid hb1
 have hlt0 : w.heap.size < w1.heap.size := by omega
 clear B0 B1 hR1 hb1
 go_wp2_with ((with_reducible show wpList _ _ _ (⟨some 11, _, _, _, _, _⟩ :: _) _ _); refine hold ?_)
 have hBn : Bk ((w1.setCell ⟨w.heap.size, 0, none⟩ (.slice A1 n c1)).alloc (.cells #[] 90)) w1.heap.size 90 #[] := Bk.new' _ _ _ _ (by simp)
 have hbx : Below w1.heap.size (w1.setCell ⟨w.heap.size, 0, none⟩ (.slice A1 n c1)) ((w1.setCell ⟨w.heap.size, 0, none⟩ (.slice A1 n c1)).alloc (.cells #[] 90)) := (Below.refl _ _).alloc (by simp) _
 have hL1 : Arr ((w1.setCell ⟨w.heap.size, 0, none⟩ (.slice A1 n c1)).alloc (.cells #[] 90)) w.heap.size 65 A' n' (d.loose.map wrv) :=
  HL.out.below (((HW1.out.setCell (p := ⟨w.heap.size, 0, none⟩) (Nat.le_refl _) _)).alloc (by simp; omega) _) (Nat.le_refl _)
 refine held (wpList_append_rows rfl (.tmp 8) (.tmp 10) 25 rfl 90 (.agg (wrv (0, zsec)).toArray) 65 72 Tryz.underlying25 info_wr (by simp [Value.cells, wrv_length, zsec]) (by omega) (by omega) w1.heap.size rfl hBn w.heap.size A' n' c' (d.loose.map wrv) rfl hL1
  (fun x hx => by obtain ⟨y, _, rfl⟩ := List.mem_map.1 hx; exact wrv_one y) h2 ?_)
 intro v2 w2 hR2 hg2
 have hb2 : Below w1.heap.size (w1.setCell ⟨w.heap.size, 0, none⟩ (.slice A1 n c1)) w2 := hbx.grown hg2 (by simp) (fun k e => by cases e; exact Nat.le_refl _)
 have hR1 : RowsOut w2 (w.heap.size + 1 + 1) 84 64 (.slice A1 n c1) n (d.secs.map secv) := by
  refine RowsOut.below (HR1.out.box (p := ⟨w.heap.size, 0, none⟩) (by show w.heap.size < _; omega) (.slice A1 n c1)) ?_
  rw [World.size_setCell]
  exact hb2
 have B0 : Bk w2 w.heap.size 27 #[.slice A1 n c1, .slice A' n' c', .int .i64 d.fuse, .bool d.down] := by
  have := (HB0.out.put 0 (.slice A1 n c1)).below hb2 hlt0
  simpa using this
 have B1 : Bk w2 (w.heap.size + 1) 27 #[.slice none 0 0, .slice none 0 0, .int .i64 0, .bool false] := (HB1.out.far (by simp) _).below hb2 hlt
 have hW2 : Below w.heap.size w w2 := (HW1.out.setCell (p := ⟨w.heap.size, 0, none⟩) (Nat.le_refl _) _).trans (hb2.mono (by omega))
 obtain ⟨A2, c2, hv2⟩ : ∃ A2 c2, v2 = .slice A2 n' c2 := by obtain ⟨A2, c2, h, _⟩ := hR2; exact ⟨A2, c2, h⟩
 rw [hv2] at hR2 ⊢
 clear hv2 hb2 hbx hBn hL1 hg2 HB0 HB1 HR1 HW1 p0 p1 p2 p3 q0 q1 q2 q3
 obtain ⟨⟨p0, p1, p2, p3⟩, q0, q1, q2, q3⟩ := B0.four
 obtain ⟨⟨r0, r1, r2, r3⟩, s0, s1, s2, s3⟩ := B1.four
 have hlt2 : w.heap.size + 1 < w2.heap.size := B1.lt
 have HR1 := Lib.hid hR1; have HR2 := Lib.hid hR2; have HW2 := Lib.hid hW2
 clear B0 B1 hR1 hR2 hW2
 go_wp2
 refine bodyPost_ret (v := .agg #[.slice A1 n c1, .slice A2 n' c2, .int .i64 d.fuse, .bool d.down]) (by simp [results, Tryz.results50, go_sem, *]) rfl ?_
 refine ⟨_, rfl, ⟨A1, n, c1, A2, n', c2, rfl, ?_, ?_⟩, ?_⟩
 ·refine RowsOut.low (base := w.heap.size + 1 + 1) ?_ (by omega)
  repeat (first | with_reducible exact HR1.out | (refine RowsOut.box ?_ (by first | omega | (simp; done) | (simp; omega)) _))
 ·refine RowsOut.low (base := w.heap.size + 1 + 1) ?_ (by omega)
  repeat (first | with_reducible exact HR2.out.low (by omega) | (refine RowsOut.box ?_ (by first | omega | (simp; done) | (simp; omega)) _))
 ·repeat (first | with_reducible exact HW2.out | (refine Below.setCell ?_ (by first | omega | (simp; done) | (simp; omega)) _))
end Go.Proofs.YtcdehejgnnnimaaGreatDoor
namespace Go.Proofs.YtcdehejgnnnimaaGreatDoor
set_option linter.unusedVariables false
set_option linter.unusedSimpArgs false
open Go.RowKit
section
variable {P : Program} {ops : Array Oper} {w : World}
theorem wpStill_value {Q : Act → Prop} {a : Act} {o : Oper} {rest : List Oper} {v : Value} (hw : Region.wanted o (yielded ops a.tmps) = true) (hv : (execOp a.eval o).run P w = .ok (.value v) w)
 (h : wpStill P ops w Q rest (a.put o.dst v)) : wpStill P ops w Q (o :: rest) a := by
 unfold wpStill
 rw [if_pos hw]
 unfold Oper.still
 rw [hv]
 exact ⟨rfl, h⟩
theorem wpStill_load_mid {Q : Act → Prop} {a : Act} {op : Oper} {rest : List Oper} (hw : Region.wanted op (yielded ops a.tmps) = true) (ty : TypeId) (x : Operand) (ho : op.op = .load ty x)
 (b o : Nat) (hx : a.eval x = .pointer (some ⟨b, o, none⟩)) (cs : List Value) (d : TypeDesc) (hc : w.rangeAt b o cs)
 (hu : P.underlying ty = some d) (hd : d.isRow = true) (hi : (P.info? ty).map (·.size) = some cs.length)
 (h : wpStill P ops w Q rest (a.put op.dst (.agg cs.toArray))) : wpStill P ops w Q (op :: rest) a := by
 refine wpStill_value hw ?_ h
 unfold execOp
 simp only [ho, hx, Instr.loadAt, Instr.sureAddr, Sem.run_bind, Sem.run_pure, Result.andThen_ok, run_loadVar_mid w b o ty cs d hc hu hd hi]
end
theorem Arr.rows_at {w : World} {B n : Nat} {A : Option Addr} {α : Type} {f : α → List Value} {k : Nat} {l : List α} (h : Arr w B k A n (l.map f)) {i : Nat} (hi : i < l.length) : ∃ b o, A = some ⟨b, o, none⟩ ∧ b < B ∧ w.rangeAt b (o + i * k) (f l[i]) := by
 have hn : l.length = n := by simpa using h.1
 obtain ⟨b, o, e, hb, hr⟩ := h.at_ (i := i) (by omega)
 refine ⟨b, o, e, hb, ?_⟩
 have : (l.map f).getD i [] = f l[i] := by simp [hi]
 rwa [this] at hr
end Go.Proofs.YtcdehejgnnnimaaGreatDoor
namespace Go.Proofs.YtcdehejgnnnimaaGreatDoor
set_option linter.unusedVariables false
set_option linter.unusedSimpArgs false
open Go.RowKit
end Go.Proofs.YtcdehejgnnnimaaGreatDoor
namespace Go.Proofs.YtcdehejgnnnimaaGreatDoor
set_option linter.unusedVariables false
set_option linter.unusedSimpArgs false
open Go.RowKit
theorem mask_bit (m i : Nat) (hm : m < 18446744073709551616) : (bits BinOp.and IntKind.u64 ((m : Int) / 2 ^ (i % 64)) 1 == 1) = bitM m i := by
 obtain ⟨q, hq⟩ : ∃ q, m / 2 ^ (i % 64) = q := ⟨_, rfl⟩
 have hlt : q < 18446744073709551616 := by rw [← hq]; exact Nat.lt_of_le_of_lt (Nat.div_le_self _ _) hm
 have e2 : ((m : Int) / 2 ^ (i % 64)) = (q : Int) := by rw [← hq]; simp
 have e1 : bits BinOp.and IntKind.u64 ((m : Int) / 2 ^ (i % 64)) 1 = ((q % 2 : Nat) : Int) := by
  rw [e2, and_one_u64 _ (by omega) (by omega)]
  omega
 rw [e1]
 unfold bitM
 rw [Nat.testBit_eq_decide_div_mod_eq, hq, Bool.eq_iff_iff]
 simp only [decide_eq_true_eq, beq_iff_eq]
 omega
def curD (st : Nat → Bool) (d : Dk) (j : Nat) : List (List Int) := doneM st 0 d.secs (d.loose.take j)
theorem curD_zero (st : Nat → Bool) (d : Dk) : curD st d 0 = d.secs := by simp [curD, doneM]
theorem curD_step (st : Nat → Bool) (d : Dk) (j : Nat) (hj : j < d.loose.length) : curD st d (j + 1) = if st j then (curD st d j).set d.loose[j].1.toNat d.loose[j].2 else curD st d j := by
 unfold curD
 rw [List.take_succ_eq_append_getElem hj, doneM_snoc, List.length_take, Nat.zero_add, Nat.min_eq_left (by omega)]
theorem curD_all (st : Nat → Bool) (d : Dk) : curD st d d.loose.length = doneM st 0 d.secs d.loose := by
 unfold curD
 rw [List.take_length]
theorem curD_length (st : Nat → Bool) (d : Dk) (j : Nat) : (curD st d j).length = d.secs.length := doneM_length _ _ _ _
theorem curD_len (st : Nat → Bool) {d : Dk} (j : Nat) (hs : ∀ s ∈ d.secs, s.length = 64) (hl : ∀ x ∈ d.loose, x.2.length = 64) : ∀ s ∈ curD st d j, s.length = 64 :=
 doneM_lens st (d.loose.take j) 0 d.secs hs (fun x hx => hl x (List.mem_of_mem_take (i := j) hx))
def RowsIn (W : World) (g n : Nat) (ss : List (List Int)) : Prop := 0 < n → ∃ cs, Bk W g 84 cs ∧ n * 64 ≤ cs.size ∧ ∀ (j : Nat) (u : Value), (ss.map secv).flatten[j]? = some u → cs[j]? = some u
theorem RowsIn.far {W : World} {g n : Nat} {ss : List (List Int)} (h : RowsIn W g n ss) {p : Addr} (hp : g ≠ p.block) (u : Value) : RowsIn (W.setCell p u) g n ss := fun hn => by
 obtain ⟨cs, h1, h2, h3⟩ := h hn
 exact ⟨cs, h1.far hp u, h2, h3⟩
theorem RowsIn.alloc {W : World} {g n : Nat} {ss : List (List Int)} (h : RowsIn W g n ss) (o : Obj) : RowsIn (W.alloc o) g n ss := fun hn => by
 obtain ⟨cs, h1, h2, h3⟩ := h hn
 exact ⟨cs, h1.alloc o, h2, h3⟩
theorem RowsIn.drew {W : World} {g n : Nat} {ss : List (List Int)} (h : RowsIn W g n ss) : RowsIn W.drew g n ss := fun hn => by
 obtain ⟨cs, h1, h2, h3⟩ := h hn
 exact ⟨cs, h1, h2, h3⟩
theorem RowsIn.set {W : World} {g n k : Nat} {ss : List (List Int)} {cs : Array Value} (h1 : Bk W g 84 cs) (h2 : n * 64 ≤ cs.size) (h3 : ∀ (j : Nat) (u : Value), (ss.map secv).flatten[j]? = some u → cs[j]? = some u) (hl : ss.length = n) (h64 : ∀ s ∈ ss, s.length = 64) (hk : k < n) {y : List Int} (hy : y.length = 64) :
 RowsIn (W.setRow g (splice cs.toList (k * 64) (secv y).toArray.toList).toArray) g n (ss.set k y) := fun _ => by
 have hyl : (secv y).length = 64 := by rw [secv_length, hy]
 have hr64 : ∀ y ∈ ss.map secv, y.length = 64 := fun y hy => by
  obtain ⟨z, hz, rfl⟩ := List.mem_map.1 hy
  rw [secv_length]
  exact h64 z hz
 have hfl : (ss.map secv).flatten.length = n * 64 := by rw [flat_length hr64, List.length_map, hl]
 have h64' : k * 64 + 64 ≤ n * 64 := by have := Nat.mul_le_mul_right 64 (show k + 1 ≤ n by omega); omega
 refine ⟨_, h1.setRow_same _, ?_, ?_⟩
 ·rw [List.size_toArray, length_splice _ _ _ (by simp only [hyl, Array.length_toList]; omega)]
  simpa using h2
 ·intro j u hj
  rw [List.map_set, flat_set hr64 k (by rw [List.length_map, hl]; exact hk) _ hyl] at hj
  have := splice_prefix (cs := cs) (by rw [hfl, hyl]; exact h64') (by rw [hfl]; exact h2) h3 j u hj
  simpa using this
theorem RowsIn.out {W : World} {base g n c : Nat} {A : Option Addr} {ss : List (List Int)} (h : RowsIn W g n ss) (hA : 0 < n → A = some ⟨g, 0, none⟩) (hg : base ≤ g) (hnc : n ≤ c) (hc : c ≤ maxLen) (hl : ss.length = n) (h64 : ∀ s ∈ ss, s.length = 64) :
 RowsOut W base 84 64 (.slice A n c) n (ss.map secv) :=
 ⟨A, c, rfl, hnc, hc, by rw [List.length_map, hl], fun y hy => by
  obtain ⟨z, hz, rfl⟩ := List.mem_map.1 hy
  rw [secv_length]
  exact h64 z hz, fun hn => by
  obtain ⟨cs, h1, h2, h3⟩ := h hn
  exact ⟨g, cs, hA hn, hg, h1, h2, h3⟩⟩
set_option maxRecDepth 100000 in
set_option maxHeartbeats 2000000 in
theorem rdone_any (v : Value) (d : Dk) (m : Nat) (hm : m < 18446744073709551616) (w : World) (hd : DkAt w w.heap.size v d) (hr : rightB d = true) :
 Calls Tryz.prog 25 #[v, .int .u64 (m : Int)] w fun e w' => ∃ v', e = .returned v' ∧ DkOut w' w.heap.size v' ⟨doneM (bitM m) 0 d.secs d.loose, [], d.fuse, d.down⟩ ∧ Below w.heap.size w w' := by
 have hdW := fun W => hd.later (W := W)
 have hlens := hd.lens
 obtain ⟨A, n, c, A', n', c', rfl, hnc, hnc', hc, hc', hS, hL⟩ := hd
 have hn : d.secs.length = n := by have := hS.1; simpa using this
 have hn' : d.loose.length = n' := by have := hL.1; simpa using this
 have hR : n ≤ 4096 ∧ n' ≤ 100000 ∧ looseB n d.loose = true := by
  unfold rightB at hr
  simp only [Bool.and_eq_true, decide_eq_true_eq, hn, hn'] at hr
  exact ⟨hr.1.1.1, hr.1.1.2, hr.2⟩
 obtain ⟨h4096, h100, hlo⟩ := hR
 have hcd := fun j => curD_len (bitM m) (d := d) j hlens.1 hlens.2
 have hbit := fun j => mask_bit m j hm
 have HN := Lib.hid hn; have HN' := Lib.hid hn'; have HLO := Lib.hid hlo; have HL := Lib.hid hL; have HLN := Lib.hid hlens; have Hd := Lib.hid hdW; have HCD := Lib.hid hcd; have HBIT := Lib.hid hbit
 clear hn hn' hlo hS hL hlens hdW hcd hr hbit
 go_enter Tryz.func25, Tryz.ntmps25
 go_wp2_with fail
 refine (rcopy_any _ d _ (Hd.out _ (((Below.refl _ _).alloc (Nat.le_refl _) _).alloc (by simp) _)) (by rw [HN.out]; omega) (by rw [HN'.out]; omega)).mono ?_
 rintro e w1 ⟨v1, rfl, ⟨A1, n1, c1, A1', n1', c1', rfl, hR1, hR1'⟩, hb1⟩
 obtain ⟨_, _, e1, hnc1, hc1, hl1, _, hrow1⟩ := hR1
 injection e1 with e11 e12 e13
 subst e11 e13
 have hn1 : n1 = n := by rw [← hl1, List.length_map, HN.out]
 subst hn1
 have B0 : Bk w1 w.heap.size 27 _ := Bk.below ((Bk.new w 27 _).alloc _) hb1 (by simp only [World.size_alloc]; omega)
 have B1 : Bk w1 (w.heap.size + 1) 27 _ := Bk.below (Bk.new2 _ _ 27 _) hb1 (by simp only [World.size_alloc]; omega)
 have hb : Below w.heap.size w w1 := (((Below.refl _ _).alloc (Nat.le_refl _) _).alloc (by simp) _).trans (hb1.mono (by simp only [World.size_alloc]; omega))
 obtain ⟨g1, hg0, hg1, hgne, hA1, hRI⟩ : ∃ g1, w.heap.size + 2 ≤ g1 ∧ g1 ≤ w1.heap.size + 1 ∧ g1 ≠ w1.heap.size ∧ (0 < n1 → A1 = some ⟨g1, 0, none⟩ ∧ g1 < w1.heap.size) ∧ RowsIn w1 g1 n1 d.secs := by
  by_cases h0 : 0 < n1
  ·obtain ⟨g1, cs, e1, e2, e3, e4, e5⟩ := hrow1 h0
   have := e3.lt
   simp only [World.size_alloc] at e2
   exact ⟨g1, by omega, by omega, by omega, fun _ => ⟨e1, this⟩, fun _ => ⟨cs, e3, e4, e5⟩⟩
  ·exact ⟨w1.heap.size + 1, by have := hb.size; have := B1.lt; omega, by omega, by omega, fun h => absurd h h0, fun h => absurd h h0⟩
 have hlt : w.heap.size + 1 < w1.heap.size := B1.lt
 have hlt0 : w.heap.size < w1.heap.size := by omega
 have HB0 := Lib.hid B0; have HB1 := Lib.hid B1; have HW := Lib.hid hb; have HRI := Lib.hid hRI; have HA1 := Lib.hid hA1
 clear B0 B1 hb hb1 hrow1 hR1' hRI hA1 hl1
 go_wp2_with fail
 go_loopw [6] (fun i wr => ∃ j : Nat, j ≤ n' ∧ i = .int .i64 j ∧ Bk wr w.heap.size 27 #[.slice A n1 c, .slice A' n' c', .int .i64 d.fuse, .bool d.down] ∧ Bk wr (w.heap.size + 1) 27 #[.slice none 0 0, .slice none 0 0, .int .i64 0, .bool false] ∧
  Bk wr w1.heap.size 27 #[.slice A1 n1 c1, .slice none 0 0, .int .i64 d.fuse, .bool d.down] ∧ RowsIn wr g1 n1 (curD (bitM m) d j) ∧ Below w.heap.size w wr) (fun i _ => n' - (intOf i).toNat)
 case atStart =>
  refine ⟨0, Nat.zero_le _, rfl, ?_, ?_, ?_, ?_, ?_⟩
  ·repeat (first | with_reducible exact HB0.out | (refine Bk.far ?_ (by first | omega | (simp; done) | (simp; omega)) _) | refine Bk.alloc ?_ _)
  ·repeat (first | with_reducible exact HB1.out | (refine Bk.far ?_ (by first | omega | (simp; done) | (simp; omega)) _) | refine Bk.alloc ?_ _)
  ·exact Bk.new _ _ _
  ·rw [curD_zero]
   exact HRI.out.alloc _
  ·repeat (first | with_reducible exact HW.out | (refine Below.setCell ?_ (by first | omega | (simp; done) | (simp; omega)) _) | (refine Below.alloc ?_ (by first | omega | (simp; done) | (simp; omega)) _))
 case round =>
  obtain ⟨j, hj, rfl, C0, C1, C5, hRI, hbr⟩ := hrel
  obtain ⟨⟨p0, p1, p2, p3⟩, -⟩ := C0.four
  obtain ⟨⟨r0, r1, r2, r3⟩, -⟩ := C5.four
  by_cases hlt : j < n'
  ·have hjl : j < d.loose.length := by rw [HN'.out]; exact hlt
   obtain ⟨bL, oL, hA', hbL, hrL⟩ := Arr.rows_at (f := wrv) (l := d.loose) HL.out (i := j) hjl
   subst hA'
   have hstep := curD_step (bitM m) d j hjl
   have hth : thereB n1 d.loose[j].1 = true := List.all_eq_true.1 HLO.out d.loose[j] (List.getElem_mem hjl)
   have hx64 : d.loose[j].2.length = 64 := HLN.out.2 _ (List.getElem_mem hjl)
   obtain ⟨x, hx⟩ : ∃ x, d.loose[j] = x := ⟨_, rfl⟩
   rw [hx] at hrL hstep hth hx64
   obtain ⟨xa, y⟩ := x
   obtain ⟨k, rfl⟩ : ∃ k : Nat, xa = (k : Int) := ⟨xa.toNat, by unfold thereB at hth; simp at hth; omega⟩
   have hkn : (k : Int) < (n1 : Int) := by unfold thereB at hth; simp at hth; omega
   have hk : k < n1 := by omega
   obtain ⟨e1, hg1'⟩ := HA1.out (by omega)
   have hrW := rangeAt_keep hrL (w' := wr.drew) (fun p hp => (hbr.drew).cell (by omega))
   have hcell : wr.cell? ⟨bL, oL + j * 65, none⟩ = some (.int .i64 (k : Int)) := by
    have := hrW 0 (.int .i64 (k : Int)) (by simp [wrv])
    simpa using this
   have hrow : wr.drew.rangeAt bL (oL + j * 65 + 1) (secv y) := fun i v hv => by
    have := hrW (i + 1) v (by simpa [wrv] using hv)
    rw [show oL + j * 65 + 1 + i = oL + j * 65 + (i + 1) by omega]; exact this
   have hi1 : (j : Int) < (n' : Int) := by omega
   have hi2 : (0 : Int) ≤ (j : Int) := by omega
   have hi3 : (j : Int) < 1000000 := by omega
   have hyl : (secv y).length = 64 := by rw [secv_length]; exact hx64
   simp only [Int.toNat_natCast] at hstep
   have Hst := Lib.hid hstep; have HR := Lib.hid hrow; have HRI2 := Lib.hid hRI; have HBR := Lib.hid hbr; have HC0 := Lib.hid C0; have HC1 := Lib.hid C1; have HC5 := Lib.hid C5; have HX := Lib.hid hx64; have HE1 := Lib.hid e1
   have hbj := HBIT.out j
   clear hstep hrow hrW hrL hth hx hRI hbr C0 C1 C5 hx64 e1
   by_cases hbt : bitM m j = true
   ·rw [hbt] at hbj
    have Hbt := Lib.hid hbt
    clear hbt
    obtain ⟨cs, hcs, hcsz, hcp⟩ := HRI2.out (by omega)
    rw [HE1.out] at r0
    have HCS := Lib.hid hcs; have HCP := Lib.hid hcp
    clear hcs hcp
    go_wp2
    refine wp_region_still_tail 15 (by kernel_rfl) (by kernel_rfl) ?_
    simp only [List.take_succ_cons, List.take_zero, List.drop_succ_cons, List.drop_zero]
    iterate 13 still_step
    refine wpStill_load_mid (by simp [Region.wanted]) 84 (.tmp 36) rfl bL (oL + j * 65 + 1) rfl (secv y) (.array 64 5) HR.out Tryz.underlying84 rfl (by rw [hyl]; exact size_sec) ?_
    still_step
    refine wpStill_nil ?_
    go_wp2_with ((with_reducible show wpList _ _ _ (⟨none, .store 84 _ _, _, _, _, _⟩ :: _) _ _); refine hold ?_)
    refine held (wpList_store_wide rfl 84 (.tmp 38) (.tmp 37) rfl g1 (k * 64) (secv y).toArray rfl rfl 84 cs HCS.out.drew (by simp only [List.size_toArray, hyl]; omega) (by simp only [List.size_toArray, hyl]; kernel_rfl) (by simpa using secv_one y) ?_)
    intro w3 hw3
    have e3 := hw3.out
    have D0 : Bk w3 w.heap.size 27 #[.slice A n1 c, .slice (some ⟨bL, oL, none⟩) n' c', .int .i64 d.fuse, .bool d.down] := by rw [e3]; exact HC0.out.drew.setRow_other (by omega) _
    have D1 : Bk w3 (w.heap.size + 1) 27 #[.slice none 0 0, .slice none 0 0, .int .i64 0, .bool false] := by rw [e3]; exact HC1.out.drew.setRow_other (by omega) _
    have D5 : Bk w3 w1.heap.size 27 #[.slice A1 n1 c1, .slice none 0 0, .int .i64 d.fuse, .bool d.down] := by rw [e3]; exact HC5.out.drew.setRow_other (by omega) _
    have DR : RowsIn w3 g1 n1 (curD (bitM m) d (j + 1)) := by
     rw [e3, Hst.out, if_pos Hbt.out]
     exact RowsIn.set HCS.out.drew hcsz HCP.out (by rw [curD_length, HN.out]) (HCD.out j) hk HX.out
    have hbb : Below w.heap.size w w3 := by rw [e3]; exact below_setRow HBR.out.drew (by omega) _
    have HD0 := Lib.hid D0; have HD1 := Lib.hid D1; have HD5 := Lib.hid D5; have HDR := Lib.hid DR; have HBB := Lib.hid hbb
    clear hw3 e3 D0 D1 D5 DR hbb p0 p1 p2 p3 r0 r1 r2 r3 hcell
    go_wp2
    go_roundw
    case rel => exact ⟨j + 1, by omega, by go_num, HD0.out, HD1.out, HD5.out, HDR.out, HBB.out⟩
    case measure => simp [intOf]; omega
   ·have hbt' : bitM m j = false := by simpa using hbt
    rw [hbt'] at hbj
    have Hbt := Lib.hid hbt'
    clear hbt hbt'
    go_wp2
    go_roundw
    case rel => exact ⟨j + 1, by omega, by go_num, HC0.out, HC1.out, HC5.out, by rw [Hst.out, if_neg (by rw [Hbt.out]; simp)]; exact HRI2.out, HBR.out⟩
    case measure => simp [intOf]; omega
  ·have hjn : j = n' := by omega
   have hcur : curD (bitM m) d j = doneM (bitM m) 0 d.secs d.loose := by rw [hjn, ← HN'.out]; exact curD_all _ d
   have hlen := curD_length (bitM m) d j
   have h64 := HCD.out j
   rw [hcur] at hRI hlen h64
   rw [HN.out] at hlen
   have HRI2 := Lib.hid hRI; have HBR := Lib.hid hbr; have HC1 := Lib.hid C1; have Hlen := Lib.hid hlen; have H64 := Lib.hid h64
   obtain ⟨⟨s0, s1, s2, s3⟩, t0, t1, t2, t3⟩ := C1.four
   clear hjn hcur hRI hbr C0 C1 C5 hlen h64
   go_wp2
   refine bodyPost_ret (v := .agg #[.slice A1 n1 c1, .slice none 0 0, .int .i64 d.fuse, .bool d.down]) (by simp [results, Tryz.results25, go_sem, *]) rfl ?_
   refine ⟨_, rfl, ⟨A1, n1, c1, none, 0, 0, rfl, RowsIn.out (g := g1) ?_ (fun h => (HA1.out h).1) (by omega) hnc1 hc1 Hlen.out H64.out, ⟨none, 0, rfl, Nat.le_refl _, by simp, rfl, by simp, fun h => absurd h (by omega)⟩⟩, ?_⟩
   ·repeat (first | with_reducible exact HRI2.out | (refine RowsIn.far ?_ (by show g1 ≠ _; simp only []; omega) _))
   ·repeat (first | with_reducible exact HBR.out | (refine Below.setCell ?_ (by first | omega | (simp; done) | (simp; omega)) _))
end Go.Proofs.YtcdehejgnnnimaaGreatDoor
namespace Go.Proofs.YtcdehejgnnnimaaGreatDoor
set_option linter.unusedVariables false
set_option linter.unusedSimpArgs false
open Go.RowKit
theorem RowsOut.alloc {w : World} {base k n : Nat} {e : TypeId} {v : Value} {xs : List (List Value)} (h : RowsOut w base e k v n xs) (o : Obj) : RowsOut (w.alloc o) base e k v n xs := h.below ((Below.refl _ _).alloc (Nat.le_refl _) _)
set_option maxRecDepth 20000 in
set_option maxHeartbeats 2000000 in
theorem rstart_any (v : Value) (d : Dk) (m : Nat) (hm : m < 18446744073709551616) (w : World) (hd : DkAt w w.heap.size v d) :
 Calls Tryz.prog 12 #[v, .int .u64 (m : Int)] w (DkRes w (startM d m)) := by
 have hdW := fun W => hd.later (W := W)
 obtain ⟨A, n, c, A', n', c', rfl, hnc, hnc', hc, hc', hS, hL⟩ := hd
 have HS := Lib.hid hS; have HL := Lib.hid hL; clear hS hL
 have Hd := Lib.hid hdW; clear hdW
 by_cases hr : rightB d = true
 ·have hM : startM d m = (⟨doneM (bitM m) 0 d.secs d.loose, [], -1, false⟩, 0) := by unfold startM; rw [if_pos hr]
  rw [hM]
  clear hM
  go_enter Tryz.func12, Tryz.ntmps12
  go_wp2_with fail
  refine (rright_any _ d _ ?hd).mono ?_
  case hd => exact Hd.out _ (by repeat (first | with_reducible exact Below.refl _ _ | (refine Below.alloc ?_ (by simp <;> omega) _)))
  rintro e w1 ⟨rfl, hb1⟩
  have B0 : Bk w1 w.heap.size 27 _ := Bk.below ((Bk.new w 27 _).alloc _) hb1 (by simp only [World.size_alloc]; omega)
  have B1 : Bk w1 (w.heap.size + 1) 27 _ := Bk.below (Bk.new2 _ _ 27 _) hb1 (by simp only [World.size_alloc]; omega)
  have hb : Below w.heap.size w w1 := (((Below.refl _ _).alloc (Nat.le_refl _) _).alloc (by simp) _).trans (hb1.mono (by simp only [World.size_alloc]; omega))
  obtain ⟨⟨p0, p1, p2, p3⟩, -⟩ := B0.four
  have HB1 := Lib.hid B1; have HW := Lib.hid hb
  have hlt : w.heap.size + 1 < w1.heap.size := B1.lt
  clear B0 B1 hb hb1
  go_wp2_with fail
  refine (rdone_any _ d m hm _ (Hd.out _ HW.out) hr).mono ?_
  rintro e w2 ⟨v2, rfl, ⟨A2, n2, c2, A2', n2', c2', rfl, hR2, hR2'⟩, hb2⟩
  have B1 := HB1.out.below hb2 hlt
  have hbw : Below w.heap.size w w2 := HW.out.trans (hb2.mono (by omega))
  obtain ⟨⟨s0, s1, s2, s3⟩, t0, t1, t2, t3⟩ := B1.four
  have hlt2 : w.heap.size + 1 < w2.heap.size := B1.lt
  have hn2' : n2' = 0 := by obtain ⟨_, _, e, _, _, hl, _⟩ := hR2'; injection e with _ e2; simpa using hl.symm
  subst hn2'
  have HR2 := Lib.hid hR2; have HR2' := Lib.hid hR2'; have HBW := Lib.hid hbw
  clear B1 hR2 hR2' hbw hb2 p0 p1 p2 p3 HB1 HW
  go_wp2
  refine bodyPost_ret (v := .tuple #[.agg #[.slice A2 n2 c2, .slice A2' 0 c2', .int .i64 (-1), .bool false], .int .i64 0]) (by simp [results, Tryz.results12, go_sem, *]) rfl ?_
  refine ⟨_, rfl, DkOut.at_ (base := w1.heap.size) ⟨A2, n2, c2, A2', 0, c2', rfl, ?_, ?_⟩, ?_⟩
  ·repeat (first | with_reducible exact HR2.out | (with_reducible refine RowsOut.alloc ?_ _) | (with_reducible refine RowsOut.box ?_ ?hp _; (case hp => first | omega | (simp; done) | (simp; omega))))
  ·repeat (first | with_reducible exact HR2'.out | (with_reducible refine RowsOut.alloc ?_ _) | (with_reducible refine RowsOut.box ?_ ?hp _; (case hp => first | omega | (simp; done) | (simp; omega))))
  ·repeat (first | with_reducible exact HBW.out | (with_reducible refine Below.alloc ?_ ?hp _; (case hp => first | omega | (simp; done) | (simp; omega))) | (with_reducible refine Below.setCell ?_ ?hp _; (case hp => first | omega | (simp; done) | (simp; omega))))
 ·have hr' : rightB d = false := by simpa using hr
  have hM : startM d m = (d, 1) := by unfold startM; rw [if_neg hr]
  rw [hM]
  clear hM hr
  go_enter Tryz.func12, Tryz.ntmps12
  go_wp2_with fail
  refine (rright_any _ d _ ?hd).mono ?_
  case hd => exact Hd.out _ (by repeat (first | with_reducible exact Below.refl _ _ | (refine Below.alloc ?_ (by simp <;> omega) _)))
  rintro e w1 ⟨rfl, hb1⟩
  have B0 : Bk w1 w.heap.size 27 _ := Bk.below ((Bk.new w 27 _).alloc _) hb1 (by simp only [World.size_alloc]; omega)
  have B1 : Bk w1 (w.heap.size + 1) 27 _ := Bk.below (Bk.new2 _ _ 27 _) hb1 (by simp only [World.size_alloc]; omega)
  have hb : Below w.heap.size w w1 := (((Below.refl _ _).alloc (Nat.le_refl _) _).alloc (by simp) _).trans (hb1.mono (by simp only [World.size_alloc]; omega))
  obtain ⟨⟨p0, p1, p2, p3⟩, -⟩ := B0.four
  obtain ⟨⟨s0, s1, s2, s3⟩, t0, t1, t2, t3⟩ := B1.four
  have HW := Lib.hid hb
  clear B0 B1 hb hb1
  go_wp2
  refine bodyPost_ret (v := .tuple #[.agg #[.slice A n c, .slice A' n' c', .int .i64 d.fuse, .bool d.down], .int .i64 1]) (by simp [results, Tryz.results12, go_sem, *]) rfl ?_
  refine DkRes.same rfl HS.out HL.out hnc hnc' hc hc' ?_
  repeat (first | with_reducible exact HW.out | (with_reducible refine Below.alloc ?_ ?hp _; (case hp => first | omega | (simp; done) | (simp; omega))) | (with_reducible refine Below.setCell ?_ ?hp _; (case hp => first | omega | (simp; done) | (simp; omega))))
end Go.Proofs.YtcdehejgnnnimaaGreatDoor
