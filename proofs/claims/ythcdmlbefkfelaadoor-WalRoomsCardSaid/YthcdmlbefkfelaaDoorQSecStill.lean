/-
  A region that leaves its order open and only reads, with whole sectors and writes among what it reads: laws for such walks; and what slices.Equal answers of two lists of sectors, and of writes.
-/
import Derived.Test.YthcdmlbefkfelaaDoorQSecStart
import Derived.Test.YthcdmlbefkfelaaDoorQSecWords
import Derived.StillTailTactics
import Derived.Test.YthcdmlbefkfelaaDoorQRefRight
namespace Go.Proofs.YthcdmlbefkfelaaDoor
set_option linter.unusedVariables false
set_option linter.unusedSimpArgs false
open Go.RowKit

section
variable {P : Program} {ops : Array Oper} {w : World}
theorem wpStill_value {Q : Act → Prop} {a : Act} {o : Oper} {rest : List Oper} {v : Value} (hw : Region.wanted o (yielded ops a.tmps) = true) (hv : (execOp a.eval o).run P w = .ok (.value v) w)
    (h : wpStill P ops w Q rest (a.put o.dst v)) : wpStill P ops w Q (o :: rest) a := by
  unfold wpStill
  rw [if_pos hw]
  unfold Oper.still
  rw [hv]
  exact ⟨rfl, h⟩
theorem wpStill_load_mid {Q : Act → Prop} {a : Act} {op : Oper} {rest : List Oper} (hw : Region.wanted op (yielded ops a.tmps) = true) (ty : TypeId) (x : Operand) (ho : op.op = .load ty x)
    (b o : Nat) (hx : a.eval x = .pointer (some ⟨b, o, none⟩)) (cs : List Value) (d : TypeDesc) (hc : w.rangeAt b o cs)
    (hu : P.underlying ty = some d) (hd : d.isRow = true) (hi : (P.info? ty).map (·.size) = some cs.length)
    (h : wpStill P ops w Q rest (a.put op.dst (.agg cs.toArray))) : wpStill P ops w Q (op :: rest) a := by
  refine wpStill_value hw ?_ h
  unfold execOp
  simp only [ho, hx, Instr.loadAt, Instr.sureAddr, Sem.run_bind, Sem.run_pure, Result.andThen_ok, run_loadVar_mid w b o ty cs d hc hu hd hi]
end

theorem Arr.rows_at {w : World} {B n : Nat} {A : Option Addr} {α : Type} {f : α → List Value} {k : Nat} {l : List α} (h : Arr w B k A n (l.map f)) {i : Nat} (hi : i < l.length) : ∃ b o, A = some ⟨b, o, none⟩ ∧ b < B ∧ w.rangeAt b (o + i * k) (f l[i]) := by
  have hn : l.length = n := by simpa using h.1
  obtain ⟨b, o, e, hb, hr⟩ := h.at_ (i := i) (by omega)
  refine ⟨b, o, e, hb, ?_⟩
  have : (l.map f).getD i [] = f l[i] := by simp [hi]
  rwa [this] at hr

theorem rows_eq_step {α : Type} [DecidableEq α] (l m : List α) (i : Nat) (h : l.take i = m.take i) (hl : l.length = m.length) (hi : i < l.length) :
    (l[i] = m[i]'(by omega) → l.take (i + 1) = m.take (i + 1)) ∧ (¬ l[i] = m[i]'(by omega) → decide (l = m) = false) := by
  constructor
  · intro e
    rw [List.take_succ_eq_append_getElem hi, List.take_succ_eq_append_getElem (by omega : i < m.length), h, e]
  · intro e
    rw [decide_eq_false_iff_not]
    rintro rfl
    exact e rfl

end Go.Proofs.YthcdmlbefkfelaaDoor

/-
  Comparing writes as the program does: the place first, then each byte in order; and what slices.Equal answers of two lists of writes.
-/
namespace Go.Proofs.YthcdmlbefkfelaaDoor
set_option linter.unusedVariables false
set_option linter.unusedSimpArgs false
open Go.RowKit

theorem run_part_agg {P : Program} (w : World) {t : TypeId} {n : Nat} {e : TypeId} {i : TypeInfo} (ht : P.underlying t = some (.array n e)) (hi : P.info? t = some i) (cs : Array Value) (off : Nat) : (part t cs off).run P w = .ok (.agg (cs.extract off (off + i.size))) w := by
  have hagg : (isAgg t).run P w = .ok true w := by
    unfold isAgg
    rw [Sem.run_bind, run_underlying ht w]
    simp
  simp [part, hagg, sizeOf, typeInfo, hi]

theorem wr_fields : Tryd.prog.fieldsOf 83 = #[{ name := "At", type := 3, offset := 0, embedded := false, tag := "", pkgPath := "", byteOffset := 0 }, { name := "Data", type := 69, offset := 1, embedded := false, tag := "", pkgPath := "", byteOffset := 8 }] := by kernel_rfl
theorem wr_stood : Tryd.prog.stoodInHeld 83 = false := by kernel_rfl
theorem wr_under : Tryd.prog.underlying 83 = some (.struct (Tryd.prog.fieldsOf 83)) := by rw [wr_fields]; exact Tryd.underlying83
theorem u8_cells : Tryd.prog.cellsOf 5 = 1 := by kernel_rfl
theorem wr_extract (x : Int × List Int) (hx : x.2.length = 64) : (wrv x).toArray.extract 1 65 = (secv x.2).toArray := by
  apply Array.ext'
  simp only [wrv, secv, Array.toList_extract, List.extract_eq_take_drop, List.drop_succ_cons, List.drop_zero]
  rw [List.take_of_length_le (by simp [hx])]

theorem eqFields_cons {P : Program} (w : World) (d : Nat) (xs ys : Array Value) (f : Field) (fs : List Field) (x y : Value) (r : Bool) (hn : f.name ≠ "_") (ha : (part f.type xs f.offset).run P w = .ok x w) (hb : (part f.type ys f.offset).run P w = .ok y w)
    (hr : (Op.equalIn d f.type x y).run P w = .ok r w) : (Op.eqFields d xs ys (f :: fs)).run P w = if r = true then (Op.eqFields d xs ys fs).run P w else .ok false w := by
  simp only [Op.eqFields, hn, ne_eq, not_false_eq_true, if_true, Sem.run_bind, ha, hb, hr, Result.andThen_ok]
  cases r <;> simp

theorem wr_pair (x y : Int × List Int) : decide (x = y) = (decide (x.1 = y.1) && decide (x.2 = y.2)) := by
  rw [Bool.eq_iff_iff]
  simp [Prod.ext_iff]

def fAt : Field := { name := "At", type := 3, offset := 0, embedded := false, tag := "", pkgPath := "", byteOffset := 0 }
def fData : Field := { name := "Data", type := 69, offset := 1, embedded := false, tag := "", pkgPath := "", byteOffset := 8 }
theorem wr_list : (Tryd.prog.fieldsOf 83).toList = [fAt, fData] := by rw [wr_fields]; rfl
theorem fAt_name : fAt.name ≠ "_" := by decide
theorem fData_name : fData.name ≠ "_" := by decide

theorem run_equalIn_wr (w : World) (d : Nat) (x y : Int × List Int) (hx : x.2.length = 64) (hy : y.2.length = 64) :
    (Op.equalIn (d + 3) 83 (.agg (wrv x).toArray) (.agg (wrv y).toArray)).run Tryd.prog w = .ok (decide (x = y)) w := by
  obtain ⟨i8, hi8⟩ : ∃ i, Tryd.prog.info? 5 = some i := Option.isSome_iff_exists.1 (by kernel_rfl)
  obtain ⟨iS, hiS⟩ : ∃ i, Tryd.prog.info? 69 = some i := Option.isSome_iff_exists.1 (by kernel_rfl)
  have hS : iS.size = 64 := by
    have := size_sec
    rw [hiS] at this
    simpa using this
  have p1 : (part fAt.type (wrv x).toArray fAt.offset).run Tryd.prog w = .ok (.int .i64 x.1) w := run_part_int w Tryd.underlying3 (wrv x).toArray 0 (.int .i64 x.1) rfl
  have p2 : (part fAt.type (wrv y).toArray fAt.offset).run Tryd.prog w = .ok (.int .i64 y.1) w := run_part_int w Tryd.underlying3 (wrv y).toArray 0 (.int .i64 y.1) rfl
  have p3 : (part fData.type (wrv x).toArray fData.offset).run Tryd.prog w = .ok (.agg (secv x.2).toArray) w := by
    have := run_part_agg w Tryd.underlying69 hiS (wrv x).toArray 1
    rw [hS, wr_extract x hx] at this
    exact this
  have p4 : (part fData.type (wrv y).toArray fData.offset).run Tryd.prog w = .ok (.agg (secv y.2).toArray) w := by
    have := run_part_agg w Tryd.underlying69 hiS (wrv y).toArray 1
    rw [hS, wr_extract y hy] at this
    exact this
  have q1 : (Op.equalIn (d + 2) fAt.type (.int .i64 x.1) (.int .i64 y.1)).run Tryd.prog w = .ok (decide (x.1 = y.1)) w := by
    have := run_equalIn_int w (d + 1) 3 .i64 .i64 x.1 y.1 Tryd.underlying3
    rwa [show (x.1 == y.1) = decide (x.1 = y.1) from rfl] at this
  have q2 : (Op.equalIn (d + 2) fData.type (.agg (secv x.2).toArray) (.agg (secv y.2).toArray)).run Tryd.prog w = .ok (decide (x.2 = y.2)) w := run_equalIn_sec w d Tryd.underlying69 Tryd.underlying5 hi8 u8_cells hx hy
  rw [run_equalIn_struct w (d + 2) 83 _ _ wr_under wr_stood, wr_list, eqFields_cons w _ _ _ fAt _ _ _ _ fAt_name p1 p2 q1, eqFields_cons w _ _ _ fData _ _ _ _ fData_name p3 p4 q2, wr_pair]
  have hnil : (Op.eqFields (d + 2) (wrv x).toArray (wrv y).toArray []).run Tryd.prog w = .ok true w := by unfold Op.eqFields; rfl
  rw [hnil]
  by_cases h1 : x.1 = y.1 <;> by_cases h2 : x.2 = y.2 <;> simp [h1, h2]

theorem run_neq_wr (w : World) (x y : Int × List Int) (hx : x.2.length = 64) (hy : y.2.length = 64) : (binOp .neq 83 (.agg (wrv x).toArray) (.agg (wrv y).toArray)).run Tryd.prog w = .ok (.bool (!decide (x = y))) w := by
  simp only [binOp]
  simp [Op.equal, Op.maxDepth, run_equalIn_wr w 9997 x y hx hy]

end Go.Proofs.YthcdmlbefkfelaaDoor

/-
  What Same answers of two disks, and what the document's own Same and Arm answer. Each leaves all older memory as it was.
-/
namespace Go.Proofs.YthcdmlbefkfelaaDoor
set_option linter.unusedVariables false
set_option linter.unusedSimpArgs false
open Go.RowKit

def sameB (a b : Dk) : Bool := decide (a.fuse = b.fuse) && (a.down == b.down) && decide (a.secs = b.secs) && decide (a.loose = b.loose)
theorem sameB_iff {a b : Dk} : sameB a b = true ↔ a = b := by
  unfold sameB
  cases a; cases b
  simp only [Bool.and_eq_true, decide_eq_true_eq, beq_iff_eq, Dk.mk.injEq]
  exact ⟨fun h => ⟨h.1.2, h.2, h.1.1.1, h.1.1.2⟩, fun h => ⟨⟨⟨h.2.2.1, h.2.2.2⟩, h.1⟩, h.2.1⟩⟩
theorem sameB_self (a : Dk) : sameB a a = true := sameB_iff.2 rfl

end Go.Proofs.YthcdmlbefkfelaaDoor
