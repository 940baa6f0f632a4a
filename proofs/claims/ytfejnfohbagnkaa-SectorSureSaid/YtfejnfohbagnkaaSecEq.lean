/-
  Comparing arrays of bytes, and writes, as the program does: each byte in order. Laws for the walks over package sector.
-/
import Derived.Test.YtfejnfohbagnkaaSecLaws
import Derived.ChangeKeysEq
import Derived.Laws.StructEq
namespace Go.Proofs.Ytfejnfohbagnkaa
open Go.RowKit

section
variable {P : Program}

theorem run_part_int (w : World) {e : TypeId} {k : IntKind} (he : P.underlying e = some (.int k)) (cs : Array Value) (off : Nat) (v : Value) (hv : cs[off]? = some v) : (part e cs off).run P w = .ok v w := by
  have hagg : (isAgg e).run P w = .ok false w := by
    unfold isAgg
    rw [Sem.run_bind, run_underlying he w]
    simp
  simp [part, hagg, hv]

theorem run_eq_items (d : Nat) {e : TypeId} (he : P.underlying e = some (.int .u8)) (a b : List Int) : ∀ (is : List Nat) (w : World), (∀ i ∈ is, i < a.length ∧ i < b.length) →
    (Op.eqItems (d + 1) e 1 (secv a).toArray (secv b).toArray is).run P w = .ok (is.all fun i => a.getD i 0 == b.getD i 0) w
  | [], w, _ => by simp [Op.eqItems]
  | i :: r, w, h => by
    obtain ⟨ha, hb⟩ := h i (by simp)
    have h1 : (secv a).toArray[i * 1]? = some (.int .u8 (a.getD i 0)) := by simp [secv, ha]
    have h2 : (secv b).toArray[i * 1]? = some (.int .u8 (b.getD i 0)) := by simp [secv, hb]
    have ih := run_eq_items d he a b r w (fun j hj => h j (by simp [hj]))
    simp only [Op.eqItems, Sem.run_bind, run_part_int w he _ _ _ h1, run_part_int w he _ _ _ h2, Result.andThen_ok, run_equalIn_int w d e .u8 .u8 _ _ he]
    by_cases hab : (a.getD i 0 == b.getD i 0) = true
    · rw [hab]
      simp only [Bool.not_true, Bool.false_eq_true, if_false, ih, List.all_cons, hab, Bool.true_and]
    · have hab' : (a.getD i 0 == b.getD i 0) = false := by simpa using hab
      rw [hab']
      simp only [Bool.not_false, if_true, Sem.run_pure, List.all_cons, hab', Bool.false_and]

theorem all_eq {n : Nat} {a b : List Int} (ha : a.length = n) (hb : b.length = n) : ((List.range n).all fun i => a.getD i 0 == b.getD i 0) = decide (a = b) := by
  rw [Bool.eq_iff_iff, List.all_eq_true, decide_eq_true_eq]
  constructor
  · intro h
    apply List.ext_getElem
    · rw [ha, hb]
    · intro i h1 h2
      have := h i (by simp; omega)
      simpa [h1, h2] using this
  · rintro rfl i _
    simp

theorem run_equalIn_sec (w : World) (d : Nat) {t e : TypeId} {n : Nat} {i : TypeInfo} (ht : P.underlying t = some (.array n e)) (he : P.underlying e = some (.int .u8)) (hi : P.info? e = some i) (hc : P.cellsOf e = 1) {a b : List Int} (ha : a.length = n) (hb : b.length = n) :
    (Op.equalIn (d + 2) t (.agg (secv a).toArray) (.agg (secv b).toArray)).run P w = .ok (decide (a = b)) w := by
  rw [run_equalIn_array w (d + 1) _ _ ht hi, hc, run_eq_items d he a b _ w (fun j hj => by simp at hj; omega), all_eq ha hb]

theorem run_eql_sec (w : World) {t e : TypeId} {n : Nat} {i : TypeInfo} (ht : P.underlying t = some (.array n e)) (he : P.underlying e = some (.int .u8)) (hi : P.info? e = some i) (hc : P.cellsOf e = 1) {a b : List Int} (ha : a.length = n) (hb : b.length = n) :
    (binOp .eql t (.agg (secv a).toArray) (.agg (secv b).toArray)).run P w = .ok (.bool (decide (a = b))) w := by
  simp only [binOp]
  simp [Op.equal, Op.maxDepth, run_equalIn_sec w 9998 ht he hi hc ha hb]
theorem run_neq_sec (w : World) {t e : TypeId} {n : Nat} {i : TypeInfo} (ht : P.underlying t = some (.array n e)) (he : P.underlying e = some (.int .u8)) (hi : P.info? e = some i) (hc : P.cellsOf e = 1) {a b : List Int} (ha : a.length = n) (hb : b.length = n) :
    (binOp .neq t (.agg (secv a).toArray) (.agg (secv b).toArray)).run P w = .ok (.bool (!decide (a = b))) w := by
  simp only [binOp]
  simp [Op.equal, Op.maxDepth, run_equalIn_sec w 9998 ht he hi hc ha hb]

/-! ### guarded operations -/
theorem wpList_wanted {ops : Array Oper} {rest : List Oper} {o : Oper} {a : Act} {w : World} {Q : Exit → Act → World → Prop} (hw : Region.wanted o (yielded ops a.tmps) = true)
    (h : ∀ K : Act → World → Prop, (∀ a w, wpList P ops Q rest a w → K a w) → o.wp P a w K Q) : wpList P ops Q (o :: rest) a w :=
  wpList_step fun K hK => by rw [if_pos hw]; exact h K hK

/-- a whole sector out of the middle of a block, where the operation is guarded -/
theorem wpList_load_if {ops : Array Oper} {rest : List Oper} {op : Oper} {a : Act} {w : World} {Q : Exit → Act → World → Prop} (hgd : Region.wanted op (yielded ops a.tmps) = true) (ty : TypeId) (x : Operand) (ho : op.op = .load ty x)
    (b o : Nat) (hx : a.eval x = .pointer (some ⟨b, o, none⟩)) (cs : List Value) (d : TypeDesc) (hc : w.rangeAt b o cs)
    (hu : P.underlying ty = some d) (hd : d.isRow = true) (hi : (P.info? ty).map (·.size) = some cs.length)
    (h : wpList P ops Q rest (a.put op.dst (.agg cs.toArray)) w) : wpList P ops Q (op :: rest) a w :=
  wpList_wanted hgd fun _ hK => wp_load_mid ty x ho b o hx cs d hc hu hd hi (hK _ _ h)
end
end Go.Proofs.Ytfejnfohbagnkaa
