/-
  A chain as it lies in memory: a head of thirty-two bytes and a number; how two are compared; results of three parts.
-/
import Derived.Test.YtoiffchhfnbooaaDoorQRecMath
import Derived.Test.YtoiffchhfnbooaaDoorQEventO
import Derived.Test.YtoiffchhfnbooaaDoorQEventF
import Derived.Laws.CopyOwn
import Derived.Test.YtoiffchhfnbooaaDoorQShaSum
import Derived.ChangeKeysEq
import Derived.Laws.StructEq
namespace Go.Proofs.YtoiffchhfnbooaaDoor
set_option linter.unusedVariables false
set_option linter.unusedSimpArgs false
open Go.RowKit
set_option linter.unusedVariables false
set_option linter.unusedSimpArgs false

def chC (c : Ch) : Array Value := (c.head.map bv ++ [Value.int .i64 c.count]).toArray
theorem chC_size {c : Ch} (h : c.Ok) : (chC c).size = 33 := by unfold chC; simp [h.1]
theorem chC_one (c : Ch) : ∀ v ∈ (chC c).toList, v.oneCell' = true := by
  intro v hv
  unfold chC at hv
  rcases List.mem_append.1 hv with h | h
  · exact bv_one _ v h
  · rw [List.mem_singleton.1 h]; rfl
theorem cb_one15 (l : List Nat) : ∀ v ∈ (cb l).toList, v.oneCell' = true := by unfold cb; exact bv_one l
theorem chC_32 {c : Ch} (h : c.Ok) : (chC c)[32]? = some (.int .i64 c.count) := by
  unfold chC
  rw [List.getElem?_toArray, List.getElem?_append_right (by rw [List.length_map, h.1]; exact Nat.le_refl _), List.length_map, h.1]
  rfl
theorem chC_at {c : Ch} (h : c.Ok) {i : Nat} (hi : i < 32) : (chC c)[i]? = some (.int .u8 ((byteAt c.head i : Nat) : Int)) := by
  unfold chC
  rw [List.getElem?_toArray, List.getElem?_append_left (by rw [List.length_map, h.1]; exact hi)]
  have := cb_at (l := c.head) (i := i) (by rw [h.1]; exact hi)
  unfold cb at this
  rwa [List.getElem?_toArray] at this
theorem chC_head {c : Ch} (h : c.Ok) : (chC c).extract 0 32 = cb c.head := by
  apply Array.ext'
  unfold chC cb
  simp only [Array.toList_extract, List.extract_eq_take_drop, List.drop_zero]
  rw [List.take_append_of_le_length (by rw [List.length_map, h.1]; exact Nat.le_refl _), List.take_of_length_le (by rw [List.length_map, h.1]; exact Nat.le_refl _)]
theorem ch0_cells : chC ch0 = (List.replicate 32 (Value.int .u8 0) ++ [Value.int .i64 0]).toArray := by
  unfold chC ch0 bv
  rw [List.map_replicate]
  rfl
theorem info_ch : (Tryd.prog.info? 26).map (·.size) = some 33 := by kernel_rfl
theorem info_ch' {c : Ch} (h : c.Ok) : (Tryd.prog.info? 26).map (·.size) = some (chC c).size := by rw [chC_size h]; exact info_ch
theorem info_chl {c : Ch} (h : c.Ok) : (Tryd.prog.info? 26).map (·.size) = some (chC c).toList.length := by rw [Array.length_toList]; exact info_ch' h
theorem info_h32 : (Tryd.prog.info? 24).map (·.size) = some 32 := by kernel_rfl
theorem Bk.ch {w : World} {b : Nat} {c : Ch} (H : Bk w b 26 (chC c)) (h : c.Ok) : (loadVar 26 ⟨b, 0, none⟩).run Tryd.prog w = .ok (.agg (chC c)) w := H.load Tryd.underlying26 rfl (info_ch' h)
theorem Bk.headRange {w : World} {b : Nat} {t : TypeId} {c : Ch} (H : Bk w b t (chC c)) (h : c.Ok) : w.rangeAt b 0 (cb c.head).toList := fun i v hv => by
  have hi : i < 32 := by
    have := (List.getElem?_eq_some_iff.1 hv).1
    rw [Array.length_toList, cb_size, h.1] at this
    exact this
  rw [Nat.zero_add, H.cell i, chC_at h hi]
  rw [Array.getElem?_toList, cb_at (by rw [h.1]; exact hi)] at hv
  exact hv
theorem Bk.headBytes {w : World} {b B : Nat} {t : TypeId} {c : Ch} (H : Bk w b t (chC c)) (h : c.Ok) (hB : b < B) : Bytes w B (some ⟨b, 0, none⟩) 32 c.head :=
  ⟨h.1, h.2, fun _ => ⟨b, 0, rfl, hB, fun i hi => by rw [Nat.zero_add, H.cell i]; exact chC_at h hi⟩⟩
theorem Bk.count {w : World} {b : Nat} {t : TypeId} {c : Ch} (H : Bk w b t (chC c)) (h : c.Ok) : w.cell? ⟨b, 32, none⟩ = some (.int .i64 c.count) := (H.cell 32).trans (chC_32 h)

/-! ### A part of a slice -/
theorem ch_size_u8 : (Tryd.prog.info? 5).map (·.size) = some 1 := by kernel_rfl
theorem Bytes.from15 {w : World} {B n c k : Nat} {A : Option Addr} {l : List Nat} (hl : Bytes w B A n l) (hk : k ≤ n) (hnc : n ≤ c) : Bytes w B (if c = k then A else A.map (·.add k)) (n - k) (l.drop k) := by
  have hB := hl.rest hk
  by_cases hck : c = k
  · have h0 : n - k = 0 := by omega
    rw [h0] at hB ⊢
    exact ⟨hB.1, hB.2.1, fun h => absurd h (Nat.lt_irrefl _)⟩
  · rw [if_neg hck]; exact hB
theorem run_from15 {P : Program} {t e : TypeId} (ht : P.underlying t = some (.slice e)) (hsz : (P.info? e).map (·.size) = some 1) (w : World) (A : Option Addr) (n c k : Nat) (hk : k ≤ n) (hnc : n ≤ c) :
    (Instr.sliceAt t (.slice A n c) (some (.int .i64 (k : Int))) none none).run P w = .ok (.slice (if c = k then A else A.map (·.add k)) (n - k) (c - k)) w := by
  have hel : P.elem t = e := by simp [Program.elem, ht]
  have ht' : P.underlying t = some (.slice (P.elem t)) := by rw [hel]; exact ht
  have hs : ∀ W : World, (sizeOf (P.elem t)).run P W = .ok 1 W := by
    intro W
    rw [hel]
    cases hq : P.info? e with
    | none => simp [hq] at hsz
    | some i =>
      have : i.size = 1 := by simpa [hq] using hsz
      simp [sizeOf, hq, this, go_sem, run_typeInfo _ hq]
  rw [run_sliceAt_slice w t _ _ _ _ ht', run_slice_l w t A n c ht' .i64 (k : Int) (by omega) (by omega), hs]
  simp only [Result.andThen_ok, sliced, Int.toNat_natCast, Nat.mul_one]
theorem exec_from15 {P : Program} {o : Oper} {ρ : Operand → Value} {w : World} {x lo : Operand} {t e : TypeId} (ho : o.op = .slice t x (some lo) none none) (ht : P.underlying t = some (.slice e)) (hsz : (P.info? e).map (·.size) = some 1)
    {A : Option Addr} {n c k : Nat} (hx : ρ x = .slice A n c) (hlo : ρ lo = .int .i64 (k : Int)) (hk : k ≤ n) (hnc : n ≤ c) : (execOp ρ o).run P w = .ok (.value (.slice (if c = k then A else A.map (·.add k)) (n - k) (c - k))) w := by
  unfold execOp
  simp [ho, hx, hlo, run_from15 ht hsz w A n c k hk hnc]
theorem wpList_from15 {P : Program} {ops : Array Oper} {rest : List Oper} {o : Oper} {a : Act} {w : World} {Q : Exit → Act → World → Prop} (hgd : o.guard = none) (x lo : Operand) (t e : TypeId)
    (ho : o.op = .slice t x (some lo) none none) (ht : P.underlying t = some (.slice e)) (hsz : (P.info? e).map (·.size) = some 1)
    (A : Option Addr) (n c k B : Nat) (l : List Nat) (hx : a.eval x = .slice A n c) (hlo : a.eval lo = .int .i64 (k : Int)) (hl : Bytes w B A n l) (hk : k ≤ n) (hnc : n ≤ c)
    (h : ∀ A' c', n - k ≤ c' → c' ≤ c → Bytes w B A' (n - k) (l.drop k) → wpList P ops Q rest (a.put o.dst (.slice A' (n - k) c')) w) : wpList P ops Q (o :: rest) a w :=
  wpList_plain hgd fun _ hK => wp_value (exec_from15 ho ht hsz hx hlo hk hnc) (hK _ _ (h _ _ (by omega) (by omega) (Bytes.from15 hl hk hnc)))
theorem exec_arr15 {P : Program} {o : Oper} {ρ : Operand → Value} {w : World} {ty e : TypeId} {x : Operand} (ho : o.op = .sliceToArrayPointer ty x) {a : Option Addr} {m k c : Nat} (hx : ρ x = .slice a m c) (hu : P.underlying ty = some (.array k e)) (hk : k ≤ m) : (execOp ρ o).run P w = .ok (.value (.pointer a)) w := by
  have hn : ¬ m < k := by omega
  unfold execOp
  simp [ho, hx, Instr.arrayAt, run_underlying hu, hn]

theorem Tabs.later15 {w w' : World} (h : Tabs w) (hb : Below w.heap.size w w') : Tabs w' := h.below hb h.pos

/-! ### Comparing -/
theorem run_part_int15 {P : Program} (w : World) {e : TypeId} {k : IntKind} (he : P.underlying e = some (.int k)) (cs : Array Value) (off : Nat) (v : Value) (hv : cs[off]? = some v) : (part e cs off).run P w = .ok v w := by
  have hagg : (isAgg e).run P w = .ok false w := by
    unfold isAgg
    rw [Sem.run_bind, run_underlying he w]
    simp
  simp [part, hagg, hv]
theorem run_eq_items15 {P : Program} (d : Nat) {e : TypeId} (he : P.underlying e = some (.int .u8)) (a b : List Nat) : ∀ (is : List Nat) (w : World), (∀ i ∈ is, i < a.length ∧ i < b.length) →
    (Op.eqItems (d + 1) e 1 (cb a) (cb b) is).run P w = .ok (is.all fun i => byteAt a i == byteAt b i) w
  | [], w, _ => by simp [Op.eqItems]
  | i :: r, w, h => by
    obtain ⟨ha, hb⟩ := h i (by simp)
    have h1 : (cb a)[i * 1]? = some (.int .u8 ((byteAt a i : Nat) : Int)) := by rw [Nat.mul_one]; exact cb_at ha
    have h2 : (cb b)[i * 1]? = some (.int .u8 ((byteAt b i : Nat) : Int)) := by rw [Nat.mul_one]; exact cb_at hb
    have ih := run_eq_items15 d he a b r w (fun j hj => h j (by simp [hj]))
    simp only [Op.eqItems, Sem.run_bind, run_part_int15 w he _ _ _ h1, run_part_int15 w he _ _ _ h2, Result.andThen_ok, run_equalIn_int w d e .u8 .u8 _ _ he]
    have hc : (((byteAt a i : Nat) : Int) == ((byteAt b i : Nat) : Int)) = (byteAt a i == byteAt b i) := by
      rw [Bool.eq_iff_iff]; simp; omega
    rw [hc]
    by_cases hab : (byteAt a i == byteAt b i) = true
    · rw [hab]
      simp only [Bool.not_true, Bool.false_eq_true, if_false, ih, List.all_cons, hab, Bool.true_and]
    · have hab' : (byteAt a i == byteAt b i) = false := by simpa using hab
      rw [hab']
      simp only [Bool.not_false, if_true, Sem.run_pure, List.all_cons, hab', Bool.false_and]
theorem all_eq15 {n : Nat} {a b : List Nat} (ha : a.length = n) (hb : b.length = n) : ((List.range n).all fun i => byteAt a i == byteAt b i) = decide (a = b) := by
  rw [Bool.eq_iff_iff, List.all_eq_true, decide_eq_true_eq]
  constructor
  · intro h
    apply List.ext_getElem
    · rw [ha, hb]
    · intro i h1 h2
      have := h i (by simp; omega)
      simpa [byteAt, h1, h2] using this
  · rintro rfl i _
    simp
theorem run_equalIn_head {P : Program} (w : World) (d : Nat) {t e : TypeId} {n : Nat} {i : TypeInfo} (ht : P.underlying t = some (.array n e)) (he : P.underlying e = some (.int .u8)) (hi : P.info? e = some i) (hc : P.cellsOf e = 1) {a b : List Nat} (ha : a.length = n) (hb : b.length = n) :
    (Op.equalIn (d + 2) t (.agg (cb a)) (.agg (cb b))).run P w = .ok (decide (a = b)) w := by
  rw [run_equalIn_array w (d + 1) _ _ ht hi, hc, run_eq_items15 d he a b _ w (fun j hj => by simp at hj; omega), all_eq15 ha hb]
theorem run_part_agg15 {P : Program} (w : World) {t : TypeId} {n : Nat} {e : TypeId} {i : TypeInfo} (ht : P.underlying t = some (.array n e)) (hi : P.info? t = some i) (cs : Array Value) (off : Nat) : (part t cs off).run P w = .ok (.agg (cs.extract off (off + i.size))) w := by
  have hagg : (isAgg t).run P w = .ok true w := by
    unfold isAgg
    rw [Sem.run_bind, run_underlying ht w]
    simp
  simp [part, hagg, sizeOf, typeInfo, hi]
theorem eqFields_cons15 {P : Program} (w : World) (d : Nat) (xs ys : Array Value) (f : Field) (fs : List Field) (x y : Value) (r : Bool) (hn : f.name ≠ "_") (ha : (part f.type xs f.offset).run P w = .ok x w) (hb : (part f.type ys f.offset).run P w = .ok y w)
    (hr : (Op.equalIn d f.type x y).run P w = .ok r w) : (Op.eqFields d xs ys (f :: fs)).run P w = if r = true then (Op.eqFields d xs ys fs).run P w else .ok false w := by
  simp only [Op.eqFields, hn, ne_eq, not_false_eq_true, if_true, Sem.run_bind, ha, hb, hr, Result.andThen_ok]
  cases r <;> simp
def fHead : Field := { name := "Head", type := 24, offset := 0, embedded := false, tag := "", pkgPath := "", byteOffset := 0 }
def fCount : Field := { name := "Count", type := 3, offset := 32, embedded := false, tag := "", pkgPath := "", byteOffset := 32 }
theorem ch_fields : Tryd.prog.fieldsOf 26 = #[fHead, fCount] := by kernel_rfl
theorem ch_stood : Tryd.prog.stoodInHeld 26 = false := by kernel_rfl
theorem ch_under : Tryd.prog.underlying 26 = some (.struct (Tryd.prog.fieldsOf 26)) := by rw [ch_fields]; exact Tryd.underlying26
theorem ch_list : (Tryd.prog.fieldsOf 26).toList = [fHead, fCount] := by rw [ch_fields]
theorem fHead_name : fHead.name ≠ "_" := by decide
theorem fCount_name : fCount.name ≠ "_" := by decide
theorem ch_u8_cells : Tryd.prog.cellsOf 5 = 1 := by kernel_rfl
theorem ch_pair (x y : Ch) : decide (x = y) = (decide (x.head = y.head) && decide (x.count = y.count)) := by
  obtain ⟨a, b⟩ := x
  obtain ⟨c, d⟩ := y
  rw [Bool.eq_iff_iff]
  simp
theorem run_equalIn_ch (w : World) (d : Nat) (x y : Ch) (hx : x.Ok) (hy : y.Ok) :
    (Op.equalIn (d + 3) 26 (.agg (chC x)) (.agg (chC y))).run Tryd.prog w = .ok (decide (x = y)) w := by
  obtain ⟨i8, hi8⟩ : ∃ i, Tryd.prog.info? 5 = some i := Option.isSome_iff_exists.1 (by kernel_rfl)
  obtain ⟨iS, hiS⟩ : ∃ i, Tryd.prog.info? 24 = some i := Option.isSome_iff_exists.1 (by kernel_rfl)
  have hS : iS.size = 32 := by
    have := info_h32
    rw [hiS] at this
    simpa using this
  have p1 : (part fCount.type (chC x) fCount.offset).run Tryd.prog w = .ok (.int .i64 x.count) w := run_part_int15 w Tryd.underlying3 (chC x) 32 (.int .i64 x.count) (chC_32 hx)
  have p2 : (part fCount.type (chC y) fCount.offset).run Tryd.prog w = .ok (.int .i64 y.count) w := run_part_int15 w Tryd.underlying3 (chC y) 32 (.int .i64 y.count) (chC_32 hy)
  have p3 : (part fHead.type (chC x) fHead.offset).run Tryd.prog w = .ok (.agg (cb x.head)) w := by
    have := run_part_agg15 w Tryd.underlying24 hiS (chC x) 0
    rw [hS, Nat.zero_add, chC_head hx] at this
    exact this
  have p4 : (part fHead.type (chC y) fHead.offset).run Tryd.prog w = .ok (.agg (cb y.head)) w := by
    have := run_part_agg15 w Tryd.underlying24 hiS (chC y) 0
    rw [hS, Nat.zero_add, chC_head hy] at this
    exact this
  have q1 : (Op.equalIn (d + 2) fCount.type (.int .i64 x.count) (.int .i64 y.count)).run Tryd.prog w = .ok (decide (x.count = y.count)) w := by
    have := run_equalIn_int w (d + 1) 3 .i64 .i64 x.count y.count Tryd.underlying3
    rwa [show (x.count == y.count) = decide (x.count = y.count) from rfl] at this
  have q2 : (Op.equalIn (d + 2) fHead.type (.agg (cb x.head)) (.agg (cb y.head))).run Tryd.prog w = .ok (decide (x.head = y.head)) w := run_equalIn_head w d Tryd.underlying24 Tryd.underlying5 hi8 ch_u8_cells hx.1 hy.1
  rw [run_equalIn_struct w (d + 2) 26 _ _ ch_under ch_stood, ch_list, eqFields_cons15 w _ _ _ fHead _ _ _ _ fHead_name p3 p4 q2, eqFields_cons15 w _ _ _ fCount _ _ _ _ fCount_name p1 p2 q1, ch_pair]
  have hnil : (Op.eqFields (d + 2) (chC x) (chC y) []).run Tryd.prog w = .ok true w := by unfold Op.eqFields; rfl
  rw [hnil]
  by_cases h1 : x.count = y.count <;> by_cases h2 : x.head = y.head <;> simp [h1, h2]
theorem run_neq_ch (w : World) (x y : Ch) (hx : x.Ok) (hy : y.Ok) : (binOp .neq 26 (.agg (chC x)) (.agg (chC y))).run Tryd.prog w = .ok (.bool (!decide (x = y))) w := by
  simp only [binOp]
  simp [Op.equal, Op.maxDepth, run_equalIn_ch w 9997 x y hx hy]
theorem run_eql_ch (w : World) (x y : Ch) (hx : x.Ok) (hy : y.Ok) : (binOp .eql 26 (.agg (chC x)) (.agg (chC y))).run Tryd.prog w = .ok (.bool (decide (x = y))) w := by
  simp only [binOp]
  simp [Op.equal, Op.maxDepth, run_equalIn_ch w 9997 x y hx hy]

/-! ### Values put together -/
theorem fold_set15 (off : Nat) : ∀ (l : List Value) (i : Nat) (cs : Array Value), off + i + l.length ≤ cs.size →
    ((l.zipIdx i).foldl (fun (cs : Array Value) (x : Value × Nat) => cs.setIfInBounds (off + x.2) x.1) cs).toList = splice cs.toList (off + i) l
  | [], i, cs, h => by simp [splice]
  | v :: r, i, cs, h => by
    have h' : off + (i + 1) + r.length ≤ (cs.setIfInBounds (off + i) v).size := by simp at h ⊢; omega
    rw [List.zipIdx_cons, List.foldl_cons, fold_set15 off r (i + 1) _ h']
    have e := list_seg_step cs.toList (off + i) v r (by simp at h ⊢; omega)
    simp only [splice, Array.toList_setIfInBounds, List.length_cons]
    have e1 : off + (i + 1) = off + i + 1 := by omega
    rw [e1]
    simpa [Nat.add_assoc] using e
theorem built_ch0 : Tryd.prog.built 26 [] = some (chC ch0) := by kernel_rfl
theorem built_ch1 (z : Int) : Tryd.prog.built 26 [(1, .int .i64 z)] = some (chC ⟨List.replicate 32 0, z⟩) := by kernel_rfl
theorem built_ch {l : List Nat} (z : Int) (hl : l.length = 32) : Tryd.prog.built 26 [(0, .agg (cb l)), (1, .int .i64 z)] = some (chC ⟨l, z⟩) := by
  have h : ∀ parts, Tryd.prog.built 26 parts = Instr.fill (#[((0 : Nat), (32 : Nat)), (32, 1)][·]?) (chC ch0) parts := fun _ => by kernel_rfl
  rw [h]
  have hl2 : (cb l).size = 32 := by rw [cb_size, hl]
  have hz : (chC ch0).size = 33 := rfl
  have h1 := fold_set15 0 (l.map bv) 0 (chC ch0) (by rw [hz, List.length_map, hl]; omega)
  have e1 : ((cb l).zipIdx.foldl (fun (cs : Array Value) (x : Value × Nat) => cs.setIfInBounds (0 + x.2) x.1) (chC ch0)) = (l.map bv ++ [Value.int .i64 0]).toArray := by
    apply Array.ext'
    rw [← Array.foldl_toList, Array.toList_zipIdx]
    show ((l.map bv).zipIdx.foldl (fun (cs : Array Value) (x : Value × Nat) => cs.setIfInBounds (0 + x.2) x.1) (chC ch0)).toList = _
    rw [h1, ch0_cells]
    simp [splice, hl]
  have hf0 : Instr.fill (#[((0 : Nat), (32 : Nat)), (32, 1)][·]?) (chC ch0) [(0, .agg (cb l)), (1, .int .i64 z)] = Instr.fill (#[((0 : Nat), (32 : Nat)), (32, 1)][·]?) (l.map bv ++ [Value.int .i64 0]).toArray [(1, .int .i64 z)] := by
    conv => lhs; unfold Instr.fill
    have hc : (Value.agg (cb l)).cells = cb l := rfl
    simp only [hc, hl2, hz]
    show (if (32 ≠ 32 || 0 + 32 > 33) = true then none else Instr.fill _ _ _) = _
    rw [if_neg (by decide)]
    exact congrArg (fun a => Instr.fill (#[((0 : Nat), (32 : Nat)), (32, 1)][·]?) a [(1, Value.int .i64 z)]) e1
  rw [hf0]
  simp [Instr.fill, Value.cells, hl, chC]
theorem exec_build15 {P : Program} {o : Oper} {ρ : Operand → Value} {w : World} {t : TypeId} {parts : Array (Nat × Operand)} (ho : o.op = .build t parts) {vals : List (Nat × Value)} (hv : (parts.toList.map fun p => (p.1, ρ p.2)) = vals) {cells : Array Value} (hb : P.built t vals = some cells) :
    (execOp ρ o).run P w = .ok (.value (.agg cells)) w := by
  unfold execOp
  simp only [ho, Sem.run_bind, run_build w t _ cells (by rw [Array.toList_map]; exact hv ▸ hb), Result.andThen_ok]
  rfl
theorem exec_store15 {P : Program} {o : Oper} {ρ : Operand → Value} {w : World} {ty : TypeId} {x y : Operand} (ho : o.op = .store ty x y) {g : Nat} (hx : ρ x = .pointer (some ⟨g, 0, none⟩)) {ds cur : Array Value} (hy : ρ y = .agg ds) {t : TypeId} (hg : Bk w g t cur) (hs : ds.size = cur.size)
    (hi : (P.info? ty).map (·.size) = some ds.size) (h1 : ∀ v ∈ ds.toList, v.oneCell' = true) : (execOp ρ o).run P w = .ok .skip (w.setRow g ds) := exec_store ho hx hy hg hs hi h1
theorem ch_setRow {w w' : World} {g : Nat} {x y : Ch} (h : Hid (w' = w.setRow g (splice (chC x).toList 0 (chC y).toList).toArray)) (hx : x.Ok) (hy : y.Ok) : w' = w.setRow g (chC y) := w_setRow_allE h (by rw [chC_size hx, chC_size hy])
/-- one chain of one's own more -/
theorem ch_new {w w' : World} {c : Ch} (hc : c.Ok) (hw : Hid (w' = (w.alloc (.cells (chC ch0) 26)).setRow w.heap.size (splice (chC ch0).toList 0 (chC c).toList).toArray)) : Bk w' w.heap.size 26 (chC c) ∧ Below w.heap.size w w' := by
  have hw' := ch_setRow hw ch0_ok hc
  exact ⟨by rw [hw']; exact (Bk.new w 26 (chC ch0)).setRow_same _, by rw [hw']; exact below_setRow ((Below.refl _ _).alloc (Nat.le_refl _) _) (Nat.le_refl _) _⟩
/-- a chain and an event of one's own more -/
theorem che_new {w w1 w' : World} {c : Ch} {E : Ev} {H : Eh} (hc : c.Ok) (hv : H.e = E) (hin : EvIn w w.heap.size H)
    (hw : Hid (w1 = ((w.alloc (.cells (chC ch0) 26)).alloc (.cells (evC (bareH 0 0)) 34)).setRow w.heap.size (splice (chC ch0).toList 0 (chC c).toList).toArray))
    (hw2 : Hid (w' = w1.setRow (w.heap.size + 1) (splice (evC (bareH 0 0)).toList 0 (evC H).toList).toArray)) :
    Bk w' w.heap.size 26 (chC c) ∧ Bk w' (w.heap.size + 1) 34 (evC H) ∧ EvIn w' w'.heap.size H ∧ Below w.heap.size w w' := by
  have e1 := ch_setRow hw ch0_ok hc
  have e2 := w_setRow_allE hw2 (by rw [evC_size, evC_size])
  have k1 : Bk w1 w.heap.size 26 (chC c) := by rw [e1]; exact ((Bk.new w 26 (chC ch0)).alloc _).setRow_same _
  have k2 : Bk w1 (w.heap.size + 1) 34 (evC (bareH 0 0)) := by rw [e1]; exact (Bk.new2 w _ _ _).setRow_other (by omega) _
  have hb1 : Below w.heap.size w w1 := by rw [e1]; exact below_setRow (((Below.refl _ _).alloc (Nat.le_refl _) _).alloc (by simp) _) (Nat.le_refl _) _
  have hb2 : Below w.heap.size w w' := by rw [e2]; exact below_setRow hb1 (Nat.le_succ _) _
  exact ⟨by rw [e2]; exact k1.setRow_other (by omega) _, by rw [e2]; exact k2.setRow_same _, hin.later hb2, hb2⟩

theorem cell_setRow_other15 {w : World} {g b o : Nat} (cs : Array Value) (h : b ≠ g) : (w.setRow g cs).cell? ⟨b, o, none⟩ = w.cell? ⟨b, o, none⟩ := by
  unfold World.cell?
  rw [setRow_other' w g b cs h]

/-! ### Results of three parts -/
theorem results_cell3a {P : Program} {fn : Func} {p q r : Tmp} {t1 : TypeId} (h : fn.results = #[.tmp p, .cell q t1, .tmp r]) (tmps : Array Value) (w : World) (a1 : Addr) (v0 v1 v2 : Value)
    (hp : tmps.getD p undef = v0) (hq : tmps.getD q undef = .pointer (some a1)) (hr : tmps.getD r undef = v2) (h1 : (loadVar t1 a1).run P w = .ok v1 w) :
    (results fn tmps).run P w = .ok (.tuple #[v0, v1, v2]) w := by
  have hp' : tmps[p]?.getD undef = v0 := by simpa using hp
  have hq' : tmps[q]?.getD undef = .pointer (some a1) := by simpa using hq
  have hr' : tmps[r]?.getD undef = v2 := by simpa using hr
  simp [results, h, hp', hq', hr', asAddr, h1]
theorem results_cell3b {P : Program} {fn : Func} {p q r : Tmp} {t1 t2 : TypeId} (h : fn.results = #[.cell p t1, .cell q t2, .tmp r]) (tmps : Array Value) (w : World) (a1 a2 : Addr) (v0 v1 v2 : Value)
    (hp : tmps.getD p undef = .pointer (some a1)) (hq : tmps.getD q undef = .pointer (some a2)) (hr : tmps.getD r undef = v2) (h1 : (loadVar t1 a1).run P w = .ok v0 w) (h2 : (loadVar t2 a2).run P w = .ok v1 w) :
    (results fn tmps).run P w = .ok (.tuple #[v0, v1, v2]) w := by
  have hp' : tmps[p]?.getD undef = .pointer (some a1) := by simpa using hp
  have hq' : tmps[q]?.getD undef = .pointer (some a2) := by simpa using hq
  have hr' : tmps[r]?.getD undef = v2 := by simpa using hr
  simp [results, h, hp', hq', hr', asAddr, h1, h2]
end Go.Proofs.YtoiffchhfnbooaaDoor
