/-
  Values of many cells in blocks that are known whole: a new variable, a store of all, a load of all, one cell. They speak of any program.
-/
import Derived.Test.YtoiffchhfnbooaaGreatDoorQBytes
import Derived.Deep.MidRow
import Derived.Laws.CopyOwn
import Derived.Test.YtoiffchhfnbooaaGreatDoorProg
import Derived.BigRegion
import Derived.StillTailTactics
import Derived.IntWalk
import Derived.Deep.QuietTactic
import Derived.BigQuiet
namespace Go.Proofs.YtoiffchhfnbooaaGreatDoor
set_option linter.unusedVariables false
set_option linter.unusedSimpArgs false
set_option linter.unusedVariables false
set_option linter.unusedSimpArgs false
open Go.RowKit

/-- block b is just the cells cs, none frozen -/
def Bk (w : World) (b : Nat) (t : TypeId) (cs : Array Value) : Prop := w.heap[b]? = some (.cells cs t (0, 0))
theorem Bk.below {w w' : World} {b B : Nat} {t : TypeId} {cs : Array Value} (h : Bk w b t cs) (hb : Below B w w') (hl : b < B) : Bk w' b t cs := (hb.block b hl).trans h
theorem Bk.cell {w : World} {b : Nat} {t : TypeId} {cs : Array Value} (h : Bk w b t cs) (i : Nat) : w.cell? ⟨b, i, none⟩ = cs[i]? := by
  unfold Bk at h
  simp [World.cell?, h]
theorem Bk.frozen {w : World} {b : Nat} {t : TypeId} {cs : Array Value} (h : Bk w b t cs) (i : Nat) : w.frozen? ⟨b, i, none⟩ = false := by
  unfold Bk at h
  simp [World.frozen?, h]
theorem Bk.new (w : World) (t : TypeId) (cs : Array Value) : Bk (w.alloc (.cells cs t)) w.heap.size t cs := heap_alloc_new w _
theorem Bk.lt {w : World} {b : Nat} {t : TypeId} {cs : Array Value} (h : Bk w b t cs) : b < w.heap.size := (Array.getElem?_eq_some_iff.1 h).1
theorem Bk.alloc {w : World} {b : Nat} {t : TypeId} {cs : Array Value} (h : Bk w b t cs) (o : Obj) : Bk (w.alloc o) b t cs := (Below.heap_alloc w o b h.lt).trans h
theorem Bk.drew {w : World} {b : Nat} {t : TypeId} {cs : Array Value} (h : Bk w b t cs) : Bk w.drew b t cs := h
theorem Bk.far {w : World} {b : Nat} {t : TypeId} {cs : Array Value} (h : Bk w b t cs) {p : Addr} (hp : b ≠ p.block) (u : Value) : Bk (w.setCell p u) b t cs := (Below.heap_setCell w p u b hp).trans h
theorem Bk.put {w : World} {b : Nat} {t : TypeId} {cs : Array Value} (h : Bk w b t cs) (i : Nat) (u : Value) : Bk (w.setCell ⟨b, i, none⟩ u) b t (cs.setIfInBounds i u) := by
  unfold Bk at h ⊢
  simp [World.setCell, Array.getElem?_modify, h]
theorem Bk.new' (w : World) (b : Nat) (t : TypeId) (cs : Array Value) (h : b = w.heap.size) : Bk (w.alloc (.cells cs t)) b t cs := by subst h; exact Bk.new w t cs
theorem Bk.new2 (w : World) (o : Obj) (t : TypeId) (cs : Array Value) : Bk ((w.alloc o).alloc (.cells cs t)) (w.heap.size + 1) t cs := by
  have := Bk.new (w.alloc o) t cs
  rwa [World.size_alloc] at this
theorem Bk.new3 (w : World) (o o2 : Obj) (t : TypeId) (cs : Array Value) : Bk (((w.alloc o).alloc o2).alloc (.cells cs t)) (w.heap.size + 1 + 1) t cs := by
  have := Bk.new2 (w.alloc o) o2 t cs
  rwa [World.size_alloc] at this
theorem Bk.new4 (w : World) (o o2 o3 : Obj) (t : TypeId) (cs : Array Value) : Bk ((((w.alloc o).alloc o2).alloc o3).alloc (.cells cs t)) (w.heap.size + 1 + 1 + 1) t cs := by
  have := Bk.new3 (w.alloc o) o2 o3 t cs
  rwa [World.size_alloc] at this
theorem Bk.four {w : World} {b : Nat} {t : TypeId} {v0 v1 v2 v3 : Value} (h : Bk w b t #[v0, v1, v2, v3]) :
    (w.cell? ⟨b, 0, none⟩ = some v0 ∧ w.cell? ⟨b, 1, none⟩ = some v1 ∧ w.cell? ⟨b, 2, none⟩ = some v2 ∧ w.cell? ⟨b, 3, none⟩ = some v3) ∧
    w.frozen? ⟨b, 0, none⟩ = false ∧ w.frozen? ⟨b, 1, none⟩ = false ∧ w.frozen? ⟨b, 2, none⟩ = false ∧ w.frozen? ⟨b, 3, none⟩ = false :=
  ⟨⟨h.cell 0, h.cell 1, h.cell 2, h.cell 3⟩, h.frozen 0, h.frozen 1, h.frozen 2, h.frozen 3⟩
theorem setRow_other' (w : World) (g k : Nat) (cs : Array Value) (h : k ≠ g) : (w.setRow g cs).heap[k]? = w.heap[k]? := Go.setRow_other w g k cs h

section
variable {P : Program}
theorem wp_value {o : Oper} {a : Act} {w w' : World} {K : Act → World → Prop} {Q : Exit → Act → World → Prop} {v : Value}
    (h : (execOp a.eval o).run P w = .ok (.value v) w') (hK : K (a.put o.dst v) w') : o.wp P a w K Q := by
  unfold Oper.wp
  simp only [h]
  exact hK
theorem wp_skip {o : Oper} {a : Act} {w w' : World} {K : Act → World → Prop} {Q : Exit → Act → World → Prop}
    (h : (execOp a.eval o).run P w = .ok .skip w') (hK : K (a.put o.dst undef) w') : o.wp P a w K Q := by
  unfold Oper.wp
  simp only [h]
  exact hK

/-- a new variable whose zero value is the cells z -/
theorem wpList_alloc_to {ops : Array Oper} {rest : List Oper} {o : Oper} {a : Act} {w : World} {Q : Exit → Act → World → Prop} (hgd : o.guard = none) (ty : TypeId) (ho : o.op = .alloc ty) (z : Array Value)
    (hz : (P.info? ty).map (·.zero) = some (some (.agg z))) (h : wpList P ops Q rest (a.put o.dst (.pointer (some ⟨w.heap.size, 0, none⟩))) (w.alloc (.cells z ty))) : wpList P ops Q (o :: rest) a w :=
  wpList_plain hgd fun _ hK => by
    cases hq : P.info? ty with
    | none => simp [hq] at hz
    | some i =>
      have hz' : i.zero = some (.agg z) := by simpa [hq] using hz
      refine wp_value (v := .pointer (some ⟨w.heap.size, 0, none⟩)) (w' := w.alloc (.cells z ty)) ?_ (hK _ _ h)
      unfold execOp
      simp only [ho]
      simp [Instr.alloc, zeroValue, typeInfo, hq, hz', newVar, Value.cells, newRow]

/-- a composite value -/
theorem wpList_build_to {ops : Array Oper} {rest : List Oper} {o : Oper} {a : Act} {w : World} {Q : Exit → Act → World → Prop} (hgd : o.guard = none) (t : TypeId) (parts : Array (Nat × Operand)) (ho : o.op = .build t parts)
    (vals : List (Nat × Value)) (hv : (parts.toList.map fun p => (p.1, a.eval p.2)) = vals) (cells : Array Value) (hb : P.built t vals = some cells)
    (h : wpList P ops Q rest (a.put o.dst (.agg cells)) w) : wpList P ops Q (o :: rest) a w :=
  wpList_plain hgd fun _ hK => by
    refine wp_value (v := .agg cells) (w' := w) ?_ (hK _ _ h)
    unfold execOp
    simp only [ho, Sem.run_bind, run_build w t _ cells (by rw [Array.toList_map]; exact hv ▸ hb), Result.andThen_ok]
    rfl

/-- another block lies as it lay; a store into a block of one's own leaves older memory as it was -/
theorem Bk.setRow_other {w : World} {b g : Nat} {t : TypeId} {cs : Array Value} (h : Bk w b t cs) (hne : b ≠ g) (cs' : Array Value) : Bk (w.setRow g cs') b t cs := (YtoiffchhfnbooaaGreatDoor.setRow_other' w g b cs' hne).trans h
theorem Bk.setRow_same {w : World} {g : Nat} {t : TypeId} {cs : Array Value} (h : Bk w g t cs) (cs' : Array Value) : Bk (w.setRow g cs') g t cs' := setRow_heap w g cs cs' t (0, 0) h

/-- a value of many cells goes into a block that is known whole -/
theorem wpList_store_wide {ops : Array Oper} {rest : List Oper} {o : Oper} {a : Act} {w : World} {Q : Exit → Act → World → Prop} (hgd : o.guard = none) (ty : TypeId) (x y : Operand) (ho : o.op = .store ty x y)
    (g off : Nat) (cells : Array Value) (hx : a.eval x = .pointer (some ⟨g, off, none⟩)) (hy : a.eval y = .agg cells)
    (t : TypeId) (cur : Array Value) (hg : Bk w g t cur) (hfit : off + cells.size ≤ cur.size) (hi : (P.info? ty).map (·.size) = some cells.size) (h1 : ∀ v ∈ cells.toList, v.oneCell' = true)
    (h : ∀ w', Hid (w' = w.setRow g (splice cur.toList off cells.toList).toArray) → wpList P ops Q rest (a.put o.dst undef) w') : wpList P ops Q (o :: rest) a w :=
  wpList_plain hgd fun _ hK => by
    refine wp_skip (w' := w.setRow g (splice cur.toList off cells.toList).toArray) ?_ (hK _ _ (h _ rfl))
    have := run_storeCells_at P g off t cells.toList 0 cur w hg (by simpa using hfit) h1
    simp only [Nat.add_zero, List.append_assoc] at this
    cases hq : P.info? ty with
    | none => simp [hq] at hi
    | some i =>
      have hs : cells.size = i.size := by simp [hq] at hi; omega
      unfold execOp
      simp only [ho, hx, hy, Instr.storeAt, Instr.sureAddr, Sem.run_bind, Sem.run_pure, Result.andThen_ok]
      simp [storeVar, sizeOf, typeInfo, hq, Value.cells, hs, this, splice]


theorem splice_all {l m : List Value} (h : m.length = l.length) : splice l 0 m = m := by
  unfold splice
  rw [List.take_zero, List.nil_append, Nat.zero_add, List.drop_eq_nil_of_le (by omega), List.append_nil]
theorem setRow_all {w : World} {g : Nat} {cs ds : Array Value} (h : ds.size = cs.size) : w.setRow g (splice cs.toList 0 ds.toList).toArray = w.setRow g ds := by
  rw [splice_all (by rw [Array.length_toList, Array.length_toList, h]), Array.toArray_toList]
theorem below_setRow {B : Nat} {w w' : World} (h : Below B w w') {g : Nat} (hg : B ≤ g) (cs : Array Value) : Below B w (w'.setRow g cs) :=
  h.trans ⟨rfl, rfl, rfl, by simp, fun k hk => YtoiffchhfnbooaaGreatDoor.setRow_other' w' g k cs (by omega)⟩
theorem results_cell {fn : Func} {p : Tmp} {t : TypeId} (h : fn.results = #[.cell p t]) {tmps : Array Value} {w : World} {a : Addr} {v : Value} (hp : tmps.getD p undef = .pointer (some a)) (hl : (loadVar t a).run P w = .ok v w) :
    (results fn tmps).run P w = .ok v w := by
  have hp' : tmps[p]?.getD undef = .pointer (some a) := by simpa using hp
  simp [results, h, hp', asAddr, hl]
theorem Bk.load {w : World} {b : Nat} {t : TypeId} {cs : Array Value} (h : Bk w b t cs) {ty : TypeId} {d : TypeDesc} (hu : P.underlying ty = some d) (hd : d.isRow = true) (hi : (P.info? ty).map (·.size) = some cs.size) :
    (loadVar ty ⟨b, 0, none⟩).run P w = .ok (.agg cs) w := by
  rw [run_loadVar_mid w b 0 ty cs.toList d (fun i v hv => by rw [Nat.zero_add, h.cell, ← Array.getElem?_toList]; exact hv) hu hd (by rw [Array.length_toList]; exact hi), Array.toArray_toList]
theorem Bk.range {w : World} {b : Nat} {t : TypeId} {cs : Array Value} (h : Bk w b t cs) : w.rangeAt b 0 cs.toList := fun i v hv => by
  rw [Nat.zero_add, h.cell, ← Array.getElem?_toList]; exact hv
end
end Go.Proofs.YtoiffchhfnbooaaGreatDoor

/-
  Contracts over package sha: rotating and mixing of words; the block's words.
-/
namespace Go.Proofs.YtoiffchhfnbooaaGreatDoor
set_option linter.unusedVariables false
set_option linter.unusedSimpArgs false
set_option linter.unusedVariables false
set_option linter.unusedSimpArgs false
open Go.RowKit

theorem rot_and (n : Nat) (hn : 0 < n) (hn2 : n < 32) : bits .and .u64 (IntKind.u64.wrap (-(n : Int))) 31 = ((32 - n : Nat) : Int) := by
  have e : IntKind.u64.wrap (-(n : Int)) = ((18446744073709551616 - n : Nat) : Int) := by rw [IntKind.wrap_u64]; omega
  rw [e]
  have := u64_and_nat (18446744073709551616 - n) 31 (by omega) (by omega)
  rw [nat_mask5] at this
  rw [show (31 : Int) = ((31 : Nat) : Int) from rfl, this]
  congr 1
  omega
theorem u32_rot {x n : Nat} (hx : x < 4294967296) (hn : n ≤ 32) : bits .or .u32 ((x : Int) * 2 ^ (32 - n) % 4294967296) ((x : Int) / 2 ^ n) = ((rotN x n : Nat) : Int) := by
  have e1 : ((x * 2 ^ (32 - n) % 4294967296 : Nat) : Int) = (x : Int) * 2 ^ (32 - n) % 4294967296 := by rw [Int.natCast_emod, Int.natCast_mul, Int.natCast_pow]; rfl
  have e2 : ((x / 2 ^ n : Nat) : Int) = (x : Int) / 2 ^ n := by rw [Int.natCast_ediv, Int.natCast_pow]; rfl
  rw [← rotN_or hx hn, ← u32_or_nat _ _ (Nat.mod_lt _ (by omega)) (Nat.lt_of_le_of_lt (Nat.div_le_self _ _) hx), e1, e2]
set_option maxHeartbeats 400000 in
theorem rotl_any (x n : Nat) (w : World) (hx : x < 4294967296) (hn : 0 < n) (hn2 : n < 32) : Calls Tryz.prog 111 #[.int .u32 (x : Int), .int .i64 (-(n : Int))] w fun e w' => e = .returned (.int .u32 ((rotN x n : Nat) : Int)) ∧ w = w' := by
  have ha := rot_and n hn hn2
  have HR := hide (u32_rot hx (show n ≤ 32 by omega))
  obtain ⟨m, hm⟩ : ∃ m, m = 32 - n := ⟨_, rfl⟩
  rw [← hm] at ha HR
  have hm1 : 0 < m := by omega
  have hm2 : m < 32 := by omega
  have HM := hide (show 32 - m = n by omega)
  clear hm
  go_enter Tryz.func111, Tryz.ntmps111
  go_wp2
  go_ret
  exact ⟨ret_int (by rw [HM.out]; exact HR.out), rfl⟩
set_option maxHeartbeats 400000 in
theorem rotated_any (x n : Nat) (w : World) (hx : x < 4294967296) (hn : 0 < n) (hn2 : n < 32) : Calls Tryz.prog 105 #[.int .u32 (x : Int), .int .i64 (n : Int)] w fun e w' => e = .returned (.int .u32 ((rotN x n : Nat) : Int)) ∧ w = w' := by
  go_enter Tryz.func105, Tryz.ntmps105
  go_wp2_with fail
  refine (rotl_any x n _ hx hn hn2).mono ?_
  rintro e w' ⟨rfl, rfl⟩
  go_wp2
  go_ret
  exact ⟨rfl, rfl⟩
set_option maxHeartbeats 400000 in
theorem great0_any (x : Nat) (w : World) (hx : x < 4294967296) : Calls Tryz.prog 94 #[.int .u32 (x : Int)] w fun e w' => e = .returned (.int .u32 ((g0N x : Nat) : Int)) ∧ w = w' := by
  have h1 := rotN_lt (n := 2) hx (by omega)
  have h2 := rotN_lt (n := 13) hx (by omega)
  have h3 := rotN_lt (n := 22) hx (by omega)
  have e1 := u32_xor_nat _ _ h1 h2
  have e2 := u32_xor_nat _ _ (xor_lt h1 h2) h3
  go_enter Tryz.func94, Tryz.ntmps94
  go_wp2_with fail
  refine (rotated_any x 2 _ hx (by omega) (by omega)).mono ?_
  rintro e w' ⟨rfl, rfl⟩
  go_wp2_with fail
  refine (rotated_any x 13 _ hx (by omega) (by omega)).mono ?_
  rintro e w' ⟨rfl, rfl⟩
  go_wp2_with fail
  refine (rotated_any x 22 _ hx (by omega) (by omega)).mono ?_
  rintro e w' ⟨rfl, rfl⟩
  go_wp2
  go_ret
  exact ⟨rfl, rfl⟩
set_option maxHeartbeats 400000 in
theorem great1_any (x : Nat) (w : World) (hx : x < 4294967296) : Calls Tryz.prog 93 #[.int .u32 (x : Int)] w fun e w' => e = .returned (.int .u32 ((g1N x : Nat) : Int)) ∧ w = w' := by
  have h1 := rotN_lt (n := 6) hx (by omega)
  have h2 := rotN_lt (n := 11) hx (by omega)
  have h3 := rotN_lt (n := 25) hx (by omega)
  have e1 := u32_xor_nat _ _ h1 h2
  have e2 := u32_xor_nat _ _ (xor_lt h1 h2) h3
  go_enter Tryz.func93, Tryz.ntmps93
  go_wp2_with fail
  refine (rotated_any x 6 _ hx (by omega) (by omega)).mono ?_
  rintro e w' ⟨rfl, rfl⟩
  go_wp2_with fail
  refine (rotated_any x 11 _ hx (by omega) (by omega)).mono ?_
  rintro e w' ⟨rfl, rfl⟩
  go_wp2_with fail
  refine (rotated_any x 25 _ hx (by omega) (by omega)).mono ?_
  rintro e w' ⟨rfl, rfl⟩
  go_wp2
  go_ret
  exact ⟨rfl, rfl⟩
set_option maxHeartbeats 400000 in
theorem small0_any (x : Nat) (w : World) (hx : x < 4294967296) : Calls Tryz.prog 104 #[.int .u32 (x : Int)] w fun e w' => e = .returned (.int .u32 ((s0N x : Nat) : Int)) ∧ w = w' := by
  have h1 := rotN_lt (n := 7) hx (by omega)
  have h2 := rotN_lt (n := 18) hx (by omega)
  have e1 := u32_xor_nat _ _ h1 h2
  have e2 := hide (u32_xor_nat (rotN x 7 ^^^ rotN x 18) (x / 8) (xor_lt h1 h2) (by omega))
  go_enter Tryz.func104, Tryz.ntmps104
  go_wp2_with fail
  refine (rotated_any x 7 _ hx (by omega) (by omega)).mono ?_
  rintro e w' ⟨rfl, rfl⟩
  go_wp2_with fail
  refine (rotated_any x 18 _ hx (by omega) (by omega)).mono ?_
  rintro e w' ⟨rfl, rfl⟩
  go_wp2
  go_ret
  exact ⟨ret_int e2.out, rfl⟩
set_option maxHeartbeats 400000 in
theorem small1_any (x : Nat) (w : World) (hx : x < 4294967296) : Calls Tryz.prog 103 #[.int .u32 (x : Int)] w fun e w' => e = .returned (.int .u32 ((s1N x : Nat) : Int)) ∧ w = w' := by
  have h1 := rotN_lt (n := 17) hx (by omega)
  have h2 := rotN_lt (n := 19) hx (by omega)
  have e1 := u32_xor_nat _ _ h1 h2
  have e2 := hide (u32_xor_nat (rotN x 17 ^^^ rotN x 19) (x / 1024) (xor_lt h1 h2) (by omega))
  go_enter Tryz.func103, Tryz.ntmps103
  go_wp2_with fail
  refine (rotated_any x 17 _ hx (by omega) (by omega)).mono ?_
  rintro e w' ⟨rfl, rfl⟩
  go_wp2_with fail
  refine (rotated_any x 19 _ hx (by omega) (by omega)).mono ?_
  rintro e w' ⟨rfl, rfl⟩
  go_wp2
  go_ret
  exact ⟨ret_int e2.out, rfl⟩
end Go.Proofs.YtoiffchhfnbooaaGreatDoor

/-
  Contracts over package sha: a block's words W0 to W63.
-/
namespace Go.Proofs.YtoiffchhfnbooaaGreatDoor
set_option linter.unusedVariables false
set_option linter.unusedSimpArgs false
set_option linter.unusedVariables false
set_option linter.unusedSimpArgs false
open Go.RowKit

/-- words and bytes as cells -/
def uv (x : Nat) : Value := .int .u32 (x : Int)
def cw (l : List Nat) : Array Value := (l.map uv).toArray
def cb (l : List Nat) : Array Value := (l.map bv).toArray
theorem cw_size (l : List Nat) : (cw l).size = l.length := by simp [cw]
theorem cb_size (l : List Nat) : (cb l).size = l.length := by simp [cb]
theorem cw_at {l : List Nat} {i : Nat} (h : i < l.length) : (cw l)[i]? = some (.int .u32 ((byteAt l i : Nat) : Int)) := by
  unfold cw byteAt uv
  simp [h]
theorem cb_at {l : List Nat} {i : Nat} (h : i < l.length) : (cb l)[i]? = some (.int .u8 ((byteAt l i : Nat) : Int)) := by
  unfold cb byteAt bv
  simp [h]
theorem cw_set (l : List Nat) (i x : Nat) : (cw l).setIfInBounds i (.int .u32 (x : Int)) = cw (l.set i x) := by
  unfold cw
  rw [List.map_set, ← List.setIfInBounds_toArray]
  rfl
theorem cb_set (l : List Nat) (i x : Nat) : (cb l).setIfInBounds i (.int .u8 (x : Int)) = cb (l.set i x) := by
  unfold cb
  rw [List.map_set, ← List.setIfInBounds_toArray]
  rfl
theorem cw_one (l : List Nat) : ∀ v ∈ (cw l).toList, v.oneCell' = true := by
  intro v hv
  simp only [cw, List.mem_map] at hv
  obtain ⟨x, _, rfl⟩ := hv
  rfl
theorem cb_one (l : List Nat) : ∀ v ∈ (cb l).toList, v.oneCell' = true := by
  intro v hv
  simp only [cb] at hv
  exact bv_one l v hv
theorem Bk.word {w : World} {g : Nat} {t : TypeId} {l : List Nat} (h : Bk w g t (cw l)) {i : Nat} (hi : i < l.length) : w.cell? ⟨g, i, none⟩ = some (.int .u32 ((byteAt l i : Nat) : Int)) := (h.cell i).trans (cw_at hi)
theorem Bk.byte {w : World} {g : Nat} {t : TypeId} {l : List Nat} (h : Bk w g t (cb l)) {i : Nat} (hi : i < l.length) : w.cell? ⟨g, i, none⟩ = some (.int .u8 ((byteAt l i : Nat) : Int)) := (h.cell i).trans (cb_at hi)
theorem Bk.putw {w : World} {g : Nat} {t : TypeId} {l : List Nat} (h : Bk w g t (cw l)) (i x : Nat) {z : Int} (hz : z = (x : Int)) : Bk (w.setCell ⟨g, i, none⟩ (.int .u32 z)) g t (cw (l.set i x)) := by
  subst hz; rw [← cw_set]; exact h.put i _
theorem Bk.putb {w : World} {g : Nat} {t : TypeId} {l : List Nat} (h : Bk w g t (cb l)) (i x : Nat) {z : Int} (hz : z = (x : Int)) : Bk (w.setCell ⟨g, i, none⟩ (.int .u8 z)) g t (cb (l.set i x)) := by
  subst hz; rw [← cb_set]; exact h.put i _
theorem zero64 : (Tryz.prog.info? 75).map (·.zero) = some (some (.agg (cw (List.replicate 64 0)))) := by kernel_rfl
theorem zero32 : (Tryz.prog.info? 22).map (·.zero) = some (some (.agg (cb (List.replicate 32 0)))) := by kernel_rfl
theorem zero8 : (Tryz.prog.info? 73).map (·.zero) = some (some (.agg (cw (List.replicate 8 0)))) := by kernel_rfl
theorem zeroSec : (Tryz.prog.info? 103).map (·.zero) = some (some (.agg (cb (List.replicate 64 0)))) := by kernel_rfl
theorem size64 : (Tryz.prog.info? 75).map (·.size) = some 64 := by kernel_rfl
theorem size32 : (Tryz.prog.info? 22).map (·.size) = some 32 := by kernel_rfl
theorem size8 : (Tryz.prog.info? 73).map (·.size) = some 8 := by kernel_rfl
theorem sizeSec : (Tryz.prog.info? 103).map (·.size) = some 64 := by kernel_rfl

theorem byte_lt256 {l : List Nat} (h : ∀ x ∈ l, x < 256) (i : Nat) : byteAt l i < 256 := by
  unfold byteAt
  rw [List.getD_eq_getElem?_getD]
  cases hx : l[i]? with
  | none => simp
  | some x => exact h x (List.mem_of_getElem? hx)
section
variable {P : Program}
theorem run_index_row {w : World} {t e : TypeId} {n : Nat} {cs : Array Value} {v : Value} {k : IntKind} (ht : P.underlying t = some (.array n e)) (he : P.underlying e = some (.int k)) (hs : (P.info? e).map (·.size) = some 1) {i : Nat} (hi : i < n) (hc : cs[i]? = some v) :
    (Instr.index t (.agg cs) (.int .i64 (i : Int))).run P w = .ok v w := by
  cases hq : P.info? e with
  | none => simp [hq] at hs
  | some d =>
    have hd : d.size = 1 := by simpa [hq] using hs
    simp [Instr.index, asIntOf, run_underlying ht, hi, sizeOf, typeInfo, hq, hd, part, isAgg, run_underlying he, hc]
theorem wpList_over {ops : Array Oper} {l : List Oper} {a : Act} {W : World} {Q : Exit → Act → World → Prop} (F : World → Prop) (hF : F W) (h : ∀ W', F W' → wpList P ops Q l a W') : wpList P ops Q l a W := h W hF
theorem post_overS {K : Act → World → Prop} {Q : Exit → Act → World → Prop} {e : Exit} {a : Act} {W : World} (F : World → Prop) (hF : F W) (h : ∀ W', F W' → Exit.then K Q e a W') : Exit.then K Q e a W := h W hF
theorem code_overS {c : Code} {a : Act} {W : World} {Q : Exit → Act → World → Prop} (F : World → Prop) (hF : F W) (h : ∀ W', F W' → c.wp P Q a W') : c.wp P Q a W := h W hF
end
theorem shl_byte {x c : Nat} (hx : x < 4294967296) (hc : c < 256) : bits .or .u32 ((x : Int) * 256 % 4294967296) (c : Int) = (((x * 256 + c) % 4294967296 : Nat) : Int) := by
  have h := u32_or_nat (x * 256 % 4294967296) c (by omega) (by omega)
  rw [nat_join 8 _ _ (by omega) (by omega)] at h
  rw [show (x : Int) * 256 % 4294967296 = ((x * 256 % 4294967296 : Nat) : Int) by omega, h]
  omega

set_option maxRecDepth 20000 in
set_option maxHeartbeats 1000000 in
theorem spread_any (l : List Nat) (w : World) (hl : l.length = 64) (hby : ∀ x ∈ l, x < 256) : Calls Tryz.prog 92 #[.agg (cb l)] w fun e w' => e = .returned (.agg (cw (schedN l))) ∧ Below w.heap.size w w' := by
  have HL := hide hl
  clear hl
  go_enter Tryz.func92, Tryz.ntmps92
  go_wp2_with ((with_reducible show wpList _ _ _ (⟨some 2, _, _, _, _, _⟩ :: _) _ _); refine holdB ?_)
  refine heldB (wpList_alloc_to rfl 75 rfl _ zero64 ?_)
  go_wp2_with ((with_reducible show wpList _ _ _ (⟨some 3, _, _, _, _, _⟩ :: _) _ _); refine holdB ?_)
  refine heldB (wpList_alloc_to rfl 75 rfl _ zero64 ?_)
  have b0 : Bk (((w.alloc (.cells (cb l) 103)).alloc (.cells (cw (List.replicate 64 0)) 75)).alloc (.cells (cw (List.replicate 64 0)) 75)) w.heap.size 103 (cb l) := ((Bk.new w _ _).alloc _).alloc _
  have b1 : Bk (((w.alloc (.cells (cb l) 103)).alloc (.cells (cw (List.replicate 64 0)) 75)).alloc (.cells (cw (List.replicate 64 0)) 75)) (w.heap.size + 1) 75 (cw (List.replicate 64 0)) := (Bk.new2 w _ _ _).alloc _
  have b2 : Bk (((w.alloc (.cells (cb l) 103)).alloc (.cells (cw (List.replicate 64 0)) 75)).alloc (.cells (cw (List.replicate 64 0)) 75)) (w.heap.size + 1 + 1) 75 (cw (List.replicate 64 0)) := Bk.new3 w _ _ _ _
  have hb0 : Below w.heap.size w (((w.alloc (.cells (cb l) 103)).alloc (.cells (cw (List.replicate 64 0)) 75)).alloc (.cells (cw (List.replicate 64 0)) 75)) := (((Below.refl _ _).alloc (Nat.le_refl _) _).alloc (by simp) _).alloc (by simp; omega) _
  refine wpList_over (fun W => Bk W w.heap.size 103 (cb l) ∧ Bk W (w.heap.size + 1) 75 (cw (List.replicate 64 0)) ∧ Bk W (w.heap.size + 1 + 1) 75 (cw (List.replicate 64 0)) ∧ Below w.heap.size w W) ⟨b0, b1, b2, hb0⟩ ?_
  clear b0 b1 b2 hb0
  rintro W ⟨b0, b1, b2, hb0⟩
  have HB1 := hide b1
  clear b1
  go_wp2_with ((with_reducible show wpList _ _ _ (⟨some 7, _, _, _, _, _⟩ :: _) _ _); refine holdB ?_)
  refine heldB (wpList_load_mid rfl 103 (.tmp 1) rfl w.heap.size 0 rfl _ _ b0.range Tryz.underlying103 rfl (by rw [Array.length_toList, cb_size, HL.out]; exact sizeSec) ?_)
  go_wp2
  go_loopw [8] (fun i wr => ∃ k : Nat, k ≤ 64 ∧ i = .int .i64 k ∧ Bk wr (w.heap.size + 1) 75 (cw (List.replicate 64 0)) ∧ Bk wr (w.heap.size + 1 + 1) 75 (cw (fillN l k)) ∧ Below w.heap.size w wr) (fun i _ => 64 - (intOf i).toNat)
  case atStart => exact ⟨0, Nat.zero_le _, rfl, HB1.out, by rw [fillN_zero]; exact b2, hb0⟩
  case round =>
    obtain ⟨k, hk, rfl, b1, b2, hb⟩ := hrel
    by_cases hlt : k < 64
    · have hq : k / 4 < 64 := by omega
      have hc := b2.word (i := k / 4) (by rw [fillN_length]; exact hq)
      have hf := b2.frozen (k / 4)
      have hx := (fillN_lt l k).lt (k / 4)
      have hcb := cb_at (l := l) (i := k) (by rw [HL.out]; exact hlt)
      have hyk := byte_lt256 hby k
      have hs := shl_byte hx hyk
      have hix := fun W => run_index_row (P := Tryz.prog) (w := W) Tryz.underlying103 Tryz.underlying5 (by kernel_rfl) hlt hcb
      have HF : Hid (fillN l (k + 1) = (fillN l k).set (k / 4) ((byteAt (fillN l k) (k / 4) * 256 + byteAt l k) % 4294967296)) := hide (fillN_succ l k)
      have HB2 := hide b2
      clear b2
      generalize byteAt (fillN l k) (k / 4) = x at *
      generalize byteAt l k = y at *
      go_wp2
      go_roundw
      case rel => exact ⟨k + 1, by omega, by go_num, b1.far (by simp) _, by rw [HF.out]; exact HB2.out.putw _ _ (by omega), hb.setCell (by simp; omega) _⟩
      case measure => simp [intOf]; omega
    · have hk64 : k = 64 := by omega
      have e0 : fillN l 64 = extN (fillN l 64) 0 := (extN_zero _).symm
      rw [hk64, e0] at b2
      have hlk : ¬ (k : Int) < 64 := by omega
      clear e0 hk64 hlt hk
      go_wp2
      go_loopw [6] (fun i wr => ∃ m : Nat, m ≤ 48 ∧ i = .int .i64 ((16 + m : Nat) : Int) ∧ Bk wr (w.heap.size + 1) 75 (cw (List.replicate 64 0)) ∧ Bk wr (w.heap.size + 1 + 1) 75 (cw (extN (fillN l 64) m)) ∧ Below w.heap.size w wr) (fun i _ => 64 - (intOf i).toNat)
      case atStart => exact ⟨0, Nat.zero_le _, rfl, b1, b2, hb⟩
      case round =>
        obtain ⟨m, hm, rfl, b1, b2, hb⟩ := hrel
        by_cases hlt : m < 48
        · have hlen : (extN (fillN l 64) m).length = 64 := by rw [extN_length, fillN_length]
          have hw := extN_lt (fillN_lt l 64) m
          have c2 := b2.word (i := m + 14) (by omega)
          have c7 := b2.word (i := m + 9) (by omega)
          have c15 := b2.word (i := m + 1) (by omega)
          have c16 := b2.word (i := m) (by omega)
          have hf := b2.frozen (16 + m)
          have c0 := b2.word (i := 16 + m) (by omega)
          have x2 := hw.lt (m + 14)
          have x7 := hw.lt (m + 9)
          have x15 := hw.lt (m + 1)
          have x16 := hw.lt m
          have HF : Hid (extN (fillN l 64) (m + 1) = (extN (fillN l 64) m).set (16 + m) (nextN (extN (fillN l 64) m) (16 + m))) := hide (extN_succ _ m)
          have HN : Hid (nextN (extN (fillN l 64) m) (16 + m) = (((s1N (byteAt (extN (fillN l 64) m) (m + 14)) + byteAt (extN (fillN l 64) m) (m + 9)) % 4294967296 + s0N (byteAt (extN (fillN l 64) m) (m + 1))) % 4294967296 + byteAt (extN (fillN l 64) m) m) % 4294967296) := by
            unfold nextN
            rw [show 16 + m - 2 = m + 14 by omega, show 16 + m - 7 = m + 9 by omega, show 16 + m - 15 = m + 1 by omega, show 16 + m - 16 = m by omega]
            exact hide rfl
          have HB2 := hide b2
          clear b2 hw hlen
          generalize byteAt (extN (fillN l 64) m) (m + 14) = y2 at *
          generalize byteAt (extN (fillN l 64) m) (m + 9) = y7 at *
          generalize byteAt (extN (fillN l 64) m) (m + 1) = y15 at *
          generalize byteAt (extN (fillN l 64) m) m = y16 at *
          generalize byteAt (extN (fillN l 64) m) (16 + m) = y0 at *
          have hz7 := s1N_lt x2
          have hz15 := s0N_lt x15
          have e2 : IntKind.i64.wrap (16 + (m : Int) - 2) = ((m + 14 : Nat) : Int) := by rw [IntWalk.i64_in _ (by omega)]; omega
          have e7 : IntKind.i64.wrap (16 + (m : Int) - 7) = ((m + 9 : Nat) : Int) := by rw [IntWalk.i64_in _ (by omega)]; omega
          have e15 : IntKind.i64.wrap (16 + (m : Int) - 15) = ((m + 1 : Nat) : Int) := by rw [IntWalk.i64_in _ (by omega)]; omega
          have e16 : IntKind.i64.wrap (16 + (m : Int) - 16) = (m : Int) := by rw [IntWalk.i64_in _ (by omega)]; omega
          have et : ((16 : Int) + (m : Int)).toNat = 16 + m := by omega
          generalize h14 : m + 14 = m14 at *
          generalize h9 : m + 9 = m9 at *
          generalize h1 : m + 1 = m1 at *
          have q2 : (m14 : Int) < 64 := by omega
          have q7 : (m9 : Int) < 64 := by omega
          have q15 : (m1 : Int) < 64 := by omega
          have q16 : (m : Int) < 64 := by omega
          have q0 : (0 : Int) ≤ 16 + (m : Int) := by omega
          have H1 := hide h1
          clear h14 h9 h1
          go_wp2_with fail
          refine wp_region_still_tail 23 (by kernel_rfl) (by kernel_rfl) ?_
          simp only [List.take_succ_cons, List.take_zero, List.drop_succ_cons, List.drop_zero]
          repeat still_step
          still_call ((small1_any y2 _ x2).mono (fun _ _ h => ⟨h.1, h.2.symm⟩))
          repeat still_step
          still_call ((small0_any y15 _ x15).mono (fun _ _ h => ⟨h.1, h.2.symm⟩))
          repeat still_step
          refine wpStill_nil ?_
          change wpList _ _ _ _ _ wr.drew
          have hf2 : wr.drew.frozen? ⟨w.heap.size + 1 + 1, 16 + m, none⟩ = false := hf
          have cc : wr.drew.cell? ⟨w.heap.size + 1 + 1, 16 + m, none⟩ = some (.int .u32 (y0 : Int)) := c0
          have B1 := hide b1.drew
          have B2 := hide HB2.out.drew
          have B3 := hide hb.drew
          clear b1 HB2 hb hf c0 c2 c7 c15 c16 e2 e7 e15 e16
          generalize wr.drew = W3 at *
          clear q2 q7 q15 q16 x2 x7 x15 x16 hz7 hz15 
          go_wp2
          go_roundw
          case rel =>
            refine ⟨m1, by have := H1.out; omega, by have := H1.out; go_num, B1.out.far (by simp) _, ?_, B3.out.setCell (by simp; omega) _⟩
            rw [HF.out]
            exact B2.out.putw _ _ (by rw [HN.out]; omega)
          case measure => simp [intOf]; omega
        · have hm48 : m = 48 := by omega
          rw [hm48, schedN_eq] at b2
          have hlm : ¬ (16 : Int) + (m : Int) < 64 := by omega
          clear hm48 hlt hm
          have hlen := schedN_length l
          obtain ⟨ws, hws⟩ : ∃ ws, ws = schedN l := ⟨_, rfl⟩
          rw [← hws] at hlen b2
          have HWS := hide hws
          clear hws
          have hsz : (cw ws).size = 64 := by rw [cw_size, hlen]
          have HLEN := hide hlen
          clear hlen
          go_wp2_with ((with_reducible show wpList _ _ _ (⟨some 51, _, _, _, _, _⟩ :: _) _ _); refine holdB ?_)
          refine heldB (wpList_load_mid rfl 75 (.tmp 3) rfl (w.heap.size + 1 + 1) 0 rfl _ _ b2.range Tryz.underlying75 rfl (by rw [Array.length_toList, hsz]; exact size64) ?_)
          rw [Array.toArray_toList]
          refine wpList_store_wide rfl 75 (.tmp 2) (.tmp 51) rfl (w.heap.size + 1) 0 (cw ws) rfl rfl 75 _ b1 (by rw [cw_size, cw_size, HLEN.out]; simp) (by rw [hsz]; exact size64) (cw_one _) ?_
          intro w' hw'
          rw [setRow_all (by rw [hsz, cw_size]; simp)] at hw'
          have B1 := hide (hw'.out ▸ b1.setRow_same (cw ws) : Bk w' _ _ _)
          have hb2 := hw'.out ▸ below_setRow hb (g := w.heap.size + 1) (by omega) (cw ws)
          clear hw' b1 b2 hb
          go_wp2
          refine bodyPost_ret (v := .agg (cw ws)) ?_ rfl ⟨by rw [HWS.out], hb2⟩
          exact results_cell (a := ⟨w.heap.size + 1, 0, none⟩) rfl rfl (B1.out.load Tryz.underlying75 rfl (by rw [hsz]; exact size64))
end Go.Proofs.YtoiffchhfnbooaaGreatDoor

/-
  Contracts over package sha: a block's step; the words' bytes.
-/
namespace Go.Proofs.YtoiffchhfnbooaaGreatDoor
set_option linter.unusedVariables false
set_option linter.unusedSimpArgs false
set_option linter.unusedVariables false
set_option linter.unusedSimpArgs false
open Go.RowKit

/-- the package's tables lie as the text lays them -/
def Tabs (w : World) : Prop := (∀ r, r < 8 → w.cell? ⟨1, r, none⟩ = some (.int .u32 ((byteAt firstL r : Nat) : Int))) ∧ ∀ r, r < 64 → w.cell? ⟨2, r, none⟩ = some (.int .u32 ((byteAt kL r : Nat) : Int))
theorem Tabs.pos {w : World} (h : Tabs w) : 2 < w.heap.size := block_lt_of_cell (h.2 0 (by omega))
theorem Tabs.below {w w' : World} {B : Nat} (h : Tabs w) (hb : Below B w w') (hB : 2 < B) : Tabs w' := ⟨fun r hr => (hb.cell (p := ⟨1, r, none⟩) (by show 1 < B; omega)).trans (h.1 r hr), fun r hr => (hb.cell (p := ⟨2, r, none⟩) hB).trans (h.2 r hr)⟩

theorem u32_not {e : Nat} (he : e < 4294967296) : bits .xor .u32 IntKind.u32.max (e : Int) = ((e ^^^ 4294967295 : Nat) : Int) := by
  have := u32_xor_nat 4294967295 e (by omega) he
  rw [Nat.xor_comm] at this
  exact this
theorem wd_cells (s : Wd) : cw s.list = #[.int .u32 (s.a : Int), .int .u32 (s.b : Int), .int .u32 (s.c : Int), .int .u32 (s.d : Int), .int .u32 (s.e : Int), .int .u32 (s.f : Int), .int .u32 (s.g : Int), .int .u32 (s.h : Int)] := rfl

theorem below_drewNS {B : Nat} {w w' : World} (h : Below B w w') (k : Nat) : Below B w (w'.drewN k) := ⟨h.os, h.tape, h.output, h.size, h.block⟩
/-- what the rounds of a step holdB -/
def WdAt (v : Wd) (s5 s6 s7 s8 s9 s10 s11 s12 : Value) : Prop :=
  s5 = .int .u32 (v.a : Int) ∧ s6 = .int .u32 (v.b : Int) ∧ s7 = .int .u32 (v.c : Int) ∧ s8 = .int .u32 (v.d : Int) ∧ s9 = .int .u32 (v.e : Int) ∧ s10 = .int .u32 (v.f : Int) ∧ s11 = .int .u32 (v.g : Int) ∧ s12 = .int .u32 (v.h : Int)
theorem u32_sum (a b : Nat) : IntKind.u32.wrap ((a : Int) + (b : Int)) = (((a + b) % 4294967296 : Nat) : Int) := by rw [IntKind.wrap_u32']; omega
theorem u32_mod (a b : Nat) : ((a : Int) + (b : Int)) % 4294967296 = (((a + b) % 4294967296 : Nat) : Int) := by omega

set_option maxRecDepth 20000 in
set_option maxHeartbeats 2000000 in
theorem step_any (s : Wd) (l : List Nat) (w : World) (hs : s.Ok) (hl : l.length = 64) (hby : ∀ x ∈ l, x < 256) (ht : Tabs w) :
    Calls Tryz.prog 70 #[.agg (cw s.list), .agg (cb l)] w fun e w' => e = .returned (.agg (cw (stepN kL s l).list)) ∧ Below w.heap.size w w' := by
  have HL := hide hl
  have HT := hide ht.2
  have hp := ht.pos
  clear hl ht
  rw [wd_cells]
  go_enter Tryz.func70, Tryz.ntmps70
  go_wp2_with fail
  have hb0 : Below w.heap.size w (((w.alloc (.cells #[.int .u32 (s.a : Int), .int .u32 (s.b : Int), .int .u32 (s.c : Int), .int .u32 (s.d : Int), .int .u32 (s.e : Int), .int .u32 (s.f : Int), .int .u32 (s.g : Int), .int .u32 (s.h : Int)] 73)).alloc (.cells (cb l) 103)).alloc (.cells (cw (List.replicate 8 0)) 73)) := (((Below.refl _ _).alloc (Nat.le_refl _) _).alloc (by simp) _).alloc (by simp; omega) _
  refine code_overS (fun W => Bk W w.heap.size 73 (cw s.list) ∧ Bk W (w.heap.size + 1) 103 (cb l) ∧ Bk W (w.heap.size + 1 + 1) 73 (cw (List.replicate 8 0)) ∧ Below w.heap.size w W) ⟨((Bk.new w _ _).alloc _).alloc _, (Bk.new2 w _ _ _).alloc _, Bk.new3 w _ _ _ _, hb0⟩ ?_
  clear hb0
  rintro W ⟨b0, b1, b2, hb⟩
  have B0 := hide b0; have B1 := hide b1; have B2 := hide b2; have HB := hide hb
  have c0 := b0.cell 0; have c1 := b0.cell 1; have c2 := b0.cell 2; have c3 := b0.cell 3; have c4 := b0.cell 4; have c5 := b0.cell 5; have c6 := b0.cell 6; have c7 := b0.cell 7
  rw [wd_cells] at c0 c1 c2 c3 c4 c5 c6 c7
  simp only [List.getElem?_toArray, List.getElem?_cons_zero, List.getElem?_cons_succ] at c0 c1 c2 c3 c4 c5 c6 c7
  clear b0 b1 b2 hb
  go_quiet (fail)
  refine post_overS (fun W => Bk W w.heap.size 73 (cw s.list) ∧ Bk W (w.heap.size + 1) 103 (cb l) ∧ Bk W (w.heap.size + 1 + 1) 73 (cw (List.replicate 8 0)) ∧ Below w.heap.size w W) ⟨B0.out, B1.out, B2.out, below_drewNS HB.out nq⟩ ?_
  clear B0 B1 B2 HB c0 c1 c2 c3 c4 c5 c6 c7 nq
  clear W
  rintro W ⟨b0, b1, b2, hb⟩
  have B0 := hide b0; have B1 := hide b1; have B2 := hide b2; have HB := hide hb
  clear b0 b1 b2 hb
  go_wp2_with ((with_reducible show wpList _ _ _ (⟨some 33, _, _, _, _, _⟩ :: _) _ _); refine holdB ?_)
  refine heldB (wpList_load_mid rfl 103 (.tmp 3) rfl (w.heap.size + 1) 0 rfl _ _ B1.out.range Tryz.underlying103 rfl (by rw [Array.length_toList, cb_size, HL.out]; exact sizeSec) ?_)
  go_wp2_with fail
  refine (spread_any l _ HL.out hby).mono ?_
  rintro e W2 ⟨rfl, hb2⟩
  have hlen := schedN_length l
  have hlt := schedN_lt l
  obtain ⟨ws, hws⟩ : ∃ ws, ws = schedN l := ⟨_, rfl⟩
  rw [← hws] at hlen hlt ⊢
  have HWS := hide hws
  have HLEN := hide hlen
  have B0' := hide (B0.out.below hb2 B0.out.lt)
  have B2' := hide (B2.out.below hb2 B2.out.lt)
  have HB' := hide (HB.out.trans (hb2.mono HB.out.size))
  clear hws hlen B0 B1 B2 HB hb2
  go_wp2
  go_loopw [5, 6, 7, 8, 9, 10, 11, 12, 35] (fun s5 s6 s7 s8 s9 s10 s11 s12 i wr => ∃ k : Nat, k ≤ 64 ∧ i = .int .i64 k ∧ WdAt (roundsN kL ws s k) s5 s6 s7 s8 s9 s10 s11 s12 ∧ Bk wr w.heap.size 73 (cw s.list) ∧ Bk wr (w.heap.size + 1 + 1) 73 (cw (List.replicate 8 0)) ∧ Below w.heap.size w wr) (fun _ _ _ _ _ _ _ _ i _ => 64 - (intOf i).toNat)
  case atStart => exact ⟨0, Nat.zero_le _, rfl, by rw [roundsN_zero]; exact ⟨rfl, rfl, rfl, rfl, rfl, rfl, rfl, rfl⟩, B0'.out, B2'.out, HB'.out⟩
  case round =>
    obtain ⟨k, hk, rfl, hwd, b0, b2, hb⟩ := hrel
    have hok := roundsN_ok kL ws hs k
    by_cases hlt64 : k < 64
    · have HS := hide (roundsN_succ kL ws s k)
      generalize roundsN kL ws s k = v at *
      obtain ⟨rfl, rfl, rfl, rfl, rfl, rfl, rfl, rfl⟩ := hwd
      have hix := fun W => run_index_row (P := Tryz.prog) (w := W) Tryz.underlying75 Tryz.underlying72 (by kernel_rfl) hlt64 (cw_at (l := ws) (i := k) (by rw [HLEN.out]; exact hlt64))
      have hwk := hlt.lt k
      have hkk := kL_lt.lt k
      have hcK : wr.cell? ⟨2, k, none⟩ = some (.int .u32 ((byteAt kL k : Nat) : Int)) := (hb.cell (p := ⟨2, k, none⟩) hp).trans (HT.out k hlt64)
      obtain ⟨a, b, c, d, e, f, g, h⟩ := v
      obtain ⟨oa, ob, oc, od, oe, of, og, oh⟩ := hok
      simp only at oa ob oc od oe of og oh ⊢
      have HT1 : Hid (t1N ⟨a, b, c, d, e, f, g, h⟩ (byteAt kL k) (byteAt ws k) = ((((h + g1N e) % 4294967296 + chN e f g) % 4294967296 + byteAt kL k) % 4294967296 + byteAt ws k) % 4294967296) := hide rfl
      have HT2 : Hid (t2N ⟨a, b, c, d, e, f, g, h⟩ = (g0N a + majN a b c) % 4294967296) := hide rfl
      generalize byteAt kL k = kk at *
      generalize byteAt ws k = wk at *
      have h1 := u32_and_nat e f oe of
      have h2 : bits .xor .u32 (if IntKind.u32.signed = true then -1 else IntKind.u32.max) (e : Int) = ((e ^^^ 4294967295 : Nat) : Int) := u32_not oe
      have h3 := u32_and_nat (e ^^^ 4294967295) g (xor_lt oe (by omega)) og
      have h4 := u32_xor_nat (e &&& f) ((e ^^^ 4294967295) &&& g) (and_lt _ oe) (and_lt _ (xor_lt oe (by omega)))
      have hz := g1N_lt oe
      have s1 := u32_sum h (g1N e)
      have s2 := u32_sum ((h + g1N e) % 4294967296) ((e &&& f) ^^^ ((e ^^^ 4294967295) &&& g))
      have s3 := u32_sum (((h + g1N e) % 4294967296 + ((e &&& f) ^^^ ((e ^^^ 4294967295) &&& g))) % 4294967296) kk
      have s4 := u32_sum ((((h + g1N e) % 4294967296 + ((e &&& f) ^^^ ((e ^^^ 4294967295) &&& g))) % 4294967296 + kk) % 4294967296) wk
      generalize hx1 : (h + g1N e) % 4294967296 = x1 at *
      generalize hx2 : (x1 + ((e &&& f) ^^^ ((e ^^^ 4294967295) &&& g))) % 4294967296 = x2 at *
      generalize hx3 : (x2 + kk) % 4294967296 = x3 at *
      generalize hx4 : (x3 + wk) % 4294967296 = x4 at *
      have HX := hide (And.intro hx1 (And.intro hx2 (And.intro hx3 hx4)))
      clear hx1 hx2 hx3 hx4
      have H0 := hide b0; have H2 := hide b2; have H3 := hide hb
      clear b0 b2 hb
      go_wp2_with fail
      go_quiet ((go_at_call 93; exact Calls.quiet_of_same ((great1_any e _ oe).mono (fun _ _ h => ⟨h.1, h.2.symm⟩))))
      refine post_overS (fun W => Bk W w.heap.size 73 (cw s.list) ∧ Bk W (w.heap.size + 1 + 1) 73 (cw (List.replicate 8 0)) ∧ Below w.heap.size w W) ⟨H0.out, H2.out, below_drewNS H3.out nq⟩ ?_
      clear H0 H2 H3 nq hcK h1 h2 h3 h4 s1 s2 s3 s4 hix hz
      rintro W3 ⟨b0, b2, hb⟩
      have H0 := hide b0; have H2 := hide b2; have H3 := hide hb
      clear b0 b2 hb
      have m1 := u32_and_nat a b oa ob
      have m2 := u32_and_nat a c oa oc
      have m3 := u32_and_nat b c ob oc
      have m4 := u32_xor_nat (a &&& b) (a &&& c) (and_lt _ oa) (and_lt _ oa)
      have m5 := u32_xor_nat ((a &&& b) ^^^ (a &&& c)) (b &&& c) (xor_lt (and_lt _ oa) (and_lt _ oa)) (and_lt _ ob)
      have m6 := u32_mod (g0N a) ((a &&& b) ^^^ (a &&& c) ^^^ (b &&& c))
      generalize hy : (g0N a + ((a &&& b) ^^^ (a &&& c) ^^^ (b &&& c))) % 4294967296 = y at *
      have m7 := u32_mod x4 y
      have m8 := u32_mod d x4
      generalize hx5 : (x4 + y) % 4294967296 = x5 at *
      generalize hx6 : (d + x4) % 4294967296 = x6 at *
      have HY := hide (And.intro hy (And.intro hx5 hx6))
      clear hy hx5 hx6
      go_wp2_with fail
      refine (great0_any a _ oa).mono ?_
      rintro e w' ⟨rfl, rfl⟩
      go_wp2
      go_roundw
      case rel =>
        refine ⟨k + 1, by omega, by go_num, ?_, H0.out, H2.out, H3.out⟩
        have e4 : t1N ⟨a, b, c, d, e, f, g, h⟩ kk wk = x4 := by
          obtain ⟨h1, h2, h3, h4⟩ := HX.out
          rw [HT1.out, ← h4, ← h3, ← h2]; rfl
        have e5 : t2N ⟨a, b, c, d, e, f, g, h⟩ = y := by rw [HT2.out]; exact HY.out.1
        have e6 : roundN ⟨a, b, c, d, e, f, g, h⟩ kk wk = ⟨x5, a, b, c, x6, e, f, g⟩ := by
          unfold roundN
          rw [e4, e5, HY.out.2.1, HY.out.2.2]
        rw [HS.out, e6]
        exact ⟨by rw [m7], rfl, rfl, rfl, by rw [m8], rfl, rfl, rfl⟩
      case measure => simp [intOf]; omega
    · have hk64 : k = 64 := by omega
      rw [hk64] at hwd
      have HSt : Hid (stepN kL s l = sumN s (roundsN kL ws s 64)) := hide (by rw [HWS.out]; rfl)
      have hlk : ¬ (k : Int) < 64 := by omega
      clear hk64 hlt64 hk hok
      generalize roundsN kL ws s 64 = v at *
      obtain ⟨rfl, rfl, rfl, rfl, rfl, rfl, rfl, rfl⟩ := hwd
      have B0 := hide b0; have B2 := hide b2; have HB := hide hb
      have c0 := b0.cell 0; have c1 := b0.cell 1; have c2 := b0.cell 2; have c3 := b0.cell 3; have c4 := b0.cell 4; have c5 := b0.cell 5; have c6 := b0.cell 6; have c7 := b0.cell 7
      rw [wd_cells] at c0 c1 c2 c3 c4 c5 c6 c7
      simp only [List.getElem?_toArray, List.getElem?_cons_zero, List.getElem?_cons_succ] at c0 c1 c2 c3 c4 c5 c6 c7
      clear b0 b2 hb
      have m0 := u32_mod s.a v.a; have m1 := u32_mod s.b v.b; have m2 := u32_mod s.c v.c; have m3 := u32_mod s.d v.d
      have m4 := u32_mod s.e v.e; have m5 := u32_mod s.f v.f; have m6 := u32_mod s.g v.g; have m7 := u32_mod s.h v.h
      generalize hr0 : (s.a + v.a) % 4294967296 = r0 at *
      generalize hr1 : (s.b + v.b) % 4294967296 = r1 at *
      generalize hr2 : (s.c + v.c) % 4294967296 = r2 at *
      generalize hr3 : (s.d + v.d) % 4294967296 = r3 at *
      generalize hr4 : (s.e + v.e) % 4294967296 = r4 at *
      generalize hr5 : (s.f + v.f) % 4294967296 = r5 at *
      generalize hr6 : (s.g + v.g) % 4294967296 = r6 at *
      generalize hr7 : (s.h + v.h) % 4294967296 = r7 at *
      have HSU : Hid (sumN s v = ⟨r0, r1, r2, r3, r4, r5, r6, r7⟩) := hide (by unfold sumN; rw [hr0, hr1, hr2, hr3, hr4, hr5, hr6, hr7])
      clear hr0 hr1 hr2 hr3 hr4 hr5 hr6 hr7
      go_wp2_with ((with_reducible show wpList _ _ _ (⟨none, .store _ _ _, _, _, _, _⟩ :: _) _ _); refine holdB ?_)
      refine heldB (wpList_store_wide rfl 73 (.tmp 4) (.tmp 117) rfl (w.heap.size + 1 + 1) 0 (cw [r0, r1, r2, r3, r4, r5, r6, r7]) rfl rfl 73 _ B2.out (by simp [cw_size]) size8 (cw_one _) ?_)
      intro w' hw'
      rw [setRow_all (by simp [cw_size])] at hw'
      have B1 := hide (hw'.out ▸ B2.out.setRow_same (cw [r0, r1, r2, r3, r4, r5, r6, r7]) : Bk w' _ _ _)
      have hb2 := hw'.out ▸ below_setRow HB.out (g := w.heap.size + 1 + 1) (by omega) (cw [r0, r1, r2, r3, r4, r5, r6, r7])
      clear hw' B0 B2 HB c0 c1 c2 c3 c4 c5 c6 c7
      go_wp2
      refine bodyPost_ret (v := .agg (cw [r0, r1, r2, r3, r4, r5, r6, r7])) ?_ rfl ⟨by rw [HSt.out, HSU.out]; rfl, hb2⟩
      exact results_cell (a := ⟨w.heap.size + 1 + 1, 0, none⟩) rfl rfl (B1.out.load Tryz.underlying73 rfl size8)
end Go.Proofs.YtoiffchhfnbooaaGreatDoor

/-
  Slices of one-cell values of a call's own: append of one value. They speak of any program.
-/
namespace Go.Proofs.YtoiffchhfnbooaaGreatDoor
set_option linter.unusedVariables false
set_option linter.unusedSimpArgs false
set_option linter.unusedVariables false
set_option linter.unusedSimpArgs false
open Go.RowKit

/-- the slice (A, n, c) is of one's own, from block base on, and holds the values vs -/
def OwnV (w : World) (base : Nat) (e : TypeId) (A : Option Addr) (n c : Nat) (vs : List Value) : Prop :=
  w.ownsRow base e 1 (.slice A n c) n vs
section
variable {w w' : World} {base n c : Nat} {e : TypeId} {A : Option Addr} {vs : List Value}
theorem OwnV.nil : OwnV w base e none 0 0 [] := ⟨by simp, .inl ⟨rfl, rfl⟩⟩
theorem OwnV.len (h : OwnV w base e A n c vs) : vs.length = n := by simpa using h.1
theorem OwnV.below (h : OwnV w base e A n c vs) (hb : Below w.heap.size w w') : OwnV w' base e A n c vs := by
  refine ⟨h.1, ?_⟩
  rcases h.2 with h0 | ⟨g, cap, cur, hv, hg, hh, r⟩
  · exact .inl h0
  · exact .inr ⟨g, cap, cur, hv, hg, (hb.block g (Array.getElem?_eq_some_iff.1 hh).1).trans hh, r⟩
theorem OwnV.alloc (h : OwnV w base e A n c vs) (o : Obj) : OwnV (w.alloc o) base e A n c vs := h.below ((Below.refl _ _).alloc (Nat.le_refl _) _)
theorem OwnV.cells (h : OwnV w base e A n c vs) (hn : 0 < n) : ∃ g, A = some ⟨g, 0, none⟩ ∧ base ≤ g ∧ g < w.heap.size ∧ ∀ i v, vs[i]? = some v → w.cell? ⟨g, i, none⟩ = some v := by
  have hlen := h.len
  rcases h.2 with ⟨_, h0⟩ | ⟨g, cap, cur, hv, hg, hh, hnc, hcm, hcs, htk⟩
  · omega
  · injection hv with hA _ hc
    subst hA
    refine ⟨g, rfl, hg, (Array.getElem?_eq_some_iff.1 hh).1, fun i v hi => ?_⟩
    have hil : i < vs.length := (List.getElem?_eq_some_iff.1 hi).1
    rw [cell_of_row w g i cur e (0, 0) hh]
    rw [← htk, List.getElem?_take, if_pos (by omega)] at hi
    simpa only [Array.getElem?_toList] using hi
end
section
variable {P : Program}
/-- append(s, v): the one value lies in a new block -/
theorem wpList_append_one {ops : Array Oper} {rest : List Oper} {o : Oper} {a : Act} {w : World} {Q : Exit → Act → World → Prop} (hgd : o.guard = none) (s x : Operand) (t : TypeId)
    (ho : o.op = .call { callee := .builtin .append, args := #[s, x], argTypes := #[t, t] }) {e : TypeId} (ht : P.underlying t = some (.slice e)) {zv : Value} {by_ : Nat}
    (he : (P.info? e).map (fun i => (i.zero, i.size, i.bytes)) = some (some zv, 1, by_)) (hzc : zv.cells.size = 1) (hby : by_ ≤ 24)
    (base : Nat) (A : Option Addr) (n c : Nat) (vs : List Value) (hs : a.eval s = .slice A n c) (hown : OwnV w base e A n c vs)
    (b off : Nat) (v : Value) (hx : a.eval x = .slice (some ⟨b, off, none⟩) 1 1) (hc : w.cell? ⟨b, off, none⟩ = some v) (hv : v.oneCell' = true) (hn : n ≤ 1000000) (hbase : base ≤ w.heap.size)
    (h : ∀ A2 c2 w', OwnV w' base e A2 (n + 1) c2 (vs ++ [v]) → Below base w w' → wpList P ops Q rest (a.put o.dst (.slice A2 (n + 1) c2)) w') : wpList P ops Q (o :: rest) a w :=
  wpList_plain hgd fun _ hK => by
    obtain ⟨i, hi, hz, hs', hby'⟩ := info_parts he
    obtain ⟨v', w', hrun, h1, h2, _, _⟩ := run_append_own_at (P := P) w base t o.type e i zv 1 by_ ht hi hz hs' hby' hzc (by omega) (.slice A n c) n vs hown ⟨b, off, none⟩ 1 1 [v] rfl
      (fun j u hu => by
        cases j with
        | zero => simp at hu; subst hu; rw [Addr.add_mid, Nat.add_zero]; exact hc
        | succ j => simp at hu) (by simpa using hv) (by unfold maxLen; omega) (Nat.le_trans (Nat.mul_le_mul_left _ hby) (by omega)) hbase
    have hsh : ∃ A2 c2, v' = .slice A2 (n + 1) c2 := by
      rcases h1.2 with ⟨rfl, h0⟩ | ⟨g, cap, cur, rfl, _⟩
      · rw [h0]; exact ⟨_, _, rfl⟩
      · exact ⟨_, _, rfl⟩
    obtain ⟨A2, c2, rfl⟩ := hsh
    unfold Oper.wp execOp
    simp only [ho, resolve, invoke, builtin, Sem.run_bind, Sem.run_pure, Result.andThen_ok, List.map_toArray, List.map_cons, List.map_nil, hs, hx, hrun]
    exact hK _ _ (h A2 c2 w' h1 ((Below.refl _ _).grown h2 hbase (fun k hk => (hown.lt k hk).1)))
end
end Go.Proofs.YtoiffchhfnbooaaGreatDoor

/-
  Contracts over the document's own answer for layer 4: the first prime numbers, the first eight words, the constants.
-/
namespace Go.Proofs.YtoiffchhfnbooaaGreatDoor
set_option linter.unusedVariables false
set_option linter.unusedSimpArgs false
set_option linter.unusedVariables false
set_option linter.unusedSimpArgs false
open Go.RowKit

theorem info_u64 : (Tryz.prog.info? 70).map (fun i => (i.zero, i.size, i.bytes)) = some (some (.int .u64 0), 1, 8) := by kernel_rfl
/-- numbers of 64 bits as cells -/
def lv (x : Nat) : Value := .int .u64 (x : Int)
theorem primesL_succ (p : Nat) : primesL (p + 1) = primesL p ++ if primeB p then [p] else [] := by
  unfold primesL
  rw [List.range_succ, List.filter_append]
  congr 1
  cases h : primeB p <;> simp [h]
theorem primesL_pre {p q : Nat} (h : p ≤ q) : primesL p <+: primesL q := by
  induction q with
  | zero => obtain rfl : p = 0 := by omega
            exact List.prefix_refl _
  | succ q ih =>
    by_cases e : p = q + 1
    · subst e; exact List.prefix_refl _
    · exact (ih (by omega)).trans (by rw [primesL_succ]; exact List.prefix_append _ _)
theorem primes_len : (primesL 312).length = 64 := by decide +kernel
theorem primes_lt {p n : Nat} (hn : n ≤ 64) (hp : p ≤ 312) (h : (primesL p).length < n) : p < 312 := by
  rcases Nat.lt_or_ge p 312 with h' | h'
  · exact h'
  · obtain rfl : p = 312 := by omega
    rw [primes_len] at h
    omega
theorem primes_take {p : Nat} (hp : p ≤ 312) : primesL p = (primesL 312).take (primesL p).length := (List.prefix_iff_eq_take.1 (primesL_pre hp))

set_option maxRecDepth 20000 in
set_option maxHeartbeats 1000000 in
theorem primes_any (n : Nat) (w : World) (hn : n ≤ 64) :
    Calls Tryz.prog 72 #[.int .i64 (n : Int)] w fun e w' => ∃ A c, e = .returned (.slice A n c) ∧ OwnV w' w.heap.size 70 A n c (((primesL 312).take n).map lv) ∧ Below w.heap.size w w' := by
  go_enter Tryz.func72, Tryz.ntmps72
  go_wp2
  go_loopw [3, 4] (fun s t wr => ∃ (p k : Nat) (A : Option Addr) (c : Nat), 2 ≤ p ∧ p ≤ 312 ∧ k ≤ n ∧ (primesL p).length = k ∧ t = .int .u64 (p : Int) ∧ s = .slice A k c ∧ OwnV wr w.heap.size 70 A k c ((primesL p).map lv) ∧ Below w.heap.size w wr) (fun _ t _ => 320 - (intOf t).toNat)
  case atStart => exact ⟨2, 0, none, 0, by omega, by omega, by omega, by decide +kernel, rfl, rfl, by rw [show primesL 2 = [] by decide +kernel]; exact OwnV.nil, Below.refl _ _⟩
  case round =>
    obtain ⟨p, k, A, c, hp2, hp, hkn, hk, rfl, rfl, ho, hb⟩ := hrel
    have HK := hide hk
    by_cases hlt : k < n
    · have hp3 := primes_lt hn hp (by rw [hk]; exact hlt)
      have HS := hide (primesL_succ p)
      clear hk
      cases hpb : noDiv p with
      | true =>
        have HPB : Hid (primesL (p + 1) = primesL p ++ [p]) := hide (by rw [HS.out]; unfold primeB; rw [hpb]; simp [hp2])
        have HC := prime_any p wr (by omega) hp2
        rw [hpb] at HC
        clear HS hpb
        go_wp2_with fail
        refine HC.mono ?_
        rintro e w' ⟨rfl, rfl⟩
        go_wp2_with ((with_reducible show wpList _ _ _ (⟨some 16, _, _, _, _, _⟩ :: _) _ _); refine holdB ?_)
        refine heldB (wpList_append_one rfl (.tmp 13) (.tmp 15) 105 rfl Tryz.underlying105 info_u64 rfl (by omega) w.heap.size A k c _ rfl (ho.alloc _) wr.heap.size 0 (lv p) rfl (by rw [cell_of_row _ _ _ _ _ _ (heap_alloc_new wr _)]; rfl) rfl (by omega) (by have := hb.size; simp; omega) ?_)
        intro A3 c3 w3 ho3 hb3
        have hb4 := (hb.alloc hb.size _).trans hb3
        go_wp2
        go_roundw
        case rel => exact ⟨p + 1, k + 1, A3, c3, by omega, by omega, by omega, by rw [HPB.out, List.length_append, HK.out]; rfl, by go_num, rfl, by rw [HPB.out, List.map_append]; exact ho3, hb4⟩
        case measure => simp [intOf]; omega
      | false =>
        have HPB : Hid (primesL (p + 1) = primesL p) := hide (by rw [HS.out]; unfold primeB; rw [hpb]; simp)
        have HC := prime_any p wr (by omega) hp2
        rw [hpb] at HC
        clear HS hpb
        go_wp2_with fail
        refine HC.mono ?_
        rintro e w' ⟨rfl, rfl⟩
        go_wp2
        go_roundw
        case rel => exact ⟨p + 1, k, A, c, by omega, by omega, by omega, by rw [HPB.out, HK.out], by go_num, rfl, by rw [HPB.out]; exact ho, hb⟩
        case measure => simp [intOf]; omega
    · obtain rfl : k = n := by omega
      have HT := hide (primes_take hp)
      clear hk
      go_wp2
      go_ret
      exact ⟨A, c, rfl, by rw [HT.out, HK.out] at ho; exact ho, hb⟩
end Go.Proofs.YtoiffchhfnbooaaGreatDoor
