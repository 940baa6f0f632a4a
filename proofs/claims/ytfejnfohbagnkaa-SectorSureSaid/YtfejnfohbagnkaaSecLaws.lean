/-
  Laws on rows of cells for the proofs over package sector: a new slice of sectors or of writes, a whole sector or write into and out of the middle of a block, comparing arrays of bytes. They speak of any program whose types have the shape that is asked.
-/
import Derived.Test.YtfejnfohbagnkaaSecWords
import Derived.Laws.MakeOwn
import Derived.OwnWalk
import Derived.Laws.CopyOwn
namespace Go.Proofs.Ytfejnfohbagnkaa
open Go.RowKit

theorem madeCells_replicate (k n : Nat) (v : Value) (hk : 0 < k) : madeCells (Array.replicate k v) n = Array.replicate n v := by
  apply Array.ext
  · simp [madeCells]
  · intro i h1 h2
    have : i % k < k := Nat.mod_lt _ hk
    simp [madeCells, this]

/-- the zero sector, and the zero write, as cells -/
def zsec : List Int := List.replicate 64 0
theorem secv_zsec : secv zsec = List.replicate 64 (.int .u8 0) := by simp [secv, zsec]

/-- make([][64]byte, n) -/
theorem run_make_secs {P : Program} {t e : TypeId} (ht : P.underlying t = some (.slice e))
    (he : (P.info? e).map (fun i => (i.zero, i.size, i.bytes)) = some (some (.agg (Array.replicate 64 (.int .u8 0))), 64, 64)) (n : Int) (h0 : 0 ≤ n) (h1 : n ≤ 1000000) (W : World) :
    (Instr.makeSlice t (.int .i64 n) (.int .i64 n)).run P W = .ok (.slice (some ⟨W.heap.size, 0, none⟩) n.toNat n.toNat) (W.alloc (.cells (Array.replicate (n.toNat * 64) (.int .u8 0)) e)) := by
  obtain ⟨i, hi, hz, hs, hb⟩ := info_parts he
  have := run_make (P := P) W t e i _ ht hi hz .i64 .i64 n n h0 (Int.le_refl _) (by rw [hb]; omega) (by omega)
  rw [this, hs]
  show Result.ok _ (W.alloc (.cells (madeCells (Array.replicate 64 (.int .u8 0)) _) e)) = _
  rw [madeCells_replicate _ _ _ (by omega)]

/-- make([]api.Write, m + 1), its cells behind a name -/
def zwrs (m : Nat) : Array Value := madeCells (wrv (0, zsec)).toArray (m * 65)
theorem zwrs_size (m : Nat) : (zwrs m).size = m * 65 := by simp [zwrs, size_madeCells]
theorem run_make_writes {P : Program} {t e : TypeId} (ht : P.underlying t = some (.slice e))
    (he : (P.info? e).map (fun i => (i.zero, i.size, i.bytes)) = some (some (.agg (wrv (0, zsec)).toArray), 65, 72)) (m : Nat) (h1 : m ≤ 1000000) (W : World) :
    (Instr.makeSlice t (.int .i64 ((m : Int) + 1)) (.int .i64 ((m : Int) + 1))).run P W = .ok (.slice (some ⟨W.heap.size, 0, none⟩) (m + 1) (m + 1)) (W.alloc (.cells (zwrs (m + 1)) e)) := by
  obtain ⟨i, hi, hz, hs, hb⟩ := info_parts he
  have := run_make (P := P) W t e i _ ht hi hz .i64 .i64 ((m : Int) + 1) ((m : Int) + 1) (by omega) (Int.le_refl _) (by rw [hb]; omega) (by omega)
  rw [this, hs, show ((m : Int) + 1).toNat = m + 1 by omega]
  rfl

/-- make([]bool, n) -/
theorem run_make_bools {P : Program} {t e : TypeId} (ht : P.underlying t = some (.slice e))
    (he : (P.info? e).map (fun i => (i.zero, i.size, i.bytes)) = some (some (.bool false), 1, 1)) (n : Nat) (h1 : n ≤ 1000000) (W : World) :
    (Instr.makeSlice t (.int .i64 (n : Int)) (.int .i64 (n : Int))).run P W = .ok (.slice (some ⟨W.heap.size, 0, none⟩) n n) (W.alloc (.cells (List.replicate n (Value.bool false)).toArray e)) := by
  obtain ⟨i, hi, hz, hs, hb⟩ := info_parts he
  have := run_make (P := P) W t e i _ ht hi hz .i64 .i64 (n : Int) (n : Int) (by omega) (Int.le_refl _) (by rw [hb]; omega) (by omega)
  rw [this, hs, Int.toNat_natCast, Nat.mul_one]
  have e1 : madeCells (Value.bool false).cells n = (List.replicate n (Value.bool false)).toArray := by
    apply Array.ext'
    rw [show (Value.bool false).cells = #[Value.bool false] from rfl, toList_madeCells_one]
  rw [e1]

/-- rows that are all one cell value -/
theorem Arr.zeros (w : World) (b n : Nat) (e : TypeId) (h : Bk w b e (Array.replicate (n * 64) (.int .u8 0))) (B : Nat) (hB : b < B) :
    Arr w B 64 (some ⟨b, 0, none⟩) n ((List.replicate n zsec).map secv) := by
  refine ⟨by simp, fun x hx => ?_, fun hn => ⟨b, 0, rfl, hB, fun i x hx => ?_⟩⟩
  · simp only [List.map_replicate, List.mem_replicate] at hx
    rw [hx.2]; simp [secv, zsec]
  · simp only [List.map_replicate, List.getElem?_replicate] at hx
    split at hx
    · rename_i hi
      injection hx with hx
      subst hx
      intro j v hv
      rw [h.cell, secv_zsec, List.getElem?_replicate] at *
      split at hv
      · injection hv with hv
        subst hv
        have : i * 64 + 64 ≤ n * 64 := by have := Nat.mul_le_mul_right 64 (show i + 1 ≤ n by omega); omega
        rw [Array.getElem?_replicate, if_pos (by omega)]
      · cases hv
    · cases hx

theorem setRow_other' (w : World) (g k : Nat) (cs : Array Value) (h : k ≠ g) : (w.setRow g cs).heap[k]? = w.heap[k]? := Go.setRow_other w g k cs h

theorem splice_two (z xs y : List Value) (h : xs.length + y.length = z.length) : splice (splice z 0 xs) xs.length y = xs ++ y := by
  have e : splice z 0 xs = xs ++ z.drop xs.length := by simp [splice]
  rw [e]
  unfold splice
  rw [List.take_left, List.drop_eq_nil_of_le (by simp; omega), List.append_nil]

/-- filling a part of a value -/
theorem fold_set (off : Nat) : ∀ (l : List Value) (i : Nat) (cs : Array Value), off + i + l.length ≤ cs.size →
    ((l.zipIdx i).foldl (fun (cs : Array Value) (x : Value × Nat) => cs.setIfInBounds (off + x.2) x.1) cs).toList = splice cs.toList (off + i) l
  | [], i, cs, h => by simp [splice]
  | v :: r, i, cs, h => by
    have h' : off + (i + 1) + r.length ≤ (cs.setIfInBounds (off + i) v).size := by simp at h ⊢; omega
    rw [List.zipIdx_cons, List.foldl_cons, fold_set off r (i + 1) _ h']
    have e := list_seg_step cs.toList (off + i) v r (by simp at h ⊢; omega)
    simp only [splice, Array.toList_setIfInBounds, List.length_cons]
    have e1 : off + (i + 1) = off + i + 1 := by omega
    rw [e1]
    simpa [Nat.add_assoc] using e

/-! ### operations on values of many cells, as steps of a walk -/
section
variable {P : Program}

/-- the walk stands still at a goal that is held -/
theorem hold {p : Prop} (h : Hid p) : p := h
theorem held {p : Prop} (h : p) : Hid p := h

theorem wp_value {o : Oper} {a : Act} {w w' : World} {K : Act → World → Prop} {Q : Exit → Act → World → Prop} {v : Value}
    (h : (execOp a.eval o).run P w = .ok (.value v) w') (hK : K (a.put o.dst v) w') : o.wp P a w K Q := by
  unfold Oper.wp
  simp only [h]
  exact hK
theorem wp_skip {o : Oper} {a : Act} {w w' : World} {K : Act → World → Prop} {Q : Exit → Act → World → Prop}
    (h : (execOp a.eval o).run P w = .ok .skip w') (hK : K (a.put o.dst undef) w') : o.wp P a w K Q := by
  unfold Oper.wp
  simp only [h]
  exact hK

/-- the world behind a name: what is known of it, and the walk from whatever world of which that is known -/
theorem wpList_over {ops : Array Oper} {l : List Oper} {a : Act} {W : World} {Q : Exit → Act → World → Prop} (F : World → Prop) (hF : F W) (h : ∀ W', F W' → wpList P ops Q l a W') : Hid (wpList P ops Q l a W) := h W hF

/-- a new variable whose zero value is the cells z -/
theorem wpList_alloc_to {ops : Array Oper} {rest : List Oper} {o : Oper} {a : Act} {w : World} {Q : Exit → Act → World → Prop} (hgd : o.guard = none) (ty : TypeId) (ho : o.op = .alloc ty) (z : Array Value)
    (hz : (P.info? ty).map (·.zero) = some (some (.agg z))) (h : wpList P ops Q rest (a.put o.dst (.pointer (some ⟨w.heap.size, 0, none⟩))) (w.alloc (.cells z ty))) : wpList P ops Q (o :: rest) a w :=
  wpList_plain hgd fun _ hK => by
    cases hq : P.info? ty with
    | none => simp [hq] at hz
    | some i =>
      have hz' : i.zero = some (.agg z) := by simpa [hq] using hz
      refine wp_value (v := .pointer (some ⟨w.heap.size, 0, none⟩)) (w' := w.alloc (.cells z ty)) ?_ (hK _ _ h)
      unfold execOp
      simp only [ho]
      simp [Instr.alloc, zeroValue, typeInfo, hq, hz', newVar, Value.cells, newRow]

/-- a composite value -/
theorem wpList_build_to {ops : Array Oper} {rest : List Oper} {o : Oper} {a : Act} {w : World} {Q : Exit → Act → World → Prop} (hgd : o.guard = none) (t : TypeId) (parts : Array (Nat × Operand)) (ho : o.op = .build t parts)
    (vals : List (Nat × Value)) (hv : (parts.toList.map fun p => (p.1, a.eval p.2)) = vals) (cells : Array Value) (hb : P.built t vals = some cells)
    (h : wpList P ops Q rest (a.put o.dst (.agg cells)) w) : wpList P ops Q (o :: rest) a w :=
  wpList_plain hgd fun _ hK => by
    refine wp_value (v := .agg cells) (w' := w) ?_ (hK _ _ h)
    unfold execOp
    simp only [ho, Sem.run_bind, run_build w t _ cells (by rw [Array.toList_map]; exact hv ▸ hb), Result.andThen_ok]
    rfl

/-- another block lies as it lay; a store into a block of one's own leaves older memory as it was -/
theorem Bk.setRow_other {w : World} {b g : Nat} {t : TypeId} {cs : Array Value} (h : Bk w b t cs) (hne : b ≠ g) (cs' : Array Value) : Bk (w.setRow g cs') b t cs := (Ytfejnfohbagnkaa.setRow_other' w g b cs' hne).trans h
theorem Bk.setRow_same {w : World} {g : Nat} {t : TypeId} {cs : Array Value} (h : Bk w g t cs) (cs' : Array Value) : Bk (w.setRow g cs') g t cs' := setRow_heap w g cs cs' t (0, 0) h

/-- a value of many cells goes into a block that is known whole -/
theorem wpList_store_wide {ops : Array Oper} {rest : List Oper} {o : Oper} {a : Act} {w : World} {Q : Exit → Act → World → Prop} (hgd : o.guard = none) (ty : TypeId) (x y : Operand) (ho : o.op = .store ty x y)
    (g off : Nat) (cells : Array Value) (hx : a.eval x = .pointer (some ⟨g, off, none⟩)) (hy : a.eval y = .agg cells)
    (t : TypeId) (cur : Array Value) (hg : Bk w g t cur) (hfit : off + cells.size ≤ cur.size) (hi : (P.info? ty).map (·.size) = some cells.size) (h1 : ∀ v ∈ cells.toList, v.oneCell' = true)
    (h : ∀ w', Hid (w' = w.setRow g (splice cur.toList off cells.toList).toArray) → wpList P ops Q rest (a.put o.dst undef) w') : wpList P ops Q (o :: rest) a w :=
  wpList_plain hgd fun _ hK => by
    refine wp_skip (w' := w.setRow g (splice cur.toList off cells.toList).toArray) ?_ (hK _ _ (h _ rfl))
    have := run_storeCells_at P g off t cells.toList 0 cur w hg (by simpa using hfit) h1
    simp only [Nat.add_zero, List.append_assoc] at this
    cases hq : P.info? ty with
    | none => simp [hq] at hi
    | some i =>
      have hs : cells.size = i.size := by simp [hq] at hi; omega
      unfold execOp
      simp only [ho, hx, hy, Instr.storeAt, Instr.sureAddr, Sem.run_bind, Sem.run_pure, Result.andThen_ok]
      simp [storeVar, sizeOf, typeInfo, hq, Value.cells, hs, this, splice]

/-- copy into the head of a block that is known whole -/
theorem wpList_copy_wide {ops : Array Oper} {rest : List Oper} {o : Oper} {a : Act} {w : World} {Q : Exit → Act → World → Prop} (hgd : o.guard = none) (d s : Operand) (dT sT : TypeId)
    (ho : o.op = .call { callee := .builtin .copy, args := #[d, s], argTypes := #[dT, sT] }) (elem : TypeId) (k : Nat) (hu : P.underlying dT = some (.slice elem)) (hsz : (P.info? elem).map (·.size) = some k)
    (g dLen dCap sLen sCap : Nat) (A : Option Addr) (hd : a.eval d = .slice (some ⟨g, 0, none⟩) dLen dCap) (hs : a.eval s = .slice A sLen sCap) (hle : sLen ≤ dLen)
    (t : TypeId) (cur : Array Value) (hg : Bk w g t cur) (B : Nat) (xs : List (List Value)) (hA : Arr w B k A sLen xs) (hfit : sLen * k ≤ cur.size) (h1 : ∀ x ∈ xs, ∀ v ∈ x, v.oneCell' = true)
    (h : ∀ w', Hid (w' = w.setRow g (splice cur.toList 0 xs.flatten).toArray) → wpList P ops Q rest (a.put o.dst (goInt sLen)) w') : wpList P ops Q (o :: rest) a w :=
  wpList_plain hgd fun _ hK => by
    refine wp_value (v := goInt sLen) (w' := w.setRow g (splice cur.toList 0 xs.flatten).toArray) ?_ (hK _ _ (h _ rfl))
    have hlen : xs.flatten.length = sLen * k := Arr.flat_length hA
    have h1' : ∀ v ∈ xs.flatten, v.oneCell' = true := by
      intro v hv
      obtain ⟨x, hx, hvx⟩ := List.mem_flatten.1 hv
      exact h1 x hx v hvx
    have hst := run_storeCells_at P g 0 t xs.flatten 0 cur w hg (by simpa [hlen] using hfit) h1'
    simp only [Nat.add_zero, List.append_assoc, Nat.zero_add] at hst
    have hmin : Nat.min sLen dLen = sLen := Nat.min_eq_left hle
    cases hq : P.info? elem with
    | none => simp [hq] at hsz
    | some i =>
      have hik : i.size = k := by simpa [hq] using hsz
      by_cases h0 : sLen = 0
      · have hx0 : xs = [] := List.eq_nil_of_length_eq_zero (by rw [hA.1, h0])
        subst hx0
        have hself : w.setRow g (splice cur.toList 0 ([] : List (List Value)).flatten).toArray = w := by simp [splice]; exact setRow_self w g cur t (0, 0) hg
        rw [hself]
        unfold execOp
        simp only [ho]
        cases A with
        | none => simp [resolve, invoke, builtin, hd, hs, Builtin.copy_, run_underlying hu, Builtin.lenOf, Builtin.firstCells, sizeOf, typeInfo, hq, h0, storeCells]
        | some ad => simp [resolve, invoke, builtin, hd, hs, Builtin.copy_, run_underlying hu, Builtin.lenOf, Builtin.firstCells, sizeOf, typeInfo, hq, h0, storeCells, loadCells, loadCellsFrom]
      · obtain ⟨b, off, rfl, hb, hc⟩ := hA.2.2 (by omega)
        have hl : (loadCells ⟨b, off, none⟩ (sLen * k)).run P w = .ok xs.flatten.toArray w := by
          rw [← hlen]
          exact run_loadCells_list (P := P) w ⟨b, off, none⟩ xs.flatten (fun j v hv => by rw [Addr.add_mid]; exact Arr.flat hA.2.1 hc j v hv)
        unfold execOp
        simp only [ho]
        simp [resolve, invoke, builtin, hd, hs, Builtin.copy_, run_underlying hu, Builtin.lenOf, Builtin.firstCells, sizeOf, typeInfo, hq, hik, hmin, hl, hst, splice]
end
end Go.Proofs.Ytfejnfohbagnkaa
