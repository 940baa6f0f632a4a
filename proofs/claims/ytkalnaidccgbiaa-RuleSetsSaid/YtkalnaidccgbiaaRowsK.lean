/-
  Rows of k cells in a block of a call's own, known whole: some written over, room made, what is behind cleared. Of any program.
-/
import Derived.Test.YtkalnaidccgbiaaAppK
import Derived.Test.YtkalnaidccgbiaaWide
import Derived.Lib.AppendZerosOnto
namespace Go.Proofs.Ytkalnaidccgbiaa
open Go.RowKit
set_option linter.unusedVariables false
set_option linter.unusedSimpArgs false

section
variable {α : Type} {k : Nat} {f : α → List Value}
theorem flat_take (hk : ∀ a, (f a).length = k) : ∀ (l : List α) (j : Nat), (l.flatMap f).take (j * k) = (l.take j).flatMap f
  | [], j => by simp
  | a :: l, 0 => by simp
  | a :: l, j + 1 => by
    rw [List.flatMap_cons, List.take_append, hk, List.take_succ_cons, List.flatMap_cons, ← flat_take hk l j, Nat.succ_mul, Nat.add_sub_cancel]
    rw [List.take_of_length_le (by rw [hk]; omega)]
theorem flat_drop (hk : ∀ a, (f a).length = k) : ∀ (l : List α) (j : Nat), (l.flatMap f).drop (j * k) = (l.drop j).flatMap f
  | [], j => by simp
  | a :: l, 0 => by simp
  | a :: l, j + 1 => by
    rw [List.flatMap_cons, List.drop_append, hk, List.drop_succ_cons, ← flat_drop hk l j, Nat.succ_mul, Nat.add_sub_cancel]
    rw [List.drop_eq_nil_of_le (by rw [hk]; omega), List.nil_append]
/-- cells laid over known rows, from row j on -/
theorem splice_rows (hk : ∀ a, (f a).length = k) (l : List α) (rest : List Value) {j : Nat} (hj : j ≤ l.length) (us : List α) :
    splice (l.flatMap f ++ rest) (j * k) (us.flatMap f) = (l.take j ++ us ++ l.drop (j + us.length)).flatMap f ++ rest.drop ((j + us.length) * k - l.length * k) := by
  have h1 : j * k ≤ (l.flatMap f).length := by rw [flat_len hk]; exact Nat.mul_le_mul_right _ hj
  unfold splice
  rw [List.take_append_of_le_length h1, flat_take hk, flat_len hk, ← Nat.add_mul, List.drop_append, flat_drop hk, flat_len hk]
  simp only [List.flatMap_append, List.append_assoc]
theorem splice_cells (hk : ∀ a, (f a).length = k) (l : List α) (rest : List Value) {j : Nat} (hj : j ≤ l.length) (cs : List Value) :
    ∃ rest', splice (l.flatMap f ++ rest) (j * k) cs = (l.take j).flatMap f ++ rest' := by
  have h1 : j * k ≤ (l.flatMap f).length := by rw [flat_len hk]; exact Nat.mul_le_mul_right _ hj
  unfold splice
  rw [List.take_append_of_le_length h1, flat_take hk]
  exact ⟨_, rfl⟩

/-- block g, of a call's own, is of room for c rows; the first ones are l -/
def RowsK (k : Nat) (f : α → List Value) (w : World) (e : TypeId) (g c : Nat) (l : List α) : Prop :=
  (∀ a, (f a).length = k) ∧ l.length ≤ c ∧ c ≤ maxLen ∧ ∃ cur rest, Bk w g e cur ∧ cur.size = c * k ∧ cur.toList = l.flatMap f ++ rest
variable {w w' : World} {e : TypeId} {g c n : Nat} {l : List α}
theorem RowsK.own (h : RowsK k f w e g c l) {base : Nat} (hb : base ≤ g) : OwnK k f w base e (some ⟨g, 0, none⟩) l.length c l := by
  obtain ⟨hk, hl, hm, cur, rest, hc, hs, ht⟩ := h
  refine ⟨⟨flat_len hk l, .inr ⟨g, c, cur, rfl, hb, hc, hl, hm, hs, ?_⟩⟩, rfl, hk⟩
  rw [ht, List.take_left' (flat_len hk l)]
theorem OwnK.rows {base : Nat} {A : Option Addr} (h : OwnK k f w base e A n c l) (hn : 0 < n) : ∃ g, A = some ⟨g, 0, none⟩ ∧ base ≤ g ∧ RowsK k f w e g c l := by
  obtain ⟨g, cur, rfl, hb, hc, hs, ht⟩ := h.block hn
  refine ⟨g, rfl, hb, h.2.2, by rw [h.len]; exact h.cap.1, h.cap.2, cur, cur.toList.drop (n * k), hc, hs, ?_⟩
  rw [← ht, List.take_append_drop]
theorem RowsK.lt (h : RowsK k f w e g c l) : g < w.heap.size := by
  obtain ⟨_, _, _, cur, rest, hc, _⟩ := h
  exact hc.lt
theorem RowsK.below (h : RowsK k f w e g c l) (hb : Below w.heap.size w w') : RowsK k f w' e g c l := by
  obtain ⟨hk, hl, hm, cur, rest, hc, hr⟩ := h
  exact ⟨hk, hl, hm, cur, rest, hc.below hb hc.lt, hr⟩
theorem RowsK.drew (h : RowsK k f w e g c l) : RowsK k f w.drew e g c l := h
theorem RowsK.to (h : RowsK k f w e g c l) (j : Nat) : RowsK k f w e g c (l.take j) := by
  obtain ⟨hk, hl, hm, cur, rest, hc, hs, ht⟩ := h
  refine ⟨hk, by rw [List.length_take]; omega, hm, cur, (l.drop j).flatMap f ++ rest, hc, hs, ?_⟩
  rw [ht, ← List.append_assoc, ← List.flatMap_append, List.take_append_drop]
theorem RowsK.range (h : RowsK k f w e g c l) {i : Nat} {a : α} (ha : l[i]? = some a) : w.rangeAt g (i * k) (f a) := by
  have hi : i < l.length := (List.getElem?_eq_some_iff.1 ha).1
  obtain ⟨g', e', hb, hg, hr⟩ := (h.own (Nat.le_refl g)).range (by omega)
  injection e' with e'
  injection e' with e' _ _
  subst e'
  exact hr i a ha
theorem RowsK.flat (h : RowsK k f w e g c l) (i : Nat) : w.rangeAt g (i * k) ((l.drop i).flatMap f) := by
  obtain ⟨hk, hl, hm, cur, rest, hc, hs, ht⟩ := h
  intro j v hv
  rw [hc.cell, ← Array.getElem?_toList, ht, List.getElem?_append_left (by
    rw [← flat_drop hk, List.getElem?_drop] at hv
    exact (List.getElem?_eq_some_iff.1 hv).1)]
  rw [← flat_drop hk, List.getElem?_drop] at hv
  exact hv
/-- rows us laid over, from row j on -/
theorem RowsK.put (h : RowsK k f w e g c l) {j : Nat} (hj : j ≤ l.length) (us : List α) (hc : j + us.length ≤ c) : ∃ cur, Bk w g e cur ∧ cur.size = c * k ∧
    RowsK k f (w.setRow g (splice cur.toList (j * k) (us.flatMap f)).toArray) e g c (l.take j ++ us ++ l.drop (j + us.length)) := by
  obtain ⟨hk, hl, hm, cur, rest, hB, hs, ht⟩ := h
  have hfit : j * k + (us.flatMap f).length ≤ cur.toList.length := by
    rw [flat_len hk, ← Nat.add_mul, show cur.toList.length = c * k from hs]; exact Nat.mul_le_mul_right _ hc
  refine ⟨cur, hB, hs, hk, ?_, hm, _, rest.drop ((j + us.length) * k - l.length * k), hB.setRow_same _, ?_, ?_⟩
  · simp only [List.length_append, List.length_take, List.length_drop]; omega
  · rw [List.size_toArray, length_splice _ _ _ hfit]; exact hs
  · show splice cur.toList (j * k) (us.flatMap f) = _
    rw [ht, splice_rows hk l rest hj us]
/-- any cells laid over, from row j on -/
theorem RowsK.cut (h : RowsK k f w e g c l) {j : Nat} (hj : j ≤ l.length) : ∃ cur, Bk w g e cur ∧ cur.size = c * k ∧ ∀ (cs : List Value), j * k + cs.length ≤ c * k →
    RowsK k f (w.setRow g (splice cur.toList (j * k) cs).toArray) e g c (l.take j) := by
  obtain ⟨hk, hl, hm, cur, rest, hB, hs, ht⟩ := h
  refine ⟨cur, hB, hs, fun cs hcs => ?_⟩
  obtain ⟨rest', hr⟩ := splice_cells hk l rest hj cs
  refine ⟨hk, by rw [List.length_take]; omega, hm, _, rest', hB.setRow_same _, ?_, ?_⟩
  · rw [List.size_toArray, length_splice _ _ _ (by rw [show cur.toList.length = c * k from hs]; exact hcs)]; exact hs
  · show splice cur.toList (j * k) cs = _
    rw [ht, hr]
theorem grown_setRow (w : World) (g : Nat) (cs : Array Value) : w.grownBy (w.setRow g cs) (some g) :=
  ⟨rfl, rfl, rfl, by simp, fun i hi hne => Ytkalnaidccgbiaa.setRow_other' w g i cs (fun e => hne (by rw [e]))⟩
end

section
variable {P : Program} {α : Type} {k : Nat} {f : α → List Value}
/-- a whole row stored -/
theorem wpList_store_row {ops : Array Oper} {rest : List Oper} {o : Oper} {a : Act} {w : World} {Q : Exit → Act → World → Prop} (hgd : o.guard = none) (ty : TypeId) (x y : Operand) (ho : o.op = .store ty x y)
    {e : TypeId} {g c : Nat} {l : List α} (hR : RowsK k f w e g c l) (j : Nat) (hj : j < l.length) (u : α) (hx : a.eval x = .pointer (some ⟨g, j * k, none⟩)) (hy : a.eval y = .agg (f u).toArray)
    (hi : (P.info? ty).map (·.size) = some k) (h1 : ∀ v ∈ f u, v.oneCell' = true)
    (h : ∀ w', RowsK k f w' e g c (l.set j u) → w.grownBy w' (some g) → wpList P ops Q rest (a.put o.dst undef) w') : wpList P ops Q (o :: rest) a w := by
  have hlc := hR.2.1
  obtain ⟨cur, hB, hs, hP⟩ := hR.put (j := j) (by omega) [u] (by simp; omega)
  have hlen : (f u).toArray.size = k := by rw [List.size_toArray, hR.1]
  refine wpList_store_wide hgd ty x y ho g (j * k) (f u).toArray hx hy e cur hB (by
    rw [hlen, hs, ← Nat.succ_mul]; exact Nat.mul_le_mul_right _ (by omega)) (by rw [hlen]; exact hi) h1 ?_
  intro w' hw'
  have e1 : w' = w.setRow g (splice cur.toList (j * k) ([u].flatMap f)).toArray := by rw [hw'.out]; simp
  have e2 : l.take j ++ [u] ++ l.drop (j + [u].length) = l.set j u := by
    rw [List.set_eq_take_append_cons_drop, if_pos hj, List.append_assoc]; rfl
  rw [e2, ← e1] at hP
  exact h w' hP (by rw [e1]; exact grown_setRow _ _ _)
/-- the run of copy, at rows of k cells -/
theorem run_copy_k (w : World) (dT sT ty elem : TypeId) (g o dLen dCap : Nat) (a : Addr) (sLen sCap : Nat) (cur : Array Value) (t : TypeId) (cs : List Value)
    (hu : P.underlying dT = some (.slice elem)) (hs : (P.info? elem).map (·.size) = some k) {m : Nat} (hm : Nat.min sLen dLen = m)
    (hg : Bk w g t cur) (hn : cs.length = m * k)
    (hsrc : ∀ j v, cs[j]? = some v → w.cell? (a.add j) = some v) (hfit : o + cs.length ≤ cur.size) (h1 : ∀ v ∈ cs, v.oneCell' = true) :
    (Builtin.copy_ #[dT, sT] ty #[.slice (some ⟨g, o, none⟩) dLen dCap, .slice (some a) sLen sCap]).run P w =
      .ok (goInt m) (w.setRow g (splice cur.toList o cs).toArray) := by
  have hl := run_loadCells_list (P := P) w a cs hsrc
  have hst := run_storeCells_at P g o t cs 0 cur w hg (by simpa using hfit) h1
  simp only [Nat.add_zero, List.append_assoc] at hst
  cases hq : P.info? elem with
  | none => simp [hq] at hs
  | some i =>
    have hi : i.size = k := by simpa [hq] using hs
    rw [hn] at hl
    simp [Builtin.copy_, run_underlying hu, Builtin.lenOf, Builtin.firstCells, sizeOf, typeInfo, hq, hi, hm, hl, hst, splice]
theorem zero_one {z : Array Value} (h : ∀ v ∈ z.toList, v.oneCell' = true) (hz : 0 < z.size) (n : Nat) : ∀ v ∈ (Builtin.zeroCells z n).toList, v.oneCell' = true := by
  intro v hv
  unfold Builtin.zeroCells at hv
  simp only [Array.toList_map, List.mem_map] at hv
  obtain ⟨i, _, rfl⟩ := hv
  have hi : i % z.size < z.size := Nat.mod_lt _ hz
  rw [getElem!_pos z _ hi]
  exact h _ (by simp)
/-- what is behind row j is cleared -/
theorem run_clear_k (w : World) (t e ty : TypeId) (z : Value) (ht : P.underlying t = some (.slice e)) (hv : ∀ w, (zeroValue e).run P w = .ok z w) (g o n c : Nat) (hn : 0 < n) (cur : Array Value) (et : TypeId) (hg : Bk w g et cur)
    (h1 : ∀ v ∈ (Builtin.zeroCells z.cells n).toList, v.oneCell' = true) (hfit : o + (Builtin.zeroCells z.cells n).size ≤ cur.size) :
    (Builtin.clear_ #[t] ty #[.slice (some ⟨g, o, none⟩) n c]).run P w = .ok (.tuple #[]) (w.setRow g (splice cur.toList o (Builtin.zeroCells z.cells n).toList).toArray) := by
  have hst := run_storeCells_at P g o et (Builtin.zeroCells z.cells n).toList 0 cur w hg (by simpa using hfit) h1
  simp only [Nat.add_zero, List.append_assoc] at hst
  obtain ⟨m, rfl⟩ : ∃ m, n = m + 1 := ⟨n - 1, by omega⟩
  simp [Builtin.clear_, run_underlying ht, hv, hst, splice]
end
end Go.Proofs.Ytkalnaidccgbiaa
