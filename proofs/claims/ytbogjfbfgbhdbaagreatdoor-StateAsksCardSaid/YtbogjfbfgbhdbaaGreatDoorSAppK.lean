/-
  A part of the proof: see the last text.
-/
import Derived.Test.YtbogjfbfgbhdbaaGreatDoorSBytesOwn
import Derived.Test.YtbogjfbfgbhdbaaGreatDoorSUidsMath
import Derived.Test.YtbogjfbfgbhdbaaGreatDoorChecked
import Derived.Deep.MidRow
import Derived.Laws.CopyOwn
import Derived.Test.YtbogjfbfgbhdbaaGreatDoorSNameMath
import Derived.Test.YtbogjfbfgbhdbaaGreatDoorSEventMath
namespace Go.Proofs.YtbogjfbfgbhdbaaGreatDoor
set_option linter.unusedVariables false
set_option linter.unusedSimpArgs false
open Go.RowKit
section
variable {P : Program} {α : Type} {k : Nat} {f : α → List Value}
theorem OwnK.empty (hk : ∀ a, (f a).length = k) (w : World) (e : TypeId) : OwnK k f (w.alloc (.cells #[] e)) w.heap.size e (some ⟨w.heap.size, 0, none⟩) 0 0 [] :=
  ⟨⟨by simp, .inr ⟨w.heap.size, 0, #[], rfl, Nat.le_refl _, heap_alloc_new w _, by omega, by unfold maxLen; omega, by simp, by simp⟩⟩, rfl, hk⟩
theorem run_append_ks {w : World} {base : Nat} {e : TypeId} {A : Option Addr} {n c : Nat} {l : List α} (ho : OwnK k f w base e A n c l) (t ty : TypeId) (ht : P.underlying t = some (.slice e)) {zv : Value} {by_ : Nat}
    (he : (P.info? e).map (fun i => (i.zero, i.size, i.bytes)) = some (some zv, k, by_)) (hzc : zv.cells.size = k) (hk0 : 0 < k) (hby : by_ ≤ 100) {A' : Option Addr} {m c' B : Nat} {us : List α} (hu : ColK k f w B A' m us) (hone : ∀ u ∈ us, ∀ v ∈ f u, v.oneCell' = true) (hnm : n + m ≤ 1000000) (hbase : base ≤ w.heap.size) :
    ∃ A2 c2 w', (Builtin.append_ #[t, t] ty #[.slice A n c, .slice A' m c']).run P w = .ok (.slice A2 (n + m) c2) w' ∧ OwnK k f w' base e A2 (n + m) c2 (l ++ us) ∧ Below base w w' ∧ w.grownBy w' (Value.slice A n c).ownBlock := by
  obtain ⟨i, hi, hz, hs, hby'⟩ := info_parts he
  have hul := hu.1
  cases A' with
  | none =>
    have hm : m = 0 := by
      rcases Nat.eq_zero_or_pos m with h | h
      · exact h
      · obtain ⟨b, o, h', _⟩ := hu.2 h; cases h'
    subst hm
    have hl' : us = [] := List.eq_nil_of_length_eq_zero hul
    subst hl'
    refine ⟨A, c, w, ?_, by simpa using ho, Below.refl _ _, World.grownBy.refl _ _⟩
    have hcc := ho.cap.1
    cases A with
    | none =>
      rcases ho.1.2 with ⟨hv, h0⟩ | ⟨g, cap, cur, hv, _⟩
      · injection hv with _ _ hc
        subst hc; subst h0
        simp [Builtin.append_, run_underlying ht, sizeOf, typeInfo, hi, Builtin.lenOf, Builtin.firstCells]
      · cases hv
    | some a => simp [Builtin.append_, run_underlying ht, sizeOf, typeInfo, hi, Builtin.lenOf, Builtin.firstCells, hcc, storeCells]
  | some ad =>
    have hnews : ∀ (j : Nat) (u : Value), (us.flatMap f)[j]? = some u → w.cell? (ad.add j) = some u := by
      intro j u hju
      have hj : j < (us.flatMap f).length := (List.getElem?_eq_some_iff.1 hju).1
      rw [flat_len ho.2.2, hul] at hj
      have hm0 : 0 < m := by rcases Nat.eq_zero_or_pos m with h | h; (rw [h, Nat.zero_mul] at hj; omega); exact h
      obtain ⟨b, o, h', _, hcc⟩ := hu.2 hm0
      injection h' with h'
      subst h'
      rw [Addr.add_mid]
      have hq : j / k < us.length := by rw [hul]; exact Nat.div_lt_of_lt_mul (by rw [Nat.mul_comm]; exact hj)
      have hr := hcc (j / k) _ (List.getElem?_eq_getElem hq)
      have hjj : j / k * k + j % k = j := by rw [Nat.mul_comm]; exact Nat.div_add_mod j k
      have hmod : j % k < k := Nat.mod_lt _ hk0
      have hfl : j % k < (f us[j / k]).length := by rw [ho.2.2]; exact hmod
      have h2 := flat_get ho.2.2 us (j / k) _ (List.getElem?_eq_getElem hq) (j % k) _ (List.getElem?_eq_getElem hfl)
      rw [hjj, hju] at h2
      have h3 := hr (j % k) _ (List.getElem?_eq_getElem hfl)
      rw [Nat.add_assoc, hjj] at h3
      rw [h3]
      exact h2.symm
    obtain ⟨v', w', hrun, h1, h2, _, _⟩ := run_append_own_at (P := P) w base t ty e i zv k by_ ht hi hz hs hby' hzc hk0 (.slice A n c) n (l.flatMap f) ho.1 ad m c' (us.flatMap f) (by rw [flat_len ho.2.2, hul]) hnews (fun u hu' => by obtain ⟨a, ha, hau⟩ := List.mem_flatMap.1 hu'; exact hone a ha u hau) (by unfold maxLen; omega) (Nat.le_trans (Nat.mul_le_mul_left _ hby) (by omega)) hbase
    have hsh : ∃ A2 c2, v' = .slice A2 (n + m) c2 := by
      rcases h1.2 with ⟨rfl, h0⟩ | ⟨g, cap, cur, rfl, _⟩
      · rw [h0]; exact ⟨_, _, rfl⟩
      · exact ⟨_, _, rfl⟩
    obtain ⟨A2, c2, rfl⟩ := hsh
    refine ⟨A2, c2, w', hrun, ⟨?_, by rw [List.length_append, ho.len, hul], ho.2.2⟩, (Below.refl _ _).grown h2 hbase (fun k hk => (ho.1.lt k hk).1), h2⟩
    rw [List.flatMap_append]
    exact h1
theorem wp_append_ks {o : Oper} {a : Act} {w w' : World} {K : Act → World → Prop} {Q : Exit → Act → World → Prop} {s x : Operand} {t : TypeId} {v y z : Value} (ho : o.op = .call { callee := .builtin .append, args := #[s, x], argTypes := #[t, t] })
    (hs : a.eval s = v) (hx : a.eval x = y) (hrun : (Builtin.append_ #[t, t] o.type #[v, y]).run P w = .ok z w') (hK : K (a.put o.dst z) w') : o.wp P a w K Q := by
  unfold Oper.wp execOp
  simp only [ho, resolve, invoke, builtin, Sem.run_bind, Sem.run_pure, Result.andThen_ok, List.map_toArray, List.map_cons, List.map_nil, hs, hx, hrun]
  exact hK
theorem ColK.to {w : World} {B n : Nat} {A : Option Addr} {l : List α} (h : ColK k f w B A n l) {j : Nat} (hj : j ≤ n) : ColK k f w B A j (l.take j) := by
  refine ⟨by rw [List.length_take, h.1]; omega, fun hj0 => ?_⟩
  obtain ⟨b, o, e, hb, hc⟩ := h.2 (by omega)
  refine ⟨b, o, e, hb, fun i a hi => hc i a ?_⟩
  have hij : i < j := by have := (List.getElem?_eq_some_iff.1 hi).1; rw [List.length_take] at this; omega
  rwa [List.getElem?_take_of_lt hij] at hi
theorem ColK.from_ {w : World} {B n b o : Nat} {l : List α} (h : ColK k f w B (some ⟨b, o, none⟩) n l) {j : Nat} (hj : j ≤ n) : ColK k f w B (some ⟨b, o + j * k, none⟩) (n - j) (l.drop j) := by
  refine ⟨by rw [List.length_drop, h.1], fun hj0 => ?_⟩
  obtain ⟨b', o', e, hb, hc⟩ := h.2 (by omega)
  injection e with e
  injection e with e1 e2
  subst e1; subst e2
  refine ⟨b, o + j * k, rfl, hb, fun i a hi => ?_⟩
  rw [List.getElem?_drop] at hi
  have := hc (j + i) a hi
  rwa [show o + (j + i) * k = o + j * k + i * k by rw [Nat.add_mul]; omega] at this
end
end Go.Proofs.YtbogjfbfgbhdbaaGreatDoor
namespace Go.Proofs.YtbogjfbfgbhdbaaGreatDoor
set_option linter.unusedVariables false
set_option linter.unusedSimpArgs false
open Go.RowKit
set_option linter.unusedVariables false
set_option linter.unusedSimpArgs false
theorem lessS_of : ∀ (a b : List UInt8), Op.bytesLess a b = true ↔ a < b
  | a, [] => by
    unfold Op.bytesLess
    simp
  | [], b :: l => by
    unfold Op.bytesLess
    simp
  | a :: l, b :: m => by
    unfold Op.bytesLess
    rw [List.cons_lt_cons_iff, ← lessS_of l m]
    simp
theorem lessS_iff (a b : ByteArray) : Op.bytesLess a.toList b.toList = true ↔ ltS a b := by
  rw [lessS_of, ByteArray.toList_eq, ByteArray.toList_eq]; rfl
theorem str_eq13 (a b : ByteArray) : (a.toList == b.toList) = decide (a = b) := by
  rw [ByteArray.toList_eq, ByteArray.toList_eq]
  by_cases h : a = b
  · subst h; simp
  · have : ¬ a.data.toList = b.data.toList := fun e => h (by
      obtain ⟨⟨x⟩⟩ := a
      obtain ⟨⟨y⟩⟩ := b
      simp only at e
      rw [e])
    have h2 : ¬ a.data = b.data := fun e => this (by rw [e])
    simp [h, h2]
theorem less13 (a b : ByteArray) : Op.bytesLess a.toList b.toList = decide (ltS a b) := by
  cases h : Op.bytesLess a.toList b.toList
  · symm; rw [decide_eq_false_iff_not]; intro h2; rw [(lessS_iff a b).2 h2] at h; cases h
  · symm; rw [decide_eq_true_iff]; exact (lessS_iff a b).1 h
def rulC (r : Rul) : List Value := [.string r.1, .int .i64 r.2]
theorem rulC_len (r : Rul) : (rulC r).length = 2 := rfl
theorem rulC_one (r : Rul) : ∀ u ∈ rulC r, u.oneCell' = true := by
  intro u hu
  unfold rulC at hu
  simp only [List.mem_cons, List.not_mem_nil, or_false] at hu
  rcases hu with rfl | rfl <;> rfl
def hhC (h : Hh) : List Value := [.int .i64 h.id, .string h.box, .slice h.A h.n h.c]
theorem hhC_len (h : Hh) : (hhC h).length = 3 := rfl
theorem hhC_one (h : Hh) : ∀ u ∈ hhC h, u.oneCell' = true := by
  intro u hu
  unfold hhC at hu
  simp only [List.mem_cons, List.not_mem_nil, or_false] at hu
  rcases hu with rfl | rfl | rfl <;> rfl
def tmC (t : Tm) : List Value := [.int .i64 t.id, .string t.box, .int .i64 t.at_, .int .i64 t.uid, .int .i64 t.flags, .int .i64 t.date, .slice t.A t.n t.c]
def HhIn (w : World) (B : Nat) (h : Hh) : Prop := ColK 2 rgC w B h.A h.n h.set ∧ h.n ≤ 140737488355328
theorem HhIn.keep {w w' : World} {B : Nat} {h : Hh} (H : HhIn w B h) (hk : ∀ p : Addr, p.block < B → w'.cell? p = w.cell? p) : HhIn w' B h := ⟨H.1.keep hk, H.2⟩
theorem HhIn.more {w : World} {B B' : Nat} {h : Hh} (H : HhIn w B h) (hB : B ≤ B') : HhIn w B' h := ⟨H.1.more hB, H.2⟩
def HoldsIn (w : World) (B : Nat) (A : Option Addr) (n : Nat) (l : List Hh) : Prop := ColK 3 hhC w B A n l ∧ ∀ h ∈ l, HhIn w B h
section
variable {w w' : World} {B B' n : Nat} {A : Option Addr} {l : List Hh}
theorem HoldsIn.nil : HoldsIn w B A 0 [] := ⟨ColK.nil, fun h hh => (by cases hh)⟩
theorem HoldsIn.len (h : HoldsIn w B A n l) : l.length = n := h.1.1
theorem HoldsIn.keep (h : HoldsIn w B A n l) (hk : ∀ p : Addr, p.block < B → w'.cell? p = w.cell? p) : HoldsIn w' B A n l := ⟨h.1.keep hk, fun x hx => (h.2 x hx).keep hk⟩
theorem HoldsIn.more (h : HoldsIn w B A n l) (hB : B ≤ B') : HoldsIn w B' A n l := ⟨h.1.more hB, fun x hx => (h.2 x hx).more hB⟩
theorem HoldsIn.below (h : HoldsIn w B A n l) (hb : Below B' w w') (hB : B ≤ B') : HoldsIn w' B A n l := h.keep fun p hp => hb.cell (p := p) (by omega)
theorem HoldsIn.later (h : HoldsIn w w.heap.size A n l) (hb : Below w.heap.size w w') : HoldsIn w' w'.heap.size A n l := (h.below hb (Nat.le_refl _)).more hb.size
theorem HoldsIn.at_ {j : Nat} (h : HoldsIn w B A n l) (hj : j < n) : ∃ b o x, A = some ⟨b, o, none⟩ ∧ b < B ∧ l[j]? = some x ∧ l.take (j + 1) = l.take j ++ [x] ∧ w.rangeAt b (o + j * 3) (hhC x) ∧ HhIn w B x := by
  obtain ⟨b, o, x, rfl, hb, hx, ht, hr⟩ := h.1.at_ hj
  exact ⟨b, o, x, rfl, hb, hx, ht, hr, h.2 x (List.mem_of_getElem? hx)⟩
end
end Go.Proofs.YtbogjfbfgbhdbaaGreatDoor
namespace Go.Proofs.YtbogjfbfgbhdbaaGreatDoor
set_option linter.unusedVariables false
set_option linter.unusedSimpArgs false
open Go.RowKit
def Bk (w : World) (b : Nat) (t : TypeId) (cs : Array Value) : Prop := w.heap[b]? = some (.cells cs t (0, 0))
theorem Bk.below {w w' : World} {b B : Nat} {t : TypeId} {cs : Array Value} (h : Bk w b t cs) (hb : Below B w w') (hl : b < B) : Bk w' b t cs := (hb.block b hl).trans h
theorem Bk.cell {w : World} {b : Nat} {t : TypeId} {cs : Array Value} (h : Bk w b t cs) (i : Nat) : w.cell? ⟨b, i, none⟩ = cs[i]? := by
  unfold Bk at h
  simp [World.cell?, h]
theorem Bk.frozen {w : World} {b : Nat} {t : TypeId} {cs : Array Value} (h : Bk w b t cs) (i : Nat) : w.frozen? ⟨b, i, none⟩ = false := by
  unfold Bk at h
  simp [World.frozen?, h]
theorem Bk.new (w : World) (t : TypeId) (cs : Array Value) : Bk (w.alloc (.cells cs t)) w.heap.size t cs := heap_alloc_new w _
theorem Bk.lt {w : World} {b : Nat} {t : TypeId} {cs : Array Value} (h : Bk w b t cs) : b < w.heap.size := (Array.getElem?_eq_some_iff.1 h).1
theorem Bk.alloc {w : World} {b : Nat} {t : TypeId} {cs : Array Value} (h : Bk w b t cs) (o : Obj) : Bk (w.alloc o) b t cs := (Below.heap_alloc w o b h.lt).trans h
theorem Bk.drew {w : World} {b : Nat} {t : TypeId} {cs : Array Value} (h : Bk w b t cs) : Bk w.drew b t cs := h
theorem Bk.far {w : World} {b : Nat} {t : TypeId} {cs : Array Value} (h : Bk w b t cs) {p : Addr} (hp : b ≠ p.block) (u : Value) : Bk (w.setCell p u) b t cs := (Below.heap_setCell w p u b hp).trans h
theorem Bk.put {w : World} {b : Nat} {t : TypeId} {cs : Array Value} (h : Bk w b t cs) (i : Nat) (u : Value) : Bk (w.setCell ⟨b, i, none⟩ u) b t (cs.setIfInBounds i u) := by
  unfold Bk at h ⊢
  simp [World.setCell, Array.getElem?_modify, h]
theorem Bk.new2 (w : World) (o : Obj) (t : TypeId) (cs : Array Value) : Bk ((w.alloc o).alloc (.cells cs t)) (w.heap.size + 1) t cs := by
  have := Bk.new (w.alloc o) t cs
  rwa [World.size_alloc] at this
theorem Bk.new3 (w : World) (o o2 : Obj) (t : TypeId) (cs : Array Value) : Bk (((w.alloc o).alloc o2).alloc (.cells cs t)) (w.heap.size + 1 + 1) t cs := by
  have := Bk.new2 (w.alloc o) o2 t cs
  rwa [World.size_alloc] at this
theorem Bk.four {w : World} {b : Nat} {t : TypeId} {v0 v1 v2 v3 : Value} (h : Bk w b t #[v0, v1, v2, v3]) :
    (w.cell? ⟨b, 0, none⟩ = some v0 ∧ w.cell? ⟨b, 1, none⟩ = some v1 ∧ w.cell? ⟨b, 2, none⟩ = some v2 ∧ w.cell? ⟨b, 3, none⟩ = some v3) ∧
    w.frozen? ⟨b, 0, none⟩ = false ∧ w.frozen? ⟨b, 1, none⟩ = false ∧ w.frozen? ⟨b, 2, none⟩ = false ∧ w.frozen? ⟨b, 3, none⟩ = false :=
  ⟨⟨h.cell 0, h.cell 1, h.cell 2, h.cell 3⟩, h.frozen 0, h.frozen 1, h.frozen 2, h.frozen 3⟩
theorem setRow_other' (w : World) (g k : Nat) (cs : Array Value) (h : k ≠ g) : (w.setRow g cs).heap[k]? = w.heap[k]? := Go.setRow_other w g k cs h
section
variable {P : Program}
theorem wp_skip {o : Oper} {a : Act} {w w' : World} {K : Act → World → Prop} {Q : Exit → Act → World → Prop}
    (h : (execOp a.eval o).run P w = .ok .skip w') (hK : K (a.put o.dst undef) w') : o.wp P a w K Q := by
  unfold Oper.wp
  simp only [h]
  exact hK
theorem Bk.setRow_other {w : World} {b g : Nat} {t : TypeId} {cs : Array Value} (h : Bk w b t cs) (hne : b ≠ g) (cs' : Array Value) : Bk (w.setRow g cs') b t cs := (YtbogjfbfgbhdbaaGreatDoor.setRow_other' w g b cs' hne).trans h
theorem Bk.setRow_same {w : World} {g : Nat} {t : TypeId} {cs : Array Value} (h : Bk w g t cs) (cs' : Array Value) : Bk (w.setRow g cs') g t cs' := setRow_heap w g cs cs' t (0, 0) h
theorem wpList_store_wide {ops : Array Oper} {rest : List Oper} {o : Oper} {a : Act} {w : World} {Q : Exit → Act → World → Prop} (hgd : o.guard = none) (ty : TypeId) (x y : Operand) (ho : o.op = .store ty x y)
    (g off : Nat) (cells : Array Value) (hx : a.eval x = .pointer (some ⟨g, off, none⟩)) (hy : a.eval y = .agg cells)
    (t : TypeId) (cur : Array Value) (hg : Bk w g t cur) (hfit : off + cells.size ≤ cur.size) (hi : (P.info? ty).map (·.size) = some cells.size) (h1 : ∀ v ∈ cells.toList, v.oneCell' = true)
    (h : ∀ w', Hid (w' = w.setRow g (splice cur.toList off cells.toList).toArray) → wpList P ops Q rest (a.put o.dst undef) w') : wpList P ops Q (o :: rest) a w :=
  wpList_plain hgd fun _ hK => by
    refine wp_skip (w' := w.setRow g (splice cur.toList off cells.toList).toArray) ?_ (hK _ _ (h _ rfl))
    have := run_storeCells_at P g off t cells.toList 0 cur w hg (by simpa using hfit) h1
    simp only [Nat.add_zero, List.append_assoc] at this
    cases hq : P.info? ty with
    | none => simp [hq] at hi
    | some i =>
      have hs : cells.size = i.size := by simp [hq] at hi; omega
      unfold execOp
      simp only [ho, hx, hy, Instr.storeAt, Instr.sureAddr, Sem.run_bind, Sem.run_pure, Result.andThen_ok]
      simp [storeVar, sizeOf, typeInfo, hq, Value.cells, hs, this, splice]
theorem splice_all {l m : List Value} (h : m.length = l.length) : splice l 0 m = m := by
  unfold splice
  rw [List.take_zero, List.nil_append, Nat.zero_add, List.drop_eq_nil_of_le (by omega), List.append_nil]
theorem below_setRow {B : Nat} {w w' : World} (h : Below B w w') {g : Nat} (hg : B ≤ g) (cs : Array Value) : Below B w (w'.setRow g cs) :=
  h.trans ⟨rfl, rfl, rfl, by simp, fun k hk => YtbogjfbfgbhdbaaGreatDoor.setRow_other' w' g k cs (by omega)⟩
theorem results_cell {fn : Func} {p : Tmp} {t : TypeId} (h : fn.results = #[.cell p t]) {tmps : Array Value} {w : World} {a : Addr} {v : Value} (hp : tmps.getD p undef = .pointer (some a)) (hl : (loadVar t a).run P w = .ok v w) :
    (results fn tmps).run P w = .ok v w := by
  have hp' : tmps[p]?.getD undef = .pointer (some a) := by simpa using hp
  simp [results, h, hp', asAddr, hl]
theorem Bk.load {w : World} {b : Nat} {t : TypeId} {cs : Array Value} (h : Bk w b t cs) {ty : TypeId} {d : TypeDesc} (hu : P.underlying ty = some d) (hd : d.isRow = true) (hi : (P.info? ty).map (·.size) = some cs.size) :
    (loadVar ty ⟨b, 0, none⟩).run P w = .ok (.agg cs) w := by
  rw [run_loadVar_mid w b 0 ty cs.toList d (fun i v hv => by rw [Nat.zero_add, h.cell, ← Array.getElem?_toList]; exact hv) hu hd (by rw [Array.length_toList]; exact hi), Array.toArray_toList]
theorem Bk.range {w : World} {b : Nat} {t : TypeId} {cs : Array Value} (h : Bk w b t cs) : w.rangeAt b 0 cs.toList := fun i v hv => by
  rw [Nat.zero_add, h.cell, ← Array.getElem?_toList]; exact hv
end
end Go.Proofs.YtbogjfbfgbhdbaaGreatDoor
namespace Go.Proofs.YtbogjfbfgbhdbaaGreatDoor
set_option linter.unusedVariables false
set_option linter.unusedSimpArgs false
open Go.RowKit
set_option linter.unusedVariables false
set_option linter.unusedSimpArgs false
structure Hd where
  m : Mg
  A : Option Addr
  n : Nat
  c : Nat
def hdC (h : Hd) : List Value := [.int .i64 h.m.uid, .int .i64 h.m.flags, .int .i64 h.m.date, .slice h.A h.n h.c]
theorem hdC_len (h : Hd) : (hdC h).length = 4 := rfl
theorem hdC_one (h : Hd) : ∀ u ∈ hdC h, u.oneCell' = true := by
  intro u hu
  unfold hdC at hu
  simp only [List.mem_cons, List.not_mem_nil, or_false] at hu
  rcases hu with rfl | rfl | rfl | rfl <;> rfl
def HdIn (w : World) (B : Nat) (h : Hd) : Prop := Bytes w B h.A h.n h.m.body ∧ h.n ≤ 140737488355328
theorem HdIn.keep {w w' : World} {B : Nat} {h : Hd} (H : HdIn w B h) (hk : ∀ p : Addr, p.block < B → w'.cell? p = w.cell? p) : HdIn w' B h := ⟨H.1.keep hk, H.2⟩
theorem HdIn.more {w : World} {B B' : Nat} {h : Hd} (H : HdIn w B h) (hB : B ≤ B') : HdIn w B' h := ⟨H.1.more hB, H.2⟩
theorem HdIn.below {w w' : World} {B B' : Nat} {h : Hd} (H : HdIn w B h) (hb : Below B' w w') (hB : B ≤ B') : HdIn w' B h := ⟨H.1.below hb hB, H.2⟩
theorem HdIn.later {w w' : World} {h : Hd} (H : HdIn w w.heap.size h) (hb : Below w.heap.size w w') : HdIn w' w'.heap.size h := ⟨H.1.later hb, H.2⟩
def MsgsIn (w : World) (B : Nat) (A : Option Addr) (n : Nat) (l : List Mg) : Prop := ∃ hs : List Hd, ColK 4 hdC w B A n hs ∧ (∀ h ∈ hs, HdIn w B h) ∧ hs.map Hd.m = l
section
variable {w w' : World} {B B' n : Nat} {A : Option Addr} {l : List Mg}
theorem MsgsIn.nil : MsgsIn w B A 0 [] := ⟨[], ColK.nil, fun h hh => (by cases hh), rfl⟩
theorem MsgsIn.len (h : MsgsIn w B A n l) : l.length = n := by
  obtain ⟨hs, h1, _, h3⟩ := h
  rw [← h3, List.length_map, h1.1]
theorem MsgsIn.keep (h : MsgsIn w B A n l) (hk : ∀ p : Addr, p.block < B → w'.cell? p = w.cell? p) : MsgsIn w' B A n l := by
  obtain ⟨hs, h1, h2, h3⟩ := h
  exact ⟨hs, h1.keep hk, fun x hx => (h2 x hx).keep hk, h3⟩
theorem MsgsIn.more (h : MsgsIn w B A n l) (hB : B ≤ B') : MsgsIn w B' A n l := by
  obtain ⟨hs, h1, h2, h3⟩ := h
  exact ⟨hs, h1.more hB, fun x hx => (h2 x hx).more hB, h3⟩
theorem MsgsIn.below (h : MsgsIn w B A n l) (hb : Below B' w w') (hB : B ≤ B') : MsgsIn w' B A n l := h.keep fun p hp => hb.cell (p := p) (by omega)
theorem MsgsIn.later (h : MsgsIn w w.heap.size A n l) (hb : Below w.heap.size w w') : MsgsIn w' w'.heap.size A n l := (h.below hb (Nat.le_refl _)).more hb.size
theorem MsgsIn.at_ {j : Nat} (h : MsgsIn w B A n l) (hj : j < n) : ∃ b o x, A = some ⟨b, o, none⟩ ∧ b < B ∧ l[j]? = some x.m ∧ l.take (j + 1) = l.take j ++ [x.m] ∧ w.rangeAt b (o + j * 4) (hdC x) ∧ HdIn w B x := by
  obtain ⟨hs, h1, h2, rfl⟩ := h
  obtain ⟨b, o, x, rfl, hb, hx, ht, hr⟩ := h1.at_ hj
  have hx' : (hs.map Hd.m)[j]? = some x.m := by rw [List.getElem?_map, hx]; rfl
  exact ⟨b, o, x, rfl, hb, hx', take_snoc_l _ _ _ hx', hr, h2 x (List.mem_of_getElem? hx)⟩
end
def OwnM (w : World) (base : Nat) (A : Option Addr) (n c : Nat) (l : List Mg) : Prop := ∃ hs : List Hd, OwnK 4 hdC w base 49 A n c hs ∧ (∀ h ∈ hs, OwnB w base 5 h.A h.n h.c h.m.body) ∧ hs.map Hd.m = l
theorem ownsB_kept {w w' : World} {base : Nat} {e : TypeId} {k : Nat} {v : Value} {n : Nat} {xs : List Value} {row : Option Nat} (h : w.ownsRow base e k v n xs) (hg : w.grownBy w' row) (hne : ∀ b cs fr, row = some b → base ≤ b → w.heap[b]? ≠ some (.cells cs e fr)) : w'.ownsRow base e k v n xs := by
  refine ⟨h.1, ?_⟩
  rcases h.2 with h0 | ⟨g, cap, cur, hv, hg', hh, r⟩
  · exact .inl h0
  · exact .inr ⟨g, cap, cur, hv, hg', (hg.block g (Array.getElem?_eq_some_iff.1 hh).1 (fun q => hne g _ _ q.symm hg' hh)).trans hh, r⟩
theorem ownsB_type {w : World} {base : Nat} {e e' : TypeId} {k : Nat} {v : Value} {n : Nat} {xs : List Value} (h : w.ownsRow base e k v n xs) (hee : e ≠ e') : ∀ b cs fr, v.ownBlock = some b → w.heap[b]? ≠ some (.cells cs e' fr) := by
  intro b cs fr hb hh
  rcases h.2 with ⟨rfl, _⟩ | ⟨g, cap, cur, rfl, _, hg, _⟩
  · cases hb
  · cases hb
    rw [hg] at hh
    injection hh with hh
    injection hh with _ h2 _
    exact hee h2
theorem info_msg : (Tryz.prog.info? 49).map (fun i => (i.zero, i.size, i.bytes)) = some (some (.agg #[.int .i64 0, .int .i64 0, .int .i64 0, .slice none 0 0]), 4, 48) := by kernel_rfl
theorem grownBy_cell (w : World) (b i : Nat) (v : Value) : w.grownBy (w.setCell ⟨b, i, none⟩ v) (some b) :=
  ⟨rfl, rfl, rfl, by simp [World.setCell], fun k hk hne => Below.heap_setCell w ⟨b, i, none⟩ v k (fun e => hne (by rw [e]))⟩
section
variable {w w' : World} {base n c : Nat} {A : Option Addr} {l : List Mg}
theorem OwnM.nil : OwnM w base none 0 0 [] := ⟨[], OwnK.nil hdC_len, fun h hh => (by cases hh), rfl⟩
theorem OwnM.empty (w : World) : OwnM (w.alloc (.cells #[] 49)) w.heap.size (some ⟨w.heap.size, 0, none⟩) 0 0 [] := ⟨[], OwnK.empty hdC_len w 49, fun h hh => (by cases hh), rfl⟩
theorem OwnM.len (h : OwnM w base A n c l) : l.length = n := by
  obtain ⟨hs, h1, _, h3⟩ := h
  rw [← h3, List.length_map, h1.len]
theorem OwnM.cap (h : OwnM w base A n c l) : n ≤ c ∧ c ≤ maxLen := by
  obtain ⟨hs, h1, _, h3⟩ := h
  exact h1.cap
theorem OwnM.below (h : OwnM w base A n c l) (hb : Below w.heap.size w w') : OwnM w' base A n c l := by
  obtain ⟨hs, h1, h2, h3⟩ := h
  exact ⟨hs, h1.below hb, fun x hx => (h2 x hx).below hb, h3⟩
theorem OwnM.from_ {base' : Nat} (h : OwnM w base A n c l) (hb : base' ≤ base) : OwnM w base' A n c l := by
  obtain ⟨hs, h1, h2, h3⟩ := h
  exact ⟨hs, h1.from_ hb, fun x hx => (h2 x hx).base_le hb, h3⟩
theorem OwnM.kept {row : Option Nat} (h : OwnM w base A n c l) (hg : w.grownBy w' row) (hne : ∀ b cs t fr, row = some b → base ≤ b → w.heap[b]? = some (.cells cs t fr) → t ≠ 49 ∧ t ≠ 5) : OwnM w' base A n c l := by
  obtain ⟨hs, h1, h2, h3⟩ := h
  refine ⟨hs, ⟨ownsB_kept h1.1 hg (fun b cs fr e hb hh => (hne b cs _ fr e hb hh).1 rfl), h1.2⟩, fun x hx => ⟨ownsB_kept (h2 x hx).1 hg (fun b cs fr e hb hh => (hne b cs _ fr e hb hh).2 rfl), (h2 x hx).2⟩, h3⟩
theorem OwnM.far {b : Nat} (h : OwnM w base A n c l) (hg : w.grownBy w' (some b)) (hb : b < base) : OwnM w' base A n c l :=
  h.kept hg fun b' cs t fr e hb' _ => by injection e with e; omega
theorem OwnM.boxed {b : Nat} {cs : Array Value} {t : TypeId} (h : OwnM w base A n c l) (hg : w.grownBy w' (some b)) (hb : Bk w b t cs) (ht : t ≠ 49 ∧ t ≠ 5) : OwnM w' base A n c l :=
  h.kept hg fun b' cs' t' fr e _ hh => by
    injection e with e
    subst e
    unfold Bk at hb
    rw [hb] at hh
    injection hh with hh
    injection hh with _ h2 _
    rw [← h2]; exact ht
theorem OwnM.msgs (h : OwnM w base A n c l) (hl : ∀ m ∈ l, m.body.length ≤ 140737488355328) : MsgsIn w w.heap.size A n l := by
  obtain ⟨hs, h1, h2, rfl⟩ := h
  refine ⟨hs, h1.col, fun x hx => ⟨(h2 x hx).bytes, ?_⟩, rfl⟩
  rw [← (h2 x hx).len]
  exact hl x.m (List.mem_map.2 ⟨x, hx, rfl⟩)
theorem OwnM.at_ {j : Nat} (h : OwnM w base A n c l) (hj : j < n) : ∃ g x, A = some ⟨g, 0, none⟩ ∧ base ≤ g ∧ g < w.heap.size ∧ l[j]? = some x.m ∧ l.take (j + 1) = l.take j ++ [x.m] ∧ w.rangeAt g (j * 4) (hdC x) ∧ OwnB w base 5 x.A x.n x.c x.m.body := by
  obtain ⟨hs, h1, h2, rfl⟩ := h
  obtain ⟨g, rfl, hg, hl, hr⟩ := h1.range (by omega)
  have hj' : j < hs.length := by rw [h1.len]; exact hj
  have hx : hs[j]? = some hs[j] := List.getElem?_eq_getElem hj'
  have hx' : (hs.map Hd.m)[j]? = some hs[j].m := by rw [List.getElem?_map, hx]; rfl
  exact ⟨g, hs[j], rfl, hg, hl, hx', take_snoc_l _ _ _ hx', hr j _ hx, h2 _ (List.mem_of_getElem? hx)⟩
end
section
variable {P : Program} {α : Type} {k : Nat} {f : α → List Value}
theorem wpList_append_at {ops : Array Oper} {rest : List Oper} {o : Oper} {a : Act} {w : World} {Q : Exit → Act → World → Prop} (hgd : o.guard = none) (s x : Operand) (t : TypeId)
    (ho : o.op = .call { callee := .builtin .append, args := #[s, x], argTypes := #[t, t] }) {e : TypeId} (ht : P.underlying t = some (.slice e)) {zv : Value} {by_ : Nat}
    (he : (P.info? e).map (fun i => (i.zero, i.size, i.bytes)) = some (some zv, k, by_)) (hzc : zv.cells.size = k) (hk0 : 0 < k) (hby : by_ ≤ 100)
    (base : Nat) (A : Option Addr) (n c : Nat) (l : List α) (hs : a.eval s = .slice A n c) (hown : OwnK k f w base e A n c l)
    (b off : Nat) (v : α) (hx : a.eval x = .slice (some ⟨b, off, none⟩) 1 1) (hc : w.rangeAt b off (f v)) (hv : ∀ u ∈ f v, u.oneCell' = true) (hn : n ≤ 1000000) (hbase : base ≤ w.heap.size)
    (h : ∀ A2 c2 w', OwnK k f w' base e A2 (n + 1) c2 (l ++ [v]) → Below base w w' → w.grownBy w' (Value.slice A n c).ownBlock → ((Value.slice A2 (n + 1) c2).ownBlock = (Value.slice A n c).ownBlock ∨ (Value.slice A2 (n + 1) c2).ownBlock = some w.heap.size) → wpList P ops Q rest (a.put o.dst (.slice A2 (n + 1) c2)) w') : wpList P ops Q (o :: rest) a w :=
  wpList_plain hgd fun _ hK => by
    obtain ⟨i, hi, hz, hs', hby'⟩ := info_parts he
    obtain ⟨v', w', hrun, h1, h2, _, h4⟩ := run_append_own_at (P := P) w base t o.type e i zv k by_ ht hi hz hs' hby' hzc hk0 (.slice A n c) n (l.flatMap f) hown.1 ⟨b, off, none⟩ 1 1 (f v) (by rw [hown.2.2, Nat.one_mul])
      (fun j u hu => by rw [Addr.add_mid]; exact hc j u hu) hv (by unfold maxLen; omega) (Nat.le_trans (Nat.mul_le_mul_left _ hby) (by omega)) hbase
    have hsh : ∃ A2 c2, v' = .slice A2 (n + 1) c2 := by
      rcases h1.2 with ⟨rfl, h0⟩ | ⟨g, cap, cur, rfl, _⟩
      · omega
      · exact ⟨_, _, rfl⟩
    obtain ⟨A2, c2, rfl⟩ := hsh
    unfold Oper.wp execOp
    simp only [ho, resolve, invoke, builtin, Sem.run_bind, Sem.run_pure, Result.andThen_ok, List.map_toArray, List.map_cons, List.map_nil, hs, hx, hrun]
    refine hK _ _ (h A2 c2 w' ⟨?_, by rw [List.length_append, hown.len]; rfl, hown.2.2⟩ ((Below.refl _ _).grown h2 hbase (fun k hk => (hown.1.lt k hk).1)) h2 h4)
    rw [List.flatMap_append, List.flatMap_singleton]
    exact h1
end
theorem wpList_append_m {ops : Array Oper} {rest : List Oper} {o : Oper} {a : Act} {w : World} {Q : Exit → Act → World → Prop} (hgd : o.guard = none) (s x : Operand)
    (ho : o.op = .call { callee := .builtin .append, args := #[s, x], argTypes := #[42, 42] })
    (base : Nat) (A : Option Addr) (n c : Nat) (l : List Mg) (hs : a.eval s = .slice A n c) (hown : OwnM w base A n c l)
    (b off : Nat) (v : Hd) (hx : a.eval x = .slice (some ⟨b, off, none⟩) 1 1) (hc : w.rangeAt b off (hdC v)) (hv : OwnB w base 5 v.A v.n v.c v.m.body) (hn : n ≤ 1000000) (hbase : base ≤ w.heap.size)
    (h : ∀ A2 c2 w', OwnM w' base A2 (n + 1) c2 (l ++ [v.m]) → Below base w w' → w.grownBy w' (Value.slice A n c).ownBlock → wpList Tryz.prog ops Q rest (a.put o.dst (.slice A2 (n + 1) c2)) w') : wpList Tryz.prog ops Q (o :: rest) a w := by
  obtain ⟨us, h1, h2, rfl⟩ := hown
  refine wpList_append_k (k := 4) (f := hdC) hgd s x 42 ho Tryz.underlying42 info_msg rfl (by omega) (by omega) base A n c us hs h1 b off v hx hc (hdC_one v) hn hbase ?_
  intro A2 c2 w' ho2 hb2 hg2
  have hne := ownsB_type h1.1 (show 49 ≠ 5 by decide)
  refine h A2 c2 w' ⟨us ++ [v], ho2, fun y hy => ?_, by rw [List.map_append]; rfl⟩ hb2 hg2
  have hall : OwnB w base 5 y.A y.n y.c y.m.body := by
    rcases List.mem_append.1 hy with hy | hy
    · exact h2 y hy
    · rw [List.mem_singleton.1 hy]; exact hv
  exact ⟨ownsB_kept hall.1 hg2 (fun b cs fr e _ => hne b cs fr e), hall.2⟩
end Go.Proofs.YtbogjfbfgbhdbaaGreatDoor
namespace Go.Proofs.YtbogjfbfgbhdbaaGreatDoor
set_option linter.unusedVariables false
set_option linter.unusedSimpArgs false
open Go.RowKit
set_option linter.unusedVariables false
set_option linter.unusedSimpArgs false
structure Stays {α : Type} (P : World → Nat → α → Prop) : Prop where
  keep : ∀ {w w' : World} {B : Nat} {a : α}, P w B a → (∀ p : Addr, p.block < B → w'.cell? p = w.cell? p) → P w' B a
  more : ∀ {w : World} {B B' : Nat} {a : α}, P w B a → B ≤ B' → P w B' a
def Nest {α β : Type} (k : Nat) (f : α → List Value) (P : World → Nat → α → Prop) (g : α → β) (w : World) (B : Nat) (A : Option Addr) (n : Nat) (l : List β) : Prop :=
  ∃ hs : List α, ColK k f w B A n hs ∧ (∀ h ∈ hs, P w B h) ∧ hs.map g = l
section
variable {α β : Type} {k : Nat} {f : α → List Value} {P : World → Nat → α → Prop} {g : α → β} {w w' : World} {B B' n : Nat} {A : Option Addr} {l : List β}
theorem Nest.nil : Nest k f P g w B A 0 [] := ⟨[], ColK.nil, fun h hh => (by cases hh), rfl⟩
theorem Nest.len (h : Nest k f P g w B A n l) : l.length = n := by
  obtain ⟨hs, h1, _, h3⟩ := h
  rw [← h3, List.length_map, h1.1]
theorem Nest.keep (s : Stays P) (h : Nest k f P g w B A n l) (hk : ∀ p : Addr, p.block < B → w'.cell? p = w.cell? p) : Nest k f P g w' B A n l := by
  obtain ⟨hs, h1, h2, h3⟩ := h
  exact ⟨hs, h1.keep hk, fun x hx => s.keep (h2 x hx) hk, h3⟩
theorem Nest.more (s : Stays P) (h : Nest k f P g w B A n l) (hB : B ≤ B') : Nest k f P g w B' A n l := by
  obtain ⟨hs, h1, h2, h3⟩ := h
  exact ⟨hs, h1.more hB, fun x hx => s.more (h2 x hx) hB, h3⟩
theorem Nest.below (s : Stays P) (h : Nest k f P g w B A n l) (hb : Below B' w w') (hB : B ≤ B') : Nest k f P g w' B A n l := h.keep s fun p hp => hb.cell (p := p) (by omega)
theorem Nest.later (s : Stays P) (h : Nest k f P g w w.heap.size A n l) (hb : Below w.heap.size w w') : Nest k f P g w' w'.heap.size A n l := (h.below s hb (Nat.le_refl _)).more s hb.size
theorem Nest.at_ {j : Nat} (h : Nest k f P g w B A n l) (hj : j < n) : ∃ b o x, A = some ⟨b, o, none⟩ ∧ b < B ∧ l[j]? = some (g x) ∧ l.take (j + 1) = l.take j ++ [g x] ∧ w.rangeAt b (o + j * k) (f x) ∧ P w B x := by
  obtain ⟨hs, h1, h2, rfl⟩ := h
  obtain ⟨b, o, x, rfl, hb, hx, ht, hr⟩ := h1.at_ hj
  have hx' : (hs.map g)[j]? = some (g x) := by rw [List.getElem?_map, hx]; rfl
  exact ⟨b, o, x, rfl, hb, hx', take_snoc_l _ _ _ hx', hr, h2 x (List.mem_of_getElem? hx)⟩
end
structure Bh where
  b : Bx
  A : Option Addr
  n : Nat
  c : Nat
def bhC (h : Bh) : List Value := [.string h.b.name, .int .i64 h.b.valid, .int .i64 h.b.next, .slice h.A h.n h.c]
theorem bhC_len (h : Bh) : (bhC h).length = 4 := rfl
theorem bhC_one (h : Bh) : ∀ u ∈ bhC h, u.oneCell' = true := by
  intro u hu
  unfold bhC at hu
  simp only [List.mem_cons, List.not_mem_nil, or_false] at hu
  rcases hu with rfl | rfl | rfl | rfl <;> rfl
def BhIn (w : World) (B : Nat) (h : Bh) : Prop := MsgsIn w B h.A h.n h.b.msgs ∧ h.n ≤ 140737488355328
theorem bhStays : Stays BhIn := ⟨fun h hk => ⟨h.1.keep hk, h.2⟩, fun h hB => ⟨h.1.more hB, h.2⟩⟩
abbrev BoxesIn (w : World) (B : Nat) (A : Option Addr) (n : Nat) (l : List Bx) : Prop := Nest 4 bhC BhIn Bh.b w B A n l
structure Th where
  t : Tmb
  A : Option Addr
  n : Nat
  c : Nat
def thC (h : Th) : List Value := [.int .i64 h.t.id, .string h.t.box, .int .i64 h.t.at_, .int .i64 h.t.msg.uid, .int .i64 h.t.msg.flags, .int .i64 h.t.msg.date, .slice h.A h.n h.c]
theorem thC_len (h : Th) : (thC h).length = 7 := rfl
theorem thC_one (h : Th) : ∀ u ∈ thC h, u.oneCell' = true := by
  intro u hu
  unfold thC at hu
  simp only [List.mem_cons, List.not_mem_nil, or_false] at hu
  rcases hu with rfl | rfl | rfl | rfl | rfl | rfl | rfl <;> rfl
def Th.tm (h : Th) : Tm := ⟨h.t.id, h.t.box, h.t.at_, h.t.msg.uid, h.t.msg.flags, h.t.msg.date, h.A, h.n, h.c⟩
theorem th_tm (h : Th) : tmC h.tm = thC h := rfl
theorem th_goes (rs : List Rul) (hs : List Hh) (now : Int) (h : Th) : goesB rs hs now h.tm = goesB rs hs now h.t.tm := rfl
def ThIn (w : World) (B : Nat) (h : Th) : Prop := Bytes w B h.A h.n h.t.msg.body ∧ h.n ≤ 140737488355328
theorem thStays : Stays ThIn := ⟨fun h hk => ⟨h.1.keep hk, h.2⟩, fun h hB => ⟨h.1.more hB, h.2⟩⟩
abbrev TombsIn (w : World) (B : Nat) (A : Option Addr) (n : Nat) (l : List Tmb) : Prop := Nest 7 thC ThIn Th.t w B A n l
def Hh.hol (h : Hh) : Hol := ⟨h.id, h.box, h.set⟩
theorem hhStays : Stays HhIn := ⟨fun h hk => h.keep hk, fun h hB => h.more hB⟩
abbrev HolsIn (w : World) (B : Nat) (A : Option Addr) (n : Nat) (l : List Hol) : Prop := Nest 3 hhC HhIn Hh.hol w B A n l
theorem HolsIn.holds {w : World} {B n : Nat} {A : Option Addr} {l : List Hol} (h : HolsIn w B A n l) : ∃ hs : List Hh, HoldsIn w B A n hs ∧ hs.map Hh.hol = l := by
  obtain ⟨hs, h1, h2, h3⟩ := h
  exact ⟨hs, ⟨h1, h2⟩, h3⟩
theorem heldR_hol (hs : List Hh) (box : ByteArray) (uid : Int) : heldR ((hs.map Hh.hol).map Hol.hh) box uid = heldR hs box uid := by
  unfold heldR
  rw [List.map_map, List.any_map]
  rfl
theorem goes_hol (rs : List Rul) (hs : List Hh) (now : Int) (t : Tm) : goesB rs ((hs.map Hh.hol).map Hol.hh) now t = goesB rs hs now t := by
  unfold goesB
  rw [heldR_hol]
def strC (s : ByteArray) : List Value := [.string s]
theorem strC_len (s : ByteArray) : (strC s).length = 1 := rfl
theorem strC_one (s : ByteArray) : ∀ u ∈ strC s, u.oneCell' = true := by
  intro u hu
  rw [List.mem_singleton.1 hu]
  rfl
structure Sl where
  A : Option Addr
  n : Nat
  c : Nat
def Sl.v (s : Sl) : Value := .slice s.A s.n s.c
structure StaAt where
  bx : Sl
  sb : Sl
  ru : Sl
  tb : Sl
  ho : Sl
def staV (s : Sta) (p : StaAt) : Value := .agg #[.int .i64 s.clock, .slice p.bx.A p.bx.n p.bx.c, .slice p.sb.A p.sb.n p.sb.c, .slice p.ru.A p.ru.n p.ru.c, .slice p.tb.A p.tb.n p.tb.c, .slice p.ho.A p.ho.n p.ho.c, .int .i64 s.nv, .int .i64 s.nt, .int .i64 s.nh]
structure StaIn (w : World) (B : Nat) (s : Sta) (p : StaAt) : Prop where
  bx : BoxesIn w B p.bx.A p.bx.n s.boxes
  sb : ColK 1 strC w B p.sb.A p.sb.n s.subs
  ru : ColK 2 rulC w B p.ru.A p.ru.n s.rules
  tb : TombsIn w B p.tb.A p.tb.n s.tombs
  ho : HolsIn w B p.ho.A p.ho.n s.holds
  sz : p.bx.n ≤ 140737488355328 ∧ p.sb.n ≤ 140737488355328 ∧ p.ru.n ≤ 140737488355328 ∧ p.tb.n ≤ 140737488355328 ∧ p.ho.n ≤ 140737488355328
section
variable {w w' : World} {B B' : Nat} {s : Sta} {p : StaAt}
theorem StaIn.keep (h : StaIn w B s p) (hk : ∀ q : Addr, q.block < B → w'.cell? q = w.cell? q) : StaIn w' B s p :=
  ⟨h.bx.keep bhStays hk, h.sb.keep hk, h.ru.keep hk, h.tb.keep thStays hk, h.ho.keep hhStays hk, h.sz⟩
theorem StaIn.more (h : StaIn w B s p) (hB : B ≤ B') : StaIn w B' s p :=
  ⟨h.bx.more bhStays hB, h.sb.more hB, h.ru.more hB, h.tb.more thStays hB, h.ho.more hhStays hB, h.sz⟩
theorem StaIn.below (h : StaIn w B s p) (hb : Below B' w w') (hB : B ≤ B') : StaIn w' B s p := h.keep fun q hq => hb.cell (p := q) (by omega)
theorem StaIn.later (h : StaIn w w.heap.size s p) (hb : Below w.heap.size w w') : StaIn w' w'.heap.size s p := (h.below hb (Nat.le_refl _)).more hb.size
end
end Go.Proofs.YtbogjfbfgbhdbaaGreatDoor
namespace Go.Proofs.YtbogjfbfgbhdbaaGreatDoor
set_option linter.unusedVariables false
set_option linter.unusedSimpArgs false
open Go.RowKit
set_option linter.unusedVariables false
set_option linter.unusedSimpArgs false
theorem okF_lo {f : Int} (h : ¬ 0 ≤ f) : okF f = false := decide_eq_false fun e => h e.1
theorem okF_hi {f : Int} (h : ¬ f ≤ 31) : okF f = false := decide_eq_false fun e => h e.2
theorem okF_yes {f : Int} (h : 0 ≤ f) (h2 : f ≤ 31) : okF f = true := decide_eq_true ⟨h, h2⟩
set_option maxHeartbeats 400000 in
theorem fright_any (f : Int) (w : World) : Calls Tryz.prog 154 #[.int .i64 f] w fun e w' => e = .returned (.bool (okF f)) ∧ w = w' := by
  by_cases h1 : 0 ≤ f
  · by_cases h2 : f ≤ 31
    · have HR := Lib.hid (okF_yes h1 h2)
      go_enter Tryz.func154, Tryz.ntmps154
      go_wp2
      go_ret
      exact ⟨by rw [HR.out] <;> rfl, rfl⟩
    · have HR := Lib.hid (okF_hi h2)
      go_enter Tryz.func154, Tryz.ntmps154
      go_wp2
      go_ret
      exact ⟨by rw [HR.out] <;> rfl, rfl⟩
  · have HR := Lib.hid (okF_lo h1)
    go_enter Tryz.func154, Tryz.ntmps154
    go_wp2
    go_ret
    exact ⟨by rw [HR.out] <;> rfl, rfl⟩
end Go.Proofs.YtbogjfbfgbhdbaaGreatDoor
