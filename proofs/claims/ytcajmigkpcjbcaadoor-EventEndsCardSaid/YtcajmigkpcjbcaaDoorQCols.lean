/-
  Columns of values of one cell: what a slice of numbers or of texts holds, as a list. Nothing here speaks of a program.
-/
import Derived.Test.YtcajmigkpcjbcaaDoorQBytes
import Derived.Test.YtcajmigkpcjbcaaDoorQPackMath
import Derived.Lib.AppendStr
import Derived.Lib.ConvBytes
import Derived.Deep.MidRow
namespace Go.Proofs.YtcajmigkpcjbcaaDoor
set_option linter.unusedVariables false
set_option linter.unusedSimpArgs false
set_option linter.unusedVariables false
set_option linter.unusedSimpArgs false
open Go.RowKit

/-- the slice (A, n) holds the values l, each laid by f, in a block below B -/
def Col {α : Type} (f : α → Value) (w : World) (B : Nat) (A : Option Addr) (n : Nat) (l : List α) : Prop :=
  l.length = n ∧ (0 < n → ∃ b o, A = some ⟨b, o, none⟩ ∧ b < B ∧ ∀ i a, l[i]? = some a → w.cell? ⟨b, o + i, none⟩ = some (f a))
section
variable {α : Type} {f : α → Value} {w w' : World} {B B' n : Nat} {A : Option Addr} {l : List α}
theorem Col.nil : Col f w B A 0 [] := ⟨rfl, fun h => absurd h (Nat.lt_irrefl _)⟩
theorem Col.keep (h : Col f w B A n l) (hk : ∀ p : Addr, p.block < B → w'.cell? p = w.cell? p) : Col f w' B A n l :=
  ⟨h.1, fun hn => by
    obtain ⟨b, o, e, hb, hc⟩ := h.2 hn
    exact ⟨b, o, e, hb, fun i a ha => (hk _ hb).trans (hc i a ha)⟩⟩
theorem Col.more (h : Col f w B A n l) (hB : B ≤ B') : Col f w B' A n l :=
  ⟨h.1, fun hn => by
    obtain ⟨b, o, e, hb, hc⟩ := h.2 hn
    exact ⟨b, o, e, by omega, hc⟩⟩
theorem Col.below (h : Col f w B A n l) (hb : Below B' w w') (hB : B ≤ B') : Col f w' B A n l := h.keep fun _ hp => hb.cell (by omega)
theorem Col.later (h : Col f w w.heap.size A n l) (hb : Below w.heap.size w w') : Col f w' w'.heap.size A n l := (h.below hb (Nat.le_refl _)).more hb.size
theorem Col.at_ {k : Nat} (h : Col f w B A n l) (hk : k < n) : ∃ b o a, A = some ⟨b, o, none⟩ ∧ b < B ∧ l[k]? = some a ∧ l.take (k + 1) = l.take k ++ [a] ∧ w.cell? ⟨b, o + k, none⟩ = some (f a) := by
  obtain ⟨b, o, e, hb, hc⟩ := h.2 (by omega)
  have hl : k < l.length := by rw [h.1]; exact hk
  exact ⟨b, o, l[k], e, hb, List.getElem?_eq_getElem hl, List.take_succ_eq_append_getElem hl, hc k _ (List.getElem?_eq_getElem hl)⟩
/-- one value alone in a new block -/
theorem Col.one (w : World) (f : α → Value) (a : α) (hf : (f a).oneCell' = true) (t : TypeId) :
    Col f (w.alloc (.cells #[f a] t)) (w.heap.size + 1) (some ⟨w.heap.size, 0, none⟩) 1 [a] := by
  refine ⟨rfl, fun _ => ⟨w.heap.size, 0, rfl, by omega, fun i x hx => ?_⟩⟩
  have hi : i < 1 := (List.getElem?_eq_some_iff.1 hx).1
  obtain rfl : i = 0 := by omega
  obtain rfl : a = x := by simpa using hx
  rw [cell_of_row _ _ _ _ _ _ (heap_alloc_new w _)]
  rfl
end
theorem Col.of_ints {w : World} {B : Nat} {A : Option Addr} {n c : Nat} {k : IntKind} {l : List Int} (h : (RowRel.int k).slice.R w B [.slice A n c] l) :
    Col (fun z => .int k z) w B A n l ∧ (∀ z ∈ l, (Lit.int k z).wf = true) ∧ n ≤ 140737488355328 := by
  obtain ⟨A1, n1, c1, e, h1, h2, h3, h4, h5⟩ := h
  injection e with e _
  injection e with e1 e2 e3
  subst e1; subst e2; subst e3
  refine ⟨⟨h4, fun hn => ?_⟩, ?_, h3⟩
  · obtain ⟨b, o, e, hb, hr⟩ := h5 hn
    refine ⟨b, o, e, hb, fun i a ha => ?_⟩
    obtain ⟨cs, hc, rfl, _⟩ := hr i a ha
    have := hc 0 _ rfl
    rwa [Nat.add_zero, show i * (RowRel.int k).k = i from Nat.mul_one i] at this
  · intro z hz
    obtain ⟨i, hi, rfl⟩ := List.mem_iff_getElem.1 hz
    obtain ⟨b, o, _, _, hr⟩ := h5 (by omega)
    obtain ⟨cs, _, _, hw⟩ := hr i _ (List.getElem?_eq_getElem hi)
    exact hw
theorem Col.of_strs {w : World} {B : Nat} {A : Option Addr} {n c : Nat} {l : List ByteArray} (h : RowRel.str.slice.R w B [.slice A n c] l) :
    Col Value.string w B A n l ∧ (∀ z ∈ l, z.size ≤ 140737488355328) ∧ n ≤ 140737488355328 := by
  obtain ⟨A1, n1, c1, e, h1, h2, h3, h4, h5⟩ := h
  injection e with e _
  injection e with e1 e2 e3
  subst e1; subst e2; subst e3
  refine ⟨⟨h4, fun hn => ?_⟩, ?_, h3⟩
  · obtain ⟨b, o, e, hb, hr⟩ := h5 hn
    refine ⟨b, o, e, hb, fun i a ha => ?_⟩
    obtain ⟨cs, hc, rfl, _⟩ := hr i a ha
    have := hc 0 _ rfl
    rwa [Nat.add_zero, show i * RowRel.str.k = i from Nat.mul_one i] at this
  · intro z hz
    obtain ⟨i, hi, rfl⟩ := List.mem_iff_getElem.1 hz
    obtain ⟨b, o, _, _, hr⟩ := h5 (by omega)
    obtain ⟨cs, _, _, hw⟩ := hr i _ (List.getElem?_eq_getElem hi)
    exact hw

theorem strCells_nats (s : ByteArray) : Lib.strCells s = (nats s).map bv := by
  unfold Lib.strCells nats bv
  rw [List.map_map]
  rfl
section
variable {P : Program}
/-- append(b, s...) -/
theorem wpList_append_str {ops : Array Oper} {rest : List Oper} {o : Oper} {a : Act} {w : World} {Q : Exit → Act → World → Prop} (hgd : o.guard = none) (s x : Operand) (t u : TypeId)
    (ho : o.op = .call { callee := .builtin .append, args := #[s, x], argTypes := #[t, u] }) {e : TypeId} (ht : P.underlying t = some (.slice e)) (hu : P.underlying u = some .string)
    (he : (P.info? e).map (fun i => (i.zero, i.size, i.bytes)) = some (some (.int .u8 0), 1, 1))
    (base : Nat) (A : Option Addr) (n c : Nat) (l : List Nat) (hs : a.eval s = .slice A n c) (hown : OwnB w base e A n c l)
    (z : ByteArray) (hx : a.eval x = .string z) (hnm : n + z.size ≤ 1000000000) (hbase : base ≤ w.heap.size)
    (h : ∀ A2 c2 w', OwnB w' base e A2 (n + z.size) c2 (l ++ nats z) → Below base w w' → w.grownBy w' (Value.slice A n c).ownBlock → wpList P ops Q rest (a.put o.dst (.slice A2 (n + z.size) c2)) w') : wpList P ops Q (o :: rest) a w := by
  obtain ⟨i, hi, hz, hsz, hby⟩ := info_parts he
  refine Lib.wpList_append_own_string w hgd s x t u ho base e i ht hu hi hz hsz hby (.slice A n c) n (l.map bv) hs hown.1 z hx (by unfold maxLen; omega) (by omega) hbase ?_
  intro v' w' h1 h2 _
  have hsh : ∃ A2 c2, v' = .slice A2 (n + z.size) c2 := by
    rcases h1.2 with ⟨rfl, h0⟩ | ⟨g, cap, cur, rfl, _⟩
    · rw [h0]; exact ⟨_, _, rfl⟩
    · exact ⟨_, _, rfl⟩
  obtain ⟨A2, c2, rfl⟩ := hsh
  refine h A2 c2 w' ⟨by rw [List.map_append, ← strCells_nats]; exact h1, fun y hy => ?_⟩ ((Below.refl _ _).grown h2 hbase (fun k hk => (hown.1.lt k hk).1)) h2
  exact (List.mem_append.1 hy).elim (hown.2 y) (nats_lt z y)

theorem run_loadCells_0 (w : World) (a : Addr) : (loadCells a 0).run P w = .ok #[] w := by simp [loadCells, loadCellsFrom]
/-- string(b) -/
theorem run_str_of_bytes {w : World} {B : Nat} {A : Option Addr} {n c : Nat} {l : List Nat} (h : Bytes w B A n l) {src dst e : TypeId} (hs : P.underlying src = some (.slice e)) (he : P.underlying e = some (.int .u8)) (hd : P.underlying dst = some .string) :
    (convert src dst (.slice A n c)).run P w = .ok (.string (strOf l)) w := by
  rcases Nat.eq_zero_or_pos n with h0 | h0
  · subst h0
    have hl : l = [] := List.eq_nil_of_length_eq_zero h.1
    subst hl
    cases A with
    | none => exact run_convert_bytes_nil w src e hs he 0 c dst hd
    | some a =>
      rw [run_convert_bytes_string w src dst e _ 0 c hs he hd, run_bytesToString w a 0 c [] (run_loadCells_0 w a)]
      rfl
  · obtain ⟨b, o, rfl, _, hc⟩ := h.2.2 h0
    refine run_convert_bytes_arg w src e hs he b o n c (l.map fun x : Nat => (x : Int)) (by rw [List.length_map, h.1]) (fun i hi => ?_) dst hd
    rw [hc i hi]
    unfold byteAt
    simp [List.getD_eq_getElem?_getD, List.getElem?_eq_getElem (show i < l.length by rw [h.1]; exact hi)]
end
/-- []byte(s): the bytes of a new block -/
theorem bytesWorld_bytes (w : World) (e : TypeId) (s : ByteArray) : Bytes (Lib.bytesWorld w e s) (w.heap.size + 1) (some ⟨w.heap.size, 0, none⟩) s.size (nats s) := by
  refine ⟨nats_length s, nats_lt s, fun _ => ⟨w.heap.size, 0, rfl, by omega, fun i hi => ?_⟩⟩
  rw [Nat.zero_add, Lib.bytesWorld_cell w e s i hi]
  unfold byteAt nats
  have : i < s.data.toList.length := by rw [Array.length_toList]; exact hi
  simp only [List.getD_eq_getElem?_getD, List.getElem?_map, List.getElem?_eq_getElem this, Option.getD_some, Option.map_some]
theorem bytesWorld_grown (w : World) (e : TypeId) (s : ByteArray) (row : Option Nat) : w.grownBy (Lib.bytesWorld w e s) row :=
  ⟨rfl, rfl, rfl, by rw [Lib.bytesWorld_size]; omega, fun k hk _ => Lib.bytesWorld_at_old w e s k hk⟩
theorem grownBy_trans {a w w' : World} {row : Option Nat} (h : a.grownBy w row) (k : w.grownBy w' row) : a.grownBy w' row :=
  ⟨k.os.trans h.os, k.tape.trans h.tape, k.output.trans h.output, Nat.le_trans h.size k.size, fun j hj hr => (k.block j (Nat.lt_of_lt_of_le hj h.size) hr).trans (h.block j hj hr)⟩
end Go.Proofs.YtcajmigkpcjbcaaDoor

/-
  Slices whose elements take k cells each (pairs, changes, ..): as lists; those of a call's own; append of one. Of any program.
-/
namespace Go.Proofs.YtcajmigkpcjbcaaDoor
set_option linter.unusedVariables false
set_option linter.unusedSimpArgs false
set_option linter.unusedVariables false
set_option linter.unusedSimpArgs false
open Go.RowKit

/-- the slice (A, n) holds the elements of a list, k cells each, f says which, below block B -/
def ColK {α : Type} (k : Nat) (f : α → List Value) (w : World) (B : Nat) (A : Option Addr) (n : Nat) (l : List α) : Prop :=
  l.length = n ∧ (0 < n → ∃ b o, A = some ⟨b, o, none⟩ ∧ b < B ∧ ∀ i a, l[i]? = some a → w.rangeAt b (o + i * k) (f a))
theorem rangeAtK_keep {w w' : World} {b o : Nat} {cs : List Value} (h : w.rangeAt b o cs) (hk : ∀ i, w'.cell? ⟨b, i, none⟩ = w.cell? ⟨b, i, none⟩) : w'.rangeAt b o cs := fun j v hv => by rw [hk]; exact h j v hv
section
variable {α : Type} {k : Nat} {f : α → List Value} {w w' : World} {B B' n : Nat} {A : Option Addr} {l : List α}
theorem ColK.nil : ColK k f w B A 0 [] := ⟨rfl, fun h => absurd h (by omega)⟩
theorem ColK.keep (h : ColK k f w B A n l) (hk : ∀ p : Addr, p.block < B → w'.cell? p = w.cell? p) : ColK k f w' B A n l := by
  refine ⟨h.1, fun hn => ?_⟩
  obtain ⟨b, o, rfl, hb, hc⟩ := h.2 hn
  exact ⟨b, o, rfl, hb, fun i a ha => rangeAtK_keep (hc i a ha) (fun j => hk ⟨b, j, none⟩ hb)⟩
theorem ColK.more (h : ColK k f w B A n l) (hB : B ≤ B') : ColK k f w B' A n l := by
  refine ⟨h.1, fun hn => ?_⟩
  obtain ⟨b, o, rfl, hb, hc⟩ := h.2 hn
  exact ⟨b, o, rfl, by omega, hc⟩
theorem ColK.below (h : ColK k f w B A n l) (hb : Below B' w w') (hB : B ≤ B') : ColK k f w' B A n l := h.keep fun p hp => hb.cell (p := p) (by omega)
theorem ColK.later (h : ColK k f w w.heap.size A n l) (hb : Below w.heap.size w w') : ColK k f w' w'.heap.size A n l := (h.below hb (Nat.le_refl _)).more hb.size
theorem ColK.at_ {j : Nat} (h : ColK k f w B A n l) (hj : j < n) : ∃ b o a, A = some ⟨b, o, none⟩ ∧ b < B ∧ l[j]? = some a ∧ l.take (j + 1) = l.take j ++ [a] ∧ w.rangeAt b (o + j * k) (f a) := by
  obtain ⟨b, o, rfl, hb, hc⟩ := h.2 (by omega)
  have hl : j < l.length := by rw [h.1]; exact hj
  refine ⟨b, o, l[j], rfl, hb, List.getElem?_eq_getElem hl, ?_, hc j _ (List.getElem?_eq_getElem hl)⟩
  rw [List.take_add_one, List.getElem?_eq_getElem hl]; rfl
end

/-- a slice of one's own, from block base on, that holds the elements of a list, k cells each -/
def OwnK {α : Type} (k : Nat) (f : α → List Value) (w : World) (base : Nat) (e : TypeId) (A : Option Addr) (n c : Nat) (l : List α) : Prop :=
  w.ownsRow base e k (.slice A n c) n (l.flatMap f) ∧ l.length = n ∧ ∀ a, (f a).length = k
section
variable {α : Type} {k : Nat} {f : α → List Value} {w w' : World} {base n c : Nat} {e : TypeId} {A : Option Addr} {l : List α}
theorem flat_len (hk : ∀ a, (f a).length = k) (l : List α) : (l.flatMap f).length = l.length * k := by
  induction l with
  | nil => simp
  | cons a l ih => rw [List.flatMap_cons, List.length_append, ih, hk, List.length_cons, Nat.add_mul]; omega
theorem flat_get (hk : ∀ a, (f a).length = k) : ∀ (l : List α) (i : Nat) (a : α), l[i]? = some a → ∀ j v, (f a)[j]? = some v → (l.flatMap f)[i * k + j]? = some v
  | b :: l, 0, a, h, j, v, hv => by
    cases h
    have hj : j < (f b).length := (List.getElem?_eq_some_iff.1 hv).1
    rw [List.flatMap_cons, List.getElem?_append_left (by omega)]
    simpa using hv
  | b :: l, i + 1, a, h, j, v, hv => by
    rw [List.flatMap_cons, List.getElem?_append_right (by rw [hk, Nat.add_mul]; omega), hk, show (i + 1) * k + j - k = i * k + j by rw [Nat.add_mul]; omega]
    exact flat_get hk l i a h j v hv
theorem OwnK.nil (hk : ∀ a, (f a).length = k) : OwnK k f w base e none 0 0 [] := ⟨⟨by simp, .inl ⟨rfl, rfl⟩⟩, rfl, hk⟩
theorem OwnK.len (h : OwnK k f w base e A n c l) : l.length = n := h.2.1
theorem OwnK.below (h : OwnK k f w base e A n c l) (hb : Below w.heap.size w w') : OwnK k f w' base e A n c l := by
  refine ⟨⟨h.1.1, ?_⟩, h.2⟩
  rcases h.1.2 with h0 | ⟨g, cap, cur, hv, hg, hh, r⟩
  · exact .inl h0
  · exact .inr ⟨g, cap, cur, hv, hg, (hb.block g (Array.getElem?_eq_some_iff.1 hh).1).trans hh, r⟩
theorem OwnK.alloc (h : OwnK k f w base e A n c l) (o : Obj) : OwnK k f (w.alloc o) base e A n c l := h.below ((Below.refl _ _).alloc (Nat.le_refl _) _)
theorem OwnK.from_ {base' : Nat} (h : OwnK k f w base e A n c l) (hb : base' ≤ base) : OwnK k f w base' e A n c l := by
  refine ⟨⟨h.1.1, ?_⟩, h.2⟩
  rcases h.1.2 with h0 | ⟨g, cap, cur, hv, hg, r⟩
  · exact .inl h0
  · exact .inr ⟨g, cap, cur, hv, Nat.le_trans hb hg, r⟩
theorem OwnK.cap (h : OwnK k f w base e A n c l) : n ≤ c ∧ c ≤ maxLen := by
  rcases h.1.2 with ⟨hv, h0⟩ | ⟨g, cap, cur, hv, _, _, h1, h2, _⟩
  · injection hv with _ _ hc; subst hc; exact ⟨by omega, by unfold maxLen; omega⟩
  · injection hv with _ _ hc; subst hc; exact ⟨h1, h2⟩
theorem OwnK.block (h : OwnK k f w base e A n c l) (hn : 0 < n) : ∃ g cur, A = some ⟨g, 0, none⟩ ∧ base ≤ g ∧ w.heap[g]? = some (.cells cur e (0, 0)) ∧ cur.size = c * k ∧ cur.toList.take (n * k) = l.flatMap f := by
  rcases h.1.2 with ⟨_, h0⟩ | ⟨g, cap, cur, hv, hg, hh, h1, h2, h3, h4⟩
  · omega
  · injection hv with hA _ hc
    subst hA hc
    exact ⟨g, cur, rfl, hg, hh, h3, h4⟩
theorem OwnK.range (h : OwnK k f w base e A n c l) (hn : 0 < n) : ∃ g, A = some ⟨g, 0, none⟩ ∧ base ≤ g ∧ g < w.heap.size ∧ ∀ i a, l[i]? = some a → w.rangeAt g (i * k) (f a) := by
  obtain ⟨g, cur, rfl, hg, hh, hcs, htk⟩ := h.block hn
  refine ⟨g, rfl, hg, (Array.getElem?_eq_some_iff.1 hh).1, fun i a ha j v hv => ?_⟩
  have h1 := flat_get h.2.2 l i a ha j v hv
  have hi : i < l.length := (List.getElem?_eq_some_iff.1 ha).1
  have hj : j < k := by rw [← h.2.2 a]; exact (List.getElem?_eq_some_iff.1 hv).1
  rw [← htk, List.getElem?_take, if_pos (by
    have : (i + 1) * k ≤ n * k := Nat.mul_le_mul_right k (by rw [← h.len]; omega)
    rw [Nat.add_mul] at this; omega)] at h1
  rw [cell_of_row w g (i * k + j) cur e (0, 0) hh]
  simpa only [Array.getElem?_toList] using h1
theorem OwnK.col (h : OwnK k f w base e A n c l) : ColK k f w w.heap.size A n l := by
  refine ⟨h.len, fun hn => ?_⟩
  obtain ⟨g, rfl, _, hg, hr⟩ := h.range hn
  exact ⟨g, 0, rfl, hg, fun i a ha => by rw [Nat.zero_add]; exact hr i a ha⟩
end
section
variable {P : Program} {α : Type} {k : Nat} {f : α → List Value}
/-- append(s, v): the one element lies in a new block -/
theorem wpList_append_k {ops : Array Oper} {rest : List Oper} {o : Oper} {a : Act} {w : World} {Q : Exit → Act → World → Prop} (hgd : o.guard = none) (s x : Operand) (t : TypeId)
    (ho : o.op = .call { callee := .builtin .append, args := #[s, x], argTypes := #[t, t] }) {e : TypeId} (ht : P.underlying t = some (.slice e)) {zv : Value} {by_ : Nat}
    (he : (P.info? e).map (fun i => (i.zero, i.size, i.bytes)) = some (some zv, k, by_)) (hzc : zv.cells.size = k) (hk0 : 0 < k) (hby : by_ ≤ 100)
    (base : Nat) (A : Option Addr) (n c : Nat) (l : List α) (hs : a.eval s = .slice A n c) (hown : OwnK k f w base e A n c l)
    (b off : Nat) (v : α) (hx : a.eval x = .slice (some ⟨b, off, none⟩) 1 1) (hc : w.rangeAt b off (f v)) (hv : ∀ u ∈ f v, u.oneCell' = true) (hn : n ≤ 1000000) (hbase : base ≤ w.heap.size)
    (h : ∀ A2 c2 w', OwnK k f w' base e A2 (n + 1) c2 (l ++ [v]) → Below base w w' → w.grownBy w' (Value.slice A n c).ownBlock → wpList P ops Q rest (a.put o.dst (.slice A2 (n + 1) c2)) w') : wpList P ops Q (o :: rest) a w :=
  wpList_plain hgd fun _ hK => by
    obtain ⟨i, hi, hz, hs', hby'⟩ := info_parts he
    obtain ⟨v', w', hrun, h1, h2, _, _⟩ := run_append_own_at (P := P) w base t o.type e i zv k by_ ht hi hz hs' hby' hzc hk0 (.slice A n c) n (l.flatMap f) hown.1 ⟨b, off, none⟩ 1 1 (f v) (by rw [hown.2.2, Nat.one_mul])
      (fun j u hu => by rw [Addr.add_mid]; exact hc j u hu) hv (by unfold maxLen; omega) (Nat.le_trans (Nat.mul_le_mul_left _ hby) (by omega)) hbase
    have hsh : ∃ A2 c2, v' = .slice A2 (n + 1) c2 := by
      rcases h1.2 with ⟨rfl, h0⟩ | ⟨g, cap, cur, rfl, _⟩
      · omega
      · exact ⟨_, _, rfl⟩
    obtain ⟨A2, c2, rfl⟩ := hsh
    unfold Oper.wp execOp
    simp only [ho, resolve, invoke, builtin, Sem.run_bind, Sem.run_pure, Result.andThen_ok, List.map_toArray, List.map_cons, List.map_nil, hs, hx, hrun]
    refine hK _ _ (h A2 c2 w' ⟨?_, by rw [List.length_append, hown.len]; rfl, hown.2.2⟩ ((Below.refl _ _).grown h2 hbase (fun k hk => (hown.1.lt k hk).1)) h2)
    rw [List.flatMap_append, List.flatMap_singleton]
    exact h1
end
end Go.Proofs.YtcajmigkpcjbcaaDoor
