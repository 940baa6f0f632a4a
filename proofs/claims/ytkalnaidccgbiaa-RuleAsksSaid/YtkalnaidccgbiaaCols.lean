/-
  Columns of values of one cell: what a slice of numbers or of texts holds, as a list. Nothing here speaks of a program.
-/
import Derived.Test.YtkalnaidccgbiaaRowRel
import Derived.Test.YtkalnaidccgbiaaBytesOwn
import Derived.Test.YtkalnaidccgbiaaPackMath
import Derived.Lib.AppendStr
import Derived.Lib.ConvBytes
namespace Go.Proofs.Ytkalnaidccgbiaa
set_option linter.unusedVariables false
set_option linter.unusedSimpArgs false
open Go.RowKit

/-- the slice (A, n) holds the values l, each laid by f, in a block below B -/
def Col {α : Type} (f : α → Value) (w : World) (B : Nat) (A : Option Addr) (n : Nat) (l : List α) : Prop :=
  l.length = n ∧ (0 < n → ∃ b o, A = some ⟨b, o, none⟩ ∧ b < B ∧ ∀ i a, l[i]? = some a → w.cell? ⟨b, o + i, none⟩ = some (f a))
section
variable {α : Type} {f : α → Value} {w w' : World} {B B' n : Nat} {A : Option Addr} {l : List α}
theorem Col.nil : Col f w B A 0 [] := ⟨rfl, fun h => absurd h (Nat.lt_irrefl _)⟩
theorem Col.keep (h : Col f w B A n l) (hk : ∀ p : Addr, p.block < B → w'.cell? p = w.cell? p) : Col f w' B A n l :=
  ⟨h.1, fun hn => by
    obtain ⟨b, o, e, hb, hc⟩ := h.2 hn
    exact ⟨b, o, e, hb, fun i a ha => (hk _ hb).trans (hc i a ha)⟩⟩
theorem Col.more (h : Col f w B A n l) (hB : B ≤ B') : Col f w B' A n l :=
  ⟨h.1, fun hn => by
    obtain ⟨b, o, e, hb, hc⟩ := h.2 hn
    exact ⟨b, o, e, by omega, hc⟩⟩
theorem Col.below (h : Col f w B A n l) (hb : Below B' w w') (hB : B ≤ B') : Col f w' B A n l := h.keep fun _ hp => hb.cell (by omega)
theorem Col.later (h : Col f w w.heap.size A n l) (hb : Below w.heap.size w w') : Col f w' w'.heap.size A n l := (h.below hb (Nat.le_refl _)).more hb.size
theorem Col.at_ {k : Nat} (h : Col f w B A n l) (hk : k < n) : ∃ b o a, A = some ⟨b, o, none⟩ ∧ b < B ∧ l[k]? = some a ∧ l.take (k + 1) = l.take k ++ [a] ∧ w.cell? ⟨b, o + k, none⟩ = some (f a) := by
  obtain ⟨b, o, e, hb, hc⟩ := h.2 (by omega)
  have hl : k < l.length := by rw [h.1]; exact hk
  exact ⟨b, o, l[k], e, hb, List.getElem?_eq_getElem hl, List.take_succ_eq_append_getElem hl, hc k _ (List.getElem?_eq_getElem hl)⟩
/-- one value alone in a new block -/
theorem Col.one (w : World) (f : α → Value) (a : α) (hf : (f a).oneCell' = true) (t : TypeId) :
    Col f (w.alloc (.cells #[f a] t)) (w.heap.size + 1) (some ⟨w.heap.size, 0, none⟩) 1 [a] := by
  refine ⟨rfl, fun _ => ⟨w.heap.size, 0, rfl, by omega, fun i x hx => ?_⟩⟩
  have hi : i < 1 := (List.getElem?_eq_some_iff.1 hx).1
  obtain rfl : i = 0 := by omega
  obtain rfl : a = x := by simpa using hx
  rw [cell_of_row _ _ _ _ _ _ (heap_alloc_new w _)]
  rfl
end
theorem Col.of_ints {w : World} {B : Nat} {A : Option Addr} {n c : Nat} {k : IntKind} {l : List Int} (h : (RowRel.int k).slice.R w B [.slice A n c] l) :
    Col (fun z => .int k z) w B A n l ∧ (∀ z ∈ l, (Lit.int k z).wf = true) ∧ n ≤ 140737488355328 := by
  obtain ⟨A1, n1, c1, e, h1, h2, h3, h4, h5⟩ := h
  injection e with e _
  injection e with e1 e2 e3
  subst e1; subst e2; subst e3
  refine ⟨⟨h4, fun hn => ?_⟩, ?_, h3⟩
  · obtain ⟨b, o, e, hb, hr⟩ := h5 hn
    refine ⟨b, o, e, hb, fun i a ha => ?_⟩
    obtain ⟨cs, hc, rfl, _⟩ := hr i a ha
    have := hc 0 _ rfl
    rwa [Nat.add_zero, show i * (RowRel.int k).k = i from Nat.mul_one i] at this
  · intro z hz
    obtain ⟨i, hi, rfl⟩ := List.mem_iff_getElem.1 hz
    obtain ⟨b, o, _, _, hr⟩ := h5 (by omega)
    obtain ⟨cs, _, _, hw⟩ := hr i _ (List.getElem?_eq_getElem hi)
    exact hw
theorem Col.of_strs {w : World} {B : Nat} {A : Option Addr} {n c : Nat} {l : List ByteArray} (h : RowRel.str.slice.R w B [.slice A n c] l) :
    Col Value.string w B A n l ∧ (∀ z ∈ l, z.size ≤ 140737488355328) ∧ n ≤ 140737488355328 := by
  obtain ⟨A1, n1, c1, e, h1, h2, h3, h4, h5⟩ := h
  injection e with e _
  injection e with e1 e2 e3
  subst e1; subst e2; subst e3
  refine ⟨⟨h4, fun hn => ?_⟩, ?_, h3⟩
  · obtain ⟨b, o, e, hb, hr⟩ := h5 hn
    refine ⟨b, o, e, hb, fun i a ha => ?_⟩
    obtain ⟨cs, hc, rfl, _⟩ := hr i a ha
    have := hc 0 _ rfl
    rwa [Nat.add_zero, show i * RowRel.str.k = i from Nat.mul_one i] at this
  · intro z hz
    obtain ⟨i, hi, rfl⟩ := List.mem_iff_getElem.1 hz
    obtain ⟨b, o, _, _, hr⟩ := h5 (by omega)
    obtain ⟨cs, _, _, hw⟩ := hr i _ (List.getElem?_eq_getElem hi)
    exact hw

theorem strCells_nats (s : ByteArray) : Lib.strCells s = (nats s).map bv := by
  unfold Lib.strCells nats bv
  rw [List.map_map]
  rfl
section
variable {P : Program}
/-- append(b, s...) -/
theorem wpList_append_str {ops : Array Oper} {rest : List Oper} {o : Oper} {a : Act} {w : World} {Q : Exit → Act → World → Prop} (hgd : o.guard = none) (s x : Operand) (t u : TypeId)
    (ho : o.op = .call { callee := .builtin .append, args := #[s, x], argTypes := #[t, u] }) {e : TypeId} (ht : P.underlying t = some (.slice e)) (hu : P.underlying u = some .string)
    (he : (P.info? e).map (fun i => (i.zero, i.size, i.bytes)) = some (some (.int .u8 0), 1, 1))
    (base : Nat) (A : Option Addr) (n c : Nat) (l : List Nat) (hs : a.eval s = .slice A n c) (hown : OwnB w base e A n c l)
    (z : ByteArray) (hx : a.eval x = .string z) (hnm : n + z.size ≤ 1000000000) (hbase : base ≤ w.heap.size)
    (h : ∀ A2 c2 w', OwnB w' base e A2 (n + z.size) c2 (l ++ nats z) → Below base w w' → w.grownBy w' (Value.slice A n c).ownBlock → wpList P ops Q rest (a.put o.dst (.slice A2 (n + z.size) c2)) w') : wpList P ops Q (o :: rest) a w := by
  obtain ⟨i, hi, hz, hsz, hby⟩ := info_parts he
  refine Lib.wpList_append_own_string w hgd s x t u ho base e i ht hu hi hz hsz hby (.slice A n c) n (l.map bv) hs hown.1 z hx (by unfold maxLen; omega) (by omega) hbase ?_
  intro v' w' h1 h2 _
  have hsh : ∃ A2 c2, v' = .slice A2 (n + z.size) c2 := by
    rcases h1.2 with ⟨rfl, h0⟩ | ⟨g, cap, cur, rfl, _⟩
    · rw [h0]; exact ⟨_, _, rfl⟩
    · exact ⟨_, _, rfl⟩
  obtain ⟨A2, c2, rfl⟩ := hsh
  refine h A2 c2 w' ⟨by rw [List.map_append, ← strCells_nats]; exact h1, fun y hy => ?_⟩ ((Below.refl _ _).grown h2 hbase (fun k hk => (hown.1.lt k hk).1)) h2
  exact (List.mem_append.1 hy).elim (hown.2 y) (nats_lt z y)

theorem run_loadCells_0 (w : World) (a : Addr) : (loadCells a 0).run P w = .ok #[] w := by simp [loadCells, loadCellsFrom]
/-- string(b) -/
theorem run_str_of_bytes {w : World} {B : Nat} {A : Option Addr} {n c : Nat} {l : List Nat} (h : Bytes w B A n l) {src dst e : TypeId} (hs : P.underlying src = some (.slice e)) (he : P.underlying e = some (.int .u8)) (hd : P.underlying dst = some .string) :
    (convert src dst (.slice A n c)).run P w = .ok (.string (strOf l)) w := by
  rcases Nat.eq_zero_or_pos n with h0 | h0
  · subst h0
    have hl : l = [] := List.eq_nil_of_length_eq_zero h.1
    subst hl
    cases A with
    | none => exact run_convert_bytes_nil w src e hs he 0 c dst hd
    | some a =>
      rw [run_convert_bytes_string w src dst e _ 0 c hs he hd, run_bytesToString w a 0 c [] (run_loadCells_0 w a)]
      rfl
  · obtain ⟨b, o, rfl, _, hc⟩ := h.2.2 h0
    refine run_convert_bytes_arg w src e hs he b o n c (l.map fun x : Nat => (x : Int)) (by rw [List.length_map, h.1]) (fun i hi => ?_) dst hd
    rw [hc i hi]
    unfold byteAt
    simp [List.getD_eq_getElem?_getD, List.getElem?_eq_getElem (show i < l.length by rw [h.1]; exact hi)]
end
/-- []byte(s): the bytes of a new block -/
theorem bytesWorld_bytes (w : World) (e : TypeId) (s : ByteArray) : Bytes (Lib.bytesWorld w e s) (w.heap.size + 1) (some ⟨w.heap.size, 0, none⟩) s.size (nats s) := by
  refine ⟨nats_length s, nats_lt s, fun _ => ⟨w.heap.size, 0, rfl, by omega, fun i hi => ?_⟩⟩
  rw [Nat.zero_add, Lib.bytesWorld_cell w e s i hi]
  unfold byteAt nats
  have : i < s.data.toList.length := by rw [Array.length_toList]; exact hi
  simp only [List.getD_eq_getElem?_getD, List.getElem?_map, List.getElem?_eq_getElem this, Option.getD_some, Option.map_some]
theorem bytesWorld_grown (w : World) (e : TypeId) (s : ByteArray) (row : Option Nat) : w.grownBy (Lib.bytesWorld w e s) row :=
  ⟨rfl, rfl, rfl, by rw [Lib.bytesWorld_size]; omega, fun k hk _ => Lib.bytesWorld_at_old w e s k hk⟩
theorem grownBy_trans {a w w' : World} {row : Option Nat} (h : a.grownBy w row) (k : w.grownBy w' row) : a.grownBy w' row :=
  ⟨k.os.trans h.os, k.tape.trans h.tape, k.output.trans h.output, Nat.le_trans h.size k.size, fun j hj hr => (k.block j (Nat.lt_of_lt_of_le hj h.size) hr).trans (h.block j hj hr)⟩
end Go.Proofs.Ytkalnaidccgbiaa
