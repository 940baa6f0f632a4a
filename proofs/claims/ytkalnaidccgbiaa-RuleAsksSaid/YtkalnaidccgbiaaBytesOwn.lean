/-
  Slices of bytes of a call's own: append of any bytes behind them, a store into them, as steps of a walk. They speak of any program.
-/
import Derived.Test.YtkalnaidccgbiaaBytes
import Derived.Laws.MakeOwn
import Derived.OwnWalk
import Derived.Maps.AppendAt
namespace Go.Proofs.Ytkalnaidccgbiaa
set_option linter.unusedVariables false
set_option linter.unusedSimpArgs false
open Go.RowKit

/-- the walk stands still at a goal that is heldB -/
theorem holdB {p : Prop} (h : Hid p) : p := h
theorem heldB {p : Prop} (h : p) : Hid p := h

/-- a byte as a cell -/
def bv (x : Nat) : Value := .int .u8 (x : Int)
theorem bv_one (l : List Nat) : ∀ u ∈ l.map bv, u.oneCell' = true := by
  intro u hu
  obtain ⟨x, _, rfl⟩ := List.mem_map.1 hu
  rfl

/-- the slice (A, n, c) is of one's own, from block base on, and holds the bytes l -/
def OwnB (w : World) (base : Nat) (e : TypeId) (A : Option Addr) (n c : Nat) (l : List Nat) : Prop :=
  w.ownsRow base e 1 (.slice A n c) n (l.map bv) ∧ ∀ x ∈ l, x < 256

section
variable {w w' : World} {base n c : Nat} {e : TypeId} {A : Option Addr} {l : List Nat}
theorem OwnB.nil : OwnB w base e none 0 0 [] := ⟨⟨by simp, .inl ⟨rfl, rfl⟩⟩, by simp⟩
theorem OwnB.empty (w : World) (e : TypeId) : OwnB (w.alloc (.cells #[] e)) w.heap.size e (some ⟨w.heap.size, 0, none⟩) 0 0 [] :=
  ⟨⟨by simp, .inr ⟨w.heap.size, 0, #[], rfl, Nat.le_refl _, heap_alloc_new w _, Nat.le_refl _, by unfold maxLen; omega, by simp, by simp⟩⟩, by simp⟩
theorem OwnB.len (h : OwnB w base e A n c l) : l.length = n := by simpa using h.1.1
theorem OwnB.below (h : OwnB w base e A n c l) (hb : Below w.heap.size w w') : OwnB w' base e A n c l := by
  refine ⟨⟨h.1.1, ?_⟩, h.2⟩
  rcases h.1.2 with h0 | ⟨g, cap, cur, hv, hg, hh, r⟩
  · exact .inl h0
  · exact .inr ⟨g, cap, cur, hv, hg, (hb.block g (Array.getElem?_eq_some_iff.1 hh).1).trans hh, r⟩
theorem OwnB.base_le (h : OwnB w base e A n c l) {base' : Nat} (hb : base' ≤ base) : OwnB w base' e A n c l := by
  refine ⟨⟨h.1.1, ?_⟩, h.2⟩
  rcases h.1.2 with h0 | ⟨g, cap, cur, hv, hg, r⟩
  · exact .inl h0
  · exact .inr ⟨g, cap, cur, hv, Nat.le_trans hb hg, r⟩
theorem OwnB.cells (h : OwnB w base e A n c l) (hn : 0 < n) : ∃ g, A = some ⟨g, 0, none⟩ ∧ base ≤ g ∧ g < w.heap.size ∧ (∀ i, w.frozen? ⟨g, i, none⟩ = false) ∧ ∀ i, i < n → w.cell? ⟨g, i, none⟩ = some (.int .u8 ((byteAt l i : Nat) : Int)) := by
  have hlen := h.len
  rcases h.1.2 with ⟨_, h0⟩ | ⟨g, cap, cur, hv, hg, hh, hnc, hcm, hcs, htk⟩
  · omega
  · injection hv with hA _ hc
    subst hA
    refine ⟨g, rfl, hg, (Array.getElem?_eq_some_iff.1 hh).1, fun i => frozen_of_row w g i cur e hh, fun i hi => ?_⟩
    rw [cell_of_row w g i cur e (0, 0) hh]
    have : (cur.toList.take (n * 1))[i]? = (l.map bv)[i]? := by rw [htk]
    rw [List.getElem?_take, if_pos (by omega)] at this
    simp only [Array.getElem?_toList] at this
    rw [this, List.getElem?_map]
    unfold byteAt
    simp [List.getElem?_eq_getElem (show i < l.length by omega), bv]
theorem OwnB.bytes (h : OwnB w base e A n c l) : Bytes w w.heap.size A n l := by
  refine ⟨h.len, h.2, fun hn => ?_⟩
  obtain ⟨g, rfl, _, hl, _, hc⟩ := h.cells hn
  exact ⟨g, 0, rfl, hl, fun i hi => by rw [Nat.zero_add]; exact hc i hi⟩
theorem OwnB.cap (h : OwnB w base e A n c l) : n ≤ c ∧ c ≤ maxLen := by
  rcases h.1.2 with ⟨hv, h0⟩ | ⟨g, cap, cur, hv, hg, hh, hnc, hcm, hcs, htk⟩
  · injection hv with _ _ hc
    subst hc; subst h0
    exact ⟨Nat.le_refl _, by unfold maxLen; omega⟩
  · injection hv with _ _ hc
    subst hc
    exact ⟨hnc, hcm⟩
/-- a store at place i -/
theorem OwnB.put (h : OwnB w base e A n c l) {i : Nat} (_hi : i < n) (x : Nat) (hx : x < 256) {g : Nat} (hA : A = some ⟨g, 0, none⟩) : OwnB (w.setCell ⟨g, i, none⟩ (.int .u8 (x : Int))) base e A n c (l.set i x) := by
  subst hA
  have hlen := h.len
  refine ⟨⟨by simp [hlen], ?_⟩, fun y hy => ?_⟩
  · rcases h.1.2 with ⟨hv, _⟩ | ⟨g', cap, cur, hv, hg, hh, hnc, hcm, hcs, htk⟩
    · cases hv
    · injection hv with hA _ hc
      injection hA with hA
      injection hA with hA
      subst hA; subst hc
      refine .inr ⟨g, c, cur.setIfInBounds i (.int .u8 (x : Int)), rfl, hg, ?_, hnc, hcm, by simpa using hcs, ?_⟩
      · exact heap_setCell_same w g i cur e _ hh
      · rw [Array.toList_setIfInBounds, List.take_set, htk, List.map_set]
        rfl
  · rcases List.mem_or_eq_of_mem_set hy with hy | rfl
    · exact h.2 y hy
    · exact hx
end

section
variable {P : Program}
theorem run_append_bytes {w : World} {base : Nat} {e : TypeId} {A : Option Addr} {n c : Nat} {l : List Nat} (ho : OwnB w base e A n c l) (t ty : TypeId) (ht : P.underlying t = some (.slice e))
    (he : (P.info? e).map (fun i => (i.zero, i.size, i.bytes)) = some (some (.int .u8 0), 1, 1)) {B : Nat} {A' : Option Addr} {m c' : Nat} {l' : List Nat} (hb : Bytes w B A' m l') (hnm : n + m ≤ 1000000000) (hbase : base ≤ w.heap.size) :
    ∃ A2 c2 w', (Builtin.append_ #[t, t] ty #[.slice A n c, .slice A' m c']).run P w = .ok (.slice A2 (n + m) c2) w' ∧ OwnB w' base e A2 (n + m) c2 (l ++ l') ∧ Below base w w' ∧ w.grownBy w' (Value.slice A n c).ownBlock := by
  obtain ⟨i, hi, hz, hs, hby⟩ := info_parts he
  have hall : ∀ x ∈ l ++ l', x < 256 := fun x hx => (List.mem_append.1 hx).elim (ho.2 x) (hb.2.1 x)
  cases A' with
  | none =>
    have hm : m = 0 := by
      rcases Nat.eq_zero_or_pos m with h | h
      · exact h
      · obtain ⟨b, o, h', _⟩ := hb.2.2 h; cases h'
    subst hm
    have hl' : l' = [] := List.eq_nil_of_length_eq_zero hb.1
    subst hl'
    refine ⟨A, c, w, ?_, by simpa using ho, Below.refl _ _, World.grownBy.refl w _⟩
    have hc := ho.cap.1
    cases A with
    | none => 
      rcases ho.1.2 with ⟨hv, h0⟩ | ⟨g, cap, cur, hv, _⟩
      · injection hv with _ _ hc
        subst hc; subst h0
        simp [Builtin.append_, run_underlying ht, sizeOf, typeInfo, hi, Builtin.lenOf, Builtin.firstCells]
      · cases hv
    | some a => simp [Builtin.append_, run_underlying ht, sizeOf, typeInfo, hi, Builtin.lenOf, Builtin.firstCells, hc, storeCells]
  | some ad =>
    have hnews : ∀ (j : Nat) (u : Value), (l'.map bv)[j]? = some u → w.cell? (ad.add j) = some u := by
      intro j u hu
      rw [List.getElem?_map] at hu
      have hj : j < l'.length := by
        rcases Nat.lt_or_ge j l'.length with h | h
        · exact h
        · rw [List.getElem?_eq_none h] at hu; cases hu
      rw [List.getElem?_eq_getElem hj] at hu
      injection hu with hu
      subst hu
      obtain ⟨b, o, h', _, hc⟩ := hb.2.2 (by rw [← hb.1]; omega)
      injection h' with h'
      subst h'
      rw [Addr.add_mid, hc j (by rw [← hb.1]; exact hj)]
      unfold byteAt bv
      simp [List.getElem?_eq_getElem hj]
    obtain ⟨v', w', hrun, h1, h2, _, _⟩ := run_append_own_at (P := P) w base t ty e i (.int .u8 0) 1 1 ht hi hz hs hby rfl (by omega) (.slice A n c) n (l.map bv) ho.1 ad m c' (l'.map bv) (by simp [hb.1]) hnews (bv_one _) (by unfold maxLen; omega) (by omega) hbase
    have hsh : ∃ A2 c2, v' = .slice A2 (n + m) c2 := by
      rcases h1.2 with ⟨rfl, h0⟩ | ⟨g, cap, cur, rfl, _⟩
      · rw [h0]; exact ⟨_, _, rfl⟩
      · exact ⟨_, _, rfl⟩
    obtain ⟨A2, c2, rfl⟩ := hsh
    refine ⟨A2, c2, w', hrun, ⟨by rw [List.map_append]; exact h1, hall⟩, (Below.refl _ _).grown h2 hbase (fun k hk => ?_), h2⟩
    exact (ho.1.lt k hk).1

theorem wpList_append_bytes {ops : Array Oper} {rest : List Oper} {o : Oper} {a : Act} {w : World} {Q : Exit → Act → World → Prop} (hgd : o.guard = none) (s x : Operand) (t : TypeId)
    (ho : o.op = .call { callee := .builtin .append, args := #[s, x], argTypes := #[t, t] }) {e : TypeId} (ht : P.underlying t = some (.slice e))
    (he : (P.info? e).map (fun i => (i.zero, i.size, i.bytes)) = some (some (.int .u8 0), 1, 1))
    (base : Nat) (A : Option Addr) (n c : Nat) (l : List Nat) (hs : a.eval s = .slice A n c) (hown : OwnB w base e A n c l)
    (B : Nat) (A' : Option Addr) (m c' : Nat) (l' : List Nat) (hx : a.eval x = .slice A' m c') (hb : Bytes w B A' m l') (hnm : n + m ≤ 1000000000) (hbase : base ≤ w.heap.size)
    (h : ∀ A2 c2 w', OwnB w' base e A2 (n + m) c2 (l ++ l') → Below base w w' → w.grownBy w' (Value.slice A n c).ownBlock → wpList P ops Q rest (a.put o.dst (.slice A2 (n + m) c2)) w') : wpList P ops Q (o :: rest) a w :=
  wpList_plain hgd fun _ hK => by
    obtain ⟨A2, c2, w', hrun, h2, h3, h4⟩ := run_append_bytes (P := P) hown t o.type ht he (c' := c') hb hnm hbase
    unfold Oper.wp execOp
    simp only [ho, resolve, invoke, builtin, Sem.run_bind, Sem.run_pure, Result.andThen_ok, List.map_toArray, List.map_cons, List.map_nil, hs, hx, hrun]
    exact hK _ _ (h A2 c2 w' h2 h3 h4)
end
end Go.Proofs.Ytkalnaidccgbiaa
