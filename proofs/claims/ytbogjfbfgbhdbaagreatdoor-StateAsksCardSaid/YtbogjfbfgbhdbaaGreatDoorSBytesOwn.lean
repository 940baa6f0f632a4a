/-
  A part of the proof: see the last text.
-/
import Derived.Test.YtbogjfbfgbhdbaaGreatDoorSEventMath
import Derived.Laws.MakeOwn
import Derived.OwnWalk
import Derived.Maps.AppendAt
import Derived.ProofKit
import Derived.OpenShut
import Derived.ShutString
import Derived.ChangeOld
import Derived.Deep.Slices
import Derived.SizedLaws
import Derived.Test.YtbogjfbfgbhdbaaGreatDoorSPackMath
import Derived.Lib.AppendStr
import Derived.Lib.ConvBytes
import Derived.Deep.MidRow
import Derived.Test.YtbogjfbfgbhdbaaGreatDoorChecked
import Derived.Lib.IndexBytes
import Derived.IntWalk
import Derived.BigQuiet
import Derived.Test.YtbogjfbfgbhdbaaGreatDoorSUidsMath
namespace Go.Proofs.YtbogjfbfgbhdbaaGreatDoor
set_option linter.unusedVariables false
set_option linter.unusedSimpArgs false
open Go.RowKit
theorem heldB {p : Prop} (h : p) : Hid p := h
def bv (x : Nat) : Value := .int .u8 (x : Int)
theorem bv_one (l : List Nat) : ∀ u ∈ l.map bv, u.oneCell' = true := by
  intro u hu
  obtain ⟨x, _, rfl⟩ := List.mem_map.1 hu
  rfl
def OwnB (w : World) (base : Nat) (e : TypeId) (A : Option Addr) (n c : Nat) (l : List Nat) : Prop :=
  w.ownsRow base e 1 (.slice A n c) n (l.map bv) ∧ ∀ x ∈ l, x < 256
section
variable {w w' : World} {base n c : Nat} {e : TypeId} {A : Option Addr} {l : List Nat}
theorem OwnB.nil : OwnB w base e none 0 0 [] := ⟨⟨by simp, .inl ⟨rfl, rfl⟩⟩, by simp⟩
theorem OwnB.empty (w : World) (e : TypeId) : OwnB (w.alloc (.cells #[] e)) w.heap.size e (some ⟨w.heap.size, 0, none⟩) 0 0 [] :=
  ⟨⟨by simp, .inr ⟨w.heap.size, 0, #[], rfl, Nat.le_refl _, heap_alloc_new w _, Nat.le_refl _, by unfold maxLen; omega, by simp, by simp⟩⟩, by simp⟩
theorem OwnB.len (h : OwnB w base e A n c l) : l.length = n := by simpa using h.1.1
theorem OwnB.below (h : OwnB w base e A n c l) (hb : Below w.heap.size w w') : OwnB w' base e A n c l := by
  refine ⟨⟨h.1.1, ?_⟩, h.2⟩
  rcases h.1.2 with h0 | ⟨g, cap, cur, hv, hg, hh, r⟩
  · exact .inl h0
  · exact .inr ⟨g, cap, cur, hv, hg, (hb.block g (Array.getElem?_eq_some_iff.1 hh).1).trans hh, r⟩
theorem OwnB.base_le (h : OwnB w base e A n c l) {base' : Nat} (hb : base' ≤ base) : OwnB w base' e A n c l := by
  refine ⟨⟨h.1.1, ?_⟩, h.2⟩
  rcases h.1.2 with h0 | ⟨g, cap, cur, hv, hg, r⟩
  · exact .inl h0
  · exact .inr ⟨g, cap, cur, hv, Nat.le_trans hb hg, r⟩
theorem OwnB.cells (h : OwnB w base e A n c l) (hn : 0 < n) : ∃ g, A = some ⟨g, 0, none⟩ ∧ base ≤ g ∧ g < w.heap.size ∧ (∀ i, w.frozen? ⟨g, i, none⟩ = false) ∧ ∀ i, i < n → w.cell? ⟨g, i, none⟩ = some (.int .u8 ((byteAt l i : Nat) : Int)) := by
  have hlen := h.len
  rcases h.1.2 with ⟨_, h0⟩ | ⟨g, cap, cur, hv, hg, hh, hnc, hcm, hcs, htk⟩
  · omega
  · injection hv with hA _ hc
    subst hA
    refine ⟨g, rfl, hg, (Array.getElem?_eq_some_iff.1 hh).1, fun i => frozen_of_row w g i cur e hh, fun i hi => ?_⟩
    rw [cell_of_row w g i cur e (0, 0) hh]
    have : (cur.toList.take (n * 1))[i]? = (l.map bv)[i]? := by rw [htk]
    rw [List.getElem?_take, if_pos (by omega)] at this
    simp only [Array.getElem?_toList] at this
    rw [this, List.getElem?_map]
    unfold byteAt
    simp [List.getElem?_eq_getElem (show i < l.length by omega), bv]
theorem OwnB.bytes (h : OwnB w base e A n c l) : Bytes w w.heap.size A n l := by
  refine ⟨h.len, h.2, fun hn => ?_⟩
  obtain ⟨g, rfl, _, hl, _, hc⟩ := h.cells hn
  exact ⟨g, 0, rfl, hl, fun i hi => by rw [Nat.zero_add]; exact hc i hi⟩
theorem OwnB.cap (h : OwnB w base e A n c l) : n ≤ c ∧ c ≤ maxLen := by
  rcases h.1.2 with ⟨hv, h0⟩ | ⟨g, cap, cur, hv, hg, hh, hnc, hcm, hcs, htk⟩
  · injection hv with _ _ hc
    subst hc; subst h0
    exact ⟨Nat.le_refl _, by unfold maxLen; omega⟩
  · injection hv with _ _ hc
    subst hc
    exact ⟨hnc, hcm⟩
theorem OwnB.put (h : OwnB w base e A n c l) {i : Nat} (_hi : i < n) (x : Nat) (hx : x < 256) {g : Nat} (hA : A = some ⟨g, 0, none⟩) : OwnB (w.setCell ⟨g, i, none⟩ (.int .u8 (x : Int))) base e A n c (l.set i x) := by
  subst hA
  have hlen := h.len
  refine ⟨⟨by simp [hlen], ?_⟩, fun y hy => ?_⟩
  · rcases h.1.2 with ⟨hv, _⟩ | ⟨g', cap, cur, hv, hg, hh, hnc, hcm, hcs, htk⟩
    · cases hv
    · injection hv with hA _ hc
      injection hA with hA
      injection hA with hA
      subst hA; subst hc
      refine .inr ⟨g, c, cur.setIfInBounds i (.int .u8 (x : Int)), rfl, hg, ?_, hnc, hcm, by simpa using hcs, ?_⟩
      · exact heap_setCell_same w g i cur e _ hh
      · rw [Array.toList_setIfInBounds, List.take_set, htk, List.map_set]
        rfl
  · rcases List.mem_or_eq_of_mem_set hy with hy | rfl
    · exact h.2 y hy
    · exact hx
end
section
variable {P : Program}
theorem run_append_bytes {w : World} {base : Nat} {e : TypeId} {A : Option Addr} {n c : Nat} {l : List Nat} (ho : OwnB w base e A n c l) (t ty : TypeId) (ht : P.underlying t = some (.slice e))
    (he : (P.info? e).map (fun i => (i.zero, i.size, i.bytes)) = some (some (.int .u8 0), 1, 1)) {B : Nat} {A' : Option Addr} {m c' : Nat} {l' : List Nat} (hb : Bytes w B A' m l') (hnm : n + m ≤ 1000000000) (hbase : base ≤ w.heap.size) :
    ∃ A2 c2 w', (Builtin.append_ #[t, t] ty #[.slice A n c, .slice A' m c']).run P w = .ok (.slice A2 (n + m) c2) w' ∧ OwnB w' base e A2 (n + m) c2 (l ++ l') ∧ Below base w w' ∧ w.grownBy w' (Value.slice A n c).ownBlock := by
  obtain ⟨i, hi, hz, hs, hby⟩ := info_parts he
  have hall : ∀ x ∈ l ++ l', x < 256 := fun x hx => (List.mem_append.1 hx).elim (ho.2 x) (hb.2.1 x)
  cases A' with
  | none =>
    have hm : m = 0 := by
      rcases Nat.eq_zero_or_pos m with h | h
      · exact h
      · obtain ⟨b, o, h', _⟩ := hb.2.2 h; cases h'
    subst hm
    have hl' : l' = [] := List.eq_nil_of_length_eq_zero hb.1
    subst hl'
    refine ⟨A, c, w, ?_, by simpa using ho, Below.refl _ _, World.grownBy.refl w _⟩
    have hc := ho.cap.1
    cases A with
    | none => 
      rcases ho.1.2 with ⟨hv, h0⟩ | ⟨g, cap, cur, hv, _⟩
      · injection hv with _ _ hc
        subst hc; subst h0
        simp [Builtin.append_, run_underlying ht, sizeOf, typeInfo, hi, Builtin.lenOf, Builtin.firstCells]
      · cases hv
    | some a => simp [Builtin.append_, run_underlying ht, sizeOf, typeInfo, hi, Builtin.lenOf, Builtin.firstCells, hc, storeCells]
  | some ad =>
    have hnews : ∀ (j : Nat) (u : Value), (l'.map bv)[j]? = some u → w.cell? (ad.add j) = some u := by
      intro j u hu
      rw [List.getElem?_map] at hu
      have hj : j < l'.length := by
        rcases Nat.lt_or_ge j l'.length with h | h
        · exact h
        · rw [List.getElem?_eq_none h] at hu; cases hu
      rw [List.getElem?_eq_getElem hj] at hu
      injection hu with hu
      subst hu
      obtain ⟨b, o, h', _, hc⟩ := hb.2.2 (by rw [← hb.1]; omega)
      injection h' with h'
      subst h'
      rw [Addr.add_mid, hc j (by rw [← hb.1]; exact hj)]
      unfold byteAt bv
      simp [List.getElem?_eq_getElem hj]
    obtain ⟨v', w', hrun, h1, h2, _, _⟩ := run_append_own_at (P := P) w base t ty e i (.int .u8 0) 1 1 ht hi hz hs hby rfl (by omega) (.slice A n c) n (l.map bv) ho.1 ad m c' (l'.map bv) (by simp [hb.1]) hnews (bv_one _) (by unfold maxLen; omega) (by omega) hbase
    have hsh : ∃ A2 c2, v' = .slice A2 (n + m) c2 := by
      rcases h1.2 with ⟨rfl, h0⟩ | ⟨g, cap, cur, rfl, _⟩
      · rw [h0]; exact ⟨_, _, rfl⟩
      · exact ⟨_, _, rfl⟩
    obtain ⟨A2, c2, rfl⟩ := hsh
    refine ⟨A2, c2, w', hrun, ⟨by rw [List.map_append]; exact h1, hall⟩, (Below.refl _ _).grown h2 hbase (fun k hk => ?_), h2⟩
    exact (ho.1.lt k hk).1
theorem wpList_append_bytes {ops : Array Oper} {rest : List Oper} {o : Oper} {a : Act} {w : World} {Q : Exit → Act → World → Prop} (hgd : o.guard = none) (s x : Operand) (t : TypeId)
    (ho : o.op = .call { callee := .builtin .append, args := #[s, x], argTypes := #[t, t] }) {e : TypeId} (ht : P.underlying t = some (.slice e))
    (he : (P.info? e).map (fun i => (i.zero, i.size, i.bytes)) = some (some (.int .u8 0), 1, 1))
    (base : Nat) (A : Option Addr) (n c : Nat) (l : List Nat) (hs : a.eval s = .slice A n c) (hown : OwnB w base e A n c l)
    (B : Nat) (A' : Option Addr) (m c' : Nat) (l' : List Nat) (hx : a.eval x = .slice A' m c') (hb : Bytes w B A' m l') (hnm : n + m ≤ 1000000000) (hbase : base ≤ w.heap.size)
    (h : ∀ A2 c2 w', OwnB w' base e A2 (n + m) c2 (l ++ l') → Below base w w' → w.grownBy w' (Value.slice A n c).ownBlock → wpList P ops Q rest (a.put o.dst (.slice A2 (n + m) c2)) w') : wpList P ops Q (o :: rest) a w :=
  wpList_plain hgd fun _ hK => by
    obtain ⟨A2, c2, w', hrun, h2, h3, h4⟩ := run_append_bytes (P := P) hown t o.type ht he (c' := c') hb hnm hbase
    unfold Oper.wp execOp
    simp only [ho, resolve, invoke, builtin, Sem.run_bind, Sem.run_pure, Result.andThen_ok, List.map_toArray, List.map_cons, List.map_nil, hs, hx, hrun]
    exact hK _ _ (h A2 c2 w' h2 h3 h4)
end
end Go.Proofs.YtbogjfbfgbhdbaaGreatDoor
namespace Go.Proofs.YtbogjfbfgbhdbaaGreatDoor
set_option linter.unusedVariables false
set_option linter.unusedSimpArgs false
open Go.RowKit
def OwnV (w : World) (base : Nat) (e : TypeId) (A : Option Addr) (n c : Nat) (vs : List Value) : Prop :=
  w.ownsRow base e 1 (.slice A n c) n vs
section
variable {w w' : World} {base n c : Nat} {e : TypeId} {A : Option Addr} {vs : List Value}
theorem OwnV.nil : OwnV w base e none 0 0 [] := ⟨by simp, .inl ⟨rfl, rfl⟩⟩
theorem OwnV.len (h : OwnV w base e A n c vs) : vs.length = n := by simpa using h.1
theorem OwnV.below (h : OwnV w base e A n c vs) (hb : Below w.heap.size w w') : OwnV w' base e A n c vs := by
  refine ⟨h.1, ?_⟩
  rcases h.2 with h0 | ⟨g, cap, cur, hv, hg, hh, r⟩
  · exact .inl h0
  · exact .inr ⟨g, cap, cur, hv, hg, (hb.block g (Array.getElem?_eq_some_iff.1 hh).1).trans hh, r⟩
theorem OwnV.alloc (h : OwnV w base e A n c vs) (o : Obj) : OwnV (w.alloc o) base e A n c vs := h.below ((Below.refl _ _).alloc (Nat.le_refl _) _)
theorem OwnV.cells (h : OwnV w base e A n c vs) (hn : 0 < n) : ∃ g, A = some ⟨g, 0, none⟩ ∧ base ≤ g ∧ g < w.heap.size ∧ ∀ i v, vs[i]? = some v → w.cell? ⟨g, i, none⟩ = some v := by
  have hlen := h.len
  rcases h.2 with ⟨_, h0⟩ | ⟨g, cap, cur, hv, hg, hh, hnc, hcm, hcs, htk⟩
  · omega
  · injection hv with hA _ hc
    subst hA
    refine ⟨g, rfl, hg, (Array.getElem?_eq_some_iff.1 hh).1, fun i v hi => ?_⟩
    have hil : i < vs.length := (List.getElem?_eq_some_iff.1 hi).1
    rw [cell_of_row w g i cur e (0, 0) hh]
    rw [← htk, List.getElem?_take, if_pos (by omega)] at hi
    simpa only [Array.getElem?_toList] using hi
end
section
variable {P : Program}
theorem wpList_append_one {ops : Array Oper} {rest : List Oper} {o : Oper} {a : Act} {w : World} {Q : Exit → Act → World → Prop} (hgd : o.guard = none) (s x : Operand) (t : TypeId)
    (ho : o.op = .call { callee := .builtin .append, args := #[s, x], argTypes := #[t, t] }) {e : TypeId} (ht : P.underlying t = some (.slice e)) {zv : Value} {by_ : Nat}
    (he : (P.info? e).map (fun i => (i.zero, i.size, i.bytes)) = some (some zv, 1, by_)) (hzc : zv.cells.size = 1) (hby : by_ ≤ 24)
    (base : Nat) (A : Option Addr) (n c : Nat) (vs : List Value) (hs : a.eval s = .slice A n c) (hown : OwnV w base e A n c vs)
    (b off : Nat) (v : Value) (hx : a.eval x = .slice (some ⟨b, off, none⟩) 1 1) (hc : w.cell? ⟨b, off, none⟩ = some v) (hv : v.oneCell' = true) (hn : n ≤ 1000000) (hbase : base ≤ w.heap.size)
    (h : ∀ A2 c2 w', OwnV w' base e A2 (n + 1) c2 (vs ++ [v]) → Below base w w' → wpList P ops Q rest (a.put o.dst (.slice A2 (n + 1) c2)) w') : wpList P ops Q (o :: rest) a w :=
  wpList_plain hgd fun _ hK => by
    obtain ⟨i, hi, hz, hs', hby'⟩ := info_parts he
    obtain ⟨v', w', hrun, h1, h2, _, _⟩ := run_append_own_at (P := P) w base t o.type e i zv 1 by_ ht hi hz hs' hby' hzc (by omega) (.slice A n c) n vs hown ⟨b, off, none⟩ 1 1 [v] rfl
      (fun j u hu => by
        cases j with
        | zero => simp at hu; subst hu; rw [Addr.add_mid, Nat.add_zero]; exact hc
        | succ j => simp at hu) (by simpa using hv) (by unfold maxLen; omega) (Nat.le_trans (Nat.mul_le_mul_left _ hby) (by omega)) hbase
    have hsh : ∃ A2 c2, v' = .slice A2 (n + 1) c2 := by
      rcases h1.2 with ⟨rfl, h0⟩ | ⟨g, cap, cur, rfl, _⟩
      · rw [h0]; exact ⟨_, _, rfl⟩
      · exact ⟨_, _, rfl⟩
    obtain ⟨A2, c2, rfl⟩ := hsh
    unfold Oper.wp execOp
    simp only [ho, resolve, invoke, builtin, Sem.run_bind, Sem.run_pure, Result.andThen_ok, List.map_toArray, List.map_cons, List.map_nil, hs, hx, hrun]
    exact hK _ _ (h A2 c2 w' h1 ((Below.refl _ _).grown h2 hbase (fun k hk => (hown.lt k hk).1)))
end
end Go.Proofs.YtbogjfbfgbhdbaaGreatDoor
namespace Go.Proofs.YtbogjfbfgbhdbaaGreatDoor
set_option linter.unusedVariables false
set_option linter.unusedSimpArgs false
open Go.ChangeShapes Go.WideShapes Go.ChangeAt Go.RowKit Go.Deep
structure RowRel (α : Type) where
  k : Nat
  R : World → Nat → List Value → α → Prop
  len : ∀ {w : World} {B : Nat} {cs : List Value} {a : α}, R w B cs a → cs.length = k
  keep : ∀ {w w' : World} {B : Nat} {cs : List Value} {a : α}, R w B cs a → (∀ p : Addr, p.block < B → w'.cell? p = w.cell? p) → R w' B cs a
  more : ∀ {w : World} {B B' : Nat} {cs : List Value} {a : α}, R w B cs a → B ≤ B' → R w B' cs a
namespace RowRel
variable {α β : Type}
theorem below (r : RowRel α) {w w' : World} {B B' : Nat} {cs : List Value} {a : α} (h : r.R w B cs a) (hb : Below B' w w') (hB : B ≤ B') : r.R w' B cs a := r.keep h fun _ hp => hb.cell (by omega)
theorem later (r : RowRel α) {w w' : World} {cs : List Value} {a : α} (h : r.R w w.heap.size cs a) (hb : Below w.heap.size w w') : r.R w' w'.heap.size cs a := r.more (r.below h hb (Nat.le_refl _)) hb.size
def int (k : IntKind) : RowRel Int where
  k := 1
  R := fun _ _ cs a => cs = [.int k a] ∧ (Lit.int k a).wf = true
  len := fun h => by rw [h.1]; rfl
  keep := fun h _ => h
  more := fun h _ => h
def byte : RowRel Nat where
  k := 1
  R := fun _ _ cs a => cs = [.int .u8 (a : Int)] ∧ a < 256
  len := fun h => by rw [h.1]; rfl
  keep := fun h _ => h
  more := fun h _ => h
def bool : RowRel Bool where
  k := 1
  R := fun _ _ cs a => cs = [.bool a]
  len := fun h => by rw [h]; rfl
  keep := fun h _ => h
  more := fun h _ => h
def str : RowRel ByteArray where
  k := 1
  R := fun _ _ cs a => cs = [.string a] ∧ a.size ≤ 140737488355328
  len := fun h => by rw [h.1]; rfl
  keep := fun h _ => h
  more := fun h _ => h
def rows (r : RowRel α) (w : World) (B b o : Nat) (l : List α) : Prop := ∀ i a, l[i]? = some a → ∃ cs, w.rangeAt b (o + i * r.k) cs ∧ r.R w B cs a
def slice (r : RowRel α) : RowRel (List α) where
  k := 1
  R := fun w B cs l => ∃ A n c, cs = [.slice A n c] ∧ n ≤ c ∧ c ≤ maxLen ∧ n ≤ 140737488355328 ∧ l.length = n ∧ (0 < n → ∃ b o, A = some ⟨b, o, none⟩ ∧ b < B ∧ r.rows w B b o l)
  len := fun h => by obtain ⟨A, n, c, rfl, _⟩ := h; rfl
  keep := fun h hk => by
    obtain ⟨A, n, c, e, h1, h2, h3, h4, h5⟩ := h
    refine ⟨A, n, c, e, h1, h2, h3, h4, fun hn => ?_⟩
    obtain ⟨b, o, e, hb, hr⟩ := h5 hn
    refine ⟨b, o, e, hb, fun i a ha => ?_⟩
    obtain ⟨cs, hc, hR⟩ := hr i a ha
    exact ⟨cs, fun j v hv => (hk _ hb).trans (hc j v hv), r.keep hR hk⟩
  more := fun h hB => by
    obtain ⟨A, n, c, e, h1, h2, h3, h4, h5⟩ := h
    refine ⟨A, n, c, e, h1, h2, h3, h4, fun hn => ?_⟩
    obtain ⟨b, o, e, hb, hr⟩ := h5 hn
    refine ⟨b, o, e, by omega, fun i a ha => ?_⟩
    obtain ⟨cs, hc, hR⟩ := hr i a ha
    exact ⟨cs, hc, r.more hR hB⟩
def bytes : RowRel (List Nat) where
  k := 1
  R := fun w B cs l => ∃ A n c, cs = [.slice A n c] ∧ n ≤ c ∧ c ≤ maxLen ∧ n ≤ 140737488355328 ∧ Bytes w B A n l
  len := fun h => by obtain ⟨A, n, c, rfl, _⟩ := h; rfl
  keep := fun h hk => by
    obtain ⟨A, n, c, e, h1, h2, h3, h4⟩ := h
    exact ⟨A, n, c, e, h1, h2, h3, h4.keep hk⟩
  more := fun h hB => by
    obtain ⟨A, n, c, e, h1, h2, h3, h4⟩ := h
    exact ⟨A, n, c, e, h1, h2, h3, h4.more hB⟩
theorem bytes_of_slice {w : World} {B : Nat} {cs : List Value} {l : List Nat} (h : byte.slice.R w B cs l) : bytes.R w B cs l := by
  obtain ⟨A, n, c, e, h1, h2, h3, h4, h5⟩ := h
  refine ⟨A, n, c, e, h1, h2, h3, h4, ?_, fun hn => ?_⟩
  · intro x hx
    obtain ⟨i, hi, rfl⟩ := List.mem_iff_getElem.1 hx
    obtain ⟨b, o, _, _, hr⟩ := h5 (by omega)
    obtain ⟨cs, _, _, hlt⟩ := hr i _ (List.getElem?_eq_getElem hi)
    exact hlt
  · obtain ⟨b, o, e, hb, hr⟩ := h5 hn
    refine ⟨b, o, e, hb, fun i hi => ?_⟩
    obtain ⟨cs, hc, rfl, hlt⟩ := hr i l[i] (List.getElem?_eq_getElem (by omega))
    have := hc 0 _ rfl
    rw [Nat.add_zero, show i * byte.k = i from Nat.mul_one i] at this
    rw [this]
    unfold byteAt
    simp [List.getElem?_eq_getElem (show i < l.length by omega)]
end RowRel
section
variable {P : Program}
def Opens {α : Type} (P : Program) (t : TypeId) (r : RowRel α) : Prop :=
  P.cellsOf t = r.k ∧ ∀ (H : Type) (enc : TypeId × Value → H) (w : World) (base : Nat) (heldB : Bool) (fuel : Nat) (cs : List Value) (x : DataW H × List MemPlace),
    DataW.trod enc P w base (fun _ => true) heldB fuel t cs = some x → (x.1.weights P t).all (· ≤ reachBytes) = true → ∃ a, r.R w w.heap.size cs a
theorem opens_int {t : TypeId} {k : IntKind} (ht : P.underlying t = some (.int k)) (hc : P.cellsOf t = 1) : Opens P t (RowRel.int k) :=
  ⟨hc, fun H enc w base heldB fuel cs x h _ => by
    obtain ⟨n, h1, _, h2⟩ := DataW.trod_int ht h
    exact ⟨n, h1, h2⟩⟩
theorem opens_byte {t : TypeId} (ht : P.underlying t = some (.int .u8)) (hc : P.cellsOf t = 1) : Opens P t RowRel.byte :=
  ⟨hc, fun H enc w base heldB fuel cs x h _ => by
    obtain ⟨n, h1, _, h2⟩ := DataW.trod_int ht h
    obtain ⟨b0, b1⟩ := bounds_u8 h2
    obtain ⟨k, rfl⟩ := Int.eq_ofNat_of_zero_le b0
    exact ⟨k, h1, by omega⟩⟩
theorem opens_str {t : TypeId} (ht : P.underlying t = some .string) (hc : P.cellsOf t = 1) : Opens P t RowRel.str :=
  ⟨hc, fun H enc w base heldB fuel cs x h hz => by
    obtain ⟨s, h1, h2, _⟩ := DataW.trod_string ht h
    subst h2
    have hz' : s.data.toList.length ≤ reachBytes := by simpa [DataW.weights] using hz
    have e : s.size = s.data.toList.length := (Array.length_toList (xs := s.data)).symm
    rw [← e] at hz'
    unfold reachBytes at hz'
    exact ⟨s, h1, by omega⟩⟩
theorem weightsAll_mem {H : Type} {P : Program} {e : TypeId} : ∀ {l : List (DataW H)} {d : DataW H}, d ∈ l → ∀ n ∈ d.weights P e, n ∈ DataW.weightsAll P e l
  | d' :: r, d, hd, n, hn => by
    simp only [DataW.weightsAll, List.mem_append]
    rcases List.mem_cons.1 hd with rfl | h
    · exact Or.inl hn
    · exact Or.inr (weightsAll_mem h n hn)
theorem list_of_all {α : Type} {p : Nat → α → Prop} (n : Nat) (h : ∀ i, i < n → ∃ a, p i a) : ∃ l : List α, l.length = n ∧ ∀ i a, l[i]? = some a → p i a := by
  induction n with
  | zero => exact ⟨[], rfl, fun i a h => by simp at h⟩
  | succ n ih =>
    obtain ⟨l, h1, h2⟩ := ih (fun i hi => h i (by omega))
    obtain ⟨y, h3⟩ := h n (by omega)
    refine ⟨l ++ [y], by simp [h1], fun i a ha => ?_⟩
    by_cases hin : i < l.length
    · rw [List.getElem?_append_left hin] at ha
      exact h2 i a ha
    · have hi : i < (l ++ [y]).length := (List.getElem?_eq_some_iff.1 ha).1
      have : i = n := by simp at hi; omega
      subst this
      rw [List.getElem?_append_right (by omega), h1] at ha
      simp at ha
      exact ha ▸ h3
theorem opens_slice {α : Type} {r : RowRel α} {t e : TypeId} (ht : P.underlying t = some (.slice e)) (hc : P.cellsOf t = 1) (hk : 0 < r.k) (hb : 0 < P.bytesOf e) (he : Opens P e r) : Opens P t r.slice := by
  refine ⟨hc, fun H enc w base heldB fuel cs x h hz => ?_⟩
  rcases open_slice ht h with ⟨rfl, _⟩ | ⟨a, len, cap, m, n, D, Pl, rfl, _, hl, hm, hmm, rfl, hx⟩
  · exact ⟨[], none, 0, 0, rfl, Nat.le_refl _, by unfold maxLen; omega, by omega, rfl, fun h => absurd h (by omega)⟩
  · simp only [if_true] at hmm
    subst hmm
    have hw : ∀ y ∈ DataW.weights P t (.slice ((List.range len).map D) ((List.range (m - len)).map fun j => D (len + j))), y ≤ reachBytes := by simpa using hz
    have hlen : len ≤ 140737488355328 := by
      have := hw _ (by simp only [DataW.weights, ht]; exact List.mem_cons_self)
      simp only [List.length_map, List.length_range, reachBytes] at this
      have h2 : len * 1 ≤ (len + (m - len)) * P.bytesOf e := Nat.mul_le_mul (by omega) hb
      omega
    have hall : ∀ i, i < len → ∃ a', ∃ cs', (cs'.length = r.k ∧ ∀ j, j < r.k → w.cell? (a.add (i * r.k + j)) = cs'[j]?) ∧ r.R w w.heap.size cs' a' := by
      intro i hi
      obtain ⟨cs', h1, h2⟩ := hx i (by omega)
      have hwi : ((D i).weights P e).all (· ≤ reachBytes) = true := by
        rw [List.all_eq_true]
        intro y hy
        refine decide_eq_true (hw y ?_)
        simp only [DataW.weights, ht, List.mem_cons, List.mem_append]
        exact .inr (.inl (weightsAll_mem (List.mem_map.2 ⟨i, List.mem_range.2 hi, rfl⟩) y hy))
      obtain ⟨a', hR⟩ := he.2 H enc w base heldB n cs' _ h2 hwi
      rw [he.1] at h1
      obtain ⟨_, h3, h4⟩ := World.cells?_some h1
      exact ⟨a', cs', ⟨h3, fun j hj => by rw [← h4 j hj, Go.Deep.add_add]⟩, hR⟩
    obtain ⟨l, hll, hlr⟩ := list_of_all len hall
    refine ⟨l, some a, len, m, rfl, hl, hm, hlen, hll, fun hn => ?_⟩
    obtain ⟨cs0, ⟨h0l, h0⟩, _⟩ := hlr 0 _ (List.getElem?_eq_getElem (by omega))
    have h0 := h0 0 hk
    rw [List.getElem?_eq_getElem (by omega)] at h0
    obtain ⟨ab, ao, asp⟩ := a
    have hsp : asp = none := by simpa [Addr.add] using World.cell?_spot h0
    subst hsp
    refine ⟨ab, ao, rfl, block_lt_of_cell (a := ⟨ab, ao, none⟩) (by simpa [Addr.add] using h0), fun i y hy => ?_⟩
    obtain ⟨cs', ⟨h1, h2⟩, hR⟩ := hlr i y hy
    refine ⟨cs', fun j v hv => ?_, hR⟩
    have hj : j < r.k := by rw [← h1]; exact (List.getElem?_eq_some_iff.1 hv).1
    have := h2 j hj
    rw [Addr.add_mid] at this
    rw [Nat.add_assoc, this, hv]
theorem opens_bytes {t e : TypeId} (ht : P.underlying t = some (.slice e)) (he : P.underlying e = some (.int .u8)) (hc : P.cellsOf t = 1) (hce : P.cellsOf e = 1) (hb : 0 < P.bytesOf e) : Opens P t RowRel.bytes :=
  ⟨hc, fun H enc w base heldB fuel cs x h hz => by
    obtain ⟨a, ha⟩ := (opens_slice ht hc (by decide) hb (opens_byte he hce)).2 H enc w base heldB fuel cs x h hz
    exact ⟨a, RowRel.bytes_of_slice ha⟩⟩
theorem Opens.arg {α : Type} {t : TypeId} {r : RowRel α} (h : Opens P t r) {H : Type} {enc : TypeId × Value → H} {w : World} {base : Nat} {heldB : Bool} {v : Value} {d : DataW H} {p : List MemPlace}
    (hd : DataW.Trod enc P w base (fun _ => true) heldB t v d p) (hz : (d.weights P t).all (· ≤ reachBytes) = true) : ∃ a, r.R w w.heap.size v.cells.toList a := by
  obtain ⟨fuel, hf⟩ := hd
  exact h.2 H enc w base heldB fuel _ _ hf hz
end
end Go.Proofs.YtbogjfbfgbhdbaaGreatDoor
namespace Go.Proofs.YtbogjfbfgbhdbaaGreatDoor
set_option linter.unusedVariables false
set_option linter.unusedSimpArgs false
open Go.RowKit
def Col {α : Type} (f : α → Value) (w : World) (B : Nat) (A : Option Addr) (n : Nat) (l : List α) : Prop :=
  l.length = n ∧ (0 < n → ∃ b o, A = some ⟨b, o, none⟩ ∧ b < B ∧ ∀ i a, l[i]? = some a → w.cell? ⟨b, o + i, none⟩ = some (f a))
section
variable {α : Type} {f : α → Value} {w w' : World} {B B' n : Nat} {A : Option Addr} {l : List α}
theorem Col.nil : Col f w B A 0 [] := ⟨rfl, fun h => absurd h (Nat.lt_irrefl _)⟩
theorem Col.keep (h : Col f w B A n l) (hk : ∀ p : Addr, p.block < B → w'.cell? p = w.cell? p) : Col f w' B A n l :=
  ⟨h.1, fun hn => by
    obtain ⟨b, o, e, hb, hc⟩ := h.2 hn
    exact ⟨b, o, e, hb, fun i a ha => (hk _ hb).trans (hc i a ha)⟩⟩
theorem Col.more (h : Col f w B A n l) (hB : B ≤ B') : Col f w B' A n l :=
  ⟨h.1, fun hn => by
    obtain ⟨b, o, e, hb, hc⟩ := h.2 hn
    exact ⟨b, o, e, by omega, hc⟩⟩
theorem Col.below (h : Col f w B A n l) (hb : Below B' w w') (hB : B ≤ B') : Col f w' B A n l := h.keep fun _ hp => hb.cell (by omega)
theorem Col.later (h : Col f w w.heap.size A n l) (hb : Below w.heap.size w w') : Col f w' w'.heap.size A n l := (h.below hb (Nat.le_refl _)).more hb.size
theorem Col.at_ {k : Nat} (h : Col f w B A n l) (hk : k < n) : ∃ b o a, A = some ⟨b, o, none⟩ ∧ b < B ∧ l[k]? = some a ∧ l.take (k + 1) = l.take k ++ [a] ∧ w.cell? ⟨b, o + k, none⟩ = some (f a) := by
  obtain ⟨b, o, e, hb, hc⟩ := h.2 (by omega)
  have hl : k < l.length := by rw [h.1]; exact hk
  exact ⟨b, o, l[k], e, hb, List.getElem?_eq_getElem hl, List.take_succ_eq_append_getElem hl, hc k _ (List.getElem?_eq_getElem hl)⟩
theorem Col.one (w : World) (f : α → Value) (a : α) (hf : (f a).oneCell' = true) (t : TypeId) :
    Col f (w.alloc (.cells #[f a] t)) (w.heap.size + 1) (some ⟨w.heap.size, 0, none⟩) 1 [a] := by
  refine ⟨rfl, fun _ => ⟨w.heap.size, 0, rfl, by omega, fun i x hx => ?_⟩⟩
  have hi : i < 1 := (List.getElem?_eq_some_iff.1 hx).1
  obtain rfl : i = 0 := by omega
  obtain rfl : a = x := by simpa using hx
  rw [cell_of_row _ _ _ _ _ _ (heap_alloc_new w _)]
  rfl
end
section
variable {P : Program}
theorem run_loadCells_0 (w : World) (a : Addr) : (loadCells a 0).run P w = .ok #[] w := by simp [loadCells, loadCellsFrom]
theorem run_str_of_bytes {w : World} {B : Nat} {A : Option Addr} {n c : Nat} {l : List Nat} (h : Bytes w B A n l) {src dst e : TypeId} (hs : P.underlying src = some (.slice e)) (he : P.underlying e = some (.int .u8)) (hd : P.underlying dst = some .string) :
    (convert src dst (.slice A n c)).run P w = .ok (.string (strOf l)) w := by
  rcases Nat.eq_zero_or_pos n with h0 | h0
  · subst h0
    have hl : l = [] := List.eq_nil_of_length_eq_zero h.1
    subst hl
    cases A with
    | none => exact run_convert_bytes_nil w src e hs he 0 c dst hd
    | some a =>
      rw [run_convert_bytes_string w src dst e _ 0 c hs he hd, run_bytesToString w a 0 c [] (run_loadCells_0 w a)]
      rfl
  · obtain ⟨b, o, rfl, _, hc⟩ := h.2.2 h0
    refine run_convert_bytes_arg w src e hs he b o n c (l.map fun x : Nat => (x : Int)) (by rw [List.length_map, h.1]) (fun i hi => ?_) dst hd
    rw [hc i hi]
    unfold byteAt
    simp [List.getD_eq_getElem?_getD, List.getElem?_eq_getElem (show i < l.length by rw [h.1]; exact hi)]
end
theorem grownBy_trans {a w w' : World} {row : Option Nat} (h : a.grownBy w row) (k : w.grownBy w' row) : a.grownBy w' row :=
  ⟨k.os.trans h.os, k.tape.trans h.tape, k.output.trans h.output, Nat.le_trans h.size k.size, fun j hj hr => (k.block j (Nat.lt_of_lt_of_le hj h.size) hr).trans (h.block j hj hr)⟩
end Go.Proofs.YtbogjfbfgbhdbaaGreatDoor
namespace Go.Proofs.YtbogjfbfgbhdbaaGreatDoor
set_option linter.unusedVariables false
set_option linter.unusedSimpArgs false
open Go.RowKit
def ColK {α : Type} (k : Nat) (f : α → List Value) (w : World) (B : Nat) (A : Option Addr) (n : Nat) (l : List α) : Prop :=
  l.length = n ∧ (0 < n → ∃ b o, A = some ⟨b, o, none⟩ ∧ b < B ∧ ∀ i a, l[i]? = some a → w.rangeAt b (o + i * k) (f a))
theorem rangeAtK_keep {w w' : World} {b o : Nat} {cs : List Value} (h : w.rangeAt b o cs) (hk : ∀ i, w'.cell? ⟨b, i, none⟩ = w.cell? ⟨b, i, none⟩) : w'.rangeAt b o cs := fun j v hv => by rw [hk]; exact h j v hv
section
variable {α : Type} {k : Nat} {f : α → List Value} {w w' : World} {B B' n : Nat} {A : Option Addr} {l : List α}
theorem ColK.nil : ColK k f w B A 0 [] := ⟨rfl, fun h => absurd h (by omega)⟩
theorem ColK.keep (h : ColK k f w B A n l) (hk : ∀ p : Addr, p.block < B → w'.cell? p = w.cell? p) : ColK k f w' B A n l := by
  refine ⟨h.1, fun hn => ?_⟩
  obtain ⟨b, o, rfl, hb, hc⟩ := h.2 hn
  exact ⟨b, o, rfl, hb, fun i a ha => rangeAtK_keep (hc i a ha) (fun j => hk ⟨b, j, none⟩ hb)⟩
theorem ColK.more (h : ColK k f w B A n l) (hB : B ≤ B') : ColK k f w B' A n l := by
  refine ⟨h.1, fun hn => ?_⟩
  obtain ⟨b, o, rfl, hb, hc⟩ := h.2 hn
  exact ⟨b, o, rfl, by omega, hc⟩
theorem ColK.below (h : ColK k f w B A n l) (hb : Below B' w w') (hB : B ≤ B') : ColK k f w' B A n l := h.keep fun p hp => hb.cell (p := p) (by omega)
theorem ColK.later (h : ColK k f w w.heap.size A n l) (hb : Below w.heap.size w w') : ColK k f w' w'.heap.size A n l := (h.below hb (Nat.le_refl _)).more hb.size
theorem ColK.at_ {j : Nat} (h : ColK k f w B A n l) (hj : j < n) : ∃ b o a, A = some ⟨b, o, none⟩ ∧ b < B ∧ l[j]? = some a ∧ l.take (j + 1) = l.take j ++ [a] ∧ w.rangeAt b (o + j * k) (f a) := by
  obtain ⟨b, o, rfl, hb, hc⟩ := h.2 (by omega)
  have hl : j < l.length := by rw [h.1]; exact hj
  refine ⟨b, o, l[j], rfl, hb, List.getElem?_eq_getElem hl, ?_, hc j _ (List.getElem?_eq_getElem hl)⟩
  rw [List.take_add_one, List.getElem?_eq_getElem hl]; rfl
end
def OwnK {α : Type} (k : Nat) (f : α → List Value) (w : World) (base : Nat) (e : TypeId) (A : Option Addr) (n c : Nat) (l : List α) : Prop :=
  w.ownsRow base e k (.slice A n c) n (l.flatMap f) ∧ l.length = n ∧ ∀ a, (f a).length = k
section
variable {α : Type} {k : Nat} {f : α → List Value} {w w' : World} {base n c : Nat} {e : TypeId} {A : Option Addr} {l : List α}
theorem flat_len (hk : ∀ a, (f a).length = k) (l : List α) : (l.flatMap f).length = l.length * k := by
  induction l with
  | nil => simp
  | cons a l ih => rw [List.flatMap_cons, List.length_append, ih, hk, List.length_cons, Nat.add_mul]; omega
theorem flat_get (hk : ∀ a, (f a).length = k) : ∀ (l : List α) (i : Nat) (a : α), l[i]? = some a → ∀ j v, (f a)[j]? = some v → (l.flatMap f)[i * k + j]? = some v
  | b :: l, 0, a, h, j, v, hv => by
    cases h
    have hj : j < (f b).length := (List.getElem?_eq_some_iff.1 hv).1
    rw [List.flatMap_cons, List.getElem?_append_left (by omega)]
    simpa using hv
  | b :: l, i + 1, a, h, j, v, hv => by
    rw [List.flatMap_cons, List.getElem?_append_right (by rw [hk, Nat.add_mul]; omega), hk, show (i + 1) * k + j - k = i * k + j by rw [Nat.add_mul]; omega]
    exact flat_get hk l i a h j v hv
theorem OwnK.nil (hk : ∀ a, (f a).length = k) : OwnK k f w base e none 0 0 [] := ⟨⟨by simp, .inl ⟨rfl, rfl⟩⟩, rfl, hk⟩
theorem OwnK.len (h : OwnK k f w base e A n c l) : l.length = n := h.2.1
theorem OwnK.below (h : OwnK k f w base e A n c l) (hb : Below w.heap.size w w') : OwnK k f w' base e A n c l := by
  refine ⟨⟨h.1.1, ?_⟩, h.2⟩
  rcases h.1.2 with h0 | ⟨g, cap, cur, hv, hg, hh, r⟩
  · exact .inl h0
  · exact .inr ⟨g, cap, cur, hv, hg, (hb.block g (Array.getElem?_eq_some_iff.1 hh).1).trans hh, r⟩
theorem OwnK.alloc (h : OwnK k f w base e A n c l) (o : Obj) : OwnK k f (w.alloc o) base e A n c l := h.below ((Below.refl _ _).alloc (Nat.le_refl _) _)
theorem OwnK.from_ {base' : Nat} (h : OwnK k f w base e A n c l) (hb : base' ≤ base) : OwnK k f w base' e A n c l := by
  refine ⟨⟨h.1.1, ?_⟩, h.2⟩
  rcases h.1.2 with h0 | ⟨g, cap, cur, hv, hg, r⟩
  · exact .inl h0
  · exact .inr ⟨g, cap, cur, hv, Nat.le_trans hb hg, r⟩
theorem OwnK.cap (h : OwnK k f w base e A n c l) : n ≤ c ∧ c ≤ maxLen := by
  rcases h.1.2 with ⟨hv, h0⟩ | ⟨g, cap, cur, hv, _, _, h1, h2, _⟩
  · injection hv with _ _ hc; subst hc; exact ⟨by omega, by unfold maxLen; omega⟩
  · injection hv with _ _ hc; subst hc; exact ⟨h1, h2⟩
theorem OwnK.block (h : OwnK k f w base e A n c l) (hn : 0 < n) : ∃ g cur, A = some ⟨g, 0, none⟩ ∧ base ≤ g ∧ w.heap[g]? = some (.cells cur e (0, 0)) ∧ cur.size = c * k ∧ cur.toList.take (n * k) = l.flatMap f := by
  rcases h.1.2 with ⟨_, h0⟩ | ⟨g, cap, cur, hv, hg, hh, h1, h2, h3, h4⟩
  · omega
  · injection hv with hA _ hc
    subst hA hc
    exact ⟨g, cur, rfl, hg, hh, h3, h4⟩
theorem OwnK.range (h : OwnK k f w base e A n c l) (hn : 0 < n) : ∃ g, A = some ⟨g, 0, none⟩ ∧ base ≤ g ∧ g < w.heap.size ∧ ∀ i a, l[i]? = some a → w.rangeAt g (i * k) (f a) := by
  obtain ⟨g, cur, rfl, hg, hh, hcs, htk⟩ := h.block hn
  refine ⟨g, rfl, hg, (Array.getElem?_eq_some_iff.1 hh).1, fun i a ha j v hv => ?_⟩
  have h1 := flat_get h.2.2 l i a ha j v hv
  have hi : i < l.length := (List.getElem?_eq_some_iff.1 ha).1
  have hj : j < k := by rw [← h.2.2 a]; exact (List.getElem?_eq_some_iff.1 hv).1
  rw [← htk, List.getElem?_take, if_pos (by
    have : (i + 1) * k ≤ n * k := Nat.mul_le_mul_right k (by rw [← h.len]; omega)
    rw [Nat.add_mul] at this; omega)] at h1
  rw [cell_of_row w g (i * k + j) cur e (0, 0) hh]
  simpa only [Array.getElem?_toList] using h1
theorem OwnK.col (h : OwnK k f w base e A n c l) : ColK k f w w.heap.size A n l := by
  refine ⟨h.len, fun hn => ?_⟩
  obtain ⟨g, rfl, _, hg, hr⟩ := h.range hn
  exact ⟨g, 0, rfl, hg, fun i a ha => by rw [Nat.zero_add]; exact hr i a ha⟩
end
section
variable {P : Program} {α : Type} {k : Nat} {f : α → List Value}
theorem wpList_append_k {ops : Array Oper} {rest : List Oper} {o : Oper} {a : Act} {w : World} {Q : Exit → Act → World → Prop} (hgd : o.guard = none) (s x : Operand) (t : TypeId)
    (ho : o.op = .call { callee := .builtin .append, args := #[s, x], argTypes := #[t, t] }) {e : TypeId} (ht : P.underlying t = some (.slice e)) {zv : Value} {by_ : Nat}
    (he : (P.info? e).map (fun i => (i.zero, i.size, i.bytes)) = some (some zv, k, by_)) (hzc : zv.cells.size = k) (hk0 : 0 < k) (hby : by_ ≤ 100)
    (base : Nat) (A : Option Addr) (n c : Nat) (l : List α) (hs : a.eval s = .slice A n c) (hown : OwnK k f w base e A n c l)
    (b off : Nat) (v : α) (hx : a.eval x = .slice (some ⟨b, off, none⟩) 1 1) (hc : w.rangeAt b off (f v)) (hv : ∀ u ∈ f v, u.oneCell' = true) (hn : n ≤ 1000000) (hbase : base ≤ w.heap.size)
    (h : ∀ A2 c2 w', OwnK k f w' base e A2 (n + 1) c2 (l ++ [v]) → Below base w w' → w.grownBy w' (Value.slice A n c).ownBlock → wpList P ops Q rest (a.put o.dst (.slice A2 (n + 1) c2)) w') : wpList P ops Q (o :: rest) a w :=
  wpList_plain hgd fun _ hK => by
    obtain ⟨i, hi, hz, hs', hby'⟩ := info_parts he
    obtain ⟨v', w', hrun, h1, h2, _, _⟩ := run_append_own_at (P := P) w base t o.type e i zv k by_ ht hi hz hs' hby' hzc hk0 (.slice A n c) n (l.flatMap f) hown.1 ⟨b, off, none⟩ 1 1 (f v) (by rw [hown.2.2, Nat.one_mul])
      (fun j u hu => by rw [Addr.add_mid]; exact hc j u hu) hv (by unfold maxLen; omega) (Nat.le_trans (Nat.mul_le_mul_left _ hby) (by omega)) hbase
    have hsh : ∃ A2 c2, v' = .slice A2 (n + 1) c2 := by
      rcases h1.2 with ⟨rfl, h0⟩ | ⟨g, cap, cur, rfl, _⟩
      · omega
      · exact ⟨_, _, rfl⟩
    obtain ⟨A2, c2, rfl⟩ := hsh
    unfold Oper.wp execOp
    simp only [ho, resolve, invoke, builtin, Sem.run_bind, Sem.run_pure, Result.andThen_ok, List.map_toArray, List.map_cons, List.map_nil, hs, hx, hrun]
    refine hK _ _ (h A2 c2 w' ⟨?_, by rw [List.length_append, hown.len]; rfl, hown.2.2⟩ ((Below.refl _ _).grown h2 hbase (fun k hk => (hown.1.lt k hk).1)) h2)
    rw [List.flatMap_append, List.flatMap_singleton]
    exact h1
end
end Go.Proofs.YtbogjfbfgbhdbaaGreatDoor
namespace Go.Proofs.YtbogjfbfgbhdbaaGreatDoor
set_option linter.unusedVariables false
set_option linter.unusedSimpArgs false
open Go.RowKit
set_option linter.unusedVariables false
set_option linter.unusedSimpArgs false
theorem hold {p : Prop} (h : Hid p) : p := h
theorem held {p : Prop} (h : p) : Hid p := h
theorem k_over {K : Act → World → Prop} {a : Act} {W : World} (G : World → Prop) (hG : G W) (h : ∀ W', G W' → K a W') : K a W := h W hG
theorem take_snoc_n (l : List Nat) (k x : Nat) (hx : l[k]? = some x) : l.take (k + 1) = l.take k ++ [x] := by rw [List.take_add_one, hx]; rfl
theorem take_snoc_l {α : Type} (l : List α) (k : Nat) (x : α) (hx : l[k]? = some x) : l.take (k + 1) = l.take k ++ [x] := by rw [List.take_add_one, hx]; rfl
theorem drewN_twice (w : World) (a b : Nat) : (w.drewN a).drewN b = w.drewN (a + b) := by unfold World.drewN; simp [Nat.add_assoc]
theorem below_drewN {B : Nat} {a w : World} (h : Below B a w) (q : Nat) : Below B a (w.drewN q) := ⟨h.os, h.tape, h.output, h.size, h.block⟩
theorem info_str : (Tryz.prog.info? 9).map (fun i => (i.zero, i.size, i.bytes)) = some (some (.string ByteArray.empty), 1, 16) := by kernel_rfl
theorem strOf_append (a b : List Nat) : strOf a ++ strOf b = strOf (a ++ b) := by
  refine data_inj ?_
  rw [ByteArray.data_append, Array.toList_append, strOf_data, strOf_data, strOf_data, List.map_append]
theorem add_str (x y : ByteArray) (a b : List Nat) (hx : x = strOf a) (hy : y = strOf b) (h : a.length + b.length ≤ 1000000000000) (W : World) : (Op.stringOp .add x y).run Tryz.prog W = .ok (.string (strOf (a ++ b))) W := by
  subst hx hy
  rw [run_string_add_sum _ _ _ (by rw [strOf_size, strOf_size]; omega), strOf_append]
theorem strOf_one (s : ByteArray) (m : List Nat) (hm : ∀ x ∈ m, x < 256) : (s.toList == (strOf m).toList) = decide (nats s = m) := by
  have := strOf_eqb (nats s) m (nats_lt s) hm
  rwa [strOf_nats] at this
def Strs (w : World) (b o : Nat) (l : List (List Nat)) : Prop := ∀ i p, l[i]? = some p → w.cell? ⟨b, o + i, none⟩ = some (.string (strOf p))
theorem Strs.keep {w w' : World} {b o : Nat} {l : List (List Nat)} (h : Strs w b o l) (hk : ∀ i, w'.cell? ⟨b, i, none⟩ = w.cell? ⟨b, i, none⟩) : Strs w' b o l := fun i p hp => by rw [hk]; exact h i p hp
theorem Strs.below {w w' : World} {b o B : Nat} {l : List (List Nat)} (h : Strs w b o l) (hb : Below B w w') (hB : b < B) : Strs w' b o l := h.keep fun i => hb.cell (p := ⟨b, i, none⟩) hB
def sv (p : List Nat) : Value := .string (strOf p)
def OwnS (w : World) (base : Nat) (A : Option Addr) (n c : Nat) (l : List (List Nat)) : Prop := OwnV w base 9 A n c (l.map sv)
section
variable {w w' : World} {base n c : Nat} {A : Option Addr} {l : List (List Nat)}
theorem OwnS.len (h : OwnS w base A n c l) : l.length = n := by have := OwnV.len h; simpa using this
theorem OwnS.below (h : OwnS w base A n c l) (hb : Below w.heap.size w w') : OwnS w' base A n c l := OwnV.below h hb
theorem OwnS.cap (h : OwnS w base A n c l) : n ≤ c := by
  rcases h.2 with ⟨hv, h0⟩ | ⟨g, cap, cur, hv, _, _, hnc, _⟩
  · injection hv with _ _ hc; omega
  · injection hv with _ _ hc; omega
theorem OwnS.at_ (h : OwnS w base A n c l) (hn : 0 < n) : ∃ g, A = some ⟨g, 0, none⟩ ∧ base ≤ g ∧ g < w.heap.size ∧ Strs w g 0 l ∧ (∀ i, w.frozen? ⟨g, i, none⟩ = false) ∧
    ∀ i p, i < n → OwnS (w.setCell ⟨g, i, none⟩ (.string (strOf p))) base A n c (l.set i p) := by
  have hlen := h.len
  rcases h.2 with ⟨_, h0⟩ | ⟨g, cap, cur, hv, hg, hh, hnc, hcm, hcs, htk⟩
  · omega
  · injection hv with hA _ hc
    subst hA hc
    refine ⟨g, rfl, hg, (Array.getElem?_eq_some_iff.1 hh).1, fun i p hp => ?_, fun i => frozen_of_row w g i cur _ hh, fun i p hi => ?_⟩
    · have hil : i < l.length := (List.getElem?_eq_some_iff.1 hp).1
      rw [Nat.zero_add, cell_of_row w g i cur _ (0, 0) hh]
      have h2 := congrArg (·[i]?) htk
      simp only [List.getElem?_take, Nat.mul_one, List.getElem?_map, hp, Option.map_some] at h2
      rw [if_pos (by omega)] at h2
      have h3 : cur[i]? = some (sv p) := by simpa only [Array.getElem?_toList] using h2
      exact h3
    · refine ⟨by simp [hlen], .inr ⟨g, c, cur.setIfInBounds i (.string (strOf p)), rfl, hg, heap_setCell_same w g i cur _ _ hh, hnc, hcm, by simpa using hcs, ?_⟩⟩
      rw [Array.toList_setIfInBounds, List.take_set, htk, List.map_set]
      rfl
theorem OwnS.col (h : OwnS w base A n c l) : Col Value.string w w.heap.size A n (l.map strOf) := by
  refine ⟨by rw [List.length_map]; exact h.len, fun hn => ?_⟩
  obtain ⟨g, rfl, _, hg, hst, _, _⟩ := h.at_ hn
  refine ⟨g, 0, rfl, hg, fun i s hs => ?_⟩
  rw [List.getElem?_map] at hs
  obtain ⟨p, hp, rfl⟩ := Option.map_eq_some_iff.1 hs
  exact hst i p hp
end
end Go.Proofs.YtbogjfbfgbhdbaaGreatDoor
namespace Go.Proofs.YtbogjfbfgbhdbaaGreatDoor
set_option linter.unusedVariables false
set_option linter.unusedSimpArgs false
open Go.RowKit
set_option linter.unusedVariables false
set_option linter.unusedSimpArgs false
def rgC (r : Rg) : List Value := [.int .i64 r.1, .int .i64 r.2]
def ints (z : Int) : Value := .int .i64 z
theorem eq_at {α : Type} {a b : List α} (hl : a.length = b.length) (k : Nat) (h : a.take k = b.take k) (hk : k = a.length) : a = b := by
  rwa [List.take_of_length_le (by omega), List.take_of_length_le (by omega)] at h
theorem ne_at {α : Type} {a b : List α} {k : Nat} {x y : α} (hx : a[k]? = some x) (hy : b[k]? = some y) (h : x ≠ y) : a ≠ b := fun e => h (by rw [e, hy] at hx; exact (Option.some.inj hx).symm)
end Go.Proofs.YtbogjfbfgbhdbaaGreatDoor
namespace Go.Proofs.YtbogjfbfgbhdbaaGreatDoor
set_option linter.unusedVariables false
set_option linter.unusedSimpArgs false
open Go.RowKit
section
variable {P : Program}
theorem OwnV.cap_ {w : World} {base n c : Nat} {e : TypeId} {A : Option Addr} {vs : List Value} (h : OwnV w base e A n c vs) : n ≤ c ∧ c ≤ maxLen := by
  rcases h.2 with ⟨hv, h0⟩ | ⟨g, cap, cur, hv, hg, hh, hnc, hcm, hcs, htk⟩
  · injection hv with _ h1 h2
    subst h1; subst h2
    exact ⟨Nat.le_refl _, by unfold maxLen; omega⟩
  · injection hv with _ _ hc
    subst hc
    exact ⟨hnc, hcm⟩
theorem OwnV.empty (w : World) (e : TypeId) : OwnV (w.alloc (.cells #[] e)) w.heap.size e (some ⟨w.heap.size, 0, none⟩) 0 0 [] :=
  ⟨by simp, .inr ⟨w.heap.size, 0, #[], rfl, Nat.le_refl _, heap_alloc_new w _, by omega, by unfold maxLen; omega, by simp, by simp⟩⟩
theorem run_append_vals {w : World} {base : Nat} {e : TypeId} {A : Option Addr} {n c : Nat} {vs : List Value} (ho : OwnV w base e A n c vs) (t ty : TypeId) (ht : P.underlying t = some (.slice e)) {zv : Value} {by_ : Nat}
    (he : (P.info? e).map (fun i => (i.zero, i.size, i.bytes)) = some (some zv, 1, by_)) (hzc : zv.cells.size = 1) (hby : by_ ≤ 24) {A' : Option Addr} {m c' : Nat} {us : List Value} (hl : us.length = m)
    (hc : 0 < m → ∃ b o, A' = some ⟨b, o, none⟩ ∧ ∀ (i : Nat) (u : Value), us[i]? = some u → w.cell? ⟨b, o + i, none⟩ = some u) (hone : ∀ u ∈ us, u.oneCell' = true) (hnm : n + m ≤ 1000000) (hbase : base ≤ w.heap.size) :
    ∃ A2 c2 w', (Builtin.append_ #[t, t] ty #[.slice A n c, .slice A' m c']).run P w = .ok (.slice A2 (n + m) c2) w' ∧ OwnV w' base e A2 (n + m) c2 (vs ++ us) ∧ Below base w w' := by
  obtain ⟨i, hi, hz, hs, hby'⟩ := info_parts he
  cases A' with
  | none =>
    have hm : m = 0 := by
      rcases Nat.eq_zero_or_pos m with h | h
      · exact h
      · obtain ⟨b, o, h', _⟩ := hc h; cases h'
    subst hm
    have hl' : us = [] := List.eq_nil_of_length_eq_zero hl
    subst hl'
    refine ⟨A, c, w, ?_, by simpa using ho, Below.refl _ _⟩
    have hcc := ho.cap_.1
    cases A with
    | none => 
      rcases ho.2 with ⟨hv, h0⟩ | ⟨g, cap, cur, hv, _⟩
      · injection hv with _ _ hc
        subst hc; subst h0
        simp [Builtin.append_, run_underlying ht, sizeOf, typeInfo, hi, Builtin.lenOf, Builtin.firstCells]
      · cases hv
    | some a => simp [Builtin.append_, run_underlying ht, sizeOf, typeInfo, hi, Builtin.lenOf, Builtin.firstCells, hcc, storeCells]
  | some ad =>
    have hnews : ∀ (j : Nat) (u : Value), us[j]? = some u → w.cell? (ad.add j) = some u := by
      intro j u hu
      have hj : j < us.length := (List.getElem?_eq_some_iff.1 hu).1
      obtain ⟨b, o, h', hcc⟩ := hc (by omega)
      injection h' with h'
      subst h'
      rw [Addr.add_mid]
      exact hcc j u hu
    obtain ⟨v', w', hrun, h1, h2, _, _⟩ := run_append_own_at (P := P) w base t ty e i zv 1 by_ ht hi hz hs hby' hzc (by omega) (.slice A n c) n vs ho ad m c' us (by simp [hl]) hnews hone (by unfold maxLen; omega) (Nat.le_trans (Nat.mul_le_mul_left _ hby) (by omega)) hbase
    have hsh : ∃ A2 c2, v' = .slice A2 (n + m) c2 := by
      rcases h1.2 with ⟨rfl, h0⟩ | ⟨g, cap, cur, rfl, _⟩
      · rw [h0]; exact ⟨_, _, rfl⟩
      · exact ⟨_, _, rfl⟩
    obtain ⟨A2, c2, rfl⟩ := hsh
    exact ⟨A2, c2, w', hrun, h1, (Below.refl _ _).grown h2 hbase (fun k hk => (ho.lt k hk).1)⟩
end
end Go.Proofs.YtbogjfbfgbhdbaaGreatDoor
