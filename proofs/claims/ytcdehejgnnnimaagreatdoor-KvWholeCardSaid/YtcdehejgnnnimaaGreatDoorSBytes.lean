/-
 A part of the proof: see the last text.
-/
import Derived.Below
import Derived.Deep.MidRow
import Derived.Deep.Draws
import Derived.WalkKit
import Derived.Lib.Hide
import Derived.Laws.MakeOwn
import Derived.OwnWalk
import Derived.Maps.AppendAt
import Derived.ProofKit
import Derived.OpenShut
import Derived.ShutString
import Derived.ChangeOld
import Derived.Deep.Slices
import Derived.SizedLaws
namespace Go.Proofs.YtcdehejgnnnimaaGreatDoor
set_option linter.unusedVariables false
set_option linter.unusedSimpArgs false
open Go.RowKit
theorem hide {p : Prop} (h : p) : Hid p := h
theorem ret_int {k : IntKind} {a b : Int} (h : a = b) : Ending.returned (.int k a) = .returned (.int k b) := by rw [h]
def byteAt (l : List Nat) (i : Nat) : Nat := l.getD i 0
def Bytes (w : World) (B : Nat) (A : Option Addr) (n : Nat) (l : List Nat) : Prop :=
 l.length = n ∧ (∀ x ∈ l, x < 256) ∧ (0 < n → ∃ b o, A = some ⟨b, o, none⟩ ∧ b < B ∧ ∀ i, i < n → w.cell? ⟨b, o + i, none⟩ = some (.int .u8 ((byteAt l i : Nat) : Int)))
section
variable {w w' : World} {B B' n : Nat} {A : Option Addr} {l : List Nat}
theorem Bytes.nil : Bytes w B A 0 [] := ⟨rfl, by simp, fun h => absurd h (Nat.lt_irrefl _)⟩
theorem Bytes.keep (h : Bytes w B A n l) (hk : ∀ p : Addr, p.block < B → w'.cell? p = w.cell? p) : Bytes w' B A n l :=
 ⟨h.1, h.2.1, fun hn => by
  obtain ⟨b, o, e, hb, hc⟩ := h.2.2 hn
  exact ⟨b, o, e, hb, fun i hi => (hk _ hb).trans (hc i hi)⟩⟩
theorem Bytes.more (h : Bytes w B A n l) (hB : B ≤ B') : Bytes w B' A n l :=
 ⟨h.1, h.2.1, fun hn => by
  obtain ⟨b, o, e, hb, hc⟩ := h.2.2 hn
  exact ⟨b, o, e, by omega, hc⟩⟩
theorem Bytes.below (h : Bytes w B A n l) (hb : Below B' w w') (hB : B ≤ B') : Bytes w' B A n l := h.keep fun _ hp => hb.cell (by omega)
theorem Bytes.later (h : Bytes w w.heap.size A n l) (hb : Below w.heap.size w w') : Bytes w' w'.heap.size A n l := (h.below hb (Nat.le_refl _)).more hb.size
theorem Bytes.drewN (h : Bytes w B A n l) (k : Nat) : Bytes (w.drewN k) B A n l := h
theorem Bytes.drew (h : Bytes w B A n l) : Bytes w.drew B A n l := h
theorem Bytes.lt (h : Bytes w B A n l) (i : Nat) : byteAt l i < 256 := by
 unfold byteAt
 rw [List.getD_eq_getElem?_getD]
 cases hx : l[i]? with
 | none => simp
 | some x => exact h.2.1 x (List.mem_of_getElem? hx)
theorem Bytes.at_ {k : Nat} (h : Bytes w B A n l) (hk : k < n) : ∃ b o, A = some ⟨b, o, none⟩ ∧ b < B ∧ w.cell? ⟨b, o + k, none⟩ = some (.int .u8 ((byteAt l k : Nat) : Int)) := by
 obtain ⟨b, o, e, hb, hc⟩ := h.2.2 (by omega)
 exact ⟨b, o, e, hb, hc k hk⟩
end
def textAt (ls : List (List Nat)) (i : Nat) : List Nat := ls.getD i []
def Bss (w : World) (B : Nat) (A : Option Addr) (n : Nat) (ls : List (List Nat)) : Prop :=
 ls.length = n ∧ (0 < n → ∃ b o, A = some ⟨b, o, none⟩ ∧ b < B ∧ ∀ i, i < n → ∃ A' n' c', w.cell? ⟨b, o + i, none⟩ = some (.slice A' n' c') ∧ n' ≤ 140737488355328 ∧ Bytes w B A' n' (textAt ls i))
section
variable {w w' : World} {B B' n : Nat} {A : Option Addr} {ls : List (List Nat)}
theorem Bss.nil : Bss w B A 0 [] := ⟨rfl, fun h => absurd h (Nat.lt_irrefl _)⟩
theorem Bss.keep (h : Bss w B A n ls) (hk : ∀ p : Addr, p.block < B → w'.cell? p = w.cell? p) : Bss w' B A n ls :=
 ⟨h.1, fun hn => by
  obtain ⟨b, o, e, hb, hc⟩ := h.2 hn
  refine ⟨b, o, e, hb, fun i hi => ?_⟩
  obtain ⟨A', n', c', h1, h2, h3⟩ := hc i hi
  exact ⟨A', n', c', (hk _ hb).trans h1, h2, h3.keep hk⟩⟩
theorem Bss.more (h : Bss w B A n ls) (hB : B ≤ B') : Bss w B' A n ls :=
 ⟨h.1, fun hn => by
  obtain ⟨b, o, e, hb, hc⟩ := h.2 hn
  refine ⟨b, o, e, by omega, fun i hi => ?_⟩
  obtain ⟨A', n', c', h1, h2, h3⟩ := hc i hi
  exact ⟨A', n', c', h1, h2, h3.more hB⟩⟩
theorem Bss.below (h : Bss w B A n ls) (hb : Below B' w w') (hB : B ≤ B') : Bss w' B A n ls := h.keep fun _ hp => hb.cell (by omega)
theorem Bss.later (h : Bss w w.heap.size A n ls) (hb : Below w.heap.size w w') : Bss w' w'.heap.size A n ls := (h.below hb (Nat.le_refl _)).more hb.size
theorem Bss.at_ {k : Nat} (h : Bss w B A n ls) (hk : k < n) : ∃ b o A' n' c', A = some ⟨b, o, none⟩ ∧ b < B ∧ w.cell? ⟨b, o + k, none⟩ = some (.slice A' n' c') ∧ n' ≤ 140737488355328 ∧ Bytes w B A' n' (textAt ls k) := by
 obtain ⟨b, o, e, hb, hc⟩ := h.2 (by omega)
 obtain ⟨A', n', c', h1, h2, h3⟩ := hc k hk
 exact ⟨b, o, A', n', c', e, hb, h1, h2, h3⟩
theorem Bss.one (w : World) {B : Nat} {A : Option Addr} {n c : Nat} {l : List Nat} (h : Bytes w B A n l) (hn : n ≤ 140737488355328) (hB : B ≤ w.heap.size) (t : TypeId) :
 Bss (w.alloc (.cells #[.slice A n c] t)) (w.heap.size + 1) (some ⟨w.heap.size, 0, none⟩) 1 [l] := by
 refine ⟨rfl, fun _ => ⟨w.heap.size, 0, rfl, by omega, fun i hi => ?_⟩⟩
 obtain rfl : i = 0 := by omega
 refine ⟨A, n, c, ?_, hn, ((h.keep (fun p hp => World.cell?_alloc_lt w _ p (by omega))).more (by omega))⟩
 rw [cell_of_row _ _ _ _ _ _ (heap_alloc_new w _)]
 rfl
end
theorem flatten_take_snoc (ls : List (List Nat)) (k : Nat) (h : k < ls.length) : (ls.take (k + 1)).flatten = (ls.take k).flatten ++ textAt ls k := by
 unfold textAt
 rw [List.take_succ_eq_append_getElem h, List.flatten_append, List.flatten_singleton]
 simp only [List.getD_eq_getElem?_getD, List.getElem?_eq_getElem h, Option.getD_some]
theorem take_snoc' (l : List Nat) (k : Nat) (h : k < l.length) : l.take (k + 1) = l.take k ++ [byteAt l k] := by
 unfold byteAt
 rw [List.take_succ_eq_append_getElem h]
 simp [h]
end Go.Proofs.YtcdehejgnnnimaaGreatDoor
namespace Go.Proofs.YtcdehejgnnnimaaGreatDoor
set_option linter.unusedVariables false
set_option linter.unusedSimpArgs false
open Go.RowKit
theorem holdB {p : Prop} (h : Hid p) : p := h
theorem heldB {p : Prop} (h : p) : Hid p := h
def bv (x : Nat) : Value := .int .u8 (x : Int)
theorem bv_one (l : List Nat) : ∀ u ∈ l.map bv, u.oneCell' = true := by
 intro u hu
 obtain ⟨x, _, rfl⟩ := List.mem_map.1 hu
 rfl
def OwnB (w : World) (base : Nat) (e : TypeId) (A : Option Addr) (n c : Nat) (l : List Nat) : Prop :=
 w.ownsRow base e 1 (.slice A n c) n (l.map bv) ∧ ∀ x ∈ l, x < 256
section
variable {w w' : World} {base n c : Nat} {e : TypeId} {A : Option Addr} {l : List Nat}
theorem OwnB.nil : OwnB w base e none 0 0 [] := ⟨⟨by simp, .inl ⟨rfl, rfl⟩⟩, by simp⟩
theorem OwnB.empty (w : World) (e : TypeId) : OwnB (w.alloc (.cells #[] e)) w.heap.size e (some ⟨w.heap.size, 0, none⟩) 0 0 [] :=
 ⟨⟨by simp, .inr ⟨w.heap.size, 0, #[], rfl, Nat.le_refl _, heap_alloc_new w _, Nat.le_refl _, by unfold maxLen; omega, by simp, by simp⟩⟩, by simp⟩
theorem OwnB.len (h : OwnB w base e A n c l) : l.length = n := by simpa using h.1.1
theorem OwnB.below (h : OwnB w base e A n c l) (hb : Below w.heap.size w w') : OwnB w' base e A n c l := by
 refine ⟨⟨h.1.1, ?_⟩, h.2⟩
 rcases h.1.2 with h0 | ⟨g, cap, cur, hv, hg, hh, r⟩
 ·exact .inl h0
 ·exact .inr ⟨g, cap, cur, hv, hg, (hb.block g (Array.getElem?_eq_some_iff.1 hh).1).trans hh, r⟩
theorem OwnB.base_le (h : OwnB w base e A n c l) {base' : Nat} (hb : base' ≤ base) : OwnB w base' e A n c l := by
 refine ⟨⟨h.1.1, ?_⟩, h.2⟩
 rcases h.1.2 with h0 | ⟨g, cap, cur, hv, hg, r⟩
 ·exact .inl h0
 ·exact .inr ⟨g, cap, cur, hv, Nat.le_trans hb hg, r⟩
theorem OwnB.cells (h : OwnB w base e A n c l) (hn : 0 < n) : ∃ g, A = some ⟨g, 0, none⟩ ∧ base ≤ g ∧ g < w.heap.size ∧ (∀ i, w.frozen? ⟨g, i, none⟩ = false) ∧ ∀ i, i < n → w.cell? ⟨g, i, none⟩ = some (.int .u8 ((byteAt l i : Nat) : Int)) := by
 have hlen := h.len
 rcases h.1.2 with ⟨_, h0⟩ | ⟨g, cap, cur, hv, hg, hh, hnc, hcm, hcs, htk⟩
 ·omega
 ·injection hv with hA _ hc
  subst hA
  refine ⟨g, rfl, hg, (Array.getElem?_eq_some_iff.1 hh).1, fun i => frozen_of_row w g i cur e hh, fun i hi => ?_⟩
  rw [cell_of_row w g i cur e (0, 0) hh]
  have : (cur.toList.take (n * 1))[i]? = (l.map bv)[i]? := by rw [htk]
  rw [List.getElem?_take, if_pos (by omega)] at this
  simp only [Array.getElem?_toList] at this
  rw [this, List.getElem?_map]
  unfold byteAt
  simp [List.getElem?_eq_getElem (show i < l.length by omega), bv]
theorem OwnB.bytes (h : OwnB w base e A n c l) : Bytes w w.heap.size A n l := by
 refine ⟨h.len, h.2, fun hn => ?_⟩
 obtain ⟨g, rfl, _, hl, _, hc⟩ := h.cells hn
 exact ⟨g, 0, rfl, hl, fun i hi => by rw [Nat.zero_add]; exact hc i hi⟩
theorem OwnB.cap (h : OwnB w base e A n c l) : n ≤ c ∧ c ≤ maxLen := by
 rcases h.1.2 with ⟨hv, h0⟩ | ⟨g, cap, cur, hv, hg, hh, hnc, hcm, hcs, htk⟩
 ·injection hv with _ _ hc
  subst hc; subst h0
  exact ⟨Nat.le_refl _, by unfold maxLen; omega⟩
 ·injection hv with _ _ hc
  subst hc
  exact ⟨hnc, hcm⟩
theorem OwnB.put (h : OwnB w base e A n c l) {i : Nat} (_hi : i < n) (x : Nat) (hx : x < 256) {g : Nat} (hA : A = some ⟨g, 0, none⟩) : OwnB (w.setCell ⟨g, i, none⟩ (.int .u8 (x : Int))) base e A n c (l.set i x) := by
 subst hA
 have hlen := h.len
 refine ⟨⟨by simp [hlen], ?_⟩, fun y hy => ?_⟩
 ·rcases h.1.2 with ⟨hv, _⟩ | ⟨g', cap, cur, hv, hg, hh, hnc, hcm, hcs, htk⟩
  ·cases hv
  ·injection hv with hA _ hc
   injection hA with hA
   injection hA with hA
   subst hA; subst hc
   refine .inr ⟨g, c, cur.setIfInBounds i (.int .u8 (x : Int)), rfl, hg, ?_, hnc, hcm, by simpa using hcs, ?_⟩
   ·exact heap_setCell_same w g i cur e _ hh
   ·rw [Array.toList_setIfInBounds, List.take_set, htk, List.map_set]
    rfl
 ·rcases List.mem_or_eq_of_mem_set hy with hy | rfl
  ·exact h.2 y hy
  ·exact hx
end
section
variable {P : Program}
theorem run_append_bytes {w : World} {base : Nat} {e : TypeId} {A : Option Addr} {n c : Nat} {l : List Nat} (ho : OwnB w base e A n c l) (t ty : TypeId) (ht : P.underlying t = some (.slice e))
 (he : (P.info? e).map (fun i => (i.zero, i.size, i.bytes)) = some (some (.int .u8 0), 1, 1)) {B : Nat} {A' : Option Addr} {m c' : Nat} {l' : List Nat} (hb : Bytes w B A' m l') (hnm : n + m ≤ 1000000000) (hbase : base ≤ w.heap.size) :
 ∃ A2 c2 w', (Builtin.append_ #[t, t] ty #[.slice A n c, .slice A' m c']).run P w = .ok (.slice A2 (n + m) c2) w' ∧ OwnB w' base e A2 (n + m) c2 (l ++ l') ∧ Below base w w' ∧ w.grownBy w' (Value.slice A n c).ownBlock := by
 obtain ⟨i, hi, hz, hs, hby⟩ := info_parts he
 have hall : ∀ x ∈ l ++ l', x < 256 := fun x hx => (List.mem_append.1 hx).elim (ho.2 x) (hb.2.1 x)
 cases A' with
 | none =>
   have hm : m = 0 := by
    rcases Nat.eq_zero_or_pos m with h | h
    ·exact h
    ·obtain ⟨b, o, h', _⟩ := hb.2.2 h; cases h'
   subst hm
   have hl' : l' = [] := List.eq_nil_of_length_eq_zero hb.1
   subst hl'
   refine ⟨A, c, w, ?_, by simpa using ho, Below.refl _ _, World.grownBy.refl w _⟩
   have hc := ho.cap.1
   cases A with
   | none => 
     rcases ho.1.2 with ⟨hv, h0⟩ | ⟨g, cap, cur, hv, _⟩
     ·injection hv with _ _ hc
      subst hc; subst h0
      simp [Builtin.append_, run_underlying ht, sizeOf, typeInfo, hi, Builtin.lenOf, Builtin.firstCells]
     ·cases hv
   | some a => simp [Builtin.append_, run_underlying ht, sizeOf, typeInfo, hi, Builtin.lenOf, Builtin.firstCells, hc, storeCells]
 | some ad =>
   have hnews : ∀ (j : Nat) (u : Value), (l'.map bv)[j]? = some u → w.cell? (ad.add j) = some u := by
    intro j u hu
    rw [List.getElem?_map] at hu
    have hj : j < l'.length := by
     rcases Nat.lt_or_ge j l'.length with h | h
     ·exact h
     ·rw [List.getElem?_eq_none h] at hu; cases hu
    rw [List.getElem?_eq_getElem hj] at hu
    injection hu with hu
    subst hu
    obtain ⟨b, o, h', _, hc⟩ := hb.2.2 (by rw [← hb.1]; omega)
    injection h' with h'
    subst h'
    rw [Addr.add_mid, hc j (by rw [← hb.1]; exact hj)]
    unfold byteAt bv
    simp [List.getElem?_eq_getElem hj]
   obtain ⟨v', w', hrun, h1, h2, _, _⟩ := run_append_own_at (P := P) w base t ty e i (.int .u8 0) 1 1 ht hi hz hs hby rfl (by omega) (.slice A n c) n (l.map bv) ho.1 ad m c' (l'.map bv) (by simp [hb.1]) hnews (bv_one _) (by unfold maxLen; omega) (by omega) hbase
   have hsh : ∃ A2 c2, v' = .slice A2 (n + m) c2 := by
    rcases h1.2 with ⟨rfl, h0⟩ | ⟨g, cap, cur, rfl, _⟩
    ·rw [h0]; exact ⟨_, _, rfl⟩
    ·exact ⟨_, _, rfl⟩
   obtain ⟨A2, c2, rfl⟩ := hsh
   refine ⟨A2, c2, w', hrun, ⟨by rw [List.map_append]; exact h1, hall⟩, (Below.refl _ _).grown h2 hbase (fun k hk => ?_), h2⟩
   exact (ho.1.lt k hk).1
theorem wpList_append_bytes {ops : Array Oper} {rest : List Oper} {o : Oper} {a : Act} {w : World} {Q : Exit → Act → World → Prop} (hgd : o.guard = none) (s x : Operand) (t : TypeId)
 (ho : o.op = .call { callee := .builtin .append, args := #[s, x], argTypes := #[t, t] }) {e : TypeId} (ht : P.underlying t = some (.slice e))
 (he : (P.info? e).map (fun i => (i.zero, i.size, i.bytes)) = some (some (.int .u8 0), 1, 1))
 (base : Nat) (A : Option Addr) (n c : Nat) (l : List Nat) (hs : a.eval s = .slice A n c) (hown : OwnB w base e A n c l)
 (B : Nat) (A' : Option Addr) (m c' : Nat) (l' : List Nat) (hx : a.eval x = .slice A' m c') (hb : Bytes w B A' m l') (hnm : n + m ≤ 1000000000) (hbase : base ≤ w.heap.size)
 (h : ∀ A2 c2 w', OwnB w' base e A2 (n + m) c2 (l ++ l') → Below base w w' → w.grownBy w' (Value.slice A n c).ownBlock → wpList P ops Q rest (a.put o.dst (.slice A2 (n + m) c2)) w') : wpList P ops Q (o :: rest) a w :=
 wpList_plain hgd fun _ hK => by
  obtain ⟨A2, c2, w', hrun, h2, h3, h4⟩ := run_append_bytes (P := P) hown t o.type ht he (c' := c') hb hnm hbase
  unfold Oper.wp execOp
  simp only [ho, resolve, invoke, builtin, Sem.run_bind, Sem.run_pure, Result.andThen_ok, List.map_toArray, List.map_cons, List.map_nil, hs, hx, hrun]
  exact hK _ _ (h A2 c2 w' h2 h3 h4)
end
end Go.Proofs.YtcdehejgnnnimaaGreatDoor
namespace Go.Proofs.YtcdehejgnnnimaaGreatDoor
set_option linter.unusedVariables false
set_option linter.unusedSimpArgs false
open Go.RowKit
def OwnV (w : World) (base : Nat) (e : TypeId) (A : Option Addr) (n c : Nat) (vs : List Value) : Prop :=
 w.ownsRow base e 1 (.slice A n c) n vs
section
variable {w w' : World} {base n c : Nat} {e : TypeId} {A : Option Addr} {vs : List Value}
theorem OwnV.nil : OwnV w base e none 0 0 [] := ⟨by simp, .inl ⟨rfl, rfl⟩⟩
theorem OwnV.len (h : OwnV w base e A n c vs) : vs.length = n := by simpa using h.1
theorem OwnV.below (h : OwnV w base e A n c vs) (hb : Below w.heap.size w w') : OwnV w' base e A n c vs := by
 refine ⟨h.1, ?_⟩
 rcases h.2 with h0 | ⟨g, cap, cur, hv, hg, hh, r⟩
 ·exact .inl h0
 ·exact .inr ⟨g, cap, cur, hv, hg, (hb.block g (Array.getElem?_eq_some_iff.1 hh).1).trans hh, r⟩
theorem OwnV.alloc (h : OwnV w base e A n c vs) (o : Obj) : OwnV (w.alloc o) base e A n c vs := h.below ((Below.refl _ _).alloc (Nat.le_refl _) _)
theorem OwnV.cells (h : OwnV w base e A n c vs) (hn : 0 < n) : ∃ g, A = some ⟨g, 0, none⟩ ∧ base ≤ g ∧ g < w.heap.size ∧ ∀ i v, vs[i]? = some v → w.cell? ⟨g, i, none⟩ = some v := by
 have hlen := h.len
 rcases h.2 with ⟨_, h0⟩ | ⟨g, cap, cur, hv, hg, hh, hnc, hcm, hcs, htk⟩
 ·omega
 ·injection hv with hA _ hc
  subst hA
  refine ⟨g, rfl, hg, (Array.getElem?_eq_some_iff.1 hh).1, fun i v hi => ?_⟩
  have hil : i < vs.length := (List.getElem?_eq_some_iff.1 hi).1
  rw [cell_of_row w g i cur e (0, 0) hh]
  rw [← htk, List.getElem?_take, if_pos (by omega)] at hi
  simpa only [Array.getElem?_toList] using hi
end
section
variable {P : Program}
end
end Go.Proofs.YtcdehejgnnnimaaGreatDoor
namespace Go.Proofs.YtcdehejgnnnimaaGreatDoor
set_option linter.unusedVariables false
set_option linter.unusedSimpArgs false
open Go.ChangeShapes Go.WideShapes Go.ChangeAt Go.RowKit Go.Deep
structure RowRel (α : Type) where
 k : Nat
 R : World → Nat → List Value → α → Prop
 len : ∀ {w : World} {B : Nat} {cs : List Value} {a : α}, R w B cs a → cs.length = k
 keep : ∀ {w w' : World} {B : Nat} {cs : List Value} {a : α}, R w B cs a → (∀ p : Addr, p.block < B → w'.cell? p = w.cell? p) → R w' B cs a
 more : ∀ {w : World} {B B' : Nat} {cs : List Value} {a : α}, R w B cs a → B ≤ B' → R w B' cs a
namespace RowRel
variable {α β : Type}
theorem below (r : RowRel α) {w w' : World} {B B' : Nat} {cs : List Value} {a : α} (h : r.R w B cs a) (hb : Below B' w w') (hB : B ≤ B') : r.R w' B cs a := r.keep h fun _ hp => hb.cell (by omega)
theorem later (r : RowRel α) {w w' : World} {cs : List Value} {a : α} (h : r.R w w.heap.size cs a) (hb : Below w.heap.size w w') : r.R w' w'.heap.size cs a := r.more (r.below h hb (Nat.le_refl _)) hb.size
def int (k : IntKind) : RowRel Int where
 k := 1
 R := fun _ _ cs a => cs = [.int k a] ∧ (Lit.int k a).wf = true
 len := fun h => by rw [h.1]; rfl
 keep := fun h _ => h
 more := fun h _ => h
def byte : RowRel Nat where
 k := 1
 R := fun _ _ cs a => cs = [.int .u8 (a : Int)] ∧ a < 256
 len := fun h => by rw [h.1]; rfl
 keep := fun h _ => h
 more := fun h _ => h
def bool : RowRel Bool where
 k := 1
 R := fun _ _ cs a => cs = [.bool a]
 len := fun h => by rw [h]; rfl
 keep := fun h _ => h
 more := fun h _ => h
def str : RowRel ByteArray where
 k := 1
 R := fun _ _ cs a => cs = [.string a] ∧ a.size ≤ 140737488355328
 len := fun h => by rw [h.1]; rfl
 keep := fun h _ => h
 more := fun h _ => h
def rows (r : RowRel α) (w : World) (B b o : Nat) (l : List α) : Prop := ∀ i a, l[i]? = some a → ∃ cs, w.rangeAt b (o + i * r.k) cs ∧ r.R w B cs a
def slice (r : RowRel α) : RowRel (List α) where
 k := 1
 R := fun w B cs l => ∃ A n c, cs = [.slice A n c] ∧ n ≤ c ∧ c ≤ maxLen ∧ n ≤ 140737488355328 ∧ l.length = n ∧ (0 < n → ∃ b o, A = some ⟨b, o, none⟩ ∧ b < B ∧ r.rows w B b o l)
 len := fun h => by obtain ⟨A, n, c, rfl, _⟩ := h; rfl
 keep := fun h hk => by
  obtain ⟨A, n, c, e, h1, h2, h3, h4, h5⟩ := h
  refine ⟨A, n, c, e, h1, h2, h3, h4, fun hn => ?_⟩
  obtain ⟨b, o, e, hb, hr⟩ := h5 hn
  refine ⟨b, o, e, hb, fun i a ha => ?_⟩
  obtain ⟨cs, hc, hR⟩ := hr i a ha
  exact ⟨cs, fun j v hv => (hk _ hb).trans (hc j v hv), r.keep hR hk⟩
 more := fun h hB => by
  obtain ⟨A, n, c, e, h1, h2, h3, h4, h5⟩ := h
  refine ⟨A, n, c, e, h1, h2, h3, h4, fun hn => ?_⟩
  obtain ⟨b, o, e, hb, hr⟩ := h5 hn
  refine ⟨b, o, e, by omega, fun i a ha => ?_⟩
  obtain ⟨cs, hc, hR⟩ := hr i a ha
  exact ⟨cs, hc, r.more hR hB⟩
def pair (r : RowRel α) (s : RowRel β) : RowRel (α × β) where
 k := r.k + s.k
 R := fun w B cs x => ∃ c1 c2, cs = c1 ++ c2 ∧ r.R w B c1 x.1 ∧ s.R w B c2 x.2
 len := fun h => by obtain ⟨c1, c2, rfl, h1, h2⟩ := h; rw [List.length_append, r.len h1, s.len h2]
 keep := fun h hk => by obtain ⟨c1, c2, rfl, h1, h2⟩ := h; exact ⟨c1, c2, rfl, r.keep h1 hk, s.keep h2 hk⟩
 more := fun h hk => by obtain ⟨c1, c2, rfl, h1, h2⟩ := h; exact ⟨c1, c2, rfl, r.more h1 hk, s.more h2 hk⟩
def bytes : RowRel (List Nat) where
 k := 1
 R := fun w B cs l => ∃ A n c, cs = [.slice A n c] ∧ n ≤ c ∧ c ≤ maxLen ∧ n ≤ 140737488355328 ∧ Bytes w B A n l
 len := fun h => by obtain ⟨A, n, c, rfl, _⟩ := h; rfl
 keep := fun h hk => by
  obtain ⟨A, n, c, e, h1, h2, h3, h4⟩ := h
  exact ⟨A, n, c, e, h1, h2, h3, h4.keep hk⟩
 more := fun h hB => by
  obtain ⟨A, n, c, e, h1, h2, h3, h4⟩ := h
  exact ⟨A, n, c, e, h1, h2, h3, h4.more hB⟩
theorem bytes_of_slice {w : World} {B : Nat} {cs : List Value} {l : List Nat} (h : byte.slice.R w B cs l) : bytes.R w B cs l := by
 obtain ⟨A, n, c, e, h1, h2, h3, h4, h5⟩ := h
 refine ⟨A, n, c, e, h1, h2, h3, h4, ?_, fun hn => ?_⟩
 ·intro x hx
  obtain ⟨i, hi, rfl⟩ := List.mem_iff_getElem.1 hx
  obtain ⟨b, o, _, _, hr⟩ := h5 (by omega)
  obtain ⟨cs, _, _, hlt⟩ := hr i _ (List.getElem?_eq_getElem hi)
  exact hlt
 ·obtain ⟨b, o, e, hb, hr⟩ := h5 hn
  refine ⟨b, o, e, hb, fun i hi => ?_⟩
  obtain ⟨cs, hc, rfl, hlt⟩ := hr i l[i] (List.getElem?_eq_getElem (by omega))
  have := hc 0 _ rfl
  rw [Nat.add_zero, show i * byte.k = i from Nat.mul_one i] at this
  rw [this]
  unfold byteAt
  simp [List.getElem?_eq_getElem (show i < l.length by omega)]
end RowRel
section
variable {P : Program}
def Opens {α : Type} (P : Program) (t : TypeId) (r : RowRel α) : Prop :=
 P.cellsOf t = r.k ∧ ∀ (H : Type) (enc : TypeId × Value → H) (w : World) (base : Nat) (heldB : Bool) (fuel : Nat) (cs : List Value) (x : DataW H × List MemPlace),
  DataW.trod enc P w base (fun _ => true) heldB fuel t cs = some x → (x.1.weights P t).all (· ≤ reachBytes) = true → ∃ a, r.R w w.heap.size cs a
theorem opens_int {t : TypeId} {k : IntKind} (ht : P.underlying t = some (.int k)) (hc : P.cellsOf t = 1) : Opens P t (RowRel.int k) :=
 ⟨hc, fun H enc w base heldB fuel cs x h _ => by
  obtain ⟨n, h1, _, h2⟩ := DataW.trod_int ht h
  exact ⟨n, h1, h2⟩⟩
theorem opens_byte {t : TypeId} (ht : P.underlying t = some (.int .u8)) (hc : P.cellsOf t = 1) : Opens P t RowRel.byte :=
 ⟨hc, fun H enc w base heldB fuel cs x h _ => by
  obtain ⟨n, h1, _, h2⟩ := DataW.trod_int ht h
  obtain ⟨b0, b1⟩ := bounds_u8 h2
  obtain ⟨k, rfl⟩ := Int.eq_ofNat_of_zero_le b0
  exact ⟨k, h1, by omega⟩⟩
theorem opens_str {t : TypeId} (ht : P.underlying t = some .string) (hc : P.cellsOf t = 1) : Opens P t RowRel.str :=
 ⟨hc, fun H enc w base heldB fuel cs x h hz => by
  obtain ⟨s, h1, h2, _⟩ := DataW.trod_string ht h
  subst h2
  have hz' : s.data.toList.length ≤ reachBytes := by simpa [DataW.weights] using hz
  have e : s.size = s.data.toList.length := (Array.length_toList (xs := s.data)).symm
  rw [← e] at hz'
  unfold reachBytes at hz'
  exact ⟨s, h1, by omega⟩⟩
theorem weightsAll_mem {H : Type} {P : Program} {e : TypeId} : ∀ {l : List (DataW H)} {d : DataW H}, d ∈ l → ∀ n ∈ d.weights P e, n ∈ DataW.weightsAll P e l
 | d' :: r, d, hd, n, hn => by
   simp only [DataW.weightsAll, List.mem_append]
   rcases List.mem_cons.1 hd with rfl | h
   ·exact Or.inl hn
   ·exact Or.inr (weightsAll_mem h n hn)
theorem list_of_all {α : Type} {p : Nat → α → Prop} (n : Nat) (h : ∀ i, i < n → ∃ a, p i a) : ∃ l : List α, l.length = n ∧ ∀ i a, l[i]? = some a → p i a := by
 induction n with
 | zero => exact ⟨[], rfl, fun i a h => by simp at h⟩
 | succ n ih =>
   obtain ⟨l, h1, h2⟩ := ih (fun i hi => h i (by omega))
   obtain ⟨y, h3⟩ := h n (by omega)
   refine ⟨l ++ [y], by simp [h1], fun i a ha => ?_⟩
   by_cases hin : i < l.length
   ·rw [List.getElem?_append_left hin] at ha
    exact h2 i a ha
   ·have hi : i < (l ++ [y]).length := (List.getElem?_eq_some_iff.1 ha).1
    have : i = n := by simp at hi; omega
    subst this
    rw [List.getElem?_append_right (by omega), h1] at ha
    simp at ha
    exact ha ▸ h3
theorem opens_slice {α : Type} {r : RowRel α} {t e : TypeId} (ht : P.underlying t = some (.slice e)) (hc : P.cellsOf t = 1) (hk : 0 < r.k) (hb : 0 < P.bytesOf e) (he : Opens P e r) : Opens P t r.slice := by
 refine ⟨hc, fun H enc w base heldB fuel cs x h hz => ?_⟩
 rcases open_slice ht h with ⟨rfl, _⟩ | ⟨a, len, cap, m, n, D, Pl, rfl, _, hl, hm, hmm, rfl, hx⟩
 ·exact ⟨[], none, 0, 0, rfl, Nat.le_refl _, by unfold maxLen; omega, by omega, rfl, fun h => absurd h (by omega)⟩
 ·simp only [if_true] at hmm
  subst hmm
  have hw : ∀ y ∈ DataW.weights P t (.slice ((List.range len).map D) ((List.range (m - len)).map fun j => D (len + j))), y ≤ reachBytes := by simpa using hz
  have hlen : len ≤ 140737488355328 := by
   have := hw _ (by simp only [DataW.weights, ht]; exact List.mem_cons_self)
   simp only [List.length_map, List.length_range, reachBytes] at this
   have h2 : len * 1 ≤ (len + (m - len)) * P.bytesOf e := Nat.mul_le_mul (by omega) hb
   omega
  have hall : ∀ i, i < len → ∃ a', ∃ cs', (cs'.length = r.k ∧ ∀ j, j < r.k → w.cell? (a.add (i * r.k + j)) = cs'[j]?) ∧ r.R w w.heap.size cs' a' := by
   intro i hi
   obtain ⟨cs', h1, h2⟩ := hx i (by omega)
   have hwi : ((D i).weights P e).all (· ≤ reachBytes) = true := by
    rw [List.all_eq_true]
    intro y hy
    refine decide_eq_true (hw y ?_)
    simp only [DataW.weights, ht, List.mem_cons, List.mem_append]
    exact .inr (.inl (weightsAll_mem (List.mem_map.2 ⟨i, List.mem_range.2 hi, rfl⟩) y hy))
   obtain ⟨a', hR⟩ := he.2 H enc w base heldB n cs' _ h2 hwi
   rw [he.1] at h1
   obtain ⟨_, h3, h4⟩ := World.cells?_some h1
   exact ⟨a', cs', ⟨h3, fun j hj => by rw [← h4 j hj, Go.Deep.add_add]⟩, hR⟩
  obtain ⟨l, hll, hlr⟩ := list_of_all len hall
  refine ⟨l, some a, len, m, rfl, hl, hm, hlen, hll, fun hn => ?_⟩
  obtain ⟨cs0, ⟨h0l, h0⟩, _⟩ := hlr 0 _ (List.getElem?_eq_getElem (by omega))
  have h0 := h0 0 hk
  rw [List.getElem?_eq_getElem (by omega)] at h0
  obtain ⟨ab, ao, asp⟩ := a
  have hsp : asp = none := by simpa [Addr.add] using World.cell?_spot h0
  subst hsp
  refine ⟨ab, ao, rfl, block_lt_of_cell (a := ⟨ab, ao, none⟩) (by simpa [Addr.add] using h0), fun i y hy => ?_⟩
  obtain ⟨cs', ⟨h1, h2⟩, hR⟩ := hlr i y hy
  refine ⟨cs', fun j v hv => ?_, hR⟩
  have hj : j < r.k := by rw [← h1]; exact (List.getElem?_eq_some_iff.1 hv).1
  have := h2 j hj
  rw [Addr.add_mid] at this
  rw [Nat.add_assoc, this, hv]
theorem opens_bytes {t e : TypeId} (ht : P.underlying t = some (.slice e)) (he : P.underlying e = some (.int .u8)) (hc : P.cellsOf t = 1) (hce : P.cellsOf e = 1) (hb : 0 < P.bytesOf e) : Opens P t RowRel.bytes :=
 ⟨hc, fun H enc w base heldB fuel cs x h hz => by
  obtain ⟨a, ha⟩ := (opens_slice ht hc (by decide) hb (opens_byte he hce)).2 H enc w base heldB fuel cs x h hz
  exact ⟨a, RowRel.bytes_of_slice ha⟩⟩
theorem Opens.arg {α : Type} {t : TypeId} {r : RowRel α} (h : Opens P t r) {H : Type} {enc : TypeId × Value → H} {w : World} {base : Nat} {heldB : Bool} {v : Value} {d : DataW H} {p : List MemPlace}
 (hd : DataW.Trod enc P w base (fun _ => true) heldB t v d p) (hz : (d.weights P t).all (· ≤ reachBytes) = true) : ∃ a, r.R w w.heap.size v.cells.toList a := by
 obtain ⟨fuel, hf⟩ := hd
 exact h.2 H enc w base heldB fuel _ _ hf hz
end
end Go.Proofs.YtcdehejgnnnimaaGreatDoor
