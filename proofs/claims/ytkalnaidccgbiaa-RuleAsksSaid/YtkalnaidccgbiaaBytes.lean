/-
  Words on slices of bytes: what a slice of bytes holds, kept over what leaves its block as it lay. Nothing here speaks of a program.
-/
import Derived.Below
import Derived.Deep.MidRow
import Derived.Deep.Draws
import Derived.WalkKit
import Derived.Lib.Hide
namespace Go.Proofs.Ytkalnaidccgbiaa
set_option linter.unusedVariables false
set_option linter.unusedSimpArgs false
open Go.RowKit

theorem hide {p : Prop} (h : p) : Hid p := h
theorem ret_int {k : IntKind} {a b : Int} (h : a = b) : Ending.returned (.int k a) = .returned (.int k b) := by rw [h]

/-- the byte at place i (no name that the walk opens) -/
def byteAt (l : List Nat) (i : Nat) : Nat := l.getD i 0
/-- the slice (A, n) holds the bytes l, in a block below B -/
def Bytes (w : World) (B : Nat) (A : Option Addr) (n : Nat) (l : List Nat) : Prop :=
  l.length = n ∧ (∀ x ∈ l, x < 256) ∧ (0 < n → ∃ b o, A = some ⟨b, o, none⟩ ∧ b < B ∧ ∀ i, i < n → w.cell? ⟨b, o + i, none⟩ = some (.int .u8 ((byteAt l i : Nat) : Int)))

section
variable {w w' : World} {B B' n : Nat} {A : Option Addr} {l : List Nat}
theorem Bytes.nil : Bytes w B A 0 [] := ⟨rfl, by simp, fun h => absurd h (Nat.lt_irrefl _)⟩
theorem Bytes.keep (h : Bytes w B A n l) (hk : ∀ p : Addr, p.block < B → w'.cell? p = w.cell? p) : Bytes w' B A n l :=
  ⟨h.1, h.2.1, fun hn => by
    obtain ⟨b, o, e, hb, hc⟩ := h.2.2 hn
    exact ⟨b, o, e, hb, fun i hi => (hk _ hb).trans (hc i hi)⟩⟩
theorem Bytes.more (h : Bytes w B A n l) (hB : B ≤ B') : Bytes w B' A n l :=
  ⟨h.1, h.2.1, fun hn => by
    obtain ⟨b, o, e, hb, hc⟩ := h.2.2 hn
    exact ⟨b, o, e, by omega, hc⟩⟩
theorem Bytes.below (h : Bytes w B A n l) (hb : Below B' w w') (hB : B ≤ B') : Bytes w' B A n l := h.keep fun _ hp => hb.cell (by omega)
theorem Bytes.later (h : Bytes w w.heap.size A n l) (hb : Below w.heap.size w w') : Bytes w' w'.heap.size A n l := (h.below hb (Nat.le_refl _)).more hb.size
theorem Bytes.drewN (h : Bytes w B A n l) (k : Nat) : Bytes (w.drewN k) B A n l := h
theorem Bytes.drew (h : Bytes w B A n l) : Bytes w.drew B A n l := h
theorem Bytes.lt (h : Bytes w B A n l) (i : Nat) : byteAt l i < 256 := by
  unfold byteAt
  rw [List.getD_eq_getElem?_getD]
  cases hx : l[i]? with
  | none => simp
  | some x => exact h.2.1 x (List.mem_of_getElem? hx)
theorem Bytes.at_ {k : Nat} (h : Bytes w B A n l) (hk : k < n) : ∃ b o, A = some ⟨b, o, none⟩ ∧ b < B ∧ w.cell? ⟨b, o + k, none⟩ = some (.int .u8 ((byteAt l k : Nat) : Int)) := by
  obtain ⟨b, o, e, hb, hc⟩ := h.2.2 (by omega)
  exact ⟨b, o, e, hb, hc k hk⟩
end
def textAt (ls : List (List Nat)) (i : Nat) : List Nat := ls.getD i []
/-- a slice of slices of bytes: (A, n) holds the texts ls, all in blocks below B -/
def Bss (w : World) (B : Nat) (A : Option Addr) (n : Nat) (ls : List (List Nat)) : Prop :=
  ls.length = n ∧ (0 < n → ∃ b o, A = some ⟨b, o, none⟩ ∧ b < B ∧ ∀ i, i < n → ∃ A' n' c', w.cell? ⟨b, o + i, none⟩ = some (.slice A' n' c') ∧ n' ≤ 140737488355328 ∧ Bytes w B A' n' (textAt ls i))
section
variable {w w' : World} {B B' n : Nat} {A : Option Addr} {ls : List (List Nat)}
theorem Bss.nil : Bss w B A 0 [] := ⟨rfl, fun h => absurd h (Nat.lt_irrefl _)⟩
theorem Bss.keep (h : Bss w B A n ls) (hk : ∀ p : Addr, p.block < B → w'.cell? p = w.cell? p) : Bss w' B A n ls :=
  ⟨h.1, fun hn => by
    obtain ⟨b, o, e, hb, hc⟩ := h.2 hn
    refine ⟨b, o, e, hb, fun i hi => ?_⟩
    obtain ⟨A', n', c', h1, h2, h3⟩ := hc i hi
    exact ⟨A', n', c', (hk _ hb).trans h1, h2, h3.keep hk⟩⟩
theorem Bss.more (h : Bss w B A n ls) (hB : B ≤ B') : Bss w B' A n ls :=
  ⟨h.1, fun hn => by
    obtain ⟨b, o, e, hb, hc⟩ := h.2 hn
    refine ⟨b, o, e, by omega, fun i hi => ?_⟩
    obtain ⟨A', n', c', h1, h2, h3⟩ := hc i hi
    exact ⟨A', n', c', h1, h2, h3.more hB⟩⟩
theorem Bss.below (h : Bss w B A n ls) (hb : Below B' w w') (hB : B ≤ B') : Bss w' B A n ls := h.keep fun _ hp => hb.cell (by omega)
theorem Bss.later (h : Bss w w.heap.size A n ls) (hb : Below w.heap.size w w') : Bss w' w'.heap.size A n ls := (h.below hb (Nat.le_refl _)).more hb.size
theorem Bss.at_ {k : Nat} (h : Bss w B A n ls) (hk : k < n) : ∃ b o A' n' c', A = some ⟨b, o, none⟩ ∧ b < B ∧ w.cell? ⟨b, o + k, none⟩ = some (.slice A' n' c') ∧ n' ≤ 140737488355328 ∧ Bytes w B A' n' (textAt ls k) := by
  obtain ⟨b, o, e, hb, hc⟩ := h.2 (by omega)
  obtain ⟨A', n', c', h1, h2, h3⟩ := hc k hk
  exact ⟨b, o, A', n', c', e, hb, h1, h2, h3⟩
/-- one slice alone in a new block -/
theorem Bss.one (w : World) {B : Nat} {A : Option Addr} {n c : Nat} {l : List Nat} (h : Bytes w B A n l) (hn : n ≤ 140737488355328) (hB : B ≤ w.heap.size) (t : TypeId) :
    Bss (w.alloc (.cells #[.slice A n c] t)) (w.heap.size + 1) (some ⟨w.heap.size, 0, none⟩) 1 [l] := by
  refine ⟨rfl, fun _ => ⟨w.heap.size, 0, rfl, by omega, fun i hi => ?_⟩⟩
  obtain rfl : i = 0 := by omega
  refine ⟨A, n, c, ?_, hn, ((h.keep (fun p hp => World.cell?_alloc_lt w _ p (by omega))).more (by omega))⟩
  rw [cell_of_row _ _ _ _ _ _ (heap_alloc_new w _)]
  rfl
end
theorem flatten_take_snoc (ls : List (List Nat)) (k : Nat) (h : k < ls.length) : (ls.take (k + 1)).flatten = (ls.take k).flatten ++ textAt ls k := by
  unfold textAt
  rw [List.take_succ_eq_append_getElem h, List.flatten_append, List.flatten_singleton]
  simp only [List.getD_eq_getElem?_getD, List.getElem?_eq_getElem h, Option.getD_some]
theorem take_snoc' (l : List Nat) (k : Nat) (h : k < l.length) : l.take (k + 1) = l.take k ++ [byteAt l k] := by
  unfold byteAt
  rw [List.take_succ_eq_append_getElem h]
  simp [h]
end Go.Proofs.Ytkalnaidccgbiaa
