/-
 A part of the proof: see the last text.
-/
import Derived.Test.YtcdehejgnnnimaaGreatDoorSBytes
import Derived.Test.YtcdehejgnnnimaaGreatDoorSWalCalls
namespace Go.Proofs.YtcdehejgnnnimaaGreatDoor
set_option linter.unusedVariables false
set_option linter.unusedSimpArgs false
open Go.RowKit
section
variable {P : Program}
theorem OwnV.empty (w : World) (e : TypeId) : OwnV (w.alloc (.cells #[] e)) w.heap.size e (some ⟨w.heap.size, 0, none⟩) 0 0 [] :=
 ⟨by simp, .inr ⟨w.heap.size, 0, #[], rfl, Nat.le_refl _, heap_alloc_new w _, by omega, by unfold maxLen; omega, by simp, by simp⟩⟩
end
end Go.Proofs.YtcdehejgnnnimaaGreatDoor
namespace Go.Proofs.YtcdehejgnnnimaaGreatDoor
set_option linter.unusedVariables false
set_option linter.unusedSimpArgs false
open Go.RowKit
section
variable {P : Program}
end
def Vals (w : World) (B : Nat) (us : List Value) (L : List (List Nat)) : Prop :=
 us.length = L.length ∧ ∀ (i : Nat) (u : Value), us[i]? = some u → ∃ A n c, u = .slice A n c ∧ n ≤ c ∧ c ≤ maxLen ∧ n ≤ 140737488355328 ∧ Bytes w B A n (textAt L i)
theorem Vals.below {w w' : World} {B B' : Nat} {us : List Value} {L : List (List Nat)} (h : Vals w B us L) (hb : Below B' w w') (hB : B ≤ B') : Vals w' B us L := ⟨h.1, fun i u hu => by
 obtain ⟨A, n, c, e, h1, h2, h3, h4⟩ := h.2 i u hu
 exact ⟨A, n, c, e, h1, h2, h3, h4.below hb hB⟩⟩
theorem Vals.more {w : World} {B B' : Nat} {us : List Value} {L : List (List Nat)} (h : Vals w B us L) (hB : B ≤ B') : Vals w B' us L := ⟨h.1, fun i u hu => by
 obtain ⟨A, n, c, e, h1, h2, h3, h4⟩ := h.2 i u hu
 exact ⟨A, n, c, e, h1, h2, h3, h4.more hB⟩⟩
theorem Vals.one {w : World} {B : Nat} {us : List Value} {L : List (List Nat)} (h : Vals w B us L) : ∀ u ∈ us, u.oneCell' = true := fun u hu => by
 obtain ⟨i, hi, rfl⟩ := List.mem_iff_getElem.1 hu
 obtain ⟨A, n, c, e, _⟩ := h.2 i _ (List.getElem?_eq_getElem hi)
 rw [e]
 rfl
theorem Vals.snoc {w : World} {B : Nat} {us : List Value} {L : List (List Nat)} (h : Vals w B us L) {A : Option Addr} {n c : Nat} {b : List Nat} (h1 : n ≤ c) (h2 : c ≤ maxLen) (h3 : n ≤ 140737488355328) (hb : Bytes w B A n b) : Vals w B (us ++ [.slice A n c]) (L ++ [b]) := by
 refine ⟨by simp [h.1], fun i u hu => ?_⟩
 by_cases hi : i < us.length
 ·rw [List.getElem?_append_left hi] at hu
  obtain ⟨A', n', c', e, g1, g2, g3, g4⟩ := h.2 i u hu
  exact ⟨A', n', c', e, g1, g2, g3, by rw [(textAt_snoc (b := b) (by rw [← h.1]; exact hi)).1]; exact g4⟩
 ·have hl : i < (us ++ [Value.slice A n c]).length := (List.getElem?_eq_some_iff.1 hu).1
  have : i = us.length := by simp at hl; omega
  subst this
  rw [List.getElem?_append_right (Nat.le_refl _), Nat.sub_self] at hu
  simp at hu
  subst hu
  exact ⟨A, n, c, rfl, h1, h2, h3, by rw [h.1, (textAt_last L b).1]; exact hb⟩
theorem Vals.drop {w : World} {B : Nat} {us : List Value} {L : List (List Nat)} (h : Vals w B us L) (k : Nat) : Vals w B (us.drop k) (L.drop k) := by
 refine ⟨by simp [h.1], fun i u hu => ?_⟩
 rw [List.getElem?_drop] at hu
 obtain ⟨A', n', c', e, g1, g2, g3, g4⟩ := h.2 _ u hu
 refine ⟨A', n', c', e, g1, g2, g3, ?_⟩
 have : textAt (L.drop k) i = textAt L (k + i) := by unfold textAt; simp [List.getD_eq_getElem?_getD]
 rw [this]
 exact g4
theorem Rss.vals {w : World} {B n : Nat} {A : Option Addr} {L : List (List Nat)} (h : Rss w B A n L) : ∃ us : List Value, us.length = n ∧ Vals w B us L ∧ (0 < n → ∃ b o, A = some ⟨b, o, none⟩ ∧ b < B ∧ ∀ (i : Nat) (u : Value), us[i]? = some u → w.cell? ⟨b, o + i, none⟩ = some u) := by
 by_cases hn : 0 < n
 ·obtain ⟨b, o, e, hb, hc⟩ := h.2 hn
  obtain ⟨us, hl, hu⟩ := list_of_all (p := fun i u => w.cell? ⟨b, o + i, none⟩ = some u ∧ ∃ A' n' c', u = .slice A' n' c' ∧ n' ≤ c' ∧ c' ≤ maxLen ∧ n' ≤ 140737488355328 ∧ Bytes w B A' n' (textAt L i)) n (fun i hi => by
   obtain ⟨A', n', c', h1, h2, h3, h4, h5⟩ := hc i hi
   exact ⟨_, h1, A', n', c', rfl, h2, h3, h4, h5⟩)
  exact ⟨us, hl, ⟨by rw [hl, h.1], fun i u hi => (hu i u hi).2⟩, fun _ => ⟨b, o, e, hb, fun i u hi => (hu i u hi).1⟩⟩
 ·have h0 : n = 0 := by omega
  subst h0
  exact ⟨[], rfl, ⟨by rw [h.1]; rfl, fun i u hu => by simp at hu⟩, fun h => absurd h (by omega)⟩
theorem OwnV.rss {w : World} {base B n c : Nat} {A : Option Addr} {us : List Value} {L : List (List Nat)} (ho : OwnV w base 63 A n c us) (hv : Vals w B us L) (hB : B ≤ w.heap.size) : Rss w w.heap.size A n L := by
 have hlen := ho.len
 refine ⟨by rw [← hv.1, hlen], fun hn => ?_⟩
 obtain ⟨g, e, hg, hgl, hc⟩ := ho.cells hn
 refine ⟨g, 0, e, hgl, fun i hi => ?_⟩
 obtain ⟨A', n', c', e', h1, h2, h3, h4⟩ := hv.2 i _ (List.getElem?_eq_getElem (by omega))
 refine ⟨A', n', c', ?_, h1, h2, h3, h4.more hB⟩
 rw [Nat.zero_add, ← e']
 exact hc i _ (List.getElem?_eq_getElem (by omega))
end Go.Proofs.YtcdehejgnnnimaaGreatDoor
