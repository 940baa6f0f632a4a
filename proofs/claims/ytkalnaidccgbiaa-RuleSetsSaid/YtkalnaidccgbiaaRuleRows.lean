/-
  Rules, holds and tombs as they lie in memory.
-/
import Derived.Test.YtkalnaidccgbiaaRuleMath
import Derived.Test.YtkalnaidccgbiaaUidsA
import Derived.Test.YtkalnaidccgbiaaRowK
import Derived.Test.YtkalnaidccgbiaaAppK
import Derived.Test.YtkalnaidccgbiaaChecked
namespace Go.Proofs.Ytkalnaidccgbiaa
open Go.RowKit
set_option linter.unusedVariables false
set_option linter.unusedSimpArgs false

theorem lessS_of : ∀ (a b : List UInt8), Op.bytesLess a b = true ↔ a < b
  | a, [] => by
    unfold Op.bytesLess
    simp
  | [], b :: l => by
    unfold Op.bytesLess
    simp
  | a :: l, b :: m => by
    unfold Op.bytesLess
    rw [List.cons_lt_cons_iff, ← lessS_of l m]
    simp
theorem lessS_iff (a b : ByteArray) : Op.bytesLess a.toList b.toList = true ↔ ltS a b := by
  rw [lessS_of, ByteArray.toList_eq, ByteArray.toList_eq]; rfl
theorem str_eq13 (a b : ByteArray) : (a.toList == b.toList) = decide (a = b) := by
  rw [ByteArray.toList_eq, ByteArray.toList_eq]
  by_cases h : a = b
  · subst h; simp
  · have : ¬ a.data.toList = b.data.toList := fun e => h (by
      obtain ⟨⟨x⟩⟩ := a
      obtain ⟨⟨y⟩⟩ := b
      simp only at e
      rw [e])
    have h2 : ¬ a.data = b.data := fun e => this (by rw [e])
    simp [h, h2]
theorem less13 (a b : ByteArray) : Op.bytesLess a.toList b.toList = decide (ltS a b) := by
  cases h : Op.bytesLess a.toList b.toList
  · symm; rw [decide_eq_false_iff_not]; intro h2; rw [(lessS_iff a b).2 h2] at h; cases h
  · symm; rw [decide_eq_true_iff]; exact (lessS_iff a b).1 h

def rulC (r : Rul) : List Value := [.string r.1, .int .i64 r.2]
theorem rulC_len (r : Rul) : (rulC r).length = 2 := rfl
theorem rulC_one (r : Rul) : ∀ u ∈ rulC r, u.oneCell' = true := by
  intro u hu
  unfold rulC at hu
  simp only [List.mem_cons, List.not_mem_nil, or_false] at hu
  rcases hu with rfl | rfl <;> rfl
def hhC (h : Hh) : List Value := [.int .i64 h.id, .string h.box, .slice h.A h.n h.c]
theorem hhC_len (h : Hh) : (hhC h).length = 3 := rfl
theorem hhC_one (h : Hh) : ∀ u ∈ hhC h, u.oneCell' = true := by
  intro u hu
  unfold hhC at hu
  simp only [List.mem_cons, List.not_mem_nil, or_false] at hu
  rcases hu with rfl | rfl | rfl <;> rfl
def tmC (t : Tm) : List Value := [.int .i64 t.id, .string t.box, .int .i64 t.at_, .int .i64 t.uid, .int .i64 t.flags, .int .i64 t.date, .slice t.A t.n t.c]
theorem tmC_len (t : Tm) : (tmC t).length = 7 := rfl
def HhIn (w : World) (B : Nat) (h : Hh) : Prop := ColK 2 rgC w B h.A h.n h.set ∧ h.n ≤ 140737488355328
theorem HhIn.keep {w w' : World} {B : Nat} {h : Hh} (H : HhIn w B h) (hk : ∀ p : Addr, p.block < B → w'.cell? p = w.cell? p) : HhIn w' B h := ⟨H.1.keep hk, H.2⟩
theorem HhIn.more {w : World} {B B' : Nat} {h : Hh} (H : HhIn w B h) (hB : B ≤ B') : HhIn w B' h := ⟨H.1.more hB, H.2⟩
/-- the slice (A, n) holds these holds, they and their ranges below block B -/
def HoldsIn (w : World) (B : Nat) (A : Option Addr) (n : Nat) (l : List Hh) : Prop := ColK 3 hhC w B A n l ∧ ∀ h ∈ l, HhIn w B h
section
variable {w w' : World} {B B' n : Nat} {A : Option Addr} {l : List Hh}
theorem HoldsIn.nil : HoldsIn w B A 0 [] := ⟨ColK.nil, fun h hh => (by cases hh)⟩
theorem HoldsIn.len (h : HoldsIn w B A n l) : l.length = n := h.1.1
theorem HoldsIn.keep (h : HoldsIn w B A n l) (hk : ∀ p : Addr, p.block < B → w'.cell? p = w.cell? p) : HoldsIn w' B A n l := ⟨h.1.keep hk, fun x hx => (h.2 x hx).keep hk⟩
theorem HoldsIn.more (h : HoldsIn w B A n l) (hB : B ≤ B') : HoldsIn w B' A n l := ⟨h.1.more hB, fun x hx => (h.2 x hx).more hB⟩
theorem HoldsIn.below (h : HoldsIn w B A n l) (hb : Below B' w w') (hB : B ≤ B') : HoldsIn w' B A n l := h.keep fun p hp => hb.cell (p := p) (by omega)
theorem HoldsIn.later (h : HoldsIn w w.heap.size A n l) (hb : Below w.heap.size w w') : HoldsIn w' w'.heap.size A n l := (h.below hb (Nat.le_refl _)).more hb.size
theorem HoldsIn.at_ {j : Nat} (h : HoldsIn w B A n l) (hj : j < n) : ∃ b o x, A = some ⟨b, o, none⟩ ∧ b < B ∧ l[j]? = some x ∧ l.take (j + 1) = l.take j ++ [x] ∧ w.rangeAt b (o + j * 3) (hhC x) ∧ HhIn w B x := by
  obtain ⟨b, o, x, rfl, hb, hx, ht, hr⟩ := h.1.at_ hj
  exact ⟨b, o, x, rfl, hb, hx, ht, hr, h.2 x (List.mem_of_getElem? hx)⟩
end
end Go.Proofs.Ytkalnaidccgbiaa
