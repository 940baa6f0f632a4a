/-
 A part of the proof: see the last text.
-/
import Derived.Test.YtcdehejgnnnimaaGreatDoorSSecIter
import Derived.Test.YtcdehejgnnnimaaGreatDoorSSecWords
namespace Go.Proofs.YtcdehejgnnnimaaGreatDoor
set_option linter.unusedVariables false
set_option linter.unusedSimpArgs false
open Go.RowKit
def comeG {α : Type} (st : Nat → Bool) (i : Nat) (xs : List α) : List α := ((xs.zipIdx i).filter fun p => st p.2).reverse.map (·.1)
theorem comeG_zero {α : Type} (st : Nat → Bool) (xs : List α) : comeM st xs 0 = comeG st 0 xs := rfl
theorem comeG_cons {α : Type} (st : Nat → Bool) (i : Nat) (x : α) (r : List α) : comeG st i (x :: r) = comeG st (i + 1) r ++ (if st i then [x] else []) := by
 unfold comeG
 rw [List.zipIdx_cons, List.filter_cons]
 split <;> simp
theorem rowsM_set (ss : List (List Int)) (pre : List (Int × List Int)) (x : Int × List Int) (k : Nat) (hx : x.1 = (k : Int)) (hk : k < ss.length) : rowsM (ss.set k x.2) pre = rowsM ss (pre ++ [x]) := by
 apply List.ext_getElem
 ·simp [rowsM]
 ·intro i h1 h2
  have hi : i < ss.length := by simpa [rowsM] using h1
  simp only [rowsM, List.getElem_map, List.getElem_range]
  rw [rowM_snoc]
  unfold rowM
  have hf := wrB_find (pre := pre) (i := i)
  cases h : pre.find? (fun x => x.1 == (i : Int)) with
  | some y => rw [h] at hf; simp [hf]
  | none =>
    rw [h] at hf
    simp only [hf, Option.isSome_none, Bool.false_eq_true, if_false]
    by_cases he : k = i
    ·subst he
     rw [if_pos hx]
     simp [hk]
    ·rw [if_neg (by omega : ¬ x.1 = (i : Int))]
     simp [he]
theorem doneM_eq (st : Nat → Bool) : ∀ (l : List (Int × List Int)) (i : Nat) (ss : List (List Int)), looseB ss.length l = true → doneM st i ss l = rowsM ss (comeG st i l)
 | [], i, ss, _ => by
   show ss = rowsM ss []
   rw [rowsM_nil]
 | x :: r, i, ss, h => by
   have h' : thereB ss.length x.1 = true ∧ looseB ss.length r = true := by simpa [looseB] using h
   rw [comeG_cons]
   unfold doneM
   by_cases hs : st i = true
   ·obtain ⟨k, hk⟩ : ∃ k : Nat, x.1 = (k : Int) := Int.eq_ofNat_of_zero_le (by have := h'.1; simp [thereB] at this; exact this.1)
    have hkn : k < ss.length := by have := h'.1; rw [hk] at this; simp [thereB] at this; exact this
    rw [if_pos hs, if_pos hs, doneM_eq st r (i + 1) _ (by rw [List.length_set]; exact h'.2), hk, Int.toNat_natCast, rowsM_set ss _ x k hk hkn]
   ·rw [if_neg hs, if_neg hs, doneM_eq st r (i + 1) _ h'.2, List.append_nil]
theorem doneM_come (st : Nat → Bool) (l : List (Int × List Int)) (ss : List (List Int)) (h : looseB ss.length l = true) : rowsM ss (comeM st l 0) = doneM st 0 ss l := by
 rw [comeG_zero, doneM_eq st l 0 ss h]
theorem looseB_right {d : Dk} (h : rightB d = true) : looseB d.secs.length d.loose = true := by
 unfold rightB at h
 simp only [Bool.and_eq_true] at h
 exact h.2
theorem deedF_right (d : Dk) (h : rightB d = true) : fuseB (deedF d.fuse d.down) = true := by
 unfold rightB at h
 simp only [Bool.and_eq_true] at h
 have h1 := h.1.2
 unfold fuseB at h1 ⊢
 simp only [Bool.and_eq_true, decide_eq_true_eq] at h1 ⊢
 unfold deedF
 split
 ·exact h1
 ·split <;> omega
theorem doneM_length (st : Nat → Bool) : ∀ (l : List (Int × List Int)) (i : Nat) (ss : List (List Int)), (doneM st i ss l).length = ss.length
 | [], _, _ => rfl
 | x :: r, i, ss => by
   unfold doneM
   rw [doneM_length st r (i + 1)]
   split
   ·rw [List.length_set]
   ·rfl
end Go.Proofs.YtcdehejgnnnimaaGreatDoor
namespace Go.Proofs.YtcdehejgnnnimaaGreatDoor
set_option linter.unusedVariables false
set_option linter.unusedSimpArgs false
open Go.RowKit Go.Shelf
attribute [local go_sem] Oper.semAt_some
end Go.Proofs.YtcdehejgnnnimaaGreatDoor
