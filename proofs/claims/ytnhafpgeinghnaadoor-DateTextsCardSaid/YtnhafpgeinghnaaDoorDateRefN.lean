/-
  Plain mathematics of package date: the document's mail dates are the program's.
-/
import Derived.Test.YtnhafpgeinghnaaDoorDateRefM
import Derived.Test.YtnhafpgeinghnaaDoorDateRefL
namespace Go.Proofs.YtnhafpgeinghnaaDoor
open Go.RowKit
set_option linter.unusedVariables false
set_option linter.unusedSimpArgs false

theorem five_eq (a b c d e : List Nat) : fiveX a b c d e = if (ymdOk a b c && clkOk true (splitL 58 d) && zoneOk e) = true then (if ymdV a b c < 0 then (0, 15) else (ymdV a b c, 0)) else (0, 3) := by
  unfold fiveX
  cases ymdOk a b c <;> cases clkOk true (splitL 58 d) <;> cases zoneOk e <;> simp
theorem rest_eq (L : List (List Nat)) : restX L = if restOk L = true then (if restV L < 0 then (0, 15) else (restV L, 0)) else (0, 3) := by
  rcases six_cases L with ⟨a, b, c, d, e, rfl⟩ | ⟨a, b, c, d, e, f, rfl⟩ | ⟨h5, h6⟩
  · exact five_eq a b c d e
  · show (if encB' f = true then fiveX a b c d e else (0, 3)) = if (encB' f && (ymdOk a b c && clkOk true (splitL 58 d) && zoneOk e)) = true then (if ymdV a b c < 0 then (0, 15) else (ymdV a b c, 0)) else (0, 3)
    cases encB' f
    · rfl
    · rw [if_pos rfl, Bool.true_and, five_eq]
  · rw [restX_no h5 h6, restOk_no h5 h6]; rfl
theorem week_eq (h : List Nat) : weekB h = (wkB h && lettersB h.dropLast) := by
  unfold weekB wkB lettersB
  by_cases h1 : h.getLast? = some 44
  · rw [decide_eq_true h1]
    have : (2 ≤ h.length) ↔ h.dropLast ≠ [] := by
      rw [← List.length_pos_iff, List.length_dropLast]
      omega
    by_cases h2 : 2 ≤ h.length
    · rw [decide_eq_true h2, decide_eq_true (this.1 h2)] <;> rfl
    · rw [decide_eq_false h2, decide_eq_false (fun x => h2 (this.2 x))] <;> rfl
  · rw [decide_eq_false h1, Bool.false_and, Bool.and_false] <;> rfl
theorem comma_no {h : List Nat} {t : List (List Nat)} (hw : wkB h = true) : restOk (h :: t) = false := by
  have hn : numOk h 1 2 = false := by
    cases hh : numOk h 1 2
    · rfl
    · have hl : h.getLast? = some 44 := of_decide_eq_true hw
      have := digB_iff.1 (List.all_eq_true.1 (numOk_iff.1 hh).2.2 44 (List.mem_of_getLast? hl))
      omega
  have hy : ∀ b c, ymdOk h b c = false := fun b c => by unfold ymdOk; rw [hn]; rfl
  rcases six_cases (h :: t) with ⟨a, b, c, d, e, e'⟩ | ⟨a, b, c, d, e, f, e'⟩ | ⟨h5, h6⟩
  · rw [e']
    injection e' with e1 _
    show (ymdOk a b c && _ && _) = false
    rw [← e1, hy]; rfl
  · rw [e']
    injection e' with e1 _
    show (encB' f && (ymdOk a b c && _ && _)) = false
    rw [← e1, hy, Bool.false_and, Bool.false_and, Bool.and_false]
  · exact restOk_no h5 h6
theorem mail_eq (l : List Nat) : mailX l = mailR l := by
  unfold mailX mailR
  by_cases h2 : 200 < l.length
  · rw [if_pos h2, if_pos h2]
  · rw [if_neg h2, if_neg h2]
    cases wordsL l with
    | nil => rfl
    | cons h t =>
      show (if weekB h = true then restX t else restX (h :: t)) = _
      rw [rest_eq, rest_eq, week_eq]
      cases hw : wkB h
      · rw [(mail_nw hw).1, (mail_nw hw).2, Bool.false_and, if_neg Bool.false_ne_true]
      · rw [(mail_wk hw).1, (mail_wk hw).2, Bool.true_and, comma_no hw]
        cases lettersB h.dropLast
        · rw [if_neg Bool.false_ne_true, if_neg Bool.false_ne_true, Bool.false_and, if_neg Bool.false_ne_true]
        · rw [if_pos rfl, Bool.true_and]
end Go.Proofs.YtnhafpgeinghnaaDoor
