/-
  A text that comes in, opened and shut; its size.
-/
import Derived.Test.YtkalnaidccgbiaaRowRel
import Derived.Test.YtkalnaidccgbiaaCols
import Derived.Test.YtkalnaidccgbiaaChecked
namespace Go.Proofs.Ytkalnaidccgbiaa
set_option linter.unusedVariables false
set_option linter.unusedSimpArgs false
open Go.ChangeShapes Go.WideShapes Go.ChangeAt Go.RowKit

section
variable {H : Type} {enc : TypeId × Value → H} {P : Program} {w : World} {base : Nat} {spare : Nat → Bool} {held : Bool}
theorem open_str_arg {r : Reach} {b0 : Nat} {t : TypeId} {v : Value} {d : DataW H} {ps : List MemPlace} (ht : P.underlying t = some .string) (hval : Value.okWide P w r b0 t v) (hd : DataW.Trod enc P w base spare held t v d ps) :
    ∃ s : ByteArray, v = .string s ∧ d = .lit (.string s.data.toList) ∧ ps = [] ∧ s.size ≤ maxLen := by
  obtain ⟨s, rfl⟩ := okWide_string ht hval
  obtain ⟨fuel, hf⟩ := hd
  obtain ⟨s', h, hx, hw⟩ := DataW.trod_string ht hf
  simp [Value.cells] at h
  subst h
  simp only [Prod.mk.injEq] at hx
  exact ⟨s, rfl, hx.1, hx.2, hw⟩
theorem shut_string {t : TypeId} {s : ByteArray} (ht : P.underlying t = some .string) (hs : s.size ≤ maxLen) : DataW.Trod enc P w base spare held t (.string s) (.lit (.string s.data.toList)) [] :=
  ⟨1, by simp [DataW.trod, Value.cells, ht, hs]⟩
end
theorem opensStr : Opens Try.prog 9 RowRel.str := opens_str Try.underlying9 (by kernel_rfl)
theorem str_small {H : Type} {enc : TypeId × Value → H} {w : World} {base : Nat} {held : Bool} {s : ByteArray} {d : DataW H} {p : List MemPlace}
    (h : DataW.Trod enc Try.prog w base (fun _ => true) held 9 (.string s) d p) (hz : (d.weights Try.prog 9).all (· ≤ reachBytes) = true) : s.size ≤ 140737488355328 := by
  obtain ⟨a, e, h2⟩ := opensStr.arg h hz
  simp [Value.cells] at e
  subst e
  exact h2
end Go.Proofs.Ytkalnaidccgbiaa
