/-
  Package variables that lie as the text lays them: an array of numbers, off its datum. Of any program.
-/
import Derived.ProofKit
import Derived.LaidMore
import Derived.OpenShut
import Derived.Stop.Joined
import Derived.Test.YtkalnaidccgbiaaRowRel
namespace Go.Proofs.Ytkalnaidccgbiaa
set_option linter.unusedVariables false
set_option linter.unusedSimpArgs false
open Go.ChangeShapes Go.WideShapes Go.ChangeAt Go.RowKit

theorem trod_ints {H : Type} {enc : TypeId × Value → H} {P : Program} {w : World} {base : Nat} {sp : Nat → Bool} {held : Bool} {fuel n : Nat} {t e : TypeId} {k : IntKind} {cs : List Value} {vals : List Int} {p : List MemPlace}
    (ht : P.underlying t = some (.array n e)) (he : P.underlying e = some (.int k)) (hc : P.cellsOf e = 1) (hct : P.cellsOf t = n)
    (h : DataW.trod enc P w base sp held fuel t cs = some (.agg (vals.map fun z => .lit (.int k z)), p)) : cs = vals.map (Value.int k) := by
  obtain ⟨xs, m, rfl, hx, hl, hxl, hel⟩ := DataW.trod_array ht h
  simp only [Prod.mk.injEq, DataW.agg.injEq] at hx
  have hvl : vals.length = n := by
    have := congrArg List.length hx.1
    simp only [List.length_map] at this
    rw [this, hxl]
  apply List.ext_getElem?
  intro i
  by_cases hi : i < n
  · have h1 := hel i hi
    rw [hc, Nat.mul_one, List.getElem?_eq_getElem (by rw [hxl]; exact hi)] at h1
    have h2 : (cs.drop i).take 1 = [cs[i]'(by rw [hl, hct]; exact hi)] := by
      rw [List.drop_eq_getElem_cons (by rw [hl, hct]; exact hi)]
      rfl
    rw [h2] at h1
    obtain ⟨z, hz, hx2, _⟩ := DataW.trod_int he h1
    have h3 := congrArg (·[i]?) hx.1
    simp only [List.getElem?_map, List.getElem?_eq_getElem (show i < vals.length by omega), List.getElem?_eq_getElem (show i < xs.length by omega), Option.map_some, Option.some.injEq] at h3
    rw [hx2] at h3
    injection h3 with h3
    injection h3 with _ h3
    injection hz with hz _
    rw [List.getElem?_eq_getElem (by rw [hl, hct]; exact hi), hz, List.getElem?_map, List.getElem?_eq_getElem (by omega), ← h3]
    rfl
  · rw [List.getElem?_eq_none (by omega), List.getElem?_eq_none (by simp; omega)]
end Go.Proofs.Ytkalnaidccgbiaa
