/-
  The fixed fact of layer 12's statements; the law Reads.
-/
import Derived.Test.YtoiffchhfnbooaaDoorQEventO
import Derived.Test.YtoiffchhfnbooaaDoorQEventJ
import Derived.Test.YtoiffchhfnbooaaDoorQEventD
namespace Go.Proofs.YtoiffchhfnbooaaDoor
set_option linter.unusedVariables false
set_option linter.unusedSimpArgs false
open Go.RowKit
set_option linter.unusedVariables false
set_option linter.unusedSimpArgs false

def relE : Ev := ⟨13, 7, noText, noText, [], [], 0, 0, 0, 3, []⟩
def relH : Eh := ⟨relE, none, 0, 0, none, 0, 0, none, 0, 0⟩
theorem relE_right : rightE relE = true := by decide +kernel
theorem relE_bytes : bytesE relE = [0, 0, 0, 0, 0, 0, 0, 13, 0, 0, 0, 0, 0, 0, 0, 7, 0, 0, 0, 0, 0, 0, 0, 3] := by decide +kernel
theorem relH_in (w : World) (B : Nat) : EvIn w B relH := ⟨Col.nil, ColK.nil, Bytes.nil, Nat.zero_le _, Nat.zero_le _, Nat.zero_le _, Nat.zero_le _, Nat.zero_le _⟩
/-- what an event's box holds, where the event is known -/
structure Boxd (w : World) (b : Nat) (E : Ev) (H : Eh) : Prop where
  bx : Bk w b 34 (evC H)
  val : H.e = E
  inn : EvIn w w.heap.size H
theorem Boxd.below {w w' : World} {b : Nat} {E : Ev} {H : Eh} (d : Boxd w b E H) (hb : Below w.heap.size w w') : Boxd w' b E H := ⟨d.bx.below hb d.bx.lt, d.val, d.inn.later hb⟩
theorem Boxd.new {w w' : World} {E : Ev} {H : Eh} (hv : H.e = E) (hin : EvIn w w.heap.size H) (hw : Hid (w' = (w.alloc (.cells (evC (bareH 0 0)) 34)).setRow w.heap.size (splice (evC (bareH 0 0)).toList 0 (evC H).toList).toArray)) : Boxd w' w.heap.size E H ∧ Below w.heap.size w w' := by
  have hw' := w_setRow_allE hw (by rw [evC_size, evC_size])
  have hb : Below w.heap.size w w' := by rw [hw']; exact below_setRow ((Below.refl _ _).alloc (Nat.le_refl _) _) (Nat.le_refl _) _
  exact ⟨⟨by rw [hw']; exact (Bk.new w 34 (evC (bareH 0 0))).setRow_same _, hv, hin.later hb⟩, hb⟩
end Go.Proofs.YtoiffchhfnbooaaDoor
