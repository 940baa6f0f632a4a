/-
  Contracts over package rule and the document's own: two times together; is a tomb ripe?
-/
import Derived.Test.YtkalnaidccgbiaaRuleRows
import Derived.Test.YtkalnaidccgbiaaWide
import Derived.IntWalk
namespace Go.Proofs.Ytkalnaidccgbiaa
open Go.RowKit
set_option linter.unusedVariables false
set_option linter.unusedSimpArgs false

def I63 (z : Int) : Prop := z < 9223372036854775808
def tmA (t : Tm) : Array Value := #[.int .i64 t.id, .string t.box, .int .i64 t.at_, .int .i64 t.uid, .int .i64 t.flags, .int .i64 t.date, .slice t.A t.n t.c]
def mx0 (z : Int) : Int := max z 0
def tog (a k : Int) : Int := min (a + k) 4611686018427387904
theorem tog_big {a k : Int} (h : 4611686018427387904 - k < a) : tog a k = 4611686018427387904 := by unfold tog; omega
theorem tog_small {a k : Int} (h : ¬ 4611686018427387904 - k < a) : tog a k = a + k := by unfold tog; omega
theorem ripe_tog (a k n : Int) : ripeB a k n = decide (tog (mx0 a) (mx0 k) ≤ n) := rfl
set_option maxHeartbeats 400000 in
theorem together_any (a k : Int) (ha : 0 ≤ a) (ha2 : a < 9223372036854775808) (hk : 0 ≤ k) (hk2 : k < 9223372036854775808) (w : World) :
    Calls Try.prog 28 #[.int .i64 a, .int .i64 k] w fun e w' => e = .returned (.int .i64 (tog a k)) ∧ w = w' := by
  by_cases h : 4611686018427387904 - k < a
  · have HR := Lib.hid (tog_big h)
    go_enter Try.func28, Try.ntmps28
    go_wp2_with fail
    go_ret
    exact ⟨by rw [HR.out] <;> rfl, rfl⟩
  · have HR := Lib.hid (tog_small h)
    go_enter Try.func28, Try.ntmps28
    go_wp2_with fail
    go_ret
    exact ⟨by rw [HR.out] <;> rfl, rfl⟩
end Go.Proofs.Ytkalnaidccgbiaa
