/-
  The fixed fact of package flag's laws holds of the program.
-/
import Derived.Test.YtloghgfcgkfefaaDoorFlagPrint
namespace Go.Proofs.YtloghgfcgkfefaaDoor
open Go.RowKit
set_option linter.unusedVariables false
set_option linter.unusedSimpArgs false

theorem fix_one (w : World) (hA : All w) : Calls Tryd.prog 7 #[.string ⟨#[92, 115, 101, 101, 110]⟩] w fun e w' => e = .returned (.tuple #[.int .i64 1, .int .i64 0]) ∧ Below w.heap.size w w' := by
  have h : oneN (nats ⟨#[92, 115, 101, 101, 110]⟩) = 1 := by decide +kernel
  refine (one_any ⟨#[92, 115, 101, 101, 110]⟩ (by decide) w hA).mono ?_
  rintro e w' ⟨z, d, rfl, hz, hd, hb⟩
  rw [h] at hz hd
  subst hz hd
  exact ⟨rfl, hb⟩
theorem fix_print (w : World) (hA : All w) : Calls Tryd.prog 13 #[.int .i64 9] w fun e w' => e = .returned (.string ⟨#[40, 92, 68, 101, 108, 101, 116, 101, 100, 32, 92, 83, 101, 101, 110, 41]⟩) ∧ Below w.heap.size w w' := by
  have h : strOf (tellN 9) = ⟨#[40, 92, 68, 101, 108, 101, 116, 101, 100, 32, 92, 83, 101, 101, 110, 41]⟩ := by decide +kernel
  refine (print_any 9 w hA).mono ?_
  rintro e w' ⟨rfl, hb⟩
  exact ⟨by rw [h], hb⟩

set_option maxRecDepth 20000 in
set_option maxHeartbeats 2000000 in
theorem alive08_any (w : World) (hA : All w) : Calls Tryd.prog 6 #[] w fun e w' => e = .returned (.bool true) ∧ Below w.heap.size w w' := by
  have HA := Lib.hid hA
  clear hA
  go_enter Tryd.func6, Tryd.ntmps6
  go_wp2_with fail
  refine (fix_one w HA.out).mono ?_
  rintro e w1 ⟨rfl, hb1⟩
  have HB1 := Lib.hid hb1
  clear hb1
  go_wp2_with fail
  refine (fix_print w1 (HA.out.below HB1.out)).mono ?_
  rintro e w2 ⟨rfl, hb2⟩
  have HB2 := Lib.hid (HB1.out.trans (hb2.mono HB1.out.size))
  clear hb2 HB1
  go_wp2_with fail
  go_ret
  exact ⟨rfl, HB2.out⟩
end Go.Proofs.YtloghgfcgkfefaaDoor
