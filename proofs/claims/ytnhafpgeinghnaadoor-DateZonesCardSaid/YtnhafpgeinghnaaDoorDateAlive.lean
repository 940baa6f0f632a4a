/-
  The fixed fact of package date's laws holds of the program.
-/
import Derived.Test.YtnhafpgeinghnaaDoorDateParse
import Derived.Test.YtnhafpgeinghnaaDoorDateDoors
namespace Go.Proofs.YtnhafpgeinghnaaDoor
open Go.RowKit
set_option linter.unusedVariables false
set_option linter.unusedSimpArgs false

theorem fix_parse (w : World) (hM : Mon w) : Calls Tryd.prog 8 #[.string ⟨#[49, 55, 45, 74, 117, 108, 45, 49, 57, 57, 54, 32, 48, 50, 58, 52, 52, 58, 50, 53, 32, 45, 48, 55, 48, 48]⟩] w fun e w' => e = .returned (.tuple #[.int .i64 837596665, .int .i64 0]) ∧ Below w.heap.size w w' := by
  have h : parseR (nats ⟨#[49, 55, 45, 74, 117, 108, 45, 49, 57, 57, 54, 32, 48, 50, 58, 52, 52, 58, 50, 53, 32, 45, 48, 55, 48, 48]⟩) = (837596665, 0) := by decide +kernel
  refine (parse_any ⟨#[49, 55, 45, 74, 117, 108, 45, 49, 57, 57, 54, 32, 48, 50, 58, 52, 52, 58, 50, 53, 32, 45, 48, 55, 48, 48]⟩ (by decide) w hM).mono ?_
  rintro e w' ⟨rfl, hb⟩
  exact ⟨by rw [h]; rfl, hb⟩
theorem fix_print (w : World) (hM : Mon w) (hT : Tens w) : Calls Tryd.prog 14 #[.int .i64 837596665] w fun e w' => e = .returned (.tuple #[.string ⟨#[49, 55, 45, 74, 117, 108, 45, 49, 57, 57, 54, 32, 48, 57, 58, 52, 52, 58, 50, 53, 32, 43, 48, 48, 48, 48]⟩, .int .i64 0]) ∧ Below w.heap.size w w' := by
  have h : strOf (printL 1996 7 17 9 44 25) = ⟨#[49, 55, 45, 74, 117, 108, 45, 49, 57, 57, 54, 32, 48, 57, 58, 52, 52, 58, 50, 53, 32, 43, 48, 48, 48, 48]⟩ := by decide +kernel
  have ht : (837596665 : Int) = timeN 1996 7 17 9 44 25 := by decide +kernel
  refine (print_any 1996 7 17 9 44 25 837596665 (by omega) (by omega) (by decide +kernel) (by omega) (by omega) (by omega) ht w hM hT).mono ?_
  rintro e w' ⟨rfl, hb⟩
  exact ⟨by rw [h], hb⟩
theorem fix_short (w : World) (hM : Mon w) : Calls Tryd.prog 10 #[.string ⟨#[49, 45, 70, 101, 98, 45, 49, 57, 57, 52]⟩] w fun e w' => e = .returned (.tuple #[.int .i64 8797, .int .i64 0]) ∧ Below w.heap.size w w' := by
  have h : shortR (nats ⟨#[49, 45, 70, 101, 98, 45, 49, 57, 57, 52]⟩) = (8797, 0) := by decide +kernel
  refine (short_any ⟨#[49, 45, 70, 101, 98, 45, 49, 57, 57, 52]⟩ (by decide) w hM).mono ?_
  rintro e w' ⟨rfl, hb⟩
  exact ⟨by rw [h]; rfl, hb⟩
theorem fix_mail (w : World) (hM : Mon w) : Calls Tryd.prog 12 #[.string ⟨#[87, 101, 100, 44, 32, 49, 55, 32, 74, 117, 108, 32, 49, 57, 57, 54, 32, 48, 50, 58, 50, 51, 58, 50, 53, 32, 45, 48, 55, 48, 48, 32, 40, 80, 68, 84, 41]⟩] w fun e w' => e = .returned (.tuple #[.int .i64 9694, .int .i64 0]) ∧ Below w.heap.size w w' := by
  have h : mailR (nats ⟨#[87, 101, 100, 44, 32, 49, 55, 32, 74, 117, 108, 32, 49, 57, 57, 54, 32, 48, 50, 58, 50, 51, 58, 50, 53, 32, 45, 48, 55, 48, 48, 32, 40, 80, 68, 84, 41]⟩) = (9694, 0) := by decide +kernel
  refine (dmail_any ⟨#[87, 101, 100, 44, 32, 49, 55, 32, 74, 117, 108, 32, 49, 57, 57, 54, 32, 48, 50, 58, 50, 51, 58, 50, 53, 32, 45, 48, 55, 48, 48, 32, 40, 80, 68, 84, 41]⟩ (by decide) w hM).mono ?_
  rintro e w' ⟨rfl, hb⟩
  exact ⟨by rw [h]; rfl, hb⟩
theorem fix_civil (w : World) (hM : Mon w) : Calls Tryd.prog 18 #[.int .i64 9694] w fun e w' => e = .returned (.tuple #[.int .i64 1996, .int .i64 7, .int .i64 17]) ∧ w = w' :=
  civil_any 1996 7 17 9694 (by omega) (by omega) (by decide +kernel) (by decide +kernel) w hM

set_option maxRecDepth 100000 in
set_option maxHeartbeats 2000000 in
theorem alive07_any (w : World) (hM : Mon w) (hT : Tens w) : Calls Tryd.prog 7 #[] w fun e w' => e = .returned (.bool true) ∧ Below w.heap.size w w' := by
  have HM := Lib.hid hM
  have HT := Lib.hid hT
  clear hM hT
  go_enter Tryd.func7, Tryd.ntmps7
  go_wp2_with fail
  refine (fix_parse w HM.out).mono ?_
  rintro e w1 ⟨rfl, hb1⟩
  have HB1 := Lib.hid hb1
  clear hb1
  go_wp2_with fail
  refine (fix_print w1 (HM.out.below HB1.out) (HT.out.below HB1.out)).mono ?_
  rintro e w2 ⟨rfl, hb2⟩
  have HB2 := Lib.hid (HB1.out.trans (hb2.mono HB1.out.size))
  clear hb2 HB1
  go_wp2_with fail
  refine (fix_short w2 (HM.out.below HB2.out)).mono ?_
  rintro e w3 ⟨rfl, hb3⟩
  have HB3 := Lib.hid (HB2.out.trans (hb3.mono HB2.out.size))
  clear hb3 HB2
  go_wp2_with fail
  refine (fix_mail w3 (HM.out.below HB3.out)).mono ?_
  rintro e w4 ⟨rfl, hb4⟩
  have HB4 := Lib.hid (HB3.out.trans (hb4.mono HB3.out.size))
  clear hb4 HB3
  go_wp2_with fail
  refine (fix_civil w4 (HM.out.below HB4.out)).mono ?_
  rintro e w' ⟨rfl, rfl⟩
  go_wp2_with fail
  go_ret
  exact ⟨rfl, HB4.out⟩
end Go.Proofs.YtnhafpgeinghnaaDoor
