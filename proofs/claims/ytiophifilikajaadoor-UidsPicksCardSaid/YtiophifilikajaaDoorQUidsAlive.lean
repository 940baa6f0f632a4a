/-
  The fixed fact of package uids' laws holds of the program.
-/
import Derived.Test.YtiophifilikajaaDoorQUidsF
import Derived.Test.YtiophifilikajaaDoorQUidsB3
namespace Go.Proofs.YtiophifilikajaaDoor
set_option linter.unusedVariables false
set_option linter.unusedSimpArgs false
open Go.RowKit
set_option linter.unusedVariables false
set_option linter.unusedSimpArgs false

theorem uParse_any (s : ByteArray) (hs : s.size ≤ 140737488355328) (w : World) (hS : Std w) : Calls Tryd.prog 9 #[.string s] w (ParseIs w (nats s)) := by
  by_cases h : 2000 < s.size
  · exact uParse_long s hs h w
  · exact uParse_main s h w hS
def fix1 : List Rg := [(2, 2), (4, 7), (9, 9), (12, 0)]
theorem fix_parse1 (w : World) (hS : Std w) : Calls Tryd.prog 9 #[.string ⟨#[50, 44, 52, 58, 55, 44, 57, 44, 49, 50, 58, 42]⟩] w fun e w' => ∃ A c, e = .returned (.tuple #[.slice A 4 c, .int .i64 0]) ∧ ColK 2 rgC w' w'.heap.size A 4 fix1 ∧ Below w.heap.size w w' := by
  have h1 : parsE (nats ⟨#[50, 44, 52, 58, 55, 44, 57, 44, 49, 50, 58, 42]⟩) = 0 := by decide +kernel
  have h2 : parsV (nats ⟨#[50, 44, 52, 58, 55, 44, 57, 44, 49, 50, 58, 42]⟩) = fix1 := by decide +kernel
  refine (uParse_any _ (by decide) w hS).mono ?_
  rintro e w' ⟨A, n, c, rfl, hc, hb⟩
  rw [h1]
  rw [h2] at hc
  obtain rfl : 4 = n := hc.1
  exact ⟨A, c, rfl, hc, hb⟩
theorem fix_parse2 (w : World) (hS : Std w) : Calls Tryd.prog 9 #[.string ⟨#[48, 49]⟩] w fun e w' => ∃ A n c, e = .returned (.tuple #[.slice A n c, .int .i64 3]) ∧ Below w.heap.size w w' := by
  have h1 : parsE (nats ⟨#[48, 49]⟩) = 3 := by decide +kernel
  refine (uParse_any _ (by decide) w hS).mono ?_
  rintro e w' ⟨A, n, c, rfl, hc, hb⟩
  rw [h1]
  exact ⟨A, n, c, rfl, hb⟩
theorem col_new (w : World) (l : List Int) : Col ints (w.alloc (.cells (l.map ints).toArray 3)) (w.alloc (.cells (l.map ints).toArray 3)).heap.size (some ⟨w.heap.size, 0, none⟩) l.length l := by
  refine ⟨rfl, fun _ => ⟨w.heap.size, 0, rfl, by simp, fun i a ha => ?_⟩⟩
  rw [Nat.zero_add, cell_of_row _ w.heap.size i _ _ (0, 0) (heap_alloc_new w _)]
  simp [ha]
theorem fix_has1 : hasZ fix1 5 15 = true := by decide +kernel
theorem fix_has2 : hasZ fix1 15 15 = true := by decide +kernel
theorem fix_has3 : hasZ fix1 3 15 = false := by decide +kernel
theorem fix_pick : pickZ fix1 [2, 3, 20] = [2, 20] := by decide +kernel

set_option maxRecDepth 20000 in
set_option maxHeartbeats 4000000 in
theorem alive09_any (w : World) (hS : Std w) : Calls Tryd.prog 8 #[] w fun e w' => e = .returned (.bool true) ∧ Below w.heap.size w w' := by
  have HS := Lib.hid hS
  clear hS
  go_enter Tryd.func8, Tryd.ntmps8
  go_wp2_with fail
  refine (fix_parse1 w HS.out).mono ?_
  rintro e w1 ⟨A, c, rfl, hc1, hb1⟩
  have HC1 := Lib.hid hc1
  have HB1 := Lib.hid hb1
  clear hc1 hb1
  go_wp2_with fail
  refine (fix_parse2 w1 (HS.out.below HB1.out)).mono ?_
  rintro e w2 ⟨A2, n2, c2, rfl, hb2⟩
  have HC2 := Lib.hid (HC1.out.later hb2)
  have HB2 := Lib.hid (HB1.out.trans (hb2.mono HB1.out.size))
  clear hb2 HC1 HB1
  go_wp2_with fail
  refine (uHas_any A 4 c 15 5 fix1 w2 HC2.out (by omega)).mono ?_
  rintro e w3 ⟨rfl, hb3⟩
  rw [fix_has1]
  have HC3 := Lib.hid (HC2.out.later hb3)
  have HB3 := Lib.hid (HB2.out.trans (hb3.mono HB2.out.size))
  clear hb3 HC2 HB2
  go_wp2_with fail
  refine (uHas_any A 4 c 15 15 fix1 w3 HC3.out (by omega)).mono ?_
  rintro e w4 ⟨rfl, hb4⟩
  rw [fix_has2]
  have HC4 := Lib.hid (HC3.out.later hb4)
  have HB4 := Lib.hid (HB3.out.trans (hb4.mono HB3.out.size))
  clear hb4 HC3 HB3
  go_wp2_with fail
  refine (uHas_any A 4 c 15 3 fix1 w4 HC4.out (by omega)).mono ?_
  rintro e w5 ⟨rfl, hb5⟩
  rw [fix_has3]
  have HC5 := Lib.hid (HC4.out.later hb5)
  have HB5 := Lib.hid (HB4.out.trans (hb5.mono HB4.out.size))
  clear hb5 HC4 HB4
  go_wp2_with fail
  have hbA : Below w5.heap.size w5 (w5.alloc (.cells ([2, 3, 20].map ints).toArray 3)) := (Below.refl _ _).alloc (Nat.le_refl _) _
  refine (uPick_any A (some ⟨w5.heap.size, 0, none⟩) 4 c 3 3 fix1 [2, 3, 20] _ (HC5.out.later hbA) (by omega) (col_new w5 [2, 3, 20]) (by omega)).mono ?_
  rintro e w6 ⟨A6, n6, c6, rfl, hc6, hb6⟩
  rw [fix_pick] at hc6
  have HB6 := Lib.hid (HB5.out.trans ((hbA.trans (hb6.mono hbA.size)).mono HB5.out.size))
  have hl6 : n6 = 2 := hc6.1.symm
  subst hl6
  have HC6 := Lib.hid hc6
  clear hb6 hc6 hbA HC5 HB5
  go_wp2_with fail
  have hbB : Below w6.heap.size w6 (w6.alloc (.cells ([2, 20].map ints).toArray 3)) := (Below.refl _ _).alloc (Nat.le_refl _) _
  refine (x9Ints_any A6 (some ⟨w6.heap.size, 0, none⟩) 2 c6 2 2 [2, 20] [2, 20] _ (HC6.out.later hbB) (col_new w6 [2, 20]) (by omega) (by omega)).mono ?_
  rintro e w7 ⟨rfl, q, rfl⟩
  have HB7 := Lib.hid (below_drewN (HB6.out.trans (hbB.mono HB6.out.size)) q)
  clear hbB
  go_wp2_with fail
  go_ret
  exact ⟨rfl, HB7.out⟩
end Go.Proofs.YtiophifilikajaaDoor
