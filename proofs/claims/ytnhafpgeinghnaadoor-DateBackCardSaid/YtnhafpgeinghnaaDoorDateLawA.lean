/-
  The law DateDays of package date, as a walk.
-/
import Derived.Test.YtnhafpgeinghnaaDoorDateAlive
namespace Go.Proofs.YtnhafpgeinghnaaDoor
open Go.RowKit
set_option linter.unusedVariables false
set_option linter.unusedSimpArgs false

/-- a day's date, of any number -/
theorem civil_both (n : Int) : ∃ a b c : Int, (∀ w : World, Mon w → Calls Tryd.prog 18 #[.int .i64 n] w fun e w' => e = .returned (.tuple #[.int .i64 a, .int .i64 b, .int .i64 c]) ∧ w = w') ∧
    (∀ w : World, Calls Tryd.prog 19 #[.int .i64 n] w fun e w' => e = .returned (.tuple #[.int .i64 a, .int .i64 b, .int .i64 c]) ∧ w = w') := by
  by_cases h : n < 0 ∨ 2932896 < n
  · exact ⟨0, 0, 0, fun w _ => civil_no n h w, fun w => x7civil_no n h w⟩
  · obtain ⟨k, rfl⟩ := Int.eq_ofNat_of_zero_le (show 0 ≤ n by omega)
    obtain ⟨y, m, d, h1, h2, h3, h4⟩ := civil_ex k (by omega)
    exact ⟨y, m, d, fun w hM => civil_any y m d _ h1 h2 h3 h4.symm w hM, fun w => x7civil_any y m d _ h1 h2 h3 h4.symm w⟩

set_option maxRecDepth 100000 in
set_option maxHeartbeats 2000000 in
theorem dateDays_walk (n y m d : Int) (w : World) (hM : Mon w) (hT : Tens w) :
    Calls Tryd.prog 4 #[.int .i64 n, .agg #[.int .i64 y, .int .i64 m, .int .i64 d]] w fun e w' => e = .returned (.bool true) ∧ Below w.heap.size w w' := by
  obtain ⟨a, b, c, cp, cr⟩ := civil_both n
  have CP := Lib.hid cp
  have CR := Lib.hid cr
  have hb0 : Below w.heap.size w (w.alloc (.cells #[.int .i64 y, .int .i64 m, .int .i64 d] 30)) := (Below.refl _ _).alloc (Nat.le_refl _) _
  have HB0 := Lib.hid hb0
  have HM := Lib.hid (hM.below hb0)
  have HT := Lib.hid (hT.below hb0)
  clear cp cr hM hT hb0
  go_enter Tryd.func4, Tryd.ntmps4
  go_wp2_with fail
  refine (alive07_any _ HM.out HT.out).mono ?_
  rintro e w1 ⟨rfl, hb1⟩
  have hc0 : w1.cell? ⟨w.heap.size, 0, none⟩ = some (.int .i64 y) := (hb1.cell (p := ⟨w.heap.size, 0, none⟩) (by simp)).trans (by rw [cell_of_row _ w.heap.size 0 _ _ (0, 0) (heap_alloc_new w _)]; rfl)
  have hc1 : w1.cell? ⟨w.heap.size, 1, none⟩ = some (.int .i64 m) := (hb1.cell (p := ⟨w.heap.size, 1, none⟩) (by simp)).trans (by rw [cell_of_row _ w.heap.size 1 _ _ (0, 0) (heap_alloc_new w _)]; rfl)
  have hc2 : w1.cell? ⟨w.heap.size, 2, none⟩ = some (.int .i64 d) := (hb1.cell (p := ⟨w.heap.size, 2, none⟩) (by simp)).trans (by rw [cell_of_row _ w.heap.size 2 _ _ (0, 0) (heap_alloc_new w _)]; rfl)
  have HM1 := Lib.hid (HM.out.below hb1)
  have HB1 := Lib.hid (HB0.out.trans (hb1.mono (by simp)))
  obtain ⟨g, hg⟩ : ∃ g, w.heap.size = g := ⟨_, rfl⟩
  rw [hg] at hc0 hc1 hc2 ⊢
  have HG := Lib.hid hg
  clear hb1 hg
  go_wp2_with (first
    | (go_at_call 18; refine (CP.out w1 HM1.out).mono ?_; rintro e w' ⟨rfl, rfl⟩)
    | (go_at_call 19; refine (CR.out w1).mono ?_; rintro e w' ⟨rfl, rfl⟩))
  have ca := fun k => (dNumber_any y m d (w1.drewN k) (HM1.out.keep fun _ => rfl)).mono (fun _ _ h => (⟨h.1, h.2.symm⟩ : _ ∧ _))
  have cb := fun k => (x7Number_any y m d (w1.drewN k)).mono (fun _ _ h => (⟨h.1, h.2.symm⟩ : _ ∧ _))
  go_quiet ((first | (go_at_call 20; with_reducible exact Calls.quiet_of_same (ca _)) | (go_at_call 21; with_reducible exact Calls.quiet_of_same (cb _))))
  go_wp2_with fail
  go_ret
  rw [← HG.out]
  exact ⟨rfl, below_drewN HB1.out _⟩
end Go.Proofs.YtnhafpgeinghnaaDoor
