/-
  Contracts over package uids: what is in a range, by the program.
-/
import Derived.Test.YtkalnaidccgbiaaUidsB
namespace Go.Proofs.Ytkalnaidccgbiaa
open Go.RowKit
set_option linter.unusedVariables false
set_option linter.unusedSimpArgs false
theorem ret_bool {a b : Bool} (h : a = b) : Ending.returned (.bool a) = .returned (.bool b) := by rw [h]

set_option maxRecDepth 20000 in
set_option maxHeartbeats 8000000 in
theorem uinR_any (bm bn bl : Nat) (last n x y : Int) (w : World) (hm : w.cell? ⟨bm, 0, none⟩ = some (.func (.func 45) #[] #[.pointer (some ⟨bl, 0, none⟩)])) (hn : w.cell? ⟨bn, 0, none⟩ = some (.int .i64 n)) (hl : w.cell? ⟨bl, 0, none⟩ = some (.int .i64 last)) :
    Calls Try.prog 48 #[.agg #[.int .i64 x, .int .i64 y], .pointer (some ⟨bm, 0, none⟩), .pointer (some ⟨bn, 0, none⟩)] w fun e w' => e = .returned (.bool (inR last n (x, y))) ∧ Below w.heap.size w w' := by
  have lm := World.block_lt_of_cell? _ _ hm
  have ln := World.block_lt_of_cell? _ _ hn
  have ll := World.block_lt_of_cell? _ _ hl
  have hb : Below w.heap.size w (w.alloc (.cells #[.int .i64 x, .int .i64 y] 48)) := (Below.refl _ _).alloc (Nat.le_refl _) _
  have hm' := (hb.cell (p := ⟨bm, 0, none⟩) lm).trans hm
  have hn' := (hb.cell (p := ⟨bn, 0, none⟩) ln).trans hn
  have hl' := (hb.cell (p := ⟨bl, 0, none⟩) ll).trans hl
  have c0 := fun i => cell_of_row (w.alloc (.cells #[.int .i64 x, .int .i64 y] 48)) w.heap.size i _ _ (0, 0) (heap_alloc_new w _)
  have c00 := c0 0
  have c01 := c0 1
  have HBX := Lib.hid hb
  clear hm hn hl c0 hb lm ln ll
  go_enter Try.func48, Try.ntmps48
  go_wp2_with fail
  generalize w.alloc (.cells #[.int .i64 x, .int .i64 y] 48) = w0 at *
  obtain ⟨B, hB⟩ : ∃ B, w.heap.size = B := ⟨_, rfl⟩
  rw [hB] at HBX c00 c01 ⊢
  obtain ⟨a, ha⟩ : ∃ a, meantZ last x = a := ⟨_, rfl⟩
  obtain ⟨d, hd⟩ : ∃ d, meantZ last y = d := ⟨_, rfl⟩
  have HINR : Hid (inR last n (x, y) = decide (min a d ≤ n ∧ n ≤ max a d)) := Lib.hid (by unfold inR; rw [ha, hd])
  have hmx := fun W (h : W.cell? ⟨bl, 0, none⟩ = some (.int .i64 last)) => umeant_any x last bl W h
  have hmy := fun W (h : W.cell? ⟨bl, 0, none⟩ = some (.int .i64 last)) => umeant_any y last bl W h
  rw [ha] at hmx
  rw [hd] at hmy
  have CX := fun q => Calls.quiet_of_same (hmx (w0.drewN q) hl')
  have CY := fun q => Calls.quiet_of_same (hmy (w0.drewN q) hl')
  clear hmx hmy ha hd
  by_cases hab : a ≤ d
  · have hab' : ¬ d < a := by omega
    by_cases h1 : a ≤ n
    · by_cases h2 : n ≤ d
      · have HIN : Hid (inR last n (x, y) = true) := Lib.hid (by rw [HINR.out]; exact decide_eq_true (by omega))
        go_wp2_with fail
        go_quiet ((go_at_call 45; first | (with_reducible exact CX _) | (with_reducible exact CY _)))
        go_wp2_with fail
        all_goals (go_ret; exact ⟨ret_bool (by rw [HIN.out] <;> first | rfl | exact decide_eq_true (by omega) | exact decide_eq_false (by omega)), below_drewN HBX.out _⟩)
      · have HIN : Hid (inR last n (x, y) = false) := Lib.hid (by rw [HINR.out]; exact decide_eq_false (by omega))
        go_wp2_with fail
        go_quiet ((go_at_call 45; first | (with_reducible exact CX _) | (with_reducible exact CY _)))
        go_wp2_with fail
        all_goals (go_ret; exact ⟨ret_bool (by rw [HIN.out] <;> first | rfl | exact decide_eq_true (by omega) | exact decide_eq_false (by omega)), below_drewN HBX.out _⟩)
    · have HIN : Hid (inR last n (x, y) = false) := Lib.hid (by rw [HINR.out]; exact decide_eq_false (by omega))
      go_wp2_with fail
      go_quiet ((go_at_call 45; first | (with_reducible exact CX _) | (with_reducible exact CY _)))
      go_wp2_with fail
      all_goals (go_ret; exact ⟨ret_bool (by rw [HIN.out] <;> first | rfl | exact decide_eq_true (by omega) | exact decide_eq_false (by omega)), below_drewN HBX.out _⟩)
  · have hab' : d < a := by omega
    by_cases h1 : d ≤ n
    · by_cases h2 : n ≤ a
      · have HIN : Hid (inR last n (x, y) = true) := Lib.hid (by rw [HINR.out]; exact decide_eq_true (by omega))
        go_wp2_with fail
        go_quiet ((go_at_call 45; first | (with_reducible exact CX _) | (with_reducible exact CY _)))
        go_wp2_with fail
        all_goals (go_ret; exact ⟨ret_bool (by rw [HIN.out] <;> first | rfl | exact decide_eq_true (by omega) | exact decide_eq_false (by omega)), below_drewN HBX.out _⟩)
      · have HIN : Hid (inR last n (x, y) = false) := Lib.hid (by rw [HINR.out]; exact decide_eq_false (by omega))
        go_wp2_with fail
        go_quiet ((go_at_call 45; first | (with_reducible exact CX _) | (with_reducible exact CY _)))
        go_wp2_with fail
        all_goals (go_ret; exact ⟨ret_bool (by rw [HIN.out] <;> first | rfl | exact decide_eq_true (by omega) | exact decide_eq_false (by omega)), below_drewN HBX.out _⟩)
    · have HIN : Hid (inR last n (x, y) = false) := Lib.hid (by rw [HINR.out]; exact decide_eq_false (by omega))
      go_wp2_with fail
      go_quiet ((go_at_call 45; first | (with_reducible exact CX _) | (with_reducible exact CY _)))
      go_wp2_with fail
      all_goals (go_ret; exact ⟨ret_bool (by rw [HIN.out] <;> first | rfl | exact decide_eq_true (by omega) | exact decide_eq_false (by omega)), below_drewN HBX.out _⟩)
end Go.Proofs.Ytkalnaidccgbiaa
