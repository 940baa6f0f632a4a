/-
  Contracts over package event: a part of an event set to zero.
-/
import Derived.Test.YtoiffchhfnbooaaGreatDoorQNameB
namespace Go.Proofs.YtoiffchhfnbooaaGreatDoor
set_option linter.unusedVariables false
set_option linter.unusedSimpArgs false
open Go.RowKit
set_option linter.unusedVariables false
set_option linter.unusedSimpArgs false

def OutIs (h : Eh) (c : Nat) (w : World) (e : Ending) (w' : World) : Prop := e = .returned (.agg (evC (outH h c))) ∧ Below w.heap.size w w'

set_option maxRecDepth 20000 in
set_option maxHeartbeats 2000000 in
theorem evwithout_98 (h : Eh) (w : World) : Calls Tryz.prog 64 #[.agg (evC h), .int .i32 98] w (OutIs h 98 w) := by
  obtain ⟨⟨k, t, bx, to, ids, st, md, fl, dt, nn, bd⟩, A1, n1, c1, A2, n2, c2, A3, n3, c3⟩ := h
  obtain ⟨H, hH⟩ : ∃ H : Eh, outH ⟨⟨k, t, bx, to, ids, st, md, fl, dt, nn, bd⟩, A1, n1, c1, A2, n2, c2, A3, n3, c3⟩ 98 = H := ⟨_, rfl⟩
  have b1 : Bk ((w.alloc (.cells (evC H) 29)).alloc (.cells (evC (bareH 0 0)) 29)) w.heap.size 29 (evC H) := (Bk.new _ _ _).alloc _
  have b2 : Bk ((w.alloc (.cells (evC H) 29)).alloc (.cells (evC (bareH 0 0)) 29)) (w.heap.size + 1) 29 (evC (bareH 0 0)) := Bk.new2 _ _ _ _
  have hB : Below w.heap.size w ((w.alloc (.cells (evC H) 29)).alloc (.cells (evC (bareH 0 0)) 29)) := ((Below.refl _ _).alloc (Nat.le_refl _) _).alloc (by simp) _
  have B1 := Lib.hid b1
  have B2 := Lib.hid b2
  have HB := Lib.hid hB
  have HH := Lib.hid hH
  clear b1 b2 hB hH
  show Calls Tryz.prog 64 #[.agg #[.int .i64 k, .int .i64 t, .string bx, .string to, .slice A1 n1 c1, .slice A2 n2 c2, .int .i64 md, .int .i64 fl, .int .i64 dt, .int .i64 nn, .slice A3 n3 c3], .int .i32 98] w _
  go_enter Tryz.func64, Tryz.ntmps64
  go_wp2_with ((with_reducible show wpList _ _ _ (⟨some 33, _, _, _, _, _⟩ :: _) _ _); refine hold ?_)
  refine list_overE (fun W => Bk W w.heap.size 29 (evC H) ∧ Bk W (w.heap.size + 1) 29 (evC (bareH 0 0)) ∧ Below w.heap.size w W) (by rw [← HH.out] at B1 B2 HB ⊢; exact ⟨B1.out, B2.out, HB.out⟩) ?_
  rintro W ⟨q1, q2, q3⟩
  have Q1 := Lib.hid q1
  have Q2 := Lib.hid q2
  have Q3 := Lib.hid q3
  clear q1 q2 q3 B1 B2 HB
  refine held (wpList_load_mid rfl 29 (.tmp 2) rfl w.heap.size 0 rfl _ _ Q1.out.range Tryz.underlying29 rfl (by kernel_rfl) ?_)
  refine wpList_store_wide rfl 29 (.tmp 4) (.tmp 33) rfl (w.heap.size + 1) 0 (evC H) rfl rfl 29 _ Q2.out (by rw [evC_size, evC_size]; decide) (by rw [evC_size]; exact info_ev) (evC_one _) ?_
  intro w' hw'
  obtain rfl := w_setRow_allE hw' (by rw [evC_size, evC_size])
  go_wp2_with fail
  refine bodyPost_ret (results_cell (a := ⟨w.heap.size + 1, 0, none⟩) rfl rfl (Bk.ev (Bk.setRow_same Q2.out _))) rfl ⟨by rw [HH.out], below_setRow Q3.out (by omega) _⟩
set_option maxRecDepth 20000 in
set_option maxHeartbeats 2000000 in
theorem evwithout_116 (h : Eh) (w : World) : Calls Tryz.prog 64 #[.agg (evC h), .int .i32 116] w (OutIs h 116 w) := by
  obtain ⟨⟨k, t, bx, to, ids, st, md, fl, dt, nn, bd⟩, A1, n1, c1, A2, n2, c2, A3, n3, c3⟩ := h
  obtain ⟨H, hH⟩ : ∃ H : Eh, outH ⟨⟨k, t, bx, to, ids, st, md, fl, dt, nn, bd⟩, A1, n1, c1, A2, n2, c2, A3, n3, c3⟩ 116 = H := ⟨_, rfl⟩
  have b1 : Bk ((w.alloc (.cells (evC H) 29)).alloc (.cells (evC (bareH 0 0)) 29)) w.heap.size 29 (evC H) := (Bk.new _ _ _).alloc _
  have b2 : Bk ((w.alloc (.cells (evC H) 29)).alloc (.cells (evC (bareH 0 0)) 29)) (w.heap.size + 1) 29 (evC (bareH 0 0)) := Bk.new2 _ _ _ _
  have hB : Below w.heap.size w ((w.alloc (.cells (evC H) 29)).alloc (.cells (evC (bareH 0 0)) 29)) := ((Below.refl _ _).alloc (Nat.le_refl _) _).alloc (by simp) _
  have B1 := Lib.hid b1
  have B2 := Lib.hid b2
  have HB := Lib.hid hB
  have HH := Lib.hid hH
  clear b1 b2 hB hH
  show Calls Tryz.prog 64 #[.agg #[.int .i64 k, .int .i64 t, .string bx, .string to, .slice A1 n1 c1, .slice A2 n2 c2, .int .i64 md, .int .i64 fl, .int .i64 dt, .int .i64 nn, .slice A3 n3 c3], .int .i32 116] w _
  go_enter Tryz.func64, Tryz.ntmps64
  go_wp2_with ((with_reducible show wpList _ _ _ (⟨some 33, _, _, _, _, _⟩ :: _) _ _); refine hold ?_)
  refine list_overE (fun W => Bk W w.heap.size 29 (evC H) ∧ Bk W (w.heap.size + 1) 29 (evC (bareH 0 0)) ∧ Below w.heap.size w W) (by rw [← HH.out] at B1 B2 HB ⊢; exact ⟨B1.out, B2.out, HB.out⟩) ?_
  rintro W ⟨q1, q2, q3⟩
  have Q1 := Lib.hid q1
  have Q2 := Lib.hid q2
  have Q3 := Lib.hid q3
  clear q1 q2 q3 B1 B2 HB
  refine held (wpList_load_mid rfl 29 (.tmp 2) rfl w.heap.size 0 rfl _ _ Q1.out.range Tryz.underlying29 rfl (by kernel_rfl) ?_)
  refine wpList_store_wide rfl 29 (.tmp 4) (.tmp 33) rfl (w.heap.size + 1) 0 (evC H) rfl rfl 29 _ Q2.out (by rw [evC_size, evC_size]; decide) (by rw [evC_size]; exact info_ev) (evC_one _) ?_
  intro w' hw'
  obtain rfl := w_setRow_allE hw' (by rw [evC_size, evC_size])
  go_wp2_with fail
  refine bodyPost_ret (results_cell (a := ⟨w.heap.size + 1, 0, none⟩) rfl rfl (Bk.ev (Bk.setRow_same Q2.out _))) rfl ⟨by rw [HH.out], below_setRow Q3.out (by omega) _⟩
set_option maxRecDepth 20000 in
set_option maxHeartbeats 2000000 in
theorem evwithout_105 (h : Eh) (w : World) : Calls Tryz.prog 64 #[.agg (evC h), .int .i32 105] w (OutIs h 105 w) := by
  obtain ⟨⟨k, t, bx, to, ids, st, md, fl, dt, nn, bd⟩, A1, n1, c1, A2, n2, c2, A3, n3, c3⟩ := h
  obtain ⟨H, hH⟩ : ∃ H : Eh, outH ⟨⟨k, t, bx, to, ids, st, md, fl, dt, nn, bd⟩, A1, n1, c1, A2, n2, c2, A3, n3, c3⟩ 105 = H := ⟨_, rfl⟩
  have b1 : Bk ((w.alloc (.cells (evC H) 29)).alloc (.cells (evC (bareH 0 0)) 29)) w.heap.size 29 (evC H) := (Bk.new _ _ _).alloc _
  have b2 : Bk ((w.alloc (.cells (evC H) 29)).alloc (.cells (evC (bareH 0 0)) 29)) (w.heap.size + 1) 29 (evC (bareH 0 0)) := Bk.new2 _ _ _ _
  have hB : Below w.heap.size w ((w.alloc (.cells (evC H) 29)).alloc (.cells (evC (bareH 0 0)) 29)) := ((Below.refl _ _).alloc (Nat.le_refl _) _).alloc (by simp) _
  have B1 := Lib.hid b1
  have B2 := Lib.hid b2
  have HB := Lib.hid hB
  have HH := Lib.hid hH
  clear b1 b2 hB hH
  show Calls Tryz.prog 64 #[.agg #[.int .i64 k, .int .i64 t, .string bx, .string to, .slice A1 n1 c1, .slice A2 n2 c2, .int .i64 md, .int .i64 fl, .int .i64 dt, .int .i64 nn, .slice A3 n3 c3], .int .i32 105] w _
  go_enter Tryz.func64, Tryz.ntmps64
  go_wp2_with ((with_reducible show wpList _ _ _ (⟨some 33, _, _, _, _, _⟩ :: _) _ _); refine hold ?_)
  refine list_overE (fun W => Bk W w.heap.size 29 (evC H) ∧ Bk W (w.heap.size + 1) 29 (evC (bareH 0 0)) ∧ Below w.heap.size w W) (by rw [← HH.out] at B1 B2 HB ⊢; exact ⟨B1.out, B2.out, HB.out⟩) ?_
  rintro W ⟨q1, q2, q3⟩
  have Q1 := Lib.hid q1
  have Q2 := Lib.hid q2
  have Q3 := Lib.hid q3
  clear q1 q2 q3 B1 B2 HB
  refine held (wpList_load_mid rfl 29 (.tmp 2) rfl w.heap.size 0 rfl _ _ Q1.out.range Tryz.underlying29 rfl (by kernel_rfl) ?_)
  refine wpList_store_wide rfl 29 (.tmp 4) (.tmp 33) rfl (w.heap.size + 1) 0 (evC H) rfl rfl 29 _ Q2.out (by rw [evC_size, evC_size]; decide) (by rw [evC_size]; exact info_ev) (evC_one _) ?_
  intro w' hw'
  obtain rfl := w_setRow_allE hw' (by rw [evC_size, evC_size])
  go_wp2_with fail
  refine bodyPost_ret (results_cell (a := ⟨w.heap.size + 1, 0, none⟩) rfl rfl (Bk.ev (Bk.setRow_same Q2.out _))) rfl ⟨by rw [HH.out], below_setRow Q3.out (by omega) _⟩
set_option maxRecDepth 20000 in
set_option maxHeartbeats 2000000 in
theorem evwithout_115 (h : Eh) (w : World) : Calls Tryz.prog 64 #[.agg (evC h), .int .i32 115] w (OutIs h 115 w) := by
  obtain ⟨⟨k, t, bx, to, ids, st, md, fl, dt, nn, bd⟩, A1, n1, c1, A2, n2, c2, A3, n3, c3⟩ := h
  obtain ⟨H, hH⟩ : ∃ H : Eh, outH ⟨⟨k, t, bx, to, ids, st, md, fl, dt, nn, bd⟩, A1, n1, c1, A2, n2, c2, A3, n3, c3⟩ 115 = H := ⟨_, rfl⟩
  have b1 : Bk ((w.alloc (.cells (evC H) 29)).alloc (.cells (evC (bareH 0 0)) 29)) w.heap.size 29 (evC H) := (Bk.new _ _ _).alloc _
  have b2 : Bk ((w.alloc (.cells (evC H) 29)).alloc (.cells (evC (bareH 0 0)) 29)) (w.heap.size + 1) 29 (evC (bareH 0 0)) := Bk.new2 _ _ _ _
  have hB : Below w.heap.size w ((w.alloc (.cells (evC H) 29)).alloc (.cells (evC (bareH 0 0)) 29)) := ((Below.refl _ _).alloc (Nat.le_refl _) _).alloc (by simp) _
  have B1 := Lib.hid b1
  have B2 := Lib.hid b2
  have HB := Lib.hid hB
  have HH := Lib.hid hH
  clear b1 b2 hB hH
  show Calls Tryz.prog 64 #[.agg #[.int .i64 k, .int .i64 t, .string bx, .string to, .slice A1 n1 c1, .slice A2 n2 c2, .int .i64 md, .int .i64 fl, .int .i64 dt, .int .i64 nn, .slice A3 n3 c3], .int .i32 115] w _
  go_enter Tryz.func64, Tryz.ntmps64
  go_wp2_with ((with_reducible show wpList _ _ _ (⟨some 33, _, _, _, _, _⟩ :: _) _ _); refine hold ?_)
  refine list_overE (fun W => Bk W w.heap.size 29 (evC H) ∧ Bk W (w.heap.size + 1) 29 (evC (bareH 0 0)) ∧ Below w.heap.size w W) (by rw [← HH.out] at B1 B2 HB ⊢; exact ⟨B1.out, B2.out, HB.out⟩) ?_
  rintro W ⟨q1, q2, q3⟩
  have Q1 := Lib.hid q1
  have Q2 := Lib.hid q2
  have Q3 := Lib.hid q3
  clear q1 q2 q3 B1 B2 HB
  refine held (wpList_load_mid rfl 29 (.tmp 2) rfl w.heap.size 0 rfl _ _ Q1.out.range Tryz.underlying29 rfl (by kernel_rfl) ?_)
  refine wpList_store_wide rfl 29 (.tmp 4) (.tmp 33) rfl (w.heap.size + 1) 0 (evC H) rfl rfl 29 _ Q2.out (by rw [evC_size, evC_size]; decide) (by rw [evC_size]; exact info_ev) (evC_one _) ?_
  intro w' hw'
  obtain rfl := w_setRow_allE hw' (by rw [evC_size, evC_size])
  go_wp2_with fail
  refine bodyPost_ret (results_cell (a := ⟨w.heap.size + 1, 0, none⟩) rfl rfl (Bk.ev (Bk.setRow_same Q2.out _))) rfl ⟨by rw [HH.out], below_setRow Q3.out (by omega) _⟩
set_option maxRecDepth 20000 in
set_option maxHeartbeats 2000000 in
theorem evwithout_109 (h : Eh) (w : World) : Calls Tryz.prog 64 #[.agg (evC h), .int .i32 109] w (OutIs h 109 w) := by
  obtain ⟨⟨k, t, bx, to, ids, st, md, fl, dt, nn, bd⟩, A1, n1, c1, A2, n2, c2, A3, n3, c3⟩ := h
  obtain ⟨H, hH⟩ : ∃ H : Eh, outH ⟨⟨k, t, bx, to, ids, st, md, fl, dt, nn, bd⟩, A1, n1, c1, A2, n2, c2, A3, n3, c3⟩ 109 = H := ⟨_, rfl⟩
  have b1 : Bk ((w.alloc (.cells (evC H) 29)).alloc (.cells (evC (bareH 0 0)) 29)) w.heap.size 29 (evC H) := (Bk.new _ _ _).alloc _
  have b2 : Bk ((w.alloc (.cells (evC H) 29)).alloc (.cells (evC (bareH 0 0)) 29)) (w.heap.size + 1) 29 (evC (bareH 0 0)) := Bk.new2 _ _ _ _
  have hB : Below w.heap.size w ((w.alloc (.cells (evC H) 29)).alloc (.cells (evC (bareH 0 0)) 29)) := ((Below.refl _ _).alloc (Nat.le_refl _) _).alloc (by simp) _
  have B1 := Lib.hid b1
  have B2 := Lib.hid b2
  have HB := Lib.hid hB
  have HH := Lib.hid hH
  clear b1 b2 hB hH
  show Calls Tryz.prog 64 #[.agg #[.int .i64 k, .int .i64 t, .string bx, .string to, .slice A1 n1 c1, .slice A2 n2 c2, .int .i64 md, .int .i64 fl, .int .i64 dt, .int .i64 nn, .slice A3 n3 c3], .int .i32 109] w _
  go_enter Tryz.func64, Tryz.ntmps64
  go_wp2_with ((with_reducible show wpList _ _ _ (⟨some 33, _, _, _, _, _⟩ :: _) _ _); refine hold ?_)
  refine list_overE (fun W => Bk W w.heap.size 29 (evC H) ∧ Bk W (w.heap.size + 1) 29 (evC (bareH 0 0)) ∧ Below w.heap.size w W) (by rw [← HH.out] at B1 B2 HB ⊢; exact ⟨B1.out, B2.out, HB.out⟩) ?_
  rintro W ⟨q1, q2, q3⟩
  have Q1 := Lib.hid q1
  have Q2 := Lib.hid q2
  have Q3 := Lib.hid q3
  clear q1 q2 q3 B1 B2 HB
  refine held (wpList_load_mid rfl 29 (.tmp 2) rfl w.heap.size 0 rfl _ _ Q1.out.range Tryz.underlying29 rfl (by kernel_rfl) ?_)
  refine wpList_store_wide rfl 29 (.tmp 4) (.tmp 33) rfl (w.heap.size + 1) 0 (evC H) rfl rfl 29 _ Q2.out (by rw [evC_size, evC_size]; decide) (by rw [evC_size]; exact info_ev) (evC_one _) ?_
  intro w' hw'
  obtain rfl := w_setRow_allE hw' (by rw [evC_size, evC_size])
  go_wp2_with fail
  refine bodyPost_ret (results_cell (a := ⟨w.heap.size + 1, 0, none⟩) rfl rfl (Bk.ev (Bk.setRow_same Q2.out _))) rfl ⟨by rw [HH.out], below_setRow Q3.out (by omega) _⟩
set_option maxRecDepth 20000 in
set_option maxHeartbeats 2000000 in
theorem evwithout_102 (h : Eh) (w : World) : Calls Tryz.prog 64 #[.agg (evC h), .int .i32 102] w (OutIs h 102 w) := by
  obtain ⟨⟨k, t, bx, to, ids, st, md, fl, dt, nn, bd⟩, A1, n1, c1, A2, n2, c2, A3, n3, c3⟩ := h
  obtain ⟨H, hH⟩ : ∃ H : Eh, outH ⟨⟨k, t, bx, to, ids, st, md, fl, dt, nn, bd⟩, A1, n1, c1, A2, n2, c2, A3, n3, c3⟩ 102 = H := ⟨_, rfl⟩
  have b1 : Bk ((w.alloc (.cells (evC H) 29)).alloc (.cells (evC (bareH 0 0)) 29)) w.heap.size 29 (evC H) := (Bk.new _ _ _).alloc _
  have b2 : Bk ((w.alloc (.cells (evC H) 29)).alloc (.cells (evC (bareH 0 0)) 29)) (w.heap.size + 1) 29 (evC (bareH 0 0)) := Bk.new2 _ _ _ _
  have hB : Below w.heap.size w ((w.alloc (.cells (evC H) 29)).alloc (.cells (evC (bareH 0 0)) 29)) := ((Below.refl _ _).alloc (Nat.le_refl _) _).alloc (by simp) _
  have B1 := Lib.hid b1
  have B2 := Lib.hid b2
  have HB := Lib.hid hB
  have HH := Lib.hid hH
  clear b1 b2 hB hH
  show Calls Tryz.prog 64 #[.agg #[.int .i64 k, .int .i64 t, .string bx, .string to, .slice A1 n1 c1, .slice A2 n2 c2, .int .i64 md, .int .i64 fl, .int .i64 dt, .int .i64 nn, .slice A3 n3 c3], .int .i32 102] w _
  go_enter Tryz.func64, Tryz.ntmps64
  go_wp2_with ((with_reducible show wpList _ _ _ (⟨some 33, _, _, _, _, _⟩ :: _) _ _); refine hold ?_)
  refine list_overE (fun W => Bk W w.heap.size 29 (evC H) ∧ Bk W (w.heap.size + 1) 29 (evC (bareH 0 0)) ∧ Below w.heap.size w W) (by rw [← HH.out] at B1 B2 HB ⊢; exact ⟨B1.out, B2.out, HB.out⟩) ?_
  rintro W ⟨q1, q2, q3⟩
  have Q1 := Lib.hid q1
  have Q2 := Lib.hid q2
  have Q3 := Lib.hid q3
  clear q1 q2 q3 B1 B2 HB
  refine held (wpList_load_mid rfl 29 (.tmp 2) rfl w.heap.size 0 rfl _ _ Q1.out.range Tryz.underlying29 rfl (by kernel_rfl) ?_)
  refine wpList_store_wide rfl 29 (.tmp 4) (.tmp 33) rfl (w.heap.size + 1) 0 (evC H) rfl rfl 29 _ Q2.out (by rw [evC_size, evC_size]; decide) (by rw [evC_size]; exact info_ev) (evC_one _) ?_
  intro w' hw'
  obtain rfl := w_setRow_allE hw' (by rw [evC_size, evC_size])
  go_wp2_with fail
  refine bodyPost_ret (results_cell (a := ⟨w.heap.size + 1, 0, none⟩) rfl rfl (Bk.ev (Bk.setRow_same Q2.out _))) rfl ⟨by rw [HH.out], below_setRow Q3.out (by omega) _⟩
set_option maxRecDepth 20000 in
set_option maxHeartbeats 2000000 in
theorem evwithout_100 (h : Eh) (w : World) : Calls Tryz.prog 64 #[.agg (evC h), .int .i32 100] w (OutIs h 100 w) := by
  obtain ⟨⟨k, t, bx, to, ids, st, md, fl, dt, nn, bd⟩, A1, n1, c1, A2, n2, c2, A3, n3, c3⟩ := h
  obtain ⟨H, hH⟩ : ∃ H : Eh, outH ⟨⟨k, t, bx, to, ids, st, md, fl, dt, nn, bd⟩, A1, n1, c1, A2, n2, c2, A3, n3, c3⟩ 100 = H := ⟨_, rfl⟩
  have b1 : Bk ((w.alloc (.cells (evC H) 29)).alloc (.cells (evC (bareH 0 0)) 29)) w.heap.size 29 (evC H) := (Bk.new _ _ _).alloc _
  have b2 : Bk ((w.alloc (.cells (evC H) 29)).alloc (.cells (evC (bareH 0 0)) 29)) (w.heap.size + 1) 29 (evC (bareH 0 0)) := Bk.new2 _ _ _ _
  have hB : Below w.heap.size w ((w.alloc (.cells (evC H) 29)).alloc (.cells (evC (bareH 0 0)) 29)) := ((Below.refl _ _).alloc (Nat.le_refl _) _).alloc (by simp) _
  have B1 := Lib.hid b1
  have B2 := Lib.hid b2
  have HB := Lib.hid hB
  have HH := Lib.hid hH
  clear b1 b2 hB hH
  show Calls Tryz.prog 64 #[.agg #[.int .i64 k, .int .i64 t, .string bx, .string to, .slice A1 n1 c1, .slice A2 n2 c2, .int .i64 md, .int .i64 fl, .int .i64 dt, .int .i64 nn, .slice A3 n3 c3], .int .i32 100] w _
  go_enter Tryz.func64, Tryz.ntmps64
  go_wp2_with ((with_reducible show wpList _ _ _ (⟨some 33, _, _, _, _, _⟩ :: _) _ _); refine hold ?_)
  refine list_overE (fun W => Bk W w.heap.size 29 (evC H) ∧ Bk W (w.heap.size + 1) 29 (evC (bareH 0 0)) ∧ Below w.heap.size w W) (by rw [← HH.out] at B1 B2 HB ⊢; exact ⟨B1.out, B2.out, HB.out⟩) ?_
  rintro W ⟨q1, q2, q3⟩
  have Q1 := Lib.hid q1
  have Q2 := Lib.hid q2
  have Q3 := Lib.hid q3
  clear q1 q2 q3 B1 B2 HB
  refine held (wpList_load_mid rfl 29 (.tmp 2) rfl w.heap.size 0 rfl _ _ Q1.out.range Tryz.underlying29 rfl (by kernel_rfl) ?_)
  refine wpList_store_wide rfl 29 (.tmp 4) (.tmp 33) rfl (w.heap.size + 1) 0 (evC H) rfl rfl 29 _ Q2.out (by rw [evC_size, evC_size]; decide) (by rw [evC_size]; exact info_ev) (evC_one _) ?_
  intro w' hw'
  obtain rfl := w_setRow_allE hw' (by rw [evC_size, evC_size])
  go_wp2_with fail
  refine bodyPost_ret (results_cell (a := ⟨w.heap.size + 1, 0, none⟩) rfl rfl (Bk.ev (Bk.setRow_same Q2.out _))) rfl ⟨by rw [HH.out], below_setRow Q3.out (by omega) _⟩
set_option maxRecDepth 20000 in
set_option maxHeartbeats 2000000 in
theorem evwithout_110 (h : Eh) (w : World) : Calls Tryz.prog 64 #[.agg (evC h), .int .i32 110] w (OutIs h 110 w) := by
  obtain ⟨⟨k, t, bx, to, ids, st, md, fl, dt, nn, bd⟩, A1, n1, c1, A2, n2, c2, A3, n3, c3⟩ := h
  obtain ⟨H, hH⟩ : ∃ H : Eh, outH ⟨⟨k, t, bx, to, ids, st, md, fl, dt, nn, bd⟩, A1, n1, c1, A2, n2, c2, A3, n3, c3⟩ 110 = H := ⟨_, rfl⟩
  have b1 : Bk ((w.alloc (.cells (evC H) 29)).alloc (.cells (evC (bareH 0 0)) 29)) w.heap.size 29 (evC H) := (Bk.new _ _ _).alloc _
  have b2 : Bk ((w.alloc (.cells (evC H) 29)).alloc (.cells (evC (bareH 0 0)) 29)) (w.heap.size + 1) 29 (evC (bareH 0 0)) := Bk.new2 _ _ _ _
  have hB : Below w.heap.size w ((w.alloc (.cells (evC H) 29)).alloc (.cells (evC (bareH 0 0)) 29)) := ((Below.refl _ _).alloc (Nat.le_refl _) _).alloc (by simp) _
  have B1 := Lib.hid b1
  have B2 := Lib.hid b2
  have HB := Lib.hid hB
  have HH := Lib.hid hH
  clear b1 b2 hB hH
  show Calls Tryz.prog 64 #[.agg #[.int .i64 k, .int .i64 t, .string bx, .string to, .slice A1 n1 c1, .slice A2 n2 c2, .int .i64 md, .int .i64 fl, .int .i64 dt, .int .i64 nn, .slice A3 n3 c3], .int .i32 110] w _
  go_enter Tryz.func64, Tryz.ntmps64
  go_wp2_with ((with_reducible show wpList _ _ _ (⟨some 33, _, _, _, _, _⟩ :: _) _ _); refine hold ?_)
  refine list_overE (fun W => Bk W w.heap.size 29 (evC H) ∧ Bk W (w.heap.size + 1) 29 (evC (bareH 0 0)) ∧ Below w.heap.size w W) (by rw [← HH.out] at B1 B2 HB ⊢; exact ⟨B1.out, B2.out, HB.out⟩) ?_
  rintro W ⟨q1, q2, q3⟩
  have Q1 := Lib.hid q1
  have Q2 := Lib.hid q2
  have Q3 := Lib.hid q3
  clear q1 q2 q3 B1 B2 HB
  refine held (wpList_load_mid rfl 29 (.tmp 2) rfl w.heap.size 0 rfl _ _ Q1.out.range Tryz.underlying29 rfl (by kernel_rfl) ?_)
  refine wpList_store_wide rfl 29 (.tmp 4) (.tmp 33) rfl (w.heap.size + 1) 0 (evC H) rfl rfl 29 _ Q2.out (by rw [evC_size, evC_size]; decide) (by rw [evC_size]; exact info_ev) (evC_one _) ?_
  intro w' hw'
  obtain rfl := w_setRow_allE hw' (by rw [evC_size, evC_size])
  go_wp2_with fail
  refine bodyPost_ret (results_cell (a := ⟨w.heap.size + 1, 0, none⟩) rfl rfl (Bk.ev (Bk.setRow_same Q2.out _))) rfl ⟨by rw [HH.out], below_setRow Q3.out (by omega) _⟩
set_option maxRecDepth 20000 in
set_option maxHeartbeats 2000000 in
theorem evwithout_121 (h : Eh) (w : World) : Calls Tryz.prog 64 #[.agg (evC h), .int .i32 121] w (OutIs h 121 w) := by
  obtain ⟨⟨k, t, bx, to, ids, st, md, fl, dt, nn, bd⟩, A1, n1, c1, A2, n2, c2, A3, n3, c3⟩ := h
  obtain ⟨H, hH⟩ : ∃ H : Eh, outH ⟨⟨k, t, bx, to, ids, st, md, fl, dt, nn, bd⟩, A1, n1, c1, A2, n2, c2, A3, n3, c3⟩ 121 = H := ⟨_, rfl⟩
  have b1 : Bk ((w.alloc (.cells (evC H) 29)).alloc (.cells (evC (bareH 0 0)) 29)) w.heap.size 29 (evC H) := (Bk.new _ _ _).alloc _
  have b2 : Bk ((w.alloc (.cells (evC H) 29)).alloc (.cells (evC (bareH 0 0)) 29)) (w.heap.size + 1) 29 (evC (bareH 0 0)) := Bk.new2 _ _ _ _
  have hB : Below w.heap.size w ((w.alloc (.cells (evC H) 29)).alloc (.cells (evC (bareH 0 0)) 29)) := ((Below.refl _ _).alloc (Nat.le_refl _) _).alloc (by simp) _
  have B1 := Lib.hid b1
  have B2 := Lib.hid b2
  have HB := Lib.hid hB
  have HH := Lib.hid hH
  clear b1 b2 hB hH
  show Calls Tryz.prog 64 #[.agg #[.int .i64 k, .int .i64 t, .string bx, .string to, .slice A1 n1 c1, .slice A2 n2 c2, .int .i64 md, .int .i64 fl, .int .i64 dt, .int .i64 nn, .slice A3 n3 c3], .int .i32 121] w _
  go_enter Tryz.func64, Tryz.ntmps64
  go_wp2_with ((with_reducible show wpList _ _ _ (⟨some 33, _, _, _, _, _⟩ :: _) _ _); refine hold ?_)
  refine list_overE (fun W => Bk W w.heap.size 29 (evC H) ∧ Bk W (w.heap.size + 1) 29 (evC (bareH 0 0)) ∧ Below w.heap.size w W) (by rw [← HH.out] at B1 B2 HB ⊢; exact ⟨B1.out, B2.out, HB.out⟩) ?_
  rintro W ⟨q1, q2, q3⟩
  have Q1 := Lib.hid q1
  have Q2 := Lib.hid q2
  have Q3 := Lib.hid q3
  clear q1 q2 q3 B1 B2 HB
  refine held (wpList_load_mid rfl 29 (.tmp 2) rfl w.heap.size 0 rfl _ _ Q1.out.range Tryz.underlying29 rfl (by kernel_rfl) ?_)
  refine wpList_store_wide rfl 29 (.tmp 4) (.tmp 33) rfl (w.heap.size + 1) 0 (evC H) rfl rfl 29 _ Q2.out (by rw [evC_size, evC_size]; decide) (by rw [evC_size]; exact info_ev) (evC_one _) ?_
  intro w' hw'
  obtain rfl := w_setRow_allE hw' (by rw [evC_size, evC_size])
  go_wp2_with fail
  refine bodyPost_ret (results_cell (a := ⟨w.heap.size + 1, 0, none⟩) rfl rfl (Bk.ev (Bk.setRow_same Q2.out _))) rfl ⟨by rw [HH.out], below_setRow Q3.out (by omega) _⟩
theorem evwithout_any (h : Eh) {c : Nat} (hc : c ∈ nineL) (w : World) : Calls Tryz.prog 64 #[.agg (evC h), .int .i32 (c : Int)] w (OutIs h c w) := by
  rcases nine_cases hc with rfl | rfl | rfl | rfl | rfl | rfl | rfl | rfl | rfl
  · exact evwithout_98 h w
  · exact evwithout_116 h w
  · exact evwithout_105 h w
  · exact evwithout_115 h w
  · exact evwithout_109 h w
  · exact evwithout_102 h w
  · exact evwithout_100 h w
  · exact evwithout_110 h w
  · exact evwithout_121 h w
end Go.Proofs.YtoiffchhfnbooaaGreatDoor
