/-
  A part of the proof: see the last text.
-/
import Derived.Test.YtbogjfbfgbhdbaaGreatDoorSEventB
namespace Go.Proofs.YtbogjfbfgbhdbaaGreatDoor
set_option linter.unusedVariables false
set_option linter.unusedSimpArgs false
open Go.RowKit
set_option linter.unusedVariables false
set_option linter.unusedSimpArgs false
set_option maxRecDepth 40000 in
set_option maxHeartbeats 8000000 in
theorem evSame_any (h g : Eh) (w : World) (Hh : EvIn w w.heap.size h) (Hg : EvIn w w.heap.size g) : Calls Tryz.prog 91 #[.agg (evC h), .agg (evC g)] w (SameIs h g w) := by
  obtain ⟨⟨k, t, bx, to, ids, st, md, fl, dt, nn, bd⟩, A1, n1, c1, A2, n2, c2, A3, n3, c3⟩ := h
  obtain ⟨⟨k', t', bx', to', ids', st', md', fl', dt', nn', bd'⟩, B1, m1, d1, B2, m2, d2, B3, m3, d3⟩ := g
  have HH := Lib.hid Hh
  have HG := Lib.hid Hg
  clear Hh Hg
  show Calls Tryz.prog 91 #[.agg #[.int .i64 k, .int .i64 t, .string bx, .string to, .slice A1 n1 c1, .slice A2 n2 c2, .int .i64 md, .int .i64 fl, .int .i64 dt, .int .i64 nn, .slice A3 n3 c3], .agg #[.int .i64 k', .int .i64 t', .string bx', .string to', .slice B1 m1 d1, .slice B2 m2 d2, .int .i64 md', .int .i64 fl', .int .i64 dt', .int .i64 nn', .slice B3 m3 d3]] w _
  by_cases hx : k = k'
  · subst hx
    by_cases hx : t = t'
    · subst hx
      by_cases hx : bx = bx'
      · subst hx
        by_cases hx : to = to'
        · subst hx
          by_cases hx : ids = ids'
          · subst hx
            by_cases hx : st = st'
            · subst hx
              by_cases hx : md = md'
              · subst hx
                by_cases hx : fl = fl'
                · subst hx
                  by_cases hx : dt = dt'
                  · subst hx
                    by_cases hx : nn = nn'
                    · subst hx
                      by_cases hx : bd = bd'
                      · subst hx
                        have HR : Hid (evEq ⟨k, t, bx, to, ids, st, md, fl, dt, nn, bd⟩ ⟨k, t, bx, to, ids, st, md, fl, dt, nn, bd⟩ = true) := Lib.hid (by simp [evEq])
                        go_enter Tryz.func91, Tryz.ntmps91
                        go_wp2_with fail
                        refine calls_overE (fun W => Bk W w.heap.size 33 #[.int .i64 k, .int .i64 t, .string bx, .string to, .slice A1 n1 c1, .slice A2 n2 c2, .int .i64 md, .int .i64 fl, .int .i64 dt, .int .i64 nn, .slice A3 n3 c3] ∧ Bk W (w.heap.size + 1) 33 #[.int .i64 k, .int .i64 t, .string bx, .string to, .slice B1 m1 d1, .slice B2 m2 d2, .int .i64 md, .int .i64 fl, .int .i64 dt, .int .i64 nn, .slice B3 m3 d3] ∧ Below w.heap.size w W) ⟨(Bk.new _ _ _).alloc _, Bk.new2 _ _ _ _, ((Below.refl _ _).alloc (Nat.le_refl _) _).alloc (by simp) _⟩ ?_
                        rintro W ⟨q1, q2, q3⟩
                        have Q1 := Lib.hid q1
                        have Q2 := Lib.hid q2
                        have Q3 := Lib.hid q3
                        clear q1 q2 q3
                        have CC := Lib.hid (evEqualI_any A1 B1 n1 c1 m1 d1 _ _ W (HH.out.later Q3.out).1 (HG.out.later Q3.out).1 HH.out.2.2.2.1 HG.out.2.2.2.1)
                        rw [decide_eq_true rfl] at CC
                        refine CC.out.mono ?_
                        rintro e W1 ⟨rfl, q, hq⟩
                        clear CC
                        replace Q1 := Lib.hid (show Bk W1 _ _ _ by rw [hq]; exact Q1.out.drewNE q)
                        replace Q2 := Lib.hid (show Bk W1 _ _ _ by rw [hq]; exact Q2.out.drewNE q)
                        replace Q3 := Lib.hid (show Below w.heap.size w W1 by rw [hq]; exact below_drewN Q3.out q)
                        clear hq
                        obtain ⟨⟨x0, x1, x2, x3, x4, x5⟩, x6, x7, x8, x9, x10⟩ := Q1.out.evs
                        obtain ⟨⟨y0, y1, y2, y3, y4, y5⟩, y6, y7, y8, y9, y10⟩ := Q2.out.evs
                        go_wp2_with fail
                        clear x0 x1 x2 x3 x4 x5 x6 x7 x8 x9 x10 y0 y1 y2 y3 y4 y5 y6 y7 y8 y9 y10
                        have CC := Lib.hid (evEqualRg_any A2 B2 n2 c2 m2 d2 _ _ W1 (HH.out.later Q3.out).2.1 (HG.out.later Q3.out).2.1 HH.out.2.2.2.2.1 HG.out.2.2.2.2.1)
                        rw [decide_eq_true rfl] at CC
                        refine CC.out.mono ?_
                        rintro e W2 ⟨rfl, q, hq⟩
                        clear CC
                        replace Q1 := Lib.hid (show Bk W2 _ _ _ by rw [hq]; exact Q1.out.drewNE q)
                        replace Q2 := Lib.hid (show Bk W2 _ _ _ by rw [hq]; exact Q2.out.drewNE q)
                        replace Q3 := Lib.hid (show Below w.heap.size w W2 by rw [hq]; exact below_drewN Q3.out q)
                        clear hq
                        obtain ⟨⟨x0, x1, x2, x3, x4, x5⟩, x6, x7, x8, x9, x10⟩ := Q1.out.evs
                        obtain ⟨⟨y0, y1, y2, y3, y4, y5⟩, y6, y7, y8, y9, y10⟩ := Q2.out.evs
                        go_wp2_with fail
                        clear x0 x1 x2 x3 x4 x5 x6 x7 x8 x9 x10 y0 y1 y2 y3 y4 y5 y6 y7 y8 y9 y10
                        have CC := Lib.hid (evbyEqual_any A3 n3 c3 _ _ B3 m3 d3 _ _ W2 (HH.out.later Q3.out).2.2.1 (HG.out.later Q3.out).2.2.1)
                        rw [decide_eq_true rfl] at CC
                        refine CC.out.mono ?_
                        rintro e w' ⟨rfl, rfl⟩
                        clear CC
                        go_wp2_with fail
                        go_ret
                        exact ⟨by rw [HR.out] <;> rfl, Q3.out⟩
                      ·
                        have HR : Hid (evEq ⟨k, t, bx, to, ids, st, md, fl, dt, nn, bd⟩ ⟨k, t, bx, to, ids, st, md, fl, dt, nn, bd'⟩ = false) := Lib.hid (by simp [evEq, hx])
                        have HNE := Lib.hid (show decide (bd = bd') = false from decide_eq_false hx)
                        clear hx
                        go_enter Tryz.func91, Tryz.ntmps91
                        go_wp2_with fail
                        refine calls_overE (fun W => Bk W w.heap.size 33 #[.int .i64 k, .int .i64 t, .string bx, .string to, .slice A1 n1 c1, .slice A2 n2 c2, .int .i64 md, .int .i64 fl, .int .i64 dt, .int .i64 nn, .slice A3 n3 c3] ∧ Bk W (w.heap.size + 1) 33 #[.int .i64 k, .int .i64 t, .string bx, .string to, .slice B1 m1 d1, .slice B2 m2 d2, .int .i64 md, .int .i64 fl, .int .i64 dt, .int .i64 nn, .slice B3 m3 d3] ∧ Below w.heap.size w W) ⟨(Bk.new _ _ _).alloc _, Bk.new2 _ _ _ _, ((Below.refl _ _).alloc (Nat.le_refl _) _).alloc (by simp) _⟩ ?_
                        rintro W ⟨q1, q2, q3⟩
                        have Q1 := Lib.hid q1
                        have Q2 := Lib.hid q2
                        have Q3 := Lib.hid q3
                        clear q1 q2 q3
                        have CC := Lib.hid (evEqualI_any A1 B1 n1 c1 m1 d1 _ _ W (HH.out.later Q3.out).1 (HG.out.later Q3.out).1 HH.out.2.2.2.1 HG.out.2.2.2.1)
                        rw [decide_eq_true rfl] at CC
                        refine CC.out.mono ?_
                        rintro e W1 ⟨rfl, q, hq⟩
                        clear CC
                        replace Q1 := Lib.hid (show Bk W1 _ _ _ by rw [hq]; exact Q1.out.drewNE q)
                        replace Q2 := Lib.hid (show Bk W1 _ _ _ by rw [hq]; exact Q2.out.drewNE q)
                        replace Q3 := Lib.hid (show Below w.heap.size w W1 by rw [hq]; exact below_drewN Q3.out q)
                        clear hq
                        obtain ⟨⟨x0, x1, x2, x3, x4, x5⟩, x6, x7, x8, x9, x10⟩ := Q1.out.evs
                        obtain ⟨⟨y0, y1, y2, y3, y4, y5⟩, y6, y7, y8, y9, y10⟩ := Q2.out.evs
                        go_wp2_with fail
                        clear x0 x1 x2 x3 x4 x5 x6 x7 x8 x9 x10 y0 y1 y2 y3 y4 y5 y6 y7 y8 y9 y10
                        have CC := Lib.hid (evEqualRg_any A2 B2 n2 c2 m2 d2 _ _ W1 (HH.out.later Q3.out).2.1 (HG.out.later Q3.out).2.1 HH.out.2.2.2.2.1 HG.out.2.2.2.2.1)
                        rw [decide_eq_true rfl] at CC
                        refine CC.out.mono ?_
                        rintro e W2 ⟨rfl, q, hq⟩
                        clear CC
                        replace Q1 := Lib.hid (show Bk W2 _ _ _ by rw [hq]; exact Q1.out.drewNE q)
                        replace Q2 := Lib.hid (show Bk W2 _ _ _ by rw [hq]; exact Q2.out.drewNE q)
                        replace Q3 := Lib.hid (show Below w.heap.size w W2 by rw [hq]; exact below_drewN Q3.out q)
                        clear hq
                        obtain ⟨⟨x0, x1, x2, x3, x4, x5⟩, x6, x7, x8, x9, x10⟩ := Q1.out.evs
                        obtain ⟨⟨y0, y1, y2, y3, y4, y5⟩, y6, y7, y8, y9, y10⟩ := Q2.out.evs
                        go_wp2_with fail
                        clear x0 x1 x2 x3 x4 x5 x6 x7 x8 x9 x10 y0 y1 y2 y3 y4 y5 y6 y7 y8 y9 y10
                        have CC := Lib.hid (evbyEqual_any A3 n3 c3 _ _ B3 m3 d3 _ _ W2 (HH.out.later Q3.out).2.2.1 (HG.out.later Q3.out).2.2.1)
                        dsimp only at CC; rw [HNE.out] at CC
                        refine CC.out.mono ?_
                        rintro e w' ⟨rfl, rfl⟩
                        clear CC
                        go_wp2_with fail
                        go_ret
                        exact ⟨by rw [HR.out] <;> rfl, Q3.out⟩
                    ·
                      have HR : Hid (evEq ⟨k, t, bx, to, ids, st, md, fl, dt, nn, bd⟩ ⟨k, t, bx, to, ids, st, md, fl, dt, nn', bd'⟩ = false) := Lib.hid (by simp [evEq, hx])
                      have hne := int_neE hx
                      clear hx
                      go_enter Tryz.func91, Tryz.ntmps91
                      go_wp2_with fail
                      refine calls_overE (fun W => Bk W w.heap.size 33 #[.int .i64 k, .int .i64 t, .string bx, .string to, .slice A1 n1 c1, .slice A2 n2 c2, .int .i64 md, .int .i64 fl, .int .i64 dt, .int .i64 nn, .slice A3 n3 c3] ∧ Bk W (w.heap.size + 1) 33 #[.int .i64 k, .int .i64 t, .string bx, .string to, .slice B1 m1 d1, .slice B2 m2 d2, .int .i64 md, .int .i64 fl, .int .i64 dt, .int .i64 nn', .slice B3 m3 d3] ∧ Below w.heap.size w W) ⟨(Bk.new _ _ _).alloc _, Bk.new2 _ _ _ _, ((Below.refl _ _).alloc (Nat.le_refl _) _).alloc (by simp) _⟩ ?_
                      rintro W ⟨q1, q2, q3⟩
                      have Q1 := Lib.hid q1
                      have Q2 := Lib.hid q2
                      have Q3 := Lib.hid q3
                      clear q1 q2 q3
                      have CC := Lib.hid (evEqualI_any A1 B1 n1 c1 m1 d1 _ _ W (HH.out.later Q3.out).1 (HG.out.later Q3.out).1 HH.out.2.2.2.1 HG.out.2.2.2.1)
                      rw [decide_eq_true rfl] at CC
                      refine CC.out.mono ?_
                      rintro e W1 ⟨rfl, q, hq⟩
                      clear CC
                      replace Q1 := Lib.hid (show Bk W1 _ _ _ by rw [hq]; exact Q1.out.drewNE q)
                      replace Q2 := Lib.hid (show Bk W1 _ _ _ by rw [hq]; exact Q2.out.drewNE q)
                      replace Q3 := Lib.hid (show Below w.heap.size w W1 by rw [hq]; exact below_drewN Q3.out q)
                      clear hq
                      obtain ⟨⟨x0, x1, x2, x3, x4, x5⟩, x6, x7, x8, x9, x10⟩ := Q1.out.evs
                      obtain ⟨⟨y0, y1, y2, y3, y4, y5⟩, y6, y7, y8, y9, y10⟩ := Q2.out.evs
                      go_wp2_with fail
                      clear x0 x1 x2 x3 x4 x5 x6 x7 x8 x9 x10 y0 y1 y2 y3 y4 y5 y6 y7 y8 y9 y10
                      have CC := Lib.hid (evEqualRg_any A2 B2 n2 c2 m2 d2 _ _ W1 (HH.out.later Q3.out).2.1 (HG.out.later Q3.out).2.1 HH.out.2.2.2.2.1 HG.out.2.2.2.2.1)
                      rw [decide_eq_true rfl] at CC
                      refine CC.out.mono ?_
                      rintro e W2 ⟨rfl, q, hq⟩
                      clear CC
                      replace Q1 := Lib.hid (show Bk W2 _ _ _ by rw [hq]; exact Q1.out.drewNE q)
                      replace Q2 := Lib.hid (show Bk W2 _ _ _ by rw [hq]; exact Q2.out.drewNE q)
                      replace Q3 := Lib.hid (show Below w.heap.size w W2 by rw [hq]; exact below_drewN Q3.out q)
                      clear hq
                      obtain ⟨⟨x0, x1, x2, x3, x4, x5⟩, x6, x7, x8, x9, x10⟩ := Q1.out.evs
                      obtain ⟨⟨y0, y1, y2, y3, y4, y5⟩, y6, y7, y8, y9, y10⟩ := Q2.out.evs
                      go_wp2_with fail
                      clear x0 x1 x2 x3 x4 x5 x6 x7 x8 x9 x10 y0 y1 y2 y3 y4 y5 y6 y7 y8 y9 y10
                      go_ret
                      exact ⟨by rw [HR.out] <;> rfl, Q3.out⟩
                  ·
                    have HR : Hid (evEq ⟨k, t, bx, to, ids, st, md, fl, dt, nn, bd⟩ ⟨k, t, bx, to, ids, st, md, fl, dt', nn', bd'⟩ = false) := Lib.hid (by simp [evEq, hx])
                    have hne := int_neE hx
                    clear hx
                    go_enter Tryz.func91, Tryz.ntmps91
                    go_wp2_with fail
                    refine calls_overE (fun W => Bk W w.heap.size 33 #[.int .i64 k, .int .i64 t, .string bx, .string to, .slice A1 n1 c1, .slice A2 n2 c2, .int .i64 md, .int .i64 fl, .int .i64 dt, .int .i64 nn, .slice A3 n3 c3] ∧ Bk W (w.heap.size + 1) 33 #[.int .i64 k, .int .i64 t, .string bx, .string to, .slice B1 m1 d1, .slice B2 m2 d2, .int .i64 md, .int .i64 fl, .int .i64 dt', .int .i64 nn', .slice B3 m3 d3] ∧ Below w.heap.size w W) ⟨(Bk.new _ _ _).alloc _, Bk.new2 _ _ _ _, ((Below.refl _ _).alloc (Nat.le_refl _) _).alloc (by simp) _⟩ ?_
                    rintro W ⟨q1, q2, q3⟩
                    have Q1 := Lib.hid q1
                    have Q2 := Lib.hid q2
                    have Q3 := Lib.hid q3
                    clear q1 q2 q3
                    have CC := Lib.hid (evEqualI_any A1 B1 n1 c1 m1 d1 _ _ W (HH.out.later Q3.out).1 (HG.out.later Q3.out).1 HH.out.2.2.2.1 HG.out.2.2.2.1)
                    rw [decide_eq_true rfl] at CC
                    refine CC.out.mono ?_
                    rintro e W1 ⟨rfl, q, hq⟩
                    clear CC
                    replace Q1 := Lib.hid (show Bk W1 _ _ _ by rw [hq]; exact Q1.out.drewNE q)
                    replace Q2 := Lib.hid (show Bk W1 _ _ _ by rw [hq]; exact Q2.out.drewNE q)
                    replace Q3 := Lib.hid (show Below w.heap.size w W1 by rw [hq]; exact below_drewN Q3.out q)
                    clear hq
                    obtain ⟨⟨x0, x1, x2, x3, x4, x5⟩, x6, x7, x8, x9, x10⟩ := Q1.out.evs
                    obtain ⟨⟨y0, y1, y2, y3, y4, y5⟩, y6, y7, y8, y9, y10⟩ := Q2.out.evs
                    go_wp2_with fail
                    clear x0 x1 x2 x3 x4 x5 x6 x7 x8 x9 x10 y0 y1 y2 y3 y4 y5 y6 y7 y8 y9 y10
                    have CC := Lib.hid (evEqualRg_any A2 B2 n2 c2 m2 d2 _ _ W1 (HH.out.later Q3.out).2.1 (HG.out.later Q3.out).2.1 HH.out.2.2.2.2.1 HG.out.2.2.2.2.1)
                    rw [decide_eq_true rfl] at CC
                    refine CC.out.mono ?_
                    rintro e W2 ⟨rfl, q, hq⟩
                    clear CC
                    replace Q1 := Lib.hid (show Bk W2 _ _ _ by rw [hq]; exact Q1.out.drewNE q)
                    replace Q2 := Lib.hid (show Bk W2 _ _ _ by rw [hq]; exact Q2.out.drewNE q)
                    replace Q3 := Lib.hid (show Below w.heap.size w W2 by rw [hq]; exact below_drewN Q3.out q)
                    clear hq
                    obtain ⟨⟨x0, x1, x2, x3, x4, x5⟩, x6, x7, x8, x9, x10⟩ := Q1.out.evs
                    obtain ⟨⟨y0, y1, y2, y3, y4, y5⟩, y6, y7, y8, y9, y10⟩ := Q2.out.evs
                    go_wp2_with fail
                    clear x0 x1 x2 x3 x4 x5 x6 x7 x8 x9 x10 y0 y1 y2 y3 y4 y5 y6 y7 y8 y9 y10
                    go_ret
                    exact ⟨by rw [HR.out] <;> rfl, Q3.out⟩
                ·
                  have HR : Hid (evEq ⟨k, t, bx, to, ids, st, md, fl, dt, nn, bd⟩ ⟨k, t, bx, to, ids, st, md, fl', dt', nn', bd'⟩ = false) := Lib.hid (by simp [evEq, hx])
                  have hne := int_neE hx
                  clear hx
                  go_enter Tryz.func91, Tryz.ntmps91
                  go_wp2_with fail
                  refine calls_overE (fun W => Bk W w.heap.size 33 #[.int .i64 k, .int .i64 t, .string bx, .string to, .slice A1 n1 c1, .slice A2 n2 c2, .int .i64 md, .int .i64 fl, .int .i64 dt, .int .i64 nn, .slice A3 n3 c3] ∧ Bk W (w.heap.size + 1) 33 #[.int .i64 k, .int .i64 t, .string bx, .string to, .slice B1 m1 d1, .slice B2 m2 d2, .int .i64 md, .int .i64 fl', .int .i64 dt', .int .i64 nn', .slice B3 m3 d3] ∧ Below w.heap.size w W) ⟨(Bk.new _ _ _).alloc _, Bk.new2 _ _ _ _, ((Below.refl _ _).alloc (Nat.le_refl _) _).alloc (by simp) _⟩ ?_
                  rintro W ⟨q1, q2, q3⟩
                  have Q1 := Lib.hid q1
                  have Q2 := Lib.hid q2
                  have Q3 := Lib.hid q3
                  clear q1 q2 q3
                  have CC := Lib.hid (evEqualI_any A1 B1 n1 c1 m1 d1 _ _ W (HH.out.later Q3.out).1 (HG.out.later Q3.out).1 HH.out.2.2.2.1 HG.out.2.2.2.1)
                  rw [decide_eq_true rfl] at CC
                  refine CC.out.mono ?_
                  rintro e W1 ⟨rfl, q, hq⟩
                  clear CC
                  replace Q1 := Lib.hid (show Bk W1 _ _ _ by rw [hq]; exact Q1.out.drewNE q)
                  replace Q2 := Lib.hid (show Bk W1 _ _ _ by rw [hq]; exact Q2.out.drewNE q)
                  replace Q3 := Lib.hid (show Below w.heap.size w W1 by rw [hq]; exact below_drewN Q3.out q)
                  clear hq
                  obtain ⟨⟨x0, x1, x2, x3, x4, x5⟩, x6, x7, x8, x9, x10⟩ := Q1.out.evs
                  obtain ⟨⟨y0, y1, y2, y3, y4, y5⟩, y6, y7, y8, y9, y10⟩ := Q2.out.evs
                  go_wp2_with fail
                  clear x0 x1 x2 x3 x4 x5 x6 x7 x8 x9 x10 y0 y1 y2 y3 y4 y5 y6 y7 y8 y9 y10
                  have CC := Lib.hid (evEqualRg_any A2 B2 n2 c2 m2 d2 _ _ W1 (HH.out.later Q3.out).2.1 (HG.out.later Q3.out).2.1 HH.out.2.2.2.2.1 HG.out.2.2.2.2.1)
                  rw [decide_eq_true rfl] at CC
                  refine CC.out.mono ?_
                  rintro e W2 ⟨rfl, q, hq⟩
                  clear CC
                  replace Q1 := Lib.hid (show Bk W2 _ _ _ by rw [hq]; exact Q1.out.drewNE q)
                  replace Q2 := Lib.hid (show Bk W2 _ _ _ by rw [hq]; exact Q2.out.drewNE q)
                  replace Q3 := Lib.hid (show Below w.heap.size w W2 by rw [hq]; exact below_drewN Q3.out q)
                  clear hq
                  obtain ⟨⟨x0, x1, x2, x3, x4, x5⟩, x6, x7, x8, x9, x10⟩ := Q1.out.evs
                  obtain ⟨⟨y0, y1, y2, y3, y4, y5⟩, y6, y7, y8, y9, y10⟩ := Q2.out.evs
                  go_wp2_with fail
                  clear x0 x1 x2 x3 x4 x5 x6 x7 x8 x9 x10 y0 y1 y2 y3 y4 y5 y6 y7 y8 y9 y10
                  go_ret
                  exact ⟨by rw [HR.out] <;> rfl, Q3.out⟩
              ·
                have HR : Hid (evEq ⟨k, t, bx, to, ids, st, md, fl, dt, nn, bd⟩ ⟨k, t, bx, to, ids, st, md', fl', dt', nn', bd'⟩ = false) := Lib.hid (by simp [evEq, hx])
                have hne := int_neE hx
                clear hx
                go_enter Tryz.func91, Tryz.ntmps91
                go_wp2_with fail
                refine calls_overE (fun W => Bk W w.heap.size 33 #[.int .i64 k, .int .i64 t, .string bx, .string to, .slice A1 n1 c1, .slice A2 n2 c2, .int .i64 md, .int .i64 fl, .int .i64 dt, .int .i64 nn, .slice A3 n3 c3] ∧ Bk W (w.heap.size + 1) 33 #[.int .i64 k, .int .i64 t, .string bx, .string to, .slice B1 m1 d1, .slice B2 m2 d2, .int .i64 md', .int .i64 fl', .int .i64 dt', .int .i64 nn', .slice B3 m3 d3] ∧ Below w.heap.size w W) ⟨(Bk.new _ _ _).alloc _, Bk.new2 _ _ _ _, ((Below.refl _ _).alloc (Nat.le_refl _) _).alloc (by simp) _⟩ ?_
                rintro W ⟨q1, q2, q3⟩
                have Q1 := Lib.hid q1
                have Q2 := Lib.hid q2
                have Q3 := Lib.hid q3
                clear q1 q2 q3
                have CC := Lib.hid (evEqualI_any A1 B1 n1 c1 m1 d1 _ _ W (HH.out.later Q3.out).1 (HG.out.later Q3.out).1 HH.out.2.2.2.1 HG.out.2.2.2.1)
                rw [decide_eq_true rfl] at CC
                refine CC.out.mono ?_
                rintro e W1 ⟨rfl, q, hq⟩
                clear CC
                replace Q1 := Lib.hid (show Bk W1 _ _ _ by rw [hq]; exact Q1.out.drewNE q)
                replace Q2 := Lib.hid (show Bk W1 _ _ _ by rw [hq]; exact Q2.out.drewNE q)
                replace Q3 := Lib.hid (show Below w.heap.size w W1 by rw [hq]; exact below_drewN Q3.out q)
                clear hq
                obtain ⟨⟨x0, x1, x2, x3, x4, x5⟩, x6, x7, x8, x9, x10⟩ := Q1.out.evs
                obtain ⟨⟨y0, y1, y2, y3, y4, y5⟩, y6, y7, y8, y9, y10⟩ := Q2.out.evs
                go_wp2_with fail
                clear x0 x1 x2 x3 x4 x5 x6 x7 x8 x9 x10 y0 y1 y2 y3 y4 y5 y6 y7 y8 y9 y10
                have CC := Lib.hid (evEqualRg_any A2 B2 n2 c2 m2 d2 _ _ W1 (HH.out.later Q3.out).2.1 (HG.out.later Q3.out).2.1 HH.out.2.2.2.2.1 HG.out.2.2.2.2.1)
                rw [decide_eq_true rfl] at CC
                refine CC.out.mono ?_
                rintro e W2 ⟨rfl, q, hq⟩
                clear CC
                replace Q1 := Lib.hid (show Bk W2 _ _ _ by rw [hq]; exact Q1.out.drewNE q)
                replace Q2 := Lib.hid (show Bk W2 _ _ _ by rw [hq]; exact Q2.out.drewNE q)
                replace Q3 := Lib.hid (show Below w.heap.size w W2 by rw [hq]; exact below_drewN Q3.out q)
                clear hq
                obtain ⟨⟨x0, x1, x2, x3, x4, x5⟩, x6, x7, x8, x9, x10⟩ := Q1.out.evs
                obtain ⟨⟨y0, y1, y2, y3, y4, y5⟩, y6, y7, y8, y9, y10⟩ := Q2.out.evs
                go_wp2_with fail
                clear x0 x1 x2 x3 x4 x5 x6 x7 x8 x9 x10 y0 y1 y2 y3 y4 y5 y6 y7 y8 y9 y10
                go_ret
                exact ⟨by rw [HR.out] <;> rfl, Q3.out⟩
            ·
              have HR : Hid (evEq ⟨k, t, bx, to, ids, st, md, fl, dt, nn, bd⟩ ⟨k, t, bx, to, ids, st', md', fl', dt', nn', bd'⟩ = false) := Lib.hid (by simp [evEq, hx])
              have HNE := Lib.hid (show decide (st = st') = false from decide_eq_false hx)
              clear hx
              go_enter Tryz.func91, Tryz.ntmps91
              go_wp2_with fail
              refine calls_overE (fun W => Bk W w.heap.size 33 #[.int .i64 k, .int .i64 t, .string bx, .string to, .slice A1 n1 c1, .slice A2 n2 c2, .int .i64 md, .int .i64 fl, .int .i64 dt, .int .i64 nn, .slice A3 n3 c3] ∧ Bk W (w.heap.size + 1) 33 #[.int .i64 k, .int .i64 t, .string bx, .string to, .slice B1 m1 d1, .slice B2 m2 d2, .int .i64 md', .int .i64 fl', .int .i64 dt', .int .i64 nn', .slice B3 m3 d3] ∧ Below w.heap.size w W) ⟨(Bk.new _ _ _).alloc _, Bk.new2 _ _ _ _, ((Below.refl _ _).alloc (Nat.le_refl _) _).alloc (by simp) _⟩ ?_
              rintro W ⟨q1, q2, q3⟩
              have Q1 := Lib.hid q1
              have Q2 := Lib.hid q2
              have Q3 := Lib.hid q3
              clear q1 q2 q3
              have CC := Lib.hid (evEqualI_any A1 B1 n1 c1 m1 d1 _ _ W (HH.out.later Q3.out).1 (HG.out.later Q3.out).1 HH.out.2.2.2.1 HG.out.2.2.2.1)
              rw [decide_eq_true rfl] at CC
              refine CC.out.mono ?_
              rintro e W1 ⟨rfl, q, hq⟩
              clear CC
              replace Q1 := Lib.hid (show Bk W1 _ _ _ by rw [hq]; exact Q1.out.drewNE q)
              replace Q2 := Lib.hid (show Bk W1 _ _ _ by rw [hq]; exact Q2.out.drewNE q)
              replace Q3 := Lib.hid (show Below w.heap.size w W1 by rw [hq]; exact below_drewN Q3.out q)
              clear hq
              obtain ⟨⟨x0, x1, x2, x3, x4, x5⟩, x6, x7, x8, x9, x10⟩ := Q1.out.evs
              obtain ⟨⟨y0, y1, y2, y3, y4, y5⟩, y6, y7, y8, y9, y10⟩ := Q2.out.evs
              go_wp2_with fail
              clear x0 x1 x2 x3 x4 x5 x6 x7 x8 x9 x10 y0 y1 y2 y3 y4 y5 y6 y7 y8 y9 y10
              have CC := Lib.hid (evEqualRg_any A2 B2 n2 c2 m2 d2 _ _ W1 (HH.out.later Q3.out).2.1 (HG.out.later Q3.out).2.1 HH.out.2.2.2.2.1 HG.out.2.2.2.2.1)
              dsimp only at CC; rw [HNE.out] at CC
              refine CC.out.mono ?_
              rintro e W2 ⟨rfl, q, hq⟩
              clear CC
              replace Q1 := Lib.hid (show Bk W2 _ _ _ by rw [hq]; exact Q1.out.drewNE q)
              replace Q2 := Lib.hid (show Bk W2 _ _ _ by rw [hq]; exact Q2.out.drewNE q)
              replace Q3 := Lib.hid (show Below w.heap.size w W2 by rw [hq]; exact below_drewN Q3.out q)
              clear hq
              obtain ⟨⟨x0, x1, x2, x3, x4, x5⟩, x6, x7, x8, x9, x10⟩ := Q1.out.evs
              obtain ⟨⟨y0, y1, y2, y3, y4, y5⟩, y6, y7, y8, y9, y10⟩ := Q2.out.evs
              go_wp2_with fail
              clear x0 x1 x2 x3 x4 x5 x6 x7 x8 x9 x10 y0 y1 y2 y3 y4 y5 y6 y7 y8 y9 y10
              go_ret
              exact ⟨by rw [HR.out] <;> rfl, Q3.out⟩
          ·
            have HR : Hid (evEq ⟨k, t, bx, to, ids, st, md, fl, dt, nn, bd⟩ ⟨k, t, bx, to, ids', st', md', fl', dt', nn', bd'⟩ = false) := Lib.hid (by simp [evEq, hx])
            have HNE := Lib.hid (show decide (ids = ids') = false from decide_eq_false hx)
            clear hx
            go_enter Tryz.func91, Tryz.ntmps91
            go_wp2_with fail
            refine calls_overE (fun W => Bk W w.heap.size 33 #[.int .i64 k, .int .i64 t, .string bx, .string to, .slice A1 n1 c1, .slice A2 n2 c2, .int .i64 md, .int .i64 fl, .int .i64 dt, .int .i64 nn, .slice A3 n3 c3] ∧ Bk W (w.heap.size + 1) 33 #[.int .i64 k, .int .i64 t, .string bx, .string to, .slice B1 m1 d1, .slice B2 m2 d2, .int .i64 md', .int .i64 fl', .int .i64 dt', .int .i64 nn', .slice B3 m3 d3] ∧ Below w.heap.size w W) ⟨(Bk.new _ _ _).alloc _, Bk.new2 _ _ _ _, ((Below.refl _ _).alloc (Nat.le_refl _) _).alloc (by simp) _⟩ ?_
            rintro W ⟨q1, q2, q3⟩
            have Q1 := Lib.hid q1
            have Q2 := Lib.hid q2
            have Q3 := Lib.hid q3
            clear q1 q2 q3
            have CC := Lib.hid (evEqualI_any A1 B1 n1 c1 m1 d1 _ _ W (HH.out.later Q3.out).1 (HG.out.later Q3.out).1 HH.out.2.2.2.1 HG.out.2.2.2.1)
            dsimp only at CC; rw [HNE.out] at CC
            refine CC.out.mono ?_
            rintro e W1 ⟨rfl, q, hq⟩
            clear CC
            replace Q1 := Lib.hid (show Bk W1 _ _ _ by rw [hq]; exact Q1.out.drewNE q)
            replace Q2 := Lib.hid (show Bk W1 _ _ _ by rw [hq]; exact Q2.out.drewNE q)
            replace Q3 := Lib.hid (show Below w.heap.size w W1 by rw [hq]; exact below_drewN Q3.out q)
            clear hq
            obtain ⟨⟨x0, x1, x2, x3, x4, x5⟩, x6, x7, x8, x9, x10⟩ := Q1.out.evs
            obtain ⟨⟨y0, y1, y2, y3, y4, y5⟩, y6, y7, y8, y9, y10⟩ := Q2.out.evs
            go_wp2_with fail
            clear x0 x1 x2 x3 x4 x5 x6 x7 x8 x9 x10 y0 y1 y2 y3 y4 y5 y6 y7 y8 y9 y10
            go_ret
            exact ⟨by rw [HR.out] <;> rfl, Q3.out⟩
        ·
          have HR : Hid (evEq ⟨k, t, bx, to, ids, st, md, fl, dt, nn, bd⟩ ⟨k, t, bx, to', ids', st', md', fl', dt', nn', bd'⟩ = false) := Lib.hid (by simp [evEq, hx])
          have hne := str_ne hx
          clear hx
          go_enter Tryz.func91, Tryz.ntmps91
          go_wp2_with fail
          go_ret
          exact ⟨by rw [HR.out] <;> rfl, ((Below.refl _ _).alloc (Nat.le_refl _) _).alloc (by simp) _⟩
      ·
        have HR : Hid (evEq ⟨k, t, bx, to, ids, st, md, fl, dt, nn, bd⟩ ⟨k, t, bx', to', ids', st', md', fl', dt', nn', bd'⟩ = false) := Lib.hid (by simp [evEq, hx])
        have hne := str_ne hx
        clear hx
        go_enter Tryz.func91, Tryz.ntmps91
        go_wp2_with fail
        go_ret
        exact ⟨by rw [HR.out] <;> rfl, ((Below.refl _ _).alloc (Nat.le_refl _) _).alloc (by simp) _⟩
    ·
      have HR : Hid (evEq ⟨k, t, bx, to, ids, st, md, fl, dt, nn, bd⟩ ⟨k, t', bx', to', ids', st', md', fl', dt', nn', bd'⟩ = false) := Lib.hid (by simp [evEq, hx])
      have hne := int_neE hx
      clear hx
      go_enter Tryz.func91, Tryz.ntmps91
      go_wp2_with fail
      go_ret
      exact ⟨by rw [HR.out] <;> rfl, ((Below.refl _ _).alloc (Nat.le_refl _) _).alloc (by simp) _⟩
  ·
    have HR : Hid (evEq ⟨k, t, bx, to, ids, st, md, fl, dt, nn, bd⟩ ⟨k', t', bx', to', ids', st', md', fl', dt', nn', bd'⟩ = false) := Lib.hid (by simp [evEq, hx])
    have hne := int_neE hx
    clear hx
    go_enter Tryz.func91, Tryz.ntmps91
    go_wp2_with fail
    go_ret
    exact ⟨by rw [HR.out] <;> rfl, ((Below.refl _ _).alloc (Nat.le_refl _) _).alloc (by simp) _⟩
end Go.Proofs.YtbogjfbfgbhdbaaGreatDoor
