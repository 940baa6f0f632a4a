/-
  Contracts over the document's own dates: a time is printed.
-/
import Derived.Test.YtnhafpgeinghnaaDoorDateRefH
import Derived.Test.YtnhafpgeinghnaaDoorDatePrint
namespace Go.Proofs.YtnhafpgeinghnaaDoor
open Go.RowKit
set_option linter.unusedVariables false
set_option linter.unusedSimpArgs false

theorem hold_drew {w W : World} (h : ∃ q, W = w.drewN q) (n : Nat) : ∃ q, W.drewN n = w.drewN q := by
  obtain ⟨q, rfl⟩ := h
  exact ⟨_, drewN_twice w _ _⟩
theorem months_q (w : World) : Calls Tryd.prog 40 #[] w fun e w' => e = .returned (.string monsT) ∧ w' = w := (months_any w).mono fun _ _ ⟨a, b⟩ => ⟨a, b.symm⟩
theorem digs1 (n : Nat) (hn : n < 10) (w : World) : Calls Tryd.prog 39 #[.int .i64 (n : Int), .int .i64 1] w fun e w' => e = .returned (.string (strOf [48 + n])) ∧ ∃ q, w' = w.drewN q := by
  have := digits_any 1 n (by omega) (by omega) w
  rw [digL_1 hn] at this
  exact this
theorem digs2 (n : Nat) (hn : n < 100) (w : World) : Calls Tryd.prog 39 #[.int .i64 (n : Int), .int .i64 2] w fun e w' => e = .returned (.string (strOf (dig2 n))) ∧ ∃ q, w' = w.drewN q := by
  have := digits_any 2 n (by omega) (by omega) w
  rw [digL_2 hn] at this
  exact this
theorem digs4 (n : Nat) (hn : n < 10000) (w : World) : Calls Tryd.prog 39 #[.int .i64 (n : Int), .int .i64 4] w fun e w' => e = .returned (.string (strOf (dig4 n))) ∧ ∃ q, w' = w.drewN q := by
  have := digits_any 4 n (by omega) (by omega) w
  rw [digL_4 hn] at this
  exact this
set_option maxRecDepth 20000 in
set_option maxHeartbeats 8000000 in
theorem x7print_any (y m d h mi s : Nat) (t : Int) (hy1 : 1970 ≤ y) (hy2 : y ≤ 9999) (hth : thereB y m d = true) (hh : h < 24) (hmi : mi < 60) (hs : s < 60) (ht : t = timeN y m d h mi s) (w : World) :
    Calls Tryd.prog 15 #[.int .i64 t] w fun e w' => e = .returned (.tuple #[.string (strOf (printL y m d h mi s)), .int .i64 0]) ∧ ∃ q, w' = w.drewN q := by
  obtain ⟨g1, g2, g3, g4⟩ := there_iff.1 hth
  have hbd := dayN_bd hth hy2
  have hfr := dayN_from hth hy1
  have hmb := mDays_bd y m
  have htv : t = dayN y m d * 86400 + h * 3600 + mi * 60 + s := ht
  have e0 : t / 86400 = dayN y m d := by omega
  have e1 : t % 86400 / 3600 = (h : Int) := by omega
  have e2 : t % 3600 / 60 = (mi : Int) := by omega
  have e3 : t % 60 = (s : Int) := by omega
  have ht0 : ¬ t < 0 := by omega
  have ht0' : 0 ≤ t := by omega
  have ht1 : t ≤ 253402300799 := by omega
  have m1 : t.tmod 86400 = t % 86400 := Int.tmod_eq_emod_of_nonneg ht0'
  have m2 : t.tmod 3600 = t % 3600 := Int.tmod_eq_emod_of_nonneg ht0'
  have m3 : t.tmod 60 = (s : Int) := by rw [Int.tmod_eq_emod_of_nonneg ht0', e3]
  have cc := x7civil_any y m d (dayN y m d) hy1 hy2 hth rfl
  have q0 := fun W : World => digs2 d (by omega) W
  have q1 := fun W : World => digs2 h (by omega) W
  have q2 := fun W : World => digs2 mi (by omega) W
  have q3 := fun W : World => digs2 s (by omega) W
  have q4 := fun W : World => digs4 y (by omega) W
  obtain ⟨k, rfl⟩ : ∃ k, m = k + 1 := ⟨m - 1, by omega⟩
  have hk : k < 12 := by omega
  have hmt : monsT.extract (3 * k) (3 * k + 3) = strOf (monS (k + 1)) := mons_at k hk
  have hml := monS_len g1 g2
  have hpl := padN_len 32 d
  obtain ⟨x0, hx0⟩ : ∃ l, padN 32 d = l := ⟨_, rfl⟩
  obtain ⟨mn, hmn⟩ : ∃ l, monS (k + 1) = l := ⟨_, rfl⟩
  obtain ⟨dy, hdy⟩ : ∃ l, dig4 y = l := ⟨_, rfl⟩
  obtain ⟨dh, hdh⟩ : ∃ l, dig2 h = l := ⟨_, rfl⟩
  obtain ⟨dm, hdm⟩ : ∃ l, dig2 mi = l := ⟨_, rfl⟩
  obtain ⟨ds, hds⟩ : ∃ l, dig2 s = l := ⟨_, rfl⟩
  have ly : dy.length = 4 := by rw [← hdy]; rfl
  have lh : dh.length = 2 := by rw [← hdh]; rfl
  have lm : dm.length = 2 := by rw [← hdm]; rfl
  have ls : ds.length = 2 := by rw [← hds]; rfl
  have l0 : x0.length = 2 := by rw [← hx0]; exact hpl
  have ln : mn.length = 3 := by rw [← hmn]; exact hml
  obtain ⟨x1, hx1⟩ : ∃ l, x0 ++ [45] = l := ⟨_, rfl⟩
  have lx1 : x1.length = 3 := by rw [← hx1, List.length_append, l0]; rfl
  have ax1 := fun W => add_str' (x := strOf x0) (y := ⟨#[45]⟩) rfl rfl hx1 (by omega) W
  obtain ⟨x2, hx2⟩ : ∃ l, x1 ++ mn = l := ⟨_, rfl⟩
  have lx2 : x2.length = 6 := by rw [← hx2, List.length_append, lx1, ln]
  have ax2 := fun W => add_str' (x := strOf x1) (y := monsT.extract (3 * k) (3 * k + 3)) rfl (by rw [hmt, hmn]) hx2 (by omega) W
  obtain ⟨x3, hx3⟩ : ∃ l, x2 ++ [45] = l := ⟨_, rfl⟩
  have lx3 : x3.length = 7 := by rw [← hx3, List.length_append, lx2]; rfl
  have ax3 := fun W => add_str' (x := strOf x2) (y := ⟨#[45]⟩) rfl rfl hx3 (by omega) W
  obtain ⟨x4, hx4⟩ : ∃ l, x3 ++ dy = l := ⟨_, rfl⟩
  have lx4 : x4.length = 11 := by rw [← hx4, List.length_append, lx3, ly]
  have ax4 := fun W => add_str' (x := strOf x3) (y := (strOf dy)) rfl rfl hx4 (by omega) W
  obtain ⟨x5, hx5⟩ : ∃ l, x4 ++ [32] = l := ⟨_, rfl⟩
  have lx5 : x5.length = 12 := by rw [← hx5, List.length_append, lx4]; rfl
  have ax5 := fun W => add_str' (x := strOf x4) (y := ⟨#[32]⟩) rfl rfl hx5 (by omega) W
  obtain ⟨c1, hc1⟩ : ∃ l, x5 ++ dh = l := ⟨_, rfl⟩
  have lc1 : c1.length = 14 := by rw [← hc1, List.length_append, lx5, lh]
  have ac1 := fun W => add_str' (x := strOf x5) (y := strOf dh) rfl rfl hc1 (by omega) W
  obtain ⟨c2, hc2⟩ : ∃ l, c1 ++ [58] = l := ⟨_, rfl⟩
  have lc2 : c2.length = 15 := by rw [← hc2, List.length_append, lc1]; rfl
  have ac2 := fun W => add_str' (x := strOf c1) (y := ⟨#[58]⟩) rfl rfl hc2 (by omega) W
  obtain ⟨c3, hc3⟩ : ∃ l, c2 ++ dm = l := ⟨_, rfl⟩
  have lc3 : c3.length = 17 := by rw [← hc3, List.length_append, lc2, lm]
  have ac3 := fun W => add_str' (x := strOf c2) (y := (strOf dm)) rfl rfl hc3 (by omega) W
  obtain ⟨c4, hc4⟩ : ∃ l, c3 ++ [58] = l := ⟨_, rfl⟩
  have lc4 : c4.length = 18 := by rw [← hc4, List.length_append, lc3]; rfl
  have ac4 := fun W => add_str' (x := strOf c3) (y := ⟨#[58]⟩) rfl rfl hc4 (by omega) W
  obtain ⟨c5, hc5⟩ : ∃ l, c4 ++ ds = l := ⟨_, rfl⟩
  have lc5 : c5.length = 20 := by rw [← hc5, List.length_append, lc4, ls]
  have ac5 := fun W => add_str' (x := strOf c4) (y := (strOf ds)) rfl rfl hc5 (by omega) W
  obtain ⟨x7, hx7⟩ : ∃ l, c5 ++ [32, 43, 48, 48, 48, 48] = l := ⟨_, rfl⟩
  have lx7 : x7.length = 26 := by rw [← hx7, List.length_append, lc5]; rfl
  have ax7 := fun W => add_str' (x := strOf c5) (y := ⟨#[32, 43, 48, 48, 48, 48]⟩) rfl rfl hx7 (by omega) W
  have HP : Hid (printL y (k + 1) d h mi s = x7) := Lib.hid (by
    rw [← hx7, ← hc5, ← hc4, ← hc3, ← hc2, ← hc1, ← hx5, ← hx4, ← hx3, ← hx2, ← hx1, ← hx0, ← hmn, ← hdy, ← hdh, ← hdm, ← hds]
    unfold printL; simp)
  rw [hdh] at q1
  rw [hdm] at q2
  rw [hds] at q3
  rw [hdy] at q4
  have hwk3 : IntKind.i64.wrap (3 * ((k : Int) + 1)) = 3 * ((k : Int) + 1) := IntWalk.i64_in _ (by omega)
  have hsz : monsT.size = 36 := rfl
  have n1 : IntKind.i64.wrap (3 * ((k : Int) + 1) - 3) = 3 * (k : Int) := by rw [IntWalk.i64_in _ (by omega)]; omega
  have n2 : (3 * (k : Int)).toNat = 3 * k := by omega
  have n3 : (3 * ((k : Int) + 1)).toNat = 3 * k + 3 := by omega
  have n4 : 3 * (k : Int) ≤ 3 * ((k : Int) + 1) := by omega
  have n5 : 3 * ((k : Int) + 1) ≤ 36 := by omega
  have n6 : 0 ≤ 3 * (k : Int) := by omega
  by_cases hd : d < 10
  · have hd' : (d : Int) < 10 := by omega
    have q0' := fun W : World => digs1 d hd W
    have ax0 := fun W => add_str' (x := ⟨#[32]⟩) (y := strOf [48 + d]) (a := [32]) (c := x0) rfl rfl (by rw [← hx0]; unfold padN; rw [if_pos hd]; rfl) (by omega) W
    clear hx0 hmn hdy hdh hdm hds hx1 lx1 hx2 lx2 hx3 lx3 hx4 lx4 hc1 lc1 hc2 lc2 hc3 lc3 hc4 lc4 hc5 lc5 hx5 lx5 hx7 lx7 ly lh lm ls l0 ln hml hpl htv ht hth hbd hfr hmb hmt
    go_enter Tryd.func15, Tryd.ntmps15
    go_wp2_with (first
      | (go_at_call 19; refine (cc _).mono ?_; rintro e w' ⟨rfl, rfl⟩)
      | (go_at_call 39; with_reducible refine (q0 _).mono ?_; rintro e w' ⟨rfl, q, rfl⟩)
      | (go_at_call 39; with_reducible refine (q0' _).mono ?_; rintro e w' ⟨rfl, q', rfl⟩))
    obtain ⟨W0, hW0, HW0⟩ : ∃ W0, w.drewN (q + q') = W0 ∧ Hid (∃ q, W0 = w.drewN q) := ⟨_, rfl, Lib.hid ⟨_, rfl⟩⟩
    rw [hW0]
    clear hW0
    clear cc q0 q0' ax0 q'
    have cm := fun j => months_q (W0.drewN j)
    have p1 := fun j => q1 (W0.drewN j)
    have p2 := fun j => q2 (W0.drewN j)
    have p3 := fun j => q3 (W0.drewN j)
    have p4 := fun j => q4 (W0.drewN j)
    clear q1 q2 q3 q4
    go_quiet ((first
      | (go_at_call 40; with_reducible exact Calls.quiet_of_same (cm _))
      | (go_at_call 39; with_reducible exact Calls.quiet_of (p1 _))
      | (go_at_call 39; with_reducible exact Calls.quiet_of (p2 _))
      | (go_at_call 39; with_reducible exact Calls.quiet_of (p3 _))
      | (go_at_call 39; with_reducible exact Calls.quiet_of (p4 _))))
    go_wp2_with fail
    go_ret2
    exact ⟨by rw [HP.out] <;> rfl, hold_drew HW0.out _⟩
  · have hd' : ¬ (d : Int) < 10 := by omega
    have HX : Hid (dig2 d = x0) := Lib.hid (by rw [← hx0]; unfold padN; rw [if_neg hd])
    clear hx0 hmn hdy hdh hdm hds hx1 lx1 hx2 lx2 hx3 lx3 hx4 lx4 hc1 lc1 hc2 lc2 hc3 lc3 hc4 lc4 hc5 lc5 hx5 lx5 hx7 lx7 ly lh lm ls l0 ln hml hpl htv ht hth hbd hfr hmb hmt
    rw [HX.out] at q0
    go_enter Tryd.func15, Tryd.ntmps15
    go_wp2_with (first
      | (go_at_call 19; refine (cc _).mono ?_; rintro e w' ⟨rfl, rfl⟩)
      | (go_at_call 39; with_reducible refine (q0 _).mono ?_; rintro e w' ⟨rfl, q, rfl⟩))
    obtain ⟨W0, hW0, HW0⟩ : ∃ W0, w.drewN q = W0 ∧ Hid (∃ q, W0 = w.drewN q) := ⟨_, rfl, Lib.hid ⟨_, rfl⟩⟩
    rw [hW0]
    clear hW0
    clear cc q0
    have cm := fun j => months_q (W0.drewN j)
    have p1 := fun j => q1 (W0.drewN j)
    have p2 := fun j => q2 (W0.drewN j)
    have p3 := fun j => q3 (W0.drewN j)
    have p4 := fun j => q4 (W0.drewN j)
    clear q1 q2 q3 q4
    go_quiet ((first
      | (go_at_call 40; with_reducible exact Calls.quiet_of_same (cm _))
      | (go_at_call 39; with_reducible exact Calls.quiet_of (p1 _))
      | (go_at_call 39; with_reducible exact Calls.quiet_of (p2 _))
      | (go_at_call 39; with_reducible exact Calls.quiet_of (p3 _))
      | (go_at_call 39; with_reducible exact Calls.quiet_of (p4 _))))
    go_wp2_with fail
    go_ret2
    exact ⟨by rw [HP.out] <;> rfl, hold_drew HW0.out _⟩
end Go.Proofs.YtnhafpgeinghnaaDoor
