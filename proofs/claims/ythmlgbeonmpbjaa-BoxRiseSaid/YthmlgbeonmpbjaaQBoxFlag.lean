/-
  Contracts over packages flag and escheatref08: flags that may be; flags changed.
-/
import Derived.Test.YthmlgbeonmpbjaaQBoxMath
import Derived.Test.YthmlgbeonmpbjaaQTextOwn
import Derived.Test.YthmlgbeonmpbjaaChecked
namespace Go.Proofs.Ythmlgbeonmpbjaa
set_option linter.unusedVariables false
set_option linter.unusedSimpArgs false
open Go.RowKit
set_option linter.unusedVariables false
set_option linter.unusedSimpArgs false

theorem okF_lo {f : Int} (h : ¬ 0 ≤ f) : okF f = false := decide_eq_false fun e => h e.1
theorem okF_hi {f : Int} (h : ¬ f ≤ 31) : okF f = false := decide_eq_false fun e => h e.2
theorem okF_yes {f : Int} (h : 0 ≤ f) (h2 : f ≤ 31) : okF f = true := decide_eq_true ⟨h, h2⟩
set_option maxHeartbeats 400000 in
theorem fright_any (f : Int) (w : World) : Calls Try.prog 49 #[.int .i64 f] w fun e w' => e = .returned (.bool (okF f)) ∧ w = w' := by
  by_cases h1 : 0 ≤ f
  · by_cases h2 : f ≤ 31
    · have HR := Lib.hid (okF_yes h1 h2)
      go_enter Try.func49, Try.ntmps49
      go_wp2
      go_ret
      exact ⟨by rw [HR.out] <;> rfl, rfl⟩
    · have HR := Lib.hid (okF_hi h2)
      go_enter Try.func49, Try.ntmps49
      go_wp2
      go_ret
      exact ⟨by rw [HR.out] <;> rfl, rfl⟩
  · have HR := Lib.hid (okF_lo h1)
    go_enter Try.func49, Try.ntmps49
    go_wp2
    go_ret
    exact ⟨by rw [HR.out] <;> rfl, rfl⟩
set_option maxHeartbeats 400000 in
theorem x8fright_any (f : Int) (w : World) : Calls Try.prog 51 #[.int .i64 f] w fun e w' => e = .returned (.bool (okF f)) ∧ w = w' := by
  by_cases h1 : 0 ≤ f
  · by_cases h2 : f ≤ 31
    · have HR := Lib.hid (okF_yes h1 h2)
      go_enter Try.func51, Try.ntmps51
      go_wp2
      go_ret
      exact ⟨by rw [HR.out] <;> rfl, rfl⟩
    · have HR := Lib.hid (okF_hi h2)
      go_enter Try.func51, Try.ntmps51
      go_wp2
      go_ret
      exact ⟨by rw [HR.out] <;> rfl, rfl⟩
  · have HR := Lib.hid (okF_lo h1)
    go_enter Try.func51, Try.ntmps51
    go_wp2
    go_ret
    exact ⟨by rw [HR.out] <;> rfl, rfl⟩

theorem ap_no1 {f m g : Int} (h : okF f = false) : apV f m g = 0 ∧ apE f m g = 1 := by
  unfold apV apE; rw [h]; simp
theorem ap_no2 {f m g : Int} (h : okF g = false) : apV f m g = 0 ∧ apE f m g = 1 := by
  unfold apV apE; rw [h]; simp
theorem ap_mode {f m g : Int} (hf : okF f = true) (hg : okF g = true) (h : ¬ (0 ≤ m ∧ m ≤ 2)) : apV f m g = 0 ∧ apE f m g = 1 := by
  unfold apV apE; rw [hf, hg, if_pos ⟨rfl, rfl⟩, if_neg (by omega), if_neg (by omega), if_neg (by omega), if_neg (fun e => h ⟨e.2.2.1, e.2.2.2⟩)]; exact ⟨rfl, rfl⟩
theorem ap_0 {f g : Int} (hf : okF f = true) (hg : okF g = true) : apV f 0 g = g ∧ apE f 0 g = 0 := by
  unfold apV apE; rw [hf, hg]; simp
theorem ap_1 {f g : Int} (hf : okF f = true) (hg : okF g = true) : apV f 1 g = bits .or .i64 f g ∧ apE f 1 g = 0 := by
  unfold apV apE; rw [hf, hg]; simp
theorem ap_2 {f g : Int} (hf : okF f = true) (hg : okF g = true) : apV f 2 g = bits .andNot .i64 f g ∧ apE f 2 g = 0 := by
  unfold apV apE; rw [hf, hg]; simp
set_option maxRecDepth 20000 in
set_option maxHeartbeats 1000000 in
theorem fapply_any (f m g : Int) (w : World) : Calls Try.prog 39 #[.int .i64 f, .int .i64 m, .int .i64 g] w fun e w' => ∃ z d : Int, e = .returned (.tuple #[.int .i64 z, .int .i64 d]) ∧ z = apV f m g ∧ d = apE f m g ∧ w = w' := by
  cases hf : okF f
  · have HA := Lib.hid (ap_no1 (m := m) (g := g) hf)
    go_enter Try.func39, Try.ntmps39
    go_wp2_with fail
    refine (fright_any f w).mono ?_
    rintro e w' ⟨rfl, rfl⟩
    rw [hf]
    go_wp2_with fail
    go_ret2
    exact ⟨_, _, rfl, HA.out.1.symm, HA.out.2.symm, rfl⟩
  · cases hg : okF g
    · have HA := Lib.hid (ap_no2 (f := f) (m := m) hg)
      go_enter Try.func39, Try.ntmps39
      go_wp2_with fail
      refine (fright_any f w).mono ?_
      rintro e w' ⟨rfl, rfl⟩
      rw [hf]
      go_wp2_with fail
      refine (fright_any g w).mono ?_
      rintro e w' ⟨rfl, rfl⟩
      rw [hg]
      go_wp2_with fail
      go_ret2
      exact ⟨_, _, rfl, HA.out.1.symm, HA.out.2.symm, rfl⟩
    · rcases (by omega : m = 0 ∨ m = 1 ∨ m = 2 ∨ ¬ (0 ≤ m ∧ m ≤ 2)) with rfl | rfl | rfl | hm
      · have HA := Lib.hid (ap_0 hf hg)
        go_enter Try.func39, Try.ntmps39
        go_wp2_with fail
        refine (fright_any f w).mono ?_
        rintro e w' ⟨rfl, rfl⟩
        rw [hf]
        go_wp2_with fail
        refine (fright_any g w).mono ?_
        rintro e w' ⟨rfl, rfl⟩
        rw [hg]
        go_wp2_with fail
        go_ret2
        exact ⟨_, _, rfl, HA.out.1.symm, HA.out.2.symm, rfl⟩
      · have HA := Lib.hid (ap_1 hf hg)
        go_enter Try.func39, Try.ntmps39
        go_wp2_with fail
        refine (fright_any f w).mono ?_
        rintro e w' ⟨rfl, rfl⟩
        rw [hf]
        go_wp2_with fail
        refine (fright_any g w).mono ?_
        rintro e w' ⟨rfl, rfl⟩
        rw [hg]
        go_wp2_with fail
        go_ret2
        exact ⟨_, _, rfl, HA.out.1.symm, HA.out.2.symm, rfl⟩
      · have HA := Lib.hid (ap_2 hf hg)
        go_enter Try.func39, Try.ntmps39
        go_wp2_with fail
        refine (fright_any f w).mono ?_
        rintro e w' ⟨rfl, rfl⟩
        rw [hf]
        go_wp2_with fail
        refine (fright_any g w).mono ?_
        rintro e w' ⟨rfl, rfl⟩
        rw [hg]
        go_wp2_with fail
        go_ret2
        exact ⟨_, _, rfl, HA.out.1.symm, HA.out.2.symm, rfl⟩
      · have HA := Lib.hid (ap_mode hf hg hm)
        have f0 : (m == 0) = false := by simp; omega
        have f1 : (m == 1) = false := by simp; omega
        have f2 : (m == 2) = false := by simp; omega
        go_enter Try.func39, Try.ntmps39
        go_wp2_with fail
        refine (fright_any f w).mono ?_
        rintro e w' ⟨rfl, rfl⟩
        rw [hf]
        go_wp2_with fail
        refine (fright_any g w).mono ?_
        rintro e w' ⟨rfl, rfl⟩
        rw [hg]
        go_wp2_with fail
        go_ret2
        exact ⟨_, _, rfl, HA.out.1.symm, HA.out.2.symm, rfl⟩

set_option maxRecDepth 20000 in
set_option maxHeartbeats 1000000 in
theorem x8fapply_any (f m g : Int) (w : World) : Calls Try.prog 41 #[.int .i64 f, .int .i64 m, .int .i64 g] w fun e w' => ∃ z d : Int, e = .returned (.tuple #[.int .i64 z, .int .i64 d]) ∧ z = apV f m g ∧ d = apE f m g ∧ w = w' := by
  cases hf : okF f
  · have HA := Lib.hid (ap_no1 (m := m) (g := g) hf)
    go_enter Try.func41, Try.ntmps41
    go_wp2_with fail
    refine (x8fright_any f w).mono ?_
    rintro e w' ⟨rfl, rfl⟩
    rw [hf]
    go_wp2_with fail
    go_ret2
    exact ⟨_, _, rfl, HA.out.1.symm, HA.out.2.symm, rfl⟩
  · cases hg : okF g
    · have HA := Lib.hid (ap_no2 (f := f) (m := m) hg)
      go_enter Try.func41, Try.ntmps41
      go_wp2_with fail
      refine (x8fright_any f w).mono ?_
      rintro e w' ⟨rfl, rfl⟩
      rw [hf]
      go_wp2_with fail
      refine (x8fright_any g w).mono ?_
      rintro e w' ⟨rfl, rfl⟩
      rw [hg]
      go_wp2_with fail
      go_ret2
      exact ⟨_, _, rfl, HA.out.1.symm, HA.out.2.symm, rfl⟩
    · rcases (by omega : m = 0 ∨ m = 1 ∨ m = 2 ∨ ¬ (0 ≤ m ∧ m ≤ 2)) with rfl | rfl | rfl | hm
      · have HA := Lib.hid (ap_0 hf hg)
        go_enter Try.func41, Try.ntmps41
        go_wp2_with fail
        refine (x8fright_any f w).mono ?_
        rintro e w' ⟨rfl, rfl⟩
        rw [hf]
        go_wp2_with fail
        refine (x8fright_any g w).mono ?_
        rintro e w' ⟨rfl, rfl⟩
        rw [hg]
        go_wp2_with fail
        go_ret2
        exact ⟨_, _, rfl, HA.out.1.symm, HA.out.2.symm, rfl⟩
      · have HA := Lib.hid (ap_1 hf hg)
        go_enter Try.func41, Try.ntmps41
        go_wp2_with fail
        refine (x8fright_any f w).mono ?_
        rintro e w' ⟨rfl, rfl⟩
        rw [hf]
        go_wp2_with fail
        refine (x8fright_any g w).mono ?_
        rintro e w' ⟨rfl, rfl⟩
        rw [hg]
        go_wp2_with fail
        go_ret2
        exact ⟨_, _, rfl, HA.out.1.symm, HA.out.2.symm, rfl⟩
      · have HA := Lib.hid (ap_2 hf hg)
        go_enter Try.func41, Try.ntmps41
        go_wp2_with fail
        refine (x8fright_any f w).mono ?_
        rintro e w' ⟨rfl, rfl⟩
        rw [hf]
        go_wp2_with fail
        refine (x8fright_any g w).mono ?_
        rintro e w' ⟨rfl, rfl⟩
        rw [hg]
        go_wp2_with fail
        go_ret2
        exact ⟨_, _, rfl, HA.out.1.symm, HA.out.2.symm, rfl⟩
      · have HA := Lib.hid (ap_mode hf hg hm)
        have f0 : (m == 0) = false := by simp; omega
        have f1 : (m == 1) = false := by simp; omega
        have f2 : (m == 2) = false := by simp; omega
        go_enter Try.func41, Try.ntmps41
        go_wp2_with fail
        refine (x8fright_any f w).mono ?_
        rintro e w' ⟨rfl, rfl⟩
        rw [hf]
        go_wp2_with fail
        refine (x8fright_any g w).mono ?_
        rintro e w' ⟨rfl, rfl⟩
        rw [hg]
        go_wp2_with fail
        all_goals
          go_ret2
          exact ⟨_, _, rfl, HA.out.1.symm, HA.out.2.symm, rfl⟩
end Go.Proofs.Ythmlgbeonmpbjaa
