/-
  Contracts over packages flag and escheatref08: flags that may be; flags changed.
-/
import Derived.Test.YtcajmigkpcjbcaaDoorQBoxMath
import Derived.Test.YtcajmigkpcjbcaaDoorQTextOwn
import Derived.Test.YtcajmigkpcjbcaaDoorChecked
namespace Go.Proofs.YtcajmigkpcjbcaaDoor
set_option linter.unusedVariables false
set_option linter.unusedSimpArgs false
open Go.RowKit
set_option linter.unusedVariables false
set_option linter.unusedSimpArgs false

theorem okF_lo {f : Int} (h : ¬ 0 ≤ f) : okF f = false := decide_eq_false fun e => h e.1
theorem okF_hi {f : Int} (h : ¬ f ≤ 31) : okF f = false := decide_eq_false fun e => h e.2
theorem okF_yes {f : Int} (h : 0 ≤ f) (h2 : f ≤ 31) : okF f = true := decide_eq_true ⟨h, h2⟩
set_option maxHeartbeats 400000 in
theorem fright_any (f : Int) (w : World) : Calls Tryd.prog 53 #[.int .i64 f] w fun e w' => e = .returned (.bool (okF f)) ∧ w = w' := by
  by_cases h1 : 0 ≤ f
  · by_cases h2 : f ≤ 31
    · have HR := Lib.hid (okF_yes h1 h2)
      go_enter Tryd.func53, Tryd.ntmps53
      go_wp2
      go_ret
      exact ⟨by rw [HR.out] <;> rfl, rfl⟩
    · have HR := Lib.hid (okF_hi h2)
      go_enter Tryd.func53, Tryd.ntmps53
      go_wp2
      go_ret
      exact ⟨by rw [HR.out] <;> rfl, rfl⟩
  · have HR := Lib.hid (okF_lo h1)
    go_enter Tryd.func53, Tryd.ntmps53
    go_wp2
    go_ret
    exact ⟨by rw [HR.out] <;> rfl, rfl⟩
set_option maxHeartbeats 400000 in
theorem x8fright_any (f : Int) (w : World) : Calls Tryd.prog 32 #[.int .i64 f] w fun e w' => e = .returned (.bool (okF f)) ∧ w = w' := by
  by_cases h1 : 0 ≤ f
  · by_cases h2 : f ≤ 31
    · have HR := Lib.hid (okF_yes h1 h2)
      go_enter Tryd.func32, Tryd.ntmps32
      go_wp2
      go_ret
      exact ⟨by rw [HR.out] <;> rfl, rfl⟩
    · have HR := Lib.hid (okF_hi h2)
      go_enter Tryd.func32, Tryd.ntmps32
      go_wp2
      go_ret
      exact ⟨by rw [HR.out] <;> rfl, rfl⟩
  · have HR := Lib.hid (okF_lo h1)
    go_enter Tryd.func32, Tryd.ntmps32
    go_wp2
    go_ret
    exact ⟨by rw [HR.out] <;> rfl, rfl⟩

theorem ap_no1 {f m g : Int} (h : okF f = false) : apV f m g = 0 ∧ apE f m g = 1 := by
  unfold apV apE; rw [h]; simp
theorem ap_no2 {f m g : Int} (h : okF g = false) : apV f m g = 0 ∧ apE f m g = 1 := by
  unfold apV apE; rw [h]; simp
theorem ap_mode {f m g : Int} (hf : okF f = true) (hg : okF g = true) (h : ¬ (0 ≤ m ∧ m ≤ 2)) : apV f m g = 0 ∧ apE f m g = 1 := by
  unfold apV apE; rw [hf, hg, if_pos ⟨rfl, rfl⟩, if_neg (by omega), if_neg (by omega), if_neg (by omega), if_neg (fun e => h ⟨e.2.2.1, e.2.2.2⟩)]; exact ⟨rfl, rfl⟩
theorem ap_0 {f g : Int} (hf : okF f = true) (hg : okF g = true) : apV f 0 g = g ∧ apE f 0 g = 0 := by
  unfold apV apE; rw [hf, hg]; simp
theorem ap_1 {f g : Int} (hf : okF f = true) (hg : okF g = true) : apV f 1 g = bits .or .i64 f g ∧ apE f 1 g = 0 := by
  unfold apV apE; rw [hf, hg]; simp
theorem ap_2 {f g : Int} (hf : okF f = true) (hg : okF g = true) : apV f 2 g = bits .andNot .i64 f g ∧ apE f 2 g = 0 := by
  unfold apV apE; rw [hf, hg]; simp
end Go.Proofs.YtcajmigkpcjbcaaDoor
