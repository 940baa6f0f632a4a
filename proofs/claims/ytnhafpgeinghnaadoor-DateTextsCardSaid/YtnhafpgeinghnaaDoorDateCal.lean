/-
  Contracts over package date and the document's own: the calendar.
-/
import Derived.Test.YtnhafpgeinghnaaDoorDateMath
import Derived.Test.YtnhafpgeinghnaaDoorBytes
import Derived.ProofKit
import Derived.BigQuiet
import Derived.Deep.QuietTactic
import Derived.Lib.Hide
import Derived.IntWalk
import Derived.OwnWalk
import Derived.Test.YtnhafpgeinghnaaDoorChecked
namespace Go.Proofs.YtnhafpgeinghnaaDoor
open Go.RowKit
set_option linter.unusedVariables false
set_option linter.unusedSimpArgs false

/-- the package's months lie as the text lays them -/
def Mon (w : World) : Prop := ∀ i, i < 12 → w.cell? ⟨0, i * 2, none⟩ = some (.string (strOf (monS (i + 1)))) ∧ w.cell? ⟨0, i * 2 + 1, none⟩ = some (.int .i64 (mDays 1970 (i + 1) : Nat))
theorem Mon.lt {w : World} (h : Mon w) : 0 < w.heap.size := World.block_lt_of_cell? _ _ (h 0 (by omega)).1
theorem Mon.keep {w w' : World} (h : Mon w) (hk : ∀ o, w'.cell? ⟨0, o, none⟩ = w.cell? ⟨0, o, none⟩) : Mon w' := fun i hi => by rw [hk, hk]; exact h i hi
theorem Mon.below {w w' : World} (h : Mon w) (hb : Below w.heap.size w w') : Mon w' := h.keep fun o => hb.cell (p := ⟨0, o, none⟩) h.lt
theorem mDays_leap (y m : Nat) : mDays y m = if m = 2 ∧ isLeap y = true then mDays 1970 m + 1 else mDays 1970 m := by
  have e : isLeap 1970 = false := by decide
  unfold mDays
  by_cases h : m = 2
  · subst h
    cases hl : isLeap y <;> simp [e]
  · simp [h]

set_option maxHeartbeats 400000 in
theorem dleap_any (y : Nat) (w : World) : Calls Tryd.prog 74 #[.int .i64 (y : Int)] w fun e w' => e = .returned (.bool (isLeap y)) ∧ w = w' := by
  have e1 : ((y : Int) % 4 == 0) = decide (y % 4 = 0) := by rw [Bool.eq_iff_iff]; simp; omega
  have e2 : ((y : Int) % 100 != 0) = decide (y % 100 ≠ 0) := by rw [Bool.eq_iff_iff]; simp; omega
  have e3 : ((y : Int) % 400 == 0) = decide (y % 400 = 0) := by rw [Bool.eq_iff_iff]; simp; omega
  by_cases h1 : y % 4 = 0 <;> by_cases h2 : y % 100 = 0 <;> by_cases h3 : y % 400 = 0
  all_goals
    have f1 : ((y : Int) % 4 == 0) = decide (y % 4 = 0) := e1
    have f2 : ((y : Int) % 100 != 0) = decide (y % 100 ≠ 0) := e2
    have f3 : ((y : Int) % 400 == 0) = decide (y % 400 = 0) := e3
    have H : Hid (isLeap y = (decide (y % 4 = 0) && (decide (y % 100 ≠ 0) || decide (y % 400 = 0)))) := by
      refine Lib.hid ?_
      unfold isLeap; rw [Bool.eq_iff_iff]; simp
    clear e1 e2 e3
    simp only [h1, h2, h3, decide_true, decide_false, ne_eq, not_true_eq_false, not_false_eq_true] at f1 f2 f3
    go_enter Tryd.func74, Tryd.ntmps74
    go_wp2
    go_ret
    refine ⟨?_, rfl⟩
    rw [H.out]
    simp [h1, h2, h3]
set_option maxHeartbeats 400000 in
theorem x7leap_any (y : Nat) (w : World) : Calls Tryd.prog 62 #[.int .i64 (y : Int)] w fun e w' => e = .returned (.bool (isLeap y)) ∧ w = w' := by
  have e1 : ((y : Int) % 4 == 0) = decide (y % 4 = 0) := by rw [Bool.eq_iff_iff]; simp; omega
  have e2 : ((y : Int) % 100 != 0) = decide (y % 100 ≠ 0) := by rw [Bool.eq_iff_iff]; simp; omega
  have e3 : ((y : Int) % 400 == 0) = decide (y % 400 = 0) := by rw [Bool.eq_iff_iff]; simp; omega
  by_cases h1 : y % 4 = 0 <;> by_cases h2 : y % 100 = 0 <;> by_cases h3 : y % 400 = 0
  all_goals
    have f1 : ((y : Int) % 4 == 0) = decide (y % 4 = 0) := e1
    have f2 : ((y : Int) % 100 != 0) = decide (y % 100 ≠ 0) := e2
    have f3 : ((y : Int) % 400 == 0) = decide (y % 400 = 0) := e3
    have H : Hid (isLeap y = (decide (y % 4 = 0) && (decide (y % 100 ≠ 0) || decide (y % 400 = 0)))) := by
      refine Lib.hid ?_
      unfold isLeap; rw [Bool.eq_iff_iff]; simp
    clear e1 e2 e3
    simp only [h1, h2, h3, decide_true, decide_false, ne_eq, not_true_eq_false, not_false_eq_true] at f1 f2 f3
    go_enter Tryd.func62, Tryd.ntmps62
    go_wp2
    go_ret
    refine ⟨?_, rfl⟩
    rw [H.out]
    simp [h1, h2, h3]

set_option maxHeartbeats 400000 in
theorem daysOf_any (y k : Nat) (hk : k < 12) (w : World) (hM : Mon w) : Calls Tryd.prog 61 #[.int .i64 (y : Int), .int .i64 ((k + 1 : Nat) : Int)] w fun e w' => e = .returned (.int .i64 (mDays y (k + 1) : Nat)) ∧ w = w' := by
  have hc := (hM k hk).2
  have hb := mDays_bd 1970 (k + 1)
  by_cases h2 : k = 1
  · subst h2
    rw [show mDays 1970 (1 + 1) = 28 from rfl] at hc
    cases hl : isLeap y
    all_goals
      have HL := Lib.hid hl
      have HD := Lib.hid (mDays_leap y 2)
      clear hl
      go_enter Tryd.func61, Tryd.ntmps61
      go_wp2_with (go_at_call 74; refine (dleap_any _ _).mono ?_; rintro e w' ⟨rfl, rfl⟩; rw [HL.out])
      go_ret
      refine ⟨?_, rfl⟩
      rw [HD.out]
      simp [HL.out, show mDays 1970 2 = 28 from rfl]
  · have hl : (((k + 1 : Nat) : Int) == 2) = false := by simp; omega
    have HD := Lib.hid (mDays_leap y (k + 1))
    go_enter Tryd.func61, Tryd.ntmps61
    go_wp2
    go_ret
    refine ⟨?_, rfl⟩
    rw [HD.out]
    simp [show ¬ k = 1 from h2]

/-! the document's days and years -/
set_option maxHeartbeats 400000 in
theorem x7days_any (y m : Nat) (w : World) : Calls Tryd.prog 43 #[.int .i64 (y : Int), .int .i64 (m : Int)] w fun e w' => e = .returned (.int .i64 (mDays y m : Nat)) ∧ w = w' := by
  by_cases h2 : m = 2
  · subst h2
    cases hl : isLeap y
    all_goals
      have HL := Lib.hid hl
      clear hl
      have HD : Hid (mDays y 2 = if isLeap y then 29 else 28) := Lib.hid rfl
      go_enter Tryd.func43, Tryd.ntmps43
      go_wp2_with (go_at_call 62; refine (x7leap_any _ _).mono ?_; rintro e w' ⟨rfl, rfl⟩; rw [HL.out])
      go_ret
      exact ⟨by rw [HD.out, HL.out] <;> rfl, rfl⟩
  · have f2 : ((m : Int) == 2) = false := by simp; omega
    by_cases h : m = 4 ∨ m = 6 ∨ m = 9 ∨ m = 11
    · have HD : Hid (mDays y m = 30) := Lib.hid (by unfold mDays; rw [if_neg h2, if_pos h])
      rcases h with rfl | rfl | rfl | rfl
      all_goals
        go_enter Tryd.func43, Tryd.ntmps43
        go_wp2
        go_ret
        exact ⟨by rw [HD.out] <;> rfl, rfl⟩
    · have HD : Hid (mDays y m = 31) := Lib.hid (by unfold mDays; rw [if_neg h2, if_neg h])
      have f4 : ((m : Int) == 4) = false := by simp; omega
      have f6 : ((m : Int) == 6) = false := by simp; omega
      have f9 : ((m : Int) == 9) = false := by simp; omega
      have f11 : ((m : Int) == 11) = false := by simp; omega
      clear h h2
      go_enter Tryd.func43, Tryd.ntmps43
      go_wp2
      go_ret
      exact ⟨by rw [HD.out] <;> rfl, rfl⟩
set_option maxHeartbeats 400000 in
theorem x7length_any (y : Nat) (w : World) : Calls Tryd.prog 42 #[.int .i64 (y : Int)] w fun e w' => e = .returned (.int .i64 (yDays y : Nat)) ∧ w = w' := by
  cases hl : isLeap y
  all_goals
    have HL := Lib.hid hl
    clear hl
    have HD : Hid (yDays y = if isLeap y then 366 else 365) := Lib.hid rfl
    go_enter Tryd.func42, Tryd.ntmps42
    go_wp2_with (go_at_call 62; refine (x7leap_any _ _).mono ?_; rintro e w' ⟨rfl, rfl⟩; rw [HL.out])
    go_ret
    exact ⟨by rw [HD.out, HL.out] <;> rfl, rfl⟩

/-! is there such a day? -/
set_option maxHeartbeats 400000 in
theorem dthere_any (y : Nat) (m d : Int) (w : World) (hM : Mon w) : Calls Tryd.prog 44 #[.int .i64 (y : Int), .int .i64 m, .int .i64 d] w fun e w' => e = .returned (.bool (thereZ y m d)) ∧ w = w' := by
  by_cases h1 : 1 ≤ m
  · by_cases h2 : m ≤ 12
    · by_cases h3 : 1 ≤ d
      · obtain ⟨k, rfl⟩ : ∃ k : Nat, m = ((k + 1 : Nat) : Int) := ⟨(m - 1).toNat, by omega⟩
        by_cases h4 : d ≤ (mDays y (k + 1) : Nat)
        all_goals
          have hk : k < 12 := by omega
          have HR : Hid (thereZ y ((k + 1 : Nat) : Int) d = decide (d ≤ (mDays y (k + 1) : Nat))) := Lib.hid (by
            unfold thereZ
            rw [Bool.eq_iff_iff, decide_eq_true_iff, decide_eq_true_iff, Int.toNat_natCast]
            omega)
          go_enter Tryd.func44, Tryd.ntmps44
          go_wp2_with (go_at_call 61; refine (daysOf_any _ k hk _ hM).mono ?_; rintro e w' ⟨rfl, rfl⟩)
          go_ret
          exact ⟨by rw [HR.out]; simp [h4], rfl⟩
      · have HR : Hid (thereZ y m d = false) := Lib.hid (by unfold thereZ; exact decide_eq_false (by omega))
        go_enter Tryd.func44, Tryd.ntmps44
        go_wp2
        go_ret
        exact ⟨by rw [HR.out] <;> rfl, rfl⟩
    · have HR : Hid (thereZ y m d = false) := Lib.hid (by unfold thereZ; exact decide_eq_false (by omega))
      go_enter Tryd.func44, Tryd.ntmps44
      go_wp2
      go_ret
      exact ⟨by rw [HR.out] <;> rfl, rfl⟩
  · have HR : Hid (thereZ y m d = false) := Lib.hid (by unfold thereZ; exact decide_eq_false (by omega))
    go_enter Tryd.func44, Tryd.ntmps44
    go_wp2
    go_ret
    exact ⟨by rw [HR.out] <;> rfl, rfl⟩
/-- the document's: of any three numbers -/
def thereR (y m d : Int) : Bool := decide (0 ≤ y ∧ y ≤ 9999) && thereZ y.toNat m d
set_option maxHeartbeats 400000 in
theorem x7there_any (y m d : Int) (w : World) : Calls Tryd.prog 45 #[.int .i64 y, .int .i64 m, .int .i64 d] w fun e w' => e = .returned (.bool (thereR y m d)) ∧ w = w' := by
  by_cases h0 : 0 ≤ y
  · by_cases h9 : y ≤ 9999
    · obtain ⟨y, rfl⟩ := Int.eq_ofNat_of_zero_le h0
      by_cases h1 : 1 ≤ m
      · by_cases h2 : m ≤ 12
        · by_cases h3 : 1 ≤ d
          · obtain ⟨m, rfl⟩ := Int.eq_ofNat_of_zero_le (show 0 ≤ m by omega)
            by_cases h4 : d ≤ (mDays y m : Nat)
            all_goals
              have HR : Hid (thereR (y : Int) (m : Int) d = decide (d ≤ (mDays y m : Nat))) := Lib.hid (by
                unfold thereR thereZ
                rw [Bool.eq_iff_iff, Bool.and_eq_true, decide_eq_true_iff, decide_eq_true_iff, decide_eq_true_iff, Int.toNat_natCast, Int.toNat_natCast]
                omega)
              go_enter Tryd.func45, Tryd.ntmps45
              go_wp2_with (go_at_call 43; refine (x7days_any _ _ _).mono ?_; rintro e w' ⟨rfl, rfl⟩)
              go_ret
              exact ⟨by rw [HR.out]; simp [h4], rfl⟩
          · have HR : Hid (thereR y m d = false) := Lib.hid (by unfold thereR thereZ; rw [decide_eq_false (p := 1 ≤ m ∧ _) (by omega)]; simp)
            go_enter Tryd.func45, Tryd.ntmps45
            go_wp2
            go_ret
            exact ⟨by rw [HR.out] <;> rfl, rfl⟩
        · have HR : Hid (thereR y m d = false) := Lib.hid (by unfold thereR thereZ; rw [decide_eq_false (p := 1 ≤ m ∧ _) (by omega)]; simp)
          go_enter Tryd.func45, Tryd.ntmps45
          go_wp2
          go_ret
          exact ⟨by rw [HR.out] <;> rfl, rfl⟩
      · have HR : Hid (thereR y m d = false) := Lib.hid (by unfold thereR thereZ; rw [decide_eq_false (p := 1 ≤ m ∧ _) (by omega)]; simp)
        go_enter Tryd.func45, Tryd.ntmps45
        go_wp2
        go_ret
        exact ⟨by rw [HR.out] <;> rfl, rfl⟩
    · have HR : Hid (thereR y m d = false) := Lib.hid (by unfold thereR; rw [decide_eq_false (p := 0 ≤ y ∧ _) (by omega)]; simp)
      go_enter Tryd.func45, Tryd.ntmps45
      go_wp2
      go_ret
      exact ⟨by rw [HR.out] <;> rfl, rfl⟩
  · have HR : Hid (thereR y m d = false) := Lib.hid (by unfold thereR; rw [decide_eq_false (p := 0 ≤ y ∧ _) (by omega)]; simp)
    go_enter Tryd.func45, Tryd.ntmps45
    go_wp2
    go_ret
    exact ⟨by rw [HR.out] <;> rfl, rfl⟩

/-! days ahead -/
set_option maxHeartbeats 400000 in
theorem ahead_any (y : Nat) (hy : y ≤ 10000) (w : World) : Calls Tryd.prog 60 #[.int .i64 (y : Int)] w fun e w' => e = .returned (.int .i64 (ahead y : Nat)) ∧ w = w' := by
  have HR : Hid ((y : Int) * 365 + ((y : Int) + 3) / 4 - ((y : Int) + 99) / 100 + ((y : Int) + 399) / 400 = (ahead y : Nat)) := Lib.hid (by unfold ahead; omega)
  go_enter Tryd.func60, Tryd.ntmps60
  go_wp2
  go_ret
  exact ⟨by rw [HR.out] <;> rfl, rfl⟩

set_option maxHeartbeats 800000 in
theorem from1970_any (y m d : Nat) (hy : y ≤ 10000) (h1 : 1 ≤ m) (h2 : m ≤ 12) (hd : d ≤ 31) (w : World) (hM : Mon w) :
    Calls Tryd.prog 41 #[.int .i64 (y : Int), .int .i64 (m : Int), .int .i64 (d : Int)] w fun e w' => e = .returned (.int .i64 (dayN y m d)) ∧ w = w' := by
  have ha := ahead_le hy
  have hyb := yDays_bd y
  have HA : Hid (ahead 1970 = 719528) := Lib.hid ahead_1970
  have HR : Hid (dayN y m d = (ahead y : Int) - 719528 + d - 1 + mSum y (m - 1)) := Lib.hid (by unfold dayN; omega)
  go_enter Tryd.func41, Tryd.ntmps41
  go_wp2_with fail
  refine (ahead_any y hy w).mono ?_
  rintro e w' ⟨rfl, rfl⟩
  go_wp2_with fail
  refine (ahead_any 1970 (by omega) w).mono ?_
  rintro e w' ⟨rfl, rfl⟩
  rw [HA.out]
  go_wp2_with fail
  go_loop [7, 8] (fun n i => ∃ k : Nat, k + 1 ≤ m ∧ i = .int .i64 ((k : Int) + 1) ∧ n = .int .i64 ((ahead y : Int) - 719528 + d - 1 + mSum y k)) (fun _ i => 13 - (intOf i).toNat)
  case atStart => exact ⟨0, h1, rfl, by simp [mSum]⟩
  case round =>
    obtain ⟨k, hk, rfl, rfl⟩ := hrel
    have hs := mSum_le y (k := k) (by omega)
    have hb := mDays_bd y (k + 1)
    by_cases hlt : (k : Int) + 1 < m
    · have hk12 : k < 12 := by omega
      go_wp2_with (go_at_call 61; refine (daysOf_any y k hk12 _ hM).mono ?_; rintro e w' ⟨rfl, rfl⟩)
      go_round
      case rel => exact ⟨k + 1, by omega, by go_num, by rw [show mSum y (k + 1) = mSum y k + mDays y (k + 1) from rfl]; go_num⟩
      case measure => simp [intOf]; omega
    · have HK : Hid (k = m - 1) := Lib.hid (by omega)
      go_wp2
      go_ret
      exact ⟨by rw [HR.out, HK.out] <;> rfl, rfl⟩

/-! Civil -/
theorem ahead_up {a b : Nat} (h : a ≤ b) : ahead b ≤ ahead a + 366 * (b - a) := by
  induction b with
  | zero => obtain rfl : a = 0 := by omega
            omega
  | succ b ih =>
    by_cases e : a = b + 1
    · rw [e]; omega
    · have := ih (by omega)
      have := yDays_bd b
      rw [ahead_succ]; omega
theorem dayN_first (y : Nat) : dayN y 1 1 = (ahead y : Int) - 719528 := by unfold dayN; simp [mSum]
theorem dayN_month (y m : Nat) : dayN y (m + 1) 1 = (ahead y : Int) + mSum y m - 719528 := by unfold dayN; rw [Nat.add_sub_cancel]; omega

set_option maxHeartbeats 800000 in
set_option maxRecDepth 20000 in
theorem civil_any (y m d : Nat) (n : Int) (hy1 : 1970 ≤ y) (hy2 : y ≤ 9999) (ht : thereB y m d = true) (hn : n = dayN y m d) (w : World) (hM : Mon w) :
    Calls Tryd.prog 18 #[.int .i64 n] w fun e w' => e = .returned (.tuple #[.int .i64 (y : Int), .int .i64 (m : Int), .int .i64 (d : Int)]) ∧ w = w' := by
  obtain ⟨g1, g2, g3, g4⟩ := there_iff.1 ht
  have hin := dayN_in ht
  have hbd := dayN_bd ht hy2
  have hfr := dayN_from ht hy1
  have hup := ahead_up (a := 1970) (b := y + 1) (by omega)
  rw [ahead_1970] at hup
  have hmp := mSum_prev y g1
  have hml := mSum_le y g2
  have hmb := mDays_bd y m
  have hyb := yDays_bd y
  have hD : dayN y m d = (ahead y : Int) + mSum y (m - 1) + d - 1 - 719528 := rfl
  rw [← hn] at hin hbd hfr hD
  have HN := Lib.hid hn
  have HD := Lib.hid hD
  have HM := Lib.hid hmp
  have HT := Lib.hid ht
  have hahead := ahead_le (y := y) (by omega)
  have hlo : (ahead y : Int) + mSum y (m - 1) ≤ n + 719528 := by omega
  have hhi : n + 719528 < (ahead y : Int) + mSum y m := by omega
  clear hn hD hmp ht
  go_enter Tryd.func18, Tryd.ntmps18
  go_wp2
  go_loop [2] (fun t => ∃ k : Nat, 1970 ≤ k ∧ k ≤ y ∧ t = .int .i64 (k : Int)) (fun t => (9999 - intOf t).toNat)
  case atStart => exact ⟨1970 + n.toNat / 366, by omega, by omega, by simp; omega⟩
  case round =>
    obtain ⟨k, hk1, hk2, rfl⟩ := hrel
    by_cases hlt : k < y
    · have hm := ahead_mono (a := k + 1) (b := y) hlt
      have hle : (ahead (k + 1) : Int) - 719528 ≤ n := by omega
      have HF := Lib.hid (dayN_first (k + 1))
      go_wp2_with fail
      refine (from1970_any (k + 1) 1 1 (by omega) (by omega) (by omega) (by omega) w hM).mono ?_
      rintro e w' ⟨rfl, rfl⟩
      rw [HF.out]
      go_wp2_with fail
      go_round
      case rel => exact ⟨k + 1, by omega, by omega, by go_num⟩
      case measure => simp [intOf]; omega
    · have hle : ¬ (ahead (y + 1) : Int) - 719528 ≤ n := by omega
      have HF := Lib.hid (dayN_first (y + 1))
      have HK : Hid (k = y) := Lib.hid (by omega)
      rw [HK.out]
      clear hk1 hk2 hlt
      go_wp2_with fail
      refine (from1970_any (y + 1) 1 1 (by omega) (by omega) (by omega) (by omega) w hM).mono ?_
      rintro e w' ⟨rfl, rfl⟩
      rw [HF.out]
      go_wp2_with fail
      go_loop [3] (fun t => ∃ j : Nat, 1 ≤ j ∧ j ≤ m ∧ t = .int .i64 (j : Int)) (fun t => (13 - intOf t).toNat)
      case atStart => exact ⟨1, by omega, g1, rfl⟩
      case round =>
        obtain ⟨j, hj1, hj2, rfl⟩ := hrel
        have HF2 := Lib.hid (dayN_month y j)
        by_cases hjm : j < m
        · have hms := mSum_mono y (a := j) (b := m - 1) (by omega)
          have hle2 : (ahead y : Int) + mSum y j - 719528 ≤ n := by omega
          go_wp2_with fail
          refine (from1970_any y (j + 1) 1 (by omega) (by omega) (by omega) (by omega) w hM).mono ?_
          rintro e w' ⟨rfl, rfl⟩
          rw [HF2.out]
          go_wp2_with fail
          go_round
          case rel => exact ⟨j + 1, by omega, by omega, by go_num⟩
          case measure => simp [intOf]; omega
        · have HJ : Hid (j = m) := Lib.hid (by omega)
          rw [HJ.out]
          rw [HJ.out] at HF2
          have hle2 : ¬ (ahead y : Int) + mSum y m - 719528 ≤ n := by omega
          have HE : Hid (dayN y m 1 = (ahead y : Int) + mSum y (m - 1) - 719528) := Lib.hid (by unfold dayN; omega)
          have HZ : Hid (n - ((ahead y : Int) + mSum y (m - 1) - 719528) + 1 = d) := Lib.hid (by have := HD.out; omega)
          clear hj1 hj2 hjm
          by_cases h12 : m < 12
          · go_wp2_with fail
            refine (from1970_any y (m + 1) 1 (by omega) (by omega) (by omega) (by omega) w hM).mono ?_
            rintro e w' ⟨rfl, rfl⟩
            rw [HF2.out]
            go_wp2_with fail
            refine (from1970_any y m 1 (by omega) (by omega) (by omega) (by omega) w hM).mono ?_
            rintro e w' ⟨rfl, rfl⟩
            rw [HE.out]
            go_wp2_with fail
            go_ret3
            exact ⟨by rw [HZ.out] <;> rfl, rfl⟩
          · go_wp2_with fail
            refine (from1970_any y m 1 (by omega) (by omega) (by omega) (by omega) w hM).mono ?_
            rintro e w' ⟨rfl, rfl⟩
            rw [HE.out]
            go_wp2_with fail
            go_ret3
            exact ⟨by rw [HZ.out] <;> rfl, rfl⟩
set_option maxHeartbeats 400000 in
theorem civil_no (n : Int) (h : n < 0 ∨ 2932896 < n) (w : World) :
    Calls Tryd.prog 18 #[.int .i64 n] w fun e w' => e = .returned (.tuple #[.int .i64 0, .int .i64 0, .int .i64 0]) ∧ w = w' := by
  rcases h with h | h
  · go_enter Tryd.func18, Tryd.ntmps18
    go_wp2
    go_ret3
    exact ⟨rfl, rfl⟩
  · have h' : ¬ n < 0 := by omega
    go_enter Tryd.func18, Tryd.ntmps18
    go_wp2
    go_ret3
    exact ⟨rfl, rfl⟩
end Go.Proofs.YtnhafpgeinghnaaDoor
