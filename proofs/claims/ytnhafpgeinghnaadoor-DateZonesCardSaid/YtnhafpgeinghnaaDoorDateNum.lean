/-
  Contracts over package date and the document's own: a date's day, a day's date by the document's way, a time's day.
-/
import Derived.Test.YtnhafpgeinghnaaDoorDateCal
namespace Go.Proofs.YtnhafpgeinghnaaDoor
open Go.RowKit
set_option linter.unusedVariables false
set_option linter.unusedSimpArgs false

set_option maxRecDepth 20000 in
set_option maxHeartbeats 800000 in
theorem x7number_any (y m d : Nat) (hy : y ≤ 9999) (h1 : 1 ≤ m) (h2 : m ≤ 12) (hd : d ≤ 31) (w : World) :
    Calls Tryd.prog 46 #[.int .i64 (y : Int), .int .i64 (m : Int), .int .i64 (d : Int)] w fun e w' => e = .returned (.int .i64 (dayN y m d)) ∧ w = w' := by
  have ha := ahead_le (y := y) (by omega)
  have hyb := yDays_bd y
  have hms := mSum_le y (k := m - 1) (by omega)
  have HA : Hid (ahead 1970 = 719528) := Lib.hid ahead_1970
  have HR : Hid (dayN y m d = (d : Int) - 1 + mSum y (m - 1) + ahead y - 719528) := Lib.hid (by unfold dayN; omega)
  go_enter Tryd.func46, Tryd.ntmps46
  go_wp2
  go_loop [7, 8] (fun n i => ∃ k : Nat, k + 1 ≤ m ∧ i = .int .i64 ((k : Int) + 1) ∧ n = .int .i64 ((d : Int) - 1 + mSum y k)) (fun _ i => 13 - (intOf i).toNat)
  case atStart => exact ⟨0, h1, rfl, by simp [mSum]⟩
  case round =>
    obtain ⟨k, hk, rfl, rfl⟩ := hrel
    have hs := mSum_le y (k := k) (by omega)
    have hb := mDays_bd y (k + 1)
    by_cases hlt : (k : Int) + 1 < m
    · go_wp2_with (go_at_call 43; refine (x7days_any y (k + 1) _).mono ?_; rintro e w' ⟨rfl, rfl⟩)
      go_round
      case rel => exact ⟨k + 1, by omega, by go_num, by rw [show mSum y (k + 1) = mSum y k + mDays y (k + 1) from rfl]; go_num⟩
      case measure => simp [intOf]; omega
    · have HK : Hid (k = m - 1) := Lib.hid (by omega)
      rw [HK.out]
      clear hk hs hb hlt
      go_wp2
      go_loop [7, 9] (fun n i => ∃ j : Nat, 1970 ≤ j ∧ (j ≤ y ∨ j = 1970) ∧ i = .int .i64 (j : Int) ∧ n = .int .i64 ((d : Int) - 1 + mSum y (m - 1) + (ahead j - 719528))) (fun _ i => 9999 - (intOf i).toNat)
      case atStart => exact ⟨1970, by omega, .inr rfl, rfl, by rw [HA.out]; simp⟩
      case round =>
        obtain ⟨j, hj1, hj2, rfl, rfl⟩ := hrel
        have hja := ahead_le (y := j) (by omega)
        have hjb := yDays_bd j
        have HS := Lib.hid (ahead_succ j)
        by_cases hlt : (j : Int) < y
        · go_wp2_with (go_at_call 42; refine (x7length_any j _).mono ?_; rintro e w' ⟨rfl, rfl⟩)
          go_round
          case rel => exact ⟨j + 1, by omega, by omega, by go_num, by rw [HS.out]; go_num⟩
          case measure => simp [intOf]; omega
        · by_cases hy7 : 1970 ≤ y
          · have HJ : Hid (j = y) := Lib.hid (by omega)
            rw [HJ.out]
            clear hj1 hj2 hlt hja hjb HS
            go_wp2
            go_loop [7, 10] (fun n i => i = .int .i64 (y : Int) ∧ n = .int .i64 ((d : Int) - 1 + mSum y (m - 1) + (ahead y - 719528))) (fun _ i => 0)
            case atStart => exact ⟨rfl, rfl⟩
            case round =>
              obtain ⟨rfl, rfl⟩ := hrel
              have hno : ¬ (y : Int) < 1970 := by omega
              go_wp2
              go_ret
              exact ⟨ret_int (by rw [HR.out]; omega), rfl⟩
          · have HJ : Hid (j = 1970) := Lib.hid (by omega)
            rw [HJ.out, HA.out]
            clear hj1 hj2 hlt hja hjb HS
            go_wp2
            go_loop [7, 10] (fun n i => ∃ j : Nat, y ≤ j ∧ j ≤ 1970 ∧ i = .int .i64 (j : Int) ∧ n = .int .i64 ((d : Int) - 1 + mSum y (m - 1) + (ahead y - ahead j))) (fun _ i => 1970 - (intOf i).toNat)
            case atStart => exact ⟨y, Nat.le_refl _, by omega, rfl, by simp⟩
            case round =>
              obtain ⟨j, hj1, hj2, rfl, rfl⟩ := hrel
              have hja := ahead_le (y := j) (by omega)
              have hjb := yDays_bd j
              have hjm := ahead_mono (a := y) (b := j) hj1
              have HS := Lib.hid (ahead_succ j)
              by_cases hlt : (j : Int) < 1970
              · go_wp2_with (go_at_call 42; refine (x7length_any j _).mono ?_; rintro e w' ⟨rfl, rfl⟩)
                go_round
                case rel => exact ⟨j + 1, by omega, by omega, by go_num, by rw [HS.out]; go_num⟩
                case measure => simp [intOf]; omega
              · have HJ : Hid (j = 1970) := Lib.hid (by omega)
                rw [HJ.out, HA.out]
                clear hj1 hj2 hja hjb hjm HS hlt
                go_wp2
                go_ret
                exact ⟨ret_int (by rw [HR.out]; omega), rfl⟩

set_option maxRecDepth 20000 in
set_option maxHeartbeats 800000 in
theorem x7civil_any (y m d : Nat) (n : Int) (hy1 : 1970 ≤ y) (hy2 : y ≤ 9999) (ht : thereB y m d = true) (hn : n = dayN y m d) (w : World) :
    Calls Tryd.prog 19 #[.int .i64 n] w fun e w' => e = .returned (.tuple #[.int .i64 (y : Int), .int .i64 (m : Int), .int .i64 (d : Int)]) ∧ w = w' := by
  obtain ⟨g1, g2, g3, g4⟩ := there_iff.1 ht
  have hin := dayN_in ht
  have hbd := dayN_bd ht hy2
  have hfr := dayN_from ht hy1
  have hmp := mSum_prev y g1
  have hml := mSum_le y g2
  have hmb := mDays_bd y m
  have hyb := yDays_bd y
  have hD : dayN y m d = (ahead y : Int) + mSum y (m - 1) + d - 1 - 719528 := rfl
  rw [← hn] at hin hbd hfr hD
  have HD := Lib.hid hD
  have HM := Lib.hid hmp
  have HA : Hid (ahead 1970 = 719528) := Lib.hid ahead_1970
  have hahead := ahead_le (y := y) (by omega)
  have hlo : (ahead y : Int) + mSum y (m - 1) ≤ n + 719528 := by omega
  have hhi : n + 719528 < (ahead y : Int) + mSum y m := by omega
  clear hn hD hmp ht
  go_enter Tryd.func19, Tryd.ntmps19
  go_wp2
  go_loop [0, 5] (fun v t => ∃ k : Nat, 1970 ≤ k ∧ k ≤ y ∧ t = .int .i64 (k : Int) ∧ v = .int .i64 (n - ((ahead k : Int) - 719528))) (fun _ t => (9999 - intOf t).toNat)
  case atStart => exact ⟨1970, by omega, hy1, rfl, by rw [HA.out]; simp⟩
  case round =>
    obtain ⟨k, hk1, hk2, rfl, rfl⟩ := hrel
    have hkb := yDays_bd k
    have hka := ahead_mono (a := k) (b := y) hk2
    have hk0 := ahead_mono (a := 1970) (b := k) hk1
    rw [HA.out] at hk0
    by_cases hlt : k < y
    · have hm := ahead_mono (a := k + 1) (b := y) hlt
      have HS := Lib.hid (ahead_succ k)
      have hle : (yDays k : Int) ≤ n - ((ahead k : Int) - 719528) := by have := HS.out; omega
      clear hm
      go_wp2_with (go_at_call 42; refine (x7length_any k _).mono ?_; rintro e w' ⟨rfl, rfl⟩)
      go_round
      case rel => exact ⟨k + 1, by omega, by omega, by go_num, by rw [HS.out]; go_num⟩
      case measure => simp [intOf]; omega
    · have HK : Hid (k = y) := Lib.hid (by omega)
      have hle : ¬ (yDays y : Int) ≤ n - ((ahead y : Int) - 719528) := by have := ahead_succ y; omega
      rw [HK.out]
      clear hk1 hk2 hlt hkb hka hk0
      go_wp2_with (go_at_call 42; refine (x7length_any y _).mono ?_; rintro e w' ⟨rfl, rfl⟩)
      go_loop [0, 6] (fun v t => ∃ j : Nat, j + 1 ≤ m ∧ t = .int .i64 ((j : Int) + 1) ∧ v = .int .i64 (n - ((ahead y : Int) - 719528) - mSum y j)) (fun _ t => (13 - intOf t).toNat)
      case atStart => exact ⟨0, g1, rfl, by simp [mSum]⟩
      case round =>
        obtain ⟨j, hj, rfl, rfl⟩ := hrel
        have hjm := mSum_mono y (a := j) (b := m - 1) (by omega)
        have hjb := mDays_bd y (j + 1)
        by_cases hlt : j + 1 < m
        · have hms := mSum_mono y (a := j + 1) (b := m - 1) (by omega)
          have hle2 : (mDays y (j + 1) : Int) ≤ n - ((ahead y : Int) - 719528) - mSum y j := by
            have : mSum y (j + 1) = mSum y j + mDays y (j + 1) := rfl
            omega
          clear hms
          go_wp2_with (go_at_call 43; refine (x7days_any y (j + 1) _).mono ?_; rintro e w' ⟨rfl, rfl⟩)
          go_round
          case rel => exact ⟨j + 1, by omega, by go_num, by rw [show mSum y (j + 1) = mSum y j + mDays y (j + 1) from rfl]; go_num⟩
          case measure => simp [intOf]; omega
        · have HJ : Hid (j + 1 = m) := Lib.hid (by omega)
          have hle2 : ¬ (mDays y (j + 1) : Int) ≤ n - ((ahead y : Int) - 719528) - mSum y j := by
            have : mSum y (j + 1) = mSum y j + mDays y (j + 1) := rfl
            rw [HJ.out] at this ⊢
            omega
          have HZ : Hid (n - ((ahead y : Int) - 719528) - mSum y j + 1 = d) := Lib.hid (by
            have := HD.out
            obtain rfl : m = j + 1 := by omega
            rw [Nat.add_sub_cancel] at this
            omega)
          have HJ2 : Hid ((j : Int) + 1 = m) := Lib.hid (by omega)
          go_wp2_with (go_at_call 43; refine (x7days_any y (j + 1) _).mono ?_; rintro e w' ⟨rfl, rfl⟩)
          go_ret3
          exact ⟨by rw [← HZ.out, ← HJ2.out] <;> rfl, rfl⟩
set_option maxHeartbeats 400000 in
theorem x7civil_no (n : Int) (h : n < 0 ∨ 2932896 < n) (w : World) :
    Calls Tryd.prog 19 #[.int .i64 n] w fun e w' => e = .returned (.tuple #[.int .i64 0, .int .i64 0, .int .i64 0]) ∧ w = w' := by
  rcases h with h | h
  · go_enter Tryd.func19, Tryd.ntmps19
    go_wp2
    go_ret3
    exact ⟨rfl, rfl⟩
  · have h' : ¬ n < 0 := by omega
    go_enter Tryd.func19, Tryd.ntmps19
    go_wp2
    go_ret3
    exact ⟨rfl, rfl⟩

/-- a date's day, of any three numbers -/
def numberZ (y m d : Int) : Int := if 1970 ≤ y ∧ y ≤ 9999 ∧ thereZ y.toNat m d = true then dayN y.toNat m.toNat d.toNat else -1
theorem thereZ_nats {y : Nat} {m d : Int} (h : thereZ y m d = true) : ∃ k e : Nat, m = k ∧ d = e ∧ 1 ≤ k ∧ k ≤ 12 ∧ e ≤ 31 ∧ thereB y k e = true := by
  have h' := of_decide_eq_true h
  have hb := mDays_bd y m.toNat
  refine ⟨m.toNat, d.toNat, by omega, by omega, by omega, by omega, by omega, ?_⟩
  rw [← thereZ_nat, show ((m.toNat : Nat) : Int) = m by omega, show ((d.toNat : Nat) : Int) = d by omega]
  exact h
theorem numberZ_yes {y m d : Nat} (h1 : 1970 ≤ y) (h2 : y ≤ 9999) (h : thereB y m d = true) : numberZ y m d = dayN y m d := by
  unfold numberZ
  rw [if_pos ⟨by omega, by omega, by rw [Int.toNat_natCast, thereZ_nat]; exact h⟩]
  simp only [Int.toNat_natCast]
theorem numberZ_no {y m d : Int} (h : y < 1970 ∨ 9999 < y ∨ thereZ y.toNat m d = false) : numberZ y m d = -1 := by
  unfold numberZ
  rw [if_neg]
  rintro ⟨a, b, c⟩
  rcases h with h | h | h
  · omega
  · omega
  · rw [h] at c; exact Bool.false_ne_true c

set_option maxRecDepth 20000 in
set_option maxHeartbeats 800000 in
theorem dNumber_any (y m d : Int) (w : World) (hM : Mon w) :
    Calls Tryd.prog 20 #[.int .i64 y, .int .i64 m, .int .i64 d] w fun e w' => e = .returned (.int .i64 (numberZ y m d)) ∧ w = w' := by
  by_cases h1 : y < 1970
  · have HR := Lib.hid (numberZ_no (m := m) (d := d) (.inl h1))
    go_enter Tryd.func20, Tryd.ntmps20
    go_wp2
    go_ret
    exact ⟨by rw [HR.out] <;> rfl, rfl⟩
  · by_cases h2 : 9999 < y
    · have HR := Lib.hid (numberZ_no (m := m) (d := d) (.inr (.inl h2)))
      go_enter Tryd.func20, Tryd.ntmps20
      go_wp2
      go_ret
      exact ⟨by rw [HR.out] <;> rfl, rfl⟩
    · obtain ⟨y, rfl⟩ := Int.eq_ofNat_of_zero_le (show 0 ≤ y by omega)
      have hy1 : 1970 ≤ y := by omega
      have hy2 : y ≤ 9999 := by omega
      cases ht : thereZ y m d
      · have HR := Lib.hid (numberZ_no (y := y) (.inr (.inr (by rw [Int.toNat_natCast]; exact ht))))
        have HT := Lib.hid ht
        clear ht
        go_enter Tryd.func20, Tryd.ntmps20
        go_wp2_with (go_at_call 44; refine (dthere_any y m d _ hM).mono ?_; rintro e w' ⟨rfl, rfl⟩; rw [HT.out])
        go_ret
        exact ⟨by rw [HR.out] <;> rfl, rfl⟩
      · obtain ⟨k, f, rfl, rfl, g1, g2, g3, g4⟩ := thereZ_nats ht
        have HR := Lib.hid (numberZ_yes hy1 hy2 g4)
        have HT := Lib.hid ht
        clear ht g4
        go_enter Tryd.func20, Tryd.ntmps20
        go_wp2_with (first
          | (go_at_call 44; refine (dthere_any y k f _ hM).mono ?_; rintro e w' ⟨rfl, rfl⟩; rw [HT.out])
          | (go_at_call 41; refine (from1970_any y k f (by omega) g1 g2 g3 _ hM).mono ?_; rintro e w' ⟨rfl, rfl⟩))
        go_ret
        exact ⟨by rw [HR.out] <;> rfl, rfl⟩
set_option maxRecDepth 20000 in
set_option maxHeartbeats 800000 in
theorem x7Number_any (y m d : Int) (w : World) :
    Calls Tryd.prog 21 #[.int .i64 y, .int .i64 m, .int .i64 d] w fun e w' => e = .returned (.int .i64 (numberZ y m d)) ∧ w = w' := by
  by_cases h1 : y < 1970
  · have HR := Lib.hid (numberZ_no (m := m) (d := d) (.inl h1))
    go_enter Tryd.func21, Tryd.ntmps21
    go_wp2
    go_ret
    exact ⟨by rw [HR.out] <;> rfl, rfl⟩
  · cases hr : thereR y m d
    · have HR : Hid (numberZ y m d = -1) := Lib.hid (numberZ_no (by
        unfold thereR at hr
        rw [Bool.and_eq_false_iff] at hr
        rcases hr with hr | hr
        · have := of_decide_eq_false hr; omega
        · exact .inr (.inr hr)))
      have HT := Lib.hid hr
      clear hr
      go_enter Tryd.func21, Tryd.ntmps21
      go_wp2_with (go_at_call 45; refine (x7there_any y m d _).mono ?_; rintro e w' ⟨rfl, rfl⟩; rw [HT.out])
      go_ret
      exact ⟨by rw [HR.out] <;> rfl, rfl⟩
    · have HT := Lib.hid hr
      unfold thereR at hr
      rw [Bool.and_eq_true] at hr
      have h2 := of_decide_eq_true hr.1
      obtain ⟨y, rfl⟩ := Int.eq_ofNat_of_zero_le (show 0 ≤ y by omega)
      have hy1 : 1970 ≤ y := by omega
      have hy2 : y ≤ 9999 := by omega
      have ht := hr.2
      rw [Int.toNat_natCast] at ht
      obtain ⟨k, f, rfl, rfl, g1, g2, g3, g4⟩ := thereZ_nats ht
      have HR := Lib.hid (numberZ_yes hy1 hy2 g4)
      clear ht g4 hr h2
      go_enter Tryd.func21, Tryd.ntmps21
      go_wp2_with (first
        | (go_at_call 45; refine (x7there_any y k f _).mono ?_; rintro e w' ⟨rfl, rfl⟩; rw [HT.out])
        | (go_at_call 46; refine (x7number_any y k f hy2 g1 g2 g3 _).mono ?_; rintro e w' ⟨rfl, rfl⟩))
      go_ret
      exact ⟨by rw [HR.out] <;> rfl, rfl⟩

/-- a time's day -/
def dayOf (t : Int) : Int := if t < 0 then -1 else t / 86400
set_option maxHeartbeats 400000 in
theorem day_any (t : Int) (ht : t ≤ 9223372036854775807) (w : World) : Calls Tryd.prog 16 #[.int .i64 t] w fun e w' => e = .returned (.int .i64 (dayOf t)) ∧ w = w' := by
  by_cases h : t < 0
  · have HR : Hid (dayOf t = -1) := Lib.hid (if_pos h)
    go_enter Tryd.func16, Tryd.ntmps16
    go_wp2
    go_ret
    exact ⟨by rw [HR.out] <;> rfl, rfl⟩
  · have HR : Hid (dayOf t = t / 86400) := Lib.hid (if_neg h)
    go_enter Tryd.func16, Tryd.ntmps16
    go_wp2
    go_ret
    exact ⟨by rw [HR.out] <;> rfl, rfl⟩
set_option maxHeartbeats 400000 in
theorem x7day_any (t : Int) (ht : t ≤ 9223372036854775807) (w : World) : Calls Tryd.prog 17 #[.int .i64 t] w fun e w' => e = .returned (.int .i64 (dayOf t)) ∧ w = w' := by
  by_cases h : t < 0
  · have HR : Hid (dayOf t = -1) := Lib.hid (if_pos h)
    go_enter Tryd.func17, Tryd.ntmps17
    go_wp2
    go_ret
    exact ⟨by rw [HR.out] <;> rfl, rfl⟩
  · have HR : Hid (dayOf t = t / 86400) := Lib.hid (if_neg h)
    go_enter Tryd.func17, Tryd.ntmps17
    go_wp2
    go_ret
    exact ⟨by rw [HR.out] <;> rfl, rfl⟩
end Go.Proofs.YtnhafpgeinghnaaDoor
