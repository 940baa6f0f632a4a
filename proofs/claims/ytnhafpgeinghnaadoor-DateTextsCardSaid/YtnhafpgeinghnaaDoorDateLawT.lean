/-
  The law DateTexts of package date, as a walk.
-/
import Derived.Test.YtnhafpgeinghnaaDoorDateRefN
import Derived.Test.YtnhafpgeinghnaaDoorDateAlive
import Derived.Test.YtnhafpgeinghnaaDoorDateDoors
namespace Go.Proofs.YtnhafpgeinghnaaDoor
open Go.RowKit
set_option linter.unusedVariables false
set_option linter.unusedSimpArgs false

theorem x7print_no (t : Int) (h : t < 0 ∨ 253402300799 < t) (w : World) :
    Calls Tryd.prog 15 #[.int .i64 t] w fun e w' => e = .returned (.tuple #[.string (strOf []), .int .i64 15]) ∧ w = w' := by
  have he : (⟨#[]⟩ : ByteArray) = strOf [] := rfl
  rcases (Decidable.em (t < 0)) with h0 | h0
  · clear h
    go_enter Tryd.func15, Tryd.ntmps15
    go_wp2_with fail
    go_ret2
    exact ⟨rfl, rfl⟩
  · have h1 : 253402300799 < t := h.resolve_left h0
    clear h
    go_enter Tryd.func15, Tryd.ntmps15
    go_wp2_with fail
    go_ret2
    exact ⟨rfl, rfl⟩
/-- a printed time, of any number -/
theorem print_both (t : Int) : ∃ l : List Nat, ∃ r : Int, (∀ w : World, Mon w → Tens w → Calls Tryd.prog 14 #[.int .i64 t] w fun e w' => e = .returned (.tuple #[.string (strOf l), .int .i64 r]) ∧ Below w.heap.size w w') ∧
    (∀ w : World, Calls Tryd.prog 15 #[.int .i64 t] w fun e w' => e = .returned (.tuple #[.string (strOf l), .int .i64 r]) ∧ Below w.heap.size w w') := by
  by_cases h : t < 0 ∨ 253402300799 < t
  · refine ⟨[], 15, fun w _ _ => ?_, fun w => (x7print_no t h w).mono ?_⟩
    · exact (print_no t h w).mono (by rintro e w' ⟨rfl, rfl⟩; exact ⟨rfl, Below.refl _ _⟩)
    · rintro e w' ⟨rfl, rfl⟩; exact ⟨rfl, Below.refl _ _⟩
  · obtain ⟨n, rfl⟩ := Int.eq_ofNat_of_zero_le (show 0 ≤ t by omega)
    obtain ⟨y, m, d, h1, h2, h3, h4⟩ := civil_ex (n / 86400) (by omega)
    have e : (n : Int) = timeN y m d (n % 86400 / 3600) (n % 3600 / 60) (n % 60) := by
      show (n : Int) = dayN y m d * 86400 + (n % 86400 / 3600 : Nat) * 3600 + (n % 3600 / 60 : Nat) * 60 + (n % 60 : Nat)
      omega
    refine ⟨_, 0, fun w hM hT => print_any y m d (n % 86400 / 3600) (n % 3600 / 60) (n % 60) n h1 h2 h3 (by omega) (by omega) (by omega) e w hM hT, fun w => (x7print_any y m d (n % 86400 / 3600) (n % 3600 / 60) (n % 60) n h1 h2 h3 (by omega) (by omega) (by omega) e w).mono ?_⟩
    rintro e w' ⟨rfl, q, rfl⟩
    exact ⟨rfl, below_drewN (Below.refl _ _) _⟩

set_option maxRecDepth 100000 in
set_option maxHeartbeats 8000000 in
theorem dateTexts_walk (s : ByteArray) (t : Int) (ht : t ≤ 9223372036854775807) (w : World) (hM : Mon w) (hT : Tens w) :
    Calls Tryd.prog 3 #[.string s, .int .i64 t] w fun e w' => e = .returned (.bool true) ∧ Below w.heap.size w w' := by
  have HM := Lib.hid hM
  have HT := Lib.hid hT
  clear hM hT
  rcases (Decidable.em (300 < s.size)) with h3 | h3
  · have h3' : (300 : Int) < (s.size : Int) := by omega
    go_enter Tryd.func3, Tryd.ntmps3
    go_wp2_with fail
    refine (alive07_any _ HM.out HT.out).mono ?_
    rintro e w1 ⟨rfl, hb1⟩
    go_wp2_with fail
    go_ret
    exact ⟨rfl, hb1⟩
  · have h3' : ¬ (300 : Int) < (s.size : Int) := by omega
    have hs : s.size ≤ 100000 := by omega
    obtain ⟨pl, pr, cp, cq⟩ := print_both t
    obtain ⟨a1, ha1⟩ : ∃ a, (parseR (nats s)) = a := ⟨_, rfl⟩
    obtain ⟨a2, ha2⟩ : ∃ a, (shortR (nats s)) = a := ⟨_, rfl⟩
    obtain ⟨a3, ha3⟩ : ∃ a, (mailR (nats s)) = a := ⟨_, rfl⟩
    obtain ⟨z1, e1⟩ := a1
    obtain ⟨z2, e2⟩ := a2
    obtain ⟨z3, e3⟩ := a3
    have c1 := fun w hM => parse_any s (by omega) w hM
    have d1 := fun w => x7parse_any s hs w
    have c2 := fun w hM => short_any s (by omega) w hM
    have d2 := fun w => x7short_any s hs w
    have c3 := fun w hM => dmail_any s (by omega) w hM
    have d3 := fun w => x7mail_any s hs w
    rw [parse_eq, ha1] at d1
    rw [short_eq, ha2] at d2
    rw [mail_eq, ha3] at d3
    rw [ha1] at c1
    rw [ha2] at c2
    rw [ha3] at c3
    have y1 := fun w => day_any t ht w
    have y2 := fun w => x7day_any t ht w
    obtain ⟨dd, hdd⟩ : ∃ d, dayOf t = d := ⟨_, rfl⟩
    rw [hdd] at y1 y2
    simp only [resP] at c1 c2 c3 d1 d2 d3
    have C1 := Lib.hid c1
    have C2 := Lib.hid c2
    have C3 := Lib.hid c3
    have CP := Lib.hid cp
    clear c1 c2 c3 cp ha1 ha2 ha3 hdd hs h3
    go_enter Tryd.func3, Tryd.ntmps3
    go_wp2_with fail
    refine (alive07_any _ HM.out HT.out).mono ?_
    rintro e w1 ⟨rfl, hb1⟩
    have HM1 := Lib.hid (HM.out.below hb1)
    have HT1 := Lib.hid (HT.out.below hb1)
    have HB1 := Lib.hid hb1
    clear HM HT hb1
    go_wp2_with fail
    refine (C1.out _ HM1.out).mono ?_
    rintro e w2 ⟨rfl, hb2⟩
    have HM2 := Lib.hid (HM1.out.below hb2)
    have HT2 := Lib.hid (HT1.out.below hb2)
    have HB2 := Lib.hid (HB1.out.trans (hb2.mono HB1.out.size))
    clear HM1 HT1 HB1 hb2
    go_wp2_with fail
    refine (d1 _).mono ?_
    rintro e w3 ⟨rfl, hb3⟩
    have HM3 := Lib.hid (HM2.out.below hb3)
    have HT3 := Lib.hid (HT2.out.below hb3)
    have HB3 := Lib.hid (HB2.out.trans (hb3.mono HB2.out.size))
    clear HM2 HT2 HB2 hb3
    go_wp2_with fail
    refine (C2.out _ HM3.out).mono ?_
    rintro e w4 ⟨rfl, hb4⟩
    have HM4 := Lib.hid (HM3.out.below hb4)
    have HT4 := Lib.hid (HT3.out.below hb4)
    have HB4 := Lib.hid (HB3.out.trans (hb4.mono HB3.out.size))
    clear HM3 HT3 HB3 hb4
    go_wp2_with fail
    refine (d2 _).mono ?_
    rintro e w5 ⟨rfl, hb5⟩
    have HM5 := Lib.hid (HM4.out.below hb5)
    have HT5 := Lib.hid (HT4.out.below hb5)
    have HB5 := Lib.hid (HB4.out.trans (hb5.mono HB4.out.size))
    clear HM4 HT4 HB4 hb5
    go_wp2_with fail
    refine (C3.out _ HM5.out).mono ?_
    rintro e w6 ⟨rfl, hb6⟩
    have HM6 := Lib.hid (HM5.out.below hb6)
    have HT6 := Lib.hid (HT5.out.below hb6)
    have HB6 := Lib.hid (HB5.out.trans (hb6.mono HB5.out.size))
    clear HM5 HT5 HB5 hb6
    go_wp2_with fail
    refine (d3 _).mono ?_
    rintro e w7 ⟨rfl, hb7⟩
    have HM7 := Lib.hid (HM6.out.below hb7)
    have HT7 := Lib.hid (HT6.out.below hb7)
    have HB7 := Lib.hid (HB6.out.trans (hb7.mono HB6.out.size))
    clear HM6 HT6 HB6 hb7
    go_wp2_with fail
    refine (CP.out _ HM7.out HT7.out).mono ?_
    rintro e w8 ⟨rfl, hb8⟩
    have HM8 := Lib.hid (HM7.out.below hb8)
    have HT8 := Lib.hid (HT7.out.below hb8)
    have HB8 := Lib.hid (HB7.out.trans (hb8.mono HB7.out.size))
    clear HM7 HT7 HB7 hb8
    go_wp2_with fail
    refine (cq _).mono ?_
    rintro e w9 ⟨rfl, hb9⟩
    have HM9 := Lib.hid (HM8.out.below hb9)
    have HT9 := Lib.hid (HT8.out.below hb9)
    have HB9 := Lib.hid (HB8.out.trans (hb9.mono HB8.out.size))
    clear HM8 HT8 HB8 hb9
    go_wp2_with (first
      | (go_at_call 16; refine (y1 _).mono ?_; rintro e w' ⟨rfl, rfl⟩)
      | (go_at_call 17; refine (y2 _).mono ?_; rintro e w' ⟨rfl, rfl⟩))
    go_ret
    exact ⟨rfl, HB9.out⟩
end Go.Proofs.YtnhafpgeinghnaaDoor
