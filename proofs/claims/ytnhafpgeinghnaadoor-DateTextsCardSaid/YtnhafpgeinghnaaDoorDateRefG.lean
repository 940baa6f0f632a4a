/-
  Contracts over the document's own dates: a clock.
-/
import Derived.Test.YtnhafpgeinghnaaDoorDateRefF
namespace Go.Proofs.YtnhafpgeinghnaaDoor
open Go.RowKit
set_option linter.unusedVariables false
set_option linter.unusedSimpArgs false

def clkZ (a b c : Int) : Int := if 0 ≤ a ∧ a ≤ 23 ∧ 0 ≤ b ∧ b ≤ 59 ∧ 0 ≤ c ∧ c ≤ 59 then a * 3600 + b * 60 + c else -1
def clkI (short : Bool) (l : List (List Nat)) : Int := if clkOk short l = true then (clkV l : Int) else -1
theorem numI_two (l : List Nat) (b : Nat) : (twoOk l b = true ∧ numI l 2 2 = (valN l : Int) ∧ 0 ≤ numI l 2 2 ∧ numI l 2 2 < b) ∨ (twoOk l b = false ∧ ¬ (0 ≤ numI l 2 2 ∧ numI l 2 2 < b)) := by
  rcases numI_cases l 2 2 with ⟨o, v⟩ | ⟨o, v, h⟩
  · exact .inr ⟨by unfold twoOk; rw [o]; rfl, by rw [v]; omega⟩
  · by_cases hb : valN l < b
    · exact .inl ⟨twoOk_iff.2 ⟨o, hb⟩, v, by rw [v]; omega, by rw [v]; omega⟩
    · exact .inr ⟨by unfold twoOk; rw [o, decide_eq_false hb]; rfl, by rw [v]; omega⟩
theorem clkZ_three (sh : Bool) (p q r : List Nat) : clkZ (numI p 2 2) (numI q 2 2) (numI r 2 2) = clkI sh [p, q, r] := by
  have e : clkOk sh [p, q, r] = (twoOk p 24 && twoOk q 60 && twoOk r 60) := rfl
  unfold clkZ clkI
  rw [e]
  rcases numI_two p 24 with ⟨a1, a2, a3, a4⟩ | ⟨a1, a2⟩
  · rcases numI_two q 60 with ⟨b1, b2, b3, b4⟩ | ⟨b1, b2⟩
    · rcases numI_two r 60 with ⟨c1, c2, c3, c4⟩ | ⟨c1, c2⟩
      · rw [a1, b1, c1, if_pos (by omega), if_pos (show (true && true && true) = true from rfl), a2, b2, c2]
        show _ = ((valN p * 3600 + valN q * 60 + valN r : Nat) : Int)
        omega
      · rw [c1, Bool.and_false, if_neg (by omega), if_neg Bool.false_ne_true]
    · rw [b1, Bool.and_false, Bool.false_and, if_neg (by omega), if_neg Bool.false_ne_true]
  · rw [a1, Bool.false_and, Bool.false_and, if_neg (by omega), if_neg Bool.false_ne_true]
theorem clkZ_two (p q : List Nat) : clkZ (numI p 2 2) (numI q 2 2) 0 = clkI true [p, q] := by
  have e : clkOk true [p, q] = (true && (twoOk p 24 && twoOk q 60)) := rfl
  unfold clkZ clkI
  rw [e]
  rcases numI_two p 24 with ⟨a1, a2, a3, a4⟩ | ⟨a1, a2⟩
  · rcases numI_two q 60 with ⟨b1, b2, b3, b4⟩ | ⟨b1, b2⟩
    · rw [a1, b1, if_pos (by omega), if_pos (show (true && (true && true)) = true from rfl), a2, b2]
      show _ = ((valN p * 3600 + valN q * 60 : Nat) : Int)
      omega
    · rw [b1, Bool.and_false, Bool.and_false, if_neg (by omega), if_neg Bool.false_ne_true]
  · rw [a1, Bool.false_and, Bool.and_false, if_neg (by omega), if_neg Bool.false_ne_true]
theorem numI_bd (l : List Nat) : -1 ≤ numI l 2 2 ∧ numI l 2 2 ≤ 99 := by
  rcases numI_cases l 2 2 with ⟨_, v⟩ | ⟨_, v, h⟩ <;> omega

set_option maxRecDepth 20000 in
set_option maxHeartbeats 8000000 in
theorem x7clock_any (s : ByteArray) (sh : Bool) (hs : s.size ≤ 100000) (w : World) : Calls Tryd.prog 29 #[.string s, .bool sh] w fun e w' => e = .returned (.int .i64 (clkI sh (splitL 58 (nats s)))) ∧ Below w.heap.size w w' := by
  have csp := x7split_any s 58 (by omega) hs w
  have hlt := splitL_lt (c := 58) (nats_lt s)
  have hln := splitL_len (c := 58) (l := nats s)
  rw [nats_length] at hln
  have hsum := splitL_sum 58 (nats s)
  obtain ⟨L, hL⟩ : ∃ L, splitL 58 (nats s) = L := ⟨_, rfl⟩
  rw [hL] at csp hlt hln hsum ⊢
  rw [nats_length] at hsum
  clear hL
  rcases two_cases L with ⟨p0, p1, rfl⟩ | ⟨p0, p1, p2, rfl⟩ | ⟨h2, h3⟩
  · have hz0 : (strOf p0).size ≤ 4294967296 := size_small (Nat.le_trans (hln p0 (by simp)) (by omega))
    have hz1 : (strOf p1).size ≤ 4294967296 := size_small (Nat.le_trans (hln p1 (by simp)) (by omega))
    have HN0 := Lib.hid (nats_strOf p0 (hlt p0 (by simp)))
    have HN1 := Lib.hid (nats_strOf p1 (hlt p1 (by simp)))
    clear hlt hln hsum
    cases sh
    · have HF : Hid (clkI false [p0, p1] = -1) := Lib.hid rfl
      go_enter Tryd.func29, Tryd.ntmps29
      go_wp2_with fail
      refine csp.mono ?_
      rintro e w1 ⟨A, n, k, rfl, hown, hb⟩
      obtain rfl : n = 2 := by have := hown.len; simpa using this.symm
      have HB := Lib.hid hb
      clear hown hb csp
      go_wp2_with fail
      go_ret
      exact ⟨by rw [HF.out] <;> rfl, HB.out⟩
    · have HZ := Lib.hid (clkZ_two p0 p1)
      have b0 := numI_bd p0
      have b1 := numI_bd p1
      obtain ⟨z0, hz0'⟩ : ∃ z, numI p0 2 2 = z := ⟨_, rfl⟩
      obtain ⟨z1, hz1'⟩ : ∃ z, numI p1 2 2 = z := ⟨_, rfl⟩
      have HZ0 := Lib.hid hz0'
      have HZ1 := Lib.hid hz1'
      rw [hz0'] at b0
      rw [hz1'] at b1
      have HZZ : Hid (clkI true [p0, p1] = clkZ z0 z1 0) := Lib.hid (by rw [← HZ.out, hz0', hz1'])
      clear hz0' hz1'
      go_enter Tryd.func29, Tryd.ntmps29
      go_wp2_with fail
      refine csp.mono ?_
      rintro e w1 ⟨A, n, k, rfl, hown, hb⟩
      obtain rfl : n = 2 := by have := hown.len; simpa using this.symm
      obtain ⟨g, rfl, hg1, hg2, hst, hfz, hput⟩ := hown.at_ (by omega)
      have hc0 := hst 0 p0 rfl
      have hc1 := hst 1 p1 rfl
      simp only [Nat.zero_add] at hc0 hc1
      have ca := fun k => (x7num_any (strOf p0) 2 2 (w1.drewN k) hz0 (by omega) (by omega)).mono (fun _ _ h => (⟨h.1, h.2.symm⟩ : _ ∧ _))
      have cb := fun k => (x7num_any (strOf p1) 2 2 (w1.drewN k) hz1 (by omega) (by omega)).mono (fun _ _ h => (⟨h.1, h.2.symm⟩ : _ ∧ _))
      rw [HN0.out, HZ0.out] at ca
      rw [HN1.out, HZ1.out] at cb
      have HB := Lib.hid hb
      clear hown hb csp hst hfz hput
      go_wp2_with fail
      go_quiet ((first | (go_at_call 52; with_reducible exact Calls.quiet_of_same (ca _)) | (go_at_call 52; with_reducible exact Calls.quiet_of_same (cb _))))
      go_wp2_with fail
      all_goals
        go_ret
        refine ⟨ret_int ?_, below_drewN HB.out _⟩
        rw [HZZ.out]
        unfold clkZ
        split <;> omega
  · have hz0 : (strOf p0).size ≤ 4294967296 := size_small (Nat.le_trans (hln p0 (by simp)) (by omega))
    have hz1 : (strOf p1).size ≤ 4294967296 := size_small (Nat.le_trans (hln p1 (by simp)) (by omega))
    have hz2 : (strOf p2).size ≤ 4294967296 := size_small (Nat.le_trans (hln p2 (by simp)) (by omega))
    have HN0 := Lib.hid (nats_strOf p0 (hlt p0 (by simp)))
    have HN1 := Lib.hid (nats_strOf p1 (hlt p1 (by simp)))
    have HN2 := Lib.hid (nats_strOf p2 (hlt p2 (by simp)))
    have HZ := Lib.hid (clkZ_three sh p0 p1 p2)
    have b0 := numI_bd p0
    have b1 := numI_bd p1
    have b2 := numI_bd p2
    obtain ⟨z0, hz0'⟩ : ∃ z, numI p0 2 2 = z := ⟨_, rfl⟩
    obtain ⟨z1, hz1'⟩ : ∃ z, numI p1 2 2 = z := ⟨_, rfl⟩
    obtain ⟨z2, hz2'⟩ : ∃ z, numI p2 2 2 = z := ⟨_, rfl⟩
    have HZ0 := Lib.hid hz0'
    have HZ1 := Lib.hid hz1'
    have HZ2 := Lib.hid hz2'
    rw [hz0'] at b0
    rw [hz1'] at b1
    rw [hz2'] at b2
    have HZZ : Hid (clkI sh [p0, p1, p2] = clkZ z0 z1 z2) := Lib.hid (by rw [← HZ.out, hz0', hz1', hz2'])
    clear hz0' hz1' hz2' hlt hln hsum
    go_enter Tryd.func29, Tryd.ntmps29
    go_wp2_with fail
    refine csp.mono ?_
    rintro e w1 ⟨A, n, k, rfl, hown, hb⟩
    obtain rfl : n = 3 := by have := hown.len; simpa using this.symm
    obtain ⟨g, rfl, hg1, hg2, hst, hfz, hput⟩ := hown.at_ (by omega)
    have hc0 := hst 0 p0 rfl
    have hc1 := hst 1 p1 rfl
    have hc2 := hst 2 p2 rfl
    simp only [Nat.zero_add] at hc0 hc1 hc2
    have ca := fun k => (x7num_any (strOf p0) 2 2 (w1.drewN k) hz0 (by omega) (by omega)).mono (fun _ _ h => (⟨h.1, h.2.symm⟩ : _ ∧ _))
    have cb := fun k => (x7num_any (strOf p1) 2 2 (w1.drewN k) hz1 (by omega) (by omega)).mono (fun _ _ h => (⟨h.1, h.2.symm⟩ : _ ∧ _))
    have cd := fun W => x7num_any (strOf p2) 2 2 W hz2 (by omega) (by omega)
    rw [HN0.out, HZ0.out] at ca
    rw [HN1.out, HZ1.out] at cb
    rw [HN2.out, HZ2.out] at cd
    have HB := Lib.hid hb
    clear hown hb csp hst hfz hput
    go_wp2_with fail
    go_quiet ((first | (go_at_call 52; with_reducible exact Calls.quiet_of_same (ca _)) | (go_at_call 52; with_reducible exact Calls.quiet_of_same (cb _))))
    go_wp2_with fail
    refine (cd _).mono ?_
    rintro e w' ⟨rfl, rfl⟩
    go_wp2_with fail
    all_goals
      go_ret
      refine ⟨ret_int ?_, below_drewN HB.out _⟩
      rw [HZZ.out]
      unfold clkZ
      split <;> omega
  · have HL : Hid (clkI sh L = -1) := Lib.hid (by
      have : clkOk sh L = false := by
        match L, h2, h3 with
        | [], _, _ => rfl
        | [_], _, _ => rfl
        | [_, _], h2, _ => exact absurd rfl h2
        | [_, _, _], _, h3 => exact absurd rfl h3
        | _ :: _ :: _ :: _ :: _, _, _ => rfl
      unfold clkI
      rw [this, if_neg Bool.false_ne_true])
    obtain ⟨m, hm⟩ : ∃ m, L.length = m := ⟨_, rfl⟩
    rw [hm] at h2 h3 hsum
    have f2 : ((m : Int) == 2) = false := by simp; omega
    have f3 : ((m : Int) != 3) = true := by simp; omega
    have hmb : m ≤ 100001 := by omega
    have HM := Lib.hid hm
    clear h2 h3 hm hlt hln hsum
    cases sh
    all_goals
      go_enter Tryd.func29, Tryd.ntmps29
      go_wp2_with fail
      refine csp.mono ?_
      rintro e w1 ⟨A, n, k, rfl, hown, hb⟩
      obtain rfl : n = m := by have := hown.len; rw [HM.out] at this; exact this.symm
      have HB := Lib.hid hb
      clear hown hb csp
      go_wp2_with fail
      go_ret
      exact ⟨by rw [HL.out] <;> rfl, HB.out⟩
end Go.Proofs.YtnhafpgeinghnaaDoor
