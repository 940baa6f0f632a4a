/-
  The laws UidsBack and UidsOf of package uids, as walks.
-/
import Derived.Test.YtiophifilikajaaDoorQUidsAlive
import Derived.Test.YtiophifilikajaaDoorQUidsG2
import Derived.Test.YtiophifilikajaaDoorQUidsD
namespace Go.Proofs.YtiophifilikajaaDoor
set_option linter.unusedVariables false
set_option linter.unusedSimpArgs false
open Go.RowKit
set_option linter.unusedVariables false
set_option linter.unusedSimpArgs false

theorem Col.later' {w w' : World} {A : Option Addr} {n : Nat} {l : List Int} (h : Col ints w w.heap.size A n l) (hb : Below w.heap.size w w') : Col ints w' w'.heap.size A n l := (h.below hb (Nat.le_refl _)).more hb.size

set_option maxRecDepth 100000 in
set_option maxHeartbeats 8000000 in
theorem uidsBack_walk (A : Option Addr) (n c : Nat) (l : List Rg) (s : ByteArray) (w : World) (hS : Std w) (hl : ColK 2 rgC w w.heap.size A n l) (hn : n ≤ 140737488355328) (hs : s.size ≤ 140737488355328) :
    Calls Tryd.prog 5 #[.slice A n c, .string s] w fun e w' => e = .returned (.bool true) ∧ Below w.heap.size w w' := by
  have HS := Lib.hid hS
  have HL := Lib.hid hl
  clear hS hl
  go_enter Tryd.func5, Tryd.ntmps5
  go_wp2_with fail
  refine (alive09_any _ HS.out).mono ?_
  rintro e w1 ⟨rfl, hb1⟩
  have HS1 := Lib.hid (HS.out.below hb1)
  have HL1 := Lib.hid (HL.out.later hb1)
  have HB1 := Lib.hid hb1
  clear hb1 HS HL
  by_cases h200 : 200 < n
  · have h200' : (200 : Int) < (n : Int) := by omega
    go_wp2_with fail
    go_ret
    exact ⟨rfl, HB1.out⟩
  · have h200' : ¬ (200 : Int) < (n : Int) := by omega
    by_cases h3000 : 3000 < s.size
    · have h3000' : (3000 : Int) < (s.size : Int) := by omega
      go_wp2_with fail
      go_ret
      exact ⟨rfl, HB1.out⟩
    · have h3000' : ¬ (3000 : Int) < (s.size : Int) := by omega
      go_wp2_with fail
      refine (uPrint_any A n c l w1 HL1.out (by omega) HS1.out).mono ?_
      rintro e w2 ⟨rfl, hb2⟩
      have HS2 := Lib.hid (HS1.out.below hb2)
      have HL2 := Lib.hid (HL1.out.later hb2)
      have HB2 := Lib.hid (HB1.out.trans (hb2.mono HB1.out.size))
      clear hb2 HS1 HL1 HB1
      have HPL := Lib.hid (nats_strOf (printV l) (printV_lt l))
      cases hr : rightU l
      · obtain ⟨h1, h2⟩ := printE_no hr
        have h10 : ((1 : Int) == 0) = false := by decide
        rw [h1, h2]
        clear h1 h2 hr HPL
        go_wp2_with fail
        refine (uParse_any s hs w2 HS2.out).mono ?_
        rintro e w5 ⟨A5, n5, c5, rfl, hc5, hb5⟩
        have HC5 := Lib.hid hc5
        have HS5 := Lib.hid (HS2.out.below hb5)
        have HB5 := Lib.hid (HB2.out.trans (hb5.mono HB2.out.size))
        clear hc5 hb5
        by_cases he : parsE (nats s) = 0
        · obtain ⟨hr5, hn5⟩ := print_pars he
          have HE := Lib.hid he
          have h00b : ((0 : Int) != 0) = false := by decide
          obtain ⟨p1, p2⟩ := printE_yes hr5
          have hn5l : n5 ≤ 60 := by rw [← HC5.out.1]; exact (of_decide_eq_true hr5).2.1
          have CP5 := uPrint_any A5 n5 c5 (parsV (nats s)) w5 HC5.out (by omega) HS5.out
          unfold PrintIs at CP5
          rw [p1, p2, hn5, strOf_nats] at CP5
          have HCP5 := Lib.hid CP5
          have hss : (s.toList == s.toList) = true := by simp
          rw [HE.out]
          clear he hr5 hn5 p1 p2 CP5
          go_wp2_with fail
          refine HCP5.out.mono ?_
          rintro e w6 ⟨rfl, hb6⟩
          have HB6 := Lib.hid (HB5.out.trans (hb6.mono HB5.out.size))
          clear hb6 HCP5
          go_wp2_with fail
          go_ret
          exact ⟨rfl, HB6.out⟩
        · have hne : (parsE (nats s) != 0) = true := by simp; exact he
          have hv : parsV (nats s) = [] := by unfold parsV; rw [if_neg he]
          have hn5 : n5 = 0 := by rw [← HC5.out.1, hv]; rfl
          subst hn5
          clear he hv
          go_wp2_with fail
          go_ret
          exact ⟨rfl, HB5.out⟩
      · obtain ⟨h1, h2⟩ := printE_yes hr
        have hlen := setN_len hr
        obtain ⟨g1, g2⟩ := pars_print hr
        rw [h2] at HPL
        rw [h1, h2]
        have CP := uParse_any (strOf (setN l)) (by rw [strOf_size]; omega) w2 HS2.out
        obtain ⟨t, ht⟩ : ∃ t, strOf (setN l) = t := ⟨_, rfl⟩
        rw [ht] at CP HPL ⊢
        have HG1 : Hid (parsE (nats t) = 0) := Lib.hid (by rw [HPL.out]; exact g1)
        have HG2 : Hid (parsV (nats t) = l) := Lib.hid (by rw [HPL.out]; exact g2)
        have HCP := Lib.hid CP
        clear h1 h2 hr hlen g1 g2 ht CP HPL
        go_wp2_with fail
        refine HCP.out.mono ?_
        rintro e w3 ⟨A3, n3, c3, rfl, hc3, hb3⟩
        rw [HG1.out]
        rw [HG2.out] at hc3
        have hn3 : n3 = n := by rw [← hc3.1, HL2.out.1]
        have HC3 := Lib.hid hc3
        have HS3 := Lib.hid (HS2.out.below hb3)
        have HL3 := Lib.hid (HL2.out.later hb3)
        have HB3 := Lib.hid (HB2.out.trans (hb3.mono HB2.out.size))
        have h00 : ((0 : Int) != 0) = false := by decide
        subst hn3
        clear hc3 hb3 HCP HS2 HL2 HB2
        go_wp2_with fail
        refine (x9Same_any A A3 n3 c n3 c3 l l w3 HL3.out HC3.out (by omega) (by omega)).mono ?_
        rintro e w4 ⟨rfl, q, rfl⟩
        rw [decide_eq_true (rfl : l = l)]
        have HS4 := Lib.hid (HS3.out.drewN q)
        have HB4 := Lib.hid (below_drewN HB3.out q)
        clear HS3 HB3 h00
        generalize w3.drewN q = w4 at *
        go_wp2_with fail
        refine (uParse_any s hs w4 HS4.out).mono ?_
        rintro e w5 ⟨A5, n5, c5, rfl, hc5, hb5⟩
        have HC5 := Lib.hid hc5
        have HS5 := Lib.hid (HS4.out.below hb5)
        have HB5 := Lib.hid (HB4.out.trans (hb5.mono HB4.out.size))
        clear hc5 hb5
        by_cases he : parsE (nats s) = 0
        · obtain ⟨hr5, hn5⟩ := print_pars he
          have HE := Lib.hid he
          have h00b : ((0 : Int) != 0) = false := by decide
          obtain ⟨p1, p2⟩ := printE_yes hr5
          have hn5l : n5 ≤ 60 := by rw [← HC5.out.1]; exact (of_decide_eq_true hr5).2.1
          have CP5 := uPrint_any A5 n5 c5 (parsV (nats s)) w5 HC5.out (by omega) HS5.out
          unfold PrintIs at CP5
          rw [p1, p2, hn5, strOf_nats] at CP5
          have HCP5 := Lib.hid CP5
          have hss : (s.toList == s.toList) = true := by simp
          rw [HE.out]
          clear he hr5 hn5 p1 p2 CP5
          go_wp2_with fail
          refine HCP5.out.mono ?_
          rintro e w6 ⟨rfl, hb6⟩
          have HB6 := Lib.hid (HB5.out.trans (hb6.mono HB5.out.size))
          clear hb6 HCP5
          go_wp2_with fail
          go_ret
          exact ⟨rfl, HB6.out⟩
        · have hne : (parsE (nats s) != 0) = true := by simp; exact he
          have hv : parsV (nats s) = [] := by unfold parsV; rw [if_neg he]
          have hn5 : n5 = 0 := by rw [← HC5.out.1, hv]; rfl
          subst hn5
          clear he hv
          go_wp2_with fail
          go_ret
          exact ⟨rfl, HB5.out⟩

set_option maxRecDepth 20000 in
set_option maxHeartbeats 4000000 in
theorem uidsOf_walk (A : Option Addr) (k c : Nat) (nums : List Int) (n : Int) (w : World) (hS : Std w) (hN : Col ints w w.heap.size A k nums) (hk : k ≤ 140737488355328) :
    Calls Tryd.prog 6 #[.slice A k c, .int .i64 n] w fun e w' => e = .returned (.bool true) ∧ Below w.heap.size w w' := by
  have HS := Lib.hid hS
  have HN := Lib.hid hN
  clear hS hN
  go_enter Tryd.func6, Tryd.ntmps6
  go_wp2_with fail
  refine (alive09_any _ HS.out).mono ?_
  rintro e w1 ⟨rfl, hb1⟩
  have HN1 := Lib.hid (HN.out.later' hb1)
  have HB1 := Lib.hid hb1
  clear hb1 HS HN
  by_cases h200 : 200 < k
  · have h200' : (200 : Int) < (k : Int) := by omega
    go_wp2_with fail
    go_ret
    exact ⟨rfl, HB1.out⟩
  · have h200' : ¬ (200 : Int) < (k : Int) := by omega
    go_wp2_with fail
    refine (x9Rising_any A k c nums w1 HN1.out (by omega)).mono ?_
    rintro e w2 ⟨rfl, q, rfl⟩
    have HN2 := Lib.hid (HN1.out.later' (below_drewN (Below.refl _ _) q))
    have HB2 := Lib.hid (below_drewN HB1.out q)
    clear HN1 HB1
    generalize w1.drewN q = w2 at *
    cases hr : riseB nums
    · go_wp2_with fail
      go_ret
      exact ⟨rfl, HB2.out⟩
    · have hz : ∀ z ∈ nums, 1 ≤ z ∧ z ≤ 4294967295 := fun z hz => by
        obtain ⟨i, hi, rfl⟩ := List.mem_iff_getElem.1 hz
        have h1 := of_decide_eq_true (of_decide_eq_true hr i hi)
        rw [List.getD_eq_getElem?_getD, List.getElem?_eq_getElem hi] at h1
        exact ⟨h1.1, h1.2.1⟩
      have HR := Lib.hid hr
      have HZ := Lib.hid hz
      clear hr hz
      go_wp2_with fail
      refine (uOf_any A k c nums w2 HN2.out (by omega) HZ.out).mono ?_
      rintro e w3 ⟨A3, n3, c3, rfl, hc3, hb3⟩
      have HC3 := Lib.hid hc3
      have HN3 := Lib.hid (HN2.out.later' hb3)
      have HB3 := Lib.hid (HB2.out.trans (hb3.mono HB2.out.size))
      have hle : n3 ≤ k := by rw [← hc3.1, ← HN2.out.1]; exact ofZ_len nums
      clear hc3 hb3 HN2 HB2
      go_wp2_with fail
      go_loopw [6, 7] (fun b i wx => ∃ j : Nat, j ≤ k ∧ i = .int .i64 (j : Int) ∧ b = .bool (decide (n ∈ nums.take j)) ∧ wx = w3) (fun _ i _ => k - (intOf i).toNat)
      case atStart => exact ⟨0, Nat.zero_le _, rfl, by simp, rfl⟩
      case round =>
        obtain ⟨j, hj, rfl, rfl, hw⟩ := hrel
        have HW := Lib.hid hw
        clear hw
        by_cases hlt : j < k
        · obtain ⟨b, o, z, rfl, hbb, hzz, htk, hc⟩ := HN3.out.at_ hlt
          rw [show w3.cell? ⟨b, o + j, none⟩ = wr.cell? ⟨b, o + j, none⟩ by rw [HW.out]] at hc
          unfold ints at hc
          have hj0 : (0 : Int) ≤ (j : Int) := by omega
          have hjk : (j : Int) < (k : Int) := by omega
          have HM : Hid (decide (n ∈ nums.take (j + 1)) = (decide (n ∈ nums.take j) || decide (n = z))) := Lib.hid (by rw [htk, Bool.eq_iff_iff]; simp)
          clear hzz htk
          obtain ⟨y, hy⟩ : ∃ y, decide (n ∈ nums.take j) = y := ⟨_, rfl⟩
          rw [hy] at HM ⊢
          clear hy
          cases y
          · by_cases hzn : z = n
            · have hzb : (z == n) = true := by simp; exact hzn
              have HM2 : Hid (decide (n ∈ nums.take (j + 1)) = true) := Lib.hid (by rw [HM.out, decide_eq_true hzn.symm]; rfl)
              clear hzn
              go_wp2_with fail
              go_roundw
              case rel => exact ⟨j + 1, by omega, by go_num, by rw [HM2.out], HW.out⟩
              case measure => simp [intOf]; omega
            · have hzb : (z == n) = false := by simp; exact hzn
              have HM2 : Hid (decide (n ∈ nums.take (j + 1)) = false) := Lib.hid (by rw [HM.out, decide_eq_false (fun e => hzn e.symm)]; rfl)
              clear hzn
              go_wp2_with fail
              go_roundw
              case rel => exact ⟨j + 1, by omega, by go_num, by rw [HM2.out], HW.out⟩
              case measure => simp [intOf]; omega
          · have HM2 : Hid (decide (n ∈ nums.take (j + 1)) = true) := Lib.hid (by rw [HM.out]; rfl)
            go_wp2_with fail
            go_roundw
            case rel => exact ⟨j + 1, by omega, by go_num, by rw [HM2.out], HW.out⟩
            case measure => simp [intOf]; omega
        · have hall : nums.take j = nums := List.take_of_length_le (by rw [HN3.out.1]; omega)
          rw [hall]
          have HHAS : Hid (hasZ (ofZ nums) n 4294967295 = decide (n ∈ nums)) := Lib.hid (has_of HR.out n _)
          have hw' := HW.out
          subst hw'
          obtain ⟨y, hy⟩ : ∃ y, decide (n ∈ nums) = y := ⟨_, rfl⟩
          rw [hy] at HHAS ⊢
          have hyy : (y == y) = true := by simp
          clear hall hy
          go_wp2_with fail
          refine (uHas_any A3 n3 c3 4294967295 n (ofZ nums) _ HC3.out (by omega)).mono ?_
          rintro e w4 ⟨rfl, hb4⟩
          rw [HHAS.out]
          have HC4 := Lib.hid (HC3.out.later hb4)
          have HN4 := Lib.hid (HN3.out.later' hb4)
          have HB4 := Lib.hid (HB3.out.trans (hb4.mono HB3.out.size))
          clear hb4
          go_wp2_with fail
          refine (uPick_any A3 A n3 c3 k c (ofZ nums) nums w4 HC4.out (by omega) HN4.out (by omega)).mono ?_
          rintro e w5 ⟨A5, n5, c5, rfl, hc5, hb5⟩
          rw [pick_of HR.out] at hc5
          have hn5 : n5 = k := by rw [← hc5.1, HN4.out.1]
          subst hn5
          have HC5 := Lib.hid hc5
          have HN5 := Lib.hid (HN4.out.later' hb5)
          have HB5 := Lib.hid (HB4.out.trans (hb5.mono HB4.out.size))
          clear hb5 hc5
          go_wp2_with fail
          refine (x9Ints_any A5 A n5 c5 n5 c nums nums w5 HC5.out HN5.out (by omega) (by omega)).mono ?_
          rintro e w6 ⟨rfl, q6, rfl⟩
          rw [decide_eq_true (rfl : nums = nums)]
          have hle' : (n3 : Int) ≤ (n5 : Int) := by omega
          go_wp2_with fail
          go_ret
          exact ⟨rfl, below_drewN HB5.out _⟩
end Go.Proofs.YtiophifilikajaaDoor

/-
  The laws UidsTexts, UidsPicks and UidsTurned of package uids, as walks.
-/
namespace Go.Proofs.YtiophifilikajaaDoor
set_option linter.unusedVariables false
set_option linter.unusedSimpArgs false
open Go.RowKit
set_option linter.unusedVariables false
set_option linter.unusedSimpArgs false

set_option maxRecDepth 100000 in
set_option maxHeartbeats 8000000 in
theorem uidsTexts_walk (s : ByteArray) (A : Option Addr) (n c : Nat) (l : List Rg) (w : World) (hS : Std w) (hl : ColK 2 rgC w w.heap.size A n l) (hn : n ≤ 140737488355328) (hs : s.size ≤ 140737488355328) :
    Calls Tryd.prog 3 #[.string s, .slice A n c] w fun e w' => e = .returned (.bool true) ∧ Below w.heap.size w w' := by
  have HS := Lib.hid hS
  have HL := Lib.hid hl
  clear hS hl
  go_enter Tryd.func3, Tryd.ntmps3
  go_wp2_with fail
  refine (alive09_any _ HS.out).mono ?_
  rintro e w1 ⟨rfl, hb1⟩
  have HS1 := Lib.hid (HS.out.below hb1)
  have HL1 := Lib.hid (HL.out.later hb1)
  have HB1 := Lib.hid hb1
  clear hb1 HS HL
  by_cases h3000 : 3000 < s.size
  · have h3000' : (3000 : Int) < (s.size : Int) := by omega
    go_wp2_with fail
    go_ret
    exact ⟨rfl, HB1.out⟩
  · have h3000' : ¬ (3000 : Int) < (s.size : Int) := by omega
    by_cases h200 : 200 < n
    · have h200' : (200 : Int) < (n : Int) := by omega
      go_wp2_with fail
      go_ret
      exact ⟨rfl, HB1.out⟩
    · have h200' : ¬ (200 : Int) < (n : Int) := by omega
      go_wp2_with fail
      refine (uParse_any s hs w1 HS1.out).mono ?_
      rintro e w2 ⟨A2, n2, c2, rfl, hc2, hb2⟩
      have HC2 := Lib.hid hc2
      have HL2 := Lib.hid (HL1.out.later hb2)
      have HS2 := Lib.hid (HS1.out.below hb2)
      have HB2 := Lib.hid (HB1.out.trans (hb2.mono HB1.out.size))
      clear hc2 hb2 HS1 HL1 HB1
      go_wp2_with fail
      refine (x9Parse_any s hs w2).mono ?_
      rintro e w3 ⟨A3, n3, c3, rfl, hc3, hb3⟩
      have HC3 := Lib.hid hc3
      have HC2' := Lib.hid (HC2.out.later hb3)
      have HL3 := Lib.hid (HL2.out.later hb3)
      have HS3 := Lib.hid (HS2.out.below hb3)
      have HB3 := Lib.hid (HB2.out.trans (hb3.mono HB2.out.size))
      clear hc3 hb3 HS2 HL2 HB2 HC2
      go_wp2_with fail
      refine (uPrint_any A n c l w3 HL3.out (by omega) HS3.out).mono ?_
      rintro e w4 ⟨rfl, hb4⟩
      have HC3' := Lib.hid (HC3.out.later hb4)
      have HC4 := Lib.hid (HC2'.out.later hb4)
      have HL4 := Lib.hid (HL3.out.later hb4)
      have HB4 := Lib.hid (HB3.out.trans (hb4.mono HB3.out.size))
      clear hb4 HL3 HB3 HC2' HC3 HS3
      go_wp2_with fail
      refine (x9Print_any A n c l w4 HL4.out (by omega)).mono ?_
      rintro e w5 ⟨rfl, hb5⟩
      have HC5 := Lib.hid (HC4.out.later hb5)
      have HD5 := Lib.hid (HC3'.out.later hb5)
      have HL5 := Lib.hid (HL4.out.later hb5)
      have HB5 := Lib.hid (HB4.out.trans (hb5.mono HB4.out.size))
      have hle : (parsV (nats s)).length ≤ 60 := by
        by_cases he : parsE (nats s) = 0
        · exact (of_decide_eq_true (print_pars he).1).2.1
        · unfold parsV; rw [if_neg he]; exact Nat.zero_le _
      have hn2 : n2 ≤ 60 := by rw [← HC5.out.1]; exact hle
      have hn3 : n3 ≤ 60 := by rw [← HD5.out.1]; exact hle
      have e1 : (parsE (nats s) == parsE (nats s)) = true := by simp
      have e2 : (printE l == printE l) = true := by simp
      have e3 : ((strOf (printV l)).toList == (strOf (printV l)).toList) = true := by simp
      clear hb5 HL4 HB4 HC4 HC3' hle
      go_wp2_with fail
      refine (x9Same_any A2 A3 n2 c2 n3 c3 (parsV (nats s)) (parsV (nats s)) w5 HC5.out HD5.out (by omega) (by omega)).mono ?_
      rintro e w6 ⟨rfl, q, rfl⟩
      rw [decide_eq_true (rfl : parsV (nats s) = parsV (nats s))]
      have HL6 := Lib.hid (HL5.out.later (below_drewN (Below.refl _ _) q))
      have HB6 := Lib.hid (below_drewN HB5.out q)
      clear HL5 HB5 HC5 HD5
      generalize w5.drewN q = w6 at *
      go_wp2_with fail
      refine (uRight_any A n c l w6 HL6.out (by omega)).mono ?_
      rintro e w7 ⟨rfl, hb7⟩
      have HL7 := Lib.hid (HL6.out.later hb7)
      have HB7 := Lib.hid (HB6.out.trans (hb7.mono HB6.out.size))
      clear hb7 HL6 HB6
      go_wp2_with fail
      refine (x9Right_any A n c l w7 HL7.out (by omega)).mono ?_
      rintro e w8 ⟨rfl, rfl⟩
      have e4 : (rightU l == rightU l) = true := by simp
      go_wp2_with fail
      go_ret
      exact ⟨rfl, HB7.out⟩

theorem rise_bounds {nums : List Int} (hr : riseB nums = true) : ∀ z ∈ nums, 1 ≤ z ∧ z ≤ 4294967295 := fun z hz => by
  obtain ⟨i, hi, rfl⟩ := List.mem_iff_getElem.1 hz
  have h1 := of_decide_eq_true (of_decide_eq_true hr i hi)
  rw [List.getD_eq_getElem?_getD, List.getElem?_eq_getElem hi] at h1
  exact ⟨h1.1, h1.2.1⟩

set_option maxRecDepth 100000 in
set_option maxHeartbeats 8000000 in
theorem uidsPicks_walk (A B : Option Addr) (n c k d : Nat) (l : List Rg) (nums : List Int) (x y : Int) (w : World) (hS : Std w) (hl : ColK 2 rgC w w.heap.size A n l) (hN : Col ints w w.heap.size B k nums) (hn : n ≤ 140737488355328) (hk : k ≤ 140737488355328) :
    Calls Tryd.prog 4 #[.slice A n c, .slice B k d, .agg #[.int .i64 x, .int .i64 y]] w fun e w' => e = .returned (.bool true) ∧ Below w.heap.size w w' := by
  have hb0 : Below w.heap.size w (w.alloc (.cells #[.int .i64 x, .int .i64 y] 33)) := (Below.refl _ _).alloc (Nat.le_refl _) _
  have c0 := (cell_of_row (w.alloc (.cells #[.int .i64 x, .int .i64 y] 33)) w.heap.size 0 _ _ (0, 0) (heap_alloc_new w _)).trans (rfl : _ = some (Value.int .i64 x))
  have c1 := (cell_of_row (w.alloc (.cells #[.int .i64 x, .int .i64 y] 33)) w.heap.size 1 _ _ (0, 0) (heap_alloc_new w _)).trans (rfl : _ = some (Value.int .i64 y))
  have hg0 : w.heap.size < (w.alloc (.cells #[.int .i64 x, .int .i64 y] 33)).heap.size := by simp
  have HS0 := Lib.hid (hS.below hb0)
  have HL0 := Lib.hid (hl.later hb0)
  have HN0 := Lib.hid (hN.later' hb0)
  clear hS hl hN
  go_enter Tryd.func4, Tryd.ntmps4
  go_wp2_with fail
  generalize w.alloc (.cells #[.int .i64 x, .int .i64 y] 33) = w0 at *
  obtain ⟨g, hg⟩ : ∃ g, w.heap.size = g := ⟨_, rfl⟩
  have HB0 := Lib.hid hb0
  rw [hg] at c0 c1 hg0 ⊢
  refine (alive09_any _ HS0.out).mono ?_
  rintro e w1 ⟨rfl, hb1⟩
  have d0 := (hb1.cell (p := ⟨g, 0, none⟩) hg0).trans c0
  have d1 := (hb1.cell (p := ⟨g, 1, none⟩) hg0).trans c1
  have HL1 := Lib.hid (HL0.out.later hb1)
  have HN1 := Lib.hid (HN0.out.later' hb1)
  have HB1 := Lib.hid (HB0.out.trans (hb1.mono HB0.out.size))
  have hg1 : g < w1.heap.size := Nat.lt_of_lt_of_le hg0 hb1.size
  clear hb0 hb1 c0 c1 HL0 HN0 HS0 HB0 hg0 hg
  by_cases h200 : 200 < n
  · have h200' : (200 : Int) < (n : Int) := by omega
    go_wp2_with fail
    go_ret
    exact ⟨rfl, HB1.out⟩
  · have h200' : ¬ (200 : Int) < (n : Int) := by omega
    by_cases h201 : 200 < k
    · have h201' : (200 : Int) < (k : Int) := by omega
      go_wp2_with fail
      go_ret
      exact ⟨rfl, HB1.out⟩
    · have h201' : ¬ (200 : Int) < (k : Int) := by omega
      have hbb : (hasZ l x y != hasZ l x y) = false := by simp
      have hgn : w1.heap.size ≠ g := by omega
      obtain ⟨hv, hhv⟩ : ∃ b, hasZ l x y = b := ⟨_, rfl⟩
      have HHV := Lib.hid hhv
      rw [hhv] at hbb
      clear hhv
      go_wp2_with fail
      go_region_held3 (fun W' => W'.cell? ⟨g, 0, none⟩ = some (.int .i64 x) ∧ W'.cell? ⟨g, 1, none⟩ = some (.int .i64 y))
        (first | go_keep | exact ⟨(hb5.cell (p := ⟨g, 0, none⟩) hg1).trans d0, (hb5.cell (p := ⟨g, 1, none⟩) hg1).trans d1⟩ | exact ⟨(hb6.cell (p := ⟨g, 0, none⟩) hg1).trans d0, (hb6.cell (p := ⟨g, 1, none⟩) hg1).trans d1⟩)
        (first
          | (go_at_call 16; refine (uHas_any A n c y x l _ (HL1.out.later (below_drewN (Below.refl _ _) 1)) (by omega)).mono ?_; rintro e w5 ⟨rfl, hb5'⟩; rw [HHV.out]; have hb5 : Below w1.heap.size w1 w5 := (below_drewN (Below.refl _ _) 1).trans hb5')
          | (go_at_call 17; refine (x9Has_any A n c l x y _ (HL1.out.later hb5) (by omega)).mono ?_; rintro e w6 ⟨rfl, q6, rfl⟩; rw [HHV.out]; have hb6 := below_drewN hb5 q6))
      all_goals have hbW := hb6
      refine post_over (fun W => Below w1.heap.size w1 W) hbW ?_
      clear d0 d1 hbW hbb hgn
      intro w2 hb2
      have HL2 := Lib.hid (HL1.out.later hb2)
      have HN2 := Lib.hid (HN1.out.later' hb2)
      have HB2 := Lib.hid (HB1.out.trans (hb2.mono HB1.out.size))
      clear hb2 HL1 HN1 HB1
      go_wp2_with fail
      refine (x9Rising_any B k d nums w2 HN2.out (by omega)).mono ?_
      rintro e w3 ⟨rfl, q, rfl⟩
      have hbq : Below w2.heap.size w2 (w2.drewN q) := below_drewN (Below.refl _ _) q
      have HL3 := Lib.hid (HL2.out.later hbq)
      have HN3 := Lib.hid (HN2.out.later' hbq)
      have HB3 := Lib.hid (HB2.out.trans (hbq.mono HB2.out.size))
      clear hbq HL2 HN2 HB2
      generalize w2.drewN q = w3 at *
      cases hr : riseB nums
      · go_wp2_with fail
        go_ret
        exact ⟨rfl, HB3.out⟩
      · have HZ := Lib.hid (rise_bounds hr)
        clear hr
        go_wp2_with fail
        refine (uPick_any A B n c k d l nums w3 HL3.out (by omega) HN3.out (by omega)).mono ?_
        rintro e w4 ⟨A4, n4, c4, rfl, hc4, hb4⟩
        have HC4 := Lib.hid hc4
        have HL4 := Lib.hid (HL3.out.later hb4)
        have HN4 := Lib.hid (HN3.out.later' hb4)
        have HB4 := Lib.hid (HB3.out.trans (hb4.mono HB3.out.size))
        clear hc4 hb4 HL3 HN3 HB3
        go_wp2_with fail
        refine (x9Pick_any A B n c k d l nums w4 HL4.out (by omega) HN4.out (by omega)).mono ?_
        rintro e w5 ⟨A5, n5, c5, rfl, hc5, hb5⟩
        have HC5 := Lib.hid hc5
        have HC45 := Lib.hid (HC4.out.later' hb5)
        have HN5 := Lib.hid (HN4.out.later' hb5)
        have HB5 := Lib.hid (HB4.out.trans (hb5.mono HB4.out.size))
        have hpl : (pickZ l nums).length ≤ 200 := Nat.le_trans (List.length_filter_le _ _) (by rw [HN5.out.1]; omega)
        have hn4 : n4 ≤ 200 := by rw [← HC45.out.1]; exact hpl
        have hn5 : n5 ≤ 200 := by rw [← HC5.out.1]; exact hpl
        clear hc5 hb5 HL4 HN4 HB4 HC4 hpl
        go_wp2_with fail
        refine (x9Ints_any A4 A5 n4 c4 n5 c5 (pickZ l nums) (pickZ l nums) w5 HC45.out HC5.out (by omega) (by omega)).mono ?_
        rintro e w6 ⟨rfl, q6, rfl⟩
        rw [decide_eq_true (rfl : pickZ l nums = pickZ l nums)]
        have hbq : Below w5.heap.size w5 (w5.drewN q6) := below_drewN (Below.refl _ _) q6
        have HN6 := Lib.hid (HN5.out.later' hbq)
        have HB6 := Lib.hid (HB5.out.trans (hbq.mono HB5.out.size))
        clear hbq HN5 HB5 HC45 HC5
        generalize w5.drewN q6 = w6 at *
        go_wp2_with fail
        refine (uOf_any B k d nums w6 HN6.out (by omega) HZ.out).mono ?_
        rintro e w7 ⟨A7, n7, c7, rfl, hc7, hb7⟩
        have HC7 := Lib.hid hc7
        have HN7 := Lib.hid (HN6.out.later' hb7)
        have HB7 := Lib.hid (HB6.out.trans (hb7.mono HB6.out.size))
        clear hc7 hb7 HN6 HB6
        go_wp2_with fail
        refine (x9Of_any B k d nums w7 HN7.out (by omega) HZ.out).mono ?_
        rintro e w8 ⟨A8, n8, c8, rfl, hc8, hb8⟩
        have HC8 := Lib.hid hc8
        have HC78 := Lib.hid (HC7.out.later hb8)
        have HB8 := Lib.hid (HB7.out.trans (hb8.mono HB7.out.size))
        have hol : (ofZ nums).length ≤ 200 := Nat.le_trans (ofZ_len nums) (by rw [HN7.out.1]; omega)
        have hn7 : n7 ≤ 200 := by rw [← HC78.out.1]; exact hol
        have hn8 : n8 ≤ 200 := by rw [← HC8.out.1]; exact hol
        clear hc8 hb8 HC7 HN7 HB7 hol
        go_wp2_with fail
        refine (x9Same_any A7 A8 n7 c7 n8 c8 (ofZ nums) (ofZ nums) w8 HC78.out HC8.out (by omega) (by omega)).mono ?_
        rintro e w9 ⟨rfl, q9, rfl⟩
        rw [decide_eq_true (rfl : ofZ nums = ofZ nums)]
        go_wp2_with fail
        go_ret
        exact ⟨rfl, (below_drewN HB8.out _)⟩
end Go.Proofs.YtiophifilikajaaDoor
