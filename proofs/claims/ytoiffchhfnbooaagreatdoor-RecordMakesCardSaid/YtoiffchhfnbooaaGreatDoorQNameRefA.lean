/-
  Contracts over the document's own names: bytes, forms, what is clean.
-/
import Derived.Test.YtoiffchhfnbooaaGreatDoorQUidsMath
import Derived.Test.YtoiffchhfnbooaaGreatDoorQRecMath
namespace Go.Proofs.YtoiffchhfnbooaaGreatDoor
set_option linter.unusedVariables false
set_option linter.unusedSimpArgs false
open Go.RowKit
set_option linter.unusedVariables false
set_option linter.unusedSimpArgs false

theorem xaplain_any (c : Nat) (w : World) : Calls Tryz.prog 106 #[.int .u8 (c : Int)] w fun e w' => e = .returned (.bool (plainB c)) ∧ w = w' := by
  by_cases h1 : 32 < c
  · by_cases h2 : c ≤ 126
    · by_cases h3 : c = 40 ∨ c = 41 ∨ c = 123 ∨ c = 37 ∨ c = 42 ∨ c = 34 ∨ c = 92
      · rcases h3 with rfl | rfl | rfl | rfl | rfl | rfl | rfl <;>
        · clear h1 h2
          go_enter Tryz.func106, Tryz.ntmps106
          go_wp2
          go_ret
          exact ⟨rfl, rfl⟩
      · have HR : Hid (plainB c = true) := Lib.hid (decide_eq_true (by omega))
        have a1 : ((c : Int) != 40) = true := by simp; omega
        have a2 : ((c : Int) != 41) = true := by simp; omega
        have a3 : ((c : Int) != 123) = true := by simp; omega
        have a4 : ((c : Int) != 37) = true := by simp; omega
        have a5 : ((c : Int) != 42) = true := by simp; omega
        have a6 : ((c : Int) != 34) = true := by simp; omega
        have a7 : ((c : Int) != 92) = true := by simp; omega
        have b1 : (32 : Int) < (c : Int) := by omega
        have b2 : (c : Int) ≤ 126 := by omega
        clear h1 h2 h3
        go_enter Tryz.func106, Tryz.ntmps106
        go_wp2
        go_ret
        exact ⟨by rw [HR.out] <;> rfl, rfl⟩
    · have HR : Hid (plainB c = false) := Lib.hid (decide_eq_false (by omega))
      have b2 : ¬ (c : Int) ≤ 126 := by omega
      have b1 : (32 : Int) < (c : Int) := by omega
      clear h1 h2
      go_enter Tryz.func106, Tryz.ntmps106
      go_wp2
      go_ret
      exact ⟨by rw [HR.out] <;> rfl, rfl⟩
  · have HR : Hid (plainB c = false) := Lib.hid (decide_eq_false (by omega))
    have b1 : ¬ (32 : Int) < (c : Int) := by omega
    clear h1
    go_enter Tryz.func106, Tryz.ntmps106
    go_wp2
    go_ret
    exact ⟨by rw [HR.out] <;> rfl, rfl⟩

theorem form_stop {l : List Nat} {i : Nat} (hi : i < l.length) (h : spotB l i = false) : formB l = false := decide_eq_false fun e => by rw [e.2.2.1 i hi] at h; cases h
theorem form_all {l : List Nat} (h1 : 1 ≤ l.length) (h2 : l.length ≤ 40) (h : ∀ i, i < l.length → spotB l i = true) : formB l = decide (l.count 47 ≤ 3) := by
  unfold formB
  rw [Bool.eq_iff_iff, decide_eq_true_iff, decide_eq_true_iff]
  exact ⟨fun e => e.2.2.2, fun e => ⟨h1, h2, h, e⟩⟩
theorem getD_byte (s : ByteArray) (i : Nat) (h : i < s.size) : (nats s).getD i 0 = s[i].toNat := by rw [List.getD_eq_getElem?_getD, nats_byte s i h]; rfl
theorem count_take {l : List Nat} {k x : Nat} (h : l[k]? = some x) : (l.take (k + 1)).count 47 = (l.take k).count 47 + if x = 47 then 1 else 0 := by
  rw [take_snoc_n _ _ _ h, List.count_append, List.count_singleton]
  by_cases hx : x = 47 <;> simp [hx]

set_option maxRecDepth 20000 in
set_option maxHeartbeats 4000000 in
theorem xaformed_any (s : ByteArray) (hs : s.size ≤ 140737488355328) (w : World) : Calls Tryz.prog 99 #[.string s] w fun e w' => e = .returned (.bool (formB (nats s))) ∧ w = w' := by
  have HN := Lib.hid (nats_length s)
  by_cases h1 : s.size < 1
  · have h1' : (s.size : Int) < 1 := by omega
    have HR : Hid (formB (nats s) = false) := Lib.hid (decide_eq_false fun e => by have := e.1; rw [HN.out] at this; omega)
    clear h1
    go_enter Tryz.func99, Tryz.ntmps99
    go_wp2_with fail
    go_ret
    exact ⟨by rw [HR.out] <;> rfl, rfl⟩
  · have h1' : ¬ (s.size : Int) < 1 := by omega
    by_cases h2 : 40 < s.size
    · have h2' : (40 : Int) < (s.size : Int) := by omega
      have HR : Hid (formB (nats s) = false) := Lib.hid (decide_eq_false fun e => by have := e.2.1; rw [HN.out] at this; omega)
      go_enter Tryz.func99, Tryz.ntmps99
      go_wp2_with fail
      go_ret
      exact ⟨by rw [HR.out] <;> rfl, rfl⟩
    · have h2' : ¬ (40 : Int) < (s.size : Int) := by omega
      go_enter Tryz.func99, Tryz.ntmps99
      go_wp2_with fail
      go_loop [3, 4] (fun p i => ∃ k q : Nat, k ≤ s.size ∧ i = .int .i64 (k : Int) ∧ p = .int .i64 (q : Int) ∧ q = 1 + ((nats s).take k).count 47 ∧ q ≤ 1 + k ∧ ∀ j, j < k → spotB (nats s) j = true) (fun _ i => s.size - (intOf i).toNat)
      case atStart => exact ⟨0, 1, Nat.zero_le _, rfl, rfl, rfl, by omega, fun j hj => absurd hj (by omega)⟩
      case round =>
        obtain ⟨k, q, hk, rfl, rfl, hq, hqk, hsp⟩ := hrel
        have HQ := Lib.hid hq
        have HSP := Lib.hid hsp
        clear hq hsp
        by_cases hlt : k < s.size
        · have hx := nats_byte s k hlt
          have hg := getD_byte s k hlt
          have hxb : s[k].toNat < 256 := s[k].toNat_lt
          have hk0 : (0 : Int) ≤ (k : Int) := by omega
          have hkn : (k : Int) < (s.size : Int) := by omega
          have hws : IntKind.i64.wrap ((s.size : Int) - 1) = (s.size : Int) - 1 := IntWalk.i64_in _ (by omega)
          have HC := Lib.hid (count_take hx)
          have CP : ∀ W, Calls Tryz.prog 106 #[.int .u8 (s[k].toNat : Int)] W fun e w' => e = .returned (.bool (plainB s[k].toNat)) ∧ W = w' := fun W => xaplain_any _ W
          obtain ⟨x, hxe⟩ : ∃ x, s[k].toNat = x := ⟨_, rfl⟩
          cases hpl : plainB s[k].toNat
          · have HR : Hid (formB (nats s) = false) := Lib.hid (form_stop (by rw [HN.out]; exact hlt) (by unfold spotB; rw [hg, hpl]; rfl))
            rw [hpl] at CP
            clear hpl hxe hg hx
            go_wp2_with fail
            refine (CP _).mono ?_
            rintro e w' ⟨rfl, rfl⟩
            go_wp2_with fail
            go_ret
            exact ⟨by rw [HR.out] <;> rfl, rfl⟩
          · rw [hpl] at CP
            by_cases h47 : s[k].toNat = 47
            · have e47 : ((s[k].toNat : Int) == 47) = true := by rw [h47]; rfl
              by_cases hk0' : k = 0
              · subst hk0'
                have HR : Hid (formB (nats s) = false) := Lib.hid (form_stop (by rw [HN.out]; exact hlt) (by unfold spotB; rw [hg, hpl, h47]; rfl))
                clear hpl hxe hg hx h47
                go_wp2_with fail
                refine (CP _).mono ?_
                rintro e w' ⟨rfl, rfl⟩
                go_wp2_with fail
                go_ret
                exact ⟨by rw [HR.out] <;> rfl, rfl⟩
              · have ek : ((k : Int) == 0) = false := by simp; omega
                by_cases hl : k + 1 = s.size
                · have el : ((k : Int) == (s.size : Int) - 1) = true := by rw [beq_iff_eq]; omega
                  have HR : Hid (formB (nats s) = false) := Lib.hid (form_stop (by rw [HN.out]; exact hlt) (by unfold spotB; rw [hg, hpl, h47, HN.out, decide_eq_true ⟨rfl, .inr (.inl hl)⟩]; rfl))
                  clear hpl hxe hg hx h47 hl
                  go_wp2_with fail
                  refine (CP _).mono ?_
                  rintro e w' ⟨rfl, rfl⟩
                  go_wp2_with fail
                  go_ret
                  exact ⟨by rw [HR.out] <;> rfl, rfl⟩
                · have el : ((k : Int) == (s.size : Int) - 1) = false := by rw [beq_eq_false_iff_ne]; omega
                  obtain ⟨j, rfl⟩ : ∃ j, k = j + 1 := ⟨k - 1, by omega⟩
                  have ek2 : ((j : Int) + 1 == 0) = false := by rw [beq_eq_false_iff_ne]; omega
                  have el2 : ((j : Int) + 1 == (s.size : Int) - 1) = false := by rw [beq_eq_false_iff_ne]; omega
                  clear ek el
                  have hwk : IntKind.i64.wrap ((j : Int) + 1 - 1) = (j : Int) := by rw [IntWalk.i64_in _ (by omega)]; omega
                  have hj0 : (0 : Int) ≤ (j : Int) := by omega
                  have hjn : (j : Int) < (s.size : Int) := by omega
                  have hjs : j < s.size := by omega
                  have hgj := getD_byte s j hjs
                  by_cases hp : s[j].toNat = 47
                  · have ep : ((s[j].toNat : Int) == 47) = true := by rw [hp]; rfl
                    have HR : Hid (formB (nats s) = false) := Lib.hid (form_stop (by rw [HN.out]; exact hlt) (by unfold spotB; rw [hg, hpl, h47, Nat.add_sub_cancel, hgj, decide_eq_true ⟨rfl, .inr (.inr hp)⟩]; rfl))
                    clear hpl hxe hg hx h47 hl hp hgj
                    go_wp2_with fail
                    refine (CP _).mono ?_
                    rintro e w' ⟨rfl, rfl⟩
                    go_wp2_with fail
                    go_ret
                    exact ⟨by rw [HR.out] <;> rfl, rfl⟩
                  · have ep : ((s[j].toNat : Int) == 47) = false := by simp; omega
                    have HS1 : Hid (spotB (nats s) (j + 1) = true) := Lib.hid (spot_mk (by rw [hg]; exact hpl) (by rw [hg, h47, HN.out, Nat.add_sub_cancel, hgj]; rintro ⟨_, h | h | h⟩ <;> omega))
                    have HC2 : Hid (((nats s).take (j + 1 + 1)).count 47 = ((nats s).take (j + 1)).count 47 + 1) := Lib.hid (by rw [HC.out, if_pos h47])
                    have hwq : IntKind.i64.wrap ((q : Int) + 1) = (q : Int) + 1 := IntWalk.i64_in _ (by omega)
                    clear hpl hxe hg hx h47 hl hp hgj HC
                    go_wp2_with fail
                    refine (CP _).mono ?_
                    rintro e w' ⟨rfl, rfl⟩
                    go_wp2_with fail
                    go_round
                    case rel => exact ⟨j + 1 + 1, q + 1, by omega, by go_num, by go_num, by rw [HC2.out, HQ.out]; omega, by omega, fun i hi => by rcases Nat.lt_succ_iff_lt_or_eq.1 hi with h | rfl; exact HSP.out i h; exact HS1.out⟩
                    case measure => simp [intOf]; omega
            · have e47 : ((s[k].toNat : Int) == 47) = false := by simp; omega
              have HS1 : Hid (spotB (nats s) k = true) := Lib.hid (spot_mk (by rw [hg]; exact hpl) (by rw [hg]; exact fun h => h47 h.1))
              have HC2 : Hid (((nats s).take (k + 1)).count 47 = ((nats s).take k).count 47) := Lib.hid (by rw [HC.out, if_neg h47, Nat.add_zero])
              clear hpl hxe hg hx h47 HC
              go_wp2_with fail
              refine (CP _).mono ?_
              rintro e w' ⟨rfl, rfl⟩
              go_wp2_with fail
              go_round
              case rel => exact ⟨k + 1, q, by omega, by go_num, rfl, by rw [HC2.out, HQ.out], by omega, fun i hi => by rcases Nat.lt_succ_iff_lt_or_eq.1 hi with h | rfl; exact HSP.out i h; exact HS1.out⟩
              case measure => simp [intOf]; omega
        · have hall : (nats s).take k = nats s := List.take_of_length_le (by rw [HN.out]; omega)
          have HR : Hid (formB (nats s) = decide ((q : Int) ≤ 4)) := Lib.hid (by
            have hq := HQ.out
            rw [hall] at hq
            rw [form_all (by rw [HN.out]; omega) (by rw [HN.out]; omega) (fun i hi => HSP.out i (by rw [HN.out] at hi; omega)), Bool.eq_iff_iff, decide_eq_true_iff, decide_eq_true_iff]
            omega)
          clear hall
          go_wp2_with fail
          go_ret
          exact ⟨by rw [HR.out] <;> rfl, rfl⟩
end Go.Proofs.YtoiffchhfnbooaaGreatDoor
