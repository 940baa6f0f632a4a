/-
  Contracts over the document's own dates: a week's word, a zone, a clock.
-/
import Derived.Test.YtnhafpgeinghnaaDoorDateRefD
import Derived.Test.YtnhafpgeinghnaaDoorDateDay
namespace Go.Proofs.YtnhafpgeinghnaaDoor
open Go.RowKit
set_option linter.unusedVariables false
set_option linter.unusedSimpArgs false

def weekB (l : List Nat) : Bool := decide (2 ≤ l.length) && (decide (l.getLast? = some 44) && l.dropLast.all letB)
theorem or_byte {x : Nat} (hx : x < 256) : bits .or .u8 (x : Int) 32 = ((x ||| 32 : Nat) : Int) ∧ x ||| 32 < 256 ∧ (letB x = (decide (97 ≤ x ||| 32) && decide (x ||| 32 ≤ 122))) := by
  have : ∀ x : Nat, x < 256 → bits .or .u8 (x : Int) 32 = ((x ||| 32 : Nat) : Int) ∧ x ||| 32 < 256 ∧ (letB x = (decide (97 ≤ x ||| 32) && decide (x ||| 32 ≤ 122))) := by decide +kernel
  exact this x hx
theorem last_byte (s : ByteArray) (h : 0 < s.size) : (nats s).getLast? = some (s[s.size - 1]'(by omega)).toNat := by
  rw [List.getLast?_eq_getElem?, nats_length]
  exact nats_byte s (s.size - 1) (by omega)
theorem dropLast_take (l : List Nat) : l.dropLast = l.take (l.length - 1) := List.dropLast_eq_take

set_option maxRecDepth 20000 in
set_option maxHeartbeats 2000000 in
theorem x7week_any (s : ByteArray) (hs : s.size ≤ 100000) (w : World) : Calls Tryd.prog 36 #[.string s] w fun e w' => e = .returned (.bool (weekB (nats s))) ∧ w = w' := by
  have h64 : s.size ≤ 9223372036854775807 := by omega
  have HN := Lib.hid (nats_length s)
  by_cases h2 : s.size < 2
  · have HR : Hid (weekB (nats s) = false) := Lib.hid (by unfold weekB; rw [HN.out, decide_eq_false (by omega)]; rfl)
    have h2' : (s.size : Int) < 2 := by omega
    go_enter Tryd.func36, Tryd.ntmps36
    go_wp2_with fail
    go_ret
    exact ⟨by rw [HR.out] <;> rfl, rfl⟩
  · have h2' : ¬ (s.size : Int) < 2 := by omega
    obtain ⟨m, hm⟩ : ∃ m, s.size = m + 1 := ⟨s.size - 1, by omega⟩
    have hml : m < s.size := by omega
    have hlb : (nats s).getLast? = some s[m].toNat := by
      rw [List.getLast?_eq_getElem?, nats_length, hm, Nat.add_sub_cancel]
      exact nats_byte s m hml
    have hdl : (nats s).dropLast = (nats s).take m := by rw [List.dropLast_eq_take, nats_length, hm, Nat.add_sub_cancel]
    have HR : Hid (weekB (nats s) = (decide (s[m].toNat = 44) && ((nats s).take m).all letB)) := Lib.hid (by
      unfold weekB
      rw [hlb, hdl, HN.out, decide_eq_true (by omega), Bool.true_and]
      congr 1
      rw [Bool.eq_iff_iff, decide_eq_true_iff, decide_eq_true_iff]
      exact ⟨fun e => Option.some.inj e, fun e => by rw [e]⟩)
    have hsm : (s.size : Int) - 1 = (m : Int) := by omega
    have hm0 : (0 : Int) ≤ (m : Int) := by omega
    have hmi : (m : Int) < (s.size : Int) := by omega
    have hcb : s[m].toNat < 256 := s[m].toNat_lt
    have HM := Lib.hid hm
    clear hlb hdl h2 hm
    by_cases hc : s[m].toNat = 44
    · have hc' : ((s[m].toNat : Int) != 44) = false := by rw [hc]; rfl
      have HR2 : Hid (weekB (nats s) = ((nats s).take m).all letB) := Lib.hid (by rw [HR.out, hc]; rfl)
      clear hc
      go_enter Tryd.func36, Tryd.ntmps36
      go_wp2_with fail
      go_loop [3] (fun i => ∃ k : Nat, k ≤ m ∧ i = .int .i64 (k : Int) ∧ ((nats s).take k).all letB = true) (fun i => m - (intOf i).toNat)
      case atStart => exact ⟨0, Nat.zero_le _, rfl, by simp⟩
      case round =>
        obtain ⟨k, hk, rfl, ha⟩ := hrel
        have HA := Lib.hid ha
        clear ha
        by_cases hlt : k < m
        · have hks : k < s.size := by omega
          have hx := nats_byte s k hks
          have hxb : s[k].toNat < 256 := s[k].toNat_lt
          obtain ⟨ho1, ho2, ho3⟩ := or_byte hxb
          have HT := Lib.hid (all_take_snoc (p := letB) (nats s) k _ hx)
          have hxm : ((nats s).take m)[k]? = some s[k].toNat := by rw [List.getElem?_take, if_pos hlt]; exact hx
          have HF : Hid (letB s[k].toNat = false → ((nats s).take m).all letB = false) := Lib.hid (fun hf => all_false_of hxm hf)
          obtain ⟨y, hy⟩ : ∃ y, s[k].toNat ||| 32 = y := ⟨_, rfl⟩
          rw [hy] at ho1 ho2 ho3
          have hlt' : (k : Int) < (m : Int) := by omega
          have HO3 := Lib.hid ho3
          clear hx hxm hy ho3
          by_cases h1 : 97 ≤ y
          · by_cases h3 : y ≤ 122
            · have HL : Hid (letB s[k].toNat = true) := Lib.hid (by rw [HO3.out]; simp [h1, h3])
              go_wp2_with fail
              go_round
              case rel => exact ⟨k + 1, by omega, by go_num, by rw [HT.out, HA.out, HL.out]; rfl⟩
              case measure => simp [intOf]; omega
            · have HL : Hid (letB s[k].toNat = false) := Lib.hid (by rw [HO3.out]; simp [h1, h3])
              go_wp2_with fail
              go_ret
              exact ⟨by rw [HR2.out, HF.out HL.out] <;> rfl, rfl⟩
          · have HL : Hid (letB s[k].toNat = false) := Lib.hid (by rw [HO3.out]; simp [h1])
            go_wp2_with fail
            go_ret
            exact ⟨by rw [HR2.out, HF.out HL.out] <;> rfl, rfl⟩
        · have hlt' : ¬ (k : Int) < (m : Int) := by omega
          have HR3 : Hid (weekB (nats s) = true) := Lib.hid (by
            rw [HR2.out]
            have : k = m := by omega
            rw [← this]; exact HA.out)
          go_wp2_with fail
          go_ret
          exact ⟨by rw [HR3.out] <;> rfl, rfl⟩
    · have hc' : ((s[m].toNat : Int) != 44) = true := by simp; omega
      have HR2 : Hid (weekB (nats s) = false) := Lib.hid (by rw [HR.out, decide_eq_false hc]; rfl)
      clear hc
      go_enter Tryd.func36, Tryd.ntmps36
      go_wp2_with fail
      go_ret
      exact ⟨by rw [HR2.out] <;> rfl, rfl⟩
end Go.Proofs.YtnhafpgeinghnaaDoor
