/-
  Contracts over the document's own dates: numbers, small letters, months, the day of three texts.
-/
import Derived.Test.YtnhafpgeinghnaaDoorDateDoors
namespace Go.Proofs.YtnhafpgeinghnaaDoor
open Go.RowKit
set_option linter.unusedVariables false
set_option linter.unusedSimpArgs false

def numI (l : List Nat) (a m : Nat) : Int := if numOk l a m = true then (valN l : Int) else -1
set_option maxRecDepth 20000 in
set_option maxHeartbeats 1000000 in
theorem x7num_any (s : ByteArray) (a m : Nat) (w : World) (hs : s.size ≤ 4294967296) (hm : m ≤ 8) (ha : a ≤ 8) :
    Calls Tryd.prog 52 #[.string s, .int .i64 (a : Int), .int .i64 (m : Int)] w fun e w' => e = .returned (.int .i64 (numI (nats s) a m)) ∧ w = w' := by
  have hl := nats_length s
  have h64 : s.size ≤ 9223372036854775807 := by omega
  have HN := Lib.hid hl
  by_cases h1 : s.size < a
  · have HR : Hid (numI (nats s) a m = -1) := Lib.hid (by unfold numI numOk; rw [hl, decide_eq_false (p := a ≤ s.size) (by omega)]; rfl)
    clear hl
    go_enter Tryd.func52, Tryd.ntmps52
    go_wp2_with fail
    go_ret
    exact ⟨by rw [HR.out] <;> rfl, rfl⟩
  · by_cases h2 : m < s.size
    · have HR : Hid (numI (nats s) a m = -1) := Lib.hid (by unfold numI numOk; rw [hl, decide_eq_false (p := s.size ≤ m) (by omega), Bool.and_false]; rfl)
      clear hl
      go_enter Tryd.func52, Tryd.ntmps52
      go_wp2_with fail
      go_ret
      exact ⟨by rw [HR.out] <;> rfl, rfl⟩
    · have HR : Hid (numI (nats s) a m = if (nats s).all digB = true then (valN (nats s) : Int) else -1) := Lib.hid (by
        unfold numI numOk
        rw [hl, decide_eq_true (show a ≤ s.size by omega), decide_eq_true (show s.size ≤ m by omega)]
        rfl)
      have hs8 : s.size ≤ 8 := by omega
      clear hl
      go_enter Tryd.func52, Tryd.ntmps52
      go_wp2_with fail
      go_loop [7, 8] (fun n i => ∃ k v : Nat, k ≤ s.size ∧ i = .int .i64 (k : Int) ∧ n = .int .i64 (v : Int) ∧ ((nats s).take k).all digB = true ∧ v = valN ((nats s).take k)) (fun _ i => s.size - (intOf i).toNat)
      case atStart => exact ⟨0, 0, Nat.zero_le _, rfl, rfl, by simp, by simp [valN]⟩
      case round =>
        obtain ⟨k, v, hk, rfl, rfl, hall, hv⟩ := hrel
        by_cases hlt : k < s.size
        · have hx := nats_byte s k hlt
          have HT := Lib.hid (all_take_snoc (p := digB) (nats s) k _ hx)
          have HS := Lib.hid (take_snoc_n (nats s) k _ hx)
          have HF : Hid (digB s[k].toNat = false → (nats s).all digB = false) := Lib.hid (fun hf => all_false_of hx hf)
          have hcb : s[k].toNat < 256 := s[k].toNat_lt
          have hvl := valN_lt _ hall
          rw [← hv] at hvl
          have hv9 : v < 100000000 := by
            refine Nat.lt_of_lt_of_le hvl ?_
            refine Nat.le_trans (Nat.pow_le_pow_right (by omega) (show ((nats s).take k).length ≤ 8 by rw [List.length_take]; omega)) (by omega)
          have HA := Lib.hid hall
          have HVV := Lib.hid hv
          clear hx hall hv hvl
          rcases (by omega : s[k].toNat < 48 ∨ (48 ≤ s[k].toNat ∧ s[k].toNat ≤ 57) ∨ (48 ≤ s[k].toNat ∧ 57 < s[k].toNat)) with hc1 | ⟨hc1, hc2⟩ | ⟨hc1, hc2⟩
          · have HD : Hid (digB s[k].toNat = false) := Lib.hid (by unfold digB; simp; omega)
            go_wp2_with fail
            go_ret
            exact ⟨by rw [HR.out, HF.out HD.out] <;> rfl, rfl⟩
          · have HD : Hid (digB s[k].toNat = true) := Lib.hid (digB_iff.2 ⟨hc1, hc2⟩)
            go_wp2_with fail
            go_round
            case rel => exact ⟨k + 1, v * 10 + (s[k].toNat - 48), by omega, by go_num, by go_num, by rw [HT.out, HA.out, HD.out]; rfl, by rw [HS.out, valN_snoc, HVV.out]⟩
            case measure => simp [intOf]; omega
          · have HD : Hid (digB s[k].toNat = false) := Lib.hid (by unfold digB; simp; omega)
            go_wp2_with fail
            go_ret
            exact ⟨by rw [HR.out, HF.out HD.out] <;> rfl, rfl⟩
        · have htk : (nats s).take k = nats s := List.take_of_length_le (by rw [HN.out]; omega)
          rw [htk] at hall hv
          have HR2 : Hid (numI (nats s) a m = v) := Lib.hid (by rw [HR.out, if_pos hall, hv])
          clear hall hv htk
          go_wp2_with fail
          go_ret
          exact ⟨by rw [HR2.out] <;> rfl, rfl⟩
end Go.Proofs.YtnhafpgeinghnaaDoor
