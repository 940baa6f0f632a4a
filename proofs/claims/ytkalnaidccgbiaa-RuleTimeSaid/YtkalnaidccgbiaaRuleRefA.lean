/-
  Contracts over the document's own package rule: a mailbox' keep; the same rules; rising names.
-/
import Derived.Test.YtkalnaidccgbiaaRuleRows
namespace Go.Proofs.Ytkalnaidccgbiaa
open Go.RowKit
set_option linter.unusedVariables false
set_option linter.unusedSimpArgs false

set_option maxRecDepth 20000 in
set_option maxHeartbeats 2000000 in
theorem xdKeep_any (A : Option Addr) (n c : Nat) (l : List Rul) (box : ByteArray) (w : World) (hl : ColK 2 rulC w w.heap.size A n l) (hn : n ≤ 140737488355328) :
    Calls Try.prog 10 #[.slice A n c, .string box] w fun e w' => e = .returned (.int .i64 (keepR l box)) ∧ Below w.heap.size w w' := by
  have HL := Lib.hid hl
  clear hl
  go_enter Try.func10, Try.ntmps10
  go_wp2_with fail
  go_loop [5] (fun i => ∃ k : Nat, k ≤ n ∧ i = .int .i64 (k : Int) ∧ (∀ q ∈ l.take k, q.1 ≠ box)) (fun i => n - (intOf i).toNat)
  case atStart => exact ⟨0, Nat.zero_le _, rfl, fun q hq => (by cases hq)⟩
  case round =>
    obtain ⟨k, hk, rfl, hu⟩ := hrel
    have HU := Lib.hid hu
    clear hu
    by_cases hlt : k < n
    · obtain ⟨b, o, a, rfl, hbb, hla, htk, hrow⟩ := HL.out.at_ hlt
      obtain ⟨ck, cv⟩ := a
      have r0 := hrow 0 _ rfl
      have r1 := hrow 1 _ rfl
      rw [Nat.add_zero] at r0
      have HLA := Lib.hid hla
      have HTK := Lib.hid htk
      have hk0 : (0 : Int) ≤ (k : Int) := by omega
      have hkn : (k : Int) < (n : Int) := by omega
      have heq := str_eq13 ck box
      clear hla htk hrow
      by_cases he : ck = box
      · rw [decide_eq_true he] at heq
        have HF : Hid (keepR l box = cv) := Lib.hid (keepR_at HLA.out he HU.out)
        clear he
        go_wp2_with fail
        go_ret
        exact ⟨by rw [HF.out] <;> rfl, Below.refl _ _⟩
      · rw [decide_eq_false he] at heq
        have HU2 : Hid (∀ q ∈ l.take (k + 1), q.1 ≠ box) := Lib.hid (fun q hq => by
          rw [HTK.out] at hq
          rcases List.mem_append.1 hq with h1 | h1
          · exact HU.out q h1
          · rw [List.mem_singleton.1 h1]; exact he)
        clear he
        go_wp2_with fail
        go_round
        case rel => exact ⟨k + 1, by omega, by go_num, HU2.out⟩
        case measure => simp [intOf]; omega
    · have hkn : ¬ (k : Int) < (n : Int) := by omega
      have HF : Hid (keepR l box = 0) := Lib.hid (keepR_none (by have := HU.out; rwa [List.take_of_length_le (by rw [HL.out.1]; omega)] at this))
      go_wp2_with fail
      go_ret
      exact ⟨by rw [HF.out] <;> rfl, Below.refl _ _⟩
end Go.Proofs.Ytkalnaidccgbiaa
