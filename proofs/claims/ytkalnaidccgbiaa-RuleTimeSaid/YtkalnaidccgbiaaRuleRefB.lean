/-
  Contracts over the document's own package rule: is a message held?
-/
import Derived.Test.YtkalnaidccgbiaaRuleRows
import Derived.Test.YtkalnaidccgbiaaUidsB
namespace Go.Proofs.Ytkalnaidccgbiaa
open Go.RowKit
set_option linter.unusedVariables false
set_option linter.unusedSimpArgs false

set_option maxRecDepth 20000 in
set_option maxHeartbeats 4000000 in
theorem xdHeld_any (A : Option Addr) (n c : Nat) (l : List Hh) (box : ByteArray) (uid : Int) (w : World) (hl : HoldsIn w w.heap.size A n l) (hn : n ≤ 140737488355328) :
    Calls Try.prog 12 #[.slice A n c, .string box, .int .i64 uid] w fun e w' => e = .returned (.bool (heldR l box uid)) ∧ ∃ q, w' = w.drewN q := by
  have HL := Lib.hid hl
  clear hl
  go_enter Try.func12, Try.ntmps12
  go_wp2_with fail
  go_loopw [7] (fun i wx => ∃ k q : Nat, k ≤ n ∧ i = .int .i64 (k : Int) ∧ heldR (l.take k) box uid = false ∧ wx = w.drewN q) (fun i _ => n - (intOf i).toNat)
  case atStart => exact ⟨0, 0, Nat.zero_le _, rfl, rfl, rfl⟩
  case round =>
    obtain ⟨k, q, hk, rfl, hu, hw⟩ := hrel
    have HU := Lib.hid hu
    have HW := Lib.hid hw
    clear hu hw
    by_cases hlt : k < n
    · obtain ⟨b, o, x, rfl, hbb, hla, htk, hrow, hin⟩ := HL.out.at_ hlt
      rw [show w.rangeAt b (o + k * 3) (hhC x) = wr.rangeAt b (o + k * 3) (hhC x) by rw [HW.out]; rfl] at hrow
      have hin : HhIn wr wr.heap.size x := by rw [HW.out]; exact hin.keep fun _ _ => rfl
      obtain ⟨xi, xb, xA, xn, xc, xs⟩ := x
      have r1 := hrow 1 _ rfl
      have r2 := hrow 2 _ rfl
      have HLA := Lib.hid hla
      have HTK := Lib.hid htk
      have HIN := Lib.hid hin
      have hk0 : (0 : Int) ≤ (k : Int) := by omega
      have hkn : (k : Int) < (n : Int) := by omega
      have hxn : xn ≤ 140737488355328 := hin.2
      have hxl : xs.length = xn := hin.1.1
      have heq := str_eq13 xb box
      clear hla htk hrow hin
      by_cases he : xb = box
      · rw [decide_eq_true he] at heq
        by_cases h0 : xn = 0
        · subst h0
          have HF : Hid (heldR l box uid = true) := Lib.hid (held_hit HLA.out (oneB_all he (List.eq_nil_of_length_eq_zero hxl)))
          clear he
          go_wp2_with fail
          go_ret
          exact ⟨by rw [HF.out] <;> rfl, _, HW.out⟩
        · have h0b : ((xn : Int) == 0) = false := by simp; omega
          have HO : Hid (oneB ⟨xi, xb, xA, xn, xc, xs⟩ box uid = hasZ xs uid 4294967295) := Lib.hid (oneB_has he (fun e => h0 (by rw [← hxl]; show List.length xs = 0; rw [show xs = [] from e]; rfl)))
          clear he
          go_wp2_with fail
          refine (x9Has_any xA xn xc xs uid 4294967295 wr HIN.out.1 hxn).mono ?_
          rintro e w2 ⟨rfl, q2, rfl⟩
          cases hh : hasZ xs uid 4294967295
          · have HN := Lib.hid (held_next HU.out HTK.out (HO.out.trans hh))
            go_wp2_with fail
            go_roundw
            case rel => exact ⟨k + 1, _, by omega, by go_num, HN.out, by rw [HW.out]; exact drewN_twice _ _ _⟩
            case measure => simp [intOf]; omega
          · have HF := Lib.hid (held_hit HLA.out (HO.out.trans hh))
            go_wp2_with fail
            go_ret
            exact ⟨by rw [HF.out] <;> rfl, _, by rw [HW.out]; exact drewN_twice _ _ _⟩
      · rw [decide_eq_false he] at heq
        have HN := Lib.hid (held_next HU.out HTK.out (oneB_other he))
        clear he
        go_wp2_with fail
        go_roundw
        case rel => exact ⟨k + 1, _, by omega, by go_num, HN.out, HW.out⟩
        case measure => simp [intOf]; omega
    · have hkn : ¬ (k : Int) < (n : Int) := by omega
      have HF : Hid (heldR l box uid = false) := Lib.hid (by have := HU.out; rwa [List.take_of_length_le (by rw [HL.out.len]; omega)] at this)
      go_wp2_with fail
      go_ret
      exact ⟨by rw [HF.out] <;> rfl, _, HW.out⟩
end Go.Proofs.Ytkalnaidccgbiaa
