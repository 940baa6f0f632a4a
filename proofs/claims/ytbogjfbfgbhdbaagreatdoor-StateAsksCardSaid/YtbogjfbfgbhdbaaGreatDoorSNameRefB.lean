/-
  A part of the proof: see the last text.
-/
import Derived.Test.YtbogjfbfgbhdbaaGreatDoorSNameShelf
namespace Go.Proofs.YtbogjfbfgbhdbaaGreatDoor
set_option linter.unusedVariables false
set_option linter.unusedSimpArgs false
open Go.RowKit
set_option linter.unusedVariables false
set_option linter.unusedSimpArgs false
theorem cleanV_same {s : ByteArray} (hf : formB (nats s) = true) (h : inboxB (nats s) = false) : strOf (cleanV (nats s)) = s := by
  unfold cleanV cleanN
  rw [if_pos hf, h, if_neg Bool.false_ne_true, strOf_nats]
theorem inboxNm : (⟨#[73, 78, 66, 79, 88]⟩ : ByteArray) = strOf inboxL := rfl
theorem right_eq {s : ByteArray} (hf : formB (nats s) = true) : rightN (nats s) = decide (strOf (cleanV (nats s)) = s) := by
  unfold rightN cleanV
  rw [if_pos hf, Bool.eq_iff_iff, decide_eq_true_iff, decide_eq_true_iff]
  constructor
  · rintro ⟨_, h⟩; rw [h, strOf_nats]
  · intro h
    have hlt : ∀ x ∈ cleanN (nats s), x < 256 := fun x hx => by
      have := plain_lt (form_mem (by rw [form_clean]; exact hf) x hx)
      omega
    exact ⟨hf, by rw [← nats_strOf _ hlt, h]⟩
end Go.Proofs.YtbogjfbfgbhdbaaGreatDoor
