/-
  Which disks and records are too great for the statements on package wal.
-/
import Derived.Test.YtofbpkaebngnlaaDoorQWalAlive
namespace Go.Proofs.YtofbpkaebngnlaaDoor
set_option linter.unusedVariables false
set_option linter.unusedSimpArgs false
set_option linter.unusedVariables false
set_option linter.unusedSimpArgs false
open Go.RowKit

/-- what k records come to, as long as that is no more than 20000 -/
def greatS (L : List (List Nat)) : Nat → Nat
  | 0 => 0
  | k + 1 => if greatS L k ≤ 20000 then greatS L k + 50 + (textAt L k).length else greatS L k
def greatN (n n' : Nat) (L : List (List Nat)) : Bool := decide (120 < n) || decide (120 < n') || decide (20000 < greatS L L.length)

theorem greatS_over {L : List (List Nat)} {k m : Nat} (h : 20000 < greatS L k) (hm : k ≤ m) : greatS L m = greatS L k := by
  obtain ⟨j, rfl⟩ := Nat.exists_eq_add_of_le hm
  clear hm
  induction j with
  | zero => rfl
  | succ j ih => rw [show k + (j + 1) = (k + j) + 1 from rfl, greatS, if_neg (by omega), ih]
theorem greatS_small {L : List (List Nat)} : ∀ {k : Nat}, greatS L k ≤ 20000 → 50 * k ≤ greatS L k ∧ ∀ i, i < k → (textAt L i).length + 50 ≤ greatS L k
  | 0, _ => ⟨by simp [greatS], fun i hi => by omega⟩
  | k + 1, h => by
    rw [greatS] at h ⊢
    by_cases hk : greatS L k ≤ 20000
    · rw [if_pos hk] at h ⊢
      obtain ⟨h1, h2⟩ := greatS_small hk
      refine ⟨by omega, fun i hi => ?_⟩
      by_cases hik : i = k
      · subst hik; omega
      · have := h2 i (by omega); omega
    · rw [if_neg hk] at h; omega

end Go.Proofs.YtofbpkaebngnlaaDoor

/-
  The document's own: whether two lists of records are the same.
-/
namespace Go.Proofs.YtofbpkaebngnlaaDoor
set_option linter.unusedVariables false
set_option linter.unusedSimpArgs false
set_option linter.unusedVariables false
set_option linter.unusedSimpArgs false
open Go.RowKit

set_option maxRecDepth 20000 in
set_option maxHeartbeats 2000000 in
theorem x5same_any (A A' : Option Addr) (n c n' c' B B' : Nat) (L L' : List (List Nat)) (w : World) (hl : Bss w B A n L) (hl' : Bss w B' A' n' L') (hB : B ≤ w.heap.size) (hB' : B' ≤ w.heap.size) (hn : n ≤ 140737488355328) (hn' : n' ≤ 140737488355328) :
    Calls Tryd.prog 12 #[.slice A n c, .slice A' n' c'] w fun e w' => e = .returned (.bool (decide (L = L'))) ∧ Below w.heap.size w w' := by
  have HL := Lib.hid hl.1
  have HL' := Lib.hid hl'.1
  by_cases hnn : n = n'
  · subst hnn
    have hne : (((n : Nat) : Int) != (n : Int)) = false := by simp
    go_enter Tryd.func12, Tryd.ntmps12
    go_wp2_with fail
    go_loopw [5] (fun i wr => ∃ k : Nat, k ≤ n ∧ i = .int .i64 k ∧ (∀ j, j < k → textAt L j = textAt L' j) ∧ Below w.heap.size w wr) (fun i _ => n - (intOf i).toNat)
    case atStart => exact ⟨0, Nat.zero_le _, rfl, fun j hj => by omega, Below.refl _ _⟩
    case round =>
      obtain ⟨k, hk, rfl, hsame, hb⟩ := hrel
      have HB := Lib.hid hb
      replace hl := hl.below hb hB
      replace hl' := hl'.below hb hB'
      clear hb
      have HS := Lib.hid hsame
      clear hsame
      by_cases hlt : k < n
      · obtain ⟨b, o, A1, n1, c1, rfl, hbB, hcell, hn1, hby⟩ := hl.at_ hlt
        obtain ⟨b', o', A2, n2, c2, rfl, hbB', hcell', hn2, hby'⟩ := hl'.at_ hlt
        have hi1 : (k : Int) < (n : Int) := by omega
        by_cases hd : textAt L k = textAt L' k
        · have HD := Lib.hid hd
          have hcall : ∀ m : Nat, Calls Tryd.prog 33 #[.slice A1 n1 c1, .slice A2 n2 c2] (wr.drewN m) fun e w' => e = .returned (.bool true) ∧ w' = wr.drewN m := fun m => by
            have := same3_any A1 n1 c1 _ _ A2 n2 c2 _ _ (wr.drewN m) (hby.drewN m) (hby'.drewN m)
            rw [decide_eq_true hd] at this
            exact this.mono (fun _ _ h => ⟨h.1, h.2.symm⟩)
          clear hd
          go_wp2_with fail
          go_quiet ((go_at_call 33; with_reducible exact Calls.quiet_of_same (hcall _)))
          go_wp2
          go_round
          case rel => exact ⟨k + 1, by omega, by go_num, (fun j hj => by
            by_cases hjk : j = k
            · subst hjk; exact HD.out
            · exact HS.out j (by omega)), by first | exact HB.out | exact HB.out.drew | (have := HB.out; exact ⟨this.os, this.tape, this.output, this.size, this.block⟩)⟩
          case measure => simp [intOf]; omega
        · have HD : Hid (decide (L = L') = false) := Lib.hid (decide_eq_false (fun h => hd (by rw [h])))
          have hcall : ∀ m : Nat, Calls Tryd.prog 33 #[.slice A1 n1 c1, .slice A2 n2 c2] (wr.drewN m) fun e w' => e = .returned (.bool false) ∧ w' = wr.drewN m := fun m => by
            have := same3_any A1 n1 c1 _ _ A2 n2 c2 _ _ (wr.drewN m) (hby.drewN m) (hby'.drewN m)
            rw [decide_eq_false hd] at this
            exact this.mono (fun _ _ h => ⟨h.1, h.2.symm⟩)
          clear hd
          go_wp2_with fail
          go_quiet ((go_at_call 33; with_reducible exact Calls.quiet_of_same (hcall _)))
          go_wp2
          go_ret
          exact ⟨by rw [HD.out]; rfl, by first | exact Below.refl _ _ | exact HB.out | exact HB.out.drew | (have := HB.out; exact ⟨this.os, this.tape, this.output, this.size, this.block⟩)⟩
      · have HD : Hid (decide (L = L') = true) := Lib.hid (decide_eq_true (by
          have h1 := HL.out; have h2 := HL'.out
          refine List.ext_getElem (by omega) fun j hj hj' => ?_
          have := HS.out j (by omega)
          simpa [textAt, hj, hj'] using this))
        have hi1 : ¬ (k : Int) < (n : Int) := by omega
        go_wp2
        go_ret
        exact ⟨by rw [HD.out]; rfl, by first | exact Below.refl _ _ | exact HB.out | exact HB.out.drew | (have := HB.out; exact ⟨this.os, this.tape, this.output, this.size, this.block⟩)⟩
  · have HD : Hid (decide (L = L') = false) := Lib.hid (decide_eq_false (fun h => hnn (by rw [← HL.out, ← HL'.out, h])))
    have hne : (((n : Nat) : Int) != (n' : Int)) = true := by simp; omega
    go_enter Tryd.func12, Tryd.ntmps12
    go_wp2
    go_ret
    exact ⟨by rw [HD.out]; rfl, by first | exact Below.refl _ _ | exact HB.out | exact HB.out.drew | (have := HB.out; exact ⟨this.os, this.tape, this.output, this.size, this.block⟩)⟩
end Go.Proofs.YtofbpkaebngnlaaDoor
