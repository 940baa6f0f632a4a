/-
  A part of the proof: see the last text.
-/
import Derived.Test.YthflljlilcmcnaaGreatDoorSWalAlive
namespace Go.Proofs.YthflljlilcmcnaaGreatDoor
set_option linter.unusedVariables false
set_option linter.unusedSimpArgs false
open Go.RowKit
end Go.Proofs.YthflljlilcmcnaaGreatDoor
namespace Go.Proofs.YthflljlilcmcnaaGreatDoor
set_option linter.unusedVariables false
set_option linter.unusedSimpArgs false
open Go.RowKit
set_option maxRecDepth 20000 in
set_option maxHeartbeats 2000000 in
theorem x5same_any (A A' : Option Addr) (n c n' c' B B' : Nat) (L L' : List (List Nat)) (w : World) (hl : Bss w B A n L) (hl' : Bss w B' A' n' L') (hB : B ≤ w.heap.size) (hB' : B' ≤ w.heap.size) (hn : n ≤ 140737488355328) (hn' : n' ≤ 140737488355328) :
    Calls Tryz.prog 16 #[.slice A n c, .slice A' n' c'] w fun e w' => e = .returned (.bool (decide (L = L'))) ∧ Below w.heap.size w w' := by
  have HL := Lib.hid hl.1
  have HL' := Lib.hid hl'.1
  by_cases hnn : n = n'
  · subst hnn
    have hne : (((n : Nat) : Int) != (n : Int)) = false := by simp
    go_enter Tryz.func16, Tryz.ntmps16
    go_wp2_with fail
    go_loopw [5] (fun i wr => ∃ k : Nat, k ≤ n ∧ i = .int .i64 k ∧ (∀ j, j < k → textAt L j = textAt L' j) ∧ Below w.heap.size w wr) (fun i _ => n - (intOf i).toNat)
    case atStart => exact ⟨0, Nat.zero_le _, rfl, fun j hj => by omega, Below.refl _ _⟩
    case round =>
      obtain ⟨k, hk, rfl, hsame, hb⟩ := hrel
      have HB := Lib.hid hb
      replace hl := hl.below hb hB
      replace hl' := hl'.below hb hB'
      clear hb
      have HS := Lib.hid hsame
      clear hsame
      by_cases hlt : k < n
      · obtain ⟨b, o, A1, n1, c1, rfl, hbB, hcell, hn1, hby⟩ := hl.at_ hlt
        obtain ⟨b', o', A2, n2, c2, rfl, hbB', hcell', hn2, hby'⟩ := hl'.at_ hlt
        have hi1 : (k : Int) < (n : Int) := by omega
        by_cases hd : textAt L k = textAt L' k
        · have HD := Lib.hid hd
          have hcall : ∀ m : Nat, Calls Tryz.prog 31 #[.slice A1 n1 c1, .slice A2 n2 c2] (wr.drewN m) fun e w' => e = .returned (.bool true) ∧ w' = wr.drewN m := fun m => by
            have := same3_any A1 n1 c1 _ _ A2 n2 c2 _ _ (wr.drewN m) (hby.drewN m) (hby'.drewN m)
            rw [decide_eq_true hd] at this
            exact this.mono (fun _ _ h => ⟨h.1, h.2.symm⟩)
          clear hd
          go_wp2_with fail
          go_quiet ((go_at_call 31; with_reducible exact Calls.quiet_of_same (hcall _)))
          go_wp2
          go_round
          case rel => exact ⟨k + 1, by omega, by go_num, (fun j hj => by
            by_cases hjk : j = k
            · subst hjk; exact HD.out
            · exact HS.out j (by omega)), by first | exact HB.out | exact HB.out.drew | (have := HB.out; exact ⟨this.os, this.tape, this.output, this.size, this.block⟩)⟩
          case measure => simp [intOf]; omega
        · have HD : Hid (decide (L = L') = false) := Lib.hid (decide_eq_false (fun h => hd (by rw [h])))
          have hcall : ∀ m : Nat, Calls Tryz.prog 31 #[.slice A1 n1 c1, .slice A2 n2 c2] (wr.drewN m) fun e w' => e = .returned (.bool false) ∧ w' = wr.drewN m := fun m => by
            have := same3_any A1 n1 c1 _ _ A2 n2 c2 _ _ (wr.drewN m) (hby.drewN m) (hby'.drewN m)
            rw [decide_eq_false hd] at this
            exact this.mono (fun _ _ h => ⟨h.1, h.2.symm⟩)
          clear hd
          go_wp2_with fail
          go_quiet ((go_at_call 31; with_reducible exact Calls.quiet_of_same (hcall _)))
          go_wp2
          go_ret
          exact ⟨by rw [HD.out]; rfl, by first | exact Below.refl _ _ | exact HB.out | exact HB.out.drew | (have := HB.out; exact ⟨this.os, this.tape, this.output, this.size, this.block⟩)⟩
      · have HD : Hid (decide (L = L') = true) := Lib.hid (decide_eq_true (by
          have h1 := HL.out; have h2 := HL'.out
          refine List.ext_getElem (by omega) fun j hj hj' => ?_
          have := HS.out j (by omega)
          simpa [textAt, hj, hj'] using this))
        have hi1 : ¬ (k : Int) < (n : Int) := by omega
        go_wp2
        go_ret
        exact ⟨by rw [HD.out]; rfl, by first | exact Below.refl _ _ | exact HB.out | exact HB.out.drew | (have := HB.out; exact ⟨this.os, this.tape, this.output, this.size, this.block⟩)⟩
  · have HD : Hid (decide (L = L') = false) := Lib.hid (decide_eq_false (fun h => hnn (by rw [← HL.out, ← HL'.out, h])))
    have hne : (((n : Nat) : Int) != (n' : Int)) = true := by simp; omega
    go_enter Tryz.func16, Tryz.ntmps16
    go_wp2
    go_ret
    exact ⟨by rw [HD.out]; rfl, by first | exact Below.refl _ _ | exact HB.out | exact HB.out.drew | (have := HB.out; exact ⟨this.os, this.tape, this.output, this.size, this.block⟩)⟩
end Go.Proofs.YthflljlilcmcnaaGreatDoor
