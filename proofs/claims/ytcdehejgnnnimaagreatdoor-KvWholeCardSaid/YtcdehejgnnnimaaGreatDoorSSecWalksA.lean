/-
 A part of the proof: see the last text.
-/
import Derived.Test.YtcdehejgnnnimaaGreatDoorRows
import Derived.Test.YtcdehejgnnnimaaGreatDoorSSecWords
import Derived.WalkKit
import Derived.WalkSpells
import Derived.WalkLawsBesides
import Derived.StillTailTactics
import Derived.Deep.QuietTactic
import Derived.BigQuiet
import Derived.Lib.Hide
namespace Go.Proofs.YtcdehejgnnnimaaGreatDoor
set_option linter.unusedVariables false
set_option linter.unusedSimpArgs false
open Go.RowKit
set_option maxRecDepth 20000 in
set_option maxHeartbeats 400000 in
theorem fuseMayBe_any (f : Int) (w : World) :
 Calls Tryz.prog 60 #[.int .i64 f] w fun e w' => e = .returned (.bool (fuseB f)) ∧ w = w' := by
 unfold fuseB
 by_cases h1 : -1 ≤ f
 ·by_cases h2 : f ≤ 1099511627776
  all_goals
   go_enter Tryz.func60, Tryz.ntmps60
   go_wp2
   go_ret
   exact ⟨by simp [h1, h2], rfl⟩
 ·go_enter Tryz.func60, Tryz.ntmps60
  go_wp2
  go_ret
  exact ⟨by simp; omega, rfl⟩
set_option maxRecDepth 20000 in
set_option maxHeartbeats 400000 in
theorem isThere_any (A A' : Option Addr) (n c n' c' : Nat) (f : Int) (b : Bool) (a : Int) (w : World) (hn0 : n ≤ maxLen) :
 Calls Tryz.prog 61 #[.agg #[.slice A n c, .slice A' n' c', .int .i64 f, .bool b], .int .i64 a] w fun e w' => e = .returned (.bool (thereB n a)) ∧ Below w.heap.size w w' := by
 unfold thereB
 have hn : n ≤ maxLen := hn0; unfold maxLen at hn
 by_cases h1 : 0 ≤ a
 ·by_cases h2 : a < n
  all_goals
   go_enter Tryz.func61, Tryz.ntmps61
   go_wp2
   go_ret
   refine ⟨by simp [h1, h2], ?_⟩
   repeat (first | with_reducible exact Below.refl _ _ | (refine Below.alloc ?_ (by simp <;> omega) _) | (refine Below.setCell ?_ (by simp <;> omega) _) | refine Below.drew ?_)
 ·go_enter Tryz.func61, Tryz.ntmps61
  go_wp2
  go_ret
  refine ⟨by simp; omega, ?_⟩
  repeat (first | with_reducible exact Below.refl _ _ | (refine Below.alloc ?_ (by simp <;> omega) _) | (refine Below.setCell ?_ (by simp <;> omega) _) | refine Below.drew ?_)
theorem ret_b {v : Value} {b c : Bool} (h : c = b) (hv : v = .bool b) : Ending.returned v = .returned (.bool c) := by rw [h, hv]
theorem looseB_cons (n : Nat) (l : List (Int × List Int)) (i : Nat) (hi : i < l.length) : looseB n (l.drop i) = (thereB n (l[i]).1 && looseB n (l.drop (i + 1))) := by
 rw [List.drop_eq_getElem_cons hi]; rfl
set_option maxRecDepth 20000 in
set_option maxHeartbeats 1000000 in
theorem right_any (v : Value) (d : Dk) (w : World) (hd : DkAt w w.heap.size v d) :
 Calls Tryz.prog 31 #[v] w fun e w' => e = .returned (.bool (rightB d)) ∧ Below w.heap.size w w' := by
 obtain ⟨A, n, c, A', n', c', rfl, hnc, hnc', hc, hc', hS, hL⟩ := hd
 unfold maxLen at hc hc'
 have hn : n = d.secs.length := by have := hS.1; simpa using this.symm
 have hn' : n' = d.loose.length := by have := hL.1; simpa using this.symm
 have HN := Lib.hid hn; clear hn
 have HN' := Lib.hid hn'; clear hn'
 have hbw : Below w.heap.size w (w.alloc (Obj.cells #[Value.slice A n c, Value.slice A' n' c', Value.int IntKind.i64 d.fuse, Value.bool d.down] 27)) := (Below.refl _ _).alloc (Nat.le_refl _) _
 by_cases h1 : n ≤ 4096
 ·by_cases h2 : n' ≤ 100000
  ·by_cases h3 : fuseB d.fuse = true
   ·have hd7 : decide (4096 < (n : Int)) = false := by simp; omega
    have hd12 : decide (100000 < (n' : Int)) = false := by simp; omega
    go_enter Tryz.func31, Tryz.ntmps31
    go_wp2_with (go_at_call 60; refine (fuseMayBe_any _ _).mono ?_; rintro e w' ⟨rfl, rfl⟩)
    go_loopw [23] (fun k wr => ∃ j : Nat, j ≤ n' ∧ k = .int .i64 j ∧ looseB n d.loose = looseB n (d.loose.drop j) ∧ Below (w.heap.size + 1) (w.alloc (Obj.cells #[Value.slice A n c, Value.slice A' n' c', Value.int IntKind.i64 d.fuse, Value.bool d.down] 27)) wr) (fun k _ => n' - (intOf k).toNat)
    case atStart => exact ⟨0, Nat.zero_le _, rfl, rfl, Below.refl _ _⟩
    case round =>
     obtain ⟨j, hj, rfl, hlo, hb⟩ := hrel
     by_cases hlt : j < n'
     ·have hbx := fun (o : Nat) => hb.cell (p := ⟨w.heap.size, o, none⟩) (by simp)
      obtain ⟨bL, oL, hA', hbL, hrL⟩ := hL.at_ hlt
      obtain ⟨x, hx⟩ : ∃ x, d.loose[j]? = some x := ⟨d.loose[j]'(by rw [← HN'.out]; exact hlt), List.getElem?_eq_getElem _⟩
      subst hA'
      have hcell : wr.cell? ⟨bL, oL + j * 65, none⟩ = some (.int .i64 x.1) := by
       rw [hb.cell (p := ⟨bL, oL + j * 65, none⟩) (by simp; omega), World.cell?_alloc_lt _ _ _ hbL]
       have := hrL 0 (.int .i64 x.1) (by simp [hx, wrv])
       simpa using this
      have hbx0 : wr.cell? ⟨w.heap.size, 0, none⟩ = some (Value.slice A n c) := (hbx 0).trans (by simp)
      have hbx1 : wr.cell? ⟨w.heap.size, 1, none⟩ = some (Value.slice (some ⟨bL, oL, none⟩) n' c') := (hbx 1).trans (by simp)
      have hbx2 : wr.cell? ⟨w.heap.size, 2, none⟩ = some (Value.int IntKind.i64 d.fuse) := (hbx 2).trans (by simp)
      have hbx3 : wr.cell? ⟨w.heap.size, 3, none⟩ = some (Value.bool d.down) := (hbx 3).trans (by simp)
      clear hbx
      have hi1 : (j : Int) < (n' : Int) := by omega
      go_wp2
      go_still_tail 7, (by kernel_rfl)
      change wpList _ _ _ _ _ wr.drew
      have hb2 := hb.drew
      have hlo2 : looseB n d.loose = (thereB n x.1 && looseB n (d.loose.drop (j + 1))) := by
       rw [hlo, looseB_cons n d.loose j (by rw [← HN'.out]; exact hlt)]
       rw [List.getElem?_eq_getElem (by rw [← HN'.out]; exact hlt)] at hx
       injection hx with hx
       rw [hx]
      have Hlo := Lib.hid hlo2
      clear hlo hlo2
      clear hbx0 hbx1 hbx2 hbx3 hcell
      generalize wr.drew = w2 at hb2 ⊢
      by_cases ht : thereB n x.1 = true
      ·go_wp2_with (go_at_call 61; refine (isThere_any _ _ _ _ _ _ _ _ _ _ (by unfold maxLen; omega)).mono ?_; rintro e w' ⟨rfl, hb3⟩)
       go_roundw
       case rel => exact ⟨j + 1, by omega, by go_num, by rw [Hlo.out, ht]; rfl, hb2.trans (hb3.mono (by have := hb2.size; simpa using this))⟩
       case measure => simp [intOf]; omega
      ·have ht' : thereB n x.1 = false := by simpa using ht
       clear ht
       go_wp2_with (go_at_call 61; refine (isThere_any _ _ _ _ _ _ _ _ _ _ (by unfold maxLen; omega)).mono ?_; rintro e w' ⟨rfl, hb3⟩)
       go_ret
       exact ⟨ret_b (show rightB d = false by unfold rightB; rw [← HN.out, Hlo.out, ht']; simp) rfl, hbw.trans ((hb2.mono (by simp)).trans (hb3.mono (by have := hb2.size; simp at this; omega)))⟩
     ·have hjn : j = n' := by omega
      have Hjn := Lib.hid hjn; clear hjn
      have Hlo := Lib.hid hlo; clear hlo
      go_wp2
      go_ret
      exact ⟨ret_b (show rightB d = true by unfold rightB; rw [← HN.out, ← HN'.out, Hlo.out, Hjn.out, HN'.out, h3]; simp [looseB, h1, HN'.out ▸ h2]) rfl, hbw.trans (hb.mono (by simp))⟩
   ·have h3' : fuseB d.fuse = false := by simpa using h3
    clear h3
    have hd7 : decide (4096 < (n : Int)) = false := by simp; omega
    have hd12 : decide (100000 < (n' : Int)) = false := by simp; omega
    go_enter Tryz.func31, Tryz.ntmps31
    go_wp2_with (go_at_call 60; refine (fuseMayBe_any _ _).mono ?_; rintro e w' ⟨rfl, rfl⟩)
    go_ret
    exact ⟨ret_b (show rightB d = false by unfold rightB; rw [h3']; simp) rfl, hbw⟩
  ·have hd7 : decide (4096 < (n : Int)) = false := by simp; omega
   have hd12 : decide (100000 < (n' : Int)) = true := by simp; omega
   go_enter Tryz.func31, Tryz.ntmps31
   go_wp2
   go_ret
   exact ⟨ret_b (show rightB d = false by unfold rightB; rw [← HN'.out]; simp [h2]) rfl, hbw⟩
 ·have hd7 : decide (4096 < (n : Int)) = true := by simp; omega
  go_enter Tryz.func31, Tryz.ntmps31
  go_wp2
  go_ret
  exact ⟨ret_b (show rightB d = false by unfold rightB; rw [← HN.out]; simp [h1]) rfl, hbw⟩
theorem deedF_down (f : Int) : deedF f true = f := rfl
theorem deedF_zero : deedF 0 false = 0 := rfl
theorem deedF_neg {f : Int} (h : f < 0) : deedF f false = f := by unfold deedF; simp; omega
theorem deedF_pos {f : Int} (h : 0 < f) : deedF f false = f - 1 := by unfold deedF; simp [h]
theorem deed_no (A A' : Option Addr) (n c n' c' : Nat) (f : Int) (b : Bool) (h : deedD f b = true) (w : World) :
 Calls Tryz.prog 81 #[.agg #[.slice A n c, .slice A' n' c', .int .i64 f, .bool b]] w fun e w' => e = .returned (.tuple #[.agg #[.slice A n c, .slice A' n' c', .int .i64 (deedF f b), .bool true], .int .i64 9]) ∧ Below w.heap.size w w' := by
 cases b with
 | true =>
   rw [deedF_down]
   clear h
   go_enter Tryz.func81, Tryz.ntmps81
   go_wp2
   refine bodyPost_ret (v := .tuple #[.agg #[.slice A n c, .slice A' n' c', .int .i64 f, .bool true], .int .i64 9]) (by simp [results, Tryz.results81, go_sem]) rfl ⟨rfl, ?_⟩
   repeat (first | with_reducible exact Below.refl _ _ | (refine Below.alloc ?_ (by simp <;> omega) _) | (refine Below.setCell ?_ (by simp <;> omega) _) | refine Below.drew ?_)
 | false =>
   obtain rfl : f = 0 := by simpa [deedD] using h
   rw [deedF_zero]
   clear h
   go_enter Tryz.func81, Tryz.ntmps81
   go_wp2
   refine bodyPost_ret (v := .tuple #[.agg #[.slice A n c, .slice A' n' c', .int .i64 0, .bool true], .int .i64 9]) (by simp [results, Tryz.results81, go_sem]) rfl ⟨rfl, ?_⟩
   repeat (first | with_reducible exact Below.refl _ _ | (refine Below.alloc ?_ (by simp <;> omega) _) | (refine Below.setCell ?_ (by simp <;> omega) _) | refine Below.drew ?_)
theorem deed_ok (A A' : Option Addr) (n c n' c' : Nat) (f : Int) (b : Bool) (h : deedD f b = false) (hf : f ≤ 1099511627776) (w : World) :
 Calls Tryz.prog 81 #[.agg #[.slice A n c, .slice A' n' c', .int .i64 f, .bool b]] w fun e w' => e = .returned (.tuple #[.agg #[.slice A n c, .slice A' n' c', .int .i64 (deedF f b), .bool false], .int .i64 0]) ∧ Below w.heap.size w w' := by
 obtain ⟨rfl, h0⟩ : b = false ∧ (f == 0) = false := by simpa [deedD] using h
 clear h
 have h0' : f ≠ 0 := by simpa using h0
 by_cases hp : 0 < f
 ·rw [deedF_pos hp]
  go_enter Tryz.func81, Tryz.ntmps81
  go_wp2
  refine bodyPost_ret (v := .tuple #[.agg #[.slice A n c, .slice A' n' c', .int .i64 (f - 1), .bool false], .int .i64 0]) (by simp [results, Tryz.results81, go_sem]) rfl ⟨rfl, ?_⟩
  repeat (first | with_reducible exact Below.refl _ _ | (refine Below.alloc ?_ (by simp <;> omega) _) | (refine Below.setCell ?_ (by simp <;> omega) _) | refine Below.drew ?_)
 ·rw [deedF_neg (by omega)]
  have h1 : decide (f > 0) = false := by simp; omega
  go_enter Tryz.func81, Tryz.ntmps81
  go_wp2
  refine bodyPost_ret (v := .tuple #[.agg #[.slice A n c, .slice A' n' c', .int .i64 f, .bool false], .int .i64 0]) (by simp [results, Tryz.results81, go_sem]) rfl ⟨rfl, ?_⟩
  repeat (first | with_reducible exact Below.refl _ _ | (refine Below.alloc ?_ (by simp <;> omega) _) | (refine Below.setCell ?_ (by simp <;> omega) _) | refine Below.drew ?_)
end Go.Proofs.YtcdehejgnnnimaaGreatDoor
