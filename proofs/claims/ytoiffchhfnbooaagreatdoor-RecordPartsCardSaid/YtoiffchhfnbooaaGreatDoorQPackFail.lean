/-
  Contracts over package pack's reader, and the document's own: what is wrong is noted (where a program calls it).
-/
import Derived.Test.YtoiffchhfnbooaaGreatDoorQEventF
import Derived.Test.YtoiffchhfnbooaaGreatDoorQPackReadR
namespace Go.Proofs.YtoiffchhfnbooaaGreatDoor
set_option linter.unusedVariables false
set_option linter.unusedSimpArgs false
open Go.RowKit
set_option linter.unusedVariables false
set_option linter.unusedSimpArgs false

set_option maxHeartbeats 400000 in
theorem pFailK_any (g e : Nat) (b : Bool) (l : List Nat) (w : World) (h : RdP w g l e) :
    Calls Tryz.prog 26 #[.pointer (some ⟨g, 0, none⟩), .bool b] w (Gave (.tuple #[]) g l (failE e b) w) := by
  have HE : Hid (failE e b = if e = 0 ∧ b = true then 3 else e) := hide rfl
  cases b with
  | true =>
    have HI : Hid (failE e true = noteE e 3) := hide (by rw [HE.out]; simp; rfl)
    rw [HI.out]
    clear HI HE
    have HH := hide h
    clear h
    go_enter Tryz.func26, Tryz.ntmps26
    go_wp2_with fail
    refine (note_any g e 3 l w HH.out).mono ?_
    rintro e' w1 ⟨rfl, hs1⟩
    go_wp2
    go_end0
    exact ⟨rfl, hs1⟩
  | false =>
    have HI : Hid (failE e false = e) := hide (by rw [HE.out]; simp)
    rw [HI.out]
    clear HI HE
    go_enter Tryz.func26, Tryz.ntmps26
    go_wp2
    go_end0
    exact ⟨rfl, h, World.grownBy.refl _ _⟩

set_option maxHeartbeats 400000 in
theorem rFailK_any (g B e : Nat) (b : Bool) (l : List Nat) (w : World) (h : RdR w g B l e) (hgB : B ≤ g) :
    Calls Tryz.prog 30 #[.pointer (some ⟨g, 0, none⟩), .bool b] w (GaveR (.tuple #[]) g B l (failE e b) w) := by
  have HE : Hid (failE e b = if e = 0 ∧ b = true then 3 else e) := hide rfl
  obtain ⟨A1, m1, c1, _, _, _, _, _, hc0, hc1, hf0, hf1, hp1, _⟩ := h.open_ hgB
  have HS := hide h
  have HP := hide (hp1 3)
  clear hp1 h
  by_cases he : e = 0
  · subst he
    cases b with
    | true =>
      have HE2 := hide (HE.out.trans (if_pos ⟨rfl, rfl⟩))
      clear HE
      go_enter Tryz.func30, Tryz.ntmps30
      go_wp2
      go_end0
      rw [HE2.out]
      exact ⟨rfl, HP.out, grownBy_setCell _ _ _ _⟩
    | false =>
      have HE2 := hide (HE.out.trans (if_neg (by simp)))
      clear HE
      go_enter Tryz.func30, Tryz.ntmps30
      go_wp2
      go_end0
      rw [HE2.out]
      exact ⟨rfl, HS.out, World.grownBy.refl _ _⟩
  · have HE2 := hide (HE.out.trans (if_neg (fun h => he h.1)))
    have heb : ((e : Int) == 0) = false := by simp; omega
    clear HE
    go_enter Tryz.func30, Tryz.ntmps30
    go_wp2
    go_end0
    rw [HE2.out]
    exact ⟨rfl, HS.out, World.grownBy.refl _ _⟩

end Go.Proofs.YtoiffchhfnbooaaGreatDoor
