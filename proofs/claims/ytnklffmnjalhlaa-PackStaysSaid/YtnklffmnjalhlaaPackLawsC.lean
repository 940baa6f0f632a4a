/-
  The law PackStays as a walk: whatever the input, true, and all older memory is as it was.
-/
import Derived.Test.YtnklffmnjalhlaaPackLawsB
namespace Go.Proofs.Ytnklffmnjalhlaa
open Go.RowKit

theorem failE_true (e : Nat) : failE e true = noteE e 3 := by unfold failE noteE; simp
theorem doneE_ne {l : List Nat} {e : Nat} (h : e ≠ 0) : doneE l e = e := if_neg (fun h2 => h h2.1)

set_option maxRecDepth 20000 in
set_option maxHeartbeats 4000000 in
theorem packStays_walk (A : Option Addr) (n c : Nat) (l : List Nat) (A1 : Option Addr) (n1 c1 : Nat) (hw : List Nat) (w : World)
    (hl : Bytes w w.heap.size A n l) (hn : n ≤ 140737488355328) (hh : Bytes w w.heap.size A1 n1 hw) (hn1 : n1 ≤ 140737488355328) :
    Calls Try.prog 6 #[.slice A n c, .slice A1 n1 c1] w fun e w' => e = .returned (.bool true) ∧ Below w.heap.size w w' := by
  go_enter Try.func6, Try.ntmps6
  go_wp2_with fail
  refine (alive03_any w).mono ?_
  rintro e w1 ⟨rfl, hb1⟩
  have hl1 := hl.later hb1
  have hh1 := hh.later hb1
  clear hl hh
  by_cases h0 : 6000 < n ∨ 200 < n1
  · by_cases ha : 6000 < n
    · have hai : (6000 : Int) < (n : Int) := by omega
      go_wp2
      go_ret
      exact ⟨rfl, hb1⟩
    have hai : ¬ (6000 : Int) < (n : Int) := by omega
    have hbi : (200 : Int) < (n1 : Int) := by omega
    go_wp2
    go_ret
    exact ⟨rfl, hb1⟩
  have hai : ¬ (6000 : Int) < (n : Int) := by omega
  have hbi : ¬ (200 : Int) < (n1 : Int) := by omega
  clear h0
  go_wp2_with fail
  refine (pFrom_any A n c _ l w1 hl1).mono ?_
  rintro e w2 ⟨rfl, hr2, hb2⟩
  have hl256 := hl1.2.1
  have hlen0 : l.length ≤ n := by rw [hl1.1]; exact Nat.le_refl _
  go_wp2
  go_loopw [6, 7] (fun t i wr => ∃ k : Nat, k ≤ n1 ∧ i = .int .i64 k ∧ ∃ lr er, t = .int .i64 (er : Nat) ∧ RdP wr w1.heap.size lr er ∧ (∀ x ∈ lr, x < 256) ∧ lr.length ≤ n ∧ Below w1.heap.size w1 wr) (fun _ i _ => n1 - (intOf i).toNat)
  case atStart => exact ⟨0, Nat.zero_le _, rfl, l, 0, rfl, hr2, hl256, hlen0, hb2⟩
  case round =>
    obtain ⟨k, hk, rfl, lr, er, rfl, hp, hlt256, hlen, hb⟩ := hrel
    by_cases hlt : k < n1
    · obtain ⟨b, o, rfl, hbl, hc0⟩ := hh1.at_ hlt
      have hc : wr.cell? ⟨b, o + k, none⟩ = some (.int .u8 ((byteAt hw k : Nat) : Int)) := (hb.cell (p := ⟨b, o + k, none⟩) hbl).trans hc0
      have hx := hh1.lt k
      clear hc0
      generalize byteAt hw k = x at *
      have hlen4 : lr.length ≤ 140737488355328 := by omega
      by_cases h2 : x % 2 = 0
      · have e0 : (((x % 2 : Nat) : Int) == 0) = true := by rw [h2]; rfl
        have hQ := fun x hx => takeL_lt (e := er) (n := 8) hlt256 x hx
        have hQ2 := Nat.le_trans (takeL_len (l := lr) (e := er) (n := 8)) hlen
        go_wp2_with fail
        refine (pNum_any w1.heap.size er lr wr hp hlen4 hlt256).mono ?_
        rintro e w4 ⟨rfl, hs1⟩
        have hb4 := hb.grown hs1.2 hb.size (fun k hk => by cases hk; exact Nat.le_refl _)
        have HP := hide hs1.1
        clear hs1 hp
        by_cases he : er = 0
        · subst he
          go_wp2_with fail
          refine (pErr_any _ _ _ _ HP.out).mono ?_
          rintro e w' ⟨rfl, rfl⟩
          go_wp2
          go_roundw
          case rel => exact ⟨k + 1, by omega, by go_num, _, _, rfl, HP.out, hQ, hQ2, hb4⟩
          case measure => simp [intOf]; omega
        · have heb : ((er : Int) == 0) = false := by simp; omega
          rw [numV_stays he]
          rw [numE_stays he] at HP
          go_wp2_with fail
          refine (pErr_any _ _ _ _ HP.out).mono ?_
          rintro e w' ⟨rfl, rfl⟩
          go_wp2_with fail
          refine (pErr_any _ _ _ _ HP.out).mono ?_
          rintro e w' ⟨rfl, rfl⟩
          go_wp2
          go_roundw
          case rel => exact ⟨k + 1, by omega, by go_num, _, _, rfl, HP.out, hQ, hQ2, hb4⟩
          case measure => simp [intOf]; omega
      · have e0 : (((x % 2 : Nat) : Int) == 0) = false := by rw [show x % 2 = 1 by omega]; rfl
        have hQ := fun x hx => textL_lt (e := er) hlt256 x hx
        have hQ2 := Nat.le_trans (textL_len (l := lr) (e := er)) hlen
        go_wp2_with fail
        refine (pText_any w1.heap.size er lr wr hp hlen4 hlt256).mono ?_
        rintro e w4 ⟨rfl, hs1⟩
        have hb4 := hb.grown hs1.2 hb.size (fun k hk => by cases hk; exact Nat.le_refl _)
        have HP := hide hs1.1
        clear hs1 hp
        by_cases he : er = 0
        · subst he
          go_wp2_with fail
          refine (pErr_any _ _ _ _ HP.out).mono ?_
          rintro e w' ⟨rfl, rfl⟩
          go_wp2
          go_roundw
          case rel => exact ⟨k + 1, by omega, by go_num, _, _, rfl, HP.out, hQ, hQ2, hb4⟩
          case measure => simp [intOf]; omega
        · have heb : ((er : Int) == 0) = false := by simp; omega
          rw [textV_stays he, strOf_nil]
          rw [textE_stays he] at HP
          go_wp2_with fail
          refine (pErr_any _ _ _ _ HP.out).mono ?_
          rintro e w' ⟨rfl, rfl⟩
          go_wp2_with fail
          refine (pErr_any _ _ _ _ HP.out).mono ?_
          rintro e w' ⟨rfl, rfl⟩
          go_wp2
          go_roundw
          case rel => exact ⟨k + 1, by omega, by go_num, _, _, rfl, HP.out, hQ, hQ2, hb4⟩
          case measure => simp [intOf]; omega
    · obtain rfl : k = n1 := by omega
      go_wp2_with fail
      refine (pFail_any w1.heap.size er true lr wr hp).mono ?_
      rintro e w4 ⟨rfl, hs1⟩
      have hb4 := hb1.trans ((hb.grown hs1.2 hb.size (fun k hk => by cases hk; exact Nat.le_refl _)).mono hb1.size)
      rw [failE_true] at hs1
      by_cases he : er = 0
      · subst he
        rw [noteE_0] at hs1
        have HP := hide hs1.1
        clear hs1 hp hb
        go_wp2_with fail
        refine (pErr_any _ _ _ _ HP.out).mono ?_
        rintro e w' ⟨rfl, rfl⟩
        go_wp2
        go_ret
        exact ⟨rfl, hb4⟩
      · have heb : ((er : Int) == 0) = false := by simp; omega
        rw [noteE_ne _ he] at hs1
        have HP := hide hs1.1
        clear hs1 hp hb
        go_wp2_with fail
        refine (pErr_any _ _ _ _ HP.out).mono ?_
        rintro e w' ⟨rfl, rfl⟩
        go_wp2_with fail
        refine (pDone_any _ _ _ _ HP.out hlt256).mono ?_
        rintro e w' ⟨rfl, rfl⟩
        rw [doneE_ne he]
        have hneb : ((er : Int) != 0) = true := by simp; omega
        go_wp2
        go_ret
        exact ⟨rfl, hb4⟩
end Go.Proofs.Ytnklffmnjalhlaa
