/-
  Contracts over package wal: the small functions: how many sectors records take, a disk's halves.
-/
import Derived.Test.YtofbpkaebngnlaaDoorQWalPen
import Derived.Deep.QuietTactic
import Derived.BigQuiet
namespace Go.Proofs.YtofbpkaebngnlaaDoor
set_option linter.unusedVariables false
set_option linter.unusedSimpArgs false
set_option linter.unusedVariables false
set_option linter.unusedSimpArgs false
open Go.RowKit

theorem takes_int (n : Nat) (w : World) (hn : n ≤ 140737488355328) :
    Calls Tryd.prog 23 #[.int .i64 (n : Int)] w fun e w' => e = .returned (.int .i64 ((takesN n : Nat) : Int)) ∧ w = w' := by
  by_cases h1 : n < 1
  · rw [takesN_no (.inl h1)]
    have h1i : (n : Int) < 1 := by omega
    have hd : decide ((n : Int) < 1) = true := by simp; omega
    go_enter Tryd.func23, Tryd.ntmps23
    go_wp2
    go_ret
    exact ⟨rfl, rfl⟩
  · have hd : decide ((n : Int) < 1) = false := by simp; omega
    by_cases h2 : 6000 < n
    · rw [takesN_no (.inr h2)]
      have hd2 : decide (6000 < (n : Int)) = true := by simp; omega
      go_enter Tryd.func23, Tryd.ntmps23
      go_wp2
      go_ret
      exact ⟨rfl, rfl⟩
    · have hd2 : decide (6000 < (n : Int)) = false := by simp; omega
      have HT := Lib.hid (takesN_ok (n := n) (by omega) (by omega))
      have h0 : 0 ≤ (n : Int) := by omega
      have h6 : (n : Int) ≤ 6000 := by omega
      go_enter Tryd.func23, Tryd.ntmps23
      go_wp2
      go_ret
      exact ⟨ret_int (by rw [HT.out]; omega), rfl⟩

theorem genMay_any (n : Int) (w : World) : Calls Tryd.prog 39 #[.int .i64 n] w fun e w' => e = .returned (.bool (decide (1 ≤ n) && decide (n ≤ 1099511627776))) ∧ w = w' := by
  by_cases h1 : 1 ≤ n
  · have hd : decide (1 ≤ n) = true := by simpa using h1
    go_enter Tryd.func39, Tryd.ntmps39
    go_wp2
    go_ret
    exact ⟨by simp [hd], rfl⟩
  · have hd : decide (1 ≤ n) = false := by simpa using h1
    go_enter Tryd.func39, Tryd.ntmps39
    go_wp2
    go_ret
    exact ⟨by simp [hd], rfl⟩

/-- a half, as a value -/
def halfV (o size : Nat) : Value := .agg #[.int .i64 (o : Int), .int .i64 (size : Int)]
set_option maxRecDepth 20000 in
set_option maxHeartbeats 400000 in
theorem halfOf_any (v : Value) (d : Dk) (h : Nat) (w : World) (hd : DkAt w w.heap.size v d) (hh : h ≤ 1) (hn : d.secs.length ≤ 4096) :
    Calls Tryd.prog 15 #[v, .int .i64 (h : Int)] w fun e w' => e = .returned (halfV (h * (d.secs.length / 2)) (d.secs.length / 2)) ∧ Below w.heap.size w w' := by
  obtain ⟨A, n, c, A', n', c', rfl, hnc, hnc', hc, hc', hS, hL⟩ := hd
  have hl : n = d.secs.length := by have := hS.1; simpa using this.symm
  rw [← hl] at hn ⊢
  clear hS hL hl
  have h0 : 0 ≤ (n : Int) := by omega
  have h4 : (n : Int) ≤ 4096 := by omega
  have e1 : ((h * (n / 2) : Nat) : Int) = (h : Int) * ((n : Int) / 2) := by push_cast; rfl
  have hb : h = 0 ∨ h = 1 := by omega
  have hm : ((n / 2 : Nat) : Int) = (n : Int) / 2 := by push_cast; rfl
  unfold halfV
  rw [e1, hm]
  clear e1 hm hnc hnc' hc hc'
  rcases hb with rfl | rfl
  all_goals
    go_enter Tryd.func15, Tryd.ntmps15
    go_wp2
    refine bodyPost_ret (v := .agg #[.int .i64 _, .int .i64 ((n : Int) / 2)]) (by simp [results, Tryd.results15, go_sem]; try rfl) rfl ?_
    refine ⟨by simp, ?_⟩
    repeat (first | with_reducible exact Below.refl _ _ | (refine Below.setCell ?_ (by simp <;> omega) _) | (refine Below.alloc ?_ (by simp <;> omega) _))

/-- how many sectors the first records take: 0, if one of them may not be -/
def needN (L : List (List Nat)) : Nat := if (∀ b ∈ L, okR b) then sumT L else 0
theorem needN_ok {L : List (List Nat)} (h : ∀ b ∈ L, okR b) : needN L = sumT L := if_pos h
theorem needN_pos {L : List (List Nat)} : 0 < needN L ↔ (∀ b ∈ L, okR b) ∧ L ≠ [] := by
  unfold needN
  split
  · rename_i h
    constructor
    · intro hp
      refine ⟨h, ?_⟩
      rintro rfl
      simp [sumT] at hp
    · rintro ⟨_, hne⟩
      have := sumT_ge h
      have : 0 < L.length := List.length_pos_iff.2 hne
      omega
  · rename_i h
    constructor
    · intro hp; omega
    · rintro ⟨h1, _⟩; exact absurd h1 h
theorem textAt_mem {L : List (List Nat)} {k : Nat} (h : k < L.length) : textAt L k ∈ L := by
  unfold textAt
  rw [List.getD_eq_getElem?_getD, List.getElem?_eq_getElem h]
  exact List.getElem_mem h
theorem take_text {L : List (List Nat)} {k : Nat} (h : k < L.length) : L.take (k + 1) = L.take k ++ [textAt L k] := by
  unfold textAt
  rw [List.take_succ_eq_append_getElem h, List.getD_eq_getElem?_getD, List.getElem?_eq_getElem h]
  rfl
theorem sumTtake (L : List (List Nat)) (k : Nat) : sumT (L.take k) ≤ 95 * k := by
  have h : ∀ M : List (List Nat), sumT M ≤ 95 * M.length := by
    intro M
    induction M with
    | nil => simp [sumT]
    | cons b r ih => rw [sumT_cons, List.length_cons]; have := takesN_le b.length; omega
  have := h (L.take k)
  have h2 : (L.take k).length ≤ k := List.length_take_le k L
  have h3 := Nat.mul_le_mul_left 95 h2
  omega
set_option maxRecDepth 20000 in
set_option maxHeartbeats 1000000 in
theorem need_any (A : Option Addr) (n c B : Nat) (L : List (List Nat)) (w : World) (hl : Bss w B A n L) (hn : n ≤ 1000000) :
    Calls Tryd.prog 13 #[.slice A n c] w fun e w' => e = .returned (.int .i64 ((needN L : Nat) : Int)) ∧ w = w' := by
  have hlen : L.length = n := hl.1
  have HL := Lib.hid hlen
  clear hlen
  go_enter Tryd.func13, Tryd.ntmps13
  go_wp2
  go_loop [3, 9] (fun s i => ∃ k : Nat, k ≤ n ∧ (∀ b ∈ L.take k, okR b) ∧ i = .int .i64 k ∧ s = .int .i64 ((sumT (L.take k) : Nat) : Int)) (fun _ i => n - (intOf i).toNat)
  case atStart => exact ⟨0, Nat.zero_le _, by simp, rfl, rfl⟩
  case round =>
    obtain ⟨k, hk, hok, rfl, rfl⟩ := hrel
    by_cases hlt : k < n
    · obtain ⟨b, o, A', n', c', rfl, hbB, hcell, hn', hby⟩ := hl.at_ hlt
      have hkL : k < L.length := by rw [HL.out]; exact hlt
      have hb' : (textAt L k).length = n' := hby.1
      have HT := Lib.hid (take_text hkL)
      have hi1 : (k : Int) < (n : Int) := by omega
      have hs95 := sumTtake L k
      have htk := takesN_le n'
      by_cases h0 : takesN n' = 0
      · have HN : Hid (needN L = 0) := by
          refine Lib.hid (if_neg fun h => ?_)
          have := h _ (textAt_mem hkL)
          rw [okR, hb'] at this
          have := takesN_pos.2 this
          omega
        have HOK := Lib.hid hok
        have h0i : (((takesN n' : Nat) : Int) == 0) = true := by simp; omega
        clear hok h0
        generalize sumT (L.take k) = z at *
        go_wp2_with fail
        refine (takes_int n' _ hn').mono ?_
        rintro e w' ⟨rfl, rfl⟩
        go_wp2
        go_ret
        exact ⟨by rw [HN.out]; rfl, rfl⟩
      · have hok2 : okR (textAt L k) := by
          have := takesN_pos.1 (Nat.pos_of_ne_zero h0)
          rw [okR, hb']; exact this
        have h0i : (((takesN n' : Nat) : Int) == 0) = false := by simp; omega
        have HS : Hid (sumT (L.take (k + 1)) = sumT (L.take k) + takesN n') := Lib.hid (by rw [HT.out, sumT_snoc, hb'])
        have HOK : Hid (∀ b ∈ L.take (k + 1), okR b) := by
          refine Lib.hid ?_
          rw [HT.out]
          intro x hx
          rcases List.mem_append.1 hx with h | h
          · exact hok x h
          · rw [List.mem_singleton.1 h]; exact hok2
        clear hok h0
        go_wp2_with fail
        refine (takes_int n' _ hn').mono ?_
        rintro e w' ⟨rfl, rfl⟩
        generalize hz : takesN n' = z at *
        generalize hy : sumT (L.take k) = y at *
        have HZ := Lib.hid hz; have HY := Lib.hid hy
        clear hz hy
        go_wp2
        go_round
        case rel => exact ⟨k + 1, by omega, HOK.out, by go_num, by rw [HS.out]; go_num⟩
        case measure => simp [intOf]; omega
    · have hkn : k = n := by omega
      have HN : Hid (needN L = sumT (L.take k)) := by
        rw [List.take_of_length_le (by rw [HL.out]; omega)] at hok ⊢
        exact Lib.hid (needN_ok hok)
      have Hkn := Lib.hid hkn
      clear hkn hok
      go_wp2
      go_ret
      exact ⟨by rw [HN.out]; rfl, rfl⟩
end Go.Proofs.YtofbpkaebngnlaaDoor
