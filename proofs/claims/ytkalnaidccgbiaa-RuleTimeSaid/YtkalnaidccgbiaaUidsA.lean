/-
  Contracts over package uids and the document's own: whether it is a set; equal lists; rising numbers.
-/
import Derived.Test.YtkalnaidccgbiaaUidsMath
import Derived.Test.YtkalnaidccgbiaaTextOwn
namespace Go.Proofs.Ytkalnaidccgbiaa
open Go.RowKit
set_option linter.unusedVariables false
set_option linter.unusedSimpArgs false

def rgC (r : Rg) : List Value := [.int .i64 r.1, .int .i64 r.2]
theorem rgC_len (r : Rg) : (rgC r).length = 2 := rfl
def ints (z : Int) : Value := .int .i64 z

theorem rightU_short {l : List Rg} (h : l.length < 1) : rightU l = false := decide_eq_false fun e => by omega
theorem rightU_long {l : List Rg} (h : 60 < l.length) : rightU l = false := decide_eq_false fun e => by omega
theorem rightU_stop {l : List Rg} {k : Nat} {r : Rg} (hr : l[k]? = some r) (h : ¬ okR r) : rightU l = false := decide_eq_false fun e => h (e.2.2 r (List.mem_of_getElem? hr))
theorem rightU_yes {l : List Rg} (h1 : 1 ≤ l.length) (h2 : l.length ≤ 60) (h : ∀ r ∈ l, okR r) : rightU l = true := decide_eq_true ⟨h1, h2, h⟩
theorem okR_snoc {l : List Rg} {k : Nat} {r : Rg} (h : ∀ x ∈ l.take k, okR x) (ht : l.take (k + 1) = l.take k ++ [r]) (hr : okR r) : ∀ x ∈ l.take (k + 1), okR x := by
  rw [ht]
  intro x hx
  rcases List.mem_append.1 hx with h1 | h1
  · exact h x h1
  · rw [List.mem_singleton.1 h1]; exact hr

theorem eq_at {α : Type} {a b : List α} (hl : a.length = b.length) (k : Nat) (h : a.take k = b.take k) (hk : k = a.length) : a = b := by
  rwa [List.take_of_length_le (by omega), List.take_of_length_le (by omega)] at h
theorem ne_at {α : Type} {a b : List α} {k : Nat} {x y : α} (hx : a[k]? = some x) (hy : b[k]? = some y) (h : x ≠ y) : a ≠ b := fun e => h (by rw [e, hy] at hx; exact (Option.some.inj hx).symm)

set_option maxRecDepth 20000 in
set_option maxHeartbeats 2000000 in
theorem x9Ints_any (A B : Option Addr) (n c m d : Nat) (l r : List Int) (w : World) (hl : Col ints w w.heap.size A n l) (hr : Col ints w w.heap.size B m r) (hn : n ≤ 140737488355328) (hm : m ≤ 140737488355328) :
    Calls Try.prog 17 #[.slice A n c, .slice B m d] w fun e w' => e = .returned (.bool (decide (l = r))) ∧ ∃ q, w' = w.drewN q := by
  have HL := Lib.hid hl
  have HR := Lib.hid hr
  by_cases hnm : n = m
  · subst hnm
    have hne : ((n : Int) != (n : Int)) = false := by simp
    clear hl hr
    go_enter Try.func17, Try.ntmps17
    go_wp2_with fail
    go_loopw [5] (fun i wx => ∃ k q : Nat, k ≤ n ∧ i = .int .i64 (k : Int) ∧ l.take k = r.take k ∧ wx = w.drewN q) (fun i _ => n - (intOf i).toNat)
    case atStart => exact ⟨0, 0, Nat.zero_le _, rfl, rfl, rfl⟩
    case round =>
      obtain ⟨k, q, hk, rfl, hm, hw⟩ := hrel
      have HM := Lib.hid hm
      have HW := Lib.hid hw
      clear hm hw
      by_cases hlt : k < n
      · obtain ⟨b, o, x, rfl, hbb, hla, htk, hc⟩ := HL.out.at_ hlt
        obtain ⟨b2, o2, y, rfl, hbb2, hla2, htk2, hc2⟩ := HR.out.at_ hlt
        rw [show w.cell? ⟨b, o + k, none⟩ = wr.cell? ⟨b, o + k, none⟩ by rw [HW.out]; rfl] at hc
        rw [show w.cell? ⟨b2, o2 + k, none⟩ = wr.cell? ⟨b2, o2 + k, none⟩ by rw [HW.out]; rfl] at hc2
        have hk0 : (0 : Int) ≤ (k : Int) := by omega
        have hkn : (k : Int) < (n : Int) := by omega
        unfold ints at hc hc2
        have HA1 := Lib.hid hla
        have HA2 := Lib.hid hla2
        have HT1 := Lib.hid htk
        have HT2 := Lib.hid htk2
        clear hla hla2 htk htk2
        by_cases he : x = y
        · subst he
          have hxy : (x != x) = false := by simp
          have HN : Hid (l.take (k + 1) = r.take (k + 1)) := Lib.hid (by rw [HT1.out, HT2.out, HM.out])
          go_wp2_with fail
          go_quiet (fail)
          go_wp2_with fail
          go_roundw
          case rel => exact ⟨k + 1, _, by omega, by go_num, HN.out, by rw [HW.out]; exact drewN_twice _ _ _⟩
          case measure => simp [intOf]; omega
        · have hxy : (x != y) = true := by simp; exact he
          have HN : Hid (decide (l = r) = false) := Lib.hid (decide_eq_false (ne_at HA1.out HA2.out he))
          go_wp2_with fail
          go_quiet (fail)
          go_wp2_with fail
          go_ret
          exact ⟨by rw [HN.out] <;> rfl, _, by rw [HW.out]; exact drewN_twice _ _ _⟩
      · have HN : Hid (decide (l = r) = true) := Lib.hid (decide_eq_true (eq_at (HL.out.1.trans HR.out.1.symm) k HM.out (by rw [HL.out.1]; omega)))
        go_wp2_with fail
        go_ret
        exact ⟨by rw [HN.out] <;> rfl, _, HW.out⟩
  · have hne : ((n : Int) != (m : Int)) = true := by simp; omega
    have HN : Hid (decide (l = r) = false) := Lib.hid (decide_eq_false (fun e => hnm (by rw [← hl.1, ← hr.1, e])))
    clear hl hr
    go_enter Try.func17, Try.ntmps17
    go_wp2_with fail
    go_ret
    exact ⟨by rw [HN.out] <;> rfl, 0, rfl⟩
end Go.Proofs.Ytkalnaidccgbiaa
