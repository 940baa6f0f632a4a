/-
  The laws of layer 13: what is too great to be looked at.
-/
import Derived.Test.YtkalnaidccgbiaaRuleE
import Derived.Test.YtkalnaidccgbiaaRuleJ
namespace Go.Proofs.Ytkalnaidccgbiaa
open Go.RowKit
set_option linter.unusedVariables false
set_option linter.unusedSimpArgs false

def SmallIs (n m q : Nat) (hs : List Hh) : Prop := n ≤ 1000 ∧ m ≤ 1000 ∧ q ≤ 1000 ∧ ∀ h ∈ hs, h.n ≤ 1000000
def GreatIs (n m q : Nat) (hs : List Hh) (w : World) (e : Ending) (w' : World) : Prop := ∃ gr : Bool, e = .returned (.bool gr) ∧ (gr = false → SmallIs n m q hs) ∧ Below w.heap.size w w'
def SumAt (n m q : Nat) (hs : List Hh) (k : Nat) (s : Int) : Prop := (n : Int) + m + q ≤ s ∧ s ≤ 1000000000000000 ∧ ∀ h ∈ hs.take k, (h.n : Int) ≤ s
theorem SumAt.next {n m q : Nat} {hs : List Hh} {k : Nat} {s : Int} {h : Hh} (H : SumAt n m q hs k s) (e : hs.take (k + 1) = hs.take k ++ [h]) (h1 : s ≤ 1000) (h2 : h.n ≤ 140737488355328) : SumAt n m q hs (k + 1) (s + h.n) := by
  obtain ⟨a, b, c⟩ := H
  refine ⟨by omega, by omega, fun x hx => ?_⟩
  rw [e] at hx
  rcases List.mem_append.1 hx with hx | hx
  · have := c x hx; omega
  · rw [List.mem_singleton.1 hx]; omega
theorem SumAt.small {n m q : Nat} {hs : List Hh} {s : Int} (H : SumAt n m q hs hs.length s) (h1 : s ≤ 1000) : SmallIs n m q hs := by
  obtain ⟨a, b, c⟩ := H
  rw [List.take_of_length_le (Nat.le_refl _)] at c
  exact ⟨by omega, by omega, by omega, fun h hh => by have := c h hh; omega⟩
set_option maxRecDepth 20000 in
set_option maxHeartbeats 4000000 in
theorem great13_any (A B C : Option Addr) (n c m d q cq : Nat) (hs : List Hh) (w : World) (hh : HoldsIn w w.heap.size B m hs) (hn : n ≤ 140737488355328) (hm : m ≤ 140737488355328) (hq : q ≤ 140737488355328) :
    Calls Try.prog 8 #[.agg #[.slice A n c, .slice B m d], .slice C q cq] w (GreatIs n m q hs w) := by
  have hb : Below w.heap.size w (w.alloc (.cells #[.slice A n c, .slice B m d] 25)) := (Below.refl _ _).alloc (Nat.le_refl _) _
  have HH := Lib.hid (hh.later hb)
  have HB := Lib.hid hb
  have HLN := Lib.hid hh.len
  have hs0 : SumAt n m q hs 0 ((n : Int) + m + q) := ⟨Int.le_refl _, by omega, (fun h hh => by cases hh)⟩
  have HS0 := Lib.hid hs0
  clear hh hb hs0
  go_enter Try.func8, Try.ntmps8
  go_wp2_with fail
  go_loop [5, 6] (fun a i => ∃ (k : Nat) (s : Int), k ≤ m ∧ i = .int .i64 (k : Int) ∧ a = .int .i64 s ∧ SumAt n m q hs k s) (fun _ i => m - (intOf i).toNat)
  case atStart => exact ⟨0, _, Nat.zero_le _, rfl, rfl, HS0.out⟩
  case round =>
    obtain ⟨k, s, hk, rfl, rfl, hsa⟩ := hrel
    have HSA := Lib.hid hsa
    have hs1 : s ≤ 1000000000000000 := hsa.2.1
    have hs2 : 0 ≤ s := by have := hsa.1; omega
    clear hsa HS0
    by_cases hlt : k < m
    · by_cases hle : s ≤ 1000
      · obtain ⟨b, o, x, rfl, hbb, hla, htk, hrow, hin⟩ := HH.out.at_ hlt
        have r2 := hrow 2 _ rfl
        have hk0 : (0 : Int) ≤ (k : Int) := by omega
        have hkn : (k : Int) < (m : Int) := by omega
        have hxn : x.n ≤ 140737488355328 := hin.2
        have HN := Lib.hid (HSA.out.next htk hle hxn)
        clear hla htk hrow hin
        go_wp2_with fail
        go_round
        case rel => exact ⟨k + 1, _, by omega, by go_num, rfl, HN.out⟩
        case measure => simp [intOf]; omega
      · have hk0 : (0 : Int) ≤ (k : Int) := by omega
        have hkn : (k : Int) < (m : Int) := by omega
        have hg : (1000 : Int) < s := by omega
        go_wp2_with fail
        go_ret
        exact ⟨true, rfl, (fun h => by cases h), HB.out⟩
    · have hkn : ¬ (k : Int) < (m : Int) := by omega
      obtain rfl : k = m := by omega
      by_cases hle : s ≤ 1000
      · have hg : ¬ (1000 : Int) < s := by omega
        have HF := Lib.hid (SumAt.small (by have := HSA.out; rwa [← HLN.out] at this) hle)
        go_wp2_with fail
        go_ret
        exact ⟨false, rfl, fun _ => by rw [← HLN.out]; exact HF.out, HB.out⟩
      · have hg : (1000 : Int) < s := by omega
        go_wp2_with fail
        go_ret
        exact ⟨true, rfl, (fun h => by cases h), HB.out⟩
end Go.Proofs.Ytkalnaidccgbiaa
