/-
  Contracts over the document's own package rule: the same rules; rising names.
-/
import Derived.Test.YtkalnaidccgbiaaRuleRows
import Derived.Test.YtkalnaidccgbiaaTextOwn
namespace Go.Proofs.Ytkalnaidccgbiaa
open Go.RowKit
set_option linter.unusedVariables false
set_option linter.unusedSimpArgs false

theorem ne_at13 {l r : List Rul} {k : Nat} {x y : Rul} (hx : l[k]? = some x) (hy : r[k]? = some y) (h : x ≠ y) : l ≠ r := fun e => by
  rw [e, hy] at hx; exact h (Option.some.inj hx).symm
set_option maxRecDepth 20000 in
set_option maxHeartbeats 4000000 in
theorem xdRules_any (A B : Option Addr) (n c m d : Nat) (l r : List Rul) (w : World) (hl : ColK 2 rulC w w.heap.size A n l) (hr : ColK 2 rulC w w.heap.size B m r) (hn : n ≤ 140737488355328) (hm : m ≤ 140737488355328) :
    Calls Try.prog 22 #[.slice A n c, .slice B m d] w fun e w' => e = .returned (.bool (decide (l = r))) ∧ ∃ q, w' = w.drewN q := by
  have HL := Lib.hid hl
  have HR := Lib.hid hr
  by_cases hnm : n = m
  · subst hnm
    have hne : ((n : Int) != (n : Int)) = false := by simp
    clear hl hr
    go_enter Try.func22, Try.ntmps22
    go_wp2_with fail
    go_loopw [5] (fun i wx => ∃ k q : Nat, k ≤ n ∧ i = .int .i64 (k : Int) ∧ l.take k = r.take k ∧ wx = w.drewN q) (fun i _ => n - (intOf i).toNat)
    case atStart => exact ⟨0, 0, Nat.zero_le _, rfl, rfl, rfl⟩
    case round =>
      obtain ⟨k, q, hk, rfl, hm, hw⟩ := hrel
      have HM := Lib.hid hm
      have HW := Lib.hid hw
      clear hm hw
      by_cases hlt : k < n
      · obtain ⟨b, o, x, rfl, hbb, hla, htk, hrow⟩ := HL.out.at_ hlt
        obtain ⟨b2, o2, y, rfl, hbb2, hla2, htk2, hrow2⟩ := HR.out.at_ hlt
        rw [show w.rangeAt b (o + k * 2) (rulC x) = wr.rangeAt b (o + k * 2) (rulC x) by rw [HW.out]; rfl] at hrow
        rw [show w.rangeAt b2 (o2 + k * 2) (rulC y) = wr.rangeAt b2 (o2 + k * 2) (rulC y) by rw [HW.out]; rfl] at hrow2
        obtain ⟨x1, x2⟩ := x
        obtain ⟨y1, y2⟩ := y
        have r0 := hrow 0 _ rfl
        have r1 := hrow 1 _ rfl
        have s0 := hrow2 0 _ rfl
        have s1 := hrow2 1 _ rfl
        rw [Nat.add_zero] at r0 s0
        have hk0 : (0 : Int) ≤ (k : Int) := by omega
        have hkn : (k : Int) < (n : Int) := by omega
        have HA1 := Lib.hid hla
        have HA2 := Lib.hid hla2
        have HT1 := Lib.hid htk
        have HT2 := Lib.hid htk2
        have q1 := str_eq13 x1 y1
        have q2 : (x2 == y2) = decide (x2 = y2) := by rw [Bool.eq_iff_iff]; simp
        clear hla hla2 htk htk2 hrow hrow2
        by_cases he1 : x1 = y1
        · rw [decide_eq_true he1] at q1
          by_cases he2 : x2 = y2
          · rw [decide_eq_true he2] at q2
            have HN : Hid (l.take (k + 1) = r.take (k + 1)) := Lib.hid (by rw [HT1.out, HT2.out, HM.out, he1, he2])
            clear he1 he2
            go_wp2_with fail
            go_quiet (fail)
            go_wp2_with fail
            go_roundw
            case rel => exact ⟨k + 1, _, by omega, by go_num, HN.out, by rw [HW.out]; exact drewN_twice _ _ _⟩
            case measure => simp [intOf]; omega
          · rw [decide_eq_false he2] at q2
            have HN : Hid (decide (l = r) = false) := Lib.hid (decide_eq_false (ne_at13 HA1.out HA2.out (fun e => he2 (Prod.mk.inj e).2)))
            clear he1 he2
            go_wp2_with fail
            go_quiet (fail)
            go_wp2_with fail
            go_ret
            exact ⟨by rw [HN.out] <;> rfl, _, by rw [HW.out]; exact drewN_twice _ _ _⟩
        · rw [decide_eq_false he1] at q1
          have HN : Hid (decide (l = r) = false) := Lib.hid (decide_eq_false (ne_at13 HA1.out HA2.out (fun e => he1 (Prod.mk.inj e).1)))
          clear he1 q2
          go_wp2_with fail
          go_quiet (fail)
          go_wp2_with fail
          go_ret
          exact ⟨by rw [HN.out] <;> rfl, _, by rw [HW.out]; exact drewN_twice _ _ _⟩
      · have hkn : ¬ (k : Int) < (n : Int) := by omega
        have HN : Hid (decide (l = r) = true) := Lib.hid (decide_eq_true (by
          have h := HM.out
          rwa [List.take_of_length_le (by rw [HL.out.1]; omega), List.take_of_length_le (by rw [HR.out.1]; omega)] at h))
        go_wp2_with fail
        go_ret
        exact ⟨by rw [HN.out] <;> rfl, _, HW.out⟩
  · have hne : ((n : Int) != (m : Int)) = true := by simp; omega
    have HN : Hid (decide (l = r) = false) := Lib.hid (decide_eq_false (fun e => hnm (by rw [← HL.out.1, ← HR.out.1, e])))
    clear hl hr
    go_enter Try.func22, Try.ntmps22
    go_wp2_with fail
    go_ret
    exact ⟨by rw [HN.out] <;> rfl, 0, rfl⟩

instance (l : List Rul) : Decidable (riseR l) := inferInstanceAs (Decidable (l.Pairwise _))
def risB (l : List Rul) : Bool := decide (riseR l)
theorem rise_next {l : List Rul} {j : Nat} {b a : Rul} (h : riseR (l.take (j + 1))) (hb : l[j]? = some b) (ha : l[j + 1]? = some a) (hl : ltS b.1 a.1) : riseR (l.take (j + 2)) := by
  have e1 : l.take (j + 1) = l.take j ++ [b] := by rw [List.take_add_one, hb]; rfl
  have e2 : l.take (j + 2) = l.take (j + 1) ++ [a] := by rw [List.take_add_one, ha]; rfl
  rw [e2]
  unfold riseR at h ⊢
  rw [List.pairwise_append]
  refine ⟨h, List.pairwise_singleton _ _, fun p hp q hq => ?_⟩
  rw [List.mem_singleton.1 hq]
  rw [e1] at h hp
  rcases List.mem_append.1 hp with h1 | h1
  · exact ltS_trans ((List.pairwise_append.1 h).2.2 p h1 b (List.mem_singleton_self b)) hl
  · rw [List.mem_singleton.1 h1]; exact hl
theorem rise_not {l : List Rul} {j : Nat} {b a : Rul} (hb : l[j]? = some b) (ha : l[j + 1]? = some a) (hl : ¬ ltS b.1 a.1) : ¬ riseR l := fun h => by
  unfold riseR at h
  rw [List.pairwise_iff_getElem] at h
  obtain ⟨h1, e1⟩ := List.getElem?_eq_some_iff.1 hb
  obtain ⟨h2, e2⟩ := List.getElem?_eq_some_iff.1 ha
  have := h j (j + 1) h1 h2 (by omega)
  rw [e1, e2] at this
  exact hl this
end Go.Proofs.Ytkalnaidccgbiaa
