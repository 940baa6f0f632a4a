/-
  The law RuleSets, as a walk.
-/
import Derived.Test.YtkalnaidccgbiaaRuleL
namespace Go.Proofs.Ytkalnaidccgbiaa
open Go.RowKit
set_option linter.unusedVariables false
set_option linter.unusedSimpArgs false

theorem setR_len (l : List Rul) (b : ByteArray) (k : Int) : (setR l b k).length ≤ 2 * l.length + 1 := by
  unfold setR
  have h1 := List.length_filter_le (fun r : Rul => decide (ltS r.1 b)) l
  have h2 := List.length_filter_le (fun r : Rul => decide (ltS b r.1)) l
  have h3 : (newR b k).length ≤ 1 := by unfold newR; split <;> simp
  simp only [List.length_append]
  omega
theorem rise_of {l : List Rul} (h : risB l = true) : riseR l := of_decide_eq_true h
theorem ris_yes {l : List Rul} (h : riseR l) : risB l = true := decide_eq_true h
theorem keep_hi {b : ByteArray} {k : Int} (l : List Rul) (h : 0 ≤ k) : keepR (setR l b k) b = k := by rw [setR_keep]; omega
theorem keep_lo {b : ByteArray} {k : Int} (l : List Rul) (h : ¬ 0 ≤ k) : keepR (setR l b k) b = 0 := by rw [setR_keep]; omega
set_option maxRecDepth 20000 in
set_option maxHeartbeats 8000000 in
theorem ruleSets_walk (A : Option Addr) (n c : Nat) (l : List Rul) (box : ByteArray) (keep : Int) (w : World) (hl : ColK 2 rulC w w.heap.size A n l) (hn : n ≤ 140737488355328) :
    Calls Try.prog 4 #[.slice A n c, .string box, .int .i64 keep] w fun e w' => e = .returned (.bool true) ∧ Below w.heap.size w w' := by
  have HL := Lib.hid hl
  clear hl
  go_enter Try.func4, Try.ntmps4
  go_wp2_with fail
  refine (alive13_any w).mono ?_
  rintro e w1 ⟨rfl, hb⟩
  have B1 := Lib.hid hb
  clear hb
  by_cases h2 : 200 < n
  · have h2' : (200 : Int) < (n : Int) := by omega
    go_wp2_with fail
    go_ret
    exact ⟨rfl, B1.out⟩
  have h2' : ¬ (200 : Int) < (n : Int) := by omega
  go_wp2_with fail
  refine (xdRising_any A n c l w1 (HL.out.later B1.out) hn).mono ?_
  rintro e w2 ⟨rfl, q, rfl⟩
  have B2 := Lib.hid (below_drewN B1.out q)
  cases hr : risB l
  · clear hr
    go_wp2_with fail
    go_ret
    exact ⟨rfl, B2.out⟩
  have HR := Lib.hid (rise_of hr)
  clear hr
  have L2 := Lib.hid (HL.out.later B2.out)
  obtain ⟨w2, hw2⟩ : ∃ W, W = w1.drewN q := ⟨_, rfl⟩
  rw [← hw2] at B2 L2 ⊢
  clear hw2 B1
  have HAP : Hid (∃ A3 c3 w3, (Builtin.append_ #[22, 22] 22 #[.slice (some ⟨w2.heap.size, 0, none⟩) 0 0, .slice A n c]).run Try.prog (w2.alloc (.cells #[] 54)) = .ok (.slice A3 n c3) w3 ∧ OwnK 2 rulC w3 w2.heap.size 54 A3 n c3 l ∧ Below w2.heap.size w2 w3) := Lib.hid (by
    obtain ⟨A3, c3, w3, hrun, ho3, hb3, hg3⟩ := run_append_ks (P := Try.prog) (f := rulC) (OwnK.empty rulC_len w2 54) 22 22 Try.underlying22 info_rul rfl (by omega) (by omega) (A' := A) (m := n) (c' := c) (L2.out.below ((Below.refl _ _).alloc (Nat.le_refl _) (.cells #[] 54)) (Nat.le_refl _)) (ruls_one l) (by omega) (by simp)
    rw [Nat.zero_add, List.nil_append] at ho3
    rw [Nat.zero_add] at hrun
    exact ⟨A3, c3, w3, hrun, ho3, ((Below.refl _ _).alloc (Nat.le_refl _) _).trans hb3⟩)
  obtain ⟨A3, c3, w3, hrun, ho3, hb3⟩ := HAP.out
  have HRUN := Lib.hid hrun
  have O3 := Lib.hid ho3
  have B3 := Lib.hid (B2.out.trans (hb3.mono B2.out.size))
  clear hrun ho3 hb3 HAP
  go_wp2_with ((with_reducible show wpList _ _ _ (⟨some 21, _, _, _, _, _⟩ :: _) _ _); refine hold ?_)
  refine held (wpList_plain rfl fun K hK => wp_append_ks (s := .tmp 19) (x := .tmp 20) rfl rfl rfl HRUN.out (hK _ _ ?_))
  clear HRUN L2 B2
  go_wp2_with fail
  refine (rlSet_any A3 n c3 l box keep w3 O3.out.col (by omega) HR.out).mono ?_
  rintro e w4 ⟨A4, n4, c4, rfl, ho4, hb4⟩
  have O4 := Lib.hid ho4
  have P4 := Lib.hid (O3.out.below hb4)
  have B4 := Lib.hid (B3.out.trans (hb4.mono B3.out.size))
  have N4 : Hid (n4 ≤ 140737488355328) := Lib.hid (by have h1 := ho4.len; have h2 := setR_len l box keep; have h3 := HL.out.1; omega)
  clear ho4 hb4 O3 B3
  go_wp2_with fail
  refine (xdSet_any A n c l box keep w4 (HL.out.later B4.out) (by omega)).mono ?_
  rintro e w5 ⟨A5, n5, c5, rfl, ho5, hb5⟩
  rw [docR_set HR.out] at ho5
  have O5 := Lib.hid ho5
  have P5 := Lib.hid (P4.out.below hb5)
  have Q5 := Lib.hid (O4.out.below hb5)
  have B5 := Lib.hid (B4.out.trans (hb5.mono B4.out.size))
  have N5 : Hid (n5 ≤ 140737488355328) := Lib.hid (by have h1 := ho5.len; have h2 := setR_len l box keep; have h3 := HL.out.1; omega)
  clear ho5 hb5 O4 P4 B4
  go_wp2_with fail
  have C5 := Lib.hid (xdRules_any A4 A5 n4 c4 n5 c5 (setR l box keep) (setR l box keep) w5 Q5.out.col O5.out.col N4.out N5.out)
  rw [decide_eq_true rfl] at C5
  refine C5.out.mono ?_
  rintro e w6 ⟨rfl, q6, rfl⟩
  have P6 := Lib.hid (P5.out.below (below_drewN (Below.refl _ _) q6))
  have Q6 := Lib.hid (Q5.out.below (below_drewN (Below.refl _ _) q6))
  have B6 := Lib.hid (below_drewN B5.out q6)
  obtain ⟨w6, hw6⟩ : ∃ W, W = w5.drewN q6 := ⟨_, rfl⟩
  rw [← hw6] at P6 Q6 B6 ⊢
  clear hw6 C5 P5 Q5 B5 O5
  go_wp2_with fail
  have C6 := Lib.hid (xdRules_any A3 A n c3 n c l l w6 P6.out.col (HL.out.later B6.out) (by omega) (by omega))
  rw [decide_eq_true rfl] at C6
  refine C6.out.mono ?_
  rintro e w7 ⟨rfl, q7, rfl⟩
  have Q7 := Lib.hid (Q6.out.below (below_drewN (Below.refl _ _) q7))
  have B7 := Lib.hid (below_drewN B6.out q7)
  obtain ⟨w7, hw7⟩ : ∃ W, W = w6.drewN q7 := ⟨_, rfl⟩
  rw [← hw7] at Q7 B7 ⊢
  clear hw7 C6 P6 Q6 B6
  go_wp2_with fail
  have C7 := Lib.hid (xdRising_any A4 n4 c4 (setR l box keep) w7 Q7.out.col N4.out)
  rw [ris_yes (setR_rise HR.out box keep)] at C7
  refine C7.out.mono ?_
  rintro e w8 ⟨rfl, q8, rfl⟩
  have Q8 := Lib.hid (Q7.out.below (below_drewN (Below.refl _ _) q8))
  have B8 := Lib.hid (below_drewN B7.out q8)
  obtain ⟨w8, hw8⟩ : ∃ W, W = w7.drewN q8 := ⟨_, rfl⟩
  rw [← hw8] at Q8 B8 ⊢
  clear hw8 C7 Q7 B7
  go_wp2_with fail
  have C8 := Lib.hid (rlKeep_any A4 n4 c4 (setR l box keep) box w8 Q8.out.col N4.out)
  by_cases hk : 0 ≤ keep
  · rw [keep_hi l hk] at C8
    refine C8.out.mono ?_
    rintro e w9 ⟨rfl, hb9⟩
    have B9 := Lib.hid (B8.out.trans (hb9.mono B8.out.size))
    clear hb9 C8 Q8 B8
    go_wp2_with fail
    go_ret
    exact ⟨ret_bool (by simp; omega), B9.out⟩
  · rw [keep_lo l hk] at C8
    refine C8.out.mono ?_
    rintro e w9 ⟨rfl, hb9⟩
    have B9 := Lib.hid (B8.out.trans (hb9.mono B8.out.size))
    clear hb9 C8 Q8 B8
    go_wp2_with fail
    go_ret
    exact ⟨ret_bool (by simp; omega), B9.out⟩
end Go.Proofs.Ytkalnaidccgbiaa
