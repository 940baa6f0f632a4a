/-
  Contracts over package rule and the document's own: is a tomb ripe? A mailbox' keep.
-/
import Derived.Test.YtkalnaidccgbiaaRuleA
import Derived.Test.YtkalnaidccgbiaaRuleRefA
namespace Go.Proofs.Ytkalnaidccgbiaa
open Go.RowKit
set_option linter.unusedVariables false
set_option linter.unusedSimpArgs false

theorem tmA_size (t : Tm) : (tmA t).size = 7 := rfl
theorem Bk.tm {w : World} {b : Nat} {t : Tm} (H : Bk w b 33 (tmA t)) :
    w.cell? ⟨b, 0, none⟩ = some (.int .i64 t.id) ∧ w.cell? ⟨b, 1, none⟩ = some (.string t.box) ∧ w.cell? ⟨b, 2, none⟩ = some (.int .i64 t.at_) ∧ w.cell? ⟨b, 3, none⟩ = some (.int .i64 t.uid) ∧
    w.cell? ⟨b, 4, none⟩ = some (.int .i64 t.flags) ∧ w.cell? ⟨b, 5, none⟩ = some (.int .i64 t.date) ∧ w.cell? ⟨b, 6, none⟩ = some (.slice t.A t.n t.c) :=
  ⟨H.cell 0, H.cell 1, H.cell 2, H.cell 3, H.cell 4, H.cell 5, H.cell 6⟩
theorem mx0_pos {z : Int} (h : 0 ≤ z) : mx0 z = z := by unfold mx0; omega
theorem mx0_neg {z : Int} (h : ¬ 0 ≤ z) : mx0 z = 0 := by unfold mx0; omega
theorem ripe_pp {a k n : Int} (ha : 0 ≤ a) (hk : 0 ≤ k) : ripeB a k n = decide (tog a k ≤ n) := by rw [ripe_tog, mx0_pos ha, mx0_pos hk]
theorem ripe_pn {a k n : Int} (ha : 0 ≤ a) (hk : ¬ 0 ≤ k) : ripeB a k n = decide (tog a 0 ≤ n) := by rw [ripe_tog, mx0_pos ha, mx0_neg hk]
theorem ripe_np {a k n : Int} (ha : ¬ 0 ≤ a) (hk : 0 ≤ k) : ripeB a k n = decide (tog 0 k ≤ n) := by rw [ripe_tog, mx0_neg ha, mx0_pos hk]
theorem ripe_nn {a k n : Int} (ha : ¬ 0 ≤ a) (hk : ¬ 0 ≤ k) : ripeB a k n = decide (tog 0 0 ≤ n) := by rw [ripe_tog, mx0_neg ha, mx0_neg hk]
theorem ripe_big1 {a k n : Int} (h : 4611686018427387904 ≤ mx0 a) : ripeB a k n = decide (4611686018427387904 ≤ n) := by unfold ripeB; unfold mx0 at h; congr 1; apply propext; omega
theorem ripe_big2 {a k n : Int} (h : 4611686018427387904 - mx0 a ≤ mx0 k) : ripeB a k n = decide (4611686018427387904 ≤ n) := by unfold ripeB; unfold mx0 at h; congr 1; apply propext; omega
theorem ripe_sum {a k n : Int} (h : ¬ 4611686018427387904 - mx0 a ≤ mx0 k) : ripeB a k n = decide (mx0 a + mx0 k ≤ n) := by unfold ripeB; unfold mx0 at h ⊢; congr 1; apply propext; omega

set_option maxHeartbeats 2000000 in
theorem rlRipe_any (t : Tm) (k now : Int) (hat : t.at_ < 9223372036854775808) (hk : k < 9223372036854775808) (w : World) :
    Calls Try.prog 13 #[.agg (tmA t), .int .i64 k, .int .i64 now] w fun e w' => e = .returned (.bool (ripeB t.at_ k now)) ∧ Below w.heap.size w w' := by
  have t2 : (tmA t)[2]? = some (.int .i64 t.at_) := rfl
  by_cases ha : 0 ≤ t.at_
  all_goals by_cases hk0 : 0 ≤ k
  · have HR := Lib.hid (ripe_pp (n := now) ha hk0)
    have CT := Lib.hid (fun w => together_any t.at_ k (by omega) (by omega) (by omega) (by omega) w)
    go_enter Try.func13, Try.ntmps13
    go_wp2_with fail
    refine (CT.out _).mono ?_
    rintro e w' ⟨rfl, rfl⟩
    go_wp2_with fail
    go_ret
    exact ⟨by rw [HR.out] <;> rfl, (Below.refl _ _).alloc (Nat.le_refl _) _⟩
  · have HR := Lib.hid (ripe_pn (n := now) ha hk0)
    have CT := Lib.hid (fun w => together_any t.at_ 0 (by omega) (by omega) (by omega) (by omega) w)
    go_enter Try.func13, Try.ntmps13
    go_wp2_with fail
    refine (CT.out _).mono ?_
    rintro e w' ⟨rfl, rfl⟩
    go_wp2_with fail
    go_ret
    exact ⟨by rw [HR.out] <;> rfl, (Below.refl _ _).alloc (Nat.le_refl _) _⟩
  · have HR := Lib.hid (ripe_np (n := now) ha hk0)
    have CT := Lib.hid (fun w => together_any 0 k (by omega) (by omega) (by omega) (by omega) w)
    go_enter Try.func13, Try.ntmps13
    go_wp2_with fail
    refine (CT.out _).mono ?_
    rintro e w' ⟨rfl, rfl⟩
    go_wp2_with fail
    go_ret
    exact ⟨by rw [HR.out] <;> rfl, (Below.refl _ _).alloc (Nat.le_refl _) _⟩
  · have HR := Lib.hid (ripe_nn (n := now) ha hk0)
    have CT := Lib.hid (fun w => together_any 0 0 (by omega) (by omega) (by omega) (by omega) w)
    go_enter Try.func13, Try.ntmps13
    go_wp2_with fail
    refine (CT.out _).mono ?_
    rintro e w' ⟨rfl, rfl⟩
    go_wp2_with fail
    go_ret
    exact ⟨by rw [HR.out] <;> rfl, (Below.refl _ _).alloc (Nat.le_refl _) _⟩
set_option maxHeartbeats 2000000 in
theorem xdRipe_any (t : Tm) (k now : Int) (hat : t.at_ < 9223372036854775808) (hk : k < 9223372036854775808) (w : World) :
    Calls Try.prog 14 #[.agg (tmA t), .int .i64 k, .int .i64 now] w fun e w' => e = .returned (.bool (ripeB t.at_ k now)) ∧ Below w.heap.size w w' := by
  have t2 : (tmA t)[2]? = some (.int .i64 t.at_) := rfl
  by_cases ha : 0 ≤ t.at_
  all_goals by_cases hk0 : 0 ≤ k
  · have ma : mx0 t.at_ = t.at_ := mx0_pos ha
    have mk : mx0 k = k := mx0_pos hk0
    by_cases hb1 : 4611686018427387904 ≤ t.at_
    · have hb1d : decide (4611686018427387904 ≤ t.at_) = true := decide_eq_true hb1
      have HR := Lib.hid (ripe_big1 (k := k) (n := now) (by rw [ma]; exact hb1))
      clear ma mk
      go_enter Try.func14, Try.ntmps14
      go_wp2_with fail
      go_ret
      exact ⟨by rw [HR.out] <;> first | rfl | (congr 1; try (congr 1; apply propext; omega)), (Below.refl _ _).alloc (Nat.le_refl _) _⟩
    have hb1d : decide (4611686018427387904 ≤ t.at_) = false := decide_eq_false hb1
    by_cases hb2 : 4611686018427387904 - t.at_ ≤ k
    · have hb2d : decide (4611686018427387904 - t.at_ ≤ k) = true := decide_eq_true hb2
      have HR := Lib.hid (ripe_big2 (a := t.at_) (k := k) (n := now) (by rw [ma, mk]; omega))
      clear ma mk
      go_enter Try.func14, Try.ntmps14
      go_wp2_with fail
      go_ret
      exact ⟨by rw [HR.out] <;> first | rfl | (congr 1; try (congr 1; apply propext; omega)), (Below.refl _ _).alloc (Nat.le_refl _) _⟩
    have hb2d : decide (4611686018427387904 - t.at_ ≤ k) = false := decide_eq_false hb2
    have HR := Lib.hid ((ripe_sum (a := t.at_) (k := k) (n := now) (by rw [ma, mk]; omega)).trans (show decide (mx0 t.at_ + mx0 k ≤ now) = decide (t.at_ + k ≤ now) by rw [ma, mk] <;> simp))
    clear ma mk
    go_enter Try.func14, Try.ntmps14
    go_wp2_with fail
    go_ret
    exact ⟨by rw [HR.out] <;> first | rfl | (congr 1; try (congr 1; apply propext; omega)), (Below.refl _ _).alloc (Nat.le_refl _) _⟩
  · have ma : mx0 t.at_ = t.at_ := mx0_pos ha
    have mk : mx0 k = 0 := mx0_neg hk0
    by_cases hb1 : 4611686018427387904 ≤ t.at_
    · have hb1d : decide (4611686018427387904 ≤ t.at_) = true := decide_eq_true hb1
      have HR := Lib.hid (ripe_big1 (k := k) (n := now) (by rw [ma]; exact hb1))
      clear ma mk
      go_enter Try.func14, Try.ntmps14
      go_wp2_with fail
      go_ret
      exact ⟨by rw [HR.out] <;> first | rfl | (congr 1; try (congr 1; apply propext; omega)), (Below.refl _ _).alloc (Nat.le_refl _) _⟩
    have hb1d : decide (4611686018427387904 ≤ t.at_) = false := decide_eq_false hb1
    have HR := Lib.hid ((ripe_sum (a := t.at_) (k := k) (n := now) (by rw [ma, mk]; omega)).trans (show decide (mx0 t.at_ + mx0 k ≤ now) = decide (t.at_ ≤ now) by rw [ma, mk] <;> simp))
    clear ma mk
    go_enter Try.func14, Try.ntmps14
    go_wp2_with fail
    go_ret
    exact ⟨by rw [HR.out] <;> first | rfl | (congr 1; try (congr 1; apply propext; omega)), (Below.refl _ _).alloc (Nat.le_refl _) _⟩
  · have ma : mx0 t.at_ = 0 := mx0_neg ha
    have mk : mx0 k = k := mx0_pos hk0
    by_cases hb2 : 4611686018427387904 ≤ k
    · have hb2d : decide (4611686018427387904 ≤ k) = true := decide_eq_true hb2
      have HR := Lib.hid (ripe_big2 (a := t.at_) (k := k) (n := now) (by rw [ma, mk]; omega))
      clear ma mk
      go_enter Try.func14, Try.ntmps14
      go_wp2_with fail
      go_ret
      exact ⟨by rw [HR.out] <;> first | rfl | (congr 1; try (congr 1; apply propext; omega)), (Below.refl _ _).alloc (Nat.le_refl _) _⟩
    have hb2d : decide (4611686018427387904 ≤ k) = false := decide_eq_false hb2
    have HR := Lib.hid ((ripe_sum (a := t.at_) (k := k) (n := now) (by rw [ma, mk]; omega)).trans (show decide (mx0 t.at_ + mx0 k ≤ now) = decide (k ≤ now) by rw [ma, mk] <;> simp))
    clear ma mk
    go_enter Try.func14, Try.ntmps14
    go_wp2_with fail
    go_ret
    exact ⟨by rw [HR.out] <;> first | rfl | (congr 1; try (congr 1; apply propext; omega)), (Below.refl _ _).alloc (Nat.le_refl _) _⟩
  · have ma : mx0 t.at_ = 0 := mx0_neg ha
    have mk : mx0 k = 0 := mx0_neg hk0
    have HR := Lib.hid ((ripe_sum (a := t.at_) (k := k) (n := now) (by rw [ma, mk]; omega)).trans (show decide (mx0 t.at_ + mx0 k ≤ now) = decide (0 ≤ now) by rw [ma, mk] <;> simp))
    clear ma mk
    go_enter Try.func14, Try.ntmps14
    go_wp2_with fail
    go_ret
    exact ⟨by rw [HR.out] <;> first | rfl | (congr 1; try (congr 1; apply propext; omega)), (Below.refl _ _).alloc (Nat.le_refl _) _⟩

set_option maxRecDepth 20000 in
set_option maxHeartbeats 2000000 in
theorem rlKeep_any (A : Option Addr) (n c : Nat) (l : List Rul) (box : ByteArray) (w : World) (hl : ColK 2 rulC w w.heap.size A n l) (hn : n ≤ 140737488355328) :
    Calls Try.prog 9 #[.slice A n c, .string box] w fun e w' => e = .returned (.int .i64 (keepR l box)) ∧ Below w.heap.size w w' := by
  have HL := Lib.hid hl
  clear hl
  go_enter Try.func9, Try.ntmps9
  go_wp2_with fail
  go_loopw [9] (fun i wx => ∃ k : Nat, k ≤ n ∧ i = .int .i64 (k : Int) ∧ (∀ q ∈ l.take k, q.1 ≠ box) ∧ Below w.heap.size w wx) (fun i _ => n - (intOf i).toNat)
  case atStart => exact ⟨0, Nat.zero_le _, rfl, fun q hq => (by cases hq), Below.refl _ _⟩
  case round =>
    obtain ⟨k, hk, rfl, hu, hb⟩ := hrel
    have HU := Lib.hid hu
    have HB := Lib.hid hb
    clear hu hb
    by_cases hlt : k < n
    · obtain ⟨b, o, a, rfl, hbb, hla, htk, hrow⟩ := (HL.out.below HB.out (Nat.le_refl _)).at_ hlt
      obtain ⟨ck, cv⟩ := a
      have HLA := Lib.hid hla
      have HTK := Lib.hid htk
      have HROW := Lib.hid hrow
      have hk0 : (0 : Int) ≤ (k : Int) := by omega
      have hkn : (k : Int) < (n : Int) := by omega
      have heq := str_eq13 ck box
      clear hla htk hrow
      by_cases he : ck = box
      · rw [decide_eq_true he] at heq
        have HF : Hid (keepR l box = cv) := Lib.hid (keepR_at HLA.out he HU.out)
        clear he
        go_wp2_with ((with_reducible show wpList _ _ _ (⟨some 12, _, _, _, _, _⟩ :: _) _ _); refine hold ?_)
        refine held (wpList_load_mid rfl 54 (.tmp 11) rfl b (o + k * 2) rfl (rulC (ck, cv)) _ HROW.out Try.underlying54 rfl (by kernel_rfl) ?_)
        unfold rulC
        go_wp2_with fail
        go_ret
        exact ⟨by rw [HF.out] <;> rfl, HB.out.alloc HB.out.size _⟩
      · rw [decide_eq_false he] at heq
        have HU2 : Hid (∀ q ∈ l.take (k + 1), q.1 ≠ box) := Lib.hid (fun q hq => by
          rw [HTK.out] at hq
          rcases List.mem_append.1 hq with h1 | h1
          · exact HU.out q h1
          · rw [List.mem_singleton.1 h1]; exact he)
        clear he
        go_wp2_with ((with_reducible show wpList _ _ _ (⟨some 12, _, _, _, _, _⟩ :: _) _ _); refine hold ?_)
        refine held (wpList_load_mid rfl 54 (.tmp 11) rfl b (o + k * 2) rfl (rulC (ck, cv)) _ HROW.out Try.underlying54 rfl (by kernel_rfl) ?_)
        unfold rulC
        go_wp2_with fail
        go_roundw
        case rel => exact ⟨k + 1, by omega, by go_num, HU2.out, HB.out.alloc HB.out.size _⟩
        case measure => simp [intOf]; omega
    · have hkn : ¬ (k : Int) < (n : Int) := by omega
      have HF : Hid (keepR l box = 0) := Lib.hid (keepR_none (by have := HU.out; rwa [List.take_of_length_le (by rw [HL.out.1]; omega)] at this))
      go_wp2_with fail
      go_ret
      exact ⟨by rw [HF.out] <;> rfl, HB.out⟩
end Go.Proofs.Ytkalnaidccgbiaa
