/-
  Contracts over package uids and the document's own: what is in a range, in a set; equal sets; rising numbers; numbers picked.
-/
import Derived.Test.YtkalnaidccgbiaaUidsA
import Derived.Laws.StructEq
import Derived.Deep.QuietTactic
namespace Go.Proofs.Ytkalnaidccgbiaa
open Go.RowKit
set_option linter.unusedVariables false
set_option linter.unusedSimpArgs false

theorem rg_fields : Try.prog.fieldsOf 48 = #[{ name := "From", type := 3, offset := 0, embedded := false, tag := "", pkgPath := "", byteOffset := 0 }, { name := "To", type := 3, offset := 1, embedded := false, tag := "", pkgPath := "", byteOffset := 8 }] := by kernel_rfl
theorem rg_neq (W : World) (x y u v : Int) : (binOp .neq 48 (.agg #[.int .i64 x, .int .i64 y]) (.agg #[.int .i64 u, .int .i64 v])).run Try.prog W = .ok (.bool (!decide ((x, y) = (u, v)))) W := by
  have h1 : Try.prog.underlying 48 = some (.struct (Try.prog.fieldsOf 48)) := by rw [rg_fields]; exact Try.underlying48
  have h2 : Try.prog.stoodInHeld 48 = false := by kernel_rfl
  simp [binOp, Op.equal, Op.maxDepth, run_equalIn_agg W 9999 48 _ _ h1 h2, rg_fields]
  have p0 : ∀ (a b : Int), (part 3 #[Value.int IntKind.i64 a, Value.int IntKind.i64 b] 0).run Try.prog W = .ok (.int .i64 a) W := fun a b => by simp [part, isAgg, Sem.run_bind, run_underlying Try.underlying3]
  have p1 : ∀ (a b : Int), (part 3 #[Value.int IntKind.i64 a, Value.int IntKind.i64 b] 1).run Try.prog W = .ok (.int .i64 b) W := fun a b => by simp [part, isAgg, Sem.run_bind, run_underlying Try.underlying3]
  have q : ∀ a b, (Op.equalIn 9999 3 (.int .i64 a) (.int .i64 b)).run Try.prog W = .ok (a == b) W := fun a b => run_equalIn_int W 9998 3 .i64 .i64 a b Try.underlying3
  simp [Op.eqFields, p0, p1, q, Sem.run_bind]
  by_cases h1 : x = u <;> by_cases h2 : y = v <;> simp [h1, h2]

theorem umeant_any (z last : Int) (bl : Nat) (w : World) (hl : w.cell? ⟨bl, 0, none⟩ = some (.int .i64 last)) :
    Calls Try.prog 45 #[.int .i64 z, .pointer (some ⟨bl, 0, none⟩)] w fun e w' => e = .returned (.int .i64 (meantZ last z)) ∧ w' = w := by
  by_cases hz : z = 0
  · subst hz
    have HR : Hid (meantZ last 0 = last) := Lib.hid (if_pos rfl)
    go_enter Try.func45, Try.ntmps45
    go_wp2
    go_ret
    exact ⟨by rw [HR.out] <;> rfl, rfl⟩
  · have hz' : (z == 0) = false := by simp; exact hz
    have HR : Hid (meantZ last z = z) := Lib.hid (if_neg hz)
    clear hz
    go_enter Try.func45, Try.ntmps45
    go_wp2
    go_ret
    exact ⟨by rw [HR.out] <;> rfl, rfl⟩

theorem has_hit {l : List Rg} {n last : Int} {k : Nat} {r : Rg} (hn : 1 ≤ n) (hr : l[k]? = some r) (h : inR last n r = true) : hasZ l n last = true := by
  unfold hasZ
  rw [decide_eq_true hn, List.any_eq_true.2 ⟨r, List.mem_of_getElem? hr, h⟩]; rfl
theorem any_next {l : List Rg} {last n : Int} {k : Nat} {r : Rg} (h : (l.take k).any (inR last n) = false) (ht : l.take (k + 1) = l.take k ++ [r]) (hr : inR last n r = false) : (l.take (k + 1)).any (inR last n) = false := by
  rw [ht, any_snoc, h, hr]; rfl
theorem has_none {l : List Rg} {n last : Int} (h : l.any (inR last n) = false) : hasZ l n last = false := by unfold hasZ; rw [h, Bool.and_false]
theorem has_low {l : List Rg} {n last : Int} (h : ¬ 1 ≤ n) : hasZ l n last = false := by unfold hasZ; rw [decide_eq_false h]; rfl

set_option maxRecDepth 20000 in
set_option maxHeartbeats 8000000 in
theorem x9Has_any (A : Option Addr) (m c : Nat) (l : List Rg) (n last : Int) (w : World) (hl : ColK 2 rgC w w.heap.size A m l) (hm : m ≤ 140737488355328) :
    Calls Try.prog 27 #[.slice A m c, .int .i64 n, .int .i64 last] w fun e w' => e = .returned (.bool (hasZ l n last)) ∧ ∃ q, w' = w.drewN q := by
  have HL := Lib.hid hl
  clear hl
  by_cases hn1 : 1 ≤ n
  · go_enter Try.func27, Try.ntmps27
    go_wp2_with fail
    go_loopw [7] (fun i wx => ∃ k q : Nat, k ≤ m ∧ i = .int .i64 (k : Int) ∧ (l.take k).any (inR last n) = false ∧ wx = w.drewN q) (fun i _ => m - (intOf i).toNat)
    case atStart => exact ⟨0, 0, Nat.zero_le _, rfl, rfl, rfl⟩
    case round =>
      obtain ⟨k, q, hk, rfl, ha, hw⟩ := hrel
      have HA := Lib.hid ha
      have HW := Lib.hid hw
      clear ha hw
      by_cases hlt : k < m
      · obtain ⟨b, o, r, rfl, hbb, hla, htk, hrow⟩ := HL.out.at_ hlt
        rw [show w.rangeAt b (o + k * 2) (rgC r) = wr.rangeAt b (o + k * 2) (rgC r) by rw [HW.out]; rfl] at hrow
        obtain ⟨x, y⟩ := r
        have r0 := hrow 0 _ rfl
        have r1 := hrow 1 _ rfl
        rw [Nat.add_zero] at r0
        have hk0 : (0 : Int) ≤ (k : Int) := by omega
        have hkm : (k : Int) < (m : Int) := by omega
        have HLA := Lib.hid hla
        have HTK := Lib.hid htk
        clear hla htk hrow
        by_cases hx : x = 0
        · subst hx
          by_cases hy : y = 0
          · subst hy
            have HMA : Hid (meantZ last 0 = last) := Lib.hid (by unfold meantZ; rw [if_pos rfl])
            have HMB : Hid (meantZ last 0 = last) := Lib.hid (by unfold meantZ; rw [if_pos rfl])
            by_cases h1 : last ≤ n
            · by_cases h2 : n ≤ last
              · have HIN : Hid (inR last n (0, 0) = true) := Lib.hid (by unfold inR; rw [HMA.out]; (try rw [HMB.out]); exact decide_eq_true (by omega))
                have HH := Lib.hid (has_hit hn1 HLA.out HIN.out)
                go_wp2_with fail
                go_quiet (fail)
                go_wp2_with fail
                all_goals (go_ret; exact ⟨by rw [HH.out] <;> rfl, _, by rw [HW.out]; exact drewN_twice _ _ _⟩)
              · have HIN : Hid (inR last n (0, 0) = false) := Lib.hid (by unfold inR; rw [HMA.out]; (try rw [HMB.out]); exact decide_eq_false (by omega))
                have HN := Lib.hid (any_next HA.out HTK.out HIN.out)
                go_wp2_with fail
                go_quiet (fail)
                go_wp2_with fail
                all_goals
                  go_roundw
                  case rel => exact ⟨k + 1, _, by omega, by go_num, HN.out, by rw [HW.out]; exact drewN_twice _ _ _⟩
                  case measure => simp [intOf]; omega
            · have HIN : Hid (inR last n (0, 0) = false) := Lib.hid (by unfold inR; rw [HMA.out]; (try rw [HMB.out]); exact decide_eq_false (by omega))
              have HN := Lib.hid (any_next HA.out HTK.out HIN.out)
              go_wp2_with fail
              go_quiet (fail)
              go_wp2_with fail
              all_goals
                go_roundw
                case rel => exact ⟨k + 1, _, by omega, by go_num, HN.out, by rw [HW.out]; exact drewN_twice _ _ _⟩
                case measure => simp [intOf]; omega
          · have hy' : (y == 0) = false := by simp; exact hy
            have HMA : Hid (meantZ last 0 = last) := Lib.hid (by unfold meantZ; rw [if_pos rfl])
            have HMB : Hid (meantZ last y = y) := Lib.hid (by unfold meantZ; rw [if_neg hy])
            clear hy
            by_cases hab : last ≤ y
            · have hab' : ¬ y < last := by omega
              by_cases h1 : last ≤ n
              · by_cases h2 : n ≤ y
                · have HIN : Hid (inR last n (0, y) = true) := Lib.hid (by unfold inR; rw [HMA.out]; (try rw [HMB.out]); exact decide_eq_true (by omega))
                  have HH := Lib.hid (has_hit hn1 HLA.out HIN.out)
                  go_wp2_with fail
                  go_quiet (fail)
                  go_wp2_with fail
                  all_goals (go_ret; exact ⟨by rw [HH.out] <;> rfl, _, by rw [HW.out]; exact drewN_twice _ _ _⟩)
                · have HIN : Hid (inR last n (0, y) = false) := Lib.hid (by unfold inR; rw [HMA.out]; (try rw [HMB.out]); exact decide_eq_false (by omega))
                  have HN := Lib.hid (any_next HA.out HTK.out HIN.out)
                  go_wp2_with fail
                  go_quiet (fail)
                  go_wp2_with fail
                  all_goals
                    go_roundw
                    case rel => exact ⟨k + 1, _, by omega, by go_num, HN.out, by rw [HW.out]; exact drewN_twice _ _ _⟩
                    case measure => simp [intOf]; omega
              · have HIN : Hid (inR last n (0, y) = false) := Lib.hid (by unfold inR; rw [HMA.out]; (try rw [HMB.out]); exact decide_eq_false (by omega))
                have HN := Lib.hid (any_next HA.out HTK.out HIN.out)
                go_wp2_with fail
                go_quiet (fail)
                go_wp2_with fail
                all_goals
                  go_roundw
                  case rel => exact ⟨k + 1, _, by omega, by go_num, HN.out, by rw [HW.out]; exact drewN_twice _ _ _⟩
                  case measure => simp [intOf]; omega
            · have hab' : y < last := by omega
              by_cases h1 : y ≤ n
              · by_cases h2 : n ≤ last
                · have HIN : Hid (inR last n (0, y) = true) := Lib.hid (by unfold inR; rw [HMA.out]; (try rw [HMB.out]); exact decide_eq_true (by omega))
                  have HH := Lib.hid (has_hit hn1 HLA.out HIN.out)
                  go_wp2_with fail
                  go_quiet (fail)
                  go_wp2_with fail
                  all_goals (go_ret; exact ⟨by rw [HH.out] <;> rfl, _, by rw [HW.out]; exact drewN_twice _ _ _⟩)
                · have HIN : Hid (inR last n (0, y) = false) := Lib.hid (by unfold inR; rw [HMA.out]; (try rw [HMB.out]); exact decide_eq_false (by omega))
                  have HN := Lib.hid (any_next HA.out HTK.out HIN.out)
                  go_wp2_with fail
                  go_quiet (fail)
                  go_wp2_with fail
                  all_goals
                    go_roundw
                    case rel => exact ⟨k + 1, _, by omega, by go_num, HN.out, by rw [HW.out]; exact drewN_twice _ _ _⟩
                    case measure => simp [intOf]; omega
              · have HIN : Hid (inR last n (0, y) = false) := Lib.hid (by unfold inR; rw [HMA.out]; (try rw [HMB.out]); exact decide_eq_false (by omega))
                have HN := Lib.hid (any_next HA.out HTK.out HIN.out)
                go_wp2_with fail
                go_quiet (fail)
                go_wp2_with fail
                all_goals
                  go_roundw
                  case rel => exact ⟨k + 1, _, by omega, by go_num, HN.out, by rw [HW.out]; exact drewN_twice _ _ _⟩
                  case measure => simp [intOf]; omega
        · have hx' : (x == 0) = false := by simp; exact hx
          by_cases hy : y = 0
          · subst hy
            have HMA : Hid (meantZ last x = x) := Lib.hid (by unfold meantZ; rw [if_neg hx])
            have HMB : Hid (meantZ last 0 = last) := Lib.hid (by unfold meantZ; rw [if_pos rfl])
            clear hx
            by_cases hab : x ≤ last
            · have hab' : ¬ last < x := by omega
              by_cases h1 : x ≤ n
              · by_cases h2 : n ≤ last
                · have HIN : Hid (inR last n (x, 0) = true) := Lib.hid (by unfold inR; rw [HMA.out]; (try rw [HMB.out]); exact decide_eq_true (by omega))
                  have HH := Lib.hid (has_hit hn1 HLA.out HIN.out)
                  go_wp2_with fail
                  go_quiet (fail)
                  go_wp2_with fail
                  all_goals (go_ret; exact ⟨by rw [HH.out] <;> rfl, _, by rw [HW.out]; exact drewN_twice _ _ _⟩)
                · have HIN : Hid (inR last n (x, 0) = false) := Lib.hid (by unfold inR; rw [HMA.out]; (try rw [HMB.out]); exact decide_eq_false (by omega))
                  have HN := Lib.hid (any_next HA.out HTK.out HIN.out)
                  go_wp2_with fail
                  go_quiet (fail)
                  go_wp2_with fail
                  all_goals
                    go_roundw
                    case rel => exact ⟨k + 1, _, by omega, by go_num, HN.out, by rw [HW.out]; exact drewN_twice _ _ _⟩
                    case measure => simp [intOf]; omega
              · have HIN : Hid (inR last n (x, 0) = false) := Lib.hid (by unfold inR; rw [HMA.out]; (try rw [HMB.out]); exact decide_eq_false (by omega))
                have HN := Lib.hid (any_next HA.out HTK.out HIN.out)
                go_wp2_with fail
                go_quiet (fail)
                go_wp2_with fail
                all_goals
                  go_roundw
                  case rel => exact ⟨k + 1, _, by omega, by go_num, HN.out, by rw [HW.out]; exact drewN_twice _ _ _⟩
                  case measure => simp [intOf]; omega
            · have hab' : last < x := by omega
              by_cases h1 : last ≤ n
              · by_cases h2 : n ≤ x
                · have HIN : Hid (inR last n (x, 0) = true) := Lib.hid (by unfold inR; rw [HMA.out]; (try rw [HMB.out]); exact decide_eq_true (by omega))
                  have HH := Lib.hid (has_hit hn1 HLA.out HIN.out)
                  go_wp2_with fail
                  go_quiet (fail)
                  go_wp2_with fail
                  all_goals (go_ret; exact ⟨by rw [HH.out] <;> rfl, _, by rw [HW.out]; exact drewN_twice _ _ _⟩)
                · have HIN : Hid (inR last n (x, 0) = false) := Lib.hid (by unfold inR; rw [HMA.out]; (try rw [HMB.out]); exact decide_eq_false (by omega))
                  have HN := Lib.hid (any_next HA.out HTK.out HIN.out)
                  go_wp2_with fail
                  go_quiet (fail)
                  go_wp2_with fail
                  all_goals
                    go_roundw
                    case rel => exact ⟨k + 1, _, by omega, by go_num, HN.out, by rw [HW.out]; exact drewN_twice _ _ _⟩
                    case measure => simp [intOf]; omega
              · have HIN : Hid (inR last n (x, 0) = false) := Lib.hid (by unfold inR; rw [HMA.out]; (try rw [HMB.out]); exact decide_eq_false (by omega))
                have HN := Lib.hid (any_next HA.out HTK.out HIN.out)
                go_wp2_with fail
                go_quiet (fail)
                go_wp2_with fail
                all_goals
                  go_roundw
                  case rel => exact ⟨k + 1, _, by omega, by go_num, HN.out, by rw [HW.out]; exact drewN_twice _ _ _⟩
                  case measure => simp [intOf]; omega
          · have hy' : (y == 0) = false := by simp; exact hy
            have HMA : Hid (meantZ last x = x) := Lib.hid (by unfold meantZ; rw [if_neg hx])
            have HMB : Hid (meantZ last y = y) := Lib.hid (by unfold meantZ; rw [if_neg hy])
            clear hx hy
            by_cases hab : x ≤ y
            · have hab' : ¬ y < x := by omega
              by_cases h1 : x ≤ n
              · by_cases h2 : n ≤ y
                · have HIN : Hid (inR last n (x, y) = true) := Lib.hid (by unfold inR; rw [HMA.out]; (try rw [HMB.out]); exact decide_eq_true (by omega))
                  have HH := Lib.hid (has_hit hn1 HLA.out HIN.out)
                  go_wp2_with fail
                  go_quiet (fail)
                  go_wp2_with fail
                  all_goals (go_ret; exact ⟨by rw [HH.out] <;> rfl, _, by rw [HW.out]; exact drewN_twice _ _ _⟩)
                · have HIN : Hid (inR last n (x, y) = false) := Lib.hid (by unfold inR; rw [HMA.out]; (try rw [HMB.out]); exact decide_eq_false (by omega))
                  have HN := Lib.hid (any_next HA.out HTK.out HIN.out)
                  go_wp2_with fail
                  go_quiet (fail)
                  go_wp2_with fail
                  all_goals
                    go_roundw
                    case rel => exact ⟨k + 1, _, by omega, by go_num, HN.out, by rw [HW.out]; exact drewN_twice _ _ _⟩
                    case measure => simp [intOf]; omega
              · have HIN : Hid (inR last n (x, y) = false) := Lib.hid (by unfold inR; rw [HMA.out]; (try rw [HMB.out]); exact decide_eq_false (by omega))
                have HN := Lib.hid (any_next HA.out HTK.out HIN.out)
                go_wp2_with fail
                go_quiet (fail)
                go_wp2_with fail
                all_goals
                  go_roundw
                  case rel => exact ⟨k + 1, _, by omega, by go_num, HN.out, by rw [HW.out]; exact drewN_twice _ _ _⟩
                  case measure => simp [intOf]; omega
            · have hab' : y < x := by omega
              by_cases h1 : y ≤ n
              · by_cases h2 : n ≤ x
                · have HIN : Hid (inR last n (x, y) = true) := Lib.hid (by unfold inR; rw [HMA.out]; (try rw [HMB.out]); exact decide_eq_true (by omega))
                  have HH := Lib.hid (has_hit hn1 HLA.out HIN.out)
                  go_wp2_with fail
                  go_quiet (fail)
                  go_wp2_with fail
                  all_goals (go_ret; exact ⟨by rw [HH.out] <;> rfl, _, by rw [HW.out]; exact drewN_twice _ _ _⟩)
                · have HIN : Hid (inR last n (x, y) = false) := Lib.hid (by unfold inR; rw [HMA.out]; (try rw [HMB.out]); exact decide_eq_false (by omega))
                  have HN := Lib.hid (any_next HA.out HTK.out HIN.out)
                  go_wp2_with fail
                  go_quiet (fail)
                  go_wp2_with fail
                  all_goals
                    go_roundw
                    case rel => exact ⟨k + 1, _, by omega, by go_num, HN.out, by rw [HW.out]; exact drewN_twice _ _ _⟩
                    case measure => simp [intOf]; omega
              · have HIN : Hid (inR last n (x, y) = false) := Lib.hid (by unfold inR; rw [HMA.out]; (try rw [HMB.out]); exact decide_eq_false (by omega))
                have HN := Lib.hid (any_next HA.out HTK.out HIN.out)
                go_wp2_with fail
                go_quiet (fail)
                go_wp2_with fail
                all_goals
                  go_roundw
                  case rel => exact ⟨k + 1, _, by omega, by go_num, HN.out, by rw [HW.out]; exact drewN_twice _ _ _⟩
                  case measure => simp [intOf]; omega
      · have hkm : ¬ (k : Int) < (m : Int) := by omega
        have HN : Hid (hasZ l n last = false) := Lib.hid (has_none (by have := HA.out; rwa [List.take_of_length_le (by rw [HL.out.1]; omega)] at this))
        go_wp2_with fail
        go_ret
        exact ⟨by rw [HN.out] <;> rfl, _, HW.out⟩
  · have HN : Hid (hasZ l n last = false) := Lib.hid (has_low hn1)
    by_cases hm0 : m = 0
    · subst hm0
      go_enter Try.func27, Try.ntmps27
      go_wp2_with fail
      go_loopw [7] (fun i wx => i = .int .i64 0 ∧ wx = w) (fun i _ => 0)
      case atStart => exact ⟨rfl, rfl⟩
      case round =>
        obtain ⟨rfl, hw⟩ := hrel
        have HW := Lib.hid hw
        clear hw
        go_wp2_with fail
        go_ret
        exact ⟨by rw [HN.out] <;> rfl, 0, HW.out⟩
    · have hm1 : (0 : Int) < (m : Int) := by omega
      go_enter Try.func27, Try.ntmps27
      go_wp2_with fail
      go_loopw [7] (fun i wx => i = .int .i64 0 ∧ wx = w) (fun i _ => 0)
      case atStart => exact ⟨rfl, rfl⟩
      case round =>
        obtain ⟨rfl, hw⟩ := hrel
        have HW := Lib.hid hw
        clear hw
        go_wp2_with fail
        go_ret
        exact ⟨by rw [HN.out] <;> rfl, 0, HW.out⟩
end Go.Proofs.Ytkalnaidccgbiaa
