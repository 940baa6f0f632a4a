/-
  Contracts over package uids and the document's own: what is in a range, in a set; equal sets; rising numbers; numbers picked.
-/
import Derived.Test.YtcajmigkpcjbcaaDoorQUidsA
import Derived.Laws.StructEq
import Derived.Deep.QuietTactic
namespace Go.Proofs.YtcajmigkpcjbcaaDoor
set_option linter.unusedVariables false
set_option linter.unusedSimpArgs false
open Go.RowKit
set_option linter.unusedVariables false
set_option linter.unusedSimpArgs false

theorem rg_fields : Tryd.prog.fieldsOf 48 = #[{ name := "From", type := 3, offset := 0, embedded := false, tag := "", pkgPath := "", byteOffset := 0 }, { name := "To", type := 3, offset := 1, embedded := false, tag := "", pkgPath := "", byteOffset := 8 }] := by kernel_rfl
theorem rg_neq (W : World) (x y u v : Int) : (binOp .neq 48 (.agg #[.int .i64 x, .int .i64 y]) (.agg #[.int .i64 u, .int .i64 v])).run Tryd.prog W = .ok (.bool (!decide ((x, y) = (u, v)))) W := by
  have h1 : Tryd.prog.underlying 48 = some (.struct (Tryd.prog.fieldsOf 48)) := by rw [rg_fields]; exact Tryd.underlying48
  have h2 : Tryd.prog.stoodInHeld 48 = false := by kernel_rfl
  simp [binOp, Op.equal, Op.maxDepth, run_equalIn_agg W 9999 48 _ _ h1 h2, rg_fields]
  have p0 : ∀ (a b : Int), (part 3 #[Value.int IntKind.i64 a, Value.int IntKind.i64 b] 0).run Tryd.prog W = .ok (.int .i64 a) W := fun a b => by simp [part, isAgg, Sem.run_bind, run_underlying Tryd.underlying3]
  have p1 : ∀ (a b : Int), (part 3 #[Value.int IntKind.i64 a, Value.int IntKind.i64 b] 1).run Tryd.prog W = .ok (.int .i64 b) W := fun a b => by simp [part, isAgg, Sem.run_bind, run_underlying Tryd.underlying3]
  have q : ∀ a b, (Op.equalIn 9999 3 (.int .i64 a) (.int .i64 b)).run Tryd.prog W = .ok (a == b) W := fun a b => run_equalIn_int W 9998 3 .i64 .i64 a b Tryd.underlying3
  simp [Op.eqFields, p0, p1, q, Sem.run_bind]
  by_cases h1 : x = u <;> by_cases h2 : y = v <;> simp [h1, h2]

theorem has_hit {l : List Rg} {n last : Int} {k : Nat} {r : Rg} (hn : 1 ≤ n) (hr : l[k]? = some r) (h : inR last n r = true) : hasZ l n last = true := by
  unfold hasZ
  rw [decide_eq_true hn, List.any_eq_true.2 ⟨r, List.mem_of_getElem? hr, h⟩]; rfl
theorem any_next {l : List Rg} {last n : Int} {k : Nat} {r : Rg} (h : (l.take k).any (inR last n) = false) (ht : l.take (k + 1) = l.take k ++ [r]) (hr : inR last n r = false) : (l.take (k + 1)).any (inR last n) = false := by
  rw [ht, any_snoc, h, hr]; rfl
theorem has_none {l : List Rg} {n last : Int} (h : l.any (inR last n) = false) : hasZ l n last = false := by unfold hasZ; rw [h, Bool.and_false]
theorem has_low {l : List Rg} {n last : Int} (h : ¬ 1 ≤ n) : hasZ l n last = false := by unfold hasZ; rw [decide_eq_false h]; rfl

end Go.Proofs.YtcajmigkpcjbcaaDoor

/-
  Contracts over the document's own sets: equal sets; rising numbers.
-/
namespace Go.Proofs.YtcajmigkpcjbcaaDoor
set_option linter.unusedVariables false
set_option linter.unusedSimpArgs false
open Go.RowKit
set_option linter.unusedVariables false
set_option linter.unusedSimpArgs false

set_option maxRecDepth 20000 in
set_option maxHeartbeats 2000000 in
theorem x9Same_any (A B : Option Addr) (n c m d : Nat) (l r : List Rg) (w : World) (hl : ColK 2 rgC w w.heap.size A n l) (hr : ColK 2 rgC w w.heap.size B m r) (hn : n ≤ 140737488355328) (hm : m ≤ 140737488355328) :
    Calls Tryd.prog 37 #[.slice A n c, .slice B m d] w fun e w' => e = .returned (.bool (decide (l = r))) ∧ ∃ q, w' = w.drewN q := by
  have HL := Lib.hid hl
  have HR := Lib.hid hr
  by_cases hnm : n = m
  · subst hnm
    have hne : ((n : Int) != (n : Int)) = false := by simp
    clear hl hr
    go_enter Tryd.func37, Tryd.ntmps37
    go_wp2_with fail
    go_loopw [5] (fun i wx => ∃ k q : Nat, k ≤ n ∧ i = .int .i64 (k : Int) ∧ l.take k = r.take k ∧ wx = w.drewN q) (fun i _ => n - (intOf i).toNat)
    case atStart => exact ⟨0, 0, Nat.zero_le _, rfl, rfl, rfl⟩
    case round =>
      obtain ⟨k, q, hk, rfl, hm, hw⟩ := hrel
      have HM := Lib.hid hm
      have HW := Lib.hid hw
      clear hm hw
      by_cases hlt : k < n
      · obtain ⟨b, o, x, rfl, hbb, hla, htk, hc⟩ := HL.out.at_ hlt
        obtain ⟨b2, o2, y, rfl, hbb2, hla2, htk2, hc2⟩ := HR.out.at_ hlt
        rw [show w.rangeAt b (o + k * 2) (rgC x) = wr.rangeAt b (o + k * 2) (rgC x) by rw [HW.out]; rfl] at hc
        rw [show w.rangeAt b2 (o2 + k * 2) (rgC y) = wr.rangeAt b2 (o2 + k * 2) (rgC y) by rw [HW.out]; rfl] at hc2
        obtain ⟨x0, x1⟩ := x
        obtain ⟨y0, y1⟩ := y
        have r0 := hc 0 _ rfl
        have r1 := hc 1 _ rfl
        have s0 := hc2 0 _ rfl
        have s1 := hc2 1 _ rfl
        rw [Nat.add_zero] at r0 s0
        have hk0 : (0 : Int) ≤ (k : Int) := by omega
        have hkn : (k : Int) < (n : Int) := by omega
        have HA1 := Lib.hid hla
        have HA2 := Lib.hid hla2
        have HT1 := Lib.hid htk
        have HT2 := Lib.hid htk2
        clear hla hla2 htk htk2 hc hc2
        by_cases he : (x0, x1) = (y0, y1)
        · injection he with he1 he2
          subst he1 he2
          have kq : ∀ W, (binOp .neq 48 (.agg #[.int .i64 x0, .int .i64 x1]) (.agg #[.int .i64 x0, .int .i64 x1])).run Tryd.prog W = .ok (.bool false) W := fun W => by rw [rg_neq]; simp
          have HN : Hid (l.take (k + 1) = r.take (k + 1)) := Lib.hid (by rw [HT1.out, HT2.out, HM.out])
          go_wp2_with fail
          go_quiet (fail)
          go_wp2_with fail
          go_roundw
          case rel => exact ⟨k + 1, _, by omega, by go_num, HN.out, by rw [HW.out]; exact drewN_twice _ _ _⟩
          case measure => simp [intOf]; omega
        · have kq : ∀ W, (binOp .neq 48 (.agg #[.int .i64 x0, .int .i64 x1]) (.agg #[.int .i64 y0, .int .i64 y1])).run Tryd.prog W = .ok (.bool true) W := fun W => by rw [rg_neq, decide_eq_false he]; rfl
          have HN : Hid (decide (l = r) = false) := Lib.hid (decide_eq_false (ne_at HA1.out HA2.out he))
          clear he
          go_wp2_with fail
          go_quiet (fail)
          go_wp2_with fail
          go_ret
          exact ⟨by rw [HN.out] <;> rfl, _, by rw [HW.out]; exact drewN_twice _ _ _⟩
      · have HN : Hid (decide (l = r) = true) := Lib.hid (decide_eq_true (eq_at (HL.out.1.trans HR.out.1.symm) k HM.out (by rw [HL.out.1]; omega)))
        go_wp2_with fail
        go_ret
        exact ⟨by rw [HN.out] <;> rfl, _, HW.out⟩
  · have hne : ((n : Int) != (m : Int)) = true := by simp; omega
    have HN : Hid (decide (l = r) = false) := Lib.hid (decide_eq_false (fun e => hnm (by rw [← hl.1, ← hr.1, e])))
    clear hl hr
    go_enter Tryd.func37, Tryd.ntmps37
    go_wp2_with fail
    go_ret
    exact ⟨by rw [HN.out] <;> rfl, 0, rfl⟩

theorem getD_of {l : List Int} {k : Nat} {x : Int} (h : l[k]? = some x) : l.getD k 0 = x := by rw [List.getD_eq_getElem?_getD, h]; rfl
theorem riseAt_lo {l : List Int} {k : Nat} {x : Int} (h : l[k]? = some x) (hx : x < 1) : riseAt l k = false := decide_eq_false fun e => by rw [getD_of h] at e; omega
theorem riseAt_hi {l : List Int} {k : Nat} {x : Int} (h : l[k]? = some x) (hx : 4294967295 < x) : riseAt l k = false := decide_eq_false fun e => by rw [getD_of h] at e; omega
theorem riseAt_0 {l : List Int} {x : Int} (h : l[0]? = some x) (h1 : 1 ≤ x) (h2 : x ≤ 4294967295) : riseAt l 0 = true := decide_eq_true ⟨by rw [getD_of h]; exact h1, by rw [getD_of h]; exact h2, .inl rfl⟩
theorem riseAt_s {l : List Int} {j : Nat} {x y : Int} (h : l[j + 1]? = some x) (hy : l[j]? = some y) (h1 : 1 ≤ x) (h2 : x ≤ 4294967295) (h3 : y < x) : riseAt l (j + 1) = true :=
  decide_eq_true ⟨by rw [getD_of h]; exact h1, by rw [getD_of h]; exact h2, .inr (by rw [getD_of h, Nat.add_sub_cancel, getD_of hy]; exact h3)⟩
theorem riseAt_no {l : List Int} {j : Nat} {x y : Int} (h : l[j + 1]? = some x) (hy : l[j]? = some y) (h3 : x ≤ y) : riseAt l (j + 1) = false := decide_eq_false fun e => by
  rw [getD_of h, Nat.add_sub_cancel, getD_of hy] at e
  rcases e.2.2 with e | e <;> omega
def riseUp (l : List Int) (k : Nat) : Prop := ∀ i, i < k → riseAt l i = true
theorem riseUp_next {l : List Int} {k : Nat} (h : riseUp l k) (hk : riseAt l k = true) : riseUp l (k + 1) := fun i hi => by
  by_cases e : i = k
  · rw [e]; exact hk
  · exact h i (by omega)
theorem riseUp_all {l : List Int} {k : Nat} (h : riseUp l k) (hk : l.length ≤ k) : riseB l = true := decide_eq_true fun i hi => h i (by omega)

set_option maxRecDepth 20000 in
set_option maxHeartbeats 4000000 in
theorem x9Rising_any (A : Option Addr) (n c : Nat) (l : List Int) (w : World) (hl : Col ints w w.heap.size A n l) (hn : n ≤ 140737488355328) :
    Calls Tryd.prog 29 #[.slice A n c] w fun e w' => e = .returned (.bool (riseB l)) ∧ ∃ q, w' = w.drewN q := by
  have HL := Lib.hid hl
  clear hl
  go_enter Tryd.func29, Tryd.ntmps29
  go_wp2_with fail
  go_loopw [3] (fun i wx => ∃ k q : Nat, k ≤ n ∧ i = .int .i64 (k : Int) ∧ riseUp l k ∧ wx = w.drewN q) (fun i _ => n - (intOf i).toNat)
  case atStart => exact ⟨0, 0, Nat.zero_le _, rfl, fun i hi => by omega, rfl⟩
  case round =>
    obtain ⟨k, q, hk, rfl, hm, hw⟩ := hrel
    have HM := Lib.hid hm
    have HW := Lib.hid hw
    clear hm hw
    by_cases hlt : k < n
    · obtain ⟨b, o, x, rfl, hbb, hla, htk, hc⟩ := HL.out.at_ hlt
      rw [show w.cell? ⟨b, o + k, none⟩ = wr.cell? ⟨b, o + k, none⟩ by rw [HW.out]; rfl] at hc
      have hk0 : (0 : Int) ≤ (k : Int) := by omega
      have hkn : (k : Int) < (n : Int) := by omega
      unfold ints at hc
      have HLA := Lib.hid hla
      clear hla htk
      by_cases hx1 : x < 1
      · have hd1 : decide (x < 1) = true := decide_eq_true hx1
        have HN := Lib.hid (riseB_stop (l := l) (k := k) (by rw [HL.out.1]; exact hlt) (riseAt_lo HLA.out hx1))
        go_wp2_with fail
        go_quiet (fail)
        go_wp2_with fail
        go_ret
        exact ⟨by rw [HN.out] <;> rfl, _, by rw [HW.out]; exact drewN_twice _ _ _⟩
      · have hd1 : decide (x < 1) = false := decide_eq_false hx1
        by_cases hx2 : 4294967295 < x
        · have hd2 : decide (4294967295 < x) = true := decide_eq_true hx2
          have HN := Lib.hid (riseB_stop (l := l) (k := k) (by rw [HL.out.1]; exact hlt) (riseAt_hi HLA.out hx2))
          go_wp2_with fail
          go_quiet (fail)
          go_wp2_with fail
          go_ret
          exact ⟨by rw [HN.out] <;> rfl, _, by rw [HW.out]; exact drewN_twice _ _ _⟩
        · have hd2 : decide (4294967295 < x) = false := decide_eq_false hx2
          rcases Nat.eq_zero_or_pos k with hkz | hkp
          · subst hkz
            have HN := Lib.hid (riseUp_next HM.out (riseAt_0 HLA.out (by omega) (by omega)))
            rw [Nat.add_zero] at hc
            go_wp2_with fail
            go_quiet (fail)
            go_wp2_with fail
            go_roundw
            case rel => exact ⟨1, _, by omega, rfl, HN.out, by rw [HW.out]; exact drewN_twice _ _ _⟩
            case measure => simp [intOf]; omega
          · obtain ⟨j, rfl⟩ : ∃ j, k = j + 1 := ⟨k - 1, by omega⟩
            obtain ⟨b', o', y, e, hbb', hla', _, hc'⟩ := HL.out.at_ (show j < n by omega)
            injection e with e
            injection e with e1 e2
            subst e1 e2
            rw [show w.cell? ⟨b, o + j, none⟩ = wr.cell? ⟨b, o + j, none⟩ by rw [HW.out]; rfl] at hc'
            unfold ints at hc'
            have hd3 : decide ((0 : Int) < (j : Int) + 1) = true := decide_eq_true (by omega)
            have hj0 : (0 : Int) ≤ (j : Int) := by omega
            have hjn : (j : Int) < (n : Int) := by omega
            have hwj : IntKind.i64.wrap (j : Int) = (j : Int) := IntWalk.i64_in _ (by omega)
            have HLY := Lib.hid hla'
            clear hla'
            by_cases hyx : y < x
            · have hd4 : decide (x ≤ y) = false := decide_eq_false (by omega)
              have HN := Lib.hid (riseUp_next HM.out (riseAt_s HLA.out HLY.out (by omega) (by omega) hyx))
              go_wp2_with fail
              go_quiet (fail)
              go_wp2_with fail
              go_roundw
              case rel => exact ⟨j + 1 + 1, _, by omega, by go_num, HN.out, by rw [HW.out]; exact drewN_twice _ _ _⟩
              case measure => simp [intOf]; omega
            · have hd4 : decide (x ≤ y) = true := decide_eq_true (by omega)
              have HN := Lib.hid (riseB_stop (l := l) (k := j + 1) (by rw [HL.out.1]; exact hlt) (riseAt_no HLA.out HLY.out (by omega)))
              go_wp2_with fail
              go_quiet (fail)
              go_wp2_with fail
              go_ret
              exact ⟨by rw [HN.out] <;> rfl, _, by rw [HW.out]; exact drewN_twice _ _ _⟩
    · have HN := Lib.hid (riseUp_all HM.out (by rw [HL.out.1]; omega))
      go_wp2_with fail
      go_ret
      exact ⟨by rw [HN.out] <;> rfl, _, HW.out⟩
end Go.Proofs.YtcajmigkpcjbcaaDoor
