/-
  Contracts over package event and the document's own: equal slices; the same events.
-/
import Derived.Test.YtcajmigkpcjbcaaDoorQEventA
namespace Go.Proofs.YtcajmigkpcjbcaaDoor
set_option linter.unusedVariables false
set_option linter.unusedSimpArgs false
open Go.RowKit
set_option linter.unusedVariables false
set_option linter.unusedSimpArgs false

set_option maxRecDepth 20000 in
set_option maxHeartbeats 2000000 in
theorem evEqualRg_any (A B : Option Addr) (n c m d : Nat) (l r : List Rg) (w : World) (hl : ColK 2 rgC w w.heap.size A n l) (hr : ColK 2 rgC w w.heap.size B m r) (hn : n ≤ 140737488355328) (hm : m ≤ 140737488355328) :
    Calls Tryd.prog 34 #[.slice A n c, .slice B m d] w fun e w' => e = .returned (.bool (decide (l = r))) ∧ ∃ q, w' = w.drewN q := by
  have HL := Lib.hid hl
  have HR := Lib.hid hr
  by_cases hnm : n = m
  · subst hnm
    have hne : ((n : Int) != (n : Int)) = false := by simp
    clear hl hr
    go_enter Tryd.func34, Tryd.ntmps34
    go_wp2_with fail
    go_loopw [13] (fun i wx => ∃ k q : Nat, k ≤ n ∧ i = .int .i64 (k : Int) ∧ l.take k = r.take k ∧ wx = w.drewN q) (fun i _ => n - (intOf i).toNat)
    case atStart => exact ⟨0, 0, Nat.zero_le _, rfl, rfl, rfl⟩
    case round =>
      obtain ⟨k, q, hk, rfl, hm, hw⟩ := hrel
      have HM := Lib.hid hm
      have HW := Lib.hid hw
      clear hm hw
      by_cases hlt : k < n
      · obtain ⟨b, o, x, rfl, hbb, hla, htk, hc⟩ := HL.out.at_ hlt
        obtain ⟨b2, o2, y, rfl, hbb2, hla2, htk2, hc2⟩ := HR.out.at_ hlt
        rw [show w.rangeAt b (o + k * 2) (rgC x) = wr.rangeAt b (o + k * 2) (rgC x) by rw [HW.out]; rfl] at hc
        rw [show w.rangeAt b2 (o2 + k * 2) (rgC y) = wr.rangeAt b2 (o2 + k * 2) (rgC y) by rw [HW.out]; rfl] at hc2
        obtain ⟨x0, x1⟩ := x
        obtain ⟨y0, y1⟩ := y
        have r0 := hc 0 _ rfl
        have r1 := hc 1 _ rfl
        have s0 := hc2 0 _ rfl
        have s1 := hc2 1 _ rfl
        rw [Nat.add_zero] at r0 s0
        have hk0 : (0 : Int) ≤ (k : Int) := by omega
        have hkn : (k : Int) < (n : Int) := by omega
        have HA1 := Lib.hid hla
        have HA2 := Lib.hid hla2
        have HT1 := Lib.hid htk
        have HT2 := Lib.hid htk2
        clear hla hla2 htk htk2 hc hc2
        by_cases he : (x0, x1) = (y0, y1)
        · injection he with he1 he2
          subst he1 he2
          have kq : ∀ W, (binOp .neq 48 (.agg #[.int .i64 x0, .int .i64 x1]) (.agg #[.int .i64 x0, .int .i64 x1])).run Tryd.prog W = .ok (.bool false) W := fun W => by rw [rg_neq]; simp
          have HN : Hid (l.take (k + 1) = r.take (k + 1)) := Lib.hid (by rw [HT1.out, HT2.out, HM.out])
          go_wp2_with fail
          go_quiet (fail)
          go_wp2_with fail
          go_roundw
          case rel => exact ⟨k + 1, _, by omega, by go_num, HN.out, by rw [HW.out]; exact drewN_twice _ _ _⟩
          case measure => simp [intOf]; omega
        · have kq : ∀ W, (binOp .neq 48 (.agg #[.int .i64 x0, .int .i64 x1]) (.agg #[.int .i64 y0, .int .i64 y1])).run Tryd.prog W = .ok (.bool true) W := fun W => by rw [rg_neq, decide_eq_false he]; rfl
          have HN : Hid (decide (l = r) = false) := Lib.hid (decide_eq_false (ne_at HA1.out HA2.out he))
          clear he
          go_wp2_with fail
          go_quiet (fail)
          go_wp2_with fail
          go_ret
          exact ⟨by rw [HN.out] <;> rfl, _, by rw [HW.out]; exact drewN_twice _ _ _⟩
      · have HN : Hid (decide (l = r) = true) := Lib.hid (decide_eq_true (eq_at (HL.out.1.trans HR.out.1.symm) k HM.out (by rw [HL.out.1]; omega)))
        go_wp2_with fail
        go_ret
        exact ⟨by rw [HN.out] <;> rfl, _, HW.out⟩
  · have hne : ((n : Int) != (m : Int)) = true := by simp; omega
    have HN : Hid (decide (l = r) = false) := Lib.hid (decide_eq_false (fun e => hnm (by rw [← hl.1, ← hr.1, e])))
    clear hl hr
    go_enter Tryd.func34, Tryd.ntmps34
    go_wp2_with fail
    go_ret
    exact ⟨by rw [HN.out] <;> rfl, 0, rfl⟩
set_option maxRecDepth 20000 in
set_option maxHeartbeats 2000000 in
theorem evEqualI_any (A B : Option Addr) (n c m d : Nat) (l r : List Int) (w : World) (hl : Col ints w w.heap.size A n l) (hr : Col ints w w.heap.size B m r) (hn : n ≤ 140737488355328) (hm : m ≤ 140737488355328) :
    Calls Tryd.prog 33 #[.slice A n c, .slice B m d] w fun e w' => e = .returned (.bool (decide (l = r))) ∧ ∃ q, w' = w.drewN q := by
  have HL := Lib.hid hl
  have HR := Lib.hid hr
  by_cases hnm : n = m
  · subst hnm
    have hne : ((n : Int) != (n : Int)) = false := by simp
    clear hl hr
    go_enter Tryd.func33, Tryd.ntmps33
    go_wp2_with fail
    go_loopw [13] (fun i wx => ∃ k q : Nat, k ≤ n ∧ i = .int .i64 (k : Int) ∧ l.take k = r.take k ∧ wx = w.drewN q) (fun i _ => n - (intOf i).toNat)
    case atStart => exact ⟨0, 0, Nat.zero_le _, rfl, rfl, rfl⟩
    case round =>
      obtain ⟨k, q, hk, rfl, hm, hw⟩ := hrel
      have HM := Lib.hid hm
      have HW := Lib.hid hw
      clear hm hw
      by_cases hlt : k < n
      · obtain ⟨b, o, x, rfl, hbb, hla, htk, hc⟩ := HL.out.at_ hlt
        obtain ⟨b2, o2, y, rfl, hbb2, hla2, htk2, hc2⟩ := HR.out.at_ hlt
        rw [show w.cell? ⟨b, o + k, none⟩ = wr.cell? ⟨b, o + k, none⟩ by rw [HW.out]; rfl] at hc
        rw [show w.cell? ⟨b2, o2 + k, none⟩ = wr.cell? ⟨b2, o2 + k, none⟩ by rw [HW.out]; rfl] at hc2
        have hk0 : (0 : Int) ≤ (k : Int) := by omega
        have hkn : (k : Int) < (n : Int) := by omega
        unfold ints at hc hc2
        have HA1 := Lib.hid hla
        have HA2 := Lib.hid hla2
        have HT1 := Lib.hid htk
        have HT2 := Lib.hid htk2
        clear hla hla2 htk htk2
        by_cases he : x = y
        · subst he
          have hxy : (x != x) = false := by simp
          have HN : Hid (l.take (k + 1) = r.take (k + 1)) := Lib.hid (by rw [HT1.out, HT2.out, HM.out])
          go_wp2_with fail
          go_quiet (fail)
          go_wp2_with fail
          go_roundw
          case rel => exact ⟨k + 1, _, by omega, by go_num, HN.out, by rw [HW.out]; exact drewN_twice _ _ _⟩
          case measure => simp [intOf]; omega
        · have hxy : (x != y) = true := by simp; exact he
          have HN : Hid (decide (l = r) = false) := Lib.hid (decide_eq_false (ne_at HA1.out HA2.out he))
          go_wp2_with fail
          go_quiet (fail)
          go_wp2_with fail
          go_ret
          exact ⟨by rw [HN.out] <;> rfl, _, by rw [HW.out]; exact drewN_twice _ _ _⟩
      · have HN : Hid (decide (l = r) = true) := Lib.hid (decide_eq_true (eq_at (HL.out.1.trans HR.out.1.symm) k HM.out (by rw [HL.out.1]; omega)))
        go_wp2_with fail
        go_ret
        exact ⟨by rw [HN.out] <;> rfl, _, HW.out⟩
  · have hne : ((n : Int) != (m : Int)) = true := by simp; omega
    have HN : Hid (decide (l = r) = false) := Lib.hid (decide_eq_false (fun e => hnm (by rw [← hl.1, ← hr.1, e])))
    clear hl hr
    go_enter Tryd.func33, Tryd.ntmps33
    go_wp2_with fail
    go_ret
    exact ⟨by rw [HN.out] <;> rfl, 0, rfl⟩

theorem evbyEqual_any (A : Option Addr) (n c B : Nat) (l : List Nat) (A' : Option Addr) (n' c' B' : Nat) (l' : List Nat) (w : World) (hl : Bytes w B A n l) (hl' : Bytes w B' A' n' l') :
    Calls Tryd.prog 35 #[.slice A n c, .slice A' n' c'] w fun e w' => e = .returned (.bool (decide (l = l'))) ∧ w = w' := by
  have h1 := run_str_of_bytes (P := Tryd.prog) (c := c) hl Tryd.underlying24 Tryd.underlying5 Tryd.underlying9
  have h2 := run_str_of_bytes (P := Tryd.prog) (c := c') hl' Tryd.underlying24 Tryd.underlying5 Tryd.underlying9
  have he := strOf_eqb l l' hl.2.1 hl'.2.1
  generalize decide (l = l') = b at *
  go_enter Tryd.func35, Tryd.ntmps35
  go_wp2
  go_ret
  exact ⟨rfl, rfl⟩

theorem evx3Same_any (A : Option Addr) (n c B : Nat) (l : List Nat) (A' : Option Addr) (n' c' B' : Nat) (l' : List Nat) (w : World) (hl : Bytes w B A n l) (hl' : Bytes w B' A' n' l') :
    Calls Tryd.prog 11 #[.slice A n c, .slice A' n' c'] w fun e w' => e = .returned (.bool (decide (l = l'))) ∧ w = w' := by
  have h1 := run_str_of_bytes (P := Tryd.prog) (c := c) hl Tryd.underlying24 Tryd.underlying5 Tryd.underlying9
  have h2 := run_str_of_bytes (P := Tryd.prog) (c := c') hl' Tryd.underlying24 Tryd.underlying5 Tryd.underlying9
  have he := strOf_eqb l l' hl.2.1 hl'.2.1
  generalize decide (l = l') = b at *
  go_enter Tryd.func11, Tryd.ntmps11
  go_wp2
  go_ret
  exact ⟨rfl, rfl⟩

theorem str_eqb (a b : ByteArray) : (a.toList == b.toList) = decide (a = b) := by
  have h := strOf_one a (nats b) (nats_lt b)
  rw [strOf_nats] at h
  rw [h]
  exact decide_eq_decide.2 ⟨fun e => by rw [← strOf_nats a, e, strOf_nats], fun e => by rw [e]⟩
theorem str_ne {a b : ByteArray} (h : ¬ a = b) : (a.toList == b.toList) = false := by rw [str_eqb]; exact decide_eq_false h
theorem int_neE {a b : Int} (h : ¬ a = b) : (a == b) = false := by simpa using h
def SameIs (h g : Eh) (w : World) (e : Ending) (w' : World) : Prop := e = .returned (.bool (evEq h.e g.e)) ∧ Below w.heap.size w w'

theorem calls_overE {P : Program} {f : FuncId} {vs : Array Value} {W : World} {Q : Ending → World → Prop} (G : World → Prop) (hG : G W) (h : ∀ W', G W' → Calls P f vs W' Q) : Calls P f vs W Q := h W hG
theorem Bk.drewNE {w : World} {b : Nat} {t : TypeId} {cs : Array Value} (h : Bk w b t cs) (q : Nat) : Bk (w.drewN q) b t cs := h
end Go.Proofs.YtcajmigkpcjbcaaDoor
