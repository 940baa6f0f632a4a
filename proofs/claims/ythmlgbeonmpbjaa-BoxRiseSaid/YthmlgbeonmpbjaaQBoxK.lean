/-
  Contracts over escheatref11 and escheatlaw11: is a mailbox greater than is looked at; the fixed fact.
-/
import Derived.Test.YthmlgbeonmpbjaaQBoxHr
import Derived.Test.YthmlgbeonmpbjaaQBoxJr
namespace Go.Proofs.Ythmlgbeonmpbjaa
set_option linter.unusedVariables false
set_option linter.unusedSimpArgs false
open Go.RowKit
set_option linter.unusedVariables false
set_option linter.unusedSimpArgs false

theorem great_yes {nm : ByteArray} {v nx : Int} {l : List Mg} {n k t : Nat} (hl : l.length = n) (ht : t = n + sizeN (l.take k)) (h : 5000 < t) : greatX ⟨nm, v, nx, l⟩ = true := decide_eq_true (by
  have := sizeN_take l k
  show 5000 < l.length + sizeN l
  omega)
theorem great_end {nm : ByteArray} {v nx : Int} {l : List Mg} {n k t : Nat} (hl : l.length = n) (ht : t = n + sizeN (l.take k)) (hk : ¬ k < n) : greatX ⟨nm, v, nx, l⟩ = decide (5000 < t) := by
  rw [List.take_of_length_le (by omega)] at ht
  show decide (5000 < l.length + sizeN l) = _
  rw [ht, hl]
theorem great_next {l : List Mg} {n k t : Nat} {a : Mg} (ht : t = n + sizeN (l.take k)) (hk : l.take (k + 1) = l.take k ++ [a]) : t + a.body.length = n + sizeN (l.take (k + 1)) := by
  rw [hk, sizeN_snoc]; omega
set_option maxRecDepth 20000 in
set_option maxHeartbeats 4000000 in
theorem great11_any (nm : ByteArray) (v nx : Int) (A : Option Addr) (n c : Nat) (l : List Mg) (w : World) (hl : MsgsIn w w.heap.size A n l) (hn : n ≤ 140737488355328) :
    Calls Try.prog 10 #[.agg #[.string nm, .int .i64 v, .int .i64 nx, .slice A n c]] w (SaysB (greatX ⟨nm, v, nx, l⟩) w) := by
  have h1 : Bk (w.alloc (.cells #[.string nm, .int .i64 v, .int .i64 nx, .slice A n c] 24)) w.heap.size 24 #[.string nm, .int .i64 v, .int .i64 nx, .slice A n c] := Bk.new _ _ _
  have hB : Below w.heap.size w (w.alloc (.cells #[.string nm, .int .i64 v, .int .i64 nx, .slice A n c] 24)) := (Below.refl _ _).alloc (Nat.le_refl _) _
  have HL := Lib.hid (hl.below hB (Nat.le_refl _))
  have c3 := h1.cell 3
  have HB := Lib.hid hB
  clear h1 hB hl
  go_enter Try.func10, Try.ntmps10
  go_wp2_with fail
  generalize w.alloc (.cells #[.string nm, .int .i64 v, .int .i64 nx, .slice A n c] 24) = w1 at *
  go_loop [3, 4] (fun s i => ∃ k t : Nat, k ≤ n ∧ i = .int .i64 (k : Int) ∧ s = .int .i64 (t : Int) ∧ t ≤ 140737488360000 + 140737488355328 ∧ t = n + sizeN (l.take k)) (fun _ i => n - (intOf i).toNat)
  case atStart => exact ⟨0, n, Nat.zero_le _, rfl, rfl, by omega, by simp [sizeN]⟩
  case round =>
    obtain ⟨k, t, hk, rfl, rfl, htl, ht⟩ := hrel
    have HT := Lib.hid ht
    clear ht
    by_cases hlt : k < n
    · have hk0 : (0 : Int) ≤ (k : Int) := by omega
      have hkn : (k : Int) < (n : Int) := by omega
      by_cases h5 : t ≤ 5000
      · have h5' : (t : Int) ≤ 5000 := by omega
        obtain ⟨b, o, x, rfl, hbb, hla, htk, hrow, hin⟩ := HL.out.at_ hlt
        have r3 := (row4 hrow).2.2.2
        obtain ⟨⟨u, f, d, bl⟩, xA, xn, xc⟩ := x
        replace r3 : w1.cell? ⟨b, o + k * 4 + 3, none⟩ = some (.slice xA xn xc) := r3
        have hxn : xn ≤ 140737488355328 := hin.2
        have hbl : bl.length = xn := hin.1.1
        have HN : Hid (t + xn = n + sizeN (l.take (k + 1))) := Lib.hid (by have := great_next HT.out htk; rw [show (⟨u, f, d, bl⟩ : Mg).body.length = xn from hbl] at this; exact this)
        clear hla htk hrow hin hbl
        go_wp2_with fail
        go_round
        case rel => exact ⟨k + 1, t + xn, by omega, by go_num, by go_num, by omega, HN.out⟩
        case measure => simp [intOf]; omega
      · have h5' : decide ((t : Int) ≤ 5000) = false := decide_eq_false (by omega)
        have h6 : (5000 : Int) < (t : Int) := by omega
        have HR := Lib.hid (great_yes (nm := nm) (v := v) (nx := nx) HL.out.len HT.out (by omega))
        go_wp2_with fail
        go_ret
        exact ⟨by rw [HR.out] <;> rfl, HB.out⟩
    · have hkn : ¬ (k : Int) < (n : Int) := by omega
      have HR := Lib.hid (great_end (nm := nm) (v := v) (nx := nx) HL.out.len HT.out hlt)
      by_cases h6 : 5000 < t
      · have h6' : (5000 : Int) < (t : Int) := by omega
        go_wp2_with fail
        go_ret
        exact ⟨by rw [HR.out, decide_eq_true h6] <;> rfl, HB.out⟩
      · have h6' : decide ((5000 : Int) < (t : Int)) = false := decide_eq_false (by omega)
        go_wp2_with fail
        go_ret
        exact ⟨by rw [HR.out, decide_eq_false h6] <;> rfl, HB.out⟩

/-! ### The fixed fact -/
def al0 : Bx := ⟨⟨#[97]⟩, 1, 5, []⟩
def al1 : Bx := ⟨⟨#[97]⟩, 1, 6, [⟨5, 0, 0, [120]⟩]⟩
def al2 : Bx := ⟨⟨#[97]⟩, 1, 7, [⟨5, 0, 0, [120]⟩, ⟨6, 1, 0, []⟩]⟩
theorem al_ok0 : OkBx al0 := by unfold al0 OkBx OkTo; simp
theorem al_ok1 : OkBx al1 := by unfold al1 OkBx OkTo; simp; decide
theorem al_ok2 : OkBx al2 := by unfold al2 OkBx OkTo; simp; decide
theorem al_add1 : addE al0 ⟨0, 0, 0, [120]⟩ = 0 ∧ addB al0 ⟨0, 0, 0, [120]⟩ = al1 ∧ addN al0 ⟨0, 0, 0, [120]⟩ = 5 := by
  have h : addE al0 ⟨0, 0, 0, [120]⟩ = 0 := addE_ok al_ok0 (by decide) (by unfold al0; decide) (by unfold al0; decide)
  exact ⟨h, (addB_ok h).1, (addB_ok h).2⟩
theorem al_add2 : addE al1 ⟨0, 1, 0, []⟩ = 0 ∧ addB al1 ⟨0, 1, 0, []⟩ = al2 ∧ addN al1 ⟨0, 1, 0, []⟩ = 6 := by
  have h : addE al1 ⟨0, 1, 0, []⟩ = 0 := addE_ok al_ok1 (by decide) (by unfold al1; decide) (by unfold al1; decide)
  exact ⟨h, (addB_ok h).1, (addB_ok h).2⟩
theorem al_take : tkE al2 [5] = 0 ∧ tkB al2 [5] = ⟨⟨#[97]⟩, 1, 7, [⟨6, 1, 0, []⟩]⟩ ∧ tkM al2 [5] = [⟨5, 0, 0, [120]⟩] := by
  have h : tkE al2 [5] = 0 := tkE_ok al_ok2 (by decide)
  refine ⟨h, ?_, ?_⟩
  · rw [(tkB_ok h).1]; rfl
  · rw [(tkB_ok h).2]; rfl
end Go.Proofs.Ythmlgbeonmpbjaa
