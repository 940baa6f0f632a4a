/-
  Contracts over the document's own dates: digits, a time is printed.
-/
import Derived.Test.YtnhafpgeinghnaaDoorDateRefB
import Derived.Test.YtnhafpgeinghnaaDoorDateNum
namespace Go.Proofs.YtnhafpgeinghnaaDoor
open Go.RowKit
set_option linter.unusedVariables false
set_option linter.unusedSimpArgs false

def digL : Nat → Nat → List Nat
  | _, 0 => []
  | n, k + 1 => digL (n / 10) k ++ [48 + n % 10]
theorem digL_len (n k : Nat) : (digL n k).length = k := by
  induction k generalizing n with
  | zero => rfl
  | succ k ih => unfold digL; rw [List.length_append, ih]; rfl
theorem digL_1 {n : Nat} (h : n < 10) : digL n 1 = [48 + n] := by
  show [] ++ [48 + n % 10] = _
  rw [Nat.mod_eq_of_lt h]; rfl
theorem digL_2 {n : Nat} (h : n < 100) : digL n 2 = dig2 n := by
  show ([] ++ [48 + n / 10 % 10]) ++ [48 + n % 10] = [48 + n / 10, 48 + n % 10]
  rw [Nat.mod_eq_of_lt (show n / 10 < 10 by omega)]; rfl
theorem digL_4 {n : Nat} (h : n < 10000) : digL n 4 = dig4 n := by
  show ((([] ++ [48 + n / 10 / 10 / 10 % 10]) ++ [48 + n / 10 / 10 % 10]) ++ [48 + n / 10 % 10]) ++ [48 + n % 10] = [48 + n / 1000, 48 + n / 100 % 10, 48 + n / 10 % 10, 48 + n % 10]
  rw [show n / 10 / 10 / 10 % 10 = n / 1000 by omega, show n / 10 / 10 % 10 = n / 100 % 10 by omega]; rfl
def tenT : ByteArray := ⟨#[48, 49, 50, 51, 52, 53, 54, 55, 56, 57]⟩
theorem ten_at (d : Nat) (hd : d < 10) : tenT.extract d (d + 1) = strOf [48 + d] := by
  rcases (by omega : d = 0 ∨ d = 1 ∨ d = 2 ∨ d = 3 ∨ d = 4 ∨ d = 5 ∨ d = 6 ∨ d = 7 ∨ d = 8 ∨ d = 9) with rfl | rfl | rfl | rfl | rfl | rfl | rfl | rfl | rfl | rfl <;> decide +kernel

set_option maxRecDepth 20000 in
set_option maxHeartbeats 2000000 in
theorem digits_any : ∀ (k n : Nat), k ≤ 9 → n < 1000000000 → ∀ w : World, Calls Tryd.prog 39 #[.int .i64 (n : Int), .int .i64 (k : Int)] w fun e w' => e = .returned (.string (strOf (digL n k))) ∧ ∃ q, w' = w.drewN q := by
  intro k
  induction k with
  | zero =>
    intro n _ _ w
    go_enter Tryd.func39, Tryd.ntmps39
    go_wp2_with fail
    go_ret
    exact ⟨rfl, 0, rfl⟩
  | succ k ih =>
    intro n hk hn w
    have hlen := digL_len (n / 10) k
    have cq := fun j => ih (n / 10) (by omega) (by omega) (w.drewN j)
    have hx := ten_at (n % 10) (by omega)
    have ka := fun W => add_str (strOf (digL (n / 10) k)) ((⟨#[48, 49, 50, 51, 52, 53, 54, 55, 56, 57]⟩ : ByteArray).extract (n % 10) (n % 10 + 1)) (digL (n / 10) k) [48 + n % 10] rfl hx (by simp; omega) W
    have HD : Hid (digL n (k + 1) = digL (n / 10) k ++ [48 + n % 10]) := Lib.hid rfl
    obtain ⟨dl, hdl⟩ : ∃ l, digL (n / 10) k = l := ⟨_, rfl⟩
    rw [hdl] at cq ka HD
    obtain ⟨a, ha⟩ : ∃ a, n / 10 = a := ⟨_, rfl⟩
    obtain ⟨b, hb⟩ : ∃ b, n % 10 = b := ⟨_, rfl⟩
    rw [ha] at cq
    rw [hb] at ka HD
    have e1 : (n : Int) / 10 = (a : Int) := by omega
    have e2 : (n : Int) % 10 = (b : Int) := by omega
    have e3 : (n : Int).tmod 10 = (b : Int) := by rw [Int.tmod_eq_emod_of_nonneg (by omega)]; omega
    have hb10 : b < 10 := by omega
    have hz : ((k : Int) + 1 == 0) = false := by simp; omega
    have hwb : IntKind.i64.wrap ((b : Int) + 1) = (b : Int) + 1 := IntWalk.i64_in _ (by omega)
    have hwk : IntKind.i64.wrap (k : Int) = (k : Int) := IntWalk.i64_in _ (by omega)
    have hwa : IntKind.i64.wrap (a : Int) = (a : Int) := IntWalk.i64_in _ (by omega)
    have hwb0 : IntKind.i64.wrap (b : Int) = (b : Int) := IntWalk.i64_in _ (by omega)
    have hbt : ((b : Int) + 1).toNat = b + 1 := by omega
    have hb1 : (b : Int) ≤ (b : Int) + 1 := by omega
    have hb2 : (b : Int) + 1 ≤ 10 := by omega
    clear ih hlen hx hdl ha hb
    go_enter Tryd.func39, Tryd.ntmps39
    go_wp2_with fail
    go_quiet ((go_at_call 39; with_reducible exact Calls.quiet_of (cq _)))
    go_wp2_with fail
    go_ret
    exact ⟨by rw [HD.out] <;> rfl, _, rfl⟩
end Go.Proofs.YtnhafpgeinghnaaDoor
