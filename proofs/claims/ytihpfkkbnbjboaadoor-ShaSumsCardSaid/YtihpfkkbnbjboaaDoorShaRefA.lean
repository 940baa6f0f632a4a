/-
  Contracts over the document's own answer for layer 4: products of 64 bits, prime numbers, the roots' bits.
-/
import Derived.Test.YtihpfkkbnbjboaaDoorProg
import Derived.Test.YtihpfkkbnbjboaaDoorBytes
import Derived.Test.YtihpfkkbnbjboaaDoorShaMath
import Derived.Laws.Externs
import Derived.Shelf.Bits.Mul64
namespace Go.Proofs.YtihpfkkbnbjboaaDoor
set_option linter.unusedVariables false
set_option linter.unusedSimpArgs false
open Go.RowKit

set_option maxHeartbeats 1000000 in
theorem mul64_any (x y : Nat) (w : World) (hx : x < 18446744073709551616) (hy : y < 18446744073709551616) :
    Calls Tryd.prog 37 #[.int .u64 (x : Int), .int .u64 (y : Int)] w fun e w' => e = .returned (.tuple #[.int .u64 ((x * y / 18446744073709551616 : Nat) : Int), .int .u64 ((x * y % 18446744073709551616 : Nat) : Int)]) ∧ w = w' := by
  obtain ⟨b1, b2, b3, hhi⟩ := Lib.mul64_hi x y hx hy
  have q1 := Lib.half_mul_le (a := x / 4294967296) (b := y / 4294967296) (by omega) (by omega)
  have q2 := Lib.half_mul_le (a := x / 4294967296) (b := y % 4294967296) (by omega) (by omega)
  have q3 := Lib.half_mul_le (a := x % 4294967296) (b := y / 4294967296) (by omega) (by omega)
  go_enter Tryd.func37, Tryd.ntmps37
  go_wp2
  simp only [Mul64.maskN x hx, Mul64.maskN y hy, Mul64.divN, Mul64.mulN, Mul64.addN]
  generalize x / 4294967296 * (y / 4294967296) = A at *
  generalize x / 4294967296 * (y % 4294967296) = B at *
  generalize x % 4294967296 * (y / 4294967296) = C at *
  generalize x % 4294967296 * (y % 4294967296) = D at *
  have hA : A < 18446744073709551616 := by omega
  have hB : B < 18446744073709551616 := by omega
  have hC : C < 18446744073709551616 := by omega
  have h1 : A + (B + D / 4294967296) / 4294967296 < 18446744073709551616 := by omega
  have h2 : A + (B + D / 4294967296) / 4294967296 + ((B + D / 4294967296) % 4294967296 + C) / 4294967296 < 18446744073709551616 := by omega
  simp only [Mul64.wrapN A hA, Mul64.wrapN B hB, Mul64.wrapN C hC, Mul64.wrapN D b1, Mul64.divN, Mul64.addN, Mul64.wrapN _ b2, Mul64.maskN _ b2, Mul64.wrapN _ b3, Mul64.wrapN _ h1, Mul64.wrapN _ h2, Mul64.wrapM (x * y)]
  rw [hhi]
  go_ret2
  exact ⟨rfl, rfl⟩

theorem run_add64_here (x y : Nat) (w : World) (h : x + y < 18446744073709551616) :
    (callFunc 39 #[.int .u64 (x : Int), .int .u64 (y : Int), .int .u64 0]).run Tryd.prog w = .ok (.value (.tuple #[.int .u64 ((x + y : Nat) : Int), .int .u64 0])) w := by
  rw [run_callFunc_extern Tryd.func39 (by kernel_rfl) (by kernel_rfl) (by kernel_rfl) (e := add64Entry) (by kernel_rfl), run_add64 _ _ 0 (by omega) (by omega) (by omega) (by omega)]
  simp only [Result.andThen]
  rw [show ((x : Int) + (y : Int) + 0) % 18446744073709551616 = ((x + y : Nat) : Int) by omega, show ((x : Int) + (y : Int) + 0) / 18446744073709551616 = 0 by omega]

/-- is a number prime? enough for numbers up to 400 -/
def noDiv (n : Nat) : Bool := (List.range 23).all fun j => decide (j < 2) || decide (n < j * j) || decide (n % j ≠ 0)
def primeB (n : Nat) : Bool := noDiv n && decide (2 ≤ n)
theorem noDiv_of {n d : Nat} (hn : n ≤ 400) (hd : n < d * d) (h : ∀ j, 2 ≤ j → j < d → j * j ≤ n → n % j ≠ 0) : noDiv n = true := by
  unfold noDiv
  rw [List.all_eq_true]
  intro j _
  by_cases h2 : j < 2
  · simp [h2]
  · by_cases h3 : n < j * j
    · simp [h3]
    · have : n % j ≠ 0 := by
        refine h j (by omega) ?_ (by omega)
        rcases Nat.lt_or_ge j d with h' | h'
        · exact h'
        · exact absurd (Nat.mul_le_mul h' h') (by omega)
      simp [this]
theorem noDiv_no {n d : Nat} (h2 : 2 ≤ d) (hd : d < 23) (h : d * d ≤ n) (h0 : n % d = 0) : noDiv n = false := by
  unfold noDiv
  rw [List.all_eq_false]
  exact ⟨d, List.mem_range.2 hd, by simp [h0]; omega⟩
theorem sq_le (d n : Nat) (hn : n ≤ 400) (h : d * d ≤ n) : d < 21 := by
  rcases Nat.lt_or_ge d 21 with h' | h'
  · exact h'
  · have := Nat.mul_le_mul h' h'; omega
theorem prime_ret {v : Value} {b c : Bool} (h : c = b) (hv : v = .bool b) : Ending.returned v = .returned (.bool c) := by rw [h, hv]

set_option maxHeartbeats 1000000 in
theorem prime_any (n : Nat) (w : World) (hn : n ≤ 400) (h2n : 2 ≤ n) : Calls Tryd.prog 36 #[.int .u64 (n : Int)] w fun e w' => e = .returned (.bool (noDiv n)) ∧ w = w' := by
  go_enter Tryd.func36, Tryd.ntmps36
  go_wp2
  go_loop [3] (fun t => ∃ d : Nat, 2 ≤ d ∧ d ≤ 21 ∧ t = .int .u64 (d : Int) ∧ ∀ j, 2 ≤ j → j < d → j * j ≤ n → n % j ≠ 0) (fun t => 30 - (intOf t).toNat)
  case atStart => exact ⟨2, by omega, by omega, rfl, fun j h1 h2 => by omega⟩
  case round =>
    obtain ⟨d, hd, hd2, rfl, hj⟩ := hrel
    have HJ := hide hj
    clear hj
    have hdd : d * d ≤ 441 := Nat.mul_le_mul hd2 hd2
    by_cases hle : d * d ≤ n
    · have hlt := sq_le d n hn hle
      by_cases h0 : n % d = 0
      · have HN := hide (noDiv_no hd (by omega) hle h0)
        have hm : (d : Int) * (d : Int) = ((d * d : Nat) : Int) := (Int.natCast_mul d d).symm
        generalize d * d = q at *
        have hz : (((n % d : Nat) : Int) == 0) = true := by rw [h0]; rfl
        have HZ := hide h0
        clear h0
        go_wp2
        go_ret
        exact ⟨prime_ret HN.out rfl, rfl⟩
      · have hm : (d : Int) * (d : Int) = ((d * d : Nat) : Int) := (Int.natCast_mul d d).symm
        have HS : Hid (∀ j, 2 ≤ j → j < d + 1 → j * j ≤ n → n % j ≠ 0) := hide (fun j h2 h3 h4 => by
          rcases Nat.lt_or_ge j d with h' | h'
          · exact HJ.out j h2 h' h4
          · obtain rfl : j = d := by omega
            exact h0)
        generalize d * d = q at *
        have hz : (((n % d : Nat) : Int) == 0) = false := by simp; omega
        have HZ := hide h0
        clear h0
        go_wp2
        go_round
        case rel => exact ⟨d + 1, by omega, by omega, by go_num, HS.out⟩
        case measure => simp [intOf]; omega
    · have HN := hide (noDiv_of hn (by omega) HJ.out)
      have hm : (d : Int) * (d : Int) = ((d * d : Nat) : Int) := (Int.natCast_mul d d).symm
      generalize d * d = q at *
      have hd2' : decide ((2 : Int) ≤ (n : Int)) = true := by simp; omega
      go_wp2
      go_ret
      exact ⟨prime_ret HN.out rfl, rfl⟩

/-- the roots' bits, the highest first -/
def sqN (p : Nat) : Nat → Nat
  | 0 => 0
  | m + 1 => if (sqN p m + 2 ^ (36 - m)) * (sqN p m + 2 ^ (36 - m)) ≤ p * 18446744073709551616 then sqN p m + 2 ^ (36 - m) else sqN p m
theorem sqN_succ (p m : Nat) : sqN p (m + 1) = if (sqN p m + 2 ^ (36 - m)) * (sqN p m + 2 ^ (36 - m)) ≤ p * 18446744073709551616 then sqN p m + 2 ^ (36 - m) else sqN p m := rfl
def cuN (p : Nat) : Nat → Nat
  | 0 => 0
  | m + 1 => if (cuN p m + 2 ^ (36 - m)) * (cuN p m + 2 ^ (36 - m)) * (cuN p m + 2 ^ (36 - m)) ≤ p * 79228162514264337593543950336 then cuN p m + 2 ^ (36 - m) else cuN p m
theorem cuN_succ (p m : Nat) : cuN p (m + 1) = if (cuN p m + 2 ^ (36 - m)) * (cuN p m + 2 ^ (36 - m)) * (cuN p m + 2 ^ (36 - m)) ≤ p * 79228162514264337593543950336 then cuN p m + 2 ^ (36 - m) else cuN p m := rfl
theorem sqN_le (p : Nat) : ∀ m, m ≤ 37 → sqN p m + 2 ^ (37 - m) ≤ 2 ^ 37
  | 0, _ => by simp [sqN]
  | m + 1, h => by
    have h1 := sqN_le p m (by omega)
    have e : 2 ^ (37 - m) = 2 ^ (36 - m) * 2 := by rw [← Nat.pow_succ]; congr 1; omega
    have e2 : 37 - (m + 1) = 36 - m := by omega
    rw [sqN_succ, e2]
    split <;> omega
theorem cuN_le (p : Nat) : ∀ m, m ≤ 37 → cuN p m + 2 ^ (37 - m) ≤ 2 ^ 37
  | 0, _ => by simp [cuN]
  | m + 1, h => by
    have h1 := cuN_le p m (by omega)
    have e : 2 ^ (37 - m) = 2 ^ (36 - m) * 2 := by rw [← Nat.pow_succ]; congr 1; omega
    have e2 : 37 - (m + 1) = 36 - m := by omega
    rw [cuN_succ, e2]
    split <;> omega
theorem sqs : [2, 3, 5, 7, 11, 13, 17, 19].map (fun p => sqN p 37 % 4294967296) = firstL := by decide +kernel
def primesL (p : Nat) : List Nat := (List.range p).filter primeB
theorem cus : (primesL 312).map (fun p => cuN p 37 % 4294967296) = kL := by decide +kernel
attribute [irreducible] sqN cuN primesL
end Go.Proofs.YtihpfkkbnbjboaaDoor
