/-
  Contracts over package sha: rotating and mixing of words; the block's words.
-/
import Derived.Test.YtihpfkkbnbjboaaDoorProg
import Derived.Test.YtihpfkkbnbjboaaDoorWide
import Derived.Test.YtihpfkkbnbjboaaDoorShaMath
namespace Go.Proofs.YtihpfkkbnbjboaaDoor
set_option linter.unusedVariables false
set_option linter.unusedSimpArgs false
open Go.RowKit

theorem rot_and (n : Nat) (hn : 0 < n) (hn2 : n < 32) : bits .and .u64 (IntKind.u64.wrap (-(n : Int))) 31 = ((32 - n : Nat) : Int) := by
  have e : IntKind.u64.wrap (-(n : Int)) = ((18446744073709551616 - n : Nat) : Int) := by rw [IntKind.wrap_u64]; omega
  rw [e]
  have := u64_and_nat (18446744073709551616 - n) 31 (by omega) (by omega)
  rw [nat_mask5] at this
  rw [show (31 : Int) = ((31 : Nat) : Int) from rfl, this]
  congr 1
  omega
theorem u32_rot {x n : Nat} (hx : x < 4294967296) (hn : n ≤ 32) : bits .or .u32 ((x : Int) * 2 ^ (32 - n) % 4294967296) ((x : Int) / 2 ^ n) = ((rotN x n : Nat) : Int) := by
  have e1 : ((x * 2 ^ (32 - n) % 4294967296 : Nat) : Int) = (x : Int) * 2 ^ (32 - n) % 4294967296 := by rw [Int.natCast_emod, Int.natCast_mul, Int.natCast_pow]; rfl
  have e2 : ((x / 2 ^ n : Nat) : Int) = (x : Int) / 2 ^ n := by rw [Int.natCast_ediv, Int.natCast_pow]; rfl
  rw [← rotN_or hx hn, ← u32_or_nat _ _ (Nat.mod_lt _ (by omega)) (Nat.lt_of_le_of_lt (Nat.div_le_self _ _) hx), e1, e2]
set_option maxHeartbeats 400000 in
theorem rotl_any (x n : Nat) (w : World) (hx : x < 4294967296) (hn : 0 < n) (hn2 : n < 32) : Calls Tryd.prog 40 #[.int .u32 (x : Int), .int .i64 (-(n : Int))] w fun e w' => e = .returned (.int .u32 ((rotN x n : Nat) : Int)) ∧ w = w' := by
  have ha := rot_and n hn hn2
  have HR := hide (u32_rot hx (show n ≤ 32 by omega))
  obtain ⟨m, hm⟩ : ∃ m, m = 32 - n := ⟨_, rfl⟩
  rw [← hm] at ha HR
  have hm1 : 0 < m := by omega
  have hm2 : m < 32 := by omega
  have HM := hide (show 32 - m = n by omega)
  clear hm
  go_enter Tryd.func40, Tryd.ntmps40
  go_wp2
  go_ret
  exact ⟨ret_int (by rw [HM.out]; exact HR.out), rfl⟩
set_option maxHeartbeats 400000 in
theorem rotated_any (x n : Nat) (w : World) (hx : x < 4294967296) (hn : 0 < n) (hn2 : n < 32) : Calls Tryd.prog 35 #[.int .u32 (x : Int), .int .i64 (n : Int)] w fun e w' => e = .returned (.int .u32 ((rotN x n : Nat) : Int)) ∧ w = w' := by
  go_enter Tryd.func35, Tryd.ntmps35
  go_wp2_with fail
  refine (rotl_any x n _ hx hn hn2).mono ?_
  rintro e w' ⟨rfl, rfl⟩
  go_wp2
  go_ret
  exact ⟨rfl, rfl⟩
set_option maxHeartbeats 400000 in
theorem great0_any (x : Nat) (w : World) (hx : x < 4294967296) : Calls Tryd.prog 26 #[.int .u32 (x : Int)] w fun e w' => e = .returned (.int .u32 ((g0N x : Nat) : Int)) ∧ w = w' := by
  have h1 := rotN_lt (n := 2) hx (by omega)
  have h2 := rotN_lt (n := 13) hx (by omega)
  have h3 := rotN_lt (n := 22) hx (by omega)
  have e1 := u32_xor_nat _ _ h1 h2
  have e2 := u32_xor_nat _ _ (xor_lt h1 h2) h3
  go_enter Tryd.func26, Tryd.ntmps26
  go_wp2_with fail
  refine (rotated_any x 2 _ hx (by omega) (by omega)).mono ?_
  rintro e w' ⟨rfl, rfl⟩
  go_wp2_with fail
  refine (rotated_any x 13 _ hx (by omega) (by omega)).mono ?_
  rintro e w' ⟨rfl, rfl⟩
  go_wp2_with fail
  refine (rotated_any x 22 _ hx (by omega) (by omega)).mono ?_
  rintro e w' ⟨rfl, rfl⟩
  go_wp2
  go_ret
  exact ⟨rfl, rfl⟩
set_option maxHeartbeats 400000 in
theorem great1_any (x : Nat) (w : World) (hx : x < 4294967296) : Calls Tryd.prog 25 #[.int .u32 (x : Int)] w fun e w' => e = .returned (.int .u32 ((g1N x : Nat) : Int)) ∧ w = w' := by
  have h1 := rotN_lt (n := 6) hx (by omega)
  have h2 := rotN_lt (n := 11) hx (by omega)
  have h3 := rotN_lt (n := 25) hx (by omega)
  have e1 := u32_xor_nat _ _ h1 h2
  have e2 := u32_xor_nat _ _ (xor_lt h1 h2) h3
  go_enter Tryd.func25, Tryd.ntmps25
  go_wp2_with fail
  refine (rotated_any x 6 _ hx (by omega) (by omega)).mono ?_
  rintro e w' ⟨rfl, rfl⟩
  go_wp2_with fail
  refine (rotated_any x 11 _ hx (by omega) (by omega)).mono ?_
  rintro e w' ⟨rfl, rfl⟩
  go_wp2_with fail
  refine (rotated_any x 25 _ hx (by omega) (by omega)).mono ?_
  rintro e w' ⟨rfl, rfl⟩
  go_wp2
  go_ret
  exact ⟨rfl, rfl⟩
set_option maxHeartbeats 400000 in
theorem small0_any (x : Nat) (w : World) (hx : x < 4294967296) : Calls Tryd.prog 34 #[.int .u32 (x : Int)] w fun e w' => e = .returned (.int .u32 ((s0N x : Nat) : Int)) ∧ w = w' := by
  have h1 := rotN_lt (n := 7) hx (by omega)
  have h2 := rotN_lt (n := 18) hx (by omega)
  have e1 := u32_xor_nat _ _ h1 h2
  have e2 := hide (u32_xor_nat (rotN x 7 ^^^ rotN x 18) (x / 8) (xor_lt h1 h2) (by omega))
  go_enter Tryd.func34, Tryd.ntmps34
  go_wp2_with fail
  refine (rotated_any x 7 _ hx (by omega) (by omega)).mono ?_
  rintro e w' ⟨rfl, rfl⟩
  go_wp2_with fail
  refine (rotated_any x 18 _ hx (by omega) (by omega)).mono ?_
  rintro e w' ⟨rfl, rfl⟩
  go_wp2
  go_ret
  exact ⟨ret_int e2.out, rfl⟩
set_option maxHeartbeats 400000 in
theorem small1_any (x : Nat) (w : World) (hx : x < 4294967296) : Calls Tryd.prog 33 #[.int .u32 (x : Int)] w fun e w' => e = .returned (.int .u32 ((s1N x : Nat) : Int)) ∧ w = w' := by
  have h1 := rotN_lt (n := 17) hx (by omega)
  have h2 := rotN_lt (n := 19) hx (by omega)
  have e1 := u32_xor_nat _ _ h1 h2
  have e2 := hide (u32_xor_nat (rotN x 17 ^^^ rotN x 19) (x / 1024) (xor_lt h1 h2) (by omega))
  go_enter Tryd.func33, Tryd.ntmps33
  go_wp2_with fail
  refine (rotated_any x 17 _ hx (by omega) (by omega)).mono ?_
  rintro e w' ⟨rfl, rfl⟩
  go_wp2_with fail
  refine (rotated_any x 19 _ hx (by omega) (by omega)).mono ?_
  rintro e w' ⟨rfl, rfl⟩
  go_wp2
  go_ret
  exact ⟨ret_int e2.out, rfl⟩
end Go.Proofs.YtihpfkkbnbjboaaDoor
