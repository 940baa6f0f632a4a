/-
  Contracts over package sum: half a byte, the sum behind a sum; and of the document's own answer.
-/
import Derived.Test.YthkmdemkdlbdnaaDoorProg
import Derived.Test.YthkmdemkdlbdnaaDoorBytes
import Derived.Test.YthkmdemkdlbdnaaDoorSumMath
import Derived.Laws.BitsAllLaws
namespace Go.Proofs.YthkmdemkdlbdnaaDoor
open Go.RowKit

/-- the table of half a byte lies as the text lays it -/
def Tab (w : World) : Prop := ∀ r, r < 16 → w.cell? ⟨0, r, none⟩ = some (.int .u32 ((tabC r : Nat) : Int))

set_option maxHeartbeats 400000 in
theorem half_any (s : Nat) (w : World) (hs : s < 4294967296) (ht : Tab w) : Calls Tryd.prog 13 #[.int .u32 (s : Int)] w fun e w' => e = .returned (.int .u32 ((stepN 4 s : Nat) : Int)) ∧ w = w' := by
  have hc := ht (s % 16) (by omega)
  have hand : bits .and .u32 (s : Int) 15 = ((s % 16 : Nat) : Int) := by
    have := u32_and_nat s 15 hs (by omega)
    rw [nat_mask4] at this
    exact this
  go_enter Tryd.func13, Tryd.ntmps13
  go_wp2
  go_ret
  refine ⟨ret_int ?_, rfl⟩
  rw [show ((s : Int) / 16) = ((s / 16 : Nat) : Int) from rfl, half4, ← u32_xor_nat _ _ (by omega) (show tabC (s % 16) < 4294967296 from stepN_lt 4 (by omega))]

def word (l : List Nat) : Prop := ∀ x ∈ l, x < 256
theorem runC_snoc (s : Nat) (l : List Nat) (b : Nat) : runC s (l ++ [b]) = stepN 8 (runC s l ^^^ b) := by rw [runC_append]; rfl

theorem runC_take (s : Nat) (l : List Nat) (k : Nat) (h : k < l.length) : stepN 4 (stepN 4 (runC s (l.take k) ^^^ byteAt l k)) = runC s (l.take (k + 1)) := by
  rw [take_snoc' l k h, runC_snoc, ← step8_half]
theorem runC_take_lt {s : Nat} {l : List Nat} (hs : s < 4294967296) (hl : ∀ x ∈ l, x < 256) (k : Nat) : runC s (l.take k) < 4294967296 :=
  runC_lt _ hs (fun x hx => hl x (List.mem_of_mem_take hx))

theorem u32_ones (s : Nat) (hs : s < 4294967296) : bits .xor .u32 IntKind.u32.max (s : Int) = ((s ^^^ onesC : Nat) : Int) := by
  have := u32_xor_nat 4294967295 s (by omega) hs
  rw [Nat.xor_comm] at this
  exact this

set_option maxHeartbeats 400000 in
theorem more_any (s : Nat) (A : Option Addr) (n c B : Nat) (l : List Nat) (w : World) (hs : s < 4294967296) (hl : Bytes w B A n l) (hn : n ≤ maxLen) (ht : Tab w) :
    Calls Tryd.prog 10 #[.int .u32 (s : Int), .slice A n c] w fun e w' => e = .returned (.int .u32 ((moreC s l : Nat) : Int)) ∧ w = w' := by
  have hu := u32_ones s hs
  have hs' : s ^^^ onesC < 4294967296 := Nat.xor_lt_two_pow (n := 32) hs ones_lt
  generalize hx : s ^^^ onesC = x at hu hs'
  have HX := hide hx
  clear hx
  unfold maxLen at hn
  go_enter Tryd.func10, Tryd.ntmps10
  go_wp2
  go_loop [5, 12] (fun t i => ∃ k : Nat, k ≤ n ∧ i = .int .i64 k ∧ t = .int .u32 ((runC x (l.take k) : Nat) : Int)) (fun _ i => n - (intOf i).toNat)
  case atStart => exact ⟨0, Nat.zero_le _, rfl, rfl⟩
  case round =>
    obtain ⟨k, hk, rfl, rfl⟩ := hrel
    have hr := runC_take_lt hs' hl.2.1 k
    have hb := hl.lt k
    by_cases hlt : k < n
    · obtain ⟨b, o, rfl, _, hc⟩ := hl.at_ hlt
      have hxr := u32_xor_nat (runC x (l.take k)) (byteAt l k) hr (by omega)
      have HR := hide (runC_take x l k (by rw [hl.1]; exact hlt))
      have hy : runC x (l.take k) ^^^ byteAt l k < 4294967296 := byte_lt hr hb
      generalize runC x (l.take k) ^^^ byteAt l k = y at hxr HR hy
      have hbi : (byteAt l k : Int) < 256 := by omega
      have hy4 := stepN_lt 4 hy
      go_wp2_with fail
      refine (half_any y _ hy ht).mono ?_
      rintro e w' ⟨rfl, rfl⟩
      go_wp2_with fail
      refine (half_any _ _ hy4 ht).mono ?_
      rintro e w' ⟨rfl, rfl⟩
      go_wp2
      go_round
      case rel => exact ⟨k + 1, by omega, by go_num, by rw [HR.out]⟩
      case measure => simp [intOf]; omega
    · have hu2 := u32_ones (runC x (l.take k)) hr
      have HK := hide (show l.take k = l from List.take_of_length_le (by rw [hl.1]; omega))
      go_wp2
      go_ret
      exact ⟨ret_int (by rw [HK.out, ← HX.out]; rfl), rfl⟩

theorem u32_poly (z : Nat) (hz : z < 4294967296) : bits .xor .u32 (z : Int) 3988292384 = ((z ^^^ polyC : Nat) : Int) := u32_xor_nat z 3988292384 hz (by omega)

set_option maxRecDepth 20000 in
set_option maxHeartbeats 400000 in
theorem rmore_any (s : Nat) (A : Option Addr) (n c B : Nat) (l : List Nat) (w : World) (hs : s < 4294967296) (hl : Bytes w B A n l) (hn : n ≤ maxLen) :
    Calls Tryd.prog 11 #[.int .u32 (s : Int), .slice A n c] w fun e w' => e = .returned (.int .u32 ((moreC s l : Nat) : Int)) ∧ w = w' := by
  have hu := u32_ones s hs
  have hs' : s ^^^ onesC < 4294967296 := Nat.xor_lt_two_pow (n := 32) hs ones_lt
  generalize hx : s ^^^ onesC = x at hu hs'
  have HX := hide hx
  clear hx
  unfold maxLen at hn
  go_enter Tryd.func11, Tryd.ntmps11
  go_wp2
  go_loop [5, 6] (fun t i => ∃ k : Nat, k ≤ n ∧ i = .int .i64 k ∧ t = .int .u32 ((runC x (l.take k) : Nat) : Int)) (fun _ i => n - (intOf i).toNat)
  case atStart => exact ⟨0, Nat.zero_le _, rfl, rfl⟩
  case round =>
    obtain ⟨k, hk, rfl, rfl⟩ := hrel
    have hr := runC_take_lt hs' hl.2.1 k
    have hb := hl.lt k
    by_cases hlt : k < n
    · obtain ⟨b, o, rfl, _, hc⟩ := hl.at_ hlt
      have hxr := u32_xor_nat (runC x (l.take k)) (byteAt l k) hr (by omega)
      have HR := hide (runC_take x l k (by rw [hl.1]; exact hlt))
      have hy : runC x (l.take k) ^^^ byteAt l k < 4294967296 := byte_lt hr hb
      generalize runC x (l.take k) ^^^ byteAt l k = y at hxr HR hy
      have hbi : (byteAt l k : Int) < 256 := by omega
      go_wp2
      go_loop [5, 7] (fun t j => ∃ m : Nat, m ≤ 8 ∧ j = .int .i64 m ∧ t = .int .u32 ((stepN m y : Nat) : Int)) (fun _ j => 8 - (intOf j).toNat)
      case atStart => exact ⟨0, Nat.zero_le _, rfl, rfl⟩
      case round =>
        obtain ⟨m, hm, rfl, rfl⟩ := hrel
        have hq := stepN_lt m hy
        have HS := hide (stepN_add m 1 y)
        by_cases hlt8 : m < 8
        · have hand : bits .and .u32 (stepN m y : Int) 1 = ((stepN m y % 2 : Nat) : Int) := by
            have := u32_and_nat (stepN m y) 1 hq (by omega)
            rw [nat_mask1] at this
            exact this
          have HX2 := hide (u32_poly (stepN m y / 2) (by omega))
          by_cases hodd : stepN m y % 2 = 1
          · have H1 := hide (show step1 (stepN m y) = (stepN m y / 2) ^^^ polyC from if_pos hodd)
            generalize stepN m y = z at *
            have hzb : (((z % 2 : Nat) : Int) == 1) = true := by simp; omega
            clear hodd
            go_wp2
            go_round
            case rel => exact ⟨m + 1, by omega, by go_num, by rw [HS.out]; exact congrArg _ (by rw [show stepN 1 z = step1 z from rfl, H1.out]; exact HX2.out)⟩
            case measure => simp [intOf]; omega
          · have H1 := hide (show step1 (stepN m y) = stepN m y / 2 from if_neg hodd)
            generalize stepN m y = z at *
            have hzb : (((z % 2 : Nat) : Int) == 1) = false := by simp; omega
            clear hodd
            go_wp2
            go_round
            case rel => exact ⟨m + 1, by omega, by go_num, by rw [HS.out]; exact congrArg _ (by rw [show stepN 1 z = step1 z from rfl, H1.out]; rfl)⟩
            case measure => simp [intOf]; omega
        · obtain rfl : m = 8 := by omega
          go_wp2
          go_round
          case rel => exact ⟨k + 1, by omega, by go_num, by rw [← HR.out, ← step8_half]⟩
          case measure => simp [intOf]; omega
    · have hu2 := u32_ones (runC x (l.take k)) hr
      have HK := hide (show l.take k = l from List.take_of_length_le (by rw [hl.1]; omega))
      go_wp2
      go_ret
      exact ⟨ret_int (by rw [HK.out, ← HX.out]; rfl), rfl⟩
end Go.Proofs.YthkmdemkdlbdnaaDoor
