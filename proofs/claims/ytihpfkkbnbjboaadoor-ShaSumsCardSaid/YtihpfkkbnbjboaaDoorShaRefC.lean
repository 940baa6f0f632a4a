/-
  Contracts over the document's own answer for layer 4: the first prime numbers, the first eight words, the constants.
-/
import Derived.Test.YtihpfkkbnbjboaaDoorShaRefB
import Derived.Test.YtihpfkkbnbjboaaDoorShaWalksC
import Derived.Test.YtihpfkkbnbjboaaDoorOwnV
namespace Go.Proofs.YtihpfkkbnbjboaaDoor
set_option linter.unusedVariables false
set_option linter.unusedSimpArgs false
open Go.RowKit

theorem info_u64 : (Tryd.prog.info? 47).map (fun i => (i.zero, i.size, i.bytes)) = some (some (.int .u64 0), 1, 8) := by kernel_rfl
/-- numbers of 64 bits as cells -/
def lv (x : Nat) : Value := .int .u64 (x : Int)
theorem primesL_succ (p : Nat) : primesL (p + 1) = primesL p ++ if primeB p then [p] else [] := by
  unfold primesL
  rw [List.range_succ, List.filter_append]
  congr 1
  cases h : primeB p <;> simp [h]
theorem primesL_pre {p q : Nat} (h : p ≤ q) : primesL p <+: primesL q := by
  induction q with
  | zero => obtain rfl : p = 0 := by omega
            exact List.prefix_refl _
  | succ q ih =>
    by_cases e : p = q + 1
    · subst e; exact List.prefix_refl _
    · exact (ih (by omega)).trans (by rw [primesL_succ]; exact List.prefix_append _ _)
theorem primes_len : (primesL 312).length = 64 := by decide +kernel
theorem primes_lt {p n : Nat} (hn : n ≤ 64) (hp : p ≤ 312) (h : (primesL p).length < n) : p < 312 := by
  rcases Nat.lt_or_ge p 312 with h' | h'
  · exact h'
  · obtain rfl : p = 312 := by omega
    rw [primes_len] at h
    omega
theorem primes_take {p : Nat} (hp : p ≤ 312) : primesL p = (primesL 312).take (primesL p).length := (List.prefix_iff_eq_take.1 (primesL_pre hp))

set_option maxRecDepth 20000 in
set_option maxHeartbeats 1000000 in
theorem primes_any (n : Nat) (w : World) (hn : n ≤ 64) :
    Calls Tryd.prog 27 #[.int .i64 (n : Int)] w fun e w' => ∃ A c, e = .returned (.slice A n c) ∧ OwnV w' w.heap.size 47 A n c (((primesL 312).take n).map lv) ∧ Below w.heap.size w w' := by
  go_enter Tryd.func27, Tryd.ntmps27
  go_wp2
  go_loopw [3, 4] (fun s t wr => ∃ (p k : Nat) (A : Option Addr) (c : Nat), 2 ≤ p ∧ p ≤ 312 ∧ k ≤ n ∧ (primesL p).length = k ∧ t = .int .u64 (p : Int) ∧ s = .slice A k c ∧ OwnV wr w.heap.size 47 A k c ((primesL p).map lv) ∧ Below w.heap.size w wr) (fun _ t _ => 320 - (intOf t).toNat)
  case atStart => exact ⟨2, 0, none, 0, by omega, by omega, by omega, by decide +kernel, rfl, rfl, by rw [show primesL 2 = [] by decide +kernel]; exact OwnV.nil, Below.refl _ _⟩
  case round =>
    obtain ⟨p, k, A, c, hp2, hp, hkn, hk, rfl, rfl, ho, hb⟩ := hrel
    have HK := hide hk
    by_cases hlt : k < n
    · have hp3 := primes_lt hn hp (by rw [hk]; exact hlt)
      have HS := hide (primesL_succ p)
      clear hk
      cases hpb : noDiv p with
      | true =>
        have HPB : Hid (primesL (p + 1) = primesL p ++ [p]) := hide (by rw [HS.out]; unfold primeB; rw [hpb]; simp [hp2])
        have HC := prime_any p wr (by omega) hp2
        rw [hpb] at HC
        clear HS hpb
        go_wp2_with fail
        refine HC.mono ?_
        rintro e w' ⟨rfl, rfl⟩
        go_wp2_with ((with_reducible show wpList _ _ _ (⟨some 16, _, _, _, _, _⟩ :: _) _ _); refine hold ?_)
        refine held (wpList_append_one rfl (.tmp 13) (.tmp 15) 50 rfl Tryd.underlying50 info_u64 rfl (by omega) w.heap.size A k c _ rfl (ho.alloc _) wr.heap.size 0 (lv p) rfl (by rw [cell_of_row _ _ _ _ _ _ (heap_alloc_new wr _)]; rfl) rfl (by omega) (by have := hb.size; simp; omega) ?_)
        intro A3 c3 w3 ho3 hb3
        have hb4 := (hb.alloc hb.size _).trans hb3
        go_wp2
        go_roundw
        case rel => exact ⟨p + 1, k + 1, A3, c3, by omega, by omega, by omega, by rw [HPB.out, List.length_append, HK.out]; rfl, by go_num, rfl, by rw [HPB.out, List.map_append]; exact ho3, hb4⟩
        case measure => simp [intOf]; omega
      | false =>
        have HPB : Hid (primesL (p + 1) = primesL p) := hide (by rw [HS.out]; unfold primeB; rw [hpb]; simp)
        have HC := prime_any p wr (by omega) hp2
        rw [hpb] at HC
        clear HS hpb
        go_wp2_with fail
        refine HC.mono ?_
        rintro e w' ⟨rfl, rfl⟩
        go_wp2
        go_roundw
        case rel => exact ⟨p + 1, k, A, c, by omega, by omega, by omega, by rw [HPB.out, HK.out], by go_num, rfl, by rw [HPB.out]; exact ho, hb⟩
        case measure => simp [intOf]; omega
    · obtain rfl : k = n := by omega
      have HT := hide (primes_take hp)
      clear hk
      go_wp2
      go_ret
      exact ⟨A, c, rfl, by rw [HT.out, HK.out] at ho; exact ho, hb⟩
end Go.Proofs.YtihpfkkbnbjboaaDoor
