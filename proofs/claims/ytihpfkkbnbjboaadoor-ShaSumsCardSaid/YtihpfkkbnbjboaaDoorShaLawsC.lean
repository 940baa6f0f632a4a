/-
  The law ShaPads as a walk.
-/
import Derived.Test.YtihpfkkbnbjboaaDoorShaLawsA
namespace Go.Proofs.YtihpfkkbnbjboaaDoor
set_option linter.unusedVariables false
set_option linter.unusedSimpArgs false
open Go.RowKit

theorem byteAt_app1 {a b : List Nat} {i : Nat} (h : i < a.length) : byteAt (a ++ b) i = byteAt a i := by
  unfold byteAt
  simp [List.getElem?_append_left h]
theorem byteAt_app2 {a b : List Nat} {i : Nat} (h : a.length ≤ i) : byteAt (a ++ b) i = byteAt b (i - a.length) := by
  unfold byteAt
  simp [List.getElem?_append_right h]
theorem pad_one (l : List Nat) : byteAt (padN l) l.length = 128 := by
  unfold padN
  rw [List.append_assoc, byteAt_app2 (Nat.le_refl _), Nat.sub_self]
  rfl
theorem pad_zero (l : List Nat) {i : Nat} (h1 : l.length + 1 ≤ i) (h2 : i < l.length + 1 + zerosN l.length) : byteAt (padN l) i = 0 := by
  unfold padN
  rw [List.append_assoc, byteAt_app2 (by omega)]
  obtain ⟨j, hj⟩ : ∃ j, i - l.length = j + 1 := ⟨i - l.length - 1, by omega⟩
  rw [hj]
  show byteAt (128 :: (List.replicate (zerosN l.length) 0 ++ encB 8 (8 * l.length))) (j + 1) = 0
  have e : byteAt (128 :: (List.replicate (zerosN l.length) 0 ++ encB 8 (8 * l.length))) (j + 1) = byteAt (List.replicate (zerosN l.length) 0 ++ encB 8 (8 * l.length)) j := rfl
  rw [e, byteAt_app1 (by rw [List.length_replicate]; omega)]
  unfold byteAt
  rw [List.getD_eq_getElem?_getD, List.getElem?_replicate, if_pos (by omega)]
  rfl
theorem pad_tail (l : List Nat) (j : Nat) : byteAt (padN l) (l.length + 1 + zerosN l.length + j) = byteAt (encB 8 (8 * l.length)) j := by
  unfold padN
  rw [byteAt_app2 (by simp; omega)]
  congr 1
  simp
  omega
theorem pad_head (l : List Nat) : (padN l).take l.length = l := by
  unfold padN
  rw [List.append_assoc, List.take_left]
theorem tail_step {v j : Nat} (hj : j < 8) : decB ((encB 8 v).take (j + 1)) = decB ((encB 8 v).take j) * 256 + byteAt (encB 8 v) j := by
  rw [take_snoc' _ j (by rw [encB_length]; exact hj), decB_snoc]
theorem tail_le {v : Nat} (hv : v < 256 ^ 8) (j : Nat) : decB ((encB 8 v).take j) ≤ v := by
  have h := decB_append ((encB 8 v).take j) ((encB 8 v).drop j)
  rw [List.take_append_drop, decB_encB 8 v hv] at h
  exact Nat.le_trans (Nat.le_mul_of_pos_right _ (Nat.pow_pos (by omega))) h

set_option maxRecDepth 20000 in
set_option maxHeartbeats 2000000 in
theorem shaPads_walk (A : Option Addr) (n c : Nat) (l : List Nat) (w : World) (hl : Bytes w w.heap.size A n l) (hn : n ≤ 140737488355328) (ht : Tabs w) :
    Calls Tryd.prog 7 #[.slice A n c] w fun e w' => e = .returned (.bool true) ∧ Below w.heap.size w w' := by
  go_enter Tryd.func7, Tryd.ntmps7
  go_wp2_with fail
  refine (alive04_any w ht).mono ?_
  rintro e w1 ⟨rfl, hb1⟩
  have hl1 := hl.later hb1
  clear hl ht
  by_cases h5 : 2000 < n
  · have h5i : (2000 : Int) < (n : Int) := by omega
    go_wp2
    go_ret
    exact ⟨rfl, hb1⟩
  · have h5i : ¬ (2000 : Int) < (n : Int) := by omega
    have HB1 := hide hb1
    have HLn := hide hl1.1
    clear hb1
    go_wp2_with fail
    refine (pad_any A n c _ l w1 hl1 (Nat.le_refl _) (by omega)).mono ?_
    rintro e w2 ⟨Ap, cp, rfl, ho, hb2⟩
    have HB2 := hide (HB1.out.trans (hb2.mono HB1.out.size))
    clear hb2 HB1 hl1
    have hz : zerosN n = (119 - n % 64) % 64 := rfl
    have hz64 := zerosN_lt n
    have hmod64 : (n + 9 + zerosN n) % 64 = 0 := by omega
    have hone := pad_one l
    have hzero := fun i => pad_zero l (i := i)
    have htail := pad_tail l
    rw [HLn.out] at hone hzero htail
    obtain ⟨g, rfl, hg, hgl, _, hc⟩ := ho.cells (by omega)
    have hcap := ho.cap
    obtain ⟨np, hnp⟩ : ∃ np, np = n + 9 + zerosN n := ⟨_, rfl⟩
    have hnz : zerosN n = np - (n + 9) := by omega
    have hn9 : n + 9 ≤ np := by omega
    have hn72 : np ≤ n + 72 := by omega
    rw [← hnp] at hc hmod64 hcap ⊢
    rw [hnz] at hzero htail
    have HC := hide hc
    have HZ := hide hzero
    have HT := hide htail
    have c128 := hc n (by omega)
    rw [hone] at c128
    have c128' : w2.cell? ⟨g, n, none⟩ = some (.int .u8 128) := c128
    have q1 : ((np : Int) % 64 != 0) = false := by simp; omega
    have q2 : decide ((np : Int) < (n : Int) + 9) = false := by simp; omega
    have q3 : decide ((n : Int) + 72 < (np : Int)) = false := by simp; omega
    have q4 : (n : Int) < (np : Int) := by omega
    obtain ⟨m0, hm0⟩ : ∃ m0, m0 = np - 8 := ⟨_, rfl⟩
    have q5 : (np : Int) - 8 = (m0 : Int) := by omega
    have hm8 : m0 + 8 = np := by omega
    have HM8 := hide hm8
    have hmn : n + 1 ≤ m0 := by omega
    clear hm0 hm8
    have HM := hide hmod64
    clear hz hz64 hmod64 hone hzero htail hnp hnz hc c128 ho hcap
    go_wp2_with fail
    have hv8 : 8 * n < 256 ^ 8 := Nat.lt_of_le_of_lt (show 8 * n ≤ 16000 by omega) (by decide)
    go_loop [5, 6] (fun b i => ∃ j : Nat, j ≤ 8 ∧ i = .int .i64 ((m0 + j : Nat) : Int) ∧ b = .int .i64 ((decB ((encB 8 (8 * n)).take j) : Nat) : Int)) (fun _ i => np - (intOf i).toNat)
    case atStart => exact ⟨0, by omega, rfl, rfl⟩
    case round =>
      obtain ⟨j, hj, rfl, rfl⟩ := hrel
      have hle := tail_le hv8 j
      by_cases hlt : j < 8
      · have hst := tail_step (v := 8 * n) hlt
        have hle2 := tail_le hv8 (j + 1)
        rw [hst] at hle2
        have HST := hide hst
        have hcj := HC.out (m0 + j) (by have := HM8.out; omega)
        have htj := HT.out j
        rw [show n + 1 + (np - (n + 9)) + j = m0 + j by have := HM8.out; omega] at htj
        rw [htj] at hcj
        have hbl := byte_lt256 (encB_lt 8 (8 * n)) j
        generalize decB ((encB 8 (8 * n)).take j) = x at *
        generalize byteAt (encB 8 (8 * n)) j = y at *
        obtain ⟨ij, hij⟩ : ∃ ij, ij = m0 + j := ⟨_, rfl⟩
        rw [← hij] at hcj ⊢
        have hlt2 : (ij : Int) < (np : Int) := by have := HM8.out; omega
        have hxb : x ≤ 16000 := by omega
        have HIJ := hide hij
        clear hst htj hij hle hle2
        go_wp2
        go_round
        case rel => exact ⟨j + 1, by omega, by have := HIJ.out; go_num, by rw [HST.out]; go_num⟩
        case measure => simp [intOf]; omega
      · have hj8 : j = 8 := by omega
        have hfull : decB ((encB 8 (8 * n)).take 8) = 8 * n := by rw [List.take_of_length_le (by rw [encB_length]; omega), decB_encB 8 _ hv8]
        rw [hj8, hfull]
        have hnp : m0 + 8 = np := HM8.out
        have HNP := hide hnp
        rw [hnp]
        clear hj8 hfull hle hlt hj hnp
        obtain ⟨v, hv⟩ : ∃ v, v = 8 * n := ⟨_, rfl⟩
        rw [← hv]
        have HV := hide hv
        clear hv
        go_wp2
        go_loop [7] (fun i => ∃ k : Nat, n + 1 ≤ k ∧ k ≤ m0 ∧ i = .int .i64 (k : Int)) (fun i => np - (intOf i).toNat)
        case atStart => exact ⟨n + 1, by omega, by omega, by go_num⟩
        case round =>
          obtain ⟨k, hk1, hk, rfl⟩ := hrel
          by_cases hlt : k < m0
          · have hck := HC.out k (by have := HM8.out; omega)
            have hzk := HZ.out k hk1 (by have := HM8.out; omega)
            rw [hzk] at hck
            have hck' : w2.cell? ⟨g, k, none⟩ = some (.int .u8 0) := hck
            have hki : (k : Int) < (np : Int) := by have := HM8.out; omega
            clear hck hzk
            go_wp2
            go_round
            case rel => exact ⟨k + 1, by omega, by omega, by go_num⟩
            case measure => simp [intOf]; have := HM8.out; omega
          · have hkm : ¬ (k : Int) < (m0 : Int) := by omega
            have hbeq : ((v : Int) == 8 * (n : Int)) = true := by have := HV.out; simp; omega
            clear hlt
            go_wp2
            go_ret
            exact ⟨rfl, HB2.out⟩
end Go.Proofs.YtihpfkkbnbjboaaDoor
