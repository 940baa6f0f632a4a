/-
  Contracts over the document's own answer for layer 4: the first eight words, the constants.
-/
import Derived.Test.YtoiffchhfnbooaaGreatDoorQWide
namespace Go.Proofs.YtoiffchhfnbooaaGreatDoor
set_option linter.unusedVariables false
set_option linter.unusedSimpArgs false
set_option linter.unusedVariables false
set_option linter.unusedSimpArgs false
open Go.RowKit

/-- the first k of vals, then zeros -/
def partL (vals : List Nat) (k : Nat) : List Nat := vals.take k ++ List.replicate (vals.length - k) 0
theorem partL_length {vals : List Nat} {k : Nat} (h : k ≤ vals.length) : (partL vals k).length = vals.length := by
  unfold partL
  rw [List.length_append, List.length_take, List.length_replicate]
  omega
theorem partL_zero (vals : List Nat) : partL vals 0 = List.replicate vals.length 0 := by simp [partL]
theorem partL_all (vals : List Nat) : partL vals vals.length = vals := by simp [partL]
theorem partL_set {vals : List Nat} {k : Nat} (h : k < vals.length) {x : Nat} (hx : x = byteAt vals k) : (partL vals k).set k x = partL vals (k + 1) := by
  unfold partL
  rw [List.set_append_right _ _ (by rw [List.length_take]; omega), List.length_take, Nat.min_eq_left (by omega), Nat.sub_self, take_snoc' vals k h,
    show vals.length - k = (vals.length - (k + 1)) + 1 by omega, List.replicate_succ, List.set_cons_zero, hx, List.append_assoc]
  rfl
theorem primes8 : (primesL 312).take 8 = [2, 3, 5, 7, 11, 13, 17, 19] := by decide +kernel
theorem map_at {f : Nat → Nat} {l : List Nat} {k : Nat} (h : k < l.length) : byteAt (l.map f) k = f (byteAt l k) := by
  unfold byteAt
  simp [h]
theorem lv_at {l : List Nat} {k : Nat} (h : k < l.length) : (l.map lv)[k]? = some (.int .u64 ((byteAt l k : Nat) : Int)) := by
  unfold byteAt lv
  simp [h]
theorem primes_small (n k : Nat) : byteAt ((primesL 312).take n) k ≤ 400 := by
  unfold byteAt
  rw [List.getD_eq_getElem?_getD]
  cases hx : ((primesL 312).take n)[k]? with
  | none => simp
  | some x =>
    have h1 := List.mem_of_mem_take (List.mem_of_getElem? hx)
    unfold primesL at h1
    have := List.mem_range.1 (List.mem_filter.1 h1).1
    simp; omega
theorem first_at {k : Nat} (h : k < 8) : sqN (byteAt ((primesL 312).take 8) k) 37 % 4294967296 = byteAt firstL k := by
  rw [← sqs, primes8]
  exact (map_at (f := fun p => sqN p 37 % 4294967296) (by simpa using h)).symm
theorem const_at {k : Nat} (h : k < 64) : cuN (byteAt ((primesL 312).take 64) k) 37 % 4294967296 = byteAt kL k := by
  rw [← cus, List.take_of_length_le (by rw [primes_len]; omega)]
  exact (map_at (f := fun p => cuN p 37 % 4294967296) (by rw [primes_len]; exact h)).symm

set_option maxRecDepth 20000 in
set_option maxHeartbeats 1000000 in
theorem rfirst_any (w : World) : Calls Tryz.prog 45 #[] w fun e w' => e = .returned (.agg (cw firstL)) ∧ Below w.heap.size w w' := by
  go_enter Tryz.func45, Tryz.ntmps45
  go_wp2_with ((with_reducible show wpList _ _ _ (⟨some 0, _, _, _, _, _⟩ :: _) _ _); refine holdB ?_)
  refine heldB (wpList_alloc_to rfl 73 rfl _ zero8 ?_)
  go_wp2_with ((with_reducible show wpList _ _ _ (⟨some 1, _, _, _, _, _⟩ :: _) _ _); refine holdB ?_)
  refine heldB (wpList_alloc_to rfl 73 rfl _ zero8 ?_)
  refine wpList_over (fun W => Bk W w.heap.size 73 (cw (List.replicate 8 0)) ∧ Bk W (w.heap.size + 1) 73 (cw (List.replicate 8 0)) ∧ Below w.heap.size w W) ⟨(Bk.new w _ _).alloc _, Bk.new2 w _ _ _, ((Below.refl _ _).alloc (Nat.le_refl _) _).alloc (by simp) _⟩ ?_
  rintro W ⟨b1, b2, hb⟩
  have B1 := hide b1; have B2 := hide b2; have HB := hide hb
  clear b1 b2 hb
  go_wp2_with fail
  refine (primes_any 8 W (by omega)).mono ?_
  rintro e W2 ⟨A, c, rfl, ho, hb2⟩
  have hbs := HB.out.size
  have B1' := hide (B1.out.below hb2 B1.out.lt)
  have B2' := hide (B2.out.below hb2 B2.out.lt)
  have HB' := hide (HB.out.trans (hb2.mono HB.out.size))
  obtain ⟨g, rfl, hg, hgl, hcs⟩ := ho.cells (by omega)
  have hgw : w.heap.size + 1 < g := Nat.lt_of_lt_of_le B2.out.lt hg
  have HCS : Hid (∀ k, k < 8 → W2.cell? ⟨g, k, none⟩ = some (.int .u64 ((byteAt ((primesL 312).take 8) k : Nat) : Int))) := hide (fun k hk => hcs k _ (lv_at (by rw [List.length_take, primes_len]; omega)))
  clear hcs ho B1 B2 HB hb2
  clear hbs
  go_wp2
  go_loopw [3] (fun i wr => ∃ k : Nat, k ≤ 8 ∧ i = .int .i64 (k : Int) ∧ Bk wr w.heap.size 73 (cw (List.replicate 8 0)) ∧ Bk wr (w.heap.size + 1) 73 (cw (partL firstL k)) ∧ Below w.heap.size w wr ∧ ∀ k, k < 8 → wr.cell? ⟨g, k, none⟩ = some (.int .u64 ((byteAt ((primesL 312).take 8) k : Nat) : Int))) (fun i _ => 8 - (intOf i).toNat)
  case atStart => exact ⟨0, Nat.zero_le _, rfl, B1'.out, by rw [partL_zero, firstL_length]; exact B2'.out, HB'.out, HCS.out⟩
  case round =>
    obtain ⟨k, hk, rfl, b1, b2, hb, hcs⟩ := hrel
    by_cases hlt : k < 8
    · have hc := hcs k hlt
      have hsm := primes_small 8 k
      have HV := hide (first_at hlt)
      have hc2 := b2.word (i := k) (by rw [partL_length (by rw [firstL_length]; exact hk), firstL_length]; exact hlt)
      have hf := b2.frozen k
      have H1 := hide b1; have H2 := hide b2; have H3 := hide hb; have H4 := hide hcs
      clear b1 b2 hb hcs
      generalize byteAt ((primesL 312).take 8) k = p at *
      generalize byteAt (partL firstL k) k = y at *
      go_wp2_with fail
      refine (square_any p _ hsm).mono ?_
      rintro e w' ⟨rfl, rfl⟩
      rw [HV.out]
      go_wp2
      go_roundw
      case rel =>
        refine ⟨k + 1, by omega, by go_num, H1.out.far (by show w.heap.size ≠ w.heap.size + 1; omega) _, ?_, H3.out.setCell (by simp) _, fun j hj => ?_⟩
        · rw [← partL_set (show k < firstL.length by rw [firstL_length]; exact hlt) rfl]; exact H2.out.putw _ _ rfl
        · exact (World.cell?_setCell_other _ _ _ _ (by first | (simp; done) | (simp; omega))).trans (H4.out j hj)
      case measure => simp [intOf]; omega
    · have hk8 : k = firstL.length := by rw [firstL_length]; omega
      rw [hk8, partL_all] at b2
      have hlk : ¬ (k : Int) < 8 := by omega
      clear hk8 hlt hk
      have B1 := hide b1; have B2 := hide b2; have H3 := hide hb
      clear b1 b2 hb hcs
      go_wp2_with ((with_reducible show wpList _ _ _ (⟨some 16, _, _, _, _, _⟩ :: _) _ _); refine holdB ?_)
      refine heldB (wpList_load_mid rfl 73 (.tmp 1) rfl (w.heap.size + 1) 0 rfl _ _ B2.out.range Tryz.underlying73 rfl (by rw [Array.length_toList, cw_size, firstL_length]; exact size8) ?_)
      rw [Array.toArray_toList]
      refine wpList_store_wide rfl 73 (.tmp 0) (.tmp 16) rfl w.heap.size 0 (cw firstL) rfl rfl 73 _ B1.out (by simp [cw_size, firstL_length]) (by rw [cw_size, firstL_length]; exact size8) (cw_one _) ?_
      intro w' hw'
      rw [setRow_all (by simp [cw_size, firstL_length])] at hw'
      have B3 := hide (hw'.out ▸ B1.out.setRow_same (cw firstL) : Bk w' _ _ _)
      have hb2 := hw'.out ▸ below_setRow H3.out (g := w.heap.size) (by omega) (cw firstL)
      clear hw' B1 B2 H3
      go_wp2
      refine bodyPost_ret (v := .agg (cw firstL)) ?_ rfl ⟨rfl, hb2⟩
      exact results_cell (a := ⟨w.heap.size, 0, none⟩) rfl rfl (B3.out.load Tryz.underlying73 rfl (by rw [cw_size, firstL_length]; exact size8))
set_option maxRecDepth 20000 in
set_option maxHeartbeats 1000000 in
theorem rconst_any (w : World) : Calls Tryz.prog 46 #[] w fun e w' => e = .returned (.agg (cw kL)) ∧ Below w.heap.size w w' := by
  go_enter Tryz.func46, Tryz.ntmps46
  go_wp2_with ((with_reducible show wpList _ _ _ (⟨some 0, _, _, _, _, _⟩ :: _) _ _); refine holdB ?_)
  refine heldB (wpList_alloc_to rfl 75 rfl _ zero64 ?_)
  go_wp2_with ((with_reducible show wpList _ _ _ (⟨some 1, _, _, _, _, _⟩ :: _) _ _); refine holdB ?_)
  refine heldB (wpList_alloc_to rfl 75 rfl _ zero64 ?_)
  refine wpList_over (fun W => Bk W w.heap.size 75 (cw (List.replicate 64 0)) ∧ Bk W (w.heap.size + 1) 75 (cw (List.replicate 64 0)) ∧ Below w.heap.size w W) ⟨(Bk.new w _ _).alloc _, Bk.new2 w _ _ _, ((Below.refl _ _).alloc (Nat.le_refl _) _).alloc (by simp) _⟩ ?_
  rintro W ⟨b1, b2, hb⟩
  have B1 := hide b1; have B2 := hide b2; have HB := hide hb
  clear b1 b2 hb
  go_wp2_with fail
  refine (primes_any 64 W (by omega)).mono ?_
  rintro e W2 ⟨A, c, rfl, ho, hb2⟩
  have hbs := HB.out.size
  have B1' := hide (B1.out.below hb2 B1.out.lt)
  have B2' := hide (B2.out.below hb2 B2.out.lt)
  have HB' := hide (HB.out.trans (hb2.mono HB.out.size))
  obtain ⟨g, rfl, hg, hgl, hcs⟩ := ho.cells (by omega)
  have hgw : w.heap.size + 1 < g := Nat.lt_of_lt_of_le B2.out.lt hg
  have HCS : Hid (∀ k, k < 64 → W2.cell? ⟨g, k, none⟩ = some (.int .u64 ((byteAt ((primesL 312).take 64) k : Nat) : Int))) := hide (fun k hk => hcs k _ (lv_at (by rw [List.length_take, primes_len]; omega)))
  clear hcs ho B1 B2 HB hb2
  clear hbs
  go_wp2
  go_loopw [3] (fun i wr => ∃ k : Nat, k ≤ 64 ∧ i = .int .i64 (k : Int) ∧ Bk wr w.heap.size 75 (cw (List.replicate 64 0)) ∧ Bk wr (w.heap.size + 1) 75 (cw (partL kL k)) ∧ Below w.heap.size w wr ∧ ∀ k, k < 64 → wr.cell? ⟨g, k, none⟩ = some (.int .u64 ((byteAt ((primesL 312).take 64) k : Nat) : Int))) (fun i _ => 64 - (intOf i).toNat)
  case atStart => exact ⟨0, Nat.zero_le _, rfl, B1'.out, by rw [partL_zero, kL_length]; exact B2'.out, HB'.out, HCS.out⟩
  case round =>
    obtain ⟨k, hk, rfl, b1, b2, hb, hcs⟩ := hrel
    by_cases hlt : k < 64
    · have hc := hcs k hlt
      have hsm := primes_small 64 k
      have HV := hide (const_at hlt)
      have hc2 := b2.word (i := k) (by rw [partL_length (by rw [kL_length]; exact hk), kL_length]; exact hlt)
      have hf := b2.frozen k
      have H1 := hide b1; have H2 := hide b2; have H3 := hide hb; have H4 := hide hcs
      clear b1 b2 hb hcs
      generalize byteAt ((primesL 312).take 64) k = p at *
      generalize byteAt (partL kL k) k = y at *
      go_wp2_with fail
      refine (cube_any p _ hsm).mono ?_
      rintro e w' ⟨rfl, rfl⟩
      rw [HV.out]
      go_wp2
      go_roundw
      case rel =>
        refine ⟨k + 1, by omega, by go_num, H1.out.far (by show w.heap.size ≠ w.heap.size + 1; omega) _, ?_, H3.out.setCell (by simp) _, fun j hj => ?_⟩
        · rw [← partL_set (show k < kL.length by rw [kL_length]; exact hlt) rfl]; exact H2.out.putw _ _ rfl
        · exact (World.cell?_setCell_other _ _ _ _ (by first | (simp; done) | (simp; omega))).trans (H4.out j hj)
      case measure => simp [intOf]; omega
    · have hk64 : k = kL.length := by rw [kL_length]; omega
      rw [hk64, partL_all] at b2
      have hlk : ¬ (k : Int) < 64 := by omega
      clear hk64 hlt hk
      have B1 := hide b1; have B2 := hide b2; have H3 := hide hb
      clear b1 b2 hb hcs
      go_wp2_with ((with_reducible show wpList _ _ _ (⟨some 16, _, _, _, _, _⟩ :: _) _ _); refine holdB ?_)
      refine heldB (wpList_load_mid rfl 75 (.tmp 1) rfl (w.heap.size + 1) 0 rfl _ _ B2.out.range Tryz.underlying75 rfl (by rw [Array.length_toList, cw_size, kL_length]; exact size64) ?_)
      rw [Array.toArray_toList]
      refine wpList_store_wide rfl 75 (.tmp 0) (.tmp 16) rfl w.heap.size 0 (cw kL) rfl rfl 75 _ B1.out (by simp [cw_size, kL_length]) (by rw [cw_size, kL_length]; exact size64) (cw_one _) ?_
      intro w' hw'
      rw [setRow_all (by simp [cw_size, kL_length])] at hw'
      have B3 := hide (hw'.out ▸ B1.out.setRow_same (cw kL) : Bk w' _ _ _)
      have hb2 := hw'.out ▸ below_setRow H3.out (g := w.heap.size) (by omega) (cw kL)
      clear hw' B1 B2 H3
      go_wp2
      refine bodyPost_ret (v := .agg (cw kL)) ?_ rfl ⟨rfl, hb2⟩
      exact results_cell (a := ⟨w.heap.size, 0, none⟩) rfl rfl (B3.out.load Tryz.underlying75 rfl (by rw [cw_size, kL_length]; exact size64))
end Go.Proofs.YtoiffchhfnbooaaGreatDoor
