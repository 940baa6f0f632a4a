/-
  Contracts over package sha: the words' bytes.
-/
import Derived.Test.YtihpfkkbnbjboaaDoorShaWalksC
namespace Go.Proofs.YtihpfkkbnbjboaaDoor
set_option linter.unusedVariables false
set_option linter.unusedSimpArgs false
open Go.RowKit

set_option maxRecDepth 20000 in
set_option maxHeartbeats 1000000 in
theorem flat_any (ws : List Nat) (w : World) (hl : ws.length = 8) (hw : W32 ws) : Calls Tryd.prog 21 #[.agg (cw ws)] w fun e w' => e = .returned (.agg (cb (flN ws 32))) ∧ Below w.heap.size w w' := by
  have HL := hide hl
  clear hl
  go_enter Tryd.func21, Tryd.ntmps21
  go_wp2_with ((with_reducible show wpList _ _ _ (⟨some 2, _, _, _, _, _⟩ :: _) _ _); refine hold ?_)
  refine held (wpList_alloc_to rfl 24 rfl _ zero32 ?_)
  go_wp2_with ((with_reducible show wpList _ _ _ (⟨some 3, _, _, _, _, _⟩ :: _) _ _); refine hold ?_)
  refine held (wpList_alloc_to rfl 24 rfl _ zero32 ?_)
  have hb0 : Below w.heap.size w (((w.alloc (.cells (cw ws) 31)).alloc (.cells (cb (List.replicate 32 0)) 24)).alloc (.cells (cb (List.replicate 32 0)) 24)) := (((Below.refl _ _).alloc (Nat.le_refl _) _).alloc (by simp) _).alloc (by simp; omega) _
  refine wpList_over (fun W => Bk W w.heap.size 31 (cw ws) ∧ Bk W (w.heap.size + 1) 24 (cb (List.replicate 32 0)) ∧ Bk W (w.heap.size + 1 + 1) 24 (cb (List.replicate 32 0)) ∧ Below w.heap.size w W) ⟨((Bk.new w _ _).alloc _).alloc _, (Bk.new2 w _ _ _).alloc _, Bk.new3 w _ _ _ _, hb0⟩ ?_
  clear hb0
  rintro W ⟨b0, b1, b2, hb0⟩
  have B0 := hide b0; have B1 := hide b1; have B2 := hide b2; have HB0 := hide hb0
  clear b0 b1 b2 hb0
  go_wp2
  go_loopw [5] (fun i wr => ∃ k : Nat, k ≤ 32 ∧ i = .int .i64 k ∧ Bk wr w.heap.size 31 (cw ws) ∧ Bk wr (w.heap.size + 1) 24 (cb (List.replicate 32 0)) ∧ Bk wr (w.heap.size + 1 + 1) 24 (cb (flN ws k)) ∧ Below w.heap.size w wr) (fun i _ => 32 - (intOf i).toNat)
  case atStart => exact ⟨0, Nat.zero_le _, rfl, B0.out, B1.out, by rw [flN_zero]; exact B2.out, HB0.out⟩
  case round =>
    obtain ⟨k, hk, rfl, b0, b1, b2, hb⟩ := hrel
    by_cases hlt : k < 32
    · have hq : k / 4 < 8 := by omega
      have hc := b0.word (i := k / 4) (by rw [HL.out]; exact hq)
      have hx := hw.lt (k / 4)
      have hc2 := b2.byte (i := k) (by rw [flN_length]; exact hlt)
      have hf := b2.frozen k
      have HF := hide (flN_succ ws k)
      have HN : Hid (flatN ws k = byteAt ws (k / 4) / 2 ^ (24 - 8 * (k % 4)) % 256) := hide rfl
      obtain ⟨sh, hsh⟩ : ∃ sh : Nat, sh = 24 - 8 * (k % 4) := ⟨_, rfl⟩
      have e1 : (24 : Int) - (k : Int) % 4 * 8 = (sh : Int) := by omega
      have hsh2 : sh ≤ 24 := by omega
      rw [← hsh] at HN
      have H0 := hide b0; have H1 := hide b1; have H2 := hide b2; have H3 := hide hb
      clear b0 b1 b2 hb hsh
      generalize byteAt ws (k / 4) = x at *
      generalize byteAt (flN ws k) k = y at *
      go_wp2
      go_roundw
      case rel =>
        refine ⟨k + 1, by omega, by go_num, H0.out.far (by show w.heap.size ≠ w.heap.size + 1 + 1; omega) _, H1.out.far (by simp) _, ?_, H3.out.setCell (by simp; omega) _⟩
        rw [HF.out, HN.out]
        refine H2.out.putb _ _ ?_
        rw [Int.natCast_emod, Int.natCast_ediv, Int.natCast_pow]
        rfl
      case measure => simp [intOf]; omega
    · have hk32 : k = 32 := by omega
      rw [hk32] at b2
      have hlk : ¬ (k : Int) < 32 := by omega
      clear hk32 hlt hk
      have hsz := flN_length ws 32
      obtain ⟨fs, hfs⟩ : ∃ fs, fs = flN ws 32 := ⟨_, rfl⟩
      rw [← hfs] at hsz b2
      have HFS := hide hfs; have HLEN := hide hsz
      clear hfs hsz
      have H1 := hide b1; have H2 := hide b2; have H3 := hide hb
      clear b0 b1 b2 hb
      go_wp2_with ((with_reducible show wpList _ _ _ (⟨some 21, _, _, _, _, _⟩ :: _) _ _); refine hold ?_)
      refine held (wpList_load_mid rfl 24 (.tmp 3) rfl (w.heap.size + 1 + 1) 0 rfl _ _ H2.out.range Tryd.underlying24 rfl (by rw [Array.length_toList, cb_size, HLEN.out]; exact size32) ?_)
      rw [Array.toArray_toList]
      refine wpList_store_wide rfl 24 (.tmp 2) (.tmp 21) rfl (w.heap.size + 1) 0 (cb fs) rfl rfl 24 _ H1.out (by rw [cb_size, cb_size, HLEN.out]; simp) (by rw [cb_size, HLEN.out]; exact size32) (cb_one _) ?_
      intro w' hw'
      rw [setRow_all (by rw [cb_size, cb_size, HLEN.out]; simp)] at hw'
      have B1 := hide (hw'.out ▸ H1.out.setRow_same (cb fs) : Bk w' _ _ _)
      have hb2 := hw'.out ▸ below_setRow H3.out (g := w.heap.size + 1) (by omega) (cb fs)
      clear hw' H1 H2 H3
      go_wp2
      refine bodyPost_ret (v := .agg (cb fs)) ?_ rfl ⟨by rw [HFS.out], hb2⟩
      exact results_cell (a := ⟨w.heap.size + 1, 0, none⟩) rfl rfl (B1.out.load Tryd.underlying24 rfl (by rw [cb_size, HLEN.out]; exact size32))
end Go.Proofs.YtihpfkkbnbjboaaDoor
