/-
  Contracts over package sha: the sum of many pieces, over slices.Concat at bytes.
-/
import Derived.Test.YtihpfkkbnbjboaaDoorShaAlive
import Derived.Lib.AppendZeros
namespace Go.Proofs.YtihpfkkbnbjboaaDoor
set_option linter.unusedVariables false
set_option linter.unusedSimpArgs false
open Go.RowKit

theorem OwnB.room (w : World) (C : Nat) (e : TypeId) (row : Array Value) (hr : row.size = C) (hC : C ≤ maxLen) : OwnB (w.drew.alloc (.cells row e)) w.heap.size e (some ⟨w.heap.size, 0, none⟩) 0 C [] :=
  ⟨⟨by simp, .inr ⟨w.heap.size, C, row, rfl, Nat.le_refl _, heap_alloc_new w.drew _, Nat.zero_le _, hC, by simpa using hr, by simp⟩⟩, by simp⟩

set_option maxHeartbeats 1000000 in
theorem grow_any (n : Nat) (w : World) (hn : n ≤ 2000) : Calls Tryd.prog 38 #[.slice none 0 0, .int .i64 (n : Int)] w (Made w.heap.size w 0 []) := by
  by_cases h0 : n = 0
  · subst h0
    go_enter Tryd.func38, Tryd.ntmps38
    go_wp2
    go_ret
    exact ⟨none, 0, rfl, OwnB.nil, Below.refl _ _⟩
  · obtain ⟨i, hi, hz, hs, hby⟩ := info_parts info_u8
    have hrun := Lib.run_append_nil_zeros (P := Tryd.prog) w 22 3 22 5 i (.int .u8 0) .i64 .i64 Tryd.underlying22 Tryd.underlying3 hi hz n (by omega) (by rw [hs]; omega) (by omega) (by rw [hby]; omega)
    have hge := grownCap_ge w n 0 5
    have hle := grownCap_le_maxLen w n 0 5 (by unfold maxLen; omega)
    generalize grownCap w n 0 5 = C at *
    have hrow : (Builtin.zeroCells (Value.int .u8 0).cells n ++ Builtin.zeroCells (Value.int .u8 0).cells (C - n)).size = C := by simp [size_zeroCells, Value.cells]; omega
    generalize (Builtin.zeroCells (Value.int .u8 0).cells n ++ Builtin.zeroCells (Value.int .u8 0).cells (C - n)) = row at *
    have hn1 : (0 : Int) < (n : Int) := by omega
    have HR := hide hrun
    have HROW := hide hrow
    clear hrun hrow h0
    go_enter Tryd.func38, Tryd.ntmps38
    go_wp2_with ((with_reducible show wpList _ _ _ (⟨some 22, _, _, _, _, _⟩ :: _) _ _); refine hold ?_)
    refine held (Lib.wpList_append_run w rfl (.tmp 20) (.tmp 21) 22 3 rfl (.slice none 0 0) (.int .i64 (n : Int)) rfl rfl _ _ HR.out ?_)
    have hmx : C ≤ 9223372036854775807 := by unfold maxLen at hle; omega
    go_wp2
    go_ret
    exact ⟨_, C, rfl, OwnB.room w C 5 row HROW.out hle, (Below.refl _ _).drew.alloc (Nat.le_refl _) _⟩

theorem flat_take_le (ls : List (List Nat)) (k : Nat) : (ls.take k).flatten.length ≤ ls.flatten.length := by
  have : ls.flatten = (ls.take k).flatten ++ (ls.drop k).flatten := by rw [← List.flatten_append, List.take_append_drop]
  rw [this, List.length_append]
  omega

set_option maxRecDepth 20000 in
set_option maxHeartbeats 1000000 in
theorem concat_any (A : Option Addr) (n c : Nat) (ls : List (List Nat)) (w : World) (hl : Bss w w.heap.size A n ls) (hn : n ≤ 140737488355328) (T : Nat) (hT : T = ls.flatten.length) (ht : T ≤ 2000) :
    Calls Tryd.prog 29 #[.slice A n c] w (Made w.heap.size w T ls.flatten) := by
  have HT := hide hT
  clear hT
  have HLn := hide hl.1
  go_enter Tryd.func29, Tryd.ntmps29
  go_wp2
  go_loop [3, 11] (fun s i => ∃ k : Nat, k ≤ n ∧ i = .int .i64 (k : Int) ∧ s = .int .i64 (((ls.take k).flatten.length : Nat) : Int)) (fun _ i => n - (intOf i).toNat)
  case atStart => exact ⟨0, Nat.zero_le _, rfl, rfl⟩
  case round =>
    obtain ⟨k, hk, rfl, rfl⟩ := hrel
    have hle := flat_take_le ls k
    by_cases hlt : k < n
    · obtain ⟨b, o, A', n', c', rfl, _, hc, hn', hy⟩ := hl.at_ hlt
      have HF : Hid ((ls.take (k + 1)).flatten.length = (ls.take k).flatten.length + n') := hide (by rw [flatten_take_snoc ls k (by rw [HLn.out]; exact hlt), List.length_append, hy.1])
      have hle2 := flat_take_le ls (k + 1)
      rw [HF.out] at hle2
      have hTi := HT.out
      have hxb : (ls.take k).flatten.length + n' ≤ 2000 := by omega
      clear hy hTi hle hle2
      generalize (ls.take k).flatten.length = x at *
      go_wp2
      go_round
      case rel => exact ⟨k + 1, by omega, by go_num, by rw [HF.out]; go_num⟩
      case measure => simp [intOf]; omega
    · have hkn : k = n := by omega
      have HK := hide (show ls.take k = ls from List.take_of_length_le (by rw [HLn.out]; omega))
      rw [HK.out]
      have hlk : ¬ (k : Int) < (n : Int) := by omega
      clear hkn hlt hk hle
      rw [← HT.out]
      go_wp2_with fail
      refine (grow_any T w ht).mono ?_
      rintro e w1 ⟨A1, c1, rfl, ho1, hb1⟩
      have HO := hide ho1; have HB := hide hb1
      have HLL := hide hl
      clear ho1 hb1 hl
      go_wp2
      go_loopw [6, 27] (fun s i wr => ∃ (k : Nat) (A2 : Option Addr) (m c2 : Nat), k ≤ n ∧ i = .int .i64 (k : Int) ∧ s = .slice A2 m c2 ∧ m = (ls.take k).flatten.length ∧ OwnB wr w.heap.size 5 A2 m c2 (ls.take k).flatten ∧ Below w.heap.size w wr) (fun _ i _ => n - (intOf i).toNat)
      case atStart => exact ⟨0, A1, 0, c1, Nat.zero_le _, rfl, rfl, rfl, HO.out, HB.out⟩
      case round =>
        obtain ⟨k2, A2, m, c2, hk2, rfl, rfl, hm, ho, hb⟩ := hrel
        have hle := flat_take_le ls k2
        have hTi := HT.out
        have hm2 : m ≤ 2000 := by omega
        clear hTi
        by_cases hlt : k2 < n
        · obtain ⟨b, o, A', n', c', rfl, hbl, hc, hn', hy⟩ := (HLL.out.below hb (Nat.le_refl _)).at_ hlt
          have HF := hide (flatten_take_snoc ls k2 (by rw [HLn.out]; exact hlt))
          have hle2 := flat_take_le ls (k2 + 1)
          rw [HF.out, List.length_append, hy.1] at hle2
          have hTi := HT.out
          have hmn : m + n' ≤ 2000 := by omega
          have HM := hide hm; have HN := hide hy.1
          clear hm hle hle2 hTi
          go_wp2_with ((with_reducible show wpList _ _ _ (⟨some 33, _, _, _, _, _⟩ :: _) _ _); refine hold ?_)
          refine held (wpList_append_bytes rfl (.tmp 31) (.tmp 32) 22 rfl Tryd.underlying22 info_u8 w.heap.size A2 m c2 _ rfl ho w.heap.size A' n' c' _ rfl hy (by omega) hb.size ?_)
          intro A3 c3 w3 ho3 hb3 hg3
          clear hg3
          have hb3' := hb.trans hb3
          clear ho hb hb3 hc hy
          go_wp2
          go_roundw
          case rel => exact ⟨k2 + 1, A3, m + n', c3, by omega, by go_num, rfl, by rw [HF.out, List.length_append, HM.out, HN.out], by rw [HF.out]; exact ho3, hb3'⟩
          case measure => simp [intOf]; omega
        · have hkn : k2 = n := by omega
          have HK2 := hide (show ls.take k2 = ls from List.take_of_length_le (by rw [HLn.out]; omega))
          rw [HK2.out] at hm ho
          have HM := hide (hm.trans HT.out.symm)
          have hlk2 : ¬ (k2 : Int) < (n : Int) := by omega
          clear hm hle hlt hk2 hkn
          go_wp2
          go_ret
          exact ⟨A2, c2, by rw [HM.out]; rfl, by rw [HM.out] at ho; exact ho, hb⟩

set_option maxRecDepth 20000 in
set_option maxHeartbeats 1000000 in
theorem join_any (A : Option Addr) (n c : Nat) (ls : List (List Nat)) (w : World) (hl : Bss w w.heap.size A n ls) (hn : n ≤ 140737488355328) (ht : ls.flatten.length ≤ 2000) (hT : Tabs w) :
    Calls Tryd.prog 19 #[.slice A n c] w fun e w' => e = .returned (.agg (cb (sumB ls.flatten))) ∧ Below w.heap.size w w' := by
  have HT := hide hT
  clear hT
  obtain ⟨T, hTe⟩ : ∃ T, T = ls.flatten.length := ⟨_, rfl⟩
  rw [← hTe] at ht
  have HTE := hide hTe
  clear hTe
  go_enter Tryd.func19, Tryd.ntmps19
  go_wp2_with ((with_reducible show wpList _ _ _ (⟨some 2, _, _, _, _, _⟩ :: _) _ _); refine hold ?_)
  refine held (wpList_alloc_to rfl 24 rfl _ zero32 ?_)
  refine wpList_over (fun W => Bk W w.heap.size 24 (cb (List.replicate 32 0)) ∧ Below w.heap.size w W) ⟨Bk.new w _ _, (Below.refl _ _).alloc (Nat.le_refl _) _⟩ ?_
  rintro W ⟨br, hb⟩
  have BR := hide br; have HB := hide hb
  have hlW := (hl.below hb (Nat.le_refl _)).more hb.size
  clear br hb
  go_wp2_with fail
  refine (concat_any A n c ls W hlW hn T HTE.out ht).mono ?_
  rintro e W1 ⟨A1, c1, rfl, ho, hb1⟩
  have BR1 := hide (BR.out.below hb1 BR.out.lt); have HB1 := hide (HB.out.trans (hb1.mono HB.out.size))
  have hob := ho.bytes
  have hT1 := (HT.out.later HB.out).later hb1
  clear BR HB hb1 ho hlW
  go_wp2_with fail
  refine (sum_any A1 T c1 _ _ W1 hob (Nat.le_refl _) (by omega) hT1).mono ?_
  rintro e W2 ⟨rfl, hb2⟩
  have BR2 := hide (BR1.out.below hb2 BR1.out.lt); have HB2 := hide (HB1.out.trans (hb2.mono HB1.out.size))
  have hsz := sumB_length ls.flatten
  obtain ⟨fs, hfs⟩ : ∃ fs, fs = sumB ls.flatten := ⟨_, rfl⟩
  rw [← hfs] at hsz ⊢
  have HFS := hide hfs; have HLN := hide hsz
  clear BR1 HB1 hb2 hfs hsz hob
  go_wp2_with ((with_reducible show wpList _ _ _ (⟨none, .store _ _ _, _, _, _, _⟩ :: _) _ _); refine hold ?_)
  refine held (wpList_store_wide rfl 24 (.tmp 2) (.tmp 5) rfl w.heap.size 0 (cb fs) rfl rfl 24 _ BR2.out (by rw [cb_size, cb_size, HLN.out]; simp) (by rw [cb_size, HLN.out]; exact size32) (cb_one _) ?_)
  intro w' hw'
  rw [setRow_all (by rw [cb_size, cb_size, HLN.out]; simp)] at hw'
  have B1 := hide (hw'.out ▸ BR2.out.setRow_same (cb fs) : Bk w' _ _ _)
  have hb2 := hw'.out ▸ below_setRow HB2.out (g := w.heap.size) (by omega) (cb fs)
  clear hw' BR2 HB2
  go_wp2
  refine bodyPost_ret (v := .agg (cb fs)) ?_ rfl ⟨by rw [HFS.out], hb2⟩
  exact results_cell (a := ⟨w.heap.size, 0, none⟩) rfl rfl (B1.out.load Tryd.underlying24 rfl (by rw [cb_size, HLN.out]; exact size32))
end Go.Proofs.YtihpfkkbnbjboaaDoor
