/-
  Contracts over package pack: Num and Text lay many numbers and texts behind bytes.
-/
import Derived.Test.YtoiffchhfnbooaaDoorQRowRel
namespace Go.Proofs.YtoiffchhfnbooaaDoor
set_option linter.unusedVariables false
set_option linter.unusedSimpArgs false
open Go.RowKit

theorem Col.sub {α : Type} {f : α → Value} {w : World} {B n : Nat} {A : Option Addr} {l : List α} (h : Col f w B A n l) {p : α → Prop} (hp : ∀ a ∈ l, p a) {k : Nat} {a : α} (hk : l[k]? = some a) : p a := hp a (List.mem_of_getElem? hk)

set_option maxRecDepth 20000 in
set_option maxHeartbeats 1000000 in
theorem pnum_any (A : Option Addr) (n c : Nat) (l : List Nat) (A' : Option Addr) (m c' : Nat) (zs : List Int) (w : World) (hl : Bytes w w.heap.size A n l) (hz : Col (fun z => .int .i64 z) w w.heap.size A' m zs) (hn : n + 8 * m ≤ 1000000000) :
    Calls Tryd.prog 11 #[.slice A n c, .slice A' m c'] w (Made w.heap.size w (n + 8 * m) (l ++ numsB zs)) := by
  go_enter Tryd.func11, Tryd.ntmps11
  go_wp2_with fail
  refine (cloneB_any A n c l w hl (by omega)).mono ?_
  rintro e w1 ⟨A1, c1, rfl, ho1, hb1⟩
  go_wp2
  go_loopw [5, 12] (fun s t wr => ∃ k : Nat, k ≤ m ∧ t = .int .i64 k ∧ ∃ A2 c2, s = .slice A2 (n + 8 * k) c2 ∧ OwnB wr w.heap.size 5 A2 (n + 8 * k) c2 (l ++ numsB (zs.take k)) ∧ Below w.heap.size w wr) (fun _ t _ => m - (intOf t).toNat)
  case atStart => exact ⟨0, Nat.zero_le _, rfl, A1, c1, rfl, by rw [show numsB (zs.take 0) = [] from rfl, List.append_nil]; exact ho1, hb1⟩
  case round =>
    obtain ⟨k, hk, rfl, A2, c2, rfl, ho, hb⟩ := hrel
    by_cases hlt : k < m
    · obtain ⟨b, o, z, rfl, hbl, -, ht, hc⟩ := (hz.below hb (Nat.le_refl _)).at_ hlt
      have HT := hide ht
      clear ht
      have HN := hide (numsB_snoc (zs.take k) z)
      have hmm : (if (4611686018427387904 : Int) < (if z < 0 then 0 else z) then 4611686018427387904 else (if z < 0 then 0 else z)) = ((clampB z : Nat) : Int) := by
        unfold clampB
        split <;> split at * <;> omega
      have hcl := clampB_le z
      go_wp2_with fail
      all_goals
        refine (lay_any A2 _ c2 8 (clampB z) w.heap.size _ wr ho (by omega) (by omega) (by omega) hb.size).mono ?_
        rintro e w3 ⟨A3, c3, rfl, ho3, hb3⟩
        have hb3' := hb.trans hb3
        go_wp2
        go_roundw
        case rel => exact ⟨k + 1, by omega, by go_num, A3, c3, rfl, by rw [HT.out, HN.out, ← List.append_assoc]; exact ho3, hb3'⟩
        case measure => simp [intOf]; omega
    · have HK := hide (show zs.take k = zs from List.take_of_length_le (by rw [hz.1]; omega))
      obtain rfl : k = m := by omega
      go_wp2
      go_ret
      exact ⟨A2, c2, rfl, by rw [HK.out] at ho; exact ho, hb⟩

theorem textsB_take_le (ss : List ByteArray) (k : Nat) (h : k ≤ ss.length) : (textsB ((ss.take k).map nats)).length ≤ 4100 * k := by
  have := textsB_length ((ss.take k).map nats)
  rw [List.length_map, List.length_take, Nat.min_eq_left h] at this
  exact this

set_option maxRecDepth 20000 in
set_option maxHeartbeats 1000000 in
theorem ptext_any (A : Option Addr) (n c : Nat) (l : List Nat) (A' : Option Addr) (m c' : Nat) (ss : List ByteArray) (w : World) (hl : Bytes w w.heap.size A n l) (hz : Col Value.string w w.heap.size A' m ss) (hs : ∀ s ∈ ss, s.size ≤ 140737488355328) (hn : n + 4100 * m ≤ 1000000000) :
    Calls Tryd.prog 32 #[.slice A n c, .slice A' m c'] w (Made w.heap.size w (n + (textsB (ss.map nats)).length) (l ++ textsB (ss.map nats))) := by
  go_enter Tryd.func32, Tryd.ntmps32
  go_wp2_with fail
  refine (cloneB_any A n c l w hl (by omega)).mono ?_
  rintro e w1 ⟨A1, c1, rfl, ho1, hb1⟩
  go_wp2
  go_loopw [5, 12] (fun s t wr => ∃ k : Nat, k ≤ m ∧ t = .int .i64 k ∧ ∃ A2 n2 c2, s = .slice A2 n2 c2 ∧ n2 = n + (textsB ((ss.take k).map nats)).length ∧ OwnB wr w.heap.size 5 A2 n2 c2 (l ++ textsB ((ss.take k).map nats)) ∧ Below w.heap.size w wr) (fun _ t _ => m - (intOf t).toNat)
  case atStart => exact ⟨0, Nat.zero_le _, rfl, A1, n, c1, rfl, rfl, by rw [show textsB ((ss.take 0).map nats) = [] from rfl, List.append_nil]; exact ho1, hb1⟩
  case round =>
    obtain ⟨k, hk, rfl, A2, n2, c2, rfl, hn2, ho, hb⟩ := hrel
    have HN2 := hide hn2
    have hn2' : n2 ≤ n + 4100 * k := by have := textsB_take_le ss k (by rw [hz.1]; exact hk); omega
    clear hn2
    by_cases hlt : k < m
    · obtain ⟨b, o, z, rfl, hbl, hsub, ht, hc⟩ := (hz.below hb (Nat.le_refl _)).at_ hlt
      have hzs := hs z (List.mem_of_getElem? hsub)
      have HT := hide ht
      clear ht hsub
      have HN := hide (show textsB ((ss.take k ++ [z]).map nats) = textsB ((ss.take k).map nats) ++ textB (nats z) by rw [List.map_append]; exact textsB_snoc _ _)
      have HB := hide (textB_cut z)
      have HL : Hid ((textB (nats z)).length = 4 + (cutS z).size) := hide (by rw [HB.out, List.length_append, encB_length, nats_length])
      have hq : (cutS z).size ≤ 4096 := by rw [cutS_size]; omega
      by_cases hsz : z.size ≤ 4096
      all_goals
        first
          | (have HS := hide (cutS_short hsz)
             have hsI : ¬ (4096 : Int) < (z.size : Int) := by omega)
          | (have HC : Hid (z.extract 0 4096 = cutS z) := hide rfl
             have HM := hide (cutS_size z)
             have hsI : (4096 : Int) < (z.size : Int) := by omega)
        go_wp2_with fail
        first
          | (rw [HC.out, ← HM.out]; clear HC HM; generalize cutS z = q at *)
          | (rw [HS.out] at HB HL hq)
        refine (lay_any A2 _ c2 4 _ w.heap.size _ wr ho (by omega) (by omega) (by omega) hb.size).mono ?_
        rintro e w3 ⟨A3, c3, rfl, ho3, hb3⟩
        have hb3' := hb.trans hb3
        go_wp2_with ((with_reducible show wpList _ _ _ (⟨some 28, _, _, _, _, _⟩ :: _) _ _); refine holdB ?_)
        refine heldB (wpList_append_str rfl (.tmp 26) (.tmp 27) 32 9 rfl Tryd.underlying32 Tryd.underlying9 info_u8 w.heap.size A3 (n2 + 4) c3 _ rfl ho3 _ rfl (by omega) hb3'.size ?_)
        intro A4 c4 w4 ho4 hb4 hg4
        clear hg4
        have hb4' := hb3'.trans hb4
        go_wp2
        go_roundw
        case rel => exact ⟨k + 1, by omega, by go_num, A4, _, c4, rfl, by rw [HT.out, HN.out, List.length_append, HL.out, HN2.out]; omega, by rw [HT.out, HN.out, HB.out, ← List.append_assoc, ← List.append_assoc]; exact ho4, hb4'⟩
        case measure => simp [intOf]; omega
    · have HK := hide (show ss.take k = ss from List.take_of_length_le (by rw [hz.1]; omega))
      obtain rfl : k = m := by omega
      rw [HK.out] at ho HN2
      rw [HN2.out] at ho
      rw [HN2.out]
      go_wp2
      go_ret
      exact ⟨A2, c2, rfl, ho, hb⟩
end Go.Proofs.YtoiffchhfnbooaaDoor
