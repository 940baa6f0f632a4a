/-
  Contracts over package sum: the sum of bytes in many pieces, and in one; and the fixed fact.
-/
import Derived.Test.YthkmdemkdlbdnaaDoorSumWalksA
import Derived.Lib.SlBytesConst
namespace Go.Proofs.YthkmdemkdlbdnaaDoor
open Go.RowKit

theorem Tab.below {w w' : World} {B : Nat} (h : Tab w) (hb : Below B w w') (hB : 0 < B) : Tab w' := fun r hr => (hb.cell (p := ⟨0, r, none⟩) hB).trans (h r hr)
theorem Tab.pos {w : World} (h : Tab w) : 0 < w.heap.size := block_lt_of_cell (h 0 (by omega))
theorem Tab.alloc {w : World} (h : Tab w) (o : Obj) : Tab (w.alloc o) := fun r hr => (World.cell?_alloc_lt w o ⟨0, r, none⟩ h.pos).trans (h r hr)
theorem moreC_take_lt {ls : List (List Nat)} (h : ∀ l ∈ ls, ∀ x ∈ l, x < 256) (k : Nat) : moreC 0 (ls.take k).flatten < 4294967296 := by
  refine moreC_lt _ (by omega) (fun b hb => ?_)
  obtain ⟨l, hl, hb⟩ := List.mem_flatten.1 hb
  exact h l (List.mem_of_mem_take hl) b hb
theorem Bss.bytes {w : World} {B n : Nat} {A : Option Addr} {ls : List (List Nat)} (h : Bss w B A n ls) : ∀ l ∈ ls, ∀ x ∈ l, x < 256 := by
  intro l hl x hx
  obtain ⟨i, hi, rfl⟩ := List.mem_iff_getElem.1 hl
  obtain ⟨b, o, A', n', c', _, _, _, _, hy⟩ := h.at_ (k := i) (by rw [← h.1]; exact hi)
  have e : textAt ls i = ls[i] := by simp [textAt, hi]
  rw [e] at hy
  exact hy.2.1 x hx

set_option maxHeartbeats 400000 in
theorem join_any (A : Option Addr) (n c B : Nat) (ls : List (List Nat)) (w : World) (hl : Bss w B A n ls) (hn : n ≤ maxLen) (ht : Tab w) :
    Calls Tryd.prog 12 #[.slice A n c] w fun e w' => e = .returned (.int .u32 ((moreC 0 ls.flatten : Nat) : Int)) ∧ w = w' := by
  unfold maxLen at hn
  have hby := hl.bytes
  go_enter Tryd.func12, Tryd.ntmps12
  go_wp2
  go_loop [3, 8] (fun t i => ∃ k : Nat, k ≤ n ∧ i = .int .i64 k ∧ t = .int .u32 ((moreC 0 (ls.take k).flatten : Nat) : Int)) (fun _ i => n - (intOf i).toNat)
  case atStart => exact ⟨0, Nat.zero_le _, rfl, by rw [show moreC 0 (ls.take 0).flatten = 0 from moreC_nil 0]; rfl⟩
  case round =>
    obtain ⟨k, hk, rfl, rfl⟩ := hrel
    have hr := moreC_take_lt hby k
    by_cases hlt : k < n
    · obtain ⟨b, o, A', n', c', rfl, _, hc, hn', hy⟩ := hl.at_ hlt
      have HR := hide (moreC_append (ls.take k).flatten (textAt ls k) 0)
      have HF := hide (flatten_take_snoc ls k (by rw [hl.1]; exact hlt))
      go_wp2_with fail
      refine (more_any _ A' n' c' B _ _ hr hy (by unfold maxLen; omega) ht).mono ?_
      rintro e w' ⟨rfl, rfl⟩
      go_wp2
      go_round
      case rel => exact ⟨k + 1, by omega, by go_num, by rw [HF.out, HR.out]⟩
      case measure => simp [intOf]; omega
    · have HK := hide (show ls.take k = ls from List.take_of_length_le (by rw [hl.1]; omega))
      go_wp2
      go_ret
      exact ⟨ret_int (by rw [HK.out]), rfl⟩

set_option maxHeartbeats 400000 in
theorem sum_any (A : Option Addr) (n c : Nat) (l : List Nat) (w : World) (hl : Bytes w w.heap.size A n l) (hn : n ≤ 140737488355328) (ht : Tab w) :
    Calls Tryd.prog 8 #[.slice A n c] w fun e w' => e = .returned (.int .u32 ((moreC 0 l : Nat) : Int)) ∧ Below w.heap.size w w' := by
  go_enter Tryd.func8, Tryd.ntmps8
  go_wp2_with fail
  refine (join_any _ 1 1 _ [l] _ (Bss.one w hl hn (Nat.le_refl _) _) (by unfold maxLen; omega) (ht.alloc _)).mono ?_
  rintro e w' ⟨rfl, rfl⟩
  go_wp2
  go_ret
  exact ⟨ret_int (by simp), (Below.refl _ _).alloc (Nat.le_refl _) _⟩

set_option maxHeartbeats 400000 in
theorem rsum_any (A : Option Addr) (n c B : Nat) (l : List Nat) (w : World) (hl : Bytes w B A n l) (hn : n ≤ maxLen) :
    Calls Tryd.prog 9 #[.slice A n c] w fun e w' => e = .returned (.int .u32 ((moreC 0 l : Nat) : Int)) ∧ w = w' := by
  go_enter Tryd.func9, Tryd.ntmps9
  go_wp2_with fail
  refine (rmore_any 0 A n c B l _ (by omega) hl hn).mono ?_
  rintro e w' ⟨rfl, rfl⟩
  go_wp2
  go_ret
  exact ⟨rfl, rfl⟩

theorem nine : moreC 0 [49, 50, 51, 52, 53, 54, 55, 56, 57] = 3421780262 := by decide +kernel
def nineCells : Array Value := #[.int .u8 49, .int .u8 50, .int .u8 51, .int .u8 52, .int .u8 53, .int .u8 54, .int .u8 55, .int .u8 56, .int .u8 57]
theorem nine_bytes (w : World) (t : TypeId) (fr : Nat × Nat) : Bytes (w.alloc (.cells nineCells t fr)) (w.alloc (.cells nineCells t fr)).heap.size (some ⟨w.heap.size, 0, none⟩) 9 [49, 50, 51, 52, 53, 54, 55, 56, 57] := by
  refine ⟨rfl, by decide, fun _ => ⟨w.heap.size, 0, rfl, by simp, fun i hi => ?_⟩⟩
  rw [cell_of_row _ _ _ _ _ _ (heap_alloc_new w _)]
  match i, hi with
  | 0, _ | 1, _ | 2, _ | 3, _ | 4, _ | 5, _ | 6, _ | 7, _ | 8, _ => rfl

set_option maxHeartbeats 400000 in
theorem alive02_any (w : World) (ht : Tab w) : Calls Tryd.prog 7 #[] w fun e w' => e = .returned (.bool true) ∧ Below w.heap.size w w' := by
  have kc := fun (w : World) (C : Array Value) (n c : Nat) => Lib.run_convert_bytes_const (P := Tryd.prog) w 22 5 C n c Tryd.underlying22 Tryd.underlying5
  go_enter Tryd.func7, Tryd.ntmps7
  go_wp2_with fail
  have hz := ht.pos
  refine (sum_any _ 9 9 _ _ (nine_bytes w _ _) (by omega) (ht.alloc _)).mono ?_
  rintro e w' ⟨rfl, hb⟩
  rw [nine]
  have ht2 := (ht.alloc _).below hb (by simp)
  have hb2 := ((Below.refl w.heap.size w).alloc (Nat.le_refl _) _).trans (hb.mono (by simp))
  clear hb
  go_wp2_with fail
  refine (join_any none 0 0 0 [] _ Bss.nil (by unfold maxLen; omega) ht2).mono ?_
  rintro e w2 ⟨rfl, rfl⟩
  go_wp2
  go_ret
  exact ⟨rfl, hb2⟩
end Go.Proofs.YthkmdemkdlbdnaaDoor
