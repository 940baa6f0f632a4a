/-
  Contracts over package sum: half a byte, the sum behind a sum; and of the document's own answer.
-/
import Derived.Test.YtofbpkaebngnlaaDoorProg
import Derived.Test.YtofbpkaebngnlaaDoorQBytes
import Derived.Test.YtofbpkaebngnlaaDoorQPackMath
import Derived.Laws.BitsAllLaws
import Derived.Lib.SlBytesConst
namespace Go.Proofs.YtofbpkaebngnlaaDoor
set_option linter.unusedVariables false
set_option linter.unusedSimpArgs false
open Go.RowKit

/-- the table of half a byte lies as the text lays it -/
def Tab (w : World) : Prop := ∀ r, r < 16 → w.cell? ⟨0, r, none⟩ = some (.int .u32 ((tabC r : Nat) : Int))

set_option maxHeartbeats 400000 in
theorem half_any (s : Nat) (w : World) (hs : s < 4294967296) (ht : Tab w) : Calls Tryd.prog 61 #[.int .u32 (s : Int)] w fun e w' => e = .returned (.int .u32 ((stepN 4 s : Nat) : Int)) ∧ w = w' := by
  have hc := ht (s % 16) (by omega)
  have hand : bits .and .u32 (s : Int) 15 = ((s % 16 : Nat) : Int) := by
    have := u32_and_nat s 15 hs (by omega)
    rw [nat_mask4] at this
    exact this
  go_enter Tryd.func61, Tryd.ntmps61
  go_wp2
  go_ret
  refine ⟨ret_int ?_, rfl⟩
  rw [show ((s : Int) / 16) = ((s / 16 : Nat) : Int) from rfl, half4, ← u32_xor_nat _ _ (by omega) (show tabC (s % 16) < 4294967296 from stepN_lt 4 (by omega))]

def word (l : List Nat) : Prop := ∀ x ∈ l, x < 256
theorem runC_snoc (s : Nat) (l : List Nat) (b : Nat) : runC s (l ++ [b]) = stepN 8 (runC s l ^^^ b) := by rw [runC_append]; rfl

theorem runC_take (s : Nat) (l : List Nat) (k : Nat) (h : k < l.length) : stepN 4 (stepN 4 (runC s (l.take k) ^^^ byteAt l k)) = runC s (l.take (k + 1)) := by
  rw [take_snoc' l k h, runC_snoc, ← step8_half]
theorem runC_take_lt {s : Nat} {l : List Nat} (hs : s < 4294967296) (hl : ∀ x ∈ l, x < 256) (k : Nat) : runC s (l.take k) < 4294967296 :=
  runC_lt _ hs (fun x hx => hl x (List.mem_of_mem_take hx))

theorem u32_ones (s : Nat) (hs : s < 4294967296) : bits .xor .u32 IntKind.u32.max (s : Int) = ((s ^^^ onesC : Nat) : Int) := by
  have := u32_xor_nat 4294967295 s (by omega) hs
  rw [Nat.xor_comm] at this
  exact this

set_option maxHeartbeats 400000 in
theorem more_any (s : Nat) (A : Option Addr) (n c B : Nat) (l : List Nat) (w : World) (hs : s < 4294967296) (hl : Bytes w B A n l) (hn : n ≤ maxLen) (ht : Tab w) :
    Calls Tryd.prog 56 #[.int .u32 (s : Int), .slice A n c] w fun e w' => e = .returned (.int .u32 ((moreC s l : Nat) : Int)) ∧ w = w' := by
  have hu := u32_ones s hs
  have hs' : s ^^^ onesC < 4294967296 := Nat.xor_lt_two_pow (n := 32) hs ones_lt
  generalize hx : s ^^^ onesC = x at hu hs'
  have HX := hide hx
  clear hx
  unfold maxLen at hn
  go_enter Tryd.func56, Tryd.ntmps56
  go_wp2
  go_loop [5, 12] (fun t i => ∃ k : Nat, k ≤ n ∧ i = .int .i64 k ∧ t = .int .u32 ((runC x (l.take k) : Nat) : Int)) (fun _ i => n - (intOf i).toNat)
  case atStart => exact ⟨0, Nat.zero_le _, rfl, rfl⟩
  case round =>
    obtain ⟨k, hk, rfl, rfl⟩ := hrel
    have hr := runC_take_lt hs' hl.2.1 k
    have hb := hl.lt k
    by_cases hlt : k < n
    · obtain ⟨b, o, rfl, _, hc⟩ := hl.at_ hlt
      have hxr := u32_xor_nat (runC x (l.take k)) (byteAt l k) hr (by omega)
      have HR := hide (runC_take x l k (by rw [hl.1]; exact hlt))
      have hy : runC x (l.take k) ^^^ byteAt l k < 4294967296 := byte_lt hr hb
      generalize runC x (l.take k) ^^^ byteAt l k = y at hxr HR hy
      have hbi : (byteAt l k : Int) < 256 := by omega
      have hy4 := stepN_lt 4 hy
      go_wp2_with fail
      refine (half_any y _ hy ht).mono ?_
      rintro e w' ⟨rfl, rfl⟩
      go_wp2_with fail
      refine (half_any _ _ hy4 ht).mono ?_
      rintro e w' ⟨rfl, rfl⟩
      go_wp2
      go_round
      case rel => exact ⟨k + 1, by omega, by go_num, by rw [HR.out]⟩
      case measure => simp [intOf]; omega
    · have hu2 := u32_ones (runC x (l.take k)) hr
      have HK := hide (show l.take k = l from List.take_of_length_le (by rw [hl.1]; omega))
      go_wp2
      go_ret
      exact ⟨ret_int (by rw [HK.out, ← HX.out]; rfl), rfl⟩

theorem u32_poly (z : Nat) (hz : z < 4294967296) : bits .xor .u32 (z : Int) 3988292384 = ((z ^^^ polyC : Nat) : Int) := u32_xor_nat z 3988292384 hz (by omega)

end Go.Proofs.YtofbpkaebngnlaaDoor

/-
  Contracts over package sum: the sum of bytes in many pieces, and in one; and the fixed fact.
-/
namespace Go.Proofs.YtofbpkaebngnlaaDoor
set_option linter.unusedVariables false
set_option linter.unusedSimpArgs false
open Go.RowKit

theorem Tab.below {w w' : World} {B : Nat} (h : Tab w) (hb : Below B w w') (hB : 0 < B) : Tab w' := fun r hr => (hb.cell (p := ⟨0, r, none⟩) hB).trans (h r hr)
theorem Tab.pos {w : World} (h : Tab w) : 0 < w.heap.size := block_lt_of_cell (h 0 (by omega))
theorem Tab.alloc {w : World} (h : Tab w) (o : Obj) : Tab (w.alloc o) := fun r hr => (World.cell?_alloc_lt w o ⟨0, r, none⟩ h.pos).trans (h r hr)
theorem moreC_take_lt {ls : List (List Nat)} (h : ∀ l ∈ ls, ∀ x ∈ l, x < 256) (k : Nat) : moreC 0 (ls.take k).flatten < 4294967296 := by
  refine moreC_lt _ (by omega) (fun b hb => ?_)
  obtain ⟨l, hl, hb⟩ := List.mem_flatten.1 hb
  exact h l (List.mem_of_mem_take hl) b hb
theorem Bss.bytes {w : World} {B n : Nat} {A : Option Addr} {ls : List (List Nat)} (h : Bss w B A n ls) : ∀ l ∈ ls, ∀ x ∈ l, x < 256 := by
  intro l hl x hx
  obtain ⟨i, hi, rfl⟩ := List.mem_iff_getElem.1 hl
  obtain ⟨b, o, A', n', c', _, _, _, _, hy⟩ := h.at_ (k := i) (by rw [← h.1]; exact hi)
  have e : textAt ls i = ls[i] := by simp [textAt, hi]
  rw [e] at hy
  exact hy.2.1 x hx

set_option maxHeartbeats 400000 in
theorem join_any (A : Option Addr) (n c B : Nat) (ls : List (List Nat)) (w : World) (hl : Bss w B A n ls) (hn : n ≤ maxLen) (ht : Tab w) :
    Calls Tryd.prog 49 #[.slice A n c] w fun e w' => e = .returned (.int .u32 ((moreC 0 ls.flatten : Nat) : Int)) ∧ w = w' := by
  unfold maxLen at hn
  have hby := hl.bytes
  go_enter Tryd.func49, Tryd.ntmps49
  go_wp2
  go_loop [3, 8] (fun t i => ∃ k : Nat, k ≤ n ∧ i = .int .i64 k ∧ t = .int .u32 ((moreC 0 (ls.take k).flatten : Nat) : Int)) (fun _ i => n - (intOf i).toNat)
  case atStart => exact ⟨0, Nat.zero_le _, rfl, by rw [show moreC 0 (ls.take 0).flatten = 0 from moreC_nil 0]; rfl⟩
  case round =>
    obtain ⟨k, hk, rfl, rfl⟩ := hrel
    have hr := moreC_take_lt hby k
    by_cases hlt : k < n
    · obtain ⟨b, o, A', n', c', rfl, _, hc, hn', hy⟩ := hl.at_ hlt
      have HR := hide (moreC_append (ls.take k).flatten (textAt ls k) 0)
      have HF := hide (flatten_take_snoc ls k (by rw [hl.1]; exact hlt))
      go_wp2_with fail
      refine (more_any _ A' n' c' B _ _ hr hy (by unfold maxLen; omega) ht).mono ?_
      rintro e w' ⟨rfl, rfl⟩
      go_wp2
      go_round
      case rel => exact ⟨k + 1, by omega, by go_num, by rw [HF.out, HR.out]⟩
      case measure => simp [intOf]; omega
    · have HK := hide (show ls.take k = ls from List.take_of_length_le (by rw [hl.1]; omega))
      go_wp2
      go_ret
      exact ⟨ret_int (by rw [HK.out]), rfl⟩

set_option maxHeartbeats 400000 in
theorem sum_any (A : Option Addr) (n c : Nat) (l : List Nat) (w : World) (hl : Bytes w w.heap.size A n l) (hn : n ≤ 140737488355328) (ht : Tab w) :
    Calls Tryd.prog 41 #[.slice A n c] w fun e w' => e = .returned (.int .u32 ((moreC 0 l : Nat) : Int)) ∧ Below w.heap.size w w' := by
  go_enter Tryd.func41, Tryd.ntmps41
  go_wp2_with fail
  refine (join_any _ 1 1 _ [l] _ (Bss.one w hl hn (Nat.le_refl _) _) (by unfold maxLen; omega) (ht.alloc _)).mono ?_
  rintro e w' ⟨rfl, rfl⟩
  go_wp2
  go_ret
  exact ⟨ret_int (by simp), (Below.refl _ _).alloc (Nat.le_refl _) _⟩

theorem nine : moreC 0 [49, 50, 51, 52, 53, 54, 55, 56, 57] = 3421780262 := by decide +kernel
def nineCells : Array Value := #[.int .u8 49, .int .u8 50, .int .u8 51, .int .u8 52, .int .u8 53, .int .u8 54, .int .u8 55, .int .u8 56, .int .u8 57]
theorem nine_bytes (w : World) (t : TypeId) (fr : Nat × Nat) : Bytes (w.alloc (.cells nineCells t fr)) (w.alloc (.cells nineCells t fr)).heap.size (some ⟨w.heap.size, 0, none⟩) 9 [49, 50, 51, 52, 53, 54, 55, 56, 57] := by
  refine ⟨rfl, by decide, fun _ => ⟨w.heap.size, 0, rfl, by simp, fun i hi => ?_⟩⟩
  rw [cell_of_row _ _ _ _ _ _ (heap_alloc_new w _)]
  match i, hi with
  | 0, _ | 1, _ | 2, _ | 3, _ | 4, _ | 5, _ | 6, _ | 7, _ | 8, _ => rfl

end Go.Proofs.YtofbpkaebngnlaaDoor
