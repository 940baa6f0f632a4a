/-
  The fixed fact: the sum of abc has the digits that are published.
-/
import Derived.Test.YtihpfkkbnbjboaaDoorShaSum
import Derived.Lib.SlBytesConst
namespace Go.Proofs.YtihpfkkbnbjboaaDoor
set_option linter.unusedVariables false
set_option linter.unusedSimpArgs false
open Go.RowKit

def abcL : List Nat := [98, 97, 55, 56, 49, 54, 98, 102, 56, 102, 48, 49, 99, 102, 101, 97, 52, 49, 52, 49, 52, 48, 100, 101, 53, 100, 97, 101, 50, 50, 50, 51, 98, 48, 48, 51, 54, 49, 97, 51, 57, 54, 49, 55, 55, 97, 57, 99, 98, 52, 49, 48, 102, 102, 54, 49, 102, 50, 48, 48, 49, 53, 97, 100]
theorem abc_sum : textN (sumB [97, 98, 99]) = abcL := by decide +kernel
theorem abc_str : strOf abcL = { data := #[98, 97, 55, 56, 49, 54, 98, 102, 56, 102, 48, 49, 99, 102, 101, 97, 52, 49, 52, 49, 52, 48, 100, 101, 53, 100, 97, 101, 50, 50, 50, 51, 98, 48, 48, 51, 54, 49, 97, 51, 57, 54, 49, 55, 55, 97, 57, 99, 98, 52, 49, 48, 102, 102, 54, 49, 102, 50, 48, 48, 49, 53, 97, 100] } := data_inj (by decide +kernel)
theorem abc_bytes (w : World) (t : TypeId) (fr : Nat × Nat) : Bytes (w.alloc (.cells #[.int .u8 97, .int .u8 98, .int .u8 99] t fr)) (w.heap.size + 1) (some ⟨w.heap.size, 0, none⟩) 3 [97, 98, 99] := by
  refine ⟨rfl, by decide, fun _ => ⟨w.heap.size, 0, rfl, by omega, fun i hi => ?_⟩⟩
  rw [cell_of_row _ _ _ _ _ _ (heap_alloc_new w _)]
  match i, hi with
  | 0, _ | 1, _ | 2, _ => rfl

theorem Tabs.alloc {w : World} (h : Tabs w) (o : Obj) : Tabs (w.alloc o) := h.below ((Below.refl w.heap.size w).alloc (Nat.le_refl _) _) h.pos
theorem Tabs.later {w w' : World} (h : Tabs w) (hb : Below w.heap.size w w') : Tabs w' := h.below hb h.pos

set_option maxRecDepth 20000 in
set_option maxHeartbeats 1000000 in
theorem alive04_any (w : World) (ht : Tabs w) : Calls Tryd.prog 8 #[] w fun e w' => e = .returned (.bool true) ∧ Below w.heap.size w w' := by
  have kc := fun (w : World) (C : Array Value) (n c : Nat) => Lib.run_convert_bytes_const (P := Tryd.prog) w 22 5 C n c Tryd.underlying22 Tryd.underlying5
  have HT := hide ht
  clear ht
  go_enter Tryd.func8, Tryd.ntmps8
  go_wp2_with fail
  clear kc
  refine (sum_any _ 3 3 _ _ _ (abc_bytes w _ _) (by simp) (by omega) (HT.out.alloc _)).mono ?_
  rintro e w1 ⟨rfl, hb1⟩
  have HT1 := hide ((HT.out.alloc _).later hb1)
  have HB1 := hide (((Below.refl w.heap.size w).alloc (Nat.le_refl _) _).trans (hb1.mono (by simp)))
  clear hb1
  go_wp2_with fail
  refine (text_any _ w1 (sumB_length _) (sumB_lt _)).mono ?_
  rintro e w2 ⟨rfl, hb2⟩
  rw [abc_sum, abc_str]
  have HB2 := hide (HB1.out.trans (hb2.mono HB1.out.size))
  clear HB1 hb2 HT1
  go_wp2_with fail
  refine (pad_any none 0 0 0 [] w2 Bytes.nil (by omega) (by omega)).mono ?_
  rintro e w3 ⟨A, c, rfl, ho, hb3⟩
  have HB3 := hide (HB2.out.trans (hb3.mono HB2.out.size))
  clear hb3 ho HB2
  have hz : zerosN 0 = 55 := rfl
  rw [hz]
  go_wp2
  go_ret
  exact ⟨rfl, HB3.out⟩
end Go.Proofs.YtihpfkkbnbjboaaDoor
