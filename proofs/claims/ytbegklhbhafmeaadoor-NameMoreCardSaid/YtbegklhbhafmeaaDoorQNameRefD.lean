/-
  Contracts over the document's own names: the table of which beginnings of a name are like which beginnings of a pattern; what is like what.
-/
import Derived.Test.YtbegklhbhafmeaaDoorQNameRefC
namespace Go.Proofs.YtbegklhbhafmeaaDoor
set_option linter.unusedVariables false
set_option linter.unusedSimpArgs false
open Go.RowKit
set_option linter.unusedVariables false
set_option linter.unusedSimpArgs false

theorem list_over {P : Program} {ops : Array Oper} {Q : Exit → Act → World → Prop} {rest : List Oper} {a : Act} {W : World} (F : World → Prop) (hF : F W) (h : ∀ W', F W' → wpList P ops Q rest a W') : wpList P ops Q rest a W := h W hF
/-- block g is just a row of bools -/
def BRow (w : World) (g : Nat) (vs : List Bool) : Prop := w.heap[g]? = some (.cells (vs.map Value.bool).toArray 4 (0, 0))
section
variable {w w' : World} {g : Nat} {vs : List Bool}
theorem BRow.lt (h : BRow w g vs) : g < w.heap.size := (Array.getElem?_eq_some_iff.1 h).1
theorem BRow.cell (h : BRow w g vs) {i : Nat} {b : Bool} (hb : vs[i]? = some b) : w.cell? ⟨g, i, none⟩ = some (.bool b) := by
  rw [cell_of_row w g i _ _ (0, 0) h]
  simp [hb]
theorem BRow.frozen (h : BRow w g vs) (i : Nat) : w.frozen? ⟨g, i, none⟩ = false := frozen_of_row w g i _ _ h
theorem BRow.put (h : BRow w g vs) (i : Nat) (b : Bool) : BRow (w.setCell ⟨g, i, none⟩ (.bool b)) g (vs.set i b) := by
  unfold BRow
  rw [heap_setCell_same w g i _ _ _ h]
  congr 2
  apply Array.ext'
  simp [List.map_set]
theorem BRow.far (h : BRow w g vs) {g' : Nat} (hne : g ≠ g') (i : Nat) (v : Value) : BRow (w.setCell ⟨g', i, none⟩ v) g vs := (Below.heap_setCell w ⟨g', i, none⟩ v g hne).trans h
theorem BRow.alloc (h : BRow w g vs) (o : Obj) : BRow (w.alloc o) g vs := (Below.heap_alloc w o g h.lt).trans h
theorem BRow.new (w : World) (n : Nat) : BRow (w.alloc (.cells (Array.replicate n (Value.bool false)) 4)) w.heap.size (List.replicate n false) := by
  unfold BRow
  rw [heap_alloc_new w _, List.map_replicate, List.toArray_replicate]
theorem BRow.drew (h : BRow w g vs) : BRow w.drew g vs := h
end
/-- a row of m bools that a function says -/
def fnV (m : Nat) (f : Nat → Bool) : List Bool := (List.range m).map f
theorem fnV_get {m j : Nat} (f : Nat → Bool) (h : j < m) : (fnV m f)[j]? = some (f j) := by
  unfold fnV
  rw [List.getElem?_map, List.getElem?_range h]; rfl
theorem fnV_ext {m : Nat} {f g : Nat → Bool} (h : ∀ j, j < m → f j = g j) : fnV m f = fnV m g := List.map_congr_left fun j hj => h j (List.mem_range.1 hj)
theorem fnV_set {m k : Nat} {f g : Nat → Bool} {b : Bool} (hk : k < m) (hb : g k = b) (h : ∀ j, j < m → j ≠ k → g j = f j) : (fnV m f).set k b = fnV m g := by
  apply List.ext_getElem?
  intro j
  by_cases hj : j < m
  · rw [fnV_get g hj]
    by_cases he : k = j
    · subst he
      rw [List.getElem?_set_self (by unfold fnV; rw [List.length_map, List.length_range]; exact hk), hb]
    · rw [List.getElem?_set_ne he, fnV_get f hj, h j hj (Ne.symm he)]
  · rw [List.getElem?_eq_none (by unfold fnV; rw [List.length_set, List.length_map, List.length_range]; omega), List.getElem?_eq_none (by unfold fnV; rw [List.length_map, List.length_range]; omega)]
theorem fnV_zero (m : Nat) : List.replicate m false = fnV m fun _ => false := by
  unfold fnV
  exact (List.eq_replicate_iff.2 ⟨by simp, by simp⟩).symm
/-- row i of the table -/
def rowF (p s : List Nat) (i k : Nat) : Bool := likeF (p.take i) (s.take k)
def halfF (p s : List Nat) (i k j : Nat) : Bool := if j < k then rowF p s (i + 1) j else false
theorem row_zero {p s : List Nat} {m : Nat} (hm : m = s.length + 1) : (List.replicate m false).set 0 true = fnV m (rowF p s 0) := by
  rw [fnV_zero]
  refine fnV_set (by omega) ?_ fun j hj h0 => ?_
  · unfold rowF; rw [List.take_zero, like_nil_s]; rfl
  · unfold rowF
    rw [List.take_zero, like_nil_s, decide_eq_false_iff_not]
    intro e
    have := congrArg List.length e
    rw [List.length_take, List.length_nil] at this
    omega
theorem half_one {p s : List Nat} {m i : Nat} {b : Bool} (hm : 0 < m) (hb : rowF p s (i + 1) 0 = b) : (List.replicate m false).set 0 b = fnV m (halfF p s i 1) := by
  rw [fnV_zero]
  refine fnV_set hm ?_ fun j hj h0 => ?_
  · unfold halfF; rw [if_pos (by omega)]; exact hb
  · unfold halfF; rw [if_neg (by omega)]
theorem half_more {p s : List Nat} {m i k : Nat} {b : Bool} (hk : k < m) (hb : rowF p s (i + 1) k = b) : (fnV m (halfF p s i k)).set k b = fnV m (halfF p s i (k + 1)) := by
  refine fnV_set hk ?_ fun j hj h0 => ?_
  · unfold halfF; rw [if_pos (by omega)]; exact hb
  · unfold halfF
    by_cases h : j < k
    · rw [if_pos h, if_pos (by omega)]
    · rw [if_neg h, if_neg (by omega)]
theorem half_all {p s : List Nat} {m i : Nat} : fnV m (halfF p s i m) = fnV m (rowF p s (i + 1)) := fnV_ext fun j hj => by unfold halfF; rw [if_pos hj]
theorem row_first {p s : List Nat} {i c : Nat} (hc : p[i]? = some c) : rowF p s (i + 1) 0 = (wildB c && rowF p s i 0) := by
  unfold rowF
  rw [take_snoc_n _ _ _ hc, List.take_zero, like_zero]
theorem row_wild {p s : List Nat} {i k c x : Nat} (hc : p[i]? = some c) (hx : s[k]? = some x) (h : wildB c = true) : rowF p s (i + 1) (k + 1) = (rowF p s i (k + 1) || (rowF p s (i + 1) k && (decide (c = 42) || decide (x ≠ 47)))) := by
  unfold rowF
  rw [take_snoc_n _ _ _ hc, take_snoc_n _ _ _ hx, like_wild _ _ _ _ h]
theorem row_one {p s : List Nat} {i k c x : Nat} (hc : p[i]? = some c) (hx : s[k]? = some x) (h : wildB c = false) : rowF p s (i + 1) (k + 1) = (rowF p s i k && decide (x = c)) := by
  unfold rowF
  rw [take_snoc_n _ _ _ hc, take_snoc_n _ _ _ hx, like_one _ _ _ _ h]
theorem run_make_row1 (n : Nat) (hn : n ≤ 100000) (W : World) : (Instr.makeSlice 44 (.int .i64 ((n : Int) + 1)) (.int .i64 ((n : Int) + 1))).run Tryd.prog W = .ok (.slice (some ⟨W.heap.size, 0, none⟩) (n + 1) (n + 1)) (W.alloc (.cells (Array.replicate (n + 1) (Value.bool false)) 4)) := by
  obtain ⟨i, hi, hz, hs, hb⟩ := info_parts (show (Tryd.prog.info? 4).map (fun i => (i.zero, i.size, i.bytes)) = some (some (.bool false), 1, 1) by kernel_rfl)
  have := run_make (P := Tryd.prog) W 44 4 i _ Tryd.underlying44 hi hz .i64 .i64 ((n : Int) + 1) ((n : Int) + 1) (by omega) (Int.le_refl _) (by rw [hb]; omega) (by omega)
  rw [this, hs, show ((n : Int) + 1).toNat = n + 1 by omega, Nat.mul_one]
  have e1 : madeCells (Value.bool false).cells (n + 1) = Array.replicate (n + 1) (Value.bool false) := by
    apply Array.ext'
    rw [show (Value.bool false).cells = #[Value.bool false] from rfl, toList_madeCells_one, Array.toList_replicate]
  rw [e1]

set_option maxRecDepth 20000 in
set_option maxHeartbeats 8000000 in
theorem xatable_any (p s : ByteArray) (hp : p.size ≤ 1000) (hs : s.size ≤ 1000) (w : World) : Calls Tryd.prog 29 #[.string p, .string s] w fun e w' => e = .returned (.bool (likeF (nats p) (nats s))) ∧ Below w.heap.size w w' := by
  have HNP := Lib.hid (nats_length p)
  have HNS := Lib.hid (nats_length s)
  have hmk := run_make_row1 s.size (by omega)
  have hws : IntKind.i64.wrap ((s.size : Int) + 1) = (s.size : Int) + 1 := IntWalk.i64_in _ (by omega)
  have hs0 : (0 : Int) < (s.size : Int) + 1 := by omega
  go_enter Tryd.func29, Tryd.ntmps29
  go_wp2_with ((with_reducible show wpList _ _ _ (⟨none, _, _, _, _, _⟩ :: _) _ _); refine hold ?_)
  refine held (list_over (fun W => BRow W w.heap.size (List.replicate (s.size + 1) false) ∧ Below w.heap.size w W) ⟨BRow.new _ _, (Below.refl _ _).alloc (Nat.le_refl _) _⟩ ?_)
  rintro W ⟨hrow, hbW⟩
  have hB : Below w.heap.size w (W.setCell ⟨w.heap.size, 0, none⟩ (.bool true)) := hbW.setCell (Nat.le_refl _) _
  have hR : BRow (W.setCell ⟨w.heap.size, 0, none⟩ (.bool true)) w.heap.size (fnV (s.size + 1) (rowF (nats p) (nats s) 0)) := by
    rw [← row_zero (by rw [HNS.out])]; exact hrow.put 0 true
  have c0 := hrow.cell (i := 0) (b := false) (by simp)
  have f0 := hrow.frozen 0
  have HBB := Lib.hid hB
  have HRR := Lib.hid hR
  clear hrow hbW hB hR
  go_wp2_with fail
  clear c0 f0
  go_loopw [5, 6] (fun r i wx => ∃ (k g : Nat), k ≤ p.size ∧ i = .int .i64 (k : Int) ∧ r = .slice (some ⟨g, 0, none⟩) (s.size + 1) (s.size + 1) ∧ w.heap.size ≤ g ∧ BRow wx g (fnV (s.size + 1) (rowF (nats p) (nats s) k)) ∧ Below w.heap.size w wx) (fun _ i _ => p.size - (intOf i).toNat)
  case atStart => exact ⟨0, w.heap.size, Nat.zero_le _, rfl, rfl, Nat.le_refl _, HRR.out, HBB.out⟩
  case round =>
    obtain ⟨k, g, hk, rfl, rfl, hgb, hrow, hb⟩ := hrel
    have HROW := Lib.hid hrow
    have HB := Lib.hid hb
    have HGB := Lib.hid hgb
    clear hrow hb hgb
    by_cases hlt : k < p.size
    · have a0 : (0 : Int) ≤ (k : Int) := by omega
      have a1 : (k : Int) < (p.size : Int) := by omega
      have HC := Lib.hid (nats_byte p k hlt)
      have hcb : p[k].toNat < 256 := p[k].toNat_lt
      have hgl := HROW.out.lt
      have hne : g ≠ wr.heap.size := by omega
      have hws2 : w.heap.size ≤ wr.heap.size := HB.out.size
      have r0 := HROW.out.cell (fnV_get _ (by omega : 0 < s.size + 1))
      by_cases h42 : p[k].toNat = 42
      · have e42 : ((p[k].toNat : Int) == 42) = true := by rw [h42]; rfl
        have HW : Hid (wildB p[k].toNat = true) := Lib.hid (decide_eq_true (.inl h42))
        cases hr0 : rowF (nats p) (nats s) k 0
        · rw [hr0] at r0
          have HF : Hid (rowF (nats p) (nats s) (k + 1) 0 = false) := Lib.hid (by rw [row_first HC.out, HW.out, hr0]; rfl)
          clear hr0
          go_wp2_with ((with_reducible show wpList _ _ _ (⟨none, _, _, _, _, _⟩ :: _) _ _); refine hold ?_)
          refine held (list_over (fun W => BRow W wr.heap.size (List.replicate (s.size + 1) false) ∧ BRow W g (fnV (s.size + 1) (rowF (nats p) (nats s) k)) ∧ Below w.heap.size w W) ⟨BRow.new _ _, HROW.out.alloc _, HB.out.alloc HB.out.size _⟩ ?_)
          rintro W ⟨hnew, hold_, hbW⟩
          obtain ⟨g2, hg2⟩ : ∃ g2, wr.heap.size = g2 := ⟨_, rfl⟩
          rw [hg2] at hnew hne hws2 hgl ⊢
          clear hg2
          have HB2 := Lib.hid (hbW.setCell (p := ⟨g2, 0, none⟩) hws2 (.bool false))
          have HOLD := Lib.hid (hold_.far hne 0 (.bool false))
          have HNEW : Hid (BRow (W.setCell ⟨g2, 0, none⟩ (.bool false)) g2 (fnV (s.size + 1) (halfF (nats p) (nats s) k 1))) := Lib.hid (by rw [← half_one (by omega) HF.out]; exact hnew.put 0 _)
          have c0 := hnew.cell (i := 0) (b := false) (by simp)
          have f0 := hnew.frozen 0
          clear hnew hold_ hbW r0
          go_wp2_with fail
          clear c0 f0
          go_loopw [9] (fun i wx => ∃ j : Nat, j ≤ s.size ∧ i = .int .i64 ((j : Int) + 1) ∧ BRow wx g (fnV (s.size + 1) (rowF (nats p) (nats s) k)) ∧ BRow wx g2 (fnV (s.size + 1) (halfF (nats p) (nats s) k (j + 1))) ∧ Below w.heap.size w wx) (fun i _ => s.size + 1 - (intOf i).toNat)
          case atStart => exact ⟨0, Nat.zero_le _, rfl, HOLD.out, HNEW.out, HB2.out⟩
          case round =>
            obtain ⟨j, hj, rfl, hold_, hnew, hb⟩ := hrel
            have HO := Lib.hid hold_
            have HN := Lib.hid hnew
            have HB3 := Lib.hid hb
            clear hold_ hnew hb HOLD HNEW HB2
            by_cases hlj : j < s.size
            · have b0 : (0 : Int) ≤ (j : Int) := by omega
              have b1 : (j : Int) < (s.size : Int) := by omega
              have b2 : (j : Int) + 1 ≤ (s.size : Int) := by omega
              have b3 : (j : Int) + 1 < (s.size : Int) + 1 := by omega
              have b4 : (0 : Int) ≤ (j : Int) + 1 := by omega
              have b5 : (j : Int) < (s.size : Int) + 1 := by omega
              have hwj : IntKind.i64.wrap ((j : Int) + 1 - 1) = (j : Int) := by rw [IntWalk.i64_in _ (by omega)]; omega
              have hwk : IntKind.i64.wrap ((j : Int) + 1 + 1) = (j : Int) + 1 + 1 := IntWalk.i64_in _ (by omega)
              have hjt : ((j : Int) + 1).toNat = j + 1 := by omega
              have HX := Lib.hid (nats_byte s j hlj)
              have hxb : s[j].toNat < 256 := s[j].toNat_lt
              have cw := HN.out.cell (fnV_get _ (by omega : j + 1 < s.size + 1))
              have fw := HN.out.frozen (j + 1)
              have cr := HO.out.cell (fnV_get _ (by omega : j + 1 < s.size + 1))
              have cn := HN.out.cell (fnV_get _ (by omega : j < s.size + 1))
              rw [show halfF (nats p) (nats s) k (j + 1) j = rowF (nats p) (nats s) (k + 1) j from if_pos (by omega)] at cn
              cases hr : rowF (nats p) (nats s) k (j + 1)
              · cases hx : rowF (nats p) (nats s) (k + 1) j
                · rw [hr] at cr
                  rw [hx] at cn
                  have HF2 : Hid (rowF (nats p) (nats s) (k + 1) (j + 1) = false) := Lib.hid (by rw [row_wild HC.out HX.out HW.out]; rw [hr, hx]; rfl)
                  have HNN : Hid (BRow (wr.setCell ⟨g2, j + 1, none⟩ (.bool false)) g2 (fnV (s.size + 1) (halfF (nats p) (nats s) k (j + 1 + 1)))) := Lib.hid (by rw [← half_more (by omega) HF2.out]; exact HN.out.put (j + 1) _)
                  have HOO : Hid (BRow (wr.setCell ⟨g2, j + 1, none⟩ (.bool false)) g (fnV (s.size + 1) (rowF (nats p) (nats s) k))) := Lib.hid (HO.out.far hne (j + 1) _)
                  have HBB3 : Hid (Below w.heap.size w (wr.setCell ⟨g2, j + 1, none⟩ (.bool false))) := Lib.hid (HB3.out.setCell (p := ⟨g2, j + 1, none⟩) hws2 _)
                  go_wp2_with fail
                  go_roundw
                  case rel => exact ⟨j + 1, by omega, by first | rfl | go_num, HOO.out, HNN.out, HBB3.out⟩
                  case measure => simp [intOf]; omega
                · rw [hr] at cr
                  rw [hx] at cn
                  have HF2 : Hid (rowF (nats p) (nats s) (k + 1) (j + 1) = true) := Lib.hid (by rw [row_wild HC.out HX.out HW.out]; rw [hr, hx, h42]; rfl)
                  have HNN : Hid (BRow (wr.setCell ⟨g2, j + 1, none⟩ (.bool true)) g2 (fnV (s.size + 1) (halfF (nats p) (nats s) k (j + 1 + 1)))) := Lib.hid (by rw [← half_more (by omega) HF2.out]; exact HN.out.put (j + 1) _)
                  have HOO : Hid (BRow (wr.setCell ⟨g2, j + 1, none⟩ (.bool true)) g (fnV (s.size + 1) (rowF (nats p) (nats s) k))) := Lib.hid (HO.out.far hne (j + 1) _)
                  have HBB3 : Hid (Below w.heap.size w (wr.setCell ⟨g2, j + 1, none⟩ (.bool true))) := Lib.hid (HB3.out.setCell (p := ⟨g2, j + 1, none⟩) hws2 _)
                  go_wp2_with fail
                  go_roundw
                  case rel => exact ⟨j + 1, by omega, by first | rfl | go_num, HOO.out, HNN.out, HBB3.out⟩
                  case measure => simp [intOf]; omega
              · rw [hr] at cr
                clear cn
                have HF2 : Hid (rowF (nats p) (nats s) (k + 1) (j + 1) = true) := Lib.hid (by rw [row_wild HC.out HX.out HW.out]; rw [hr]; rfl)
                have HNN : Hid (BRow (wr.setCell ⟨g2, j + 1, none⟩ (.bool true)) g2 (fnV (s.size + 1) (halfF (nats p) (nats s) k (j + 1 + 1)))) := Lib.hid (by rw [← half_more (by omega) HF2.out]; exact HN.out.put (j + 1) _)
                have HOO : Hid (BRow (wr.setCell ⟨g2, j + 1, none⟩ (.bool true)) g (fnV (s.size + 1) (rowF (nats p) (nats s) k))) := Lib.hid (HO.out.far hne (j + 1) _)
                have HBB3 : Hid (Below w.heap.size w (wr.setCell ⟨g2, j + 1, none⟩ (.bool true))) := Lib.hid (HB3.out.setCell (p := ⟨g2, j + 1, none⟩) hws2 _)
                go_wp2_with fail
                go_roundw
                case rel => exact ⟨j + 1, by omega, by first | rfl | go_num, HOO.out, HNN.out, HBB3.out⟩
                case measure => simp [intOf]; omega
            · have b2 : ¬ (j : Int) + 1 ≤ (s.size : Int) := by omega
              have HE : Hid (fnV (s.size + 1) (halfF (nats p) (nats s) k (j + 1)) = fnV (s.size + 1) (rowF (nats p) (nats s) (k + 1))) := Lib.hid (by rw [show j = s.size by omega]; exact half_all)
              go_wp2_with fail
              go_roundw
              case rel => exact ⟨k + 1, g2, by omega, by go_num, rfl, hws2, by rw [← HE.out]; exact HN.out, HB3.out⟩
              case measure => simp [intOf]; omega
        · rw [hr0] at r0
          have HF : Hid (rowF (nats p) (nats s) (k + 1) 0 = true) := Lib.hid (by rw [row_first HC.out, HW.out, hr0]; rfl)
          clear hr0
          go_wp2_with ((with_reducible show wpList _ _ _ (⟨none, _, _, _, _, _⟩ :: _) _ _); refine hold ?_)
          refine held (list_over (fun W => BRow W wr.heap.size (List.replicate (s.size + 1) false) ∧ BRow W g (fnV (s.size + 1) (rowF (nats p) (nats s) k)) ∧ Below w.heap.size w W) ⟨BRow.new _ _, HROW.out.alloc _, HB.out.alloc HB.out.size _⟩ ?_)
          rintro W ⟨hnew, hold_, hbW⟩
          obtain ⟨g2, hg2⟩ : ∃ g2, wr.heap.size = g2 := ⟨_, rfl⟩
          rw [hg2] at hnew hne hws2 hgl ⊢
          clear hg2
          have HB2 := Lib.hid (hbW.setCell (p := ⟨g2, 0, none⟩) hws2 (.bool true))
          have HOLD := Lib.hid (hold_.far hne 0 (.bool true))
          have HNEW : Hid (BRow (W.setCell ⟨g2, 0, none⟩ (.bool true)) g2 (fnV (s.size + 1) (halfF (nats p) (nats s) k 1))) := Lib.hid (by rw [← half_one (by omega) HF.out]; exact hnew.put 0 _)
          have c0 := hnew.cell (i := 0) (b := false) (by simp)
          have f0 := hnew.frozen 0
          clear hnew hold_ hbW r0
          go_wp2_with fail
          clear c0 f0
          go_loopw [9] (fun i wx => ∃ j : Nat, j ≤ s.size ∧ i = .int .i64 ((j : Int) + 1) ∧ BRow wx g (fnV (s.size + 1) (rowF (nats p) (nats s) k)) ∧ BRow wx g2 (fnV (s.size + 1) (halfF (nats p) (nats s) k (j + 1))) ∧ Below w.heap.size w wx) (fun i _ => s.size + 1 - (intOf i).toNat)
          case atStart => exact ⟨0, Nat.zero_le _, rfl, HOLD.out, HNEW.out, HB2.out⟩
          case round =>
            obtain ⟨j, hj, rfl, hold_, hnew, hb⟩ := hrel
            have HO := Lib.hid hold_
            have HN := Lib.hid hnew
            have HB3 := Lib.hid hb
            clear hold_ hnew hb HOLD HNEW HB2
            by_cases hlj : j < s.size
            · have b0 : (0 : Int) ≤ (j : Int) := by omega
              have b1 : (j : Int) < (s.size : Int) := by omega
              have b2 : (j : Int) + 1 ≤ (s.size : Int) := by omega
              have b3 : (j : Int) + 1 < (s.size : Int) + 1 := by omega
              have b4 : (0 : Int) ≤ (j : Int) + 1 := by omega
              have b5 : (j : Int) < (s.size : Int) + 1 := by omega
              have hwj : IntKind.i64.wrap ((j : Int) + 1 - 1) = (j : Int) := by rw [IntWalk.i64_in _ (by omega)]; omega
              have hwk : IntKind.i64.wrap ((j : Int) + 1 + 1) = (j : Int) + 1 + 1 := IntWalk.i64_in _ (by omega)
              have hjt : ((j : Int) + 1).toNat = j + 1 := by omega
              have HX := Lib.hid (nats_byte s j hlj)
              have hxb : s[j].toNat < 256 := s[j].toNat_lt
              have cw := HN.out.cell (fnV_get _ (by omega : j + 1 < s.size + 1))
              have fw := HN.out.frozen (j + 1)
              have cr := HO.out.cell (fnV_get _ (by omega : j + 1 < s.size + 1))
              have cn := HN.out.cell (fnV_get _ (by omega : j < s.size + 1))
              rw [show halfF (nats p) (nats s) k (j + 1) j = rowF (nats p) (nats s) (k + 1) j from if_pos (by omega)] at cn
              cases hr : rowF (nats p) (nats s) k (j + 1)
              · cases hx : rowF (nats p) (nats s) (k + 1) j
                · rw [hr] at cr
                  rw [hx] at cn
                  have HF2 : Hid (rowF (nats p) (nats s) (k + 1) (j + 1) = false) := Lib.hid (by rw [row_wild HC.out HX.out HW.out]; rw [hr, hx]; rfl)
                  have HNN : Hid (BRow (wr.setCell ⟨g2, j + 1, none⟩ (.bool false)) g2 (fnV (s.size + 1) (halfF (nats p) (nats s) k (j + 1 + 1)))) := Lib.hid (by rw [← half_more (by omega) HF2.out]; exact HN.out.put (j + 1) _)
                  have HOO : Hid (BRow (wr.setCell ⟨g2, j + 1, none⟩ (.bool false)) g (fnV (s.size + 1) (rowF (nats p) (nats s) k))) := Lib.hid (HO.out.far hne (j + 1) _)
                  have HBB3 : Hid (Below w.heap.size w (wr.setCell ⟨g2, j + 1, none⟩ (.bool false))) := Lib.hid (HB3.out.setCell (p := ⟨g2, j + 1, none⟩) hws2 _)
                  go_wp2_with fail
                  go_roundw
                  case rel => exact ⟨j + 1, by omega, by first | rfl | go_num, HOO.out, HNN.out, HBB3.out⟩
                  case measure => simp [intOf]; omega
                · rw [hr] at cr
                  rw [hx] at cn
                  have HF2 : Hid (rowF (nats p) (nats s) (k + 1) (j + 1) = true) := Lib.hid (by rw [row_wild HC.out HX.out HW.out]; rw [hr, hx, h42]; rfl)
                  have HNN : Hid (BRow (wr.setCell ⟨g2, j + 1, none⟩ (.bool true)) g2 (fnV (s.size + 1) (halfF (nats p) (nats s) k (j + 1 + 1)))) := Lib.hid (by rw [← half_more (by omega) HF2.out]; exact HN.out.put (j + 1) _)
                  have HOO : Hid (BRow (wr.setCell ⟨g2, j + 1, none⟩ (.bool true)) g (fnV (s.size + 1) (rowF (nats p) (nats s) k))) := Lib.hid (HO.out.far hne (j + 1) _)
                  have HBB3 : Hid (Below w.heap.size w (wr.setCell ⟨g2, j + 1, none⟩ (.bool true))) := Lib.hid (HB3.out.setCell (p := ⟨g2, j + 1, none⟩) hws2 _)
                  go_wp2_with fail
                  go_roundw
                  case rel => exact ⟨j + 1, by omega, by first | rfl | go_num, HOO.out, HNN.out, HBB3.out⟩
                  case measure => simp [intOf]; omega
              · rw [hr] at cr
                clear cn
                have HF2 : Hid (rowF (nats p) (nats s) (k + 1) (j + 1) = true) := Lib.hid (by rw [row_wild HC.out HX.out HW.out]; rw [hr]; rfl)
                have HNN : Hid (BRow (wr.setCell ⟨g2, j + 1, none⟩ (.bool true)) g2 (fnV (s.size + 1) (halfF (nats p) (nats s) k (j + 1 + 1)))) := Lib.hid (by rw [← half_more (by omega) HF2.out]; exact HN.out.put (j + 1) _)
                have HOO : Hid (BRow (wr.setCell ⟨g2, j + 1, none⟩ (.bool true)) g (fnV (s.size + 1) (rowF (nats p) (nats s) k))) := Lib.hid (HO.out.far hne (j + 1) _)
                have HBB3 : Hid (Below w.heap.size w (wr.setCell ⟨g2, j + 1, none⟩ (.bool true))) := Lib.hid (HB3.out.setCell (p := ⟨g2, j + 1, none⟩) hws2 _)
                go_wp2_with fail
                go_roundw
                case rel => exact ⟨j + 1, by omega, by first | rfl | go_num, HOO.out, HNN.out, HBB3.out⟩
                case measure => simp [intOf]; omega
            · have b2 : ¬ (j : Int) + 1 ≤ (s.size : Int) := by omega
              have HE : Hid (fnV (s.size + 1) (halfF (nats p) (nats s) k (j + 1)) = fnV (s.size + 1) (rowF (nats p) (nats s) (k + 1))) := Lib.hid (by rw [show j = s.size by omega]; exact half_all)
              go_wp2_with fail
              go_roundw
              case rel => exact ⟨k + 1, g2, by omega, by go_num, rfl, hws2, by rw [← HE.out]; exact HN.out, HB3.out⟩
              case measure => simp [intOf]; omega
      · have e42 : ((p[k].toNat : Int) == 42) = false := by simp; omega
        by_cases h37 : p[k].toNat = 37
        · have e37 : ((p[k].toNat : Int) == 37) = true := by rw [h37]; rfl
          have HW : Hid (wildB p[k].toNat = true) := Lib.hid (decide_eq_true (.inr h37))
          cases hr0 : rowF (nats p) (nats s) k 0
          · rw [hr0] at r0
            have HF : Hid (rowF (nats p) (nats s) (k + 1) 0 = false) := Lib.hid (by rw [row_first HC.out, HW.out, hr0]; rfl)
            clear hr0
            go_wp2_with ((with_reducible show wpList _ _ _ (⟨none, _, _, _, _, _⟩ :: _) _ _); refine hold ?_)
            refine held (list_over (fun W => BRow W wr.heap.size (List.replicate (s.size + 1) false) ∧ BRow W g (fnV (s.size + 1) (rowF (nats p) (nats s) k)) ∧ Below w.heap.size w W) ⟨BRow.new _ _, HROW.out.alloc _, HB.out.alloc HB.out.size _⟩ ?_)
            rintro W ⟨hnew, hold_, hbW⟩
            obtain ⟨g2, hg2⟩ : ∃ g2, wr.heap.size = g2 := ⟨_, rfl⟩
            rw [hg2] at hnew hne hws2 hgl ⊢
            clear hg2
            have HB2 := Lib.hid (hbW.setCell (p := ⟨g2, 0, none⟩) hws2 (.bool false))
            have HOLD := Lib.hid (hold_.far hne 0 (.bool false))
            have HNEW : Hid (BRow (W.setCell ⟨g2, 0, none⟩ (.bool false)) g2 (fnV (s.size + 1) (halfF (nats p) (nats s) k 1))) := Lib.hid (by rw [← half_one (by omega) HF.out]; exact hnew.put 0 _)
            have c0 := hnew.cell (i := 0) (b := false) (by simp)
            have f0 := hnew.frozen 0
            clear hnew hold_ hbW r0
            go_wp2_with fail
            clear c0 f0
            go_loopw [9] (fun i wx => ∃ j : Nat, j ≤ s.size ∧ i = .int .i64 ((j : Int) + 1) ∧ BRow wx g (fnV (s.size + 1) (rowF (nats p) (nats s) k)) ∧ BRow wx g2 (fnV (s.size + 1) (halfF (nats p) (nats s) k (j + 1))) ∧ Below w.heap.size w wx) (fun i _ => s.size + 1 - (intOf i).toNat)
            case atStart => exact ⟨0, Nat.zero_le _, rfl, HOLD.out, HNEW.out, HB2.out⟩
            case round =>
              obtain ⟨j, hj, rfl, hold_, hnew, hb⟩ := hrel
              have HO := Lib.hid hold_
              have HN := Lib.hid hnew
              have HB3 := Lib.hid hb
              clear hold_ hnew hb HOLD HNEW HB2
              by_cases hlj : j < s.size
              · have b0 : (0 : Int) ≤ (j : Int) := by omega
                have b1 : (j : Int) < (s.size : Int) := by omega
                have b2 : (j : Int) + 1 ≤ (s.size : Int) := by omega
                have b3 : (j : Int) + 1 < (s.size : Int) + 1 := by omega
                have b4 : (0 : Int) ≤ (j : Int) + 1 := by omega
                have b5 : (j : Int) < (s.size : Int) + 1 := by omega
                have hwj : IntKind.i64.wrap ((j : Int) + 1 - 1) = (j : Int) := by rw [IntWalk.i64_in _ (by omega)]; omega
                have hwk : IntKind.i64.wrap ((j : Int) + 1 + 1) = (j : Int) + 1 + 1 := IntWalk.i64_in _ (by omega)
                have hjt : ((j : Int) + 1).toNat = j + 1 := by omega
                have HX := Lib.hid (nats_byte s j hlj)
                have hxb : s[j].toNat < 256 := s[j].toNat_lt
                have cw := HN.out.cell (fnV_get _ (by omega : j + 1 < s.size + 1))
                have fw := HN.out.frozen (j + 1)
                have cr := HO.out.cell (fnV_get _ (by omega : j + 1 < s.size + 1))
                have cn := HN.out.cell (fnV_get _ (by omega : j < s.size + 1))
                rw [show halfF (nats p) (nats s) k (j + 1) j = rowF (nats p) (nats s) (k + 1) j from if_pos (by omega)] at cn
                cases hr : rowF (nats p) (nats s) k (j + 1)
                · cases hx : rowF (nats p) (nats s) (k + 1) j
                  · rw [hr] at cr
                    rw [hx] at cn
                    have HF2 : Hid (rowF (nats p) (nats s) (k + 1) (j + 1) = false) := Lib.hid (by rw [row_wild HC.out HX.out HW.out]; rw [hr, hx]; rfl)
                    have HNN : Hid (BRow (wr.setCell ⟨g2, j + 1, none⟩ (.bool false)) g2 (fnV (s.size + 1) (halfF (nats p) (nats s) k (j + 1 + 1)))) := Lib.hid (by rw [← half_more (by omega) HF2.out]; exact HN.out.put (j + 1) _)
                    have HOO : Hid (BRow (wr.setCell ⟨g2, j + 1, none⟩ (.bool false)) g (fnV (s.size + 1) (rowF (nats p) (nats s) k))) := Lib.hid (HO.out.far hne (j + 1) _)
                    have HBB3 : Hid (Below w.heap.size w (wr.setCell ⟨g2, j + 1, none⟩ (.bool false))) := Lib.hid (HB3.out.setCell (p := ⟨g2, j + 1, none⟩) hws2 _)
                    go_wp2_with fail
                    go_roundw
                    case rel => exact ⟨j + 1, by omega, by first | rfl | go_num, HOO.out, HNN.out, HBB3.out⟩
                    case measure => simp [intOf]; omega
                  · rw [hr] at cr
                    rw [hx] at cn
                    by_cases h47 : s[j].toNat = 47
                    · have e47 : ((s[j].toNat : Int) != 47) = false := by simp [h47]
                      have HF2 : Hid (rowF (nats p) (nats s) (k + 1) (j + 1) = false) := Lib.hid (by rw [row_wild HC.out HX.out HW.out]; rw [hr, hx, h37, h47]; rfl)
                      have HNN : Hid (BRow (wr.setCell ⟨g2, j + 1, none⟩ (.bool false)) g2 (fnV (s.size + 1) (halfF (nats p) (nats s) k (j + 1 + 1)))) := Lib.hid (by rw [← half_more (by omega) HF2.out]; exact HN.out.put (j + 1) _)
                      have HOO : Hid (BRow (wr.setCell ⟨g2, j + 1, none⟩ (.bool false)) g (fnV (s.size + 1) (rowF (nats p) (nats s) k))) := Lib.hid (HO.out.far hne (j + 1) _)
                      have HBB3 : Hid (Below w.heap.size w (wr.setCell ⟨g2, j + 1, none⟩ (.bool false))) := Lib.hid (HB3.out.setCell (p := ⟨g2, j + 1, none⟩) hws2 _)
                      go_wp2_with fail
                      go_roundw
                      case rel => exact ⟨j + 1, by omega, by first | rfl | go_num, HOO.out, HNN.out, HBB3.out⟩
                      case measure => simp [intOf]; omega
                    · have e47 : ((s[j].toNat : Int) != 47) = true := by simp; omega
                      have HF2 : Hid (rowF (nats p) (nats s) (k + 1) (j + 1) = true) := Lib.hid (by rw [row_wild HC.out HX.out HW.out]; rw [hr, hx, h37, decide_eq_true h47]; rfl)
                      have HNN : Hid (BRow (wr.setCell ⟨g2, j + 1, none⟩ (.bool true)) g2 (fnV (s.size + 1) (halfF (nats p) (nats s) k (j + 1 + 1)))) := Lib.hid (by rw [← half_more (by omega) HF2.out]; exact HN.out.put (j + 1) _)
                      have HOO : Hid (BRow (wr.setCell ⟨g2, j + 1, none⟩ (.bool true)) g (fnV (s.size + 1) (rowF (nats p) (nats s) k))) := Lib.hid (HO.out.far hne (j + 1) _)
                      have HBB3 : Hid (Below w.heap.size w (wr.setCell ⟨g2, j + 1, none⟩ (.bool true))) := Lib.hid (HB3.out.setCell (p := ⟨g2, j + 1, none⟩) hws2 _)
                      go_wp2_with fail
                      go_roundw
                      case rel => exact ⟨j + 1, by omega, by first | rfl | go_num, HOO.out, HNN.out, HBB3.out⟩
                      case measure => simp [intOf]; omega
                · rw [hr] at cr
                  clear cn
                  have HF2 : Hid (rowF (nats p) (nats s) (k + 1) (j + 1) = true) := Lib.hid (by rw [row_wild HC.out HX.out HW.out]; rw [hr]; rfl)
                  have HNN : Hid (BRow (wr.setCell ⟨g2, j + 1, none⟩ (.bool true)) g2 (fnV (s.size + 1) (halfF (nats p) (nats s) k (j + 1 + 1)))) := Lib.hid (by rw [← half_more (by omega) HF2.out]; exact HN.out.put (j + 1) _)
                  have HOO : Hid (BRow (wr.setCell ⟨g2, j + 1, none⟩ (.bool true)) g (fnV (s.size + 1) (rowF (nats p) (nats s) k))) := Lib.hid (HO.out.far hne (j + 1) _)
                  have HBB3 : Hid (Below w.heap.size w (wr.setCell ⟨g2, j + 1, none⟩ (.bool true))) := Lib.hid (HB3.out.setCell (p := ⟨g2, j + 1, none⟩) hws2 _)
                  go_wp2_with fail
                  go_roundw
                  case rel => exact ⟨j + 1, by omega, by first | rfl | go_num, HOO.out, HNN.out, HBB3.out⟩
                  case measure => simp [intOf]; omega
              · have b2 : ¬ (j : Int) + 1 ≤ (s.size : Int) := by omega
                have HE : Hid (fnV (s.size + 1) (halfF (nats p) (nats s) k (j + 1)) = fnV (s.size + 1) (rowF (nats p) (nats s) (k + 1))) := Lib.hid (by rw [show j = s.size by omega]; exact half_all)
                go_wp2_with fail
                go_roundw
                case rel => exact ⟨k + 1, g2, by omega, by go_num, rfl, hws2, by rw [← HE.out]; exact HN.out, HB3.out⟩
                case measure => simp [intOf]; omega
          · rw [hr0] at r0
            have HF : Hid (rowF (nats p) (nats s) (k + 1) 0 = true) := Lib.hid (by rw [row_first HC.out, HW.out, hr0]; rfl)
            clear hr0
            go_wp2_with ((with_reducible show wpList _ _ _ (⟨none, _, _, _, _, _⟩ :: _) _ _); refine hold ?_)
            refine held (list_over (fun W => BRow W wr.heap.size (List.replicate (s.size + 1) false) ∧ BRow W g (fnV (s.size + 1) (rowF (nats p) (nats s) k)) ∧ Below w.heap.size w W) ⟨BRow.new _ _, HROW.out.alloc _, HB.out.alloc HB.out.size _⟩ ?_)
            rintro W ⟨hnew, hold_, hbW⟩
            obtain ⟨g2, hg2⟩ : ∃ g2, wr.heap.size = g2 := ⟨_, rfl⟩
            rw [hg2] at hnew hne hws2 hgl ⊢
            clear hg2
            have HB2 := Lib.hid (hbW.setCell (p := ⟨g2, 0, none⟩) hws2 (.bool true))
            have HOLD := Lib.hid (hold_.far hne 0 (.bool true))
            have HNEW : Hid (BRow (W.setCell ⟨g2, 0, none⟩ (.bool true)) g2 (fnV (s.size + 1) (halfF (nats p) (nats s) k 1))) := Lib.hid (by rw [← half_one (by omega) HF.out]; exact hnew.put 0 _)
            have c0 := hnew.cell (i := 0) (b := false) (by simp)
            have f0 := hnew.frozen 0
            clear hnew hold_ hbW r0
            go_wp2_with fail
            clear c0 f0
            go_loopw [9] (fun i wx => ∃ j : Nat, j ≤ s.size ∧ i = .int .i64 ((j : Int) + 1) ∧ BRow wx g (fnV (s.size + 1) (rowF (nats p) (nats s) k)) ∧ BRow wx g2 (fnV (s.size + 1) (halfF (nats p) (nats s) k (j + 1))) ∧ Below w.heap.size w wx) (fun i _ => s.size + 1 - (intOf i).toNat)
            case atStart => exact ⟨0, Nat.zero_le _, rfl, HOLD.out, HNEW.out, HB2.out⟩
            case round =>
              obtain ⟨j, hj, rfl, hold_, hnew, hb⟩ := hrel
              have HO := Lib.hid hold_
              have HN := Lib.hid hnew
              have HB3 := Lib.hid hb
              clear hold_ hnew hb HOLD HNEW HB2
              by_cases hlj : j < s.size
              · have b0 : (0 : Int) ≤ (j : Int) := by omega
                have b1 : (j : Int) < (s.size : Int) := by omega
                have b2 : (j : Int) + 1 ≤ (s.size : Int) := by omega
                have b3 : (j : Int) + 1 < (s.size : Int) + 1 := by omega
                have b4 : (0 : Int) ≤ (j : Int) + 1 := by omega
                have b5 : (j : Int) < (s.size : Int) + 1 := by omega
                have hwj : IntKind.i64.wrap ((j : Int) + 1 - 1) = (j : Int) := by rw [IntWalk.i64_in _ (by omega)]; omega
                have hwk : IntKind.i64.wrap ((j : Int) + 1 + 1) = (j : Int) + 1 + 1 := IntWalk.i64_in _ (by omega)
                have hjt : ((j : Int) + 1).toNat = j + 1 := by omega
                have HX := Lib.hid (nats_byte s j hlj)
                have hxb : s[j].toNat < 256 := s[j].toNat_lt
                have cw := HN.out.cell (fnV_get _ (by omega : j + 1 < s.size + 1))
                have fw := HN.out.frozen (j + 1)
                have cr := HO.out.cell (fnV_get _ (by omega : j + 1 < s.size + 1))
                have cn := HN.out.cell (fnV_get _ (by omega : j < s.size + 1))
                rw [show halfF (nats p) (nats s) k (j + 1) j = rowF (nats p) (nats s) (k + 1) j from if_pos (by omega)] at cn
                cases hr : rowF (nats p) (nats s) k (j + 1)
                · cases hx : rowF (nats p) (nats s) (k + 1) j
                  · rw [hr] at cr
                    rw [hx] at cn
                    have HF2 : Hid (rowF (nats p) (nats s) (k + 1) (j + 1) = false) := Lib.hid (by rw [row_wild HC.out HX.out HW.out]; rw [hr, hx]; rfl)
                    have HNN : Hid (BRow (wr.setCell ⟨g2, j + 1, none⟩ (.bool false)) g2 (fnV (s.size + 1) (halfF (nats p) (nats s) k (j + 1 + 1)))) := Lib.hid (by rw [← half_more (by omega) HF2.out]; exact HN.out.put (j + 1) _)
                    have HOO : Hid (BRow (wr.setCell ⟨g2, j + 1, none⟩ (.bool false)) g (fnV (s.size + 1) (rowF (nats p) (nats s) k))) := Lib.hid (HO.out.far hne (j + 1) _)
                    have HBB3 : Hid (Below w.heap.size w (wr.setCell ⟨g2, j + 1, none⟩ (.bool false))) := Lib.hid (HB3.out.setCell (p := ⟨g2, j + 1, none⟩) hws2 _)
                    go_wp2_with fail
                    go_roundw
                    case rel => exact ⟨j + 1, by omega, by first | rfl | go_num, HOO.out, HNN.out, HBB3.out⟩
                    case measure => simp [intOf]; omega
                  · rw [hr] at cr
                    rw [hx] at cn
                    by_cases h47 : s[j].toNat = 47
                    · have e47 : ((s[j].toNat : Int) != 47) = false := by simp [h47]
                      have HF2 : Hid (rowF (nats p) (nats s) (k + 1) (j + 1) = false) := Lib.hid (by rw [row_wild HC.out HX.out HW.out]; rw [hr, hx, h37, h47]; rfl)
                      have HNN : Hid (BRow (wr.setCell ⟨g2, j + 1, none⟩ (.bool false)) g2 (fnV (s.size + 1) (halfF (nats p) (nats s) k (j + 1 + 1)))) := Lib.hid (by rw [← half_more (by omega) HF2.out]; exact HN.out.put (j + 1) _)
                      have HOO : Hid (BRow (wr.setCell ⟨g2, j + 1, none⟩ (.bool false)) g (fnV (s.size + 1) (rowF (nats p) (nats s) k))) := Lib.hid (HO.out.far hne (j + 1) _)
                      have HBB3 : Hid (Below w.heap.size w (wr.setCell ⟨g2, j + 1, none⟩ (.bool false))) := Lib.hid (HB3.out.setCell (p := ⟨g2, j + 1, none⟩) hws2 _)
                      go_wp2_with fail
                      go_roundw
                      case rel => exact ⟨j + 1, by omega, by first | rfl | go_num, HOO.out, HNN.out, HBB3.out⟩
                      case measure => simp [intOf]; omega
                    · have e47 : ((s[j].toNat : Int) != 47) = true := by simp; omega
                      have HF2 : Hid (rowF (nats p) (nats s) (k + 1) (j + 1) = true) := Lib.hid (by rw [row_wild HC.out HX.out HW.out]; rw [hr, hx, h37, decide_eq_true h47]; rfl)
                      have HNN : Hid (BRow (wr.setCell ⟨g2, j + 1, none⟩ (.bool true)) g2 (fnV (s.size + 1) (halfF (nats p) (nats s) k (j + 1 + 1)))) := Lib.hid (by rw [← half_more (by omega) HF2.out]; exact HN.out.put (j + 1) _)
                      have HOO : Hid (BRow (wr.setCell ⟨g2, j + 1, none⟩ (.bool true)) g (fnV (s.size + 1) (rowF (nats p) (nats s) k))) := Lib.hid (HO.out.far hne (j + 1) _)
                      have HBB3 : Hid (Below w.heap.size w (wr.setCell ⟨g2, j + 1, none⟩ (.bool true))) := Lib.hid (HB3.out.setCell (p := ⟨g2, j + 1, none⟩) hws2 _)
                      go_wp2_with fail
                      go_roundw
                      case rel => exact ⟨j + 1, by omega, by first | rfl | go_num, HOO.out, HNN.out, HBB3.out⟩
                      case measure => simp [intOf]; omega
                · rw [hr] at cr
                  clear cn
                  have HF2 : Hid (rowF (nats p) (nats s) (k + 1) (j + 1) = true) := Lib.hid (by rw [row_wild HC.out HX.out HW.out]; rw [hr]; rfl)
                  have HNN : Hid (BRow (wr.setCell ⟨g2, j + 1, none⟩ (.bool true)) g2 (fnV (s.size + 1) (halfF (nats p) (nats s) k (j + 1 + 1)))) := Lib.hid (by rw [← half_more (by omega) HF2.out]; exact HN.out.put (j + 1) _)
                  have HOO : Hid (BRow (wr.setCell ⟨g2, j + 1, none⟩ (.bool true)) g (fnV (s.size + 1) (rowF (nats p) (nats s) k))) := Lib.hid (HO.out.far hne (j + 1) _)
                  have HBB3 : Hid (Below w.heap.size w (wr.setCell ⟨g2, j + 1, none⟩ (.bool true))) := Lib.hid (HB3.out.setCell (p := ⟨g2, j + 1, none⟩) hws2 _)
                  go_wp2_with fail
                  go_roundw
                  case rel => exact ⟨j + 1, by omega, by first | rfl | go_num, HOO.out, HNN.out, HBB3.out⟩
                  case measure => simp [intOf]; omega
              · have b2 : ¬ (j : Int) + 1 ≤ (s.size : Int) := by omega
                have HE : Hid (fnV (s.size + 1) (halfF (nats p) (nats s) k (j + 1)) = fnV (s.size + 1) (rowF (nats p) (nats s) (k + 1))) := Lib.hid (by rw [show j = s.size by omega]; exact half_all)
                go_wp2_with fail
                go_roundw
                case rel => exact ⟨k + 1, g2, by omega, by go_num, rfl, hws2, by rw [← HE.out]; exact HN.out, HB3.out⟩
                case measure => simp [intOf]; omega
        · have e37 : ((p[k].toNat : Int) == 37) = false := by simp; omega
          have HW : Hid (wildB p[k].toNat = false) := Lib.hid (decide_eq_false (by rintro (h | h); exact h42 h; exact h37 h))
          have HF : Hid (rowF (nats p) (nats s) (k + 1) 0 = false) := Lib.hid (by rw [row_first HC.out, HW.out]; rfl)
          go_wp2_with ((with_reducible show wpList _ _ _ (⟨none, _, _, _, _, _⟩ :: _) _ _); refine hold ?_)
          refine held (list_over (fun W => BRow W wr.heap.size (List.replicate (s.size + 1) false) ∧ BRow W g (fnV (s.size + 1) (rowF (nats p) (nats s) k)) ∧ Below w.heap.size w W) ⟨BRow.new _ _, HROW.out.alloc _, HB.out.alloc HB.out.size _⟩ ?_)
          rintro W ⟨hnew, hold_, hbW⟩
          obtain ⟨g2, hg2⟩ : ∃ g2, wr.heap.size = g2 := ⟨_, rfl⟩
          rw [hg2] at hnew hne hws2 hgl ⊢
          clear hg2
          have HB2 := Lib.hid (hbW.setCell (p := ⟨g2, 0, none⟩) hws2 (.bool false))
          have HOLD := Lib.hid (hold_.far hne 0 (.bool false))
          have HNEW : Hid (BRow (W.setCell ⟨g2, 0, none⟩ (.bool false)) g2 (fnV (s.size + 1) (halfF (nats p) (nats s) k 1))) := Lib.hid (by rw [← half_one (by omega) HF.out]; exact hnew.put 0 _)
          have c0 := hnew.cell (i := 0) (b := false) (by simp)
          have f0 := hnew.frozen 0
          clear hnew hold_ hbW r0
          go_wp2_with fail
          clear c0 f0
          go_loopw [9] (fun i wx => ∃ j : Nat, j ≤ s.size ∧ i = .int .i64 ((j : Int) + 1) ∧ BRow wx g (fnV (s.size + 1) (rowF (nats p) (nats s) k)) ∧ BRow wx g2 (fnV (s.size + 1) (halfF (nats p) (nats s) k (j + 1))) ∧ Below w.heap.size w wx) (fun i _ => s.size + 1 - (intOf i).toNat)
          case atStart => exact ⟨0, Nat.zero_le _, rfl, HOLD.out, HNEW.out, HB2.out⟩
          case round =>
            obtain ⟨j, hj, rfl, hold_, hnew, hb⟩ := hrel
            have HO := Lib.hid hold_
            have HN := Lib.hid hnew
            have HB3 := Lib.hid hb
            clear hold_ hnew hb HOLD HNEW HB2
            by_cases hlj : j < s.size
            · have b0 : (0 : Int) ≤ (j : Int) := by omega
              have b1 : (j : Int) < (s.size : Int) := by omega
              have b2 : (j : Int) + 1 ≤ (s.size : Int) := by omega
              have b3 : (j : Int) + 1 < (s.size : Int) + 1 := by omega
              have b4 : (0 : Int) ≤ (j : Int) + 1 := by omega
              have b5 : (j : Int) < (s.size : Int) + 1 := by omega
              have hwj : IntKind.i64.wrap ((j : Int) + 1 - 1) = (j : Int) := by rw [IntWalk.i64_in _ (by omega)]; omega
              have hwk : IntKind.i64.wrap ((j : Int) + 1 + 1) = (j : Int) + 1 + 1 := IntWalk.i64_in _ (by omega)
              have hjt : ((j : Int) + 1).toNat = j + 1 := by omega
              have HX := Lib.hid (nats_byte s j hlj)
              have hxb : s[j].toNat < 256 := s[j].toNat_lt
              have cw := HN.out.cell (fnV_get _ (by omega : j + 1 < s.size + 1))
              have fw := HN.out.frozen (j + 1)
              have cr := HO.out.cell (fnV_get _ (by omega : j < s.size + 1))
              have hwj0 : IntKind.i64.wrap (j : Int) = (j : Int) := IntWalk.i64_in _ (by omega)
              cases hr : rowF (nats p) (nats s) k j
              · rw [hr] at cr
                have HF2 : Hid (rowF (nats p) (nats s) (k + 1) (j + 1) = false) := Lib.hid (by rw [row_one HC.out HX.out HW.out]; rw [hr]; rfl)
                have HNN : Hid (BRow (wr.setCell ⟨g2, j + 1, none⟩ (.bool false)) g2 (fnV (s.size + 1) (halfF (nats p) (nats s) k (j + 1 + 1)))) := Lib.hid (by rw [← half_more (by omega) HF2.out]; exact HN.out.put (j + 1) _)
                have HOO : Hid (BRow (wr.setCell ⟨g2, j + 1, none⟩ (.bool false)) g (fnV (s.size + 1) (rowF (nats p) (nats s) k))) := Lib.hid (HO.out.far hne (j + 1) _)
                have HBB3 : Hid (Below w.heap.size w (wr.setCell ⟨g2, j + 1, none⟩ (.bool false))) := Lib.hid (HB3.out.setCell (p := ⟨g2, j + 1, none⟩) hws2 _)
                go_wp2_with fail
                refine wp_region_still_tail 18 (by kernel_rfl) (by kernel_rfl) ?_
                simp only [List.take_succ_cons, List.take_zero, List.drop_succ_cons, List.drop_zero]
                repeat (with_reducible refine wpStill_step (fun K hK => ?_); go_simp; with_reducible refine hK _ ?_; clear hK K)
                with_reducible refine wpStill_nil ?_
                change wpList _ _ _ _ _ wr.drew
                go_wp2_with fail
                go_roundw
                case rel => exact ⟨j + 1, by omega, by first | rfl | go_num, HOO.out, HNN.out, HBB3.out.drew⟩
                case measure => simp [intOf]; omega
              · rw [hr] at cr
                by_cases hxc : s[j].toNat = p[k].toNat
                · have exc : ((s[j].toNat : Int) == (p[k].toNat : Int)) = true := by rw [hxc]; simp
                  have HF2 : Hid (rowF (nats p) (nats s) (k + 1) (j + 1) = true) := Lib.hid (by rw [row_one HC.out HX.out HW.out]; rw [hr, hxc]; simp)
                  have HNN : Hid (BRow (wr.setCell ⟨g2, j + 1, none⟩ (.bool true)) g2 (fnV (s.size + 1) (halfF (nats p) (nats s) k (j + 1 + 1)))) := Lib.hid (by rw [← half_more (by omega) HF2.out]; exact HN.out.put (j + 1) _)
                  have HOO : Hid (BRow (wr.setCell ⟨g2, j + 1, none⟩ (.bool true)) g (fnV (s.size + 1) (rowF (nats p) (nats s) k))) := Lib.hid (HO.out.far hne (j + 1) _)
                  have HBB3 : Hid (Below w.heap.size w (wr.setCell ⟨g2, j + 1, none⟩ (.bool true))) := Lib.hid (HB3.out.setCell (p := ⟨g2, j + 1, none⟩) hws2 _)
                  go_wp2_with fail
                  refine wp_region_still_tail 18 (by kernel_rfl) (by kernel_rfl) ?_
                  simp only [List.take_succ_cons, List.take_zero, List.drop_succ_cons, List.drop_zero]
                  repeat (with_reducible refine wpStill_step (fun K hK => ?_); go_simp; with_reducible refine hK _ ?_; clear hK K)
                  with_reducible refine wpStill_nil ?_
                  change wpList _ _ _ _ _ wr.drew
                  go_wp2_with fail
                  go_roundw
                  case rel => exact ⟨j + 1, by omega, by first | rfl | go_num, HOO.out, HNN.out, HBB3.out.drew⟩
                  case measure => simp [intOf]; omega
                · have exc : ((s[j].toNat : Int) == (p[k].toNat : Int)) = false := by rw [beq_eq_false_iff_ne]; omega
                  have HF2 : Hid (rowF (nats p) (nats s) (k + 1) (j + 1) = false) := Lib.hid (by rw [row_one HC.out HX.out HW.out]; rw [hr, decide_eq_false hxc]; rfl)
                  have HNN : Hid (BRow (wr.setCell ⟨g2, j + 1, none⟩ (.bool false)) g2 (fnV (s.size + 1) (halfF (nats p) (nats s) k (j + 1 + 1)))) := Lib.hid (by rw [← half_more (by omega) HF2.out]; exact HN.out.put (j + 1) _)
                  have HOO : Hid (BRow (wr.setCell ⟨g2, j + 1, none⟩ (.bool false)) g (fnV (s.size + 1) (rowF (nats p) (nats s) k))) := Lib.hid (HO.out.far hne (j + 1) _)
                  have HBB3 : Hid (Below w.heap.size w (wr.setCell ⟨g2, j + 1, none⟩ (.bool false))) := Lib.hid (HB3.out.setCell (p := ⟨g2, j + 1, none⟩) hws2 _)
                  go_wp2_with fail
                  refine wp_region_still_tail 18 (by kernel_rfl) (by kernel_rfl) ?_
                  simp only [List.take_succ_cons, List.take_zero, List.drop_succ_cons, List.drop_zero]
                  repeat (with_reducible refine wpStill_step (fun K hK => ?_); go_simp; with_reducible refine hK _ ?_; clear hK K)
                  with_reducible refine wpStill_nil ?_
                  change wpList _ _ _ _ _ wr.drew
                  go_wp2_with fail
                  go_roundw
                  case rel => exact ⟨j + 1, by omega, by first | rfl | go_num, HOO.out, HNN.out, HBB3.out.drew⟩
                  case measure => simp [intOf]; omega
            · have b2 : ¬ (j : Int) + 1 ≤ (s.size : Int) := by omega
              have HE : Hid (fnV (s.size + 1) (halfF (nats p) (nats s) k (j + 1)) = fnV (s.size + 1) (rowF (nats p) (nats s) (k + 1))) := Lib.hid (by rw [show j = s.size by omega]; exact half_all)
              go_wp2_with fail
              go_roundw
              case rel => exact ⟨k + 1, g2, by omega, by go_num, rfl, hws2, by rw [← HE.out]; exact HN.out, HB3.out⟩
              case measure => simp [intOf]; omega
    · have a1 : ¬ (k : Int) < (p.size : Int) := by omega
      have hkp : k = p.size := by omega
      have HV : Hid (likeF (nats p) (nats s) = rowF (nats p) (nats s) k s.size) := Lib.hid (by unfold rowF; rw [List.take_of_length_le (by rw [HNP.out]; omega), List.take_of_length_le (by rw [HNS.out]; omega)])
      have c1 := HROW.out.cell (fnV_get _ (by omega : s.size < s.size + 1))
      rw [← HV.out] at c1
      have a2 : (s.size : Int) < (s.size : Int) + 1 := by omega
      have a3 : (0 : Int) ≤ (s.size : Int) := by omega
      clear hkp
      go_wp2_with fail
      go_ret
      exact ⟨rfl, HB.out⟩

set_option maxRecDepth 20000 in
set_option maxHeartbeats 4000000 in
theorem xaLike_any (p s : ByteArray) (hp : p.size ≤ 140737488355328) (hs : s.size ≤ 140737488355328) (w : World) : Calls Tryd.prog 20 #[.string p, .string s] w fun e w' => e = .returned (.bool (patB (nats p) && (rightN (nats s) && likeF (nats p) (nats s)))) ∧ Below w.heap.size w w' := by
  have CP : Hid (∀ W, Calls Tryd.prog 27 #[.string p] W fun e w' => e = .returned (.bool (patB (nats p))) ∧ W = w') := Lib.hid fun W => xaPattern_any p hp W
  have CR : Hid (∀ W, Calls Tryd.prog 11 #[.string s] W fun e w' => e = .returned (.bool (rightN (nats s))) ∧ W = w') := Lib.hid fun W => xaRight_any s hs W
  cases h1 : patB (nats p)
  · rw [h1] at CP
    clear h1
    go_enter Tryd.func20, Tryd.ntmps20
    go_wp2_with fail
    refine (CP.out _).mono ?_
    rintro e w' ⟨rfl, rfl⟩
    go_wp2_with fail
    go_ret
    exact ⟨rfl, Below.refl _ _⟩
  · cases h2 : rightN (nats s)
    · rw [h1] at CP
      rw [h2] at CR
      clear h1 h2
      go_enter Tryd.func20, Tryd.ntmps20
      go_wp2_with fail
      refine (CP.out _).mono ?_
      rintro e w' ⟨rfl, rfl⟩
      go_wp2_with fail
      refine (CR.out _).mono ?_
      rintro e w' ⟨rfl, rfl⟩
      go_wp2_with fail
      go_ret
      exact ⟨rfl, Below.refl _ _⟩
    · have k1 : p.size ≤ 1000 := by have := (of_decide_eq_true h1).1; rw [nats_length] at this; omega
      have k2 : s.size ≤ 1000 := by have := (of_decide_eq_true (of_decide_eq_true h2).1).2.1; rw [nats_length] at this; omega
      rw [h1] at CP
      rw [h2] at CR
      clear h1 h2
      obtain ⟨b, hb⟩ : ∃ b, likeF (nats p) (nats s) = b := ⟨_, rfl⟩
      have CT : Hid (Calls Tryd.prog 29 #[.string p, .string s] w fun e w' => e = .returned (.bool b) ∧ Below w.heap.size w w') := Lib.hid (by rw [← hb]; exact xatable_any p s k1 k2 w)
      rw [hb]
      clear hb
      go_enter Tryd.func20, Tryd.ntmps20
      go_wp2_with fail
      refine (CP.out _).mono ?_
      rintro e w' ⟨rfl, rfl⟩
      go_wp2_with fail
      refine (CR.out _).mono ?_
      rintro e w' ⟨rfl, rfl⟩
      go_wp2_with fail
      refine CT.out.mono ?_
      rintro e w' ⟨rfl, hbl⟩
      go_wp2_with fail
      go_ret
      exact ⟨by cases b <;> rfl, hbl⟩
end Go.Proofs.YtbegklhbhafmeaaDoor
