/-
  Contracts over package rule: a mailbox' seconds, set.
-/
import Derived.Test.YtkalnaidccgbiaaRuleI
import Derived.Test.YtkalnaidccgbiaaRuleH
namespace Go.Proofs.Ytkalnaidccgbiaa
open Go.RowKit
set_option linter.unusedVariables false
set_option linter.unusedSimpArgs false

theorem neR_rise {l : List Rul} (h : riseR l) (box : ByteArray) : riseR (neR box l) := h.filter _
theorem neR_lt (l : List Rul) (box : ByteArray) : (neR box l).filter (fun r => decide (ltS r.1 box)) = l.filter (fun r => decide (ltS r.1 box)) := by
  unfold neR
  rw [List.filter_filter]
  refine List.filter_congr fun r _ => ?_
  by_cases h : ltS r.1 box
  · simp [h, ltS_ne h]
  · simp [h]
theorem neR_gt (l : List Rul) (box : ByteArray) : (neR box l).filter (fun r => decide (¬ ltS r.1 box)) = l.filter (fun r => decide (ltS box r.1)) := by
  rw [← filter_great (l := l) box]
  unfold neR
  rw [List.filter_filter, List.filter_filter]
  refine List.filter_congr fun r _ => ?_
  rw [Bool.and_comm]
theorem ltL_ne (l : List Rul) (box : ByteArray) : ltL box (neR box l) = l.filter (fun r => decide (ltS r.1 box)) := neR_lt l box
theorem neR_parts {l : List Rul} (h : riseR l) (box : ByteArray) : neR box l = l.filter (fun r => decide (ltS r.1 box)) ++ l.filter (fun r => decide (ltS box r.1)) := by
  have := riseR_split (neR_rise h box) box
  rwa [neR_lt, neR_gt] at this
theorem set_none {l : List Rul} (h : riseR l) (box : ByteArray) {keep : Int} (hk : ¬ 0 < keep) : setR l box keep = neR box l := by
  unfold setR newR
  rw [if_neg hk, List.nil_append, neR_parts h]
theorem set_some {l : List Rul} (h : riseR l) (box : ByteArray) {keep : Int} (hk : 0 < keep) : setR l box keep = (neR box l).take (ltL box (neR box l)).length ++ [(box, keep)] ++ (neR box l).drop (ltL box (neR box l)).length := by
  unfold setR newR
  rw [if_pos hk, ltL_ne, neR_parts h, List.take_left, List.drop_left, List.append_assoc]
theorem OwnK.fresh {α : Type} {k : Nat} {f : α → List Value} {w : World} {base n c : Nat} {e : TypeId} {A : Option Addr} {l : List α} (h : OwnK k f w base e A n c l) : ∀ a, A = some a → w.heap.size ≠ a.block := by
  intro a ha
  subst ha
  rcases h.1.2 with ⟨hv, _⟩ | ⟨g, cap, cur, hv, _, hc, _⟩
  · cases hv
  · injection hv with hv
    injection hv with hv
    subst hv
    have := (Array.getElem?_eq_some_iff.1 hc).1
    exact fun e => by simp only at e; omega
set_option maxRecDepth 20000 in
set_option maxHeartbeats 4000000 in
theorem rlSet_any (A : Option Addr) (n c : Nat) (l : List Rul) (box : ByteArray) (keep : Int) (w : World) (hl : ColK 2 rulC w w.heap.size A n l) (hn : n ≤ 10000) (hr : riseR l) :
    Calls Try.prog 21 #[.slice A n c, .string box, .int .i64 keep] w (GiveR w (setR l box keep)) := by
  have HR := Lib.hid hr
  have HL := Lib.hid hl
  clear hl hr
  go_enter Try.func21, Try.ntmps21
  go_wp2_with fail
  have hb1 : Below w.heap.size w (w.alloc (.cells #[.string box] 9)) := (Below.refl _ _).alloc (Nat.le_refl _) _
  have k1 : (w.alloc (.cells #[.string box] 9)).cell? ⟨w.heap.size, 0, none⟩ = some (.string box) := by rw [cell_of_row _ w.heap.size 0 _ _ (0, 0) (heap_alloc_new w _)]; rfl
  refine (rlClone_any A n c l _ (HL.out.later hb1) (by omega)).mono ?_
  rintro e w2 ⟨A2, c2, rfl, ho2, hb2⟩
  have hsz1 : (w.alloc (.cells #[.string box] 9)).heap.size = w.heap.size + 1 := by simp
  have O2 := Lib.hid (ho2.from_ (base' := w.heap.size + 1) (by rw [hsz1]; exact Nat.le_refl _))
  have K2 : Hid (w2.cell? ⟨w.heap.size, 0, none⟩ = some (.string box)) := Lib.hid ((hb2.cell (p := ⟨w.heap.size, 0, none⟩) (by rw [hsz1]; exact Nat.lt_succ_self _)).trans k1)
  have B2 := Lib.hid (hb1.trans (hb2.mono (by rw [hsz1]; omega)))
  have Z2 : Hid (w.heap.size + 1 ≤ w2.heap.size) := Lib.hid (by have := hb2.size; rw [hsz1] at this; exact this)
  clear ho2 hb2 hb1 k1 hsz1
  go_wp2_with fail
  refine (rlDelete_any (w.heap.size + 1) A2 n c2 w.heap.size box l w2 O2.out (by omega) K2.out (Nat.lt_succ_self _) Z2.out).mono ?_
  rintro e w3 ⟨A3, n3, rfl, hn3, ho3, hb3⟩
  have O3 := Lib.hid ho3
  have K3 : Hid (w3.cell? ⟨w.heap.size, 0, none⟩ = some (.string box)) := Lib.hid ((hb3.cell (p := ⟨w.heap.size, 0, none⟩) (Nat.lt_succ_self _)).trans K2.out)
  have B3 := Lib.hid (B2.out.trans (hb3.mono (Nat.le_succ _)))
  have Z3 := Lib.hid (Nat.le_trans Z2.out hb3.size)
  clear ho3 hb3 O2 K2 B2 Z2
  by_cases hk : 0 < keep
  · have hk' : ¬ keep ≤ 0 := by omega
    have HS := Lib.hid (set_some HR.out box hk)
    have HP : Hid ((ltL box (neR box l)).length ≤ n3) := Lib.hid (by have := O3.out.len; unfold ltL; have h2 := List.length_filter_le (fun r : Rul => decide (ltS r.1 box)) (neR box l); omega)
    have k3 := K3.out
    clear hk
    go_wp2_with fail
    refine (rlBinary_any A3 n3 c2 box (neR box l) w3 O3.out.col (by omega) (neR_rise HR.out box)).mono ?_
    rintro e w4 ⟨b, rfl, hb4⟩
    have O4 := Lib.hid (O3.out.below hb4)
    have k4 := (hb4.cell (p := ⟨w.heap.size, 0, none⟩) (show w.heap.size < w3.heap.size from Z3.out)).trans k3
    have B4 := Lib.hid (B3.out.trans (hb4.mono (by have := Z3.out; omega)))
    have Z4 := Lib.hid (Nat.le_trans Z3.out hb4.size)
    clear hb4 k3 K3 O3 B3 Z3
    obtain ⟨pl, hpl⟩ : ∃ pl, pl = (ltL box (neR box l)).length := ⟨_, rfl⟩
    rw [← hpl] at HS HP ⊢
    clear hpl
    go_wp2_with fail
    have ho5 : OwnK 2 rulC (w4.alloc (.cells #[.string box, .int .i64 keep] 54)) (w.heap.size + 1) 54 A3 n3 c2 (neR box l) := O4.out.alloc _
    refine (rlInsert_any (w.heap.size + 1) A3 n3 c2 pl w4.heap.size (box, keep) (neR box l) _ ho5 (by omega) HP.out (Bk.new w4 54 _) O4.out.fresh (by have := Z4.out; simp; omega)).mono ?_
    rintro e w6 ⟨A6, n6, c6, rfl, ho6, hb6⟩
    have O6 := Lib.hid ho6
    have B6 := Lib.hid ((B4.out.alloc B4.out.size _).trans (hb6.mono (Nat.le_succ _)))
    clear ho6 hb6 ho5 O4
    go_wp2_with fail
    go_ret
    exact ⟨A6, n6, c6, rfl, by rw [HS.out]; exact O6.out.from_ (Nat.le_succ _), B6.out⟩
  · have hk' : keep ≤ 0 := by omega
    have HS := Lib.hid (set_none HR.out box hk)
    clear hk
    go_wp2_with fail
    go_ret
    exact ⟨A3, n3, c2, rfl, by rw [HS.out]; exact O3.out.from_ (Nat.le_succ _), B3.out⟩
end Go.Proofs.Ytkalnaidccgbiaa
