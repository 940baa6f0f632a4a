/-
  A part of the proof: see the last text.
-/
import Derived.Test.YtbogjfbfgbhdbaaGreatDoorSStKBx
import Derived.Test.YtbogjfbfgbhdbaaGreatDoorSStKHo
import Derived.Test.YtbogjfbfgbhdbaaGreatDoorSStKSt
import Derived.Test.YtbogjfbfgbhdbaaGreatDoorSEventB
import Derived.Test.YtbogjfbfgbhdbaaGreatDoorSStE
namespace Go.Proofs.YtbogjfbfgbhdbaaGreatDoor
open List renaming setIfInBounds_toArray → jA, set_cons_zero → jB, set_cons_succ → jC, getElem_toArray → jD, getElem_cons_zero → jE, getElem_cons_succ → jF
set_option linter.unusedVariables false
set_option linter.unusedSimpArgs false
open Go.RowKit
set_option linter.unusedVariables false
set_option linter.unusedSimpArgs false
open Classical in
noncomputable instance : DecidableEq Tmb := fun a b => propDecidable (a = b)
open Classical in
noncomputable instance : DecidableEq Hol := fun a b => propDecidable (a = b)
open Classical in
noncomputable instance : DecidableEq Sta := fun a b => propDecidable (a = b)
section
variable {β : Type} [DecidableEq β] {l l' : List β} {k n n' : Nat} {a a' : β}
theorem eqNext14 (h : l.take k = l'.take k) (h1 : l.take (k + 1) = l.take k ++ [a]) (h2 : l'.take (k + 1) = l'.take k ++ [a']) (he : decide (a = a') = true) : l.take (k + 1) = l'.take (k + 1) := by
  rw [h1, h2, h, of_decide_eq_true he]
theorem eqStop14 (h1 : l[k]? = some a) (h2 : l'[k]? = some a') (he : decide (a = a') = false) : decide (l = l') = false := decide_eq_false (fun e => by
  subst e
  rw [h1] at h2
  injection h2 with h2
  exact of_decide_eq_false he h2)
theorem eqAll14 (h : l.take k = l'.take k) (hl : l.length = n) (hl' : l'.length = n) (hk : ¬ k < n) : decide (l = l') = true := decide_eq_true (by
  rw [List.take_of_length_le (by omega), List.take_of_length_le (by omega)] at h; exact h)
theorem eqLen14 (hl : l.length = n) (hl' : l'.length = n') (h : n ≠ n') : decide (l = l') = false := decide_eq_false (fun e => h (by rw [← hl, ← hl', e]))
end
def CallE (P : Program) {α β : Type} [DecidableEq β] (g : Nat) (v : α → Value) (Q : World → Nat → α → Prop) (G : α → β) (l l' : List β) : Prop :=
  ∀ (W : World) (x y : α), G x ∈ l → G y ∈ l' → Q W W.heap.size x → Q W W.heap.size y → Calls P g #[v x, v y] W (SaysB (decide (G x = G y)) W)
set_option maxRecDepth 20000 in
set_option maxHeartbeats 4000000 in
theorem zEqualFBx_any (g : Nat) (A A' : Option Addr) (n n' c c' : Nat) (l l' : List Bx) (w : World) (hl : BoxesIn w w.heap.size A n l) (hl' : BoxesIn w w.heap.size A' n' l') (hn : n ≤ 140737488355328) (hn' : n' ≤ 140737488355328)
    (hg : Enters Tryz.prog g) (hc : CallE Tryz.prog g (fun x => .agg (bhA x)) BhIn Bh.b l l') :
    Calls Tryz.prog 62 #[.slice A n c, .slice A' n' c', .func (.func g) #[] #[]] w (SaysB (decide (l = l')) w) := by
  have HL := Lib.hid hl
  have HL' := Lib.hid hl'
  have HC := Lib.hid hc
  have HG := Lib.hid hg
  clear hl hl' hc hg
  by_cases hnn : n ≠ n'
  · have HR := Lib.hid (eqLen14 HL.out.len HL'.out.len hnn)
    have hb : ((n : Int) != (n' : Int)) = true := by simp; omega
    clear hnn
    go_enter Tryz.func62, Tryz.ntmps62
    go_wp2_with fail
    go_ret
    exact ⟨by rw [HR.out] <;> rfl, Below.refl _ _⟩
  have HNN : Hid (n = n') := Lib.hid (by omega)
  have hb : ((n : Int) != (n' : Int)) = false := by simp; omega
  clear hnn
  go_enter Tryz.func62, Tryz.ntmps62
  go_wp2_with fail
  go_loopw [17] (fun i wx => ∃ k : Nat, k ≤ n ∧ i = .int .i64 (k : Int) ∧ l.take k = l'.take k ∧ Below w.heap.size w wx) (fun i _ => n - (intOf i).toNat)
  case atStart => exact ⟨0, Nat.zero_le _, rfl, rfl, Below.refl _ _⟩
  case round =>
    obtain ⟨k, hk, rfl, ha, hbw⟩ := hrel
    have HA := Lib.hid ha
    have HB := Lib.hid hbw
    clear ha hbw
    by_cases hlt : k < n
    · obtain ⟨b, o, x, rfl, hbb, hla, htk, hrow, hin⟩ := (HL.out.below bhStays HB.out (Nat.le_refl _)).at_ hlt
      have hlt' : k < n' := by have := HNN.out; omega
      obtain ⟨b', o', y, rfl, hbb', hla', htk', hrow', hin'⟩ := (HL'.out.below bhStays HB.out (Nat.le_refl _)).at_ hlt'
      have HLA := Lib.hid hla
      have HLA' := Lib.hid hla'
      have HTK := Lib.hid htk
      have HTK' := Lib.hid htk'
      have HROW := Lib.hid hrow
      obtain ⟨⟨x0, x1, x2, x3⟩, xA, xn, xc⟩ := x
      obtain ⟨⟨y0, y1, y2, y3⟩, yA, yn, yc⟩ := y
      have k0 : (0 : Int) ≤ (k : Int) := by omega
      have k1 : (k : Int) < (n : Int) := by omega
      have k1' : (k : Int) < (n' : Int) := by omega
      have hbn1 : Below wr.heap.size wr (wr.alloc (.cells (#[.string x0, .int .i64 x1, .int .i64 x2, .slice xA xn xc]) 44)) := (Below.refl _ _).alloc (Nat.le_refl _) _
      have HROW' := Lib.hid (rangeAtK_keep hrow' (fun i => hbn1.cell (p := ⟨b', i, none⟩) (Nat.lt_of_lt_of_le hbb' HB.out.size)))
      have hbn : Below wr.heap.size wr ((wr.alloc (.cells (#[.string x0, .int .i64 x1, .int .i64 x2, .slice xA xn xc]) 44)).alloc (.cells (#[.string y0, .int .i64 y1, .int .i64 y2, .slice yA yn yc]) 44)) := hbn1.alloc hbn1.size _
      have HLD1 : Hid (((wr.alloc (.cells (#[.string x0, .int .i64 x1, .int .i64 x2, .slice xA xn xc]) 44)).alloc (.cells (#[.string y0, .int .i64 y1, .int .i64 y2, .slice yA yn yc]) 44)).rangeAt wr.heap.size 0 (bhC ⟨⟨x0, x1, x2, x3⟩, xA, xn, xc⟩)) := Lib.hid (((Bk.new wr 44 (#[.string x0, .int .i64 x1, .int .i64 x2, .slice xA xn xc])).alloc _).range)
      have HLD2 : Hid (((wr.alloc (.cells (#[.string x0, .int .i64 x1, .int .i64 x2, .slice xA xn xc]) 44)).alloc (.cells (#[.string y0, .int .i64 y1, .int .i64 y2, .slice yA yn yc]) 44)).rangeAt (wr.heap.size + 1) 0 (bhC ⟨⟨y0, y1, y2, y3⟩, yA, yn, yc⟩)) := Lib.hid ((Bk.new2 wr _ 44 (#[.string y0, .int .i64 y1, .int .i64 y2, .slice yA yn yc])).range)
      have CI := Lib.hid (HC.out _ ⟨⟨x0, x1, x2, x3⟩, xA, xn, xc⟩ ⟨⟨y0, y1, y2, y3⟩, yA, yn, yc⟩ (List.mem_of_getElem? hla) (List.mem_of_getElem? hla') (bhStays.later_ (bhStays.more hin HB.out.size) hbn) (bhStays.later_ (bhStays.more hin' HB.out.size) hbn))
      have HBN := Lib.hid (HB.out.trans (hbn.mono HB.out.size))
      have HSZ : Hid (w.heap.size ≤ ((wr.alloc (.cells (#[.string x0, .int .i64 x1, .int .i64 x2, .slice xA xn xc]) 44)).alloc (.cells (#[.string y0, .int .i64 y1, .int .i64 y2, .slice yA yn yc]) 44)).heap.size) := Lib.hid (Nat.le_trans HB.out.size hbn.size)
      clear hla hla' htk htk' hrow hrow' hin hin' hbn hbn1
      go_wp2_with ((with_reducible show wpList _ _ _ (⟨some 21, _, _, _, _, _⟩ :: _) _ _); refine hold ?_)
      refine held (wpList_load_mid rfl 44 (.tmp 20) rfl b (o + k * 4) rfl (bhC ⟨⟨x0, x1, x2, x3⟩, xA, xn, xc⟩) _ HROW.out Tryz.underlying44 rfl (by kernel_rfl) ?_)
      rw [show (bhC ⟨⟨x0, x1, x2, x3⟩, xA, xn, xc⟩).toArray = #[.string x0, .int .i64 x1, .int .i64 x2, .slice xA xn xc] from rfl]
      go_wp2_with ((with_reducible show wpList _ _ _ (⟨some 25, _, _, _, _, _⟩ :: _) _ _); refine hold ?_)
      refine held (wpList_load_mid rfl 44 (.tmp 24) rfl b' (o' + k * 4) rfl (bhC ⟨⟨y0, y1, y2, y3⟩, yA, yn, yc⟩) _ HROW'.out Tryz.underlying44 rfl (by kernel_rfl) ?_)
      rw [show (bhC ⟨⟨y0, y1, y2, y3⟩, yA, yn, yc⟩).toArray = #[.string y0, .int .i64 y1, .int .i64 y2, .slice yA yn yc] from rfl]
      go_wp2_with ((with_reducible show wpList _ _ _ (⟨some 27, _, _, _, _, _⟩ :: _) _ _); refine hold ?_)
      refine held (wpList_load_mid rfl 44 (.tmp 8) rfl wr.heap.size 0 rfl (bhC ⟨⟨x0, x1, x2, x3⟩, xA, xn, xc⟩) _ HLD1.out Tryz.underlying44 rfl (by kernel_rfl) ?_)
      rw [bhC_A]
      go_wp2_with ((with_reducible show wpList _ _ _ (⟨some 28, _, _, _, _, _⟩ :: _) _ _); refine hold ?_)
      refine held (wpList_load_mid rfl 44 (.tmp 9) rfl (wr.heap.size + 1) 0 rfl (bhC ⟨⟨y0, y1, y2, y3⟩, yA, yn, yc⟩) _ HLD2.out Tryz.underlying44 rfl (by kernel_rfl) ?_)
      rw [bhC_A]
      go_wp2_with fail
      rw [HG.out]
      refine CI.out.mono ?_
      rintro e w5 ⟨rfl, hb5⟩
      have HB2 := Lib.hid (HBN.out.trans (hb5.mono HSZ.out))
      clear hb5 CI
      cases hm : decide (Bh.b ⟨⟨x0, x1, x2, x3⟩, xA, xn, xc⟩ = Bh.b ⟨⟨y0, y1, y2, y3⟩, yA, yn, yc⟩)
      · have HS := Lib.hid (eqStop14 HLA.out HLA'.out hm)
        clear hm
        go_wp2_with fail
        go_ret
        exact ⟨by rw [HS.out] <;> rfl, HB2.out⟩
      · have HS := Lib.hid (eqNext14 HA.out HTK.out HTK'.out hm)
        clear hm
        go_wp2_with fail
        go_roundw
        case rel => exact ⟨k + 1, by omega, by go_num, HS.out, HB2.out⟩
        case measure => simp [intOf]; omega
    · have hkn : ¬ (k : Int) < (n : Int) := by omega
      have HR := Lib.hid (eqAll14 HA.out HL.out.len (by rw [HNN.out]; exact HL'.out.len) hlt)
      go_wp2_with fail
      go_ret
      exact ⟨by rw [HR.out] <;> rfl, HB.out⟩
set_option maxRecDepth 20000 in
set_option maxHeartbeats 4000000 in
theorem zEqualFTb_any (g : Nat) (A A' : Option Addr) (n n' c c' : Nat) (l l' : List Tmb) (w : World) (hl : TombsIn w w.heap.size A n l) (hl' : TombsIn w w.heap.size A' n' l') (hn : n ≤ 140737488355328) (hn' : n' ≤ 140737488355328)
    (hg : Enters Tryz.prog g) (hc : CallE Tryz.prog g (fun x => .agg (thA x)) ThIn Th.t l l') :
    Calls Tryz.prog 66 #[.slice A n c, .slice A' n' c', .func (.func g) #[] #[]] w (SaysB (decide (l = l')) w) := by
  have HL := Lib.hid hl
  have HL' := Lib.hid hl'
  have HC := Lib.hid hc
  have HG := Lib.hid hg
  clear hl hl' hc hg
  by_cases hnn : n ≠ n'
  · have HR := Lib.hid (eqLen14 HL.out.len HL'.out.len hnn)
    have hb : ((n : Int) != (n' : Int)) = true := by simp; omega
    clear hnn
    go_enter Tryz.func66, Tryz.ntmps66
    go_wp2_with fail
    go_ret
    exact ⟨by rw [HR.out] <;> rfl, Below.refl _ _⟩
  have HNN : Hid (n = n') := Lib.hid (by omega)
  have hb : ((n : Int) != (n' : Int)) = false := by simp; omega
  clear hnn
  go_enter Tryz.func66, Tryz.ntmps66
  go_wp2_with fail
  go_loopw [17] (fun i wx => ∃ k : Nat, k ≤ n ∧ i = .int .i64 (k : Int) ∧ l.take k = l'.take k ∧ Below w.heap.size w wx) (fun i _ => n - (intOf i).toNat)
  case atStart => exact ⟨0, Nat.zero_le _, rfl, rfl, Below.refl _ _⟩
  case round =>
    obtain ⟨k, hk, rfl, ha, hbw⟩ := hrel
    have HA := Lib.hid ha
    have HB := Lib.hid hbw
    clear ha hbw
    by_cases hlt : k < n
    · obtain ⟨b, o, x, rfl, hbb, hla, htk, hrow, hin⟩ := (HL.out.below thStays HB.out (Nat.le_refl _)).at_ hlt
      have hlt' : k < n' := by have := HNN.out; omega
      obtain ⟨b', o', y, rfl, hbb', hla', htk', hrow', hin'⟩ := (HL'.out.below thStays HB.out (Nat.le_refl _)).at_ hlt'
      have HLA := Lib.hid hla
      have HLA' := Lib.hid hla'
      have HTK := Lib.hid htk
      have HTK' := Lib.hid htk'
      have HROW := Lib.hid hrow
      obtain ⟨⟨x0, x1, x2, ⟨x3, x4, x5, x6⟩⟩, xA, xn, xc⟩ := x
      obtain ⟨⟨y0, y1, y2, ⟨y3, y4, y5, y6⟩⟩, yA, yn, yc⟩ := y
      have k0 : (0 : Int) ≤ (k : Int) := by omega
      have k1 : (k : Int) < (n : Int) := by omega
      have k1' : (k : Int) < (n' : Int) := by omega
      have hbn1 : Below wr.heap.size wr (wr.alloc (.cells (#[.int .i64 x0, .string x1, .int .i64 x2, .int .i64 x3, .int .i64 x4, .int .i64 x5, .slice xA xn xc]) 51)) := (Below.refl _ _).alloc (Nat.le_refl _) _
      have HROW' := Lib.hid (rangeAtK_keep hrow' (fun i => hbn1.cell (p := ⟨b', i, none⟩) (Nat.lt_of_lt_of_le hbb' HB.out.size)))
      have hbn : Below wr.heap.size wr ((wr.alloc (.cells (#[.int .i64 x0, .string x1, .int .i64 x2, .int .i64 x3, .int .i64 x4, .int .i64 x5, .slice xA xn xc]) 51)).alloc (.cells (#[.int .i64 y0, .string y1, .int .i64 y2, .int .i64 y3, .int .i64 y4, .int .i64 y5, .slice yA yn yc]) 51)) := hbn1.alloc hbn1.size _
      have HLD1 : Hid (((wr.alloc (.cells (#[.int .i64 x0, .string x1, .int .i64 x2, .int .i64 x3, .int .i64 x4, .int .i64 x5, .slice xA xn xc]) 51)).alloc (.cells (#[.int .i64 y0, .string y1, .int .i64 y2, .int .i64 y3, .int .i64 y4, .int .i64 y5, .slice yA yn yc]) 51)).rangeAt wr.heap.size 0 (thC ⟨⟨x0, x1, x2, ⟨x3, x4, x5, x6⟩⟩, xA, xn, xc⟩)) := Lib.hid (((Bk.new wr 51 (#[.int .i64 x0, .string x1, .int .i64 x2, .int .i64 x3, .int .i64 x4, .int .i64 x5, .slice xA xn xc])).alloc _).range)
      have HLD2 : Hid (((wr.alloc (.cells (#[.int .i64 x0, .string x1, .int .i64 x2, .int .i64 x3, .int .i64 x4, .int .i64 x5, .slice xA xn xc]) 51)).alloc (.cells (#[.int .i64 y0, .string y1, .int .i64 y2, .int .i64 y3, .int .i64 y4, .int .i64 y5, .slice yA yn yc]) 51)).rangeAt (wr.heap.size + 1) 0 (thC ⟨⟨y0, y1, y2, ⟨y3, y4, y5, y6⟩⟩, yA, yn, yc⟩)) := Lib.hid ((Bk.new2 wr _ 51 (#[.int .i64 y0, .string y1, .int .i64 y2, .int .i64 y3, .int .i64 y4, .int .i64 y5, .slice yA yn yc])).range)
      have CI := Lib.hid (HC.out _ ⟨⟨x0, x1, x2, ⟨x3, x4, x5, x6⟩⟩, xA, xn, xc⟩ ⟨⟨y0, y1, y2, ⟨y3, y4, y5, y6⟩⟩, yA, yn, yc⟩ (List.mem_of_getElem? hla) (List.mem_of_getElem? hla') (thStays.later_ (thStays.more hin HB.out.size) hbn) (thStays.later_ (thStays.more hin' HB.out.size) hbn))
      have HBN := Lib.hid (HB.out.trans (hbn.mono HB.out.size))
      have HSZ : Hid (w.heap.size ≤ ((wr.alloc (.cells (#[.int .i64 x0, .string x1, .int .i64 x2, .int .i64 x3, .int .i64 x4, .int .i64 x5, .slice xA xn xc]) 51)).alloc (.cells (#[.int .i64 y0, .string y1, .int .i64 y2, .int .i64 y3, .int .i64 y4, .int .i64 y5, .slice yA yn yc]) 51)).heap.size) := Lib.hid (Nat.le_trans HB.out.size hbn.size)
      clear hla hla' htk htk' hrow hrow' hin hin' hbn hbn1
      go_wp2_with ((with_reducible show wpList _ _ _ (⟨some 21, _, _, _, _, _⟩ :: _) _ _); refine hold ?_)
      refine held (wpList_load_mid rfl 51 (.tmp 20) rfl b (o + k * 7) rfl (thC ⟨⟨x0, x1, x2, ⟨x3, x4, x5, x6⟩⟩, xA, xn, xc⟩) _ HROW.out Tryz.underlying51 rfl (by kernel_rfl) ?_)
      rw [show (thC ⟨⟨x0, x1, x2, ⟨x3, x4, x5, x6⟩⟩, xA, xn, xc⟩).toArray = #[.int .i64 x0, .string x1, .int .i64 x2, .int .i64 x3, .int .i64 x4, .int .i64 x5, .slice xA xn xc] from rfl]
      go_wp2_with ((with_reducible show wpList _ _ _ (⟨some 25, _, _, _, _, _⟩ :: _) _ _); refine hold ?_)
      refine held (wpList_load_mid rfl 51 (.tmp 24) rfl b' (o' + k * 7) rfl (thC ⟨⟨y0, y1, y2, ⟨y3, y4, y5, y6⟩⟩, yA, yn, yc⟩) _ HROW'.out Tryz.underlying51 rfl (by kernel_rfl) ?_)
      rw [show (thC ⟨⟨y0, y1, y2, ⟨y3, y4, y5, y6⟩⟩, yA, yn, yc⟩).toArray = #[.int .i64 y0, .string y1, .int .i64 y2, .int .i64 y3, .int .i64 y4, .int .i64 y5, .slice yA yn yc] from rfl]
      go_wp2_with ((with_reducible show wpList _ _ _ (⟨some 27, _, _, _, _, _⟩ :: _) _ _); refine hold ?_)
      refine held (wpList_load_mid rfl 51 (.tmp 8) rfl wr.heap.size 0 rfl (thC ⟨⟨x0, x1, x2, ⟨x3, x4, x5, x6⟩⟩, xA, xn, xc⟩) _ HLD1.out Tryz.underlying51 rfl (by kernel_rfl) ?_)
      rw [thC_A]
      go_wp2_with ((with_reducible show wpList _ _ _ (⟨some 28, _, _, _, _, _⟩ :: _) _ _); refine hold ?_)
      refine held (wpList_load_mid rfl 51 (.tmp 9) rfl (wr.heap.size + 1) 0 rfl (thC ⟨⟨y0, y1, y2, ⟨y3, y4, y5, y6⟩⟩, yA, yn, yc⟩) _ HLD2.out Tryz.underlying51 rfl (by kernel_rfl) ?_)
      rw [thC_A]
      go_wp2_with fail
      rw [HG.out]
      refine CI.out.mono ?_
      rintro e w5 ⟨rfl, hb5⟩
      have HB2 := Lib.hid (HBN.out.trans (hb5.mono HSZ.out))
      clear hb5 CI
      cases hm : decide (Th.t ⟨⟨x0, x1, x2, ⟨x3, x4, x5, x6⟩⟩, xA, xn, xc⟩ = Th.t ⟨⟨y0, y1, y2, ⟨y3, y4, y5, y6⟩⟩, yA, yn, yc⟩)
      · have HS := Lib.hid (eqStop14 HLA.out HLA'.out hm)
        clear hm
        go_wp2_with fail
        go_ret
        exact ⟨by rw [HS.out] <;> rfl, HB2.out⟩
      · have HS := Lib.hid (eqNext14 HA.out HTK.out HTK'.out hm)
        clear hm
        go_wp2_with fail
        go_roundw
        case rel => exact ⟨k + 1, by omega, by go_num, HS.out, HB2.out⟩
        case measure => simp [intOf]; omega
    · have hkn : ¬ (k : Int) < (n : Int) := by omega
      have HR := Lib.hid (eqAll14 HA.out HL.out.len (by rw [HNN.out]; exact HL'.out.len) hlt)
      go_wp2_with fail
      go_ret
      exact ⟨by rw [HR.out] <;> rfl, HB.out⟩
set_option maxRecDepth 20000 in
set_option maxHeartbeats 4000000 in
theorem zEqualFHo_any (g : Nat) (A A' : Option Addr) (n n' c c' : Nat) (l l' : List Hol) (w : World) (hl : HolsIn w w.heap.size A n l) (hl' : HolsIn w w.heap.size A' n' l') (hn : n ≤ 140737488355328) (hn' : n' ≤ 140737488355328)
    (hg : Enters Tryz.prog g) (hc : CallE Tryz.prog g (fun x => .agg (hhA x)) HhIn Hh.hol l l') :
    Calls Tryz.prog 68 #[.slice A n c, .slice A' n' c', .func (.func g) #[] #[]] w (SaysB (decide (l = l')) w) := by
  have HL := Lib.hid hl
  have HL' := Lib.hid hl'
  have HC := Lib.hid hc
  have HG := Lib.hid hg
  clear hl hl' hc hg
  by_cases hnn : n ≠ n'
  · have HR := Lib.hid (eqLen14 HL.out.len HL'.out.len hnn)
    have hb : ((n : Int) != (n' : Int)) = true := by simp; omega
    clear hnn
    go_enter Tryz.func68, Tryz.ntmps68
    go_wp2_with fail
    go_ret
    exact ⟨by rw [HR.out] <;> rfl, Below.refl _ _⟩
  have HNN : Hid (n = n') := Lib.hid (by omega)
  have hb : ((n : Int) != (n' : Int)) = false := by simp; omega
  clear hnn
  go_enter Tryz.func68, Tryz.ntmps68
  go_wp2_with fail
  go_loopw [17] (fun i wx => ∃ k : Nat, k ≤ n ∧ i = .int .i64 (k : Int) ∧ l.take k = l'.take k ∧ Below w.heap.size w wx) (fun i _ => n - (intOf i).toNat)
  case atStart => exact ⟨0, Nat.zero_le _, rfl, rfl, Below.refl _ _⟩
  case round =>
    obtain ⟨k, hk, rfl, ha, hbw⟩ := hrel
    have HA := Lib.hid ha
    have HB := Lib.hid hbw
    clear ha hbw
    by_cases hlt : k < n
    · obtain ⟨b, o, x, rfl, hbb, hla, htk, hrow, hin⟩ := (HL.out.below hhStays HB.out (Nat.le_refl _)).at_ hlt
      have hlt' : k < n' := by have := HNN.out; omega
      obtain ⟨b', o', y, rfl, hbb', hla', htk', hrow', hin'⟩ := (HL'.out.below hhStays HB.out (Nat.le_refl _)).at_ hlt'
      have HLA := Lib.hid hla
      have HLA' := Lib.hid hla'
      have HTK := Lib.hid htk
      have HTK' := Lib.hid htk'
      have HROW := Lib.hid hrow
      obtain ⟨x0, x1, xA, xn, xc, x2⟩ := x
      obtain ⟨y0, y1, yA, yn, yc, y2⟩ := y
      have k0 : (0 : Int) ≤ (k : Int) := by omega
      have k1 : (k : Int) < (n : Int) := by omega
      have k1' : (k : Int) < (n' : Int) := by omega
      have hbn1 : Below wr.heap.size wr (wr.alloc (.cells (#[.int .i64 x0, .string x1, .slice xA xn xc]) 71)) := (Below.refl _ _).alloc (Nat.le_refl _) _
      have HROW' := Lib.hid (rangeAtK_keep hrow' (fun i => hbn1.cell (p := ⟨b', i, none⟩) (Nat.lt_of_lt_of_le hbb' HB.out.size)))
      have hbn : Below wr.heap.size wr ((wr.alloc (.cells (#[.int .i64 x0, .string x1, .slice xA xn xc]) 71)).alloc (.cells (#[.int .i64 y0, .string y1, .slice yA yn yc]) 71)) := hbn1.alloc hbn1.size _
      have HLD1 : Hid (((wr.alloc (.cells (#[.int .i64 x0, .string x1, .slice xA xn xc]) 71)).alloc (.cells (#[.int .i64 y0, .string y1, .slice yA yn yc]) 71)).rangeAt wr.heap.size 0 (hhC ⟨x0, x1, xA, xn, xc, x2⟩)) := Lib.hid (((Bk.new wr 71 (#[.int .i64 x0, .string x1, .slice xA xn xc])).alloc _).range)
      have HLD2 : Hid (((wr.alloc (.cells (#[.int .i64 x0, .string x1, .slice xA xn xc]) 71)).alloc (.cells (#[.int .i64 y0, .string y1, .slice yA yn yc]) 71)).rangeAt (wr.heap.size + 1) 0 (hhC ⟨y0, y1, yA, yn, yc, y2⟩)) := Lib.hid ((Bk.new2 wr _ 71 (#[.int .i64 y0, .string y1, .slice yA yn yc])).range)
      have CI := Lib.hid (HC.out _ ⟨x0, x1, xA, xn, xc, x2⟩ ⟨y0, y1, yA, yn, yc, y2⟩ (List.mem_of_getElem? hla) (List.mem_of_getElem? hla') (hhStays.later_ (hhStays.more hin HB.out.size) hbn) (hhStays.later_ (hhStays.more hin' HB.out.size) hbn))
      have HBN := Lib.hid (HB.out.trans (hbn.mono HB.out.size))
      have HSZ : Hid (w.heap.size ≤ ((wr.alloc (.cells (#[.int .i64 x0, .string x1, .slice xA xn xc]) 71)).alloc (.cells (#[.int .i64 y0, .string y1, .slice yA yn yc]) 71)).heap.size) := Lib.hid (Nat.le_trans HB.out.size hbn.size)
      clear hla hla' htk htk' hrow hrow' hin hin' hbn hbn1
      go_wp2_with ((with_reducible show wpList _ _ _ (⟨some 21, _, _, _, _, _⟩ :: _) _ _); refine hold ?_)
      refine held (wpList_load_mid rfl 71 (.tmp 20) rfl b (o + k * 3) rfl (hhC ⟨x0, x1, xA, xn, xc, x2⟩) _ HROW.out Tryz.underlying71 rfl (by kernel_rfl) ?_)
      rw [show (hhC ⟨x0, x1, xA, xn, xc, x2⟩).toArray = #[.int .i64 x0, .string x1, .slice xA xn xc] from rfl]
      go_wp2_with ((with_reducible show wpList _ _ _ (⟨some 25, _, _, _, _, _⟩ :: _) _ _); refine hold ?_)
      refine held (wpList_load_mid rfl 71 (.tmp 24) rfl b' (o' + k * 3) rfl (hhC ⟨y0, y1, yA, yn, yc, y2⟩) _ HROW'.out Tryz.underlying71 rfl (by kernel_rfl) ?_)
      rw [show (hhC ⟨y0, y1, yA, yn, yc, y2⟩).toArray = #[.int .i64 y0, .string y1, .slice yA yn yc] from rfl]
      go_wp2_with ((with_reducible show wpList _ _ _ (⟨some 27, _, _, _, _, _⟩ :: _) _ _); refine hold ?_)
      refine held (wpList_load_mid rfl 71 (.tmp 8) rfl wr.heap.size 0 rfl (hhC ⟨x0, x1, xA, xn, xc, x2⟩) _ HLD1.out Tryz.underlying71 rfl (by kernel_rfl) ?_)
      rw [hhC_A]
      go_wp2_with ((with_reducible show wpList _ _ _ (⟨some 28, _, _, _, _, _⟩ :: _) _ _); refine hold ?_)
      refine held (wpList_load_mid rfl 71 (.tmp 9) rfl (wr.heap.size + 1) 0 rfl (hhC ⟨y0, y1, yA, yn, yc, y2⟩) _ HLD2.out Tryz.underlying71 rfl (by kernel_rfl) ?_)
      rw [hhC_A]
      go_wp2_with fail
      rw [HG.out]
      refine CI.out.mono ?_
      rintro e w5 ⟨rfl, hb5⟩
      have HB2 := Lib.hid (HBN.out.trans (hb5.mono HSZ.out))
      clear hb5 CI
      cases hm : decide (Hh.hol ⟨x0, x1, xA, xn, xc, x2⟩ = Hh.hol ⟨y0, y1, yA, yn, yc, y2⟩)
      · have HS := Lib.hid (eqStop14 HLA.out HLA'.out hm)
        clear hm
        go_wp2_with fail
        go_ret
        exact ⟨by rw [HS.out] <;> rfl, HB2.out⟩
      · have HS := Lib.hid (eqNext14 HA.out HTK.out HTK'.out hm)
        clear hm
        go_wp2_with fail
        go_roundw
        case rel => exact ⟨k + 1, by omega, by go_num, HS.out, HB2.out⟩
        case measure => simp [intOf]; omega
    · have hkn : ¬ (k : Int) < (n : Int) := by omega
      have HR := Lib.hid (eqAll14 HA.out HL.out.len (by rw [HNN.out]; exact HL'.out.len) hlt)
      go_wp2_with fail
      go_ret
      exact ⟨by rw [HR.out] <;> rfl, HB.out⟩
end Go.Proofs.YtbogjfbfgbhdbaaGreatDoor
namespace Go.Proofs.YtbogjfbfgbhdbaaGreatDoor
open List renaming setIfInBounds_toArray → jA, set_cons_zero → jB, set_cons_succ → jC, getElem_toArray → jD, getElem_cons_zero → jE, getElem_cons_succ → jF
set_option linter.unusedVariables false
set_option linter.unusedSimpArgs false
open Go.RowKit
set_option linter.unusedVariables false
set_option linter.unusedSimpArgs false
theorem lone_dec {id a : Int} {nm : ByteArray} {m m' : Mg} : decide ((⟨⟨#[]⟩, 1, 4294967296, [m]⟩ : Bx) = ⟨⟨#[]⟩, 1, 4294967296, [m']⟩) = decide ((⟨id, nm, a, m⟩ : Tmb) = ⟨id, nm, a, m'⟩) := by
  by_cases h : m = m'
  · subst h; simp
  · rw [decide_eq_false (fun e => h (by have := congrArg Bx.msgs e; simpa using this)), decide_eq_false (fun e => h (by have := congrArg Tmb.msg e; simpa using this))]
theorem text_beq14 {a b : ByteArray} (h : a ≠ b) : (a.toList == b.toList) = false := by rw [text_eqb11]; exact decide_eq_false h
set_option maxRecDepth 20000 in
set_option maxHeartbeats 4000000 in
theorem stsameTomb_any (x y : Th) (w : World) (hx : ThIn w w.heap.size x) (hy : ThIn w w.heap.size y) : Calls Tryz.prog 67 #[.agg (thA x), .agg (thA y)] w (SaysB (decide (x.t = y.t)) w) := by
  obtain ⟨⟨id, nm, a, ⟨u, f, d, bl⟩⟩, xA, xn, xc⟩ := x
  obtain ⟨⟨id', nm', a', ⟨u', f', d', bl'⟩⟩, yA, yn, yc⟩ := y
  have hmx : Tryz.prog.follows .mixedOrders = true := by kernel_rfl
  have h1 : Bk ((w.alloc (.cells #[.int .i64 id, .string nm, .int .i64 a, .int .i64 u, .int .i64 f, .int .i64 d, .slice xA xn xc] 51)).alloc (.cells #[.int .i64 id', .string nm', .int .i64 a', .int .i64 u', .int .i64 f', .int .i64 d', .slice yA yn yc] 51)) w.heap.size 51 #[.int .i64 id, .string nm, .int .i64 a, .int .i64 u, .int .i64 f, .int .i64 d, .slice xA xn xc] := (Bk.new _ _ _).alloc _
  have h2 : Bk ((w.alloc (.cells #[.int .i64 id, .string nm, .int .i64 a, .int .i64 u, .int .i64 f, .int .i64 d, .slice xA xn xc] 51)).alloc (.cells #[.int .i64 id', .string nm', .int .i64 a', .int .i64 u', .int .i64 f', .int .i64 d', .slice yA yn yc] 51)) (w.heap.size + 1) 51 #[.int .i64 id', .string nm', .int .i64 a', .int .i64 u', .int .i64 f', .int .i64 d', .slice yA yn yc] := Bk.new2 _ _ _ _
  have hB : Below w.heap.size w ((w.alloc (.cells #[.int .i64 id, .string nm, .int .i64 a, .int .i64 u, .int .i64 f, .int .i64 d, .slice xA xn xc] 51)).alloc (.cells #[.int .i64 id', .string nm', .int .i64 a', .int .i64 u', .int .i64 f', .int .i64 d', .slice yA yn yc] 51)) := ((Below.refl _ _).alloc (Nat.le_refl _) _).alloc (by simp) _
  have HX := Lib.hid (thStays.later_ hx hB)
  have HY := Lib.hid (thStays.later_ hy hB)
  have HB := Lib.hid hB
  have HZ : Hid (w.heap.size + 2 ≤ ((w.alloc (.cells #[.int .i64 id, .string nm, .int .i64 a, .int .i64 u, .int .i64 f, .int .i64 d, .slice xA xn xc] 51)).alloc (.cells #[.int .i64 id', .string nm', .int .i64 a', .int .i64 u', .int .i64 f', .int .i64 d', .slice yA yn yc] 51)).heap.size) := Lib.hid (by simp)
  obtain ⟨c0, c1, c2, c3, c4, c5, c6⟩ := h1.seven
  obtain ⟨d0, d1, d2, d3, d4, d5, d6⟩ := h2.seven
  clear h1 h2 hx hy hB
  show Calls Tryz.prog 67 #[.agg #[.int .i64 id, .string nm, .int .i64 a, .int .i64 u, .int .i64 f, .int .i64 d, .slice xA xn xc], .agg #[.int .i64 id', .string nm', .int .i64 a', .int .i64 u', .int .i64 f', .int .i64 d', .slice yA yn yc]] w _
  by_cases hi : id = id'
  case neg =>
    have HR : Hid (decide ((⟨id, nm, a, ⟨u, f, d, bl⟩⟩ : Tmb) = ⟨id', nm', a', ⟨u', f', d', bl'⟩⟩) = false) := Lib.hid (decide_eq_false (fun e => hi (congrArg Tmb.id e)))
    have hq : (id == id') = false := beq_eq_false_iff_ne.2 hi
    go_enter Tryz.func67, Tryz.ntmps67
    go_wp2_with fail
    go_quiet (fail)
    go_wp2_with fail
    go_ret
    exact ⟨by rw [HR.out] <;> rfl, below_drewN HB.out _⟩
  by_cases hn : nm = nm'
  case neg =>
    have HR : Hid (decide ((⟨id, nm, a, ⟨u, f, d, bl⟩⟩ : Tmb) = ⟨id', nm', a', ⟨u', f', d', bl'⟩⟩) = false) := Lib.hid (decide_eq_false (fun e => hn (congrArg Tmb.box e)))
    subst hi
    have hq : (id == id) = true := beq_self_eq_true id
    have hq2 : (nm.toList == nm'.toList) = false := text_beq14 hn
    go_enter Tryz.func67, Tryz.ntmps67
    go_wp2_with fail
    go_quiet (fail)
    go_wp2_with fail
    go_ret
    exact ⟨by rw [HR.out] <;> rfl, below_drewN HB.out _⟩
  by_cases ha : a = a'
  case neg =>
    have HR : Hid (decide ((⟨id, nm, a, ⟨u, f, d, bl⟩⟩ : Tmb) = ⟨id', nm', a', ⟨u', f', d', bl'⟩⟩) = false) := Lib.hid (decide_eq_false (fun e => ha (congrArg Tmb.at_ e)))
    subst hn
    subst hi
    have hq : (id == id) = true := beq_self_eq_true id
    have hq2 : (nm.toList == nm.toList) = true := by simp
    have hq3 : (a == a') = false := beq_eq_false_iff_ne.2 ha
    go_enter Tryz.func67, Tryz.ntmps67
    go_wp2_with fail
    go_quiet (fail)
    go_wp2_with fail
    go_ret
    exact ⟨by rw [HR.out] <;> rfl, below_drewN HB.out _⟩
  subst hi hn ha
  rw [← lone_dec]
  go_enter Tryz.func67, Tryz.ntmps67
  go_wp2_with fail
  generalize (w.alloc (.cells #[.int .i64 id, .string nm, .int .i64 a, .int .i64 u, .int .i64 f, .int .i64 d, .slice xA xn xc] 51)).alloc (.cells #[.int .i64 id, .string nm, .int .i64 a, .int .i64 u', .int .i64 f', .int .i64 d', .slice yA yn yc] 51) = w2 at *
  refine wp_region_held_drew (S := fun W' => Below w2.heap.size w2 W') hmx (Below.refl w2.heap.size w2).drew (fun hHeld => ?_)
  generalize hW0 : w2.drew = W at *
  clear hW0
  simp only [List.size_toArray, List.length_cons, List.length_nil, Nat.reduceAdd]
  have l1 : w.heap.size < w2.heap.size := by have := HZ.out; omega
  have l2 : w.heap.size + 1 < w2.heap.size := by have := HZ.out; omega
  refine wpAnyH_take (i := 0) (v := .pointer (some ⟨w.heap.size, 0, none⟩)) rfl (by kernel_rfl) (by kernel_rfl) (by kernel_rfl) (fun _ _ _ h => h) (Or.inl ⟨by rfl, fun w0 hC => by simp [execOp, Act.eval, Act.put, go_sem]⟩) hHeld ?_
  try simp only [Act.put, jA, jB, jC, jD, jE, jF]
  refine wpAnyH_take (i := 1) (v := .int .i64 id) rfl (by kernel_rfl) (by kernel_rfl) (by kernel_rfl) (fun _ _ _ h => h) (Or.inl ⟨by rfl, fun w0 hC => by simp [execOp, Act.eval, Act.put, go_sem, (hC.cell (p := ⟨w.heap.size, 0, none⟩) l1).trans c0]⟩) hHeld ?_
  try simp only [Act.put, jA, jB, jC, jD, jE, jF]
  refine wpAnyH_take (i := 2) (v := .pointer (some ⟨w.heap.size + 1, 0, none⟩)) rfl (by kernel_rfl) (by kernel_rfl) (by kernel_rfl) (fun _ _ _ h => h) (Or.inl ⟨by rfl, fun w0 hC => by simp [execOp, Act.eval, Act.put, go_sem]⟩) hHeld ?_
  try simp only [Act.put, jA, jB, jC, jD, jE, jF]
  refine wpAnyH_take (i := 3) (v := .int .i64 id) rfl (by kernel_rfl) (by kernel_rfl) (by kernel_rfl) (fun _ _ _ h => h) (Or.inl ⟨by rfl, fun w0 hC => by simp [execOp, Act.eval, Act.put, go_sem, (hC.cell (p := ⟨w.heap.size + 1, 0, none⟩) l2).trans d0]⟩) hHeld ?_
  try simp only [Act.put, jA, jB, jC, jD, jE, jF]
  refine wpAnyH_take (i := 4) (v := .bool true) rfl (by kernel_rfl) (by kernel_rfl) (by kernel_rfl) (fun _ _ _ h => h) (Or.inl ⟨by rfl, fun w0 hC => by simp [execOp, Act.eval, Act.put, go_sem]⟩) hHeld ?_
  try simp only [Act.put, jA, jB, jC, jD, jE, jF]
  refine wpAnyH_take (i := 5) (v := .bool true) rfl (by kernel_rfl) (by kernel_rfl) (by kernel_rfl) (fun _ _ _ h => h) (Or.inl ⟨by rfl, fun w0 hC => by simp [execOp, Act.eval, Act.put, go_sem]⟩) hHeld ?_
  try simp only [Act.put, jA, jB, jC, jD, jE, jF]
  refine wpAnyH_take (i := 6) (v := .pointer (some ⟨w.heap.size, 1, none⟩)) rfl (by kernel_rfl) (by kernel_rfl) (by kernel_rfl) (fun _ _ _ h => h) (Or.inl ⟨by rfl, fun w0 hC => by simp [execOp, Act.eval, Act.put, go_sem]⟩) hHeld ?_
  try simp only [Act.put, jA, jB, jC, jD, jE, jF]
  refine wpAnyH_take (i := 7) (v := .string nm) rfl (by kernel_rfl) (by kernel_rfl) (by kernel_rfl) (fun _ _ _ h => h) (Or.inl ⟨by rfl, fun w0 hC => by simp [execOp, Act.eval, Act.put, go_sem, (hC.cell (p := ⟨w.heap.size, 1, none⟩) l1).trans c1]⟩) hHeld ?_
  try simp only [Act.put, jA, jB, jC, jD, jE, jF]
  refine wpAnyH_take (i := 8) (v := .pointer (some ⟨w.heap.size + 1, 1, none⟩)) rfl (by kernel_rfl) (by kernel_rfl) (by kernel_rfl) (fun _ _ _ h => h) (Or.inl ⟨by rfl, fun w0 hC => by simp [execOp, Act.eval, Act.put, go_sem]⟩) hHeld ?_
  try simp only [Act.put, jA, jB, jC, jD, jE, jF]
  refine wpAnyH_take (i := 9) (v := .string nm) rfl (by kernel_rfl) (by kernel_rfl) (by kernel_rfl) (fun _ _ _ h => h) (Or.inl ⟨by rfl, fun w0 hC => by simp [execOp, Act.eval, Act.put, go_sem, (hC.cell (p := ⟨w.heap.size + 1, 1, none⟩) l2).trans d1]⟩) hHeld ?_
  try simp only [Act.put, jA, jB, jC, jD, jE, jF]
  refine wpAnyH_take (i := 10) (v := .bool true) rfl (by kernel_rfl) (by kernel_rfl) (by kernel_rfl) (fun _ _ _ h => h) (Or.inl ⟨by rfl, fun w0 hC => by simp [execOp, Act.eval, Act.put, go_sem]⟩) hHeld ?_
  try simp only [Act.put, jA, jB, jC, jD, jE, jF]
  refine wpAnyH_take (i := 11) (v := .bool true) rfl (by kernel_rfl) (by kernel_rfl) (by kernel_rfl) (fun _ _ _ h => h) (Or.inl ⟨by rfl, fun w0 hC => by simp [execOp, Act.eval, Act.put, go_sem]⟩) hHeld ?_
  try simp only [Act.put, jA, jB, jC, jD, jE, jF]
  refine wpAnyH_take (i := 12) (v := .bool true) rfl (by kernel_rfl) (by kernel_rfl) (by kernel_rfl) (fun _ _ _ h => h) (Or.inl ⟨by rfl, fun w0 hC => by simp [execOp, Act.eval, Act.put, go_sem]⟩) hHeld ?_
  try simp only [Act.put, jA, jB, jC, jD, jE, jF]
  refine wpAnyH_take (i := 13) (v := .pointer (some ⟨w.heap.size, 2, none⟩)) rfl (by kernel_rfl) (by kernel_rfl) (by kernel_rfl) (fun _ _ _ h => h) (Or.inl ⟨by rfl, fun w0 hC => by simp [execOp, Act.eval, Act.put, go_sem]⟩) hHeld ?_
  try simp only [Act.put, jA, jB, jC, jD, jE, jF]
  refine wpAnyH_take (i := 14) (v := .int .i64 a) rfl (by kernel_rfl) (by kernel_rfl) (by kernel_rfl) (fun _ _ _ h => h) (Or.inl ⟨by rfl, fun w0 hC => by simp [execOp, Act.eval, Act.put, go_sem, (hC.cell (p := ⟨w.heap.size, 2, none⟩) l1).trans c2]⟩) hHeld ?_
  try simp only [Act.put, jA, jB, jC, jD, jE, jF]
  refine wpAnyH_take (i := 15) (v := .pointer (some ⟨w.heap.size + 1, 2, none⟩)) rfl (by kernel_rfl) (by kernel_rfl) (by kernel_rfl) (fun _ _ _ h => h) (Or.inl ⟨by rfl, fun w0 hC => by simp [execOp, Act.eval, Act.put, go_sem]⟩) hHeld ?_
  try simp only [Act.put, jA, jB, jC, jD, jE, jF]
  refine wpAnyH_take (i := 16) (v := .int .i64 a) rfl (by kernel_rfl) (by kernel_rfl) (by kernel_rfl) (fun _ _ _ h => h) (Or.inl ⟨by rfl, fun w0 hC => by simp [execOp, Act.eval, Act.put, go_sem, (hC.cell (p := ⟨w.heap.size + 1, 2, none⟩) l2).trans d2]⟩) hHeld ?_
  try simp only [Act.put, jA, jB, jC, jD, jE, jF]
  refine wpAnyH_take (i := 17) (v := .bool true) rfl (by kernel_rfl) (by kernel_rfl) (by kernel_rfl) (fun _ _ _ h => h) (Or.inl ⟨by rfl, fun w0 hC => by simp [execOp, Act.eval, Act.put, go_sem]⟩) hHeld ?_
  try simp only [Act.put, jA, jB, jC, jD, jE, jF]
  refine wpAnyH_take (i := 18) (v := .bool true) rfl (by kernel_rfl) (by kernel_rfl) (by kernel_rfl) (fun _ _ _ h => h) (Or.inl ⟨by rfl, fun w0 hC => by simp [execOp, Act.eval, Act.put, go_sem]⟩) hHeld ?_
  try simp only [Act.put, jA, jB, jC, jD, jE, jF]
  refine wpAnyH_take (i := 19) (v := .bool true) rfl (by kernel_rfl) (by kernel_rfl) (by kernel_rfl) (fun _ _ _ h => h) (Or.inl ⟨by rfl, fun w0 hC => by simp [execOp, Act.eval, Act.put, go_sem]⟩) hHeld ?_
  try simp only [Act.put, jA, jB, jC, jD, jE, jF]
  refine wpAnyH_take (i := 20) (v := .pointer (some ⟨w.heap.size, 3, none⟩)) rfl (by kernel_rfl) (by kernel_rfl) (by kernel_rfl) (fun _ _ _ h => h) (Or.inl ⟨by rfl, fun w0 hC => by simp [execOp, Act.eval, Act.put, go_sem]⟩) hHeld ?_
  try simp only [Act.put, jA, jB, jC, jD, jE, jF]
  refine wpAnyH_take (i := 21) (v := .agg #[.int .i64 u, .int .i64 f, .int .i64 d, .slice xA xn xc]) rfl (by kernel_rfl) (by kernel_rfl) (by kernel_rfl) (fun _ _ _ h => h) (Or.inl ⟨by rfl, fun w0 hC => by simp [execOp, Act.eval, Act.put, go_sem, (hC.cell (p := ⟨w.heap.size, 3, none⟩) l1).trans c3, (hC.cell (p := ⟨w.heap.size, 4, none⟩) l1).trans c4, (hC.cell (p := ⟨w.heap.size, 5, none⟩) l1).trans c5, (hC.cell (p := ⟨w.heap.size, 6, none⟩) l1).trans c6]⟩) hHeld ?_
  try simp only [Act.put, jA, jB, jC, jD, jE, jF]
  refine wpAnyH_take (i := 23) (v := .pointer (some ⟨w.heap.size + 1, 3, none⟩)) rfl (by kernel_rfl) (by kernel_rfl) (by kernel_rfl) (fun _ _ _ h => h) (Or.inl ⟨by rfl, fun w0 hC => by simp [execOp, Act.eval, Act.put, go_sem]⟩) hHeld ?_
  try simp only [Act.put, jA, jB, jC, jD, jE, jF]
  refine wpAnyH_take (i := 24) (v := .agg #[.int .i64 u', .int .i64 f', .int .i64 d', .slice yA yn yc]) rfl (by kernel_rfl) (by kernel_rfl) (by kernel_rfl) (fun _ _ _ h => h) (Or.inl ⟨by rfl, fun w0 hC => by simp [execOp, Act.eval, Act.put, go_sem, (hC.cell (p := ⟨w.heap.size + 1, 3, none⟩) l2).trans d3, (hC.cell (p := ⟨w.heap.size + 1, 4, none⟩) l2).trans d4, (hC.cell (p := ⟨w.heap.size + 1, 5, none⟩) l2).trans d5, (hC.cell (p := ⟨w.heap.size + 1, 6, none⟩) l2).trans d6]⟩) hHeld ?_
  try simp only [Act.put, jA, jB, jC, jD, jE, jF]
  refine wpAnyH_ready (rs := [22]) (by kernel_rfl) (by simp) (AllReadyH.cons rfl (fun K hK => ?_) AllReadyH.nil)
  rw [if_pos (by rfl)]
  go_wp2_with fail
  refine (stlone_any u f d xA xn xc bl W (HX.out.1.later hHeld) HX.out.2).mono ?_
  rintro e w3 ⟨g1, rfl, hm1, hb1⟩
  have HM1 := Lib.hid hm1
  have HH1 := Lib.hid (hHeld.trans (hb1.mono hHeld.size))
  clear hm1 hb1 hHeld
  refine hK.out _ _ HH1.out (fun hHeld => ?_)
  clear hK K
  try simp only [Act.put, jA, jB, jC, jD, jE, jF]
  refine wpAnyH_ready (rs := [25]) (by kernel_rfl) (by simp) (AllReadyH.cons rfl (fun K hK => ?_) AllReadyH.nil)
  rw [if_pos (by rfl)]
  go_wp2_with fail
  refine (stlone_any u' f' d' yA yn yc bl' w3 (HY.out.1.later hHeld) HY.out.2).mono ?_
  rintro e w4 ⟨g2, rfl, hm2, hb2⟩
  have HM2 := Lib.hid hm2
  have HM1' := Lib.hid (HM1.out.later hb2)
  have HH2 := Lib.hid (hHeld.trans (hb2.mono hHeld.size))
  clear hm2 hb2 hHeld HM1
  refine hK.out _ _ HH2.out (fun hHeld => ?_)
  clear hK K
  try simp only [Act.put, jA, jB, jC, jD, jE, jF]
  refine wpAnyH_ready (rs := [26]) (by kernel_rfl) (by simp) (AllReadyH.cons rfl (fun K hK => ?_) AllReadyH.nil)
  rw [if_pos (by rfl)]
  go_wp2_with fail
  refine (same_any11 ⟨#[]⟩ 1 4294967296 (some ⟨g1, 0, none⟩) 1 1 [⟨u, f, d, bl⟩] ⟨#[]⟩ 1 4294967296 (some ⟨g2, 0, none⟩) 1 1 [⟨u', f', d', bl'⟩] w4 HM1'.out HM2.out (by omega) (by omega)).mono ?_
  rintro e w5 ⟨rfl, hb3⟩
  have HH3 := Lib.hid (hHeld.trans (hb3.mono hHeld.size))
  clear hb3 hHeld
  generalize decide ((⟨⟨#[]⟩, 1, 4294967296, [⟨u, f, d, bl⟩]⟩ : Bx) = ⟨⟨#[]⟩, 1, 4294967296, [⟨u', f', d', bl'⟩]⟩) = q at *
  refine hK.out _ _ HH3.out (fun hHeld => ?_)
  clear hK K
  try simp only [Act.put, jA, jB, jC, jD, jE, jF]
  refine wpAnyH_take (i := 27) (v := .bool q) rfl (by kernel_rfl) (by kernel_rfl) (by kernel_rfl) (fun _ _ _ h => h) (Or.inl ⟨by rfl, fun w0 hC => by simp [execOp, Act.eval, Act.put, go_sem]⟩) hHeld ?_
  try simp only [Act.put, jA, jB, jC, jD, jE, jF]
  refine wpAnyH_take (i := 28) (v := .bool q) rfl (by kernel_rfl) (by kernel_rfl) (by kernel_rfl) (fun _ _ _ h => h) (Or.inl ⟨by rfl, fun w0 hC => by simp [execOp, Act.eval, Act.put, go_sem]⟩) hHeld ?_
  try simp only [Act.put, jA, jB, jC, jD, jE, jF]
  refine wpAnyH_done (by kernel_rfl) ?_ _
  have HB5 := Lib.hid (HB.out.trans (hHeld.mono (by have := HZ.out; omega)))
  clear hHeld
  go_wp2_with fail
  go_ret
  exact ⟨rfl, HB5.out⟩
theorem hol_dec {id : Int} {nm : ByteArray} {m m' : List Rg} {inst : Decidable (m = m')} : @decide (m = m') inst = decide ((⟨id, nm, m⟩ : Hol) = ⟨id, nm, m'⟩) := by
  by_cases h : m = m'
  · subst h; simp
  · rw [decide_eq_false h, decide_eq_false (fun e => h (congrArg Hol.set e))]
set_option maxRecDepth 20000 in
set_option maxHeartbeats 4000000 in
theorem stsameHold_any (x y : Hh) (w : World) (hx : HhIn w w.heap.size x) (hy : HhIn w w.heap.size y) : Calls Tryz.prog 69 #[.agg (hhA x), .agg (hhA y)] w (SaysB (decide (x.hol = y.hol)) w) := by
  obtain ⟨id, nm, xA, xn, xc, xs⟩ := x
  obtain ⟨id', nm', yA, yn, yc, ys⟩ := y
  have h1 : Bk ((w.alloc (.cells #[.int .i64 id, .string nm, .slice xA xn xc] 71)).alloc (.cells #[.int .i64 id', .string nm', .slice yA yn yc] 71)) w.heap.size 71 #[.int .i64 id, .string nm, .slice xA xn xc] := (Bk.new _ _ _).alloc _
  have h2 : Bk ((w.alloc (.cells #[.int .i64 id, .string nm, .slice xA xn xc] 71)).alloc (.cells #[.int .i64 id', .string nm', .slice yA yn yc] 71)) (w.heap.size + 1) 71 #[.int .i64 id', .string nm', .slice yA yn yc] := Bk.new2 _ _ _ _
  have hB : Below w.heap.size w ((w.alloc (.cells #[.int .i64 id, .string nm, .slice xA xn xc] 71)).alloc (.cells #[.int .i64 id', .string nm', .slice yA yn yc] 71)) := ((Below.refl _ _).alloc (Nat.le_refl _) _).alloc (by simp) _
  have HX := Lib.hid (hhStays.later_ hx hB)
  have HY := Lib.hid (hhStays.later_ hy hB)
  have HB := Lib.hid hB
  have c0 := h1.cell 0
  have c1 := h1.cell 1
  have c2 := h1.cell 2
  have d0 := h2.cell 0
  have d1 := h2.cell 1
  have d2 := h2.cell 2
  clear h1 h2 hx hy hB
  show Calls Tryz.prog 69 #[.agg #[.int .i64 id, .string nm, .slice xA xn xc], .agg #[.int .i64 id', .string nm', .slice yA yn yc]] w (SaysB (decide ((⟨id, nm, xs⟩ : Hol) = ⟨id', nm', ys⟩)) w)
  by_cases hi : id = id'
  case neg =>
    have HR : Hid (decide ((⟨id, nm, xs⟩ : Hol) = ⟨id', nm', ys⟩) = false) := Lib.hid (decide_eq_false (fun e => hi (congrArg Hol.id e)))
    have hq : (id == id') = false := beq_eq_false_iff_ne.2 hi
    go_enter Tryz.func69, Tryz.ntmps69
    go_wp2_with fail
    go_ret
    exact ⟨by rw [HR.out] <;> rfl, HB.out⟩
  by_cases hn : nm = nm'
  case neg =>
    have HR : Hid (decide ((⟨id, nm, xs⟩ : Hol) = ⟨id', nm', ys⟩) = false) := Lib.hid (decide_eq_false (fun e => hn (congrArg Hol.box e)))
    subst hi
    have hq : (id == id) = true := beq_self_eq_true id
    have hq2 : (nm.toList == nm'.toList) = false := text_beq14 hn
    go_enter Tryz.func69, Tryz.ntmps69
    go_wp2_with fail
    go_ret
    exact ⟨by rw [HR.out] <;> rfl, HB.out⟩
  subst hi hn
  go_enter Tryz.func69, Tryz.ntmps69
  go_wp2_with fail
  refine (evEqualRg_any xA yA xn xc yn yc xs ys _ HX.out.1 HY.out.1 HX.out.2 HY.out.2).mono ?_
  rintro e w3 ⟨rfl, q, rfl⟩
  generalize hz : decide (xs = ys) = z at *
  have HQ : Hid (decide ((⟨id, nm, xs⟩ : Hol) = ⟨id, nm, ys⟩) = z) := Lib.hid (by rw [← hz]; exact hol_dec.symm)
  clear hz
  go_wp2_with fail
  go_ret
  exact ⟨by rw [HQ.out] <;> rfl, below_drewN HB.out _⟩
set_option maxRecDepth 20000 in
set_option maxHeartbeats 4000000 in
theorem zEqualSt_any (A B : Option Addr) (n c m d : Nat) (l r : List ByteArray) (w : World) (hl : StrsIn w w.heap.size A n l) (hr : StrsIn w w.heap.size B m r) (hn : n ≤ 140737488355328) (hm : m ≤ 140737488355328) :
    Calls Tryz.prog 64 #[.slice A n c, .slice B m d] w (SaysB (decide (l = r)) w) := by
  have HL := Lib.hid hl
  have HR := Lib.hid hr
  by_cases hnm : n = m
  · subst hnm
    have hne : ((n : Int) != (n : Int)) = false := by simp
    clear hl hr
    go_enter Tryz.func64, Tryz.ntmps64
    go_wp2_with fail
    go_loopw [13] (fun i wx => ∃ k q : Nat, k ≤ n ∧ i = .int .i64 (k : Int) ∧ l.take k = r.take k ∧ wx = w.drewN q) (fun i _ => n - (intOf i).toNat)
    case atStart => exact ⟨0, 0, Nat.zero_le _, rfl, rfl, rfl⟩
    case round =>
      obtain ⟨k, q, hk, rfl, hm, hw⟩ := hrel
      have HM := Lib.hid hm
      have HW := Lib.hid hw
      clear hm hw
      by_cases hlt : k < n
      · obtain ⟨b, o, x, rfl, hbb, hla, htk, hc0, -⟩ := HL.out.at_ hlt
        obtain ⟨b2, o2, y, rfl, hbb2, hla2, htk2, hc20, -⟩ := HR.out.at_ hlt
        have hc := row1 hc0
        have hc2 := row1 hc20
        rw [Nat.mul_one] at hc hc2
        rw [show w.cell? ⟨b, o + k, none⟩ = wr.cell? ⟨b, o + k, none⟩ by rw [HW.out]; rfl] at hc
        rw [show w.cell? ⟨b2, o2 + k, none⟩ = wr.cell? ⟨b2, o2 + k, none⟩ by rw [HW.out]; rfl] at hc2
        have hk0 : (0 : Int) ≤ (k : Int) := by omega
        have hkn : (k : Int) < (n : Int) := by omega
        have HA1 := Lib.hid hla
        have HA2 := Lib.hid hla2
        have HT1 := Lib.hid htk
        have HT2 := Lib.hid htk2
        clear hla hla2 htk htk2 hc0 hc20
        by_cases he : x = y
        · subst he
          have hxy : (x.toList != x.toList) = false := by simp
          have HN : Hid (l.take (k + 1) = r.take (k + 1)) := Lib.hid (by rw [HT1.out, HT2.out, HM.out])
          go_wp2_with fail
          go_quiet (fail)
          go_wp2_with fail
          go_roundw
          case rel => exact ⟨k + 1, _, by omega, by go_num, HN.out, by rw [HW.out]; exact drewN_twice _ _ _⟩
          case measure => simp [intOf]; omega
        · have hxy : (x.toList == y.toList) = false := text_beq14 he
          have hxy2 : (x.toList != y.toList) = true := by simp [bne, hxy]
          have HN : Hid (decide (l = r) = false) := Lib.hid (decide_eq_false (ne_at HA1.out HA2.out he))
          go_wp2_with fail
          go_quiet (fail)
          go_wp2_with fail
          go_ret
          exact ⟨by rw [HN.out] <;> rfl, by rw [HW.out]; exact below_drewN (below_drewN (Below.refl _ _) _) _⟩
      · have HN : Hid (decide (l = r) = true) := Lib.hid (decide_eq_true (eq_at (HL.out.len.trans HR.out.len.symm) k HM.out (by rw [HL.out.len]; omega)))
        go_wp2_with fail
        go_ret
        exact ⟨by rw [HN.out] <;> rfl, by rw [HW.out]; exact below_drewN (Below.refl _ _) _⟩
  · have hne : ((n : Int) != (m : Int)) = true := by simp; omega
    have HN : Hid (decide (l = r) = false) := Lib.hid (decide_eq_false (fun e => hnm (by rw [← hl.len, ← hr.len, e])))
    clear hl hr
    go_enter Tryz.func64, Tryz.ntmps64
    go_wp2_with fail
    go_ret
    exact ⟨by rw [HN.out] <;> rfl, Below.refl _ _⟩
theorem rul_fields14 : Tryz.prog.fieldsOf 83 = #[{ name := "Box", type := 9, offset := 0, embedded := false, tag := "", pkgPath := "", byteOffset := 0 }, { name := "Keep", type := 3, offset := 1, embedded := false, tag := "", pkgPath := "", byteOffset := 16 }] := by kernel_rfl
theorem rul_neq14 (W : World) (x u : ByteArray) (y v : Int) : (binOp .neq 83 (.agg #[.string x, .int .i64 y]) (.agg #[.string u, .int .i64 v])).run Tryz.prog W = .ok (.bool (!decide ((x, y) = (u, v)))) W := by
  have h1 : Tryz.prog.underlying 83 = some (.struct (Tryz.prog.fieldsOf 83)) := by rw [rul_fields14]; exact Tryz.underlying83
  have h2 : Tryz.prog.stoodInHeld 83 = false := by kernel_rfl
  simp [binOp, Op.equal, Op.maxDepth, run_equalIn_agg W 9999 83 _ _ h1 h2, rul_fields14]
  have p0 : ∀ (a : ByteArray) (b : Int), (part 9 #[Value.string a, Value.int IntKind.i64 b] 0).run Tryz.prog W = .ok (.string a) W := fun a b => by simp [part, isAgg, Sem.run_bind, run_underlying Tryz.underlying9]
  have p1 : ∀ (a : ByteArray) (b : Int), (part 3 #[Value.string a, Value.int IntKind.i64 b] 1).run Tryz.prog W = .ok (.int .i64 b) W := fun a b => by simp [part, isAgg, Sem.run_bind, run_underlying Tryz.underlying3]
  have q : ∀ a b, (Op.equalIn 9999 3 (.int .i64 a) (.int .i64 b)).run Tryz.prog W = .ok (a == b) W := fun a b => run_equalIn_int W 9998 3 .i64 .i64 a b Tryz.underlying3
  have q2 : ∀ a b, (Op.equalIn 9999 9 (.string a) (.string b)).run Tryz.prog W = .ok (a.toList == b.toList) W := fun a b => run_equalIn_string W 9998 9 a b Tryz.underlying9
  simp [Op.eqFields, p0, p1, q, q2, Sem.run_bind, text_eqb11]
  by_cases h1 : x = u <;> by_cases h2 : y = v <;> simp [h1, h2]
set_option maxRecDepth 20000 in
set_option maxHeartbeats 2000000 in
theorem zEqualRu_any (A B : Option Addr) (n c m d : Nat) (l r : List Rul) (w : World) (hl : RulesIn w w.heap.size A n l) (hr : RulesIn w w.heap.size B m r) (hn : n ≤ 140737488355328) (hm : m ≤ 140737488355328) :
    Calls Tryz.prog 65 #[.slice A n c, .slice B m d] w (SaysB (decide (l = r)) w) := by
  have HL := Lib.hid hl
  have HR := Lib.hid hr
  by_cases hnm : n = m
  · subst hnm
    have hne : ((n : Int) != (n : Int)) = false := by simp
    clear hl hr
    go_enter Tryz.func65, Tryz.ntmps65
    go_wp2_with fail
    go_loopw [13] (fun i wx => ∃ k q : Nat, k ≤ n ∧ i = .int .i64 (k : Int) ∧ l.take k = r.take k ∧ wx = w.drewN q) (fun i _ => n - (intOf i).toNat)
    case atStart => exact ⟨0, 0, Nat.zero_le _, rfl, rfl, rfl⟩
    case round =>
      obtain ⟨k, q, hk, rfl, hm, hw⟩ := hrel
      have HM := Lib.hid hm
      have HW := Lib.hid hw
      clear hm hw
      by_cases hlt : k < n
      · obtain ⟨b, o, x, rfl, hbb, hla, htk, hc, -⟩ := HL.out.at_ hlt
        obtain ⟨b2, o2, y, rfl, hbb2, hla2, htk2, hc2, -⟩ := HR.out.at_ hlt
        rw [show w.rangeAt b (o + k * 2) (rulC x) = wr.rangeAt b (o + k * 2) (rulC x) by rw [HW.out]; rfl] at hc
        rw [show w.rangeAt b2 (o2 + k * 2) (rulC y) = wr.rangeAt b2 (o2 + k * 2) (rulC y) by rw [HW.out]; rfl] at hc2
        obtain ⟨x0, x1⟩ := x
        obtain ⟨y0, y1⟩ := y
        have r0 := hc 0 _ rfl
        have r1 := hc 1 _ rfl
        have s0 := hc2 0 _ rfl
        have s1 := hc2 1 _ rfl
        rw [Nat.add_zero] at r0 s0
        have hk0 : (0 : Int) ≤ (k : Int) := by omega
        have hkn : (k : Int) < (n : Int) := by omega
        have HA1 := Lib.hid hla
        have HA2 := Lib.hid hla2
        have HT1 := Lib.hid htk
        have HT2 := Lib.hid htk2
        clear hla hla2 htk htk2 hc hc2
        by_cases he : (x0, x1) = (y0, y1)
        · injection he with he1 he2
          subst he1 he2
          have kq : ∀ W, (binOp .neq 83 (.agg #[.string x0, .int .i64 x1]) (.agg #[.string x0, .int .i64 x1])).run Tryz.prog W = .ok (.bool false) W := fun W => by rw [rul_neq14]; simp
          have HN : Hid (l.take (k + 1) = r.take (k + 1)) := Lib.hid (by rw [HT1.out, HT2.out, HM.out])
          go_wp2_with fail
          go_quiet (fail)
          go_wp2_with fail
          go_roundw
          case rel => exact ⟨k + 1, _, by omega, by go_num, HN.out, by rw [HW.out]; exact drewN_twice _ _ _⟩
          case measure => simp [intOf]; omega
        · have kq : ∀ W, (binOp .neq 83 (.agg #[.string x0, .int .i64 x1]) (.agg #[.string y0, .int .i64 y1])).run Tryz.prog W = .ok (.bool true) W := fun W => by rw [rul_neq14, decide_eq_false he]; rfl
          have HN : Hid (decide (l = r) = false) := Lib.hid (decide_eq_false (ne_at HA1.out HA2.out he))
          clear he
          go_wp2_with fail
          go_quiet (fail)
          go_wp2_with fail
          go_ret
          exact ⟨by rw [HN.out] <;> rfl, by rw [HW.out]; exact below_drewN (below_drewN (Below.refl _ _) _) _⟩
      · have HN : Hid (decide (l = r) = true) := Lib.hid (decide_eq_true (eq_at (HL.out.len.trans HR.out.len.symm) k HM.out (by rw [HL.out.len]; omega)))
        go_wp2_with fail
        go_ret
        exact ⟨by rw [HN.out] <;> rfl, by rw [HW.out]; exact below_drewN (Below.refl _ _) _⟩
  · have hne : ((n : Int) != (m : Int)) = true := by simp; omega
    have HN : Hid (decide (l = r) = false) := Lib.hid (decide_eq_false (fun e => hnm (by rw [← hl.len, ← hr.len, e])))
    clear hl hr
    go_enter Tryz.func65, Tryz.ntmps65
    go_wp2_with fail
    go_ret
    exact ⟨by rw [HN.out] <;> rfl, Below.refl _ _⟩
end Go.Proofs.YtbogjfbfgbhdbaaGreatDoor
