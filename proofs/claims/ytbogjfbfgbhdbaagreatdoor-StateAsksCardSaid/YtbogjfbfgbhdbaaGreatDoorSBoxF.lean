/-
  A part of the proof: see the last text.
-/
import Derived.Test.YtbogjfbfgbhdbaaGreatDoorSBoxE2
import Derived.Test.YtbogjfbfgbhdbaaGreatDoorSAppK
import Derived.IntWalk
namespace Go.Proofs.YtbogjfbfgbhdbaaGreatDoor
open List renaming setIfInBounds_toArray → jA, set_cons_zero → jB, set_cons_succ → jC, getElem_toArray → jD, getElem_cons_zero → jE, getElem_cons_succ → jF
set_option linter.unusedVariables false
set_option linter.unusedSimpArgs false
open Go.RowKit
set_option linter.unusedVariables false
set_option linter.unusedSimpArgs false
theorem text_eqb11 (a b : ByteArray) : (a.toList == b.toList) = decide (a = b) := by
  rw [ByteArray.toList_eq, ByteArray.toList_eq]
  by_cases h : a = b
  · subst h; simp
  · have : ¬ a.data.toList = b.data.toList := fun e => h (by
      obtain ⟨⟨x⟩⟩ := a
      obtain ⟨⟨y⟩⟩ := b
      simp only at e
      rw [e])
    have h2 : ¬ a.data = b.data := fun e => this (by rw [e])
    simp [h, h2]
theorem same_next {l l' : List Mg} {k : Nat} {a a' : Mg} (h : l.take k = l'.take k) (h1 : l.take (k + 1) = l.take k ++ [a]) (h2 : l'.take (k + 1) = l'.take k ++ [a']) (he : decide (a = a') = true) : l.take (k + 1) = l'.take (k + 1) := by
  rw [h1, h2, h, of_decide_eq_true he]
theorem same_stop {l l' : List Mg} {k : Nat} {a a' : Mg} (h1 : l[k]? = some a) (h2 : l'[k]? = some a') (he : decide (a = a') = false) : decide (l = l') = false := decide_eq_false (fun e => by
  rw [e, h2] at h1
  exact of_decide_eq_false he (Option.some.inj h1).symm)
theorem same_all {l l' : List Mg} {k n : Nat} (h : l.take k = l'.take k) (hl : l.length = n) (hl' : l'.length = n) (hk : ¬ k < n) : decide (l = l') = true := decide_eq_true (by
  rwa [List.take_of_length_le (by omega), List.take_of_length_le (by omega)] at h)
theorem same_len {l l' : List Mg} {n n' : Nat} (hl : l.length = n) (hl' : l'.length = n') (h : n ≠ n') : decide (l = l') = false := decide_eq_false (fun e => h (by rw [← hl, e, hl']))
def SaysB (q : Bool) (w : World) (e : Ending) (w' : World) : Prop := e = .returned (.bool q) ∧ Below w.heap.size w w'
set_option maxRecDepth 20000 in
set_option maxHeartbeats 4000000 in
theorem x11msgs_any (A : Option Addr) (n c : Nat) (l : List Mg) (A' : Option Addr) (n' c' : Nat) (l' : List Mg) (w : World) (hl : MsgsIn w w.heap.size A n l) (hl' : MsgsIn w w.heap.size A' n' l') (hn : n ≤ 1000000) (hn' : n' ≤ 140737488355328) :
    Calls Tryz.prog 58 #[.slice A n c, .slice A' n' c'] w (SaysB (decide (l = l')) w) := by
  have hmx : Tryz.prog.follows .mixedOrders = true := by kernel_rfl
  have HL := Lib.hid hl
  have HL' := Lib.hid hl'
  clear hl hl'
  by_cases hnn : n ≠ n'
  · have HR := Lib.hid (same_len HL.out.len HL'.out.len hnn)
    have hb : ((n : Int) != (n' : Int)) = true := by simp; omega
    clear hnn
    go_enter Tryz.func58, Tryz.ntmps58
    go_wp2_with fail
    go_ret
    exact ⟨by rw [HR.out] <;> rfl, Below.refl _ _⟩
  have HNN : Hid (n = n') := Lib.hid (by omega)
  have hb : ((n : Int) != (n' : Int)) = false := by simp; omega
  clear hnn
  go_enter Tryz.func58, Tryz.ntmps58
  go_wp2_with fail
  go_loopw [5] (fun i wx => ∃ k : Nat, k ≤ n ∧ i = .int .i64 (k : Int) ∧ l.take k = l'.take k ∧ Below w.heap.size w wx) (fun i _ => n - (intOf i).toNat)
  case atStart => exact ⟨0, Nat.zero_le _, rfl, rfl, Below.refl _ _⟩
  case round =>
    obtain ⟨k, hk, rfl, ha, hbw⟩ := hrel
    have HA := Lib.hid ha
    have HB := Lib.hid hbw
    clear ha hbw
    by_cases hlt : k < n
    · obtain ⟨b, o, x, rfl, hbb, hla, htk, hrow, hin⟩ := (HL.out.later HB.out).at_ hlt
      have hlt' : k < n' := by have := HNN.out; omega
      obtain ⟨b', o', y, rfl, hbb', hla', htk', hrow', hin'⟩ := (HL'.out.later HB.out).at_ hlt'
      have HLA := Lib.hid hla
      have HLA' := Lib.hid hla'
      have HTK := Lib.hid htk
      have HTK' := Lib.hid htk'
      have HX := Lib.hid hin
      have HY := Lib.hid hin'
      obtain ⟨⟨u, f, d, bl⟩, xA, xn, xc⟩ := x
      obtain ⟨⟨u', f', d', bl'⟩, yA, yn, yc⟩ := y
      have hr := row4 hrow
      have hr' := row4 hrow'
      simp only at hr hr'
      obtain ⟨r0, r1, r2, r3⟩ := hr
      obtain ⟨s0, s1, s2, s3⟩ := hr'
      have k0 : (0 : Int) ≤ (k : Int) := by omega
      have k1 : (k : Int) < (n : Int) := by omega
      have k1' : (k : Int) < (n' : Int) := by omega
      clear hla hla' htk htk' hrow hrow' hin hin'
      cases hm : decide ((⟨u, f, d, bl⟩ : Mg) = ⟨u', f', d', bl'⟩)
      · have HM := Lib.hid hm
        clear hm
        go_wp2_with fail
        refine wp_region_held_drew (S := fun W' => Below wr.heap.size wr W') hmx (Below.refl wr.heap.size wr).drew (fun hHeld => ?_)
        generalize hW0 : wr.drew = W at *
        clear hW0
        simp only [List.size_toArray, List.length_cons, List.length_nil, Nat.reduceAdd]
        refine wpAnyH_take (i := 0) (v := .slice (some ⟨b, o, none⟩) n c) rfl (by kernel_rfl) (by kernel_rfl) (by kernel_rfl) (fun _ _ _ h => h) (Or.inl ⟨by rfl, fun w0 hC => by simp [execOp, Act.eval, Act.put, go_sem]⟩) hHeld ?_
        try simp only [Act.put, jA, jB, jC, jD, jE, jF]
        refine wpAnyH_take (i := 1) (v := .int .i64 (k : Int)) rfl (by kernel_rfl) (by kernel_rfl) (by kernel_rfl) (fun _ _ _ h => h) (Or.inl ⟨by rfl, fun w0 hC => by simp [execOp, Act.eval, Act.put, go_sem]⟩) hHeld ?_
        try simp only [Act.put, jA, jB, jC, jD, jE, jF]
        refine wpAnyH_take (i := 2) (v := .pointer (some ⟨b, o + k * 4, none⟩)) rfl (by kernel_rfl) (by kernel_rfl) (by kernel_rfl) (fun _ _ _ h => h) (Or.inl ⟨by rfl, fun w0 hC => by simp [execOp, Act.eval, Act.put, go_sem, k0, k1, hlt]⟩) hHeld ?_
        try simp only [Act.put, jA, jB, jC, jD, jE, jF]
        refine wpAnyH_take (i := 3) (v := .agg #[.int .i64 u, .int .i64 f, .int .i64 d, .slice xA xn xc]) rfl (by kernel_rfl) (by kernel_rfl) (by kernel_rfl) (fun _ _ _ h => h) (Or.inl ⟨by rfl, fun w0 hC => by simp [execOp, Act.eval, Act.put, go_sem, (hC.cell (p := ⟨b, o + k * 4, none⟩) hbb).trans r0, (hC.cell (p := ⟨b, o + k * 4 + 1, none⟩) hbb).trans r1, (hC.cell (p := ⟨b, o + k * 4 + 2, none⟩) hbb).trans r2, (hC.cell (p := ⟨b, o + k * 4 + 3, none⟩) hbb).trans r3]⟩) hHeld ?_
        try simp only [Act.put, jA, jB, jC, jD, jE, jF]
        refine wpAnyH_take (i := 4) (v := .slice (some ⟨b', o', none⟩) n' c') rfl (by kernel_rfl) (by kernel_rfl) (by kernel_rfl) (fun _ _ _ h => h) (Or.inl ⟨by rfl, fun w0 hC => by simp [execOp, Act.eval, Act.put, go_sem]⟩) hHeld ?_
        try simp only [Act.put, jA, jB, jC, jD, jE, jF]
        refine wpAnyH_take (i := 5) (v := .int .i64 (k : Int)) rfl (by kernel_rfl) (by kernel_rfl) (by kernel_rfl) (fun _ _ _ h => h) (Or.inl ⟨by rfl, fun w0 hC => by simp [execOp, Act.eval, Act.put, go_sem]⟩) hHeld ?_
        try simp only [Act.put, jA, jB, jC, jD, jE, jF]
        refine wpAnyH_take (i := 6) (v := .pointer (some ⟨b', o' + k * 4, none⟩)) rfl (by kernel_rfl) (by kernel_rfl) (by kernel_rfl) (fun _ _ _ h => h) (Or.inl ⟨by rfl, fun w0 hC => by simp [execOp, Act.eval, Act.put, go_sem, k0, k1', hlt']⟩) hHeld ?_
        try simp only [Act.put, jA, jB, jC, jD, jE, jF]
        refine wpAnyH_take (i := 7) (v := .agg #[.int .i64 u', .int .i64 f', .int .i64 d', .slice yA yn yc]) rfl (by kernel_rfl) (by kernel_rfl) (by kernel_rfl) (fun _ _ _ h => h) (Or.inl ⟨by rfl, fun w0 hC => by simp [execOp, Act.eval, Act.put, go_sem, (hC.cell (p := ⟨b', o' + k * 4, none⟩) hbb').trans s0, (hC.cell (p := ⟨b', o' + k * 4 + 1, none⟩) hbb').trans s1, (hC.cell (p := ⟨b', o' + k * 4 + 2, none⟩) hbb').trans s2, (hC.cell (p := ⟨b', o' + k * 4 + 3, none⟩) hbb').trans s3]⟩) hHeld ?_
        try simp only [Act.put, jA, jB, jC, jD, jE, jF]
        refine wpAnyH_ready (rs := [8]) (by kernel_rfl) (by simp) (AllReadyH.cons rfl (fun K hK => ?_) AllReadyH.nil)
        rw [if_pos (by rfl)]
        go_wp2_with fail
        refine (x11sameMsg_any u f d xA xn xc bl u' f' d' yA yn yc bl' W (HX.out.later hHeld).1 (HY.out.later hHeld).1).mono ?_
        rintro e W2 ⟨rfl, rfl⟩
        rw [HM.out]
        have hS := (hHeld.alloc hHeld.size (.cells #[.int .i64 u, .int .i64 f, .int .i64 d, .slice xA xn xc] 49)).alloc (by have := hHeld.size; simp; omega) (.cells #[.int .i64 u', .int .i64 f', .int .i64 d', .slice yA yn yc] 49)
        clear hHeld
        refine hK.out _ _ hS (fun hHeld => ?_)
        clear hK K
        try simp only [Act.put, jA, jB, jC, jD, jE, jF]
        clear hS
        refine wpAnyH_take (i := 9) (v := .bool true) rfl (by kernel_rfl) (by kernel_rfl) (by kernel_rfl) (fun _ _ _ h => h) (Or.inl ⟨by rfl, fun w0 hC => by simp [execOp, Act.eval, Act.put, go_sem]⟩) hHeld ?_
        try simp only [Act.put, jA, jB, jC, jD, jE, jF]
        refine wpAnyH_done (by kernel_rfl) ?_ _
        have HB2 := Lib.hid (HB.out.trans (hHeld.mono HB.out.size))
        clear hHeld
        go_wp2_with fail
        go_ret
        exact ⟨by rw [same_stop HLA.out HLA'.out HM.out] <;> rfl, HB2.out⟩
      · have HM := Lib.hid hm
        clear hm
        go_wp2_with fail
        refine wp_region_held_drew (S := fun W' => Below wr.heap.size wr W') hmx (Below.refl wr.heap.size wr).drew (fun hHeld => ?_)
        generalize hW0 : wr.drew = W at *
        clear hW0
        simp only [List.size_toArray, List.length_cons, List.length_nil, Nat.reduceAdd]
        refine wpAnyH_take (i := 0) (v := .slice (some ⟨b, o, none⟩) n c) rfl (by kernel_rfl) (by kernel_rfl) (by kernel_rfl) (fun _ _ _ h => h) (Or.inl ⟨by rfl, fun w0 hC => by simp [execOp, Act.eval, Act.put, go_sem]⟩) hHeld ?_
        try simp only [Act.put, jA, jB, jC, jD, jE, jF]
        refine wpAnyH_take (i := 1) (v := .int .i64 (k : Int)) rfl (by kernel_rfl) (by kernel_rfl) (by kernel_rfl) (fun _ _ _ h => h) (Or.inl ⟨by rfl, fun w0 hC => by simp [execOp, Act.eval, Act.put, go_sem]⟩) hHeld ?_
        try simp only [Act.put, jA, jB, jC, jD, jE, jF]
        refine wpAnyH_take (i := 2) (v := .pointer (some ⟨b, o + k * 4, none⟩)) rfl (by kernel_rfl) (by kernel_rfl) (by kernel_rfl) (fun _ _ _ h => h) (Or.inl ⟨by rfl, fun w0 hC => by simp [execOp, Act.eval, Act.put, go_sem, k0, k1, hlt]⟩) hHeld ?_
        try simp only [Act.put, jA, jB, jC, jD, jE, jF]
        refine wpAnyH_take (i := 3) (v := .agg #[.int .i64 u, .int .i64 f, .int .i64 d, .slice xA xn xc]) rfl (by kernel_rfl) (by kernel_rfl) (by kernel_rfl) (fun _ _ _ h => h) (Or.inl ⟨by rfl, fun w0 hC => by simp [execOp, Act.eval, Act.put, go_sem, (hC.cell (p := ⟨b, o + k * 4, none⟩) hbb).trans r0, (hC.cell (p := ⟨b, o + k * 4 + 1, none⟩) hbb).trans r1, (hC.cell (p := ⟨b, o + k * 4 + 2, none⟩) hbb).trans r2, (hC.cell (p := ⟨b, o + k * 4 + 3, none⟩) hbb).trans r3]⟩) hHeld ?_
        try simp only [Act.put, jA, jB, jC, jD, jE, jF]
        refine wpAnyH_take (i := 4) (v := .slice (some ⟨b', o', none⟩) n' c') rfl (by kernel_rfl) (by kernel_rfl) (by kernel_rfl) (fun _ _ _ h => h) (Or.inl ⟨by rfl, fun w0 hC => by simp [execOp, Act.eval, Act.put, go_sem]⟩) hHeld ?_
        try simp only [Act.put, jA, jB, jC, jD, jE, jF]
        refine wpAnyH_take (i := 5) (v := .int .i64 (k : Int)) rfl (by kernel_rfl) (by kernel_rfl) (by kernel_rfl) (fun _ _ _ h => h) (Or.inl ⟨by rfl, fun w0 hC => by simp [execOp, Act.eval, Act.put, go_sem]⟩) hHeld ?_
        try simp only [Act.put, jA, jB, jC, jD, jE, jF]
        refine wpAnyH_take (i := 6) (v := .pointer (some ⟨b', o' + k * 4, none⟩)) rfl (by kernel_rfl) (by kernel_rfl) (by kernel_rfl) (fun _ _ _ h => h) (Or.inl ⟨by rfl, fun w0 hC => by simp [execOp, Act.eval, Act.put, go_sem, k0, k1', hlt']⟩) hHeld ?_
        try simp only [Act.put, jA, jB, jC, jD, jE, jF]
        refine wpAnyH_take (i := 7) (v := .agg #[.int .i64 u', .int .i64 f', .int .i64 d', .slice yA yn yc]) rfl (by kernel_rfl) (by kernel_rfl) (by kernel_rfl) (fun _ _ _ h => h) (Or.inl ⟨by rfl, fun w0 hC => by simp [execOp, Act.eval, Act.put, go_sem, (hC.cell (p := ⟨b', o' + k * 4, none⟩) hbb').trans s0, (hC.cell (p := ⟨b', o' + k * 4 + 1, none⟩) hbb').trans s1, (hC.cell (p := ⟨b', o' + k * 4 + 2, none⟩) hbb').trans s2, (hC.cell (p := ⟨b', o' + k * 4 + 3, none⟩) hbb').trans s3]⟩) hHeld ?_
        try simp only [Act.put, jA, jB, jC, jD, jE, jF]
        refine wpAnyH_ready (rs := [8]) (by kernel_rfl) (by simp) (AllReadyH.cons rfl (fun K hK => ?_) AllReadyH.nil)
        rw [if_pos (by rfl)]
        go_wp2_with fail
        refine (x11sameMsg_any u f d xA xn xc bl u' f' d' yA yn yc bl' W (HX.out.later hHeld).1 (HY.out.later hHeld).1).mono ?_
        rintro e W2 ⟨rfl, rfl⟩
        rw [HM.out]
        have hS := (hHeld.alloc hHeld.size (.cells #[.int .i64 u, .int .i64 f, .int .i64 d, .slice xA xn xc] 49)).alloc (by have := hHeld.size; simp; omega) (.cells #[.int .i64 u', .int .i64 f', .int .i64 d', .slice yA yn yc] 49)
        clear hHeld
        refine hK.out _ _ hS (fun hHeld => ?_)
        clear hK K
        try simp only [Act.put, jA, jB, jC, jD, jE, jF]
        clear hS
        refine wpAnyH_take (i := 9) (v := .bool false) rfl (by kernel_rfl) (by kernel_rfl) (by kernel_rfl) (fun _ _ _ h => h) (Or.inl ⟨by rfl, fun w0 hC => by simp [execOp, Act.eval, Act.put, go_sem]⟩) hHeld ?_
        try simp only [Act.put, jA, jB, jC, jD, jE, jF]
        refine wpAnyH_done (by kernel_rfl) ?_ _
        have HB2 := Lib.hid (HB.out.trans (hHeld.mono HB.out.size))
        clear hHeld
        go_wp2_with fail
        have HS := Lib.hid (same_next HA.out HTK.out HTK'.out HM.out)
        go_roundw
        case rel => exact ⟨k + 1, by omega, by go_num, HS.out, HB2.out⟩
        case measure => simp [intOf]; omega
    · have hkn : ¬ (k : Int) < (n : Int) := by omega
      have HR := Lib.hid (same_all HA.out HL.out.len (by rw [HNN.out]; exact HL'.out.len) hlt)
      go_wp2_with fail
      go_ret
      exact ⟨by rw [HR.out] <;> rfl, HB.out⟩
set_option maxRecDepth 20000 in
set_option maxHeartbeats 4000000 in
theorem equalM_any (A : Option Addr) (n c : Nat) (l : List Mg) (A' : Option Addr) (n' c' : Nat) (l' : List Mg) (w : World) (hl : MsgsIn w w.heap.size A n l) (hl' : MsgsIn w w.heap.size A' n' l') (hn : n ≤ 1000000) (hn' : n' ≤ 140737488355328) :
    Calls Tryz.prog 143 #[.slice A n c, .slice A' n' c', .func (.func 144) #[] #[]] w (SaysB (decide (l = l')) w) := by
  have HL := Lib.hid hl
  have HL' := Lib.hid hl'
  clear hl hl'
  by_cases hnn : n ≠ n'
  · have HR := Lib.hid (same_len HL.out.len HL'.out.len hnn)
    have hb : ((n : Int) != (n' : Int)) = true := by simp; omega
    clear hnn
    go_enter Tryz.func143, Tryz.ntmps143
    go_wp2_with fail
    go_ret
    exact ⟨by rw [HR.out] <;> rfl, Below.refl _ _⟩
  have HNN : Hid (n = n') := Lib.hid (by omega)
  have hb : ((n : Int) != (n' : Int)) = false := by simp; omega
  clear hnn
  go_enter Tryz.func143, Tryz.ntmps143
  go_wp2_with fail
  go_loopw [17] (fun i wx => ∃ k : Nat, k ≤ n ∧ i = .int .i64 (k : Int) ∧ l.take k = l'.take k ∧ Below w.heap.size w wx) (fun i _ => n - (intOf i).toNat)
  case atStart => exact ⟨0, Nat.zero_le _, rfl, rfl, Below.refl _ _⟩
  case round =>
    obtain ⟨k, hk, rfl, ha, hbw⟩ := hrel
    have HA := Lib.hid ha
    have HB := Lib.hid hbw
    clear ha hbw
    by_cases hlt : k < n
    · obtain ⟨b, o, x, rfl, hbb, hla, htk, hrow, hin⟩ := (HL.out.later HB.out).at_ hlt
      have hlt' : k < n' := by have := HNN.out; omega
      obtain ⟨b', o', y, rfl, hbb', hla', htk', hrow', hin'⟩ := (HL'.out.later HB.out).at_ hlt'
      have HLA := Lib.hid hla
      have HLA' := Lib.hid hla'
      have HTK := Lib.hid htk
      have HTK' := Lib.hid htk'
      obtain ⟨⟨u, f, d, bl⟩, xA, xn, xc⟩ := x
      obtain ⟨⟨u', f', d', bl'⟩, yA, yn, yc⟩ := y
      have HROW := Lib.hid hrow
      have k0 : (0 : Int) ≤ (k : Int) := by omega
      have k1 : (k : Int) < (n : Int) := by omega
      have k1' : (k : Int) < (n' : Int) := by omega
      have hbn1 : Below wr.heap.size wr (wr.alloc (.cells #[.int .i64 u, .int .i64 f, .int .i64 d, .slice xA xn xc] 49)) := (Below.refl _ _).alloc (Nat.le_refl _) _
      have HROW' := Lib.hid (rangeAtK_keep hrow' (fun i => hbn1.cell (p := ⟨b', i, none⟩) hbb'))
      have hbn : Below wr.heap.size wr ((wr.alloc (.cells #[.int .i64 u, .int .i64 f, .int .i64 d, .slice xA xn xc] 49)).alloc (.cells #[.int .i64 u', .int .i64 f', .int .i64 d', .slice yA yn yc] 49)) := hbn1.alloc hbn1.size _
      have hm1 : Bk ((wr.alloc (.cells #[.int .i64 u, .int .i64 f, .int .i64 d, .slice xA xn xc] 49)).alloc (.cells #[.int .i64 u', .int .i64 f', .int .i64 d', .slice yA yn yc] 49)) wr.heap.size 49 #[.int .i64 u, .int .i64 f, .int .i64 d, .slice xA xn xc] := (Bk.new _ _ _).alloc _
      have hm2 : Bk ((wr.alloc (.cells #[.int .i64 u, .int .i64 f, .int .i64 d, .slice xA xn xc] 49)).alloc (.cells #[.int .i64 u', .int .i64 f', .int .i64 d', .slice yA yn yc] 49)) (wr.heap.size + 1) 49 #[.int .i64 u', .int .i64 f', .int .i64 d', .slice yA yn yc] := Bk.new2 _ _ _ _
      have CM := Lib.hid (sameMsg_any u f d xA xn xc bl u' f' d' yA yn yc bl' _ (HdIn.later hin hbn).1 (HdIn.later hin' hbn).1)
      have HB2 := Lib.hid (((HB.out.trans (hbn.mono HB.out.size)).alloc (by have := HB.out.size; simp; omega) (.cells #[.int .i64 u, .int .i64 f, .int .i64 d, .slice xA xn xc] 49)).alloc (by have := HB.out.size; simp; omega) (.cells #[.int .i64 u', .int .i64 f', .int .i64 d', .slice yA yn yc] 49))
      have hf1 := Lib.hid hm1.four
      have hf2 := Lib.hid hm2.four
      clear hla hla' htk htk' hrow hrow' hin hin' hbn hbn1 hm1 hm2
      cases hm : decide ((⟨u, f, d, bl⟩ : Mg) = ⟨u', f', d', bl'⟩)
      · have HM := Lib.hid hm
        clear hm
        go_wp2_with ((with_reducible show wpList _ _ _ (⟨some 21, _, _, _, _, _⟩ :: _) _ _); refine hold ?_)
        refine held (wpList_load_mid rfl 49 (.tmp 20) rfl b (o + k * 4) rfl _ _ HROW.out Tryz.underlying49 rfl (by kernel_rfl) ?_)
        unfold hdC
        go_wp2_with ((with_reducible show wpList _ _ _ (⟨some 25, _, _, _, _, _⟩ :: _) _ _); refine hold ?_)
        refine held (wpList_load_mid rfl 49 (.tmp 24) rfl b' (o' + k * 4) rfl _ _ HROW'.out Tryz.underlying49 rfl (by kernel_rfl) ?_)
        unfold hdC
        obtain ⟨⟨c0, c1, c2, c3⟩, -, -, -, -⟩ := hf1.out
        obtain ⟨⟨d0, d1, d2, d3⟩, -, -, -, -⟩ := hf2.out
        go_wp2_with fail
        refine CM.out.mono ?_
        rintro e w5 ⟨rfl, rfl⟩
        rw [HM.out]
        go_wp2_with fail
        go_ret
        exact ⟨by rw [same_stop HLA.out HLA'.out HM.out] <;> rfl, HB2.out⟩
      · have HM := Lib.hid hm
        have HS := Lib.hid (same_next HA.out HTK.out HTK'.out hm)
        clear hm
        go_wp2_with ((with_reducible show wpList _ _ _ (⟨some 21, _, _, _, _, _⟩ :: _) _ _); refine hold ?_)
        refine held (wpList_load_mid rfl 49 (.tmp 20) rfl b (o + k * 4) rfl _ _ HROW.out Tryz.underlying49 rfl (by kernel_rfl) ?_)
        unfold hdC
        go_wp2_with ((with_reducible show wpList _ _ _ (⟨some 25, _, _, _, _, _⟩ :: _) _ _); refine hold ?_)
        refine held (wpList_load_mid rfl 49 (.tmp 24) rfl b' (o' + k * 4) rfl _ _ HROW'.out Tryz.underlying49 rfl (by kernel_rfl) ?_)
        unfold hdC
        obtain ⟨⟨c0, c1, c2, c3⟩, -, -, -, -⟩ := hf1.out
        obtain ⟨⟨d0, d1, d2, d3⟩, -, -, -, -⟩ := hf2.out
        go_wp2_with fail
        refine CM.out.mono ?_
        rintro e w5 ⟨rfl, rfl⟩
        rw [HM.out]
        go_wp2_with fail
        go_roundw
        case rel => exact ⟨k + 1, by omega, by go_num, HS.out, HB2.out⟩
        case measure => simp [intOf]; omega
    · have hkn : ¬ (k : Int) < (n : Int) := by omega
      have HR := Lib.hid (same_all HA.out HL.out.len (by rw [HNN.out]; exact HL'.out.len) hlt)
      go_wp2_with fail
      go_ret
      exact ⟨by rw [HR.out] <;> rfl, HB.out⟩
theorem bx_ne1 {nm nm' : ByteArray} {v nx v' nx' : Int} {l l' : List Mg} (h : (nm.toList == nm'.toList) = false) : decide ((⟨nm, v, nx, l⟩ : Bx) = ⟨nm', v', nx', l'⟩) = false := decide_eq_false (fun e => by
  have := congrArg Bx.name e
  simp only at this
  rw [this] at h; simp at h)
theorem bx_ne2 {nm nm' : ByteArray} {v nx v' nx' : Int} {l l' : List Mg} (h : (v == v') = false) : decide ((⟨nm, v, nx, l⟩ : Bx) = ⟨nm', v', nx', l'⟩) = false := decide_eq_false (fun e => by
  have := congrArg Bx.valid e
  simp only at this
  rw [this] at h; simp at h)
theorem bx_ne3 {nm nm' : ByteArray} {v nx v' nx' : Int} {l l' : List Mg} (h : (nx == nx') = false) : decide ((⟨nm, v, nx, l⟩ : Bx) = ⟨nm', v', nx', l'⟩) = false := decide_eq_false (fun e => by
  have := congrArg Bx.next e
  simp only at this
  rw [this] at h; simp at h)
theorem bx_eq {nm nm' : ByteArray} {v nx v' nx' : Int} {l l' : List Mg} (h1 : (nm.toList == nm'.toList) = true) (h2 : (v == v') = true) (h3 : (nx == nx') = true) : decide ((⟨nm, v, nx, l⟩ : Bx) = ⟨nm', v', nx', l'⟩) = decide (l = l') := by
  rw [text_eqb11] at h1
  rw [of_decide_eq_true h1, beq_iff_eq.1 h2, beq_iff_eq.1 h3]
  by_cases h : l = l'
  · rw [h]; simp
  · rw [decide_eq_false h, decide_eq_false (fun e => h (by have := congrArg Bx.msgs e; simpa using this))]
set_option maxRecDepth 20000 in
set_option maxHeartbeats 2000000 in
theorem x11same_any (nm : ByteArray) (v nx : Int) (A : Option Addr) (n c : Nat) (l : List Mg) (nm' : ByteArray) (v' nx' : Int) (A' : Option Addr) (n' c' : Nat) (l' : List Mg) (w : World) (hl : MsgsIn w w.heap.size A n l) (hl' : MsgsIn w w.heap.size A' n' l') (hn : n ≤ 1000000) (hn' : n' ≤ 140737488355328) :
    Calls Tryz.prog 21 #[.agg #[.string nm, .int .i64 v, .int .i64 nx, .slice A n c], .agg #[.string nm', .int .i64 v', .int .i64 nx', .slice A' n' c']] w (SaysB (decide ((⟨nm, v, nx, l⟩ : Bx) = ⟨nm', v', nx', l'⟩)) w) := by
  have h1 : Bk ((w.alloc (.cells #[.string nm, .int .i64 v, .int .i64 nx, .slice A n c] 44)).alloc (.cells #[.string nm', .int .i64 v', .int .i64 nx', .slice A' n' c'] 44)) w.heap.size 44 #[.string nm, .int .i64 v, .int .i64 nx, .slice A n c] := (Bk.new _ _ _).alloc _
  have h2 : Bk ((w.alloc (.cells #[.string nm, .int .i64 v, .int .i64 nx, .slice A n c] 44)).alloc (.cells #[.string nm', .int .i64 v', .int .i64 nx', .slice A' n' c'] 44)) (w.heap.size + 1) 44 #[.string nm', .int .i64 v', .int .i64 nx', .slice A' n' c'] := Bk.new2 _ _ _ _
  have hB : Below w.heap.size w ((w.alloc (.cells #[.string nm, .int .i64 v, .int .i64 nx, .slice A n c] 44)).alloc (.cells #[.string nm', .int .i64 v', .int .i64 nx', .slice A' n' c'] 44)) := ((Below.refl _ _).alloc (Nat.le_refl _) _).alloc (by simp) _
  have HC := Lib.hid (x11msgs_any A n c l A' n' c' l' _ (hl.later hB) (hl'.later hB) hn hn')
  have HB := Lib.hid hB
  obtain ⟨⟨c0, c1, c2, c3⟩, -, -, -, -⟩ := h1.four
  obtain ⟨⟨d0, d1, d2, d3⟩, -, -, -, -⟩ := h2.four
  clear h1 h2 hl hl' hB
  cases hu : (nm.toList == nm'.toList)
  · have HR := Lib.hid (bx_ne1 (v := v) (nx := nx) (v' := v') (nx' := nx') (l := l) (l' := l') hu)
    go_enter Tryz.func21, Tryz.ntmps21
    go_wp2_with fail
    go_ret
    exact ⟨by rw [HR.out] <;> rfl, HB.out⟩
  cases hf : (v == v')
  · have HR := Lib.hid (bx_ne2 (nm := nm) (nx := nx) (nm' := nm') (nx' := nx') (l := l) (l' := l') hf)
    go_enter Tryz.func21, Tryz.ntmps21
    go_wp2_with fail
    go_ret
    exact ⟨by rw [HR.out] <;> rfl, HB.out⟩
  cases hd : (nx == nx')
  · have HR := Lib.hid (bx_ne3 (nm := nm) (v := v) (nm' := nm') (v' := v') (l := l) (l' := l') hd)
    go_enter Tryz.func21, Tryz.ntmps21
    go_wp2_with fail
    go_ret
    exact ⟨by rw [HR.out] <;> rfl, HB.out⟩
  rw [bx_eq (l := l) (l' := l') hu hf hd]
  generalize decide (l = l') = q at *
  go_enter Tryz.func21, Tryz.ntmps21
  go_wp2_with fail
  refine HC.out.mono ?_
  rintro e w' ⟨rfl, hb⟩
  have HB2 := Lib.hid (HB.out.trans (hb.mono (by simp; omega)))
  clear hb HC
  go_wp2_with fail
  go_ret
  exact ⟨rfl, HB2.out⟩
set_option maxRecDepth 20000 in
set_option maxHeartbeats 2000000 in
theorem same_any11 (nm : ByteArray) (v nx : Int) (A : Option Addr) (n c : Nat) (l : List Mg) (nm' : ByteArray) (v' nx' : Int) (A' : Option Addr) (n' c' : Nat) (l' : List Mg) (w : World) (hl : MsgsIn w w.heap.size A n l) (hl' : MsgsIn w w.heap.size A' n' l') (hn : n ≤ 1000000) (hn' : n' ≤ 140737488355328) :
    Calls Tryz.prog 63 #[.agg #[.string nm, .int .i64 v, .int .i64 nx, .slice A n c], .agg #[.string nm', .int .i64 v', .int .i64 nx', .slice A' n' c']] w (SaysB (decide ((⟨nm, v, nx, l⟩ : Bx) = ⟨nm', v', nx', l'⟩)) w) := by
  have h1 : Bk ((w.alloc (.cells #[.string nm, .int .i64 v, .int .i64 nx, .slice A n c] 44)).alloc (.cells #[.string nm', .int .i64 v', .int .i64 nx', .slice A' n' c'] 44)) w.heap.size 44 #[.string nm, .int .i64 v, .int .i64 nx, .slice A n c] := (Bk.new _ _ _).alloc _
  have h2 : Bk ((w.alloc (.cells #[.string nm, .int .i64 v, .int .i64 nx, .slice A n c] 44)).alloc (.cells #[.string nm', .int .i64 v', .int .i64 nx', .slice A' n' c'] 44)) (w.heap.size + 1) 44 #[.string nm', .int .i64 v', .int .i64 nx', .slice A' n' c'] := Bk.new2 _ _ _ _
  have hB : Below w.heap.size w ((w.alloc (.cells #[.string nm, .int .i64 v, .int .i64 nx, .slice A n c] 44)).alloc (.cells #[.string nm', .int .i64 v', .int .i64 nx', .slice A' n' c'] 44)) := ((Below.refl _ _).alloc (Nat.le_refl _) _).alloc (by simp) _
  have HC := Lib.hid (equalM_any A n c l A' n' c' l' _ (hl.later hB) (hl'.later hB) hn hn')
  have HB := Lib.hid hB
  obtain ⟨⟨c0, c1, c2, c3⟩, -, -, -, -⟩ := h1.four
  obtain ⟨⟨d0, d1, d2, d3⟩, -, -, -, -⟩ := h2.four
  clear h1 h2 hl hl' hB
  cases hu : (nm.toList == nm'.toList)
  · have HR := Lib.hid (bx_ne1 (v := v) (nx := nx) (v' := v') (nx' := nx') (l := l) (l' := l') hu)
    go_enter Tryz.func63, Tryz.ntmps63
    go_wp2_with fail
    go_ret
    exact ⟨by rw [HR.out] <;> rfl, HB.out⟩
  cases hf : (v == v')
  · have HR := Lib.hid (bx_ne2 (nm := nm) (nx := nx) (nm' := nm') (nx' := nx') (l := l) (l' := l') hf)
    go_enter Tryz.func63, Tryz.ntmps63
    go_wp2_with fail
    go_ret
    exact ⟨by rw [HR.out] <;> rfl, HB.out⟩
  cases hd : (nx == nx')
  · have HR := Lib.hid (bx_ne3 (nm := nm) (v := v) (nm' := nm') (v' := v') (l := l) (l' := l') hd)
    go_enter Tryz.func63, Tryz.ntmps63
    go_wp2_with fail
    go_ret
    exact ⟨by rw [HR.out] <;> rfl, HB.out⟩
  rw [bx_eq (l := l) (l' := l') hu hf hd]
  generalize decide (l = l') = q at *
  go_enter Tryz.func63, Tryz.ntmps63
  go_wp2_with fail
  refine HC.out.mono ?_
  rintro e w' ⟨rfl, hb⟩
  have HB2 := Lib.hid (HB.out.trans (hb.mono (by simp; omega)))
  clear hb HC
  go_wp2_with fail
  go_ret
  exact ⟨rfl, HB2.out⟩
end Go.Proofs.YtbogjfbfgbhdbaaGreatDoor
namespace Go.Proofs.YtbogjfbfgbhdbaaGreatDoor
open List renaming setIfInBounds_toArray → jA, set_cons_zero → jB, set_cons_succ → jC, getElem_toArray → jD, getElem_cons_zero → jE, getElem_cons_succ → jF
set_option linter.unusedVariables false
set_option linter.unusedSimpArgs false
open Go.RowKit
set_option linter.unusedVariables false
set_option linter.unusedSimpArgs false
def tmA (t : Tm) : Array Value := #[.int .i64 t.id, .string t.box, .int .i64 t.at_, .int .i64 t.uid, .int .i64 t.flags, .int .i64 t.date, .slice t.A t.n t.c]
def mx0 (z : Int) : Int := max z 0
def tog (a k : Int) : Int := min (a + k) 4611686018427387904
theorem tog_big {a k : Int} (h : 4611686018427387904 - k < a) : tog a k = 4611686018427387904 := by unfold tog; omega
theorem tog_small {a k : Int} (h : ¬ 4611686018427387904 - k < a) : tog a k = a + k := by unfold tog; omega
theorem ripe_tog (a k n : Int) : ripeB a k n = decide (tog (mx0 a) (mx0 k) ≤ n) := rfl
set_option maxHeartbeats 400000 in
theorem together_any (a k : Int) (ha : 0 ≤ a) (ha2 : a < 9223372036854775808) (hk : 0 ≤ k) (hk2 : k < 9223372036854775808) (w : World) :
    Calls Tryz.prog 271 #[.int .i64 a, .int .i64 k] w fun e w' => e = .returned (.int .i64 (tog a k)) ∧ w = w' := by
  by_cases h : 4611686018427387904 - k < a
  · have HR := Lib.hid (tog_big h)
    go_enter Tryz.func271, Tryz.ntmps271
    go_wp2_with fail
    go_ret
    exact ⟨by rw [HR.out] <;> rfl, rfl⟩
  · have HR := Lib.hid (tog_small h)
    go_enter Tryz.func271, Tryz.ntmps271
    go_wp2_with fail
    go_ret
    exact ⟨by rw [HR.out] <;> rfl, rfl⟩
end Go.Proofs.YtbogjfbfgbhdbaaGreatDoor
namespace Go.Proofs.YtbogjfbfgbhdbaaGreatDoor
open List renaming setIfInBounds_toArray → jA, set_cons_zero → jB, set_cons_succ → jC, getElem_toArray → jD, getElem_cons_zero → jE, getElem_cons_succ → jF
set_option linter.unusedVariables false
set_option linter.unusedSimpArgs false
open Go.RowKit
set_option linter.unusedVariables false
set_option linter.unusedSimpArgs false
end Go.Proofs.YtbogjfbfgbhdbaaGreatDoor
namespace Go.Proofs.YtbogjfbfgbhdbaaGreatDoor
open List renaming setIfInBounds_toArray → jA, set_cons_zero → jB, set_cons_succ → jC, getElem_toArray → jD, getElem_cons_zero → jE, getElem_cons_succ → jF
set_option linter.unusedVariables false
set_option linter.unusedSimpArgs false
open Go.RowKit
set_option linter.unusedVariables false
set_option linter.unusedSimpArgs false
theorem tmA_size (t : Tm) : (tmA t).size = 7 := rfl
theorem Bk.tm {w : World} {b : Nat} {t : Tm} (H : Bk w b 51 (tmA t)) :
    w.cell? ⟨b, 0, none⟩ = some (.int .i64 t.id) ∧ w.cell? ⟨b, 1, none⟩ = some (.string t.box) ∧ w.cell? ⟨b, 2, none⟩ = some (.int .i64 t.at_) ∧ w.cell? ⟨b, 3, none⟩ = some (.int .i64 t.uid) ∧
    w.cell? ⟨b, 4, none⟩ = some (.int .i64 t.flags) ∧ w.cell? ⟨b, 5, none⟩ = some (.int .i64 t.date) ∧ w.cell? ⟨b, 6, none⟩ = some (.slice t.A t.n t.c) :=
  ⟨H.cell 0, H.cell 1, H.cell 2, H.cell 3, H.cell 4, H.cell 5, H.cell 6⟩
theorem mx0_pos {z : Int} (h : 0 ≤ z) : mx0 z = z := by unfold mx0; omega
theorem mx0_neg {z : Int} (h : ¬ 0 ≤ z) : mx0 z = 0 := by unfold mx0; omega
theorem ripe_pp {a k n : Int} (ha : 0 ≤ a) (hk : 0 ≤ k) : ripeB a k n = decide (tog a k ≤ n) := by rw [ripe_tog, mx0_pos ha, mx0_pos hk]
theorem ripe_pn {a k n : Int} (ha : 0 ≤ a) (hk : ¬ 0 ≤ k) : ripeB a k n = decide (tog a 0 ≤ n) := by rw [ripe_tog, mx0_pos ha, mx0_neg hk]
theorem ripe_np {a k n : Int} (ha : ¬ 0 ≤ a) (hk : 0 ≤ k) : ripeB a k n = decide (tog 0 k ≤ n) := by rw [ripe_tog, mx0_neg ha, mx0_pos hk]
theorem ripe_nn {a k n : Int} (ha : ¬ 0 ≤ a) (hk : ¬ 0 ≤ k) : ripeB a k n = decide (tog 0 0 ≤ n) := by rw [ripe_tog, mx0_neg ha, mx0_neg hk]
set_option maxHeartbeats 2000000 in
theorem rlRipe_any (t : Tm) (k now : Int) (hat : t.at_ < 9223372036854775808) (hk : k < 9223372036854775808) (w : World) :
    Calls Tryz.prog 251 #[.agg (tmA t), .int .i64 k, .int .i64 now] w fun e w' => e = .returned (.bool (ripeB t.at_ k now)) ∧ Below w.heap.size w w' := by
  have t2 : (tmA t)[2]? = some (.int .i64 t.at_) := rfl
  by_cases ha : 0 ≤ t.at_
  all_goals by_cases hk0 : 0 ≤ k
  · have HR := Lib.hid (ripe_pp (n := now) ha hk0)
    have CT := Lib.hid (fun w => together_any t.at_ k (by omega) (by omega) (by omega) (by omega) w)
    go_enter Tryz.func251, Tryz.ntmps251
    go_wp2_with fail
    refine (CT.out _).mono ?_
    rintro e w' ⟨rfl, rfl⟩
    go_wp2_with fail
    go_ret
    exact ⟨by rw [HR.out] <;> rfl, (Below.refl _ _).alloc (Nat.le_refl _) _⟩
  · have HR := Lib.hid (ripe_pn (n := now) ha hk0)
    have CT := Lib.hid (fun w => together_any t.at_ 0 (by omega) (by omega) (by omega) (by omega) w)
    go_enter Tryz.func251, Tryz.ntmps251
    go_wp2_with fail
    refine (CT.out _).mono ?_
    rintro e w' ⟨rfl, rfl⟩
    go_wp2_with fail
    go_ret
    exact ⟨by rw [HR.out] <;> rfl, (Below.refl _ _).alloc (Nat.le_refl _) _⟩
  · have HR := Lib.hid (ripe_np (n := now) ha hk0)
    have CT := Lib.hid (fun w => together_any 0 k (by omega) (by omega) (by omega) (by omega) w)
    go_enter Tryz.func251, Tryz.ntmps251
    go_wp2_with fail
    refine (CT.out _).mono ?_
    rintro e w' ⟨rfl, rfl⟩
    go_wp2_with fail
    go_ret
    exact ⟨by rw [HR.out] <;> rfl, (Below.refl _ _).alloc (Nat.le_refl _) _⟩
  · have HR := Lib.hid (ripe_nn (n := now) ha hk0)
    have CT := Lib.hid (fun w => together_any 0 0 (by omega) (by omega) (by omega) (by omega) w)
    go_enter Tryz.func251, Tryz.ntmps251
    go_wp2_with fail
    refine (CT.out _).mono ?_
    rintro e w' ⟨rfl, rfl⟩
    go_wp2_with fail
    go_ret
    exact ⟨by rw [HR.out] <;> rfl, (Below.refl _ _).alloc (Nat.le_refl _) _⟩
set_option maxRecDepth 20000 in
set_option maxHeartbeats 2000000 in
theorem rlKeep_any (A : Option Addr) (n c : Nat) (l : List Rul) (box : ByteArray) (w : World) (hl : ColK 2 rulC w w.heap.size A n l) (hn : n ≤ 140737488355328) :
    Calls Tryz.prog 252 #[.slice A n c, .string box] w fun e w' => e = .returned (.int .i64 (keepR l box)) ∧ Below w.heap.size w w' := by
  have HL := Lib.hid hl
  clear hl
  go_enter Tryz.func252, Tryz.ntmps252
  go_wp2_with fail
  go_loopw [9] (fun i wx => ∃ k : Nat, k ≤ n ∧ i = .int .i64 (k : Int) ∧ (∀ q ∈ l.take k, q.1 ≠ box) ∧ Below w.heap.size w wx) (fun i _ => n - (intOf i).toNat)
  case atStart => exact ⟨0, Nat.zero_le _, rfl, fun q hq => (by cases hq), Below.refl _ _⟩
  case round =>
    obtain ⟨k, hk, rfl, hu, hb⟩ := hrel
    have HU := Lib.hid hu
    have HB := Lib.hid hb
    clear hu hb
    by_cases hlt : k < n
    · obtain ⟨b, o, a, rfl, hbb, hla, htk, hrow⟩ := (HL.out.below HB.out (Nat.le_refl _)).at_ hlt
      obtain ⟨ck, cv⟩ := a
      have HLA := Lib.hid hla
      have HTK := Lib.hid htk
      have HROW := Lib.hid hrow
      have hk0 : (0 : Int) ≤ (k : Int) := by omega
      have hkn : (k : Int) < (n : Int) := by omega
      have heq := str_eq13 ck box
      clear hla htk hrow
      by_cases he : ck = box
      · rw [decide_eq_true he] at heq
        have HF : Hid (keepR l box = cv) := Lib.hid (keepR_at HLA.out he HU.out)
        clear he
        go_wp2_with ((with_reducible show wpList _ _ _ (⟨some 12, _, _, _, _, _⟩ :: _) _ _); refine hold ?_)
        refine held (wpList_load_mid rfl 83 (.tmp 11) rfl b (o + k * 2) rfl (rulC (ck, cv)) _ HROW.out Tryz.underlying83 rfl (by kernel_rfl) ?_)
        unfold rulC
        go_wp2_with fail
        go_ret
        exact ⟨by rw [HF.out] <;> rfl, HB.out.alloc HB.out.size _⟩
      · rw [decide_eq_false he] at heq
        have HU2 : Hid (∀ q ∈ l.take (k + 1), q.1 ≠ box) := Lib.hid (fun q hq => by
          rw [HTK.out] at hq
          rcases List.mem_append.1 hq with h1 | h1
          · exact HU.out q h1
          · rw [List.mem_singleton.1 h1]; exact he)
        clear he
        go_wp2_with ((with_reducible show wpList _ _ _ (⟨some 12, _, _, _, _, _⟩ :: _) _ _); refine hold ?_)
        refine held (wpList_load_mid rfl 83 (.tmp 11) rfl b (o + k * 2) rfl (rulC (ck, cv)) _ HROW.out Tryz.underlying83 rfl (by kernel_rfl) ?_)
        unfold rulC
        go_wp2_with fail
        go_roundw
        case rel => exact ⟨k + 1, by omega, by go_num, HU2.out, HB.out.alloc HB.out.size _⟩
        case measure => simp [intOf]; omega
    · have hkn : ¬ (k : Int) < (n : Int) := by omega
      have HF : Hid (keepR l box = 0) := Lib.hid (keepR_none (by have := HU.out; rwa [List.take_of_length_le (by rw [HL.out.1]; omega)] at this))
      go_wp2_with fail
      go_ret
      exact ⟨by rw [HF.out] <;> rfl, HB.out⟩
end Go.Proofs.YtbogjfbfgbhdbaaGreatDoor
