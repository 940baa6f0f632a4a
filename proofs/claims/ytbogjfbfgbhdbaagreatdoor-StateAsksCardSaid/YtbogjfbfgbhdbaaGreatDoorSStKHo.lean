/-
  A part of the proof: see the last text.
-/
import Derived.Test.YtbogjfbfgbhdbaaGreatDoorSUidsB
namespace Go.Proofs.YtbogjfbfgbhdbaaGreatDoor
open List renaming setIfInBounds_toArray → jA, set_cons_zero → jB, set_cons_succ → jC, getElem_toArray → jD, getElem_cons_zero → jE, getElem_cons_succ → jF
set_option linter.unusedVariables false
set_option linter.unusedSimpArgs false
open Go.RowKit
set_option linter.unusedVariables false
set_option linter.unusedSimpArgs false
set_option maxRecDepth 20000 in
set_option maxHeartbeats 4000000 in
theorem zIndexHo_any (g : Nat) (caps : Array Value) (p : Hol → Bool) (A : Option Addr) (n c : Nat) (l : List Hol) (w : World) (hl : HolsIn w w.heap.size A n l) (hn : n ≤ 140737488355328)
    (hg : Enters Tryz.prog g) (hc : CallP Tryz.prog g caps (fun x => .agg (hhA x)) HhIn Hh.hol l p w) :
    Calls Tryz.prog 173 #[.slice A n c, .func (.func g) #[] caps] w (IsAt l p w) := by
  have HL := Lib.hid hl
  have HC := Lib.hid hc
  have HG := Lib.hid hg
  clear hl hc hg
  go_enter Tryz.func173, Tryz.ntmps173
  go_wp2_with fail
  go_loopw [8] (fun i wx => ∃ k : Nat, k ≤ n ∧ i = .int .i64 (k : Int) ∧ (∀ b ∈ l.take k, p b = false) ∧ Below w.heap.size w wx) (fun i _ => n - (intOf i).toNat)
  case atStart => exact ⟨0, Nat.zero_le _, rfl, fun b hb => by simp at hb, Below.refl _ _⟩
  case round =>
    obtain ⟨k, hk, rfl, ha, hb⟩ := hrel
    have HB := Lib.hid hb
    have HU := Lib.hid ha
    clear ha hb
    by_cases hlt : k < n
    · obtain ⟨b, o, x, rfl, hbb, hla, htk, hrow, hin⟩ := (HL.out.below hhStays HB.out (Nat.le_refl _)).at_ hlt
      have HLA := Lib.hid hla
      have HTK := Lib.hid htk
      have HROW := Lib.hid hrow
      have hk0 : (0 : Int) ≤ (k : Int) := by omega
      have hkn : (k : Int) < (n : Int) := by omega
      have CI := Lib.hid (HC.out wr x HB.out (List.mem_of_getElem? hla) (hhStays.more hin HB.out.size))
      clear hla htk hrow hin
      go_wp2_with ((with_reducible show wpList _ _ _ (⟨some 15, _, _, _, _, _⟩ :: _) _ _); refine hold ?_)
      refine held (wpList_load_mid rfl 71 (.tmp 14) rfl b (o + k * 3) rfl (hhC x) _ HROW.out Tryz.underlying71 rfl (by kernel_rfl) ?_)
      rw [hhC_A]
      go_wp2_with fail
      rw [HG.out]
      refine CI.out.mono ?_
      rintro e w' ⟨rfl, hb2⟩
      have HB2 := Lib.hid (HB.out.trans (hb2.mono HB.out.size))
      clear hb2 CI
      cases hok : p (Hh.hol x)
      · have HS := Lib.hid (none_next HU.out HTK.out hok)
        clear hok
        go_wp2_with fail
        go_roundw
        case rel => exact ⟨k + 1, by omega, by go_num, HS.out, HB2.out⟩
        case measure => simp [intOf]; omega
      · have HS := Lib.hid (idx_hit HU.out HLA.out hok)
        clear hok
        go_wp2_with fail
        go_ret
        exact ⟨(k : Int), rfl, by rw [HS.out]; simp, by omega, by omega, HB2.out⟩
    · have hkn : ¬ (k : Int) < (n : Int) := by omega
      have HS := Lib.hid (none_all HU.out HL.out.len hlt)
      go_wp2_with fail
      go_ret
      exact ⟨-1, rfl, by rw [HS.out]; rfl, by omega, by omega, HB.out⟩
set_option maxHeartbeats 1000000 in
theorem zContainsHo_any (g : Nat) (caps : Array Value) (p : Hol → Bool) (A : Option Addr) (n c : Nat) (l : List Hol) (w : World) (hl : HolsIn w w.heap.size A n l) (hn : n ≤ 140737488355328)
    (hg : Enters Tryz.prog g) (hc : CallP Tryz.prog g caps (fun x => .agg (hhA x)) HhIn Hh.hol l p w) :
    Calls Tryz.prog 206 #[.slice A n c, .func (.func g) #[] caps] w (SaysB (l.any p) w) := by
  have CI := Lib.hid (zIndexHo_any g caps p A n c l w hl hn hg hc)
  clear hl hc hg
  go_enter Tryz.func206, Tryz.ntmps206
  go_wp2_with fail
  refine CI.out.mono ?_
  rintro e w' ⟨z, rfl, hz, hz1, hz2, hb⟩
  have HZ := Lib.hid hz
  have HB := Lib.hid hb
  clear hz hb CI
  by_cases h0 : 0 ≤ z
  · have HR : Hid (l.any p = true) := Lib.hid (by rw [← idx_any]; have := HZ.out; exact decide_eq_true (by omega))
    go_wp2_with fail
    go_ret
    exact ⟨by rw [HR.out] <;> rfl, HB.out⟩
  · have HR : Hid (l.any p = false) := Lib.hid (by rw [← idx_any]; have := HZ.out; exact decide_eq_false (by omega))
    go_wp2_with fail
    go_ret
    exact ⟨ret_bool (by rw [HR.out] <;> first | rfl | exact decide_eq_false (by omega)), HB.out⟩
set_option maxRecDepth 20000 in
set_option maxHeartbeats 8000000 in
theorem zrisesHo_any (g : Nat) (A : Option Addr) (n c : Nat) (l : List Hol) (w : World) (hl : HolsIn w w.heap.size A n l) (hn : n ≤ 140737488355328)
    (hg : Enters Tryz.prog g) (hk : CallK Tryz.prog g (fun x => .agg (hhA x)) HhIn Hh.hol (fun b => .int .i64 b.id)) :
    Calls Tryz.prog 205 #[.slice A n c, .func (.func g) #[] #[]] w (SaysB (decide (l.Pairwise (fun a b => a.id < b.id))) w) := by
  have hmx : Tryz.prog.follows .mixedOrders = true := by kernel_rfl
  have HL := Lib.hid hl
  have HK := Lib.hid hk
  have HG := Lib.hid hg
  clear hl hk hg
  go_enter Tryz.func205, Tryz.ntmps205
  go_wp2_with fail
  go_loopw [5] (fun i wx => ∃ k : Nat, 1 ≤ k ∧ i = .int .i64 (k : Int) ∧ (n = 0 ∨ k ≤ n) ∧ (l.take k).Pairwise (fun a b => a.id < b.id) ∧ Below w.heap.size w wx) (fun i _ => n - (intOf i).toNat)
  case atStart => exact ⟨1, Nat.le_refl _, rfl, by omega, pair_one1 l, Below.refl _ _⟩
  case round =>
    obtain ⟨k, hk1, rfl, hkn0, ha, hb⟩ := hrel
    have HB := Lib.hid hb
    have HU := Lib.hid ha
    clear ha hb
    by_cases hlt : k < n
    · obtain ⟨j, rfl⟩ : ∃ j, k = j + 1 := ⟨k - 1, by omega⟩
      obtain ⟨b, o, x, rfl, hbb, hla, htk, hrow, hin⟩ := (HL.out.below hhStays HB.out (Nat.le_refl _)).at_ hlt
      obtain ⟨b', o', y, he, hbb', hlb, htk', hrow', hin'⟩ := (HL.out.below hhStays HB.out (Nat.le_refl _)).at_ (show j < n by omega)
      injection he with he
      injection he with e1 e2
      subst e1
      subst e2
      have HLA := Lib.hid hla
      have HLB := Lib.hid hlb
      have HX := Lib.hid (hhStays.more hin HB.out.size)
      have HY := Lib.hid (hhStays.more hin' HB.out.size)
      have hk0 : (0 : Int) ≤ (j : Int) + 1 := by omega
      have hj0 : (0 : Int) ≤ (j : Int) := by omega
      have hkn : (j : Int) + 1 < (n : Int) := by omega
      have hjn : (j : Int) < (n : Int) := by omega
      have hsub : (j : Int) + 1 - 1 = (j : Int) := by omega
      have hbw : b < wr.heap.size := Nat.lt_of_lt_of_le hbb HB.out.size
      have rx := hrow
      have ry := hrow' 
      clear hla hlb htk htk' hin hin'
      have HCASE : ∀ q : Bool, decide (y.hol.id < x.hol.id) = q → Hid (decide (y.hol.id < x.hol.id) = q) := fun q h => Lib.hid h
      cases hq : decide (y.hol.id < x.hol.id)
      · have HQ := HCASE _ hq
        clear hq HCASE
        go_wp2_with fail
        refine wp_region_held_drew (S := fun W' => Below wr.heap.size wr W') hmx (Below.refl wr.heap.size wr).drew (fun hHeld => ?_)
        generalize hW0 : wr.drew = W at *
        clear hW0
        simp only [List.size_toArray, List.length_cons, List.length_nil, Nat.reduceAdd]
        refine wpAnyH_take (i := 0) (v := .func (.func g) #[] #[]) rfl (by kernel_rfl) (by kernel_rfl) (by kernel_rfl) (fun _ _ _ h => h) (Or.inl ⟨by rfl, fun w0 hC => by simp [execOp, Act.eval, Act.put, go_sem]⟩) hHeld ?_
        try simp only [Act.put, jA, jB, jC, jD, jE, jF]
        refine wpAnyH_take (i := 1) (v := .slice (some ⟨b, o, none⟩) n c) rfl (by kernel_rfl) (by kernel_rfl) (by kernel_rfl) (fun _ _ _ h => h) (Or.inl ⟨by rfl, fun w0 hC => by simp [execOp, Act.eval, Act.put, go_sem]⟩) hHeld ?_
        try simp only [Act.put, jA, jB, jC, jD, jE, jF]
        refine wpAnyH_take (i := 2) (v := .int .i64 ((j : Int) + 1)) rfl (by kernel_rfl) (by kernel_rfl) (by kernel_rfl) (fun _ _ _ h => h) (Or.inl ⟨by rfl, fun w0 hC => by simp [execOp, Act.eval, Act.put, go_sem]⟩) hHeld ?_
        try simp only [Act.put, jA, jB, jC, jD, jE, jF]
        refine wpAnyH_take (i := 3) (v := .pointer (some ⟨b, o + (j + 1) * 3, none⟩)) rfl (by kernel_rfl) (by kernel_rfl) (by kernel_rfl) (fun _ _ _ h => h) (Or.inl ⟨by rfl, fun w0 hC => by simp [execOp, Act.eval, Act.put, go_sem, hk0, hkn, hlt, show ((j : Int) + 1).toNat = j + 1 by omega]⟩) hHeld ?_
        try simp only [Act.put, jA, jB, jC, jD, jE, jF]
        refine wpAnyH_take (i := 4) (v := .agg (hhA x)) rfl (by kernel_rfl) (by kernel_rfl) (by kernel_rfl) (fun _ _ _ h => h) (Or.inl ⟨by rfl, fun w0 hC => by simp [execOp, Act.eval, Act.put, go_sem, hhA, (hC.cell (p := ⟨b, o + (j + 1) * 3, none⟩) hbw).trans (rx 0 _ rfl), (hC.cell (p := ⟨b, o + (j + 1) * 3 + 1, none⟩) hbw).trans (rx 1 _ rfl), (hC.cell (p := ⟨b, o + (j + 1) * 3 + 2, none⟩) hbw).trans (rx 2 _ rfl)]⟩) hHeld ?_
        try simp only [Act.put, jA, jB, jC, jD, jE, jF]
        refine wpAnyH_take (i := 6) (v := .func (.func g) #[] #[]) rfl (by kernel_rfl) (by kernel_rfl) (by kernel_rfl) (fun _ _ _ h => h) (Or.inl ⟨by rfl, fun w0 hC => by simp [execOp, Act.eval, Act.put, go_sem]⟩) hHeld ?_
        try simp only [Act.put, jA, jB, jC, jD, jE, jF]
        refine wpAnyH_take (i := 7) (v := .slice (some ⟨b, o, none⟩) n c) rfl (by kernel_rfl) (by kernel_rfl) (by kernel_rfl) (fun _ _ _ h => h) (Or.inl ⟨by rfl, fun w0 hC => by simp [execOp, Act.eval, Act.put, go_sem]⟩) hHeld ?_
        try simp only [Act.put, jA, jB, jC, jD, jE, jF]
        refine wpAnyH_take (i := 8) (v := .int .i64 ((j : Int) + 1)) rfl (by kernel_rfl) (by kernel_rfl) (by kernel_rfl) (fun _ _ _ h => h) (Or.inl ⟨by rfl, fun w0 hC => by simp [execOp, Act.eval, Act.put, go_sem]⟩) hHeld ?_
        try simp only [Act.put, jA, jB, jC, jD, jE, jF]
        refine wpAnyH_take (i := 9) (v := .int .i64 (j : Int)) rfl (by kernel_rfl) (by kernel_rfl) (by kernel_rfl) (fun _ _ _ h => h) (Or.inl ⟨by rfl, fun w0 hC => by simp [execOp, Act.eval, Act.put, go_sem, hsub, i64_wrap_nat j (by omega)]⟩) hHeld ?_
        try simp only [Act.put, jA, jB, jC, jD, jE, jF]
        refine wpAnyH_take (i := 10) (v := .pointer (some ⟨b, o + j * 3, none⟩)) rfl (by kernel_rfl) (by kernel_rfl) (by kernel_rfl) (fun _ _ _ h => h) (Or.inl ⟨by rfl, fun w0 hC => by simp [execOp, Act.eval, Act.put, go_sem, hj0, hjn, show j < n by omega]⟩) hHeld ?_
        try simp only [Act.put, jA, jB, jC, jD, jE, jF]
        refine wpAnyH_take (i := 11) (v := .agg (hhA y)) rfl (by kernel_rfl) (by kernel_rfl) (by kernel_rfl) (fun _ _ _ h => h) (Or.inl ⟨by rfl, fun w0 hC => by simp [execOp, Act.eval, Act.put, go_sem, hhA, (hC.cell (p := ⟨b, o + j * 3, none⟩) hbw).trans (ry 0 _ rfl), (hC.cell (p := ⟨b, o + j * 3 + 1, none⟩) hbw).trans (ry 1 _ rfl), (hC.cell (p := ⟨b, o + j * 3 + 2, none⟩) hbw).trans (ry 2 _ rfl)]⟩) hHeld ?_
        try simp only [Act.put, jA, jB, jC, jD, jE, jF]
        refine wpAnyH_ready (rs := [5]) (by kernel_rfl) (by simp) (AllReadyH.cons rfl (fun K hK => ?_) AllReadyH.nil)
        rw [if_pos (by rfl)]
        go_wp2_with fail
        rw [HG.out]
        refine (HK.out W x (hhStays.later_ HX.out hHeld)).mono ?_
        rintro e W2 ⟨rfl, hb5⟩
        have hS := hHeld.trans (hb5.mono hHeld.size)
        clear hHeld hb5
        refine hK.out _ _ hS (fun hHeld => ?_)
        clear hK K
        try simp only [Act.put, jA, jB, jC, jD, jE, jF]
        clear hS
        refine wpAnyH_ready (rs := [12]) (by kernel_rfl) (by simp) (AllReadyH.cons rfl (fun K hK => ?_) AllReadyH.nil)
        rw [if_pos (by rfl)]
        go_wp2_with fail
        rw [HG.out]
        refine (HK.out _ y (hhStays.later_ HY.out hHeld)).mono ?_
        rintro e W3 ⟨rfl, hb5⟩
        have hS := hHeld.trans (hb5.mono hHeld.size)
        clear hHeld hb5
        refine hK.out _ _ hS (fun hHeld => ?_)
        clear hK K
        try simp only [Act.put, jA, jB, jC, jD, jE, jF]
        clear hS
        refine wpAnyH_take (i := 13) (v := .bool true) rfl (by kernel_rfl) (by kernel_rfl) (by kernel_rfl) (fun _ _ _ h => h) (Or.inl ⟨by rfl, fun w0 hC => by simp [execOp, Act.eval, Act.put, go_sem]; exact Int.not_lt.1 (of_decide_eq_false HQ.out)⟩) hHeld ?_
        try simp only [Act.put, jA, jB, jC, jD, jE, jF]
        refine wpAnyH_done (by kernel_rfl) ?_ _
        have HB2 := Lib.hid (HB.out.trans (hHeld.mono HB.out.size))
        clear hHeld
        have HS := Lib.hid (decide_eq_false (pair_notG (R := (fun a b => a.id < b.id)) HLB.out HLA.out (of_decide_eq_false HQ.out)))
        go_wp2_with fail
        go_ret
        exact ⟨by rw [HS.out] <;> rfl, HB2.out⟩
      · have HQ := HCASE _ hq
        clear hq HCASE
        go_wp2_with fail
        refine wp_region_held_drew (S := fun W' => Below wr.heap.size wr W') hmx (Below.refl wr.heap.size wr).drew (fun hHeld => ?_)
        generalize hW0 : wr.drew = W at *
        clear hW0
        simp only [List.size_toArray, List.length_cons, List.length_nil, Nat.reduceAdd]
        refine wpAnyH_take (i := 0) (v := .func (.func g) #[] #[]) rfl (by kernel_rfl) (by kernel_rfl) (by kernel_rfl) (fun _ _ _ h => h) (Or.inl ⟨by rfl, fun w0 hC => by simp [execOp, Act.eval, Act.put, go_sem]⟩) hHeld ?_
        try simp only [Act.put, jA, jB, jC, jD, jE, jF]
        refine wpAnyH_take (i := 1) (v := .slice (some ⟨b, o, none⟩) n c) rfl (by kernel_rfl) (by kernel_rfl) (by kernel_rfl) (fun _ _ _ h => h) (Or.inl ⟨by rfl, fun w0 hC => by simp [execOp, Act.eval, Act.put, go_sem]⟩) hHeld ?_
        try simp only [Act.put, jA, jB, jC, jD, jE, jF]
        refine wpAnyH_take (i := 2) (v := .int .i64 ((j : Int) + 1)) rfl (by kernel_rfl) (by kernel_rfl) (by kernel_rfl) (fun _ _ _ h => h) (Or.inl ⟨by rfl, fun w0 hC => by simp [execOp, Act.eval, Act.put, go_sem]⟩) hHeld ?_
        try simp only [Act.put, jA, jB, jC, jD, jE, jF]
        refine wpAnyH_take (i := 3) (v := .pointer (some ⟨b, o + (j + 1) * 3, none⟩)) rfl (by kernel_rfl) (by kernel_rfl) (by kernel_rfl) (fun _ _ _ h => h) (Or.inl ⟨by rfl, fun w0 hC => by simp [execOp, Act.eval, Act.put, go_sem, hk0, hkn, hlt, show ((j : Int) + 1).toNat = j + 1 by omega]⟩) hHeld ?_
        try simp only [Act.put, jA, jB, jC, jD, jE, jF]
        refine wpAnyH_take (i := 4) (v := .agg (hhA x)) rfl (by kernel_rfl) (by kernel_rfl) (by kernel_rfl) (fun _ _ _ h => h) (Or.inl ⟨by rfl, fun w0 hC => by simp [execOp, Act.eval, Act.put, go_sem, hhA, (hC.cell (p := ⟨b, o + (j + 1) * 3, none⟩) hbw).trans (rx 0 _ rfl), (hC.cell (p := ⟨b, o + (j + 1) * 3 + 1, none⟩) hbw).trans (rx 1 _ rfl), (hC.cell (p := ⟨b, o + (j + 1) * 3 + 2, none⟩) hbw).trans (rx 2 _ rfl)]⟩) hHeld ?_
        try simp only [Act.put, jA, jB, jC, jD, jE, jF]
        refine wpAnyH_take (i := 6) (v := .func (.func g) #[] #[]) rfl (by kernel_rfl) (by kernel_rfl) (by kernel_rfl) (fun _ _ _ h => h) (Or.inl ⟨by rfl, fun w0 hC => by simp [execOp, Act.eval, Act.put, go_sem]⟩) hHeld ?_
        try simp only [Act.put, jA, jB, jC, jD, jE, jF]
        refine wpAnyH_take (i := 7) (v := .slice (some ⟨b, o, none⟩) n c) rfl (by kernel_rfl) (by kernel_rfl) (by kernel_rfl) (fun _ _ _ h => h) (Or.inl ⟨by rfl, fun w0 hC => by simp [execOp, Act.eval, Act.put, go_sem]⟩) hHeld ?_
        try simp only [Act.put, jA, jB, jC, jD, jE, jF]
        refine wpAnyH_take (i := 8) (v := .int .i64 ((j : Int) + 1)) rfl (by kernel_rfl) (by kernel_rfl) (by kernel_rfl) (fun _ _ _ h => h) (Or.inl ⟨by rfl, fun w0 hC => by simp [execOp, Act.eval, Act.put, go_sem]⟩) hHeld ?_
        try simp only [Act.put, jA, jB, jC, jD, jE, jF]
        refine wpAnyH_take (i := 9) (v := .int .i64 (j : Int)) rfl (by kernel_rfl) (by kernel_rfl) (by kernel_rfl) (fun _ _ _ h => h) (Or.inl ⟨by rfl, fun w0 hC => by simp [execOp, Act.eval, Act.put, go_sem, hsub, i64_wrap_nat j (by omega)]⟩) hHeld ?_
        try simp only [Act.put, jA, jB, jC, jD, jE, jF]
        refine wpAnyH_take (i := 10) (v := .pointer (some ⟨b, o + j * 3, none⟩)) rfl (by kernel_rfl) (by kernel_rfl) (by kernel_rfl) (fun _ _ _ h => h) (Or.inl ⟨by rfl, fun w0 hC => by simp [execOp, Act.eval, Act.put, go_sem, hj0, hjn, show j < n by omega]⟩) hHeld ?_
        try simp only [Act.put, jA, jB, jC, jD, jE, jF]
        refine wpAnyH_take (i := 11) (v := .agg (hhA y)) rfl (by kernel_rfl) (by kernel_rfl) (by kernel_rfl) (fun _ _ _ h => h) (Or.inl ⟨by rfl, fun w0 hC => by simp [execOp, Act.eval, Act.put, go_sem, hhA, (hC.cell (p := ⟨b, o + j * 3, none⟩) hbw).trans (ry 0 _ rfl), (hC.cell (p := ⟨b, o + j * 3 + 1, none⟩) hbw).trans (ry 1 _ rfl), (hC.cell (p := ⟨b, o + j * 3 + 2, none⟩) hbw).trans (ry 2 _ rfl)]⟩) hHeld ?_
        try simp only [Act.put, jA, jB, jC, jD, jE, jF]
        refine wpAnyH_ready (rs := [5]) (by kernel_rfl) (by simp) (AllReadyH.cons rfl (fun K hK => ?_) AllReadyH.nil)
        rw [if_pos (by rfl)]
        go_wp2_with fail
        rw [HG.out]
        refine (HK.out W x (hhStays.later_ HX.out hHeld)).mono ?_
        rintro e W2 ⟨rfl, hb5⟩
        have hS := hHeld.trans (hb5.mono hHeld.size)
        clear hHeld hb5
        refine hK.out _ _ hS (fun hHeld => ?_)
        clear hK K
        try simp only [Act.put, jA, jB, jC, jD, jE, jF]
        clear hS
        refine wpAnyH_ready (rs := [12]) (by kernel_rfl) (by simp) (AllReadyH.cons rfl (fun K hK => ?_) AllReadyH.nil)
        rw [if_pos (by rfl)]
        go_wp2_with fail
        rw [HG.out]
        refine (HK.out _ y (hhStays.later_ HY.out hHeld)).mono ?_
        rintro e W3 ⟨rfl, hb5⟩
        have hS := hHeld.trans (hb5.mono hHeld.size)
        clear hHeld hb5
        refine hK.out _ _ hS (fun hHeld => ?_)
        clear hK K
        try simp only [Act.put, jA, jB, jC, jD, jE, jF]
        clear hS
        refine wpAnyH_take (i := 13) (v := .bool false) rfl (by kernel_rfl) (by kernel_rfl) (by kernel_rfl) (fun _ _ _ h => h) (Or.inl ⟨by rfl, fun w0 hC => by simp [execOp, Act.eval, Act.put, go_sem]; exact of_decide_eq_true HQ.out⟩) hHeld ?_
        try simp only [Act.put, jA, jB, jC, jD, jE, jF]
        refine wpAnyH_done (by kernel_rfl) ?_ _
        have HB2 := Lib.hid (HB.out.trans (hHeld.mono HB.out.size))
        clear hHeld
        have HS := Lib.hid (pair_next2 (R := (fun a b => a.id < b.id)) (fun _ _ _ h1 h2 => Int.lt_trans h1 h2) HU.out HLB.out HLA.out (of_decide_eq_true HQ.out))
        go_wp2_with fail
        go_roundw
        case rel => exact ⟨j + 1 + 1, by omega, by go_num, by omega, HS.out, HB2.out⟩
        case measure => simp [intOf]; omega
    · have hkn : ¬ (k : Int) < (n : Int) := by omega
      have HS : Hid (decide (l.Pairwise (fun a b => a.id < b.id)) = true) := Lib.hid (decide_eq_true (by have := HU.out; rwa [List.take_of_length_le (by rw [HL.out.len]; omega)] at this))
      go_wp2_with fail
      go_ret
      exact ⟨by rw [HS.out] <;> rfl, HB.out⟩
set_option maxRecDepth 20000 in
set_option maxHeartbeats 2000000 in
theorem zallHo1_any (g bp : Nat) (caps : Array Value) (p : Hol → Bool) (l : List Hol) (w : World) (x : Hh) (hg : Enters Tryz.prog g) (hc : CallP Tryz.prog g caps (fun x => .agg (hhA x)) HhIn Hh.hol l p w) (hm : Hh.hol x ∈ l) (hx : HhIn w w.heap.size x)
    (hp : w.cell? ⟨bp, 0, none⟩ = some (.func (.func g) #[] caps)) :
    Calls Tryz.prog 207 #[.agg (hhA x), .pointer (some ⟨bp, 0, none⟩)] w fun e w' => e = .returned (.bool (!p (Hh.hol x))) ∧ Below w.heap.size w w' := by
  have hb1 : Below w.heap.size w (w.alloc (.cells (hhA x) 71)) := (Below.refl _ _).alloc (Nat.le_refl _) _
  have CI := Lib.hid (hc _ x hb1 hm (hhStays.later_ hx hb1))
  have hp1 := (hb1.cell (p := ⟨bp, 0, none⟩) (World.block_lt_of_cell? _ _ hp)).trans hp
  have HB1 := Lib.hid hb1
  have HLD : Hid ((w.alloc (.cells (hhA x) 71)).rangeAt w.heap.size 0 (hhC x)) := Lib.hid (Bk.new w 71 (hhA x)).range
  have HG := Lib.hid hg
  clear hc hx hp hb1 hg
  go_enter Tryz.func207, Tryz.ntmps207
  go_wp2_with ((with_reducible show wpList _ _ _ (⟨some 5, _, _, _, _, _⟩ :: _) _ _); refine hold ?_)
  refine held (wpList_load_mid rfl 71 (.tmp 2) rfl w.heap.size 0 rfl (hhC x) _ HLD.out Tryz.underlying71 rfl (by kernel_rfl) ?_)
  rw [hhC_A]
  go_wp2_with fail
  rw [HG.out]
  refine CI.out.mono ?_
  rintro e w' ⟨rfl, hb2⟩
  have HB2 := Lib.hid (HB1.out.trans (hb2.mono HB1.out.size))
  clear hb2 CI
  go_wp2_with fail
  go_ret
  exact ⟨rfl, HB2.out⟩
set_option maxRecDepth 20000 in
set_option maxHeartbeats 4000000 in
theorem zallHo_any (most g gk : Nat) (caps : Array Value) (p : Hol → Bool) (A : Option Addr) (n c : Nat) (l : List Hol) (w : World) (hl : HolsIn w w.heap.size A n l) (hn : n ≤ 140737488355328)
    (hgk : Enters Tryz.prog gk) (hg : Enters Tryz.prog g) (hk : CallK Tryz.prog gk (fun x => .agg (hhA x)) HhIn Hh.hol (fun b => .int .i64 b.id)) (hc : CallP Tryz.prog g caps (fun x => .agg (hhA x)) HhIn Hh.hol l p w) (q : Bool) (hq : okAll most (fun a b => a.id < b.id) p l ↔ q = true) :
    Calls Tryz.prog 134 #[.slice A n c, .int .i64 (most : Int), .func (.func gk) #[] #[], .func (.func g) #[] caps] w (SaysB q w) := by
  have hb1 : ∀ t, Below w.heap.size w (w.alloc (.cells #[.func (.func g) #[] caps] t)) := fun t => (Below.refl _ _).alloc (Nat.le_refl _) _
  have HL := Lib.hid hl
  have HK := Lib.hid hk
  have HC := Lib.hid hc
  have HQ := Lib.hid hq
  have HBB := Lib.hid hb1
  have HG := Lib.hid hg
  have HGK := Lib.hid hgk
  clear hl hk hc hq hb1 hg hgk
  by_cases hm : n ≤ most
  · have hmb : (n : Int) ≤ (most : Int) := by omega
    cases hr : decide (l.Pairwise (fun a b => a.id < b.id))
    · have HR := Lib.hid hr
      have HF : Hid (q = false) := Lib.hid (by cases q; rfl; exact absurd (HQ.out.2 rfl).2.2 (of_decide_eq_false HR.out))
      clear hr
      go_enter Tryz.func134, Tryz.ntmps134
      go_wp2_with fail
      refine (zrisesHo_any gk A n c l _ (HL.out.later_ hhStays (HBB.out _)) hn HGK.out HK.out).mono ?_
      rintro e w' ⟨rfl, hb⟩
      rw [HR.out]
      have HB := Lib.hid ((HBB.out _).trans (hb.mono (HBB.out _).size))
      clear hb
      go_wp2_with fail
      go_ret
      exact ⟨by rw [HF.out] <;> rfl, HB.out⟩
    · have HR := Lib.hid hr
      clear hr
      go_enter Tryz.func134, Tryz.ntmps134
      go_wp2_with fail
      refine (zrisesHo_any gk A n c l _ (HL.out.later_ hhStays (HBB.out _)) hn HGK.out HK.out).mono ?_
      rintro e w' ⟨rfl, hb⟩
      rw [HR.out]
      have HB := Lib.hid ((HBB.out _).trans (hb.mono (HBB.out _).size))
      have hcell : w'.cell? ⟨w.heap.size, 0, none⟩ = some (.func (.func g) #[] caps) := (hb.cell (p := ⟨w.heap.size, 0, none⟩) (by simp)).trans ((Bk.new w _ #[.func (.func g) #[] caps]).cell 0)
      have HCE := Lib.hid hcell
      clear hb hcell
      go_wp2_with fail
      refine (zContainsHo_any 207 #[.pointer (some ⟨w.heap.size, 0, none⟩)] (fun b => !p b) A n c l w' (HL.out.later_ hhStays HB.out) hn (enters_of Tryz.func207 (by decide) (by kernel_rfl)) ?_).mono ?_
      · intro W x hW hx hQ
        exact zallHo1_any g w.heap.size caps p l W x HG.out (HC.out.later (HB.out.trans (hW.mono HB.out.size))) hx hQ ((hW.cell (p := ⟨w.heap.size, 0, none⟩) (World.block_lt_of_cell? _ _ HCE.out)).trans HCE.out)
      · rintro e w2 ⟨rfl, hb2⟩
        have HB2 := Lib.hid (HB.out.trans (hb2.mono HB.out.size))
        have HF : Hid ((!(l.any fun b => !p b)) = q) := Lib.hid (all_says (by rw [HL.out.len]; exact hm) (of_decide_eq_true HR.out) HQ.out)
        clear hb2
        go_wp2_with fail
        go_ret
        exact ⟨ret_bool (by simpa using HF.out), HB2.out⟩
  · have hmb : ¬ (n : Int) ≤ (most : Int) := by omega
    have HF : Hid (q = false) := Lib.hid (by cases q; rfl; exact absurd (HQ.out.2 rfl).1 (by rw [HL.out.len]; exact hm))
    go_enter Tryz.func134, Tryz.ntmps134
    go_wp2_with fail
    go_ret
    exact ⟨ret_bool (by rw [HF.out] <;> first | rfl | simp [hmb]), HBB.out _⟩
end Go.Proofs.YtbogjfbfgbhdbaaGreatDoor
namespace Go.Proofs.YtbogjfbfgbhdbaaGreatDoor
open List renaming setIfInBounds_toArray → jA, set_cons_zero → jB, set_cons_succ → jC, getElem_toArray → jD, getElem_cons_zero → jE, getElem_cons_succ → jF
set_option linter.unusedVariables false
set_option linter.unusedSimpArgs false
open Go.RowKit
set_option linter.unusedVariables false
set_option linter.unusedSimpArgs false
set_option maxRecDepth 20000 in
set_option maxHeartbeats 4000000 in
theorem zIndexRu_any (g : Nat) (caps : Array Value) (p : Rul → Bool) (A : Option Addr) (n c : Nat) (l : List Rul) (w : World) (hl : RulesIn w w.heap.size A n l) (hn : n ≤ 140737488355328)
    (hg : Enters Tryz.prog g) (hc : CallP Tryz.prog g caps (fun x => .agg (rulA' x)) TrueP (id : Rul → Rul) l p w) :
    Calls Tryz.prog 239 #[.slice A n c, .func (.func g) #[] caps] w (IsAt l p w) := by
  have HL := Lib.hid hl
  have HC := Lib.hid hc
  have HG := Lib.hid hg
  clear hl hc hg
  go_enter Tryz.func239, Tryz.ntmps239
  go_wp2_with fail
  go_loopw [8] (fun i wx => ∃ k : Nat, k ≤ n ∧ i = .int .i64 (k : Int) ∧ (∀ b ∈ l.take k, p b = false) ∧ Below w.heap.size w wx) (fun i _ => n - (intOf i).toNat)
  case atStart => exact ⟨0, Nat.zero_le _, rfl, fun b hb => by simp at hb, Below.refl _ _⟩
  case round =>
    obtain ⟨k, hk, rfl, ha, hb⟩ := hrel
    have HB := Lib.hid hb
    have HU := Lib.hid ha
    clear ha hb
    by_cases hlt : k < n
    · obtain ⟨b, o, x, rfl, hbb, hla, htk, hrow, hin⟩ := (HL.out.below trueStays HB.out (Nat.le_refl _)).at_ hlt
      have HLA := Lib.hid hla
      have HTK := Lib.hid htk
      have HROW := Lib.hid hrow
      have hk0 : (0 : Int) ≤ (k : Int) := by omega
      have hkn : (k : Int) < (n : Int) := by omega
      have CI := Lib.hid (HC.out wr x HB.out (List.mem_of_getElem? hla) (trueStays.more hin HB.out.size))
      clear hla htk hrow hin
      go_wp2_with ((with_reducible show wpList _ _ _ (⟨some 15, _, _, _, _, _⟩ :: _) _ _); refine hold ?_)
      refine held (wpList_load_mid rfl 83 (.tmp 14) rfl b (o + k * 2) rfl (rulC x) _ HROW.out Tryz.underlying83 rfl (by kernel_rfl) ?_)
      rw [rulC_A']
      go_wp2_with fail
      rw [HG.out]
      refine CI.out.mono ?_
      rintro e w' ⟨rfl, hb2⟩
      have HB2 := Lib.hid (HB.out.trans (hb2.mono HB.out.size))
      clear hb2 CI
      cases hok : p ((id : Rul → Rul) x)
      · have HS := Lib.hid (none_next HU.out HTK.out hok)
        clear hok
        go_wp2_with fail
        go_roundw
        case rel => exact ⟨k + 1, by omega, by go_num, HS.out, HB2.out⟩
        case measure => simp [intOf]; omega
      · have HS := Lib.hid (idx_hit HU.out HLA.out hok)
        clear hok
        go_wp2_with fail
        go_ret
        exact ⟨(k : Int), rfl, by rw [HS.out]; simp, by omega, by omega, HB2.out⟩
    · have hkn : ¬ (k : Int) < (n : Int) := by omega
      have HS := Lib.hid (none_all HU.out HL.out.len hlt)
      go_wp2_with fail
      go_ret
      exact ⟨-1, rfl, by rw [HS.out]; rfl, by omega, by omega, HB.out⟩
set_option maxHeartbeats 1000000 in
theorem zContainsRu_any (g : Nat) (caps : Array Value) (p : Rul → Bool) (A : Option Addr) (n c : Nat) (l : List Rul) (w : World) (hl : RulesIn w w.heap.size A n l) (hn : n ≤ 140737488355328)
    (hg : Enters Tryz.prog g) (hc : CallP Tryz.prog g caps (fun x => .agg (rulA' x)) TrueP (id : Rul → Rul) l p w) :
    Calls Tryz.prog 200 #[.slice A n c, .func (.func g) #[] caps] w (SaysB (l.any p) w) := by
  have CI := Lib.hid (zIndexRu_any g caps p A n c l w hl hn hg hc)
  clear hl hc hg
  go_enter Tryz.func200, Tryz.ntmps200
  go_wp2_with fail
  refine CI.out.mono ?_
  rintro e w' ⟨z, rfl, hz, hz1, hz2, hb⟩
  have HZ := Lib.hid hz
  have HB := Lib.hid hb
  clear hz hb CI
  by_cases h0 : 0 ≤ z
  · have HR : Hid (l.any p = true) := Lib.hid (by rw [← idx_any]; have := HZ.out; exact decide_eq_true (by omega))
    go_wp2_with fail
    go_ret
    exact ⟨by rw [HR.out] <;> rfl, HB.out⟩
  · have HR : Hid (l.any p = false) := Lib.hid (by rw [← idx_any]; have := HZ.out; exact decide_eq_false (by omega))
    go_wp2_with fail
    go_ret
    exact ⟨ret_bool (by rw [HR.out] <;> first | rfl | exact decide_eq_false (by omega)), HB.out⟩
set_option maxRecDepth 20000 in
set_option maxHeartbeats 8000000 in
theorem zrisesRu_any (g : Nat) (A : Option Addr) (n c : Nat) (l : List Rul) (w : World) (hl : RulesIn w w.heap.size A n l) (hn : n ≤ 140737488355328)
    (hg : Enters Tryz.prog g) (hk : CallK Tryz.prog g (fun x => .agg (rulA' x)) TrueP (id : Rul → Rul) (fun b => .string b.1)) :
    Calls Tryz.prog 199 #[.slice A n c, .func (.func g) #[] #[]] w (SaysB (decide (l.Pairwise (fun a b => ltS a.1 b.1))) w) := by
  have hmx : Tryz.prog.follows .mixedOrders = true := by kernel_rfl
  have HL := Lib.hid hl
  have HK := Lib.hid hk
  have HG := Lib.hid hg
  clear hl hk hg
  go_enter Tryz.func199, Tryz.ntmps199
  go_wp2_with fail
  go_loopw [5] (fun i wx => ∃ k : Nat, 1 ≤ k ∧ i = .int .i64 (k : Int) ∧ (n = 0 ∨ k ≤ n) ∧ (l.take k).Pairwise (fun a b => ltS a.1 b.1) ∧ Below w.heap.size w wx) (fun i _ => n - (intOf i).toNat)
  case atStart => exact ⟨1, Nat.le_refl _, rfl, by omega, pair_one1 l, Below.refl _ _⟩
  case round =>
    obtain ⟨k, hk1, rfl, hkn0, ha, hb⟩ := hrel
    have HB := Lib.hid hb
    have HU := Lib.hid ha
    clear ha hb
    by_cases hlt : k < n
    · obtain ⟨j, rfl⟩ : ∃ j, k = j + 1 := ⟨k - 1, by omega⟩
      obtain ⟨b, o, x, rfl, hbb, hla, htk, hrow, hin⟩ := (HL.out.below trueStays HB.out (Nat.le_refl _)).at_ hlt
      obtain ⟨b', o', y, he, hbb', hlb, htk', hrow', hin'⟩ := (HL.out.below trueStays HB.out (Nat.le_refl _)).at_ (show j < n by omega)
      injection he with he
      injection he with e1 e2
      subst e1
      subst e2
      have HLA := Lib.hid hla
      have HLB := Lib.hid hlb
      have HX := Lib.hid (trueStays.more hin HB.out.size)
      have HY := Lib.hid (trueStays.more hin' HB.out.size)
      have hk0 : (0 : Int) ≤ (j : Int) + 1 := by omega
      have hj0 : (0 : Int) ≤ (j : Int) := by omega
      have hkn : (j : Int) + 1 < (n : Int) := by omega
      have hjn : (j : Int) < (n : Int) := by omega
      have hsub : (j : Int) + 1 - 1 = (j : Int) := by omega
      have hbw : b < wr.heap.size := Nat.lt_of_lt_of_le hbb HB.out.size
      have rx := hrow
      have ry := hrow' 
      clear hla hlb htk htk' hin hin'
      have HCASE : ∀ q : Bool, decide (ltS y.1 x.1) = q → Hid (decide (ltS y.1 x.1) = q) := fun q h => Lib.hid h
      cases hq : decide (ltS y.1 x.1)
      · have HQ := HCASE _ hq
        clear hq HCASE
        go_wp2_with fail
        refine wp_region_held_drew (S := fun W' => Below wr.heap.size wr W') hmx (Below.refl wr.heap.size wr).drew (fun hHeld => ?_)
        generalize hW0 : wr.drew = W at *
        clear hW0
        simp only [List.size_toArray, List.length_cons, List.length_nil, Nat.reduceAdd]
        refine wpAnyH_take (i := 0) (v := .func (.func g) #[] #[]) rfl (by kernel_rfl) (by kernel_rfl) (by kernel_rfl) (fun _ _ _ h => h) (Or.inl ⟨by rfl, fun w0 hC => by simp [execOp, Act.eval, Act.put, go_sem]⟩) hHeld ?_
        try simp only [Act.put, jA, jB, jC, jD, jE, jF]
        refine wpAnyH_take (i := 1) (v := .slice (some ⟨b, o, none⟩) n c) rfl (by kernel_rfl) (by kernel_rfl) (by kernel_rfl) (fun _ _ _ h => h) (Or.inl ⟨by rfl, fun w0 hC => by simp [execOp, Act.eval, Act.put, go_sem]⟩) hHeld ?_
        try simp only [Act.put, jA, jB, jC, jD, jE, jF]
        refine wpAnyH_take (i := 2) (v := .int .i64 ((j : Int) + 1)) rfl (by kernel_rfl) (by kernel_rfl) (by kernel_rfl) (fun _ _ _ h => h) (Or.inl ⟨by rfl, fun w0 hC => by simp [execOp, Act.eval, Act.put, go_sem]⟩) hHeld ?_
        try simp only [Act.put, jA, jB, jC, jD, jE, jF]
        refine wpAnyH_take (i := 3) (v := .pointer (some ⟨b, o + (j + 1) * 2, none⟩)) rfl (by kernel_rfl) (by kernel_rfl) (by kernel_rfl) (fun _ _ _ h => h) (Or.inl ⟨by rfl, fun w0 hC => by simp [execOp, Act.eval, Act.put, go_sem, hk0, hkn, hlt, show ((j : Int) + 1).toNat = j + 1 by omega]⟩) hHeld ?_
        try simp only [Act.put, jA, jB, jC, jD, jE, jF]
        refine wpAnyH_take (i := 4) (v := .agg (rulA' x)) rfl (by kernel_rfl) (by kernel_rfl) (by kernel_rfl) (fun _ _ _ h => h) (Or.inl ⟨by rfl, fun w0 hC => by simp [execOp, Act.eval, Act.put, go_sem, rulA', (hC.cell (p := ⟨b, o + (j + 1) * 2, none⟩) hbw).trans (rx 0 _ rfl), (hC.cell (p := ⟨b, o + (j + 1) * 2 + 1, none⟩) hbw).trans (rx 1 _ rfl)]⟩) hHeld ?_
        try simp only [Act.put, jA, jB, jC, jD, jE, jF]
        refine wpAnyH_take (i := 6) (v := .func (.func g) #[] #[]) rfl (by kernel_rfl) (by kernel_rfl) (by kernel_rfl) (fun _ _ _ h => h) (Or.inl ⟨by rfl, fun w0 hC => by simp [execOp, Act.eval, Act.put, go_sem]⟩) hHeld ?_
        try simp only [Act.put, jA, jB, jC, jD, jE, jF]
        refine wpAnyH_take (i := 7) (v := .slice (some ⟨b, o, none⟩) n c) rfl (by kernel_rfl) (by kernel_rfl) (by kernel_rfl) (fun _ _ _ h => h) (Or.inl ⟨by rfl, fun w0 hC => by simp [execOp, Act.eval, Act.put, go_sem]⟩) hHeld ?_
        try simp only [Act.put, jA, jB, jC, jD, jE, jF]
        refine wpAnyH_take (i := 8) (v := .int .i64 ((j : Int) + 1)) rfl (by kernel_rfl) (by kernel_rfl) (by kernel_rfl) (fun _ _ _ h => h) (Or.inl ⟨by rfl, fun w0 hC => by simp [execOp, Act.eval, Act.put, go_sem]⟩) hHeld ?_
        try simp only [Act.put, jA, jB, jC, jD, jE, jF]
        refine wpAnyH_take (i := 9) (v := .int .i64 (j : Int)) rfl (by kernel_rfl) (by kernel_rfl) (by kernel_rfl) (fun _ _ _ h => h) (Or.inl ⟨by rfl, fun w0 hC => by simp [execOp, Act.eval, Act.put, go_sem, hsub, i64_wrap_nat j (by omega)]⟩) hHeld ?_
        try simp only [Act.put, jA, jB, jC, jD, jE, jF]
        refine wpAnyH_take (i := 10) (v := .pointer (some ⟨b, o + j * 2, none⟩)) rfl (by kernel_rfl) (by kernel_rfl) (by kernel_rfl) (fun _ _ _ h => h) (Or.inl ⟨by rfl, fun w0 hC => by simp [execOp, Act.eval, Act.put, go_sem, hj0, hjn, show j < n by omega]⟩) hHeld ?_
        try simp only [Act.put, jA, jB, jC, jD, jE, jF]
        refine wpAnyH_take (i := 11) (v := .agg (rulA' y)) rfl (by kernel_rfl) (by kernel_rfl) (by kernel_rfl) (fun _ _ _ h => h) (Or.inl ⟨by rfl, fun w0 hC => by simp [execOp, Act.eval, Act.put, go_sem, rulA', (hC.cell (p := ⟨b, o + j * 2, none⟩) hbw).trans (ry 0 _ rfl), (hC.cell (p := ⟨b, o + j * 2 + 1, none⟩) hbw).trans (ry 1 _ rfl)]⟩) hHeld ?_
        try simp only [Act.put, jA, jB, jC, jD, jE, jF]
        refine wpAnyH_ready (rs := [5]) (by kernel_rfl) (by simp) (AllReadyH.cons rfl (fun K hK => ?_) AllReadyH.nil)
        rw [if_pos (by rfl)]
        go_wp2_with fail
        rw [HG.out]
        refine (HK.out W x (trueStays.later_ HX.out hHeld)).mono ?_
        rintro e W2 ⟨rfl, hb5⟩
        have hS := hHeld.trans (hb5.mono hHeld.size)
        clear hHeld hb5
        refine hK.out _ _ hS (fun hHeld => ?_)
        clear hK K
        try simp only [Act.put, jA, jB, jC, jD, jE, jF]
        clear hS
        refine wpAnyH_ready (rs := [12]) (by kernel_rfl) (by simp) (AllReadyH.cons rfl (fun K hK => ?_) AllReadyH.nil)
        rw [if_pos (by rfl)]
        go_wp2_with fail
        rw [HG.out]
        refine (HK.out _ y (trueStays.later_ HY.out hHeld)).mono ?_
        rintro e W3 ⟨rfl, hb5⟩
        have hS := hHeld.trans (hb5.mono hHeld.size)
        clear hHeld hb5
        refine hK.out _ _ hS (fun hHeld => ?_)
        clear hK K
        try simp only [Act.put, jA, jB, jC, jD, jE, jF]
        clear hS
        refine wpAnyH_take (i := 13) (v := .bool true) rfl (by kernel_rfl) (by kernel_rfl) (by kernel_rfl) (fun _ _ _ h => h) (Or.inl ⟨by rfl, fun w0 hC => by first | (simp [execOp, Act.eval, Act.put, go_sem, HQ.out]; done) | simp [execOp, Act.eval, Act.put, go_sem, leq13, HQ.out]⟩) hHeld ?_
        try simp only [Act.put, jA, jB, jC, jD, jE, jF]
        refine wpAnyH_done (by kernel_rfl) ?_ _
        have HB2 := Lib.hid (HB.out.trans (hHeld.mono HB.out.size))
        clear hHeld
        have HS := Lib.hid (decide_eq_false (pair_notG (R := (fun a b => ltS a.1 b.1)) HLB.out HLA.out (of_decide_eq_false HQ.out)))
        go_wp2_with fail
        go_ret
        exact ⟨by rw [HS.out] <;> rfl, HB2.out⟩
      · have HQ := HCASE _ hq
        clear hq HCASE
        go_wp2_with fail
        refine wp_region_held_drew (S := fun W' => Below wr.heap.size wr W') hmx (Below.refl wr.heap.size wr).drew (fun hHeld => ?_)
        generalize hW0 : wr.drew = W at *
        clear hW0
        simp only [List.size_toArray, List.length_cons, List.length_nil, Nat.reduceAdd]
        refine wpAnyH_take (i := 0) (v := .func (.func g) #[] #[]) rfl (by kernel_rfl) (by kernel_rfl) (by kernel_rfl) (fun _ _ _ h => h) (Or.inl ⟨by rfl, fun w0 hC => by simp [execOp, Act.eval, Act.put, go_sem]⟩) hHeld ?_
        try simp only [Act.put, jA, jB, jC, jD, jE, jF]
        refine wpAnyH_take (i := 1) (v := .slice (some ⟨b, o, none⟩) n c) rfl (by kernel_rfl) (by kernel_rfl) (by kernel_rfl) (fun _ _ _ h => h) (Or.inl ⟨by rfl, fun w0 hC => by simp [execOp, Act.eval, Act.put, go_sem]⟩) hHeld ?_
        try simp only [Act.put, jA, jB, jC, jD, jE, jF]
        refine wpAnyH_take (i := 2) (v := .int .i64 ((j : Int) + 1)) rfl (by kernel_rfl) (by kernel_rfl) (by kernel_rfl) (fun _ _ _ h => h) (Or.inl ⟨by rfl, fun w0 hC => by simp [execOp, Act.eval, Act.put, go_sem]⟩) hHeld ?_
        try simp only [Act.put, jA, jB, jC, jD, jE, jF]
        refine wpAnyH_take (i := 3) (v := .pointer (some ⟨b, o + (j + 1) * 2, none⟩)) rfl (by kernel_rfl) (by kernel_rfl) (by kernel_rfl) (fun _ _ _ h => h) (Or.inl ⟨by rfl, fun w0 hC => by simp [execOp, Act.eval, Act.put, go_sem, hk0, hkn, hlt, show ((j : Int) + 1).toNat = j + 1 by omega]⟩) hHeld ?_
        try simp only [Act.put, jA, jB, jC, jD, jE, jF]
        refine wpAnyH_take (i := 4) (v := .agg (rulA' x)) rfl (by kernel_rfl) (by kernel_rfl) (by kernel_rfl) (fun _ _ _ h => h) (Or.inl ⟨by rfl, fun w0 hC => by simp [execOp, Act.eval, Act.put, go_sem, rulA', (hC.cell (p := ⟨b, o + (j + 1) * 2, none⟩) hbw).trans (rx 0 _ rfl), (hC.cell (p := ⟨b, o + (j + 1) * 2 + 1, none⟩) hbw).trans (rx 1 _ rfl)]⟩) hHeld ?_
        try simp only [Act.put, jA, jB, jC, jD, jE, jF]
        refine wpAnyH_take (i := 6) (v := .func (.func g) #[] #[]) rfl (by kernel_rfl) (by kernel_rfl) (by kernel_rfl) (fun _ _ _ h => h) (Or.inl ⟨by rfl, fun w0 hC => by simp [execOp, Act.eval, Act.put, go_sem]⟩) hHeld ?_
        try simp only [Act.put, jA, jB, jC, jD, jE, jF]
        refine wpAnyH_take (i := 7) (v := .slice (some ⟨b, o, none⟩) n c) rfl (by kernel_rfl) (by kernel_rfl) (by kernel_rfl) (fun _ _ _ h => h) (Or.inl ⟨by rfl, fun w0 hC => by simp [execOp, Act.eval, Act.put, go_sem]⟩) hHeld ?_
        try simp only [Act.put, jA, jB, jC, jD, jE, jF]
        refine wpAnyH_take (i := 8) (v := .int .i64 ((j : Int) + 1)) rfl (by kernel_rfl) (by kernel_rfl) (by kernel_rfl) (fun _ _ _ h => h) (Or.inl ⟨by rfl, fun w0 hC => by simp [execOp, Act.eval, Act.put, go_sem]⟩) hHeld ?_
        try simp only [Act.put, jA, jB, jC, jD, jE, jF]
        refine wpAnyH_take (i := 9) (v := .int .i64 (j : Int)) rfl (by kernel_rfl) (by kernel_rfl) (by kernel_rfl) (fun _ _ _ h => h) (Or.inl ⟨by rfl, fun w0 hC => by simp [execOp, Act.eval, Act.put, go_sem, hsub, i64_wrap_nat j (by omega)]⟩) hHeld ?_
        try simp only [Act.put, jA, jB, jC, jD, jE, jF]
        refine wpAnyH_take (i := 10) (v := .pointer (some ⟨b, o + j * 2, none⟩)) rfl (by kernel_rfl) (by kernel_rfl) (by kernel_rfl) (fun _ _ _ h => h) (Or.inl ⟨by rfl, fun w0 hC => by simp [execOp, Act.eval, Act.put, go_sem, hj0, hjn, show j < n by omega]⟩) hHeld ?_
        try simp only [Act.put, jA, jB, jC, jD, jE, jF]
        refine wpAnyH_take (i := 11) (v := .agg (rulA' y)) rfl (by kernel_rfl) (by kernel_rfl) (by kernel_rfl) (fun _ _ _ h => h) (Or.inl ⟨by rfl, fun w0 hC => by simp [execOp, Act.eval, Act.put, go_sem, rulA', (hC.cell (p := ⟨b, o + j * 2, none⟩) hbw).trans (ry 0 _ rfl), (hC.cell (p := ⟨b, o + j * 2 + 1, none⟩) hbw).trans (ry 1 _ rfl)]⟩) hHeld ?_
        try simp only [Act.put, jA, jB, jC, jD, jE, jF]
        refine wpAnyH_ready (rs := [5]) (by kernel_rfl) (by simp) (AllReadyH.cons rfl (fun K hK => ?_) AllReadyH.nil)
        rw [if_pos (by rfl)]
        go_wp2_with fail
        rw [HG.out]
        refine (HK.out W x (trueStays.later_ HX.out hHeld)).mono ?_
        rintro e W2 ⟨rfl, hb5⟩
        have hS := hHeld.trans (hb5.mono hHeld.size)
        clear hHeld hb5
        refine hK.out _ _ hS (fun hHeld => ?_)
        clear hK K
        try simp only [Act.put, jA, jB, jC, jD, jE, jF]
        clear hS
        refine wpAnyH_ready (rs := [12]) (by kernel_rfl) (by simp) (AllReadyH.cons rfl (fun K hK => ?_) AllReadyH.nil)
        rw [if_pos (by rfl)]
        go_wp2_with fail
        rw [HG.out]
        refine (HK.out _ y (trueStays.later_ HY.out hHeld)).mono ?_
        rintro e W3 ⟨rfl, hb5⟩
        have hS := hHeld.trans (hb5.mono hHeld.size)
        clear hHeld hb5
        refine hK.out _ _ hS (fun hHeld => ?_)
        clear hK K
        try simp only [Act.put, jA, jB, jC, jD, jE, jF]
        clear hS
        refine wpAnyH_take (i := 13) (v := .bool false) rfl (by kernel_rfl) (by kernel_rfl) (by kernel_rfl) (fun _ _ _ h => h) (Or.inl ⟨by rfl, fun w0 hC => by first | (simp [execOp, Act.eval, Act.put, go_sem, HQ.out]; done) | simp [execOp, Act.eval, Act.put, go_sem, leq13, HQ.out]⟩) hHeld ?_
        try simp only [Act.put, jA, jB, jC, jD, jE, jF]
        refine wpAnyH_done (by kernel_rfl) ?_ _
        have HB2 := Lib.hid (HB.out.trans (hHeld.mono HB.out.size))
        clear hHeld
        have HS := Lib.hid (pair_next2 (R := (fun a b => ltS a.1 b.1)) (fun (a b c : Rul) (h1 : ltS a.1 b.1) (h2 : ltS b.1 c.1) => (ltS_trans h1 h2 : ltS a.1 c.1)) HU.out HLB.out HLA.out (of_decide_eq_true HQ.out))
        go_wp2_with fail
        go_roundw
        case rel => exact ⟨j + 1 + 1, by omega, by go_num, by omega, HS.out, HB2.out⟩
        case measure => simp [intOf]; omega
    · have hkn : ¬ (k : Int) < (n : Int) := by omega
      have HS : Hid (decide (l.Pairwise (fun a b => ltS a.1 b.1)) = true) := Lib.hid (decide_eq_true (by have := HU.out; rwa [List.take_of_length_le (by rw [HL.out.len]; omega)] at this))
      go_wp2_with fail
      go_ret
      exact ⟨by rw [HS.out] <;> rfl, HB.out⟩
set_option maxRecDepth 20000 in
set_option maxHeartbeats 2000000 in
theorem zallRu1_any (g bp : Nat) (caps : Array Value) (p : Rul → Bool) (l : List Rul) (w : World) (x : Rul) (hg : Enters Tryz.prog g) (hc : CallP Tryz.prog g caps (fun x => .agg (rulA' x)) TrueP (id : Rul → Rul) l p w) (hm : (id : Rul → Rul) x ∈ l) (hx : TrueP w w.heap.size x)
    (hp : w.cell? ⟨bp, 0, none⟩ = some (.func (.func g) #[] caps)) :
    Calls Tryz.prog 201 #[.agg (rulA' x), .pointer (some ⟨bp, 0, none⟩)] w fun e w' => e = .returned (.bool (!p ((id : Rul → Rul) x))) ∧ Below w.heap.size w w' := by
  have hb1 : Below w.heap.size w (w.alloc (.cells (rulA' x) 83)) := (Below.refl _ _).alloc (Nat.le_refl _) _
  have CI := Lib.hid (hc _ x hb1 hm (trueStays.later_ hx hb1))
  have hp1 := (hb1.cell (p := ⟨bp, 0, none⟩) (World.block_lt_of_cell? _ _ hp)).trans hp
  have HB1 := Lib.hid hb1
  have HLD : Hid ((w.alloc (.cells (rulA' x) 83)).rangeAt w.heap.size 0 (rulC x)) := Lib.hid (Bk.new w 83 (rulA' x)).range
  have HG := Lib.hid hg
  clear hc hx hp hb1 hg
  go_enter Tryz.func201, Tryz.ntmps201
  go_wp2_with ((with_reducible show wpList _ _ _ (⟨some 5, _, _, _, _, _⟩ :: _) _ _); refine hold ?_)
  refine held (wpList_load_mid rfl 83 (.tmp 2) rfl w.heap.size 0 rfl (rulC x) _ HLD.out Tryz.underlying83 rfl (by kernel_rfl) ?_)
  rw [rulC_A']
  go_wp2_with fail
  rw [HG.out]
  refine CI.out.mono ?_
  rintro e w' ⟨rfl, hb2⟩
  have HB2 := Lib.hid (HB1.out.trans (hb2.mono HB1.out.size))
  clear hb2 CI
  go_wp2_with fail
  go_ret
  exact ⟨rfl, HB2.out⟩
set_option maxRecDepth 20000 in
set_option maxHeartbeats 4000000 in
theorem zallRu_any (most g gk : Nat) (caps : Array Value) (p : Rul → Bool) (A : Option Addr) (n c : Nat) (l : List Rul) (w : World) (hl : RulesIn w w.heap.size A n l) (hn : n ≤ 140737488355328)
    (hgk : Enters Tryz.prog gk) (hg : Enters Tryz.prog g) (hk : CallK Tryz.prog gk (fun x => .agg (rulA' x)) TrueP (id : Rul → Rul) (fun b => .string b.1)) (hc : CallP Tryz.prog g caps (fun x => .agg (rulA' x)) TrueP (id : Rul → Rul) l p w) (q : Bool) (hq : okAll most (fun a b => ltS a.1 b.1) p l ↔ q = true) :
    Calls Tryz.prog 126 #[.slice A n c, .int .i64 (most : Int), .func (.func gk) #[] #[], .func (.func g) #[] caps] w (SaysB q w) := by
  have hb1 : ∀ t, Below w.heap.size w (w.alloc (.cells #[.func (.func g) #[] caps] t)) := fun t => (Below.refl _ _).alloc (Nat.le_refl _) _
  have HL := Lib.hid hl
  have HK := Lib.hid hk
  have HC := Lib.hid hc
  have HQ := Lib.hid hq
  have HBB := Lib.hid hb1
  have HG := Lib.hid hg
  have HGK := Lib.hid hgk
  clear hl hk hc hq hb1 hg hgk
  by_cases hm : n ≤ most
  · have hmb : (n : Int) ≤ (most : Int) := by omega
    cases hr : decide (l.Pairwise (fun a b => ltS a.1 b.1))
    · have HR := Lib.hid hr
      have HF : Hid (q = false) := Lib.hid (by cases q; rfl; exact absurd (HQ.out.2 rfl).2.2 (of_decide_eq_false HR.out))
      clear hr
      go_enter Tryz.func126, Tryz.ntmps126
      go_wp2_with fail
      refine (zrisesRu_any gk A n c l _ (HL.out.later_ trueStays (HBB.out _)) hn HGK.out HK.out).mono ?_
      rintro e w' ⟨rfl, hb⟩
      rw [HR.out]
      have HB := Lib.hid ((HBB.out _).trans (hb.mono (HBB.out _).size))
      clear hb
      go_wp2_with fail
      go_ret
      exact ⟨by rw [HF.out] <;> rfl, HB.out⟩
    · have HR := Lib.hid hr
      clear hr
      go_enter Tryz.func126, Tryz.ntmps126
      go_wp2_with fail
      refine (zrisesRu_any gk A n c l _ (HL.out.later_ trueStays (HBB.out _)) hn HGK.out HK.out).mono ?_
      rintro e w' ⟨rfl, hb⟩
      rw [HR.out]
      have HB := Lib.hid ((HBB.out _).trans (hb.mono (HBB.out _).size))
      have hcell : w'.cell? ⟨w.heap.size, 0, none⟩ = some (.func (.func g) #[] caps) := (hb.cell (p := ⟨w.heap.size, 0, none⟩) (by simp)).trans ((Bk.new w _ #[.func (.func g) #[] caps]).cell 0)
      have HCE := Lib.hid hcell
      clear hb hcell
      go_wp2_with fail
      refine (zContainsRu_any 201 #[.pointer (some ⟨w.heap.size, 0, none⟩)] (fun b => !p b) A n c l w' (HL.out.later_ trueStays HB.out) hn (enters_of Tryz.func201 (by decide) (by kernel_rfl)) ?_).mono ?_
      · intro W x hW hx hQ
        exact zallRu1_any g w.heap.size caps p l W x HG.out (HC.out.later (HB.out.trans (hW.mono HB.out.size))) hx hQ ((hW.cell (p := ⟨w.heap.size, 0, none⟩) (World.block_lt_of_cell? _ _ HCE.out)).trans HCE.out)
      · rintro e w2 ⟨rfl, hb2⟩
        have HB2 := Lib.hid (HB.out.trans (hb2.mono HB.out.size))
        have HF : Hid ((!(l.any fun b => !p b)) = q) := Lib.hid (all_says (by rw [HL.out.len]; exact hm) (of_decide_eq_true HR.out) HQ.out)
        clear hb2
        go_wp2_with fail
        go_ret
        exact ⟨ret_bool (by simpa using HF.out), HB2.out⟩
  · have hmb : ¬ (n : Int) ≤ (most : Int) := by omega
    have HF : Hid (q = false) := Lib.hid (by cases q; rfl; exact absurd (HQ.out.2 rfl).1 (by rw [HL.out.len]; exact hm))
    go_enter Tryz.func126, Tryz.ntmps126
    go_wp2_with fail
    go_ret
    exact ⟨ret_bool (by rw [HF.out] <;> first | rfl | simp [hmb]), HBB.out _⟩
end Go.Proofs.YtbogjfbfgbhdbaaGreatDoor
