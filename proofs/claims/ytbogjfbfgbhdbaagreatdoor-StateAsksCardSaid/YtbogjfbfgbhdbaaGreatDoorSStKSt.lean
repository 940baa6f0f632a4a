/-
  A part of the proof: see the last text.
-/
import Derived.Test.YtbogjfbfgbhdbaaGreatDoorSUidsB
import Derived.Test.YtbogjfbfgbhdbaaGreatDoorSEventF
import Derived.Test.YtbogjfbfgbhdbaaGreatDoorSStKBx
import Derived.Test.YtbogjfbfgbhdbaaGreatDoorSStKHo
namespace Go.Proofs.YtbogjfbfgbhdbaaGreatDoor
open List renaming setIfInBounds_toArray → jA, set_cons_zero → jB, set_cons_succ → jC, getElem_toArray → jD, getElem_cons_zero → jE, getElem_cons_succ → jF
set_option linter.unusedVariables false
set_option linter.unusedSimpArgs false
open Go.RowKit
set_option linter.unusedVariables false
set_option linter.unusedSimpArgs false
set_option maxRecDepth 20000 in
set_option maxHeartbeats 4000000 in
theorem zIndexSt_any (g : Nat) (caps : Array Value) (p : ByteArray → Bool) (A : Option Addr) (n c : Nat) (l : List ByteArray) (w : World) (hl : StrsIn w w.heap.size A n l) (hn : n ≤ 140737488355328)
    (hg : Enters Tryz.prog g) (hc : CallP Tryz.prog g caps (fun x => .string x) TrueP (id : ByteArray → ByteArray) l p w) :
    Calls Tryz.prog 238 #[.slice A n c, .func (.func g) #[] caps] w (IsAt l p w) := by
  have HL := Lib.hid hl
  have HC := Lib.hid hc
  have HG := Lib.hid hg
  clear hl hc hg
  go_enter Tryz.func238, Tryz.ntmps238
  go_wp2_with fail
  go_loopw [8] (fun i wx => ∃ k : Nat, k ≤ n ∧ i = .int .i64 (k : Int) ∧ (∀ b ∈ l.take k, p b = false) ∧ Below w.heap.size w wx) (fun i _ => n - (intOf i).toNat)
  case atStart => exact ⟨0, Nat.zero_le _, rfl, fun b hb => by simp at hb, Below.refl _ _⟩
  case round =>
    obtain ⟨k, hk, rfl, ha, hb⟩ := hrel
    have HB := Lib.hid hb
    have HU := Lib.hid ha
    clear ha hb
    by_cases hlt : k < n
    · obtain ⟨b, o, x, rfl, hbb, hla, htk, hrow, hin⟩ := (HL.out.below trueStays HB.out (Nat.le_refl _)).at_ hlt
      have HLA := Lib.hid hla
      have HTK := Lib.hid htk
      have HROW := Lib.hid hrow
      have hk0 : (0 : Int) ≤ (k : Int) := by omega
      have hkn : (k : Int) < (n : Int) := by omega
      have CI := Lib.hid (HC.out wr x HB.out (List.mem_of_getElem? hla) (trueStays.more hin HB.out.size))
      have c0 := row1 hrow
      rw [Nat.mul_one] at c0
      clear hla htk hrow hin
      go_wp2_with fail
      rw [HG.out]
      refine CI.out.mono ?_
      rintro e w' ⟨rfl, hb2⟩
      have HB2 := Lib.hid (HB.out.trans (hb2.mono HB.out.size))
      clear hb2 CI
      cases hok : p ((id : ByteArray → ByteArray) x)
      · have HS := Lib.hid (none_next HU.out HTK.out hok)
        clear hok
        go_wp2_with fail
        go_roundw
        case rel => exact ⟨k + 1, by omega, by go_num, HS.out, HB2.out⟩
        case measure => simp [intOf]; omega
      · have HS := Lib.hid (idx_hit HU.out HLA.out hok)
        clear hok
        go_wp2_with fail
        go_ret
        exact ⟨(k : Int), rfl, by rw [HS.out]; simp, by omega, by omega, HB2.out⟩
    · have hkn : ¬ (k : Int) < (n : Int) := by omega
      have HS := Lib.hid (none_all HU.out HL.out.len hlt)
      go_wp2_with fail
      go_ret
      exact ⟨-1, rfl, by rw [HS.out]; rfl, by omega, by omega, HB.out⟩
set_option maxHeartbeats 1000000 in
theorem zContainsSt_any (g : Nat) (caps : Array Value) (p : ByteArray → Bool) (A : Option Addr) (n c : Nat) (l : List ByteArray) (w : World) (hl : StrsIn w w.heap.size A n l) (hn : n ≤ 140737488355328)
    (hg : Enters Tryz.prog g) (hc : CallP Tryz.prog g caps (fun x => .string x) TrueP (id : ByteArray → ByteArray) l p w) :
    Calls Tryz.prog 197 #[.slice A n c, .func (.func g) #[] caps] w (SaysB (l.any p) w) := by
  have CI := Lib.hid (zIndexSt_any g caps p A n c l w hl hn hg hc)
  clear hl hc hg
  go_enter Tryz.func197, Tryz.ntmps197
  go_wp2_with fail
  refine CI.out.mono ?_
  rintro e w' ⟨z, rfl, hz, hz1, hz2, hb⟩
  have HZ := Lib.hid hz
  have HB := Lib.hid hb
  clear hz hb CI
  by_cases h0 : 0 ≤ z
  · have HR : Hid (l.any p = true) := Lib.hid (by rw [← idx_any]; have := HZ.out; exact decide_eq_true (by omega))
    go_wp2_with fail
    go_ret
    exact ⟨by rw [HR.out] <;> rfl, HB.out⟩
  · have HR : Hid (l.any p = false) := Lib.hid (by rw [← idx_any]; have := HZ.out; exact decide_eq_false (by omega))
    go_wp2_with fail
    go_ret
    exact ⟨ret_bool (by rw [HR.out] <;> first | rfl | exact decide_eq_false (by omega)), HB.out⟩
set_option maxRecDepth 20000 in
set_option maxHeartbeats 8000000 in
theorem zrisesSt_any (g : Nat) (A : Option Addr) (n c : Nat) (l : List ByteArray) (w : World) (hl : StrsIn w w.heap.size A n l) (hn : n ≤ 140737488355328)
    (hg : Enters Tryz.prog g) (hk : CallK Tryz.prog g (fun x => .string x) TrueP (id : ByteArray → ByteArray) (fun b => .string b)) :
    Calls Tryz.prog 196 #[.slice A n c, .func (.func g) #[] #[]] w (SaysB (decide (l.Pairwise ltS)) w) := by
  have hmx : Tryz.prog.follows .mixedOrders = true := by kernel_rfl
  have HL := Lib.hid hl
  have HK := Lib.hid hk
  have HG := Lib.hid hg
  clear hl hk hg
  go_enter Tryz.func196, Tryz.ntmps196
  go_wp2_with fail
  go_loopw [5] (fun i wx => ∃ k : Nat, 1 ≤ k ∧ i = .int .i64 (k : Int) ∧ (n = 0 ∨ k ≤ n) ∧ (l.take k).Pairwise ltS ∧ Below w.heap.size w wx) (fun i _ => n - (intOf i).toNat)
  case atStart => exact ⟨1, Nat.le_refl _, rfl, by omega, pair_one1 l, Below.refl _ _⟩
  case round =>
    obtain ⟨k, hk1, rfl, hkn0, ha, hb⟩ := hrel
    have HB := Lib.hid hb
    have HU := Lib.hid ha
    clear ha hb
    by_cases hlt : k < n
    · obtain ⟨j, rfl⟩ : ∃ j, k = j + 1 := ⟨k - 1, by omega⟩
      obtain ⟨b, o, x, rfl, hbb, hla, htk, hrow, hin⟩ := (HL.out.below trueStays HB.out (Nat.le_refl _)).at_ hlt
      obtain ⟨b', o', y, he, hbb', hlb, htk', hrow', hin'⟩ := (HL.out.below trueStays HB.out (Nat.le_refl _)).at_ (show j < n by omega)
      injection he with he
      injection he with e1 e2
      subst e1
      subst e2
      have HLA := Lib.hid hla
      have HLB := Lib.hid hlb
      have HX := Lib.hid (trueStays.more hin HB.out.size)
      have HY := Lib.hid (trueStays.more hin' HB.out.size)
      have hk0 : (0 : Int) ≤ (j : Int) + 1 := by omega
      have hj0 : (0 : Int) ≤ (j : Int) := by omega
      have hkn : (j : Int) + 1 < (n : Int) := by omega
      have hjn : (j : Int) < (n : Int) := by omega
      have hsub : (j : Int) + 1 - 1 = (j : Int) := by omega
      have hbw : b < wr.heap.size := Nat.lt_of_lt_of_le hbb HB.out.size
      have rx := row1 hrow
      have ry := row1 hrow'
      rw [Nat.mul_one] at rx ry
      clear hla hlb htk htk' hin hin'
      have HCASE : ∀ q : Bool, decide (ltS y x) = q → Hid (decide (ltS y x) = q) := fun q h => Lib.hid h
      cases hq : decide (ltS y x)
      · have HQ := HCASE _ hq
        clear hq HCASE
        go_wp2_with fail
        refine wp_region_held_drew (S := fun W' => Below wr.heap.size wr W') hmx (Below.refl wr.heap.size wr).drew (fun hHeld => ?_)
        generalize hW0 : wr.drew = W at *
        clear hW0
        simp only [List.size_toArray, List.length_cons, List.length_nil, Nat.reduceAdd]
        refine wpAnyH_take (i := 0) (v := .func (.func g) #[] #[]) rfl (by kernel_rfl) (by kernel_rfl) (by kernel_rfl) (fun _ _ _ h => h) (Or.inl ⟨by rfl, fun w0 hC => by simp [execOp, Act.eval, Act.put, go_sem]⟩) hHeld ?_
        try simp only [Act.put, jA, jB, jC, jD, jE, jF]
        refine wpAnyH_take (i := 1) (v := .slice (some ⟨b, o, none⟩) n c) rfl (by kernel_rfl) (by kernel_rfl) (by kernel_rfl) (fun _ _ _ h => h) (Or.inl ⟨by rfl, fun w0 hC => by simp [execOp, Act.eval, Act.put, go_sem]⟩) hHeld ?_
        try simp only [Act.put, jA, jB, jC, jD, jE, jF]
        refine wpAnyH_take (i := 2) (v := .int .i64 ((j : Int) + 1)) rfl (by kernel_rfl) (by kernel_rfl) (by kernel_rfl) (fun _ _ _ h => h) (Or.inl ⟨by rfl, fun w0 hC => by simp [execOp, Act.eval, Act.put, go_sem]⟩) hHeld ?_
        try simp only [Act.put, jA, jB, jC, jD, jE, jF]
        refine wpAnyH_take (i := 3) (v := .pointer (some ⟨b, o + (j + 1), none⟩)) rfl (by kernel_rfl) (by kernel_rfl) (by kernel_rfl) (fun _ _ _ h => h) (Or.inl ⟨by rfl, fun w0 hC => by simp [execOp, Act.eval, Act.put, go_sem, hk0, hkn, hlt, show ((j : Int) + 1).toNat = j + 1 by omega]⟩) hHeld ?_
        try simp only [Act.put, jA, jB, jC, jD, jE, jF]
        refine wpAnyH_take (i := 4) (v := .string x) rfl (by kernel_rfl) (by kernel_rfl) (by kernel_rfl) (fun _ _ _ h => h) (Or.inl ⟨by rfl, fun w0 hC => by simp [execOp, Act.eval, Act.put, go_sem, (hC.cell (p := ⟨b, o + (j + 1), none⟩) hbw).trans rx]⟩) hHeld ?_
        try simp only [Act.put, jA, jB, jC, jD, jE, jF]
        refine wpAnyH_take (i := 6) (v := .func (.func g) #[] #[]) rfl (by kernel_rfl) (by kernel_rfl) (by kernel_rfl) (fun _ _ _ h => h) (Or.inl ⟨by rfl, fun w0 hC => by simp [execOp, Act.eval, Act.put, go_sem]⟩) hHeld ?_
        try simp only [Act.put, jA, jB, jC, jD, jE, jF]
        refine wpAnyH_take (i := 7) (v := .slice (some ⟨b, o, none⟩) n c) rfl (by kernel_rfl) (by kernel_rfl) (by kernel_rfl) (fun _ _ _ h => h) (Or.inl ⟨by rfl, fun w0 hC => by simp [execOp, Act.eval, Act.put, go_sem]⟩) hHeld ?_
        try simp only [Act.put, jA, jB, jC, jD, jE, jF]
        refine wpAnyH_take (i := 8) (v := .int .i64 ((j : Int) + 1)) rfl (by kernel_rfl) (by kernel_rfl) (by kernel_rfl) (fun _ _ _ h => h) (Or.inl ⟨by rfl, fun w0 hC => by simp [execOp, Act.eval, Act.put, go_sem]⟩) hHeld ?_
        try simp only [Act.put, jA, jB, jC, jD, jE, jF]
        refine wpAnyH_take (i := 9) (v := .int .i64 (j : Int)) rfl (by kernel_rfl) (by kernel_rfl) (by kernel_rfl) (fun _ _ _ h => h) (Or.inl ⟨by rfl, fun w0 hC => by simp [execOp, Act.eval, Act.put, go_sem, hsub, i64_wrap_nat j (by omega)]⟩) hHeld ?_
        try simp only [Act.put, jA, jB, jC, jD, jE, jF]
        refine wpAnyH_take (i := 10) (v := .pointer (some ⟨b, o + j, none⟩)) rfl (by kernel_rfl) (by kernel_rfl) (by kernel_rfl) (fun _ _ _ h => h) (Or.inl ⟨by rfl, fun w0 hC => by simp [execOp, Act.eval, Act.put, go_sem, hj0, hjn, show j < n by omega]⟩) hHeld ?_
        try simp only [Act.put, jA, jB, jC, jD, jE, jF]
        refine wpAnyH_take (i := 11) (v := .string y) rfl (by kernel_rfl) (by kernel_rfl) (by kernel_rfl) (fun _ _ _ h => h) (Or.inl ⟨by rfl, fun w0 hC => by simp [execOp, Act.eval, Act.put, go_sem, (hC.cell (p := ⟨b, o + j, none⟩) hbw).trans ry]⟩) hHeld ?_
        try simp only [Act.put, jA, jB, jC, jD, jE, jF]
        refine wpAnyH_ready (rs := [5]) (by kernel_rfl) (by simp) (AllReadyH.cons rfl (fun K hK => ?_) AllReadyH.nil)
        rw [if_pos (by rfl)]
        go_wp2_with fail
        rw [HG.out]
        refine (HK.out W x (trueStays.later_ HX.out hHeld)).mono ?_
        rintro e W2 ⟨rfl, hb5⟩
        have hS := hHeld.trans (hb5.mono hHeld.size)
        clear hHeld hb5
        refine hK.out _ _ hS (fun hHeld => ?_)
        clear hK K
        try simp only [Act.put, jA, jB, jC, jD, jE, jF]
        clear hS
        refine wpAnyH_ready (rs := [12]) (by kernel_rfl) (by simp) (AllReadyH.cons rfl (fun K hK => ?_) AllReadyH.nil)
        rw [if_pos (by rfl)]
        go_wp2_with fail
        rw [HG.out]
        refine (HK.out _ y (trueStays.later_ HY.out hHeld)).mono ?_
        rintro e W3 ⟨rfl, hb5⟩
        have hS := hHeld.trans (hb5.mono hHeld.size)
        clear hHeld hb5
        refine hK.out _ _ hS (fun hHeld => ?_)
        clear hK K
        try simp only [Act.put, jA, jB, jC, jD, jE, jF]
        clear hS
        refine wpAnyH_take (i := 13) (v := .bool true) rfl (by kernel_rfl) (by kernel_rfl) (by kernel_rfl) (fun _ _ _ h => h) (Or.inl ⟨by rfl, fun w0 hC => by first | (simp [execOp, Act.eval, Act.put, go_sem, HQ.out]; done) | simp [execOp, Act.eval, Act.put, go_sem, leq13, HQ.out]⟩) hHeld ?_
        try simp only [Act.put, jA, jB, jC, jD, jE, jF]
        refine wpAnyH_done (by kernel_rfl) ?_ _
        have HB2 := Lib.hid (HB.out.trans (hHeld.mono HB.out.size))
        clear hHeld
        have HS := Lib.hid (decide_eq_false (pair_notG (R := ltS) HLB.out HLA.out (of_decide_eq_false HQ.out)))
        go_wp2_with fail
        go_ret
        exact ⟨by rw [HS.out] <;> rfl, HB2.out⟩
      · have HQ := HCASE _ hq
        clear hq HCASE
        go_wp2_with fail
        refine wp_region_held_drew (S := fun W' => Below wr.heap.size wr W') hmx (Below.refl wr.heap.size wr).drew (fun hHeld => ?_)
        generalize hW0 : wr.drew = W at *
        clear hW0
        simp only [List.size_toArray, List.length_cons, List.length_nil, Nat.reduceAdd]
        refine wpAnyH_take (i := 0) (v := .func (.func g) #[] #[]) rfl (by kernel_rfl) (by kernel_rfl) (by kernel_rfl) (fun _ _ _ h => h) (Or.inl ⟨by rfl, fun w0 hC => by simp [execOp, Act.eval, Act.put, go_sem]⟩) hHeld ?_
        try simp only [Act.put, jA, jB, jC, jD, jE, jF]
        refine wpAnyH_take (i := 1) (v := .slice (some ⟨b, o, none⟩) n c) rfl (by kernel_rfl) (by kernel_rfl) (by kernel_rfl) (fun _ _ _ h => h) (Or.inl ⟨by rfl, fun w0 hC => by simp [execOp, Act.eval, Act.put, go_sem]⟩) hHeld ?_
        try simp only [Act.put, jA, jB, jC, jD, jE, jF]
        refine wpAnyH_take (i := 2) (v := .int .i64 ((j : Int) + 1)) rfl (by kernel_rfl) (by kernel_rfl) (by kernel_rfl) (fun _ _ _ h => h) (Or.inl ⟨by rfl, fun w0 hC => by simp [execOp, Act.eval, Act.put, go_sem]⟩) hHeld ?_
        try simp only [Act.put, jA, jB, jC, jD, jE, jF]
        refine wpAnyH_take (i := 3) (v := .pointer (some ⟨b, o + (j + 1), none⟩)) rfl (by kernel_rfl) (by kernel_rfl) (by kernel_rfl) (fun _ _ _ h => h) (Or.inl ⟨by rfl, fun w0 hC => by simp [execOp, Act.eval, Act.put, go_sem, hk0, hkn, hlt, show ((j : Int) + 1).toNat = j + 1 by omega]⟩) hHeld ?_
        try simp only [Act.put, jA, jB, jC, jD, jE, jF]
        refine wpAnyH_take (i := 4) (v := .string x) rfl (by kernel_rfl) (by kernel_rfl) (by kernel_rfl) (fun _ _ _ h => h) (Or.inl ⟨by rfl, fun w0 hC => by simp [execOp, Act.eval, Act.put, go_sem, (hC.cell (p := ⟨b, o + (j + 1), none⟩) hbw).trans rx]⟩) hHeld ?_
        try simp only [Act.put, jA, jB, jC, jD, jE, jF]
        refine wpAnyH_take (i := 6) (v := .func (.func g) #[] #[]) rfl (by kernel_rfl) (by kernel_rfl) (by kernel_rfl) (fun _ _ _ h => h) (Or.inl ⟨by rfl, fun w0 hC => by simp [execOp, Act.eval, Act.put, go_sem]⟩) hHeld ?_
        try simp only [Act.put, jA, jB, jC, jD, jE, jF]
        refine wpAnyH_take (i := 7) (v := .slice (some ⟨b, o, none⟩) n c) rfl (by kernel_rfl) (by kernel_rfl) (by kernel_rfl) (fun _ _ _ h => h) (Or.inl ⟨by rfl, fun w0 hC => by simp [execOp, Act.eval, Act.put, go_sem]⟩) hHeld ?_
        try simp only [Act.put, jA, jB, jC, jD, jE, jF]
        refine wpAnyH_take (i := 8) (v := .int .i64 ((j : Int) + 1)) rfl (by kernel_rfl) (by kernel_rfl) (by kernel_rfl) (fun _ _ _ h => h) (Or.inl ⟨by rfl, fun w0 hC => by simp [execOp, Act.eval, Act.put, go_sem]⟩) hHeld ?_
        try simp only [Act.put, jA, jB, jC, jD, jE, jF]
        refine wpAnyH_take (i := 9) (v := .int .i64 (j : Int)) rfl (by kernel_rfl) (by kernel_rfl) (by kernel_rfl) (fun _ _ _ h => h) (Or.inl ⟨by rfl, fun w0 hC => by simp [execOp, Act.eval, Act.put, go_sem, hsub, i64_wrap_nat j (by omega)]⟩) hHeld ?_
        try simp only [Act.put, jA, jB, jC, jD, jE, jF]
        refine wpAnyH_take (i := 10) (v := .pointer (some ⟨b, o + j, none⟩)) rfl (by kernel_rfl) (by kernel_rfl) (by kernel_rfl) (fun _ _ _ h => h) (Or.inl ⟨by rfl, fun w0 hC => by simp [execOp, Act.eval, Act.put, go_sem, hj0, hjn, show j < n by omega]⟩) hHeld ?_
        try simp only [Act.put, jA, jB, jC, jD, jE, jF]
        refine wpAnyH_take (i := 11) (v := .string y) rfl (by kernel_rfl) (by kernel_rfl) (by kernel_rfl) (fun _ _ _ h => h) (Or.inl ⟨by rfl, fun w0 hC => by simp [execOp, Act.eval, Act.put, go_sem, (hC.cell (p := ⟨b, o + j, none⟩) hbw).trans ry]⟩) hHeld ?_
        try simp only [Act.put, jA, jB, jC, jD, jE, jF]
        refine wpAnyH_ready (rs := [5]) (by kernel_rfl) (by simp) (AllReadyH.cons rfl (fun K hK => ?_) AllReadyH.nil)
        rw [if_pos (by rfl)]
        go_wp2_with fail
        rw [HG.out]
        refine (HK.out W x (trueStays.later_ HX.out hHeld)).mono ?_
        rintro e W2 ⟨rfl, hb5⟩
        have hS := hHeld.trans (hb5.mono hHeld.size)
        clear hHeld hb5
        refine hK.out _ _ hS (fun hHeld => ?_)
        clear hK K
        try simp only [Act.put, jA, jB, jC, jD, jE, jF]
        clear hS
        refine wpAnyH_ready (rs := [12]) (by kernel_rfl) (by simp) (AllReadyH.cons rfl (fun K hK => ?_) AllReadyH.nil)
        rw [if_pos (by rfl)]
        go_wp2_with fail
        rw [HG.out]
        refine (HK.out _ y (trueStays.later_ HY.out hHeld)).mono ?_
        rintro e W3 ⟨rfl, hb5⟩
        have hS := hHeld.trans (hb5.mono hHeld.size)
        clear hHeld hb5
        refine hK.out _ _ hS (fun hHeld => ?_)
        clear hK K
        try simp only [Act.put, jA, jB, jC, jD, jE, jF]
        clear hS
        refine wpAnyH_take (i := 13) (v := .bool false) rfl (by kernel_rfl) (by kernel_rfl) (by kernel_rfl) (fun _ _ _ h => h) (Or.inl ⟨by rfl, fun w0 hC => by first | (simp [execOp, Act.eval, Act.put, go_sem, HQ.out]; done) | simp [execOp, Act.eval, Act.put, go_sem, leq13, HQ.out]⟩) hHeld ?_
        try simp only [Act.put, jA, jB, jC, jD, jE, jF]
        refine wpAnyH_done (by kernel_rfl) ?_ _
        have HB2 := Lib.hid (HB.out.trans (hHeld.mono HB.out.size))
        clear hHeld
        have HS := Lib.hid (pair_next2 (R := ltS) (fun a b c h1 h2 => @ltS_trans _ b _ h1 h2) HU.out HLB.out HLA.out (of_decide_eq_true HQ.out))
        go_wp2_with fail
        go_roundw
        case rel => exact ⟨j + 1 + 1, by omega, by go_num, by omega, HS.out, HB2.out⟩
        case measure => simp [intOf]; omega
    · have hkn : ¬ (k : Int) < (n : Int) := by omega
      have HS : Hid (decide (l.Pairwise ltS) = true) := Lib.hid (decide_eq_true (by have := HU.out; rwa [List.take_of_length_le (by rw [HL.out.len]; omega)] at this))
      go_wp2_with fail
      go_ret
      exact ⟨by rw [HS.out] <;> rfl, HB.out⟩
set_option maxRecDepth 20000 in
set_option maxHeartbeats 2000000 in
theorem zallSt1_any (g bp : Nat) (caps : Array Value) (p : ByteArray → Bool) (l : List ByteArray) (w : World) (x : ByteArray) (hg : Enters Tryz.prog g) (hc : CallP Tryz.prog g caps (fun x => .string x) TrueP (id : ByteArray → ByteArray) l p w) (hm : (id : ByteArray → ByteArray) x ∈ l) (hx : TrueP w w.heap.size x)
    (hp : w.cell? ⟨bp, 0, none⟩ = some (.func (.func g) #[] caps)) :
    Calls Tryz.prog 198 #[.string x, .pointer (some ⟨bp, 0, none⟩)] w fun e w' => e = .returned (.bool (!p ((id : ByteArray → ByteArray) x))) ∧ Below w.heap.size w w' := by
  have CI := Lib.hid (hc w x (Below.refl _ _) hm hx)
  have HG := Lib.hid hg
  clear hc hx hg
  go_enter Tryz.func198, Tryz.ntmps198
  go_wp2_with fail
  rw [HG.out]
  refine CI.out.mono ?_
  rintro e w' ⟨rfl, hb2⟩
  have HB2 := Lib.hid hb2
  clear hb2 CI
  go_wp2_with fail
  go_ret
  exact ⟨rfl, HB2.out⟩
set_option maxRecDepth 20000 in
set_option maxHeartbeats 4000000 in
theorem zallSt_any (most g gk : Nat) (caps : Array Value) (p : ByteArray → Bool) (A : Option Addr) (n c : Nat) (l : List ByteArray) (w : World) (hl : StrsIn w w.heap.size A n l) (hn : n ≤ 140737488355328)
    (hgk : Enters Tryz.prog gk) (hg : Enters Tryz.prog g) (hk : CallK Tryz.prog gk (fun x => .string x) TrueP (id : ByteArray → ByteArray) (fun b => .string b)) (hc : CallP Tryz.prog g caps (fun x => .string x) TrueP (id : ByteArray → ByteArray) l p w) (q : Bool) (hq : okAll most ltS p l ↔ q = true) :
    Calls Tryz.prog 123 #[.slice A n c, .int .i64 (most : Int), .func (.func gk) #[] #[], .func (.func g) #[] caps] w (SaysB q w) := by
  have hb1 : ∀ t, Below w.heap.size w (w.alloc (.cells #[.func (.func g) #[] caps] t)) := fun t => (Below.refl _ _).alloc (Nat.le_refl _) _
  have HL := Lib.hid hl
  have HK := Lib.hid hk
  have HC := Lib.hid hc
  have HQ := Lib.hid hq
  have HBB := Lib.hid hb1
  have HG := Lib.hid hg
  have HGK := Lib.hid hgk
  clear hl hk hc hq hb1 hg hgk
  by_cases hm : n ≤ most
  · have hmb : (n : Int) ≤ (most : Int) := by omega
    cases hr : decide (l.Pairwise ltS)
    · have HR := Lib.hid hr
      have HF : Hid (q = false) := Lib.hid (by cases q; rfl; exact absurd (HQ.out.2 rfl).2.2 (of_decide_eq_false HR.out))
      clear hr
      go_enter Tryz.func123, Tryz.ntmps123
      go_wp2_with fail
      refine (zrisesSt_any gk A n c l _ (HL.out.later_ trueStays (HBB.out _)) hn HGK.out HK.out).mono ?_
      rintro e w' ⟨rfl, hb⟩
      rw [HR.out]
      have HB := Lib.hid ((HBB.out _).trans (hb.mono (HBB.out _).size))
      clear hb
      go_wp2_with fail
      go_ret
      exact ⟨by rw [HF.out] <;> rfl, HB.out⟩
    · have HR := Lib.hid hr
      clear hr
      go_enter Tryz.func123, Tryz.ntmps123
      go_wp2_with fail
      refine (zrisesSt_any gk A n c l _ (HL.out.later_ trueStays (HBB.out _)) hn HGK.out HK.out).mono ?_
      rintro e w' ⟨rfl, hb⟩
      rw [HR.out]
      have HB := Lib.hid ((HBB.out _).trans (hb.mono (HBB.out _).size))
      have hcell : w'.cell? ⟨w.heap.size, 0, none⟩ = some (.func (.func g) #[] caps) := (hb.cell (p := ⟨w.heap.size, 0, none⟩) (by simp)).trans ((Bk.new w _ #[.func (.func g) #[] caps]).cell 0)
      have HCE := Lib.hid hcell
      clear hb hcell
      go_wp2_with fail
      refine (zContainsSt_any 198 #[.pointer (some ⟨w.heap.size, 0, none⟩)] (fun b => !p b) A n c l w' (HL.out.later_ trueStays HB.out) hn (enters_of Tryz.func198 (by decide) (by kernel_rfl)) ?_).mono ?_
      · intro W x hW hx hQ
        exact zallSt1_any g w.heap.size caps p l W x HG.out (HC.out.later (HB.out.trans (hW.mono HB.out.size))) hx hQ ((hW.cell (p := ⟨w.heap.size, 0, none⟩) (World.block_lt_of_cell? _ _ HCE.out)).trans HCE.out)
      · rintro e w2 ⟨rfl, hb2⟩
        have HB2 := Lib.hid (HB.out.trans (hb2.mono HB.out.size))
        have HF : Hid ((!(l.any fun b => !p b)) = q) := Lib.hid (all_says (by rw [HL.out.len]; exact hm) (of_decide_eq_true HR.out) HQ.out)
        clear hb2
        go_wp2_with fail
        go_ret
        exact ⟨ret_bool (by simpa using HF.out), HB2.out⟩
  · have hmb : ¬ (n : Int) ≤ (most : Int) := by omega
    have HF : Hid (q = false) := Lib.hid (by cases q; rfl; exact absurd (HQ.out.2 rfl).1 (by rw [HL.out.len]; exact hm))
    go_enter Tryz.func123, Tryz.ntmps123
    go_wp2_with fail
    go_ret
    exact ⟨ret_bool (by rw [HF.out] <;> first | rfl | simp [hmb]), HBB.out _⟩
end Go.Proofs.YtbogjfbfgbhdbaaGreatDoor
namespace Go.Proofs.YtbogjfbfgbhdbaaGreatDoor
open List renaming setIfInBounds_toArray → jA, set_cons_zero → jB, set_cons_succ → jC, getElem_toArray → jD, getElem_cons_zero → jE, getElem_cons_succ → jF
set_option linter.unusedVariables false
set_option linter.unusedSimpArgs false
open Go.RowKit
set_option linter.unusedVariables false
set_option linter.unusedSimpArgs false
set_option maxHeartbeats 1000000 in
theorem stboxAt1_any (bu : Nat) (u : ByteArray) (l : List Bx) (w : World) (hc : w.cell? ⟨bu, 0, none⟩ = some (.string u)) :
    CallP Tryz.prog 138 #[.pointer (some ⟨bu, 0, none⟩)] (fun x => .agg (bhA x)) BhIn Bh.b l (fun b => decide (b.name = u)) w := by
  intro W x hW hm hx
  show Calls Tryz.prog 138 #[.agg (bhA x), .pointer (some ⟨bu, 0, none⟩)] W _
  have hb1 : Below W.heap.size W (W.alloc (.cells (bhA x) 44)) := (Below.refl _ _).alloc (Nat.le_refl _) _
  have hcw := (hW.cell (p := ⟨bu, 0, none⟩) (World.block_lt_of_cell? _ _ hc)).trans hc
  have c0 := (hb1.cell (p := ⟨bu, 0, none⟩) (World.block_lt_of_cell? _ _ hcw)).trans hcw
  have x0 : (bhA x)[0]? = some (.string x.b.name) := rfl
  have HB := Lib.hid hb1
  have heq := str_eq13 x.b.name u
  clear hb1 hW hc hcw hx hm
  go_enter Tryz.func138, Tryz.ntmps138
  go_wp2_with fail
  go_ret
  exact ⟨ret_bool (by first | rfl | exact heq | simp [heq]), HB.out⟩
set_option maxHeartbeats 1000000 in
theorem sttombAt1_any (bu : Nat) (u : Int) (l : List Tmb) (w : World) (hc : w.cell? ⟨bu, 0, none⟩ = some (.int .i64 u)) :
    CallP Tryz.prog 142 #[.pointer (some ⟨bu, 0, none⟩)] (fun x => .agg (thA x)) ThIn Th.t l (fun b => decide (b.id = u)) w := by
  intro W x hW hm hx
  show Calls Tryz.prog 142 #[.agg (thA x), .pointer (some ⟨bu, 0, none⟩)] W _
  have hb1 : Below W.heap.size W (W.alloc (.cells (thA x) 51)) := (Below.refl _ _).alloc (Nat.le_refl _) _
  have hcw := (hW.cell (p := ⟨bu, 0, none⟩) (World.block_lt_of_cell? _ _ hc)).trans hc
  have c0 := (hb1.cell (p := ⟨bu, 0, none⟩) (World.block_lt_of_cell? _ _ hcw)).trans hcw
  have x0 : (thA x)[0]? = some (.int .i64 x.t.id) := rfl
  have HB := Lib.hid hb1
  clear hb1 hW hc hcw hx hm
  go_enter Tryz.func142, Tryz.ntmps142
  go_wp2_with fail
  go_ret
  refine ⟨ret_bool ?_, HB.out⟩
  by_cases h : x.t.id = u <;> simp [h]
set_option maxRecDepth 20000 in
set_option maxHeartbeats 2000000 in
theorem stboxAt_any (cl nv nt nh : Int) (bA sA rA tA gA : Option Addr) (bn bc sn sc rn rc tn tc gn gc : Nat) (l : List Bx) (u : ByteArray) (w : World) (hl : BoxesIn w w.heap.size bA bn l) (hn : bn ≤ 140737488355328) :
    Calls Tryz.prog 55 #[.agg #[.int .i64 cl, .slice bA bn bc, .slice sA sn sc, .slice rA rn rc, .slice tA tn tc, .slice gA gn gc, .int .i64 nv, .int .i64 nt, .int .i64 nh], .string u] w (IsAt l (fun b => decide (b.name = u)) w) := by
  have hb1 : Below w.heap.size w ((w.alloc (.cells #[.int .i64 cl, .slice bA bn bc, .slice sA sn sc, .slice rA rn rc, .slice tA tn tc, .slice gA gn gc, .int .i64 nv, .int .i64 nt, .int .i64 nh] 28)).alloc (.cells #[.string u] 9)) := ((Below.refl _ _).alloc (Nat.le_refl _) _).alloc (by simp) _
  have hk0 : Bk ((w.alloc (.cells #[.int .i64 cl, .slice bA bn bc, .slice sA sn sc, .slice rA rn rc, .slice tA tn tc, .slice gA gn gc, .int .i64 nv, .int .i64 nt, .int .i64 nh] 28)).alloc (.cells #[.string u] 9)) w.heap.size 28 #[.int .i64 cl, .slice bA bn bc, .slice sA sn sc, .slice rA rn rc, .slice tA tn tc, .slice gA gn gc, .int .i64 nv, .int .i64 nt, .int .i64 nh] := (Bk.new _ _ _).alloc _
  have hk1 : Bk ((w.alloc (.cells #[.int .i64 cl, .slice bA bn bc, .slice sA sn sc, .slice rA rn rc, .slice tA tn tc, .slice gA gn gc, .int .i64 nv, .int .i64 nt, .int .i64 nh] 28)).alloc (.cells #[.string u] 9)) (w.heap.size + 1) 9 #[.string u] := Bk.new2 _ _ _ _
  have k1 := hk0.cell 1
  have hc := hk1.cell 0
  have HB := Lib.hid hb1
  have CI := Lib.hid (zIndexBx_any 138 #[.pointer (some ⟨w.heap.size + 1, 0, none⟩)] (fun b => decide (b.name = u)) bA bn bc l _ (hl.later_ bhStays hb1) hn (enters_of Tryz.func138 (by decide) (by kernel_rfl)) (stboxAt1_any (w.heap.size + 1) u l _ hc))
  clear hb1 hk0 hk1 hc hl
  go_enter Tryz.func55, Tryz.ntmps55
  go_wp2_with fail
  refine CI.out.mono ?_
  rintro e w' ⟨z, rfl, h1, h2, h3, h4⟩
  have HR := Lib.hid h1
  have HB4 := Lib.hid (HB.out.trans (h4.mono HB.out.size))
  clear h1 h4 CI
  go_wp2_with fail
  go_ret
  exact ⟨z, rfl, HR.out, h2, h3, HB4.out⟩
set_option maxRecDepth 20000 in
set_option maxHeartbeats 2000000 in
theorem sttombAt_any (cl nv nt nh : Int) (bA sA rA tA gA : Option Addr) (bn bc sn sc rn rc tn tc gn gc : Nat) (l : List Tmb) (u : Int) (w : World) (hl : TombsIn w w.heap.size tA tn l) (hn : tn ≤ 140737488355328) :
    Calls Tryz.prog 59 #[.agg #[.int .i64 cl, .slice bA bn bc, .slice sA sn sc, .slice rA rn rc, .slice tA tn tc, .slice gA gn gc, .int .i64 nv, .int .i64 nt, .int .i64 nh], .int .i64 u] w (IsAt l (fun b => decide (b.id = u)) w) := by
  have hb1 : Below w.heap.size w ((w.alloc (.cells #[.int .i64 cl, .slice bA bn bc, .slice sA sn sc, .slice rA rn rc, .slice tA tn tc, .slice gA gn gc, .int .i64 nv, .int .i64 nt, .int .i64 nh] 28)).alloc (.cells #[.int .i64 u] 3)) := ((Below.refl _ _).alloc (Nat.le_refl _) _).alloc (by simp) _
  have hk0 : Bk ((w.alloc (.cells #[.int .i64 cl, .slice bA bn bc, .slice sA sn sc, .slice rA rn rc, .slice tA tn tc, .slice gA gn gc, .int .i64 nv, .int .i64 nt, .int .i64 nh] 28)).alloc (.cells #[.int .i64 u] 3)) w.heap.size 28 #[.int .i64 cl, .slice bA bn bc, .slice sA sn sc, .slice rA rn rc, .slice tA tn tc, .slice gA gn gc, .int .i64 nv, .int .i64 nt, .int .i64 nh] := (Bk.new _ _ _).alloc _
  have hk1 : Bk ((w.alloc (.cells #[.int .i64 cl, .slice bA bn bc, .slice sA sn sc, .slice rA rn rc, .slice tA tn tc, .slice gA gn gc, .int .i64 nv, .int .i64 nt, .int .i64 nh] 28)).alloc (.cells #[.int .i64 u] 3)) (w.heap.size + 1) 3 #[.int .i64 u] := Bk.new2 _ _ _ _
  have k4 := hk0.cell 4
  have hc := hk1.cell 0
  have HB := Lib.hid hb1
  have CI := Lib.hid (zIndexTb_any 142 #[.pointer (some ⟨w.heap.size + 1, 0, none⟩)] (fun b => decide (b.id = u)) tA tn tc l _ (hl.later_ thStays hb1) hn (enters_of Tryz.func142 (by decide) (by kernel_rfl)) (sttombAt1_any (w.heap.size + 1) u l _ hc))
  clear hb1 hk0 hk1 hc hl
  go_enter Tryz.func59, Tryz.ntmps59
  go_wp2_with fail
  refine CI.out.mono ?_
  rintro e w' ⟨z, rfl, h1, h2, h3, h4⟩
  have HR := Lib.hid h1
  have HB4 := Lib.hid (HB.out.trans (h4.mono HB.out.size))
  clear h1 h4 CI
  go_wp2_with fail
  go_ret
  exact ⟨z, rfl, HR.out, h2, h3, HB4.out⟩
structure BigS (s : Sta) : Prop where
  bx : ∀ b ∈ s.boxes, b.name.size ≤ 140737488355328
  sb : ∀ b ∈ s.subs, b.size ≤ 140737488355328
  ru : ∀ b ∈ s.rules, b.1.size ≤ 140737488355328
  tb : ∀ b ∈ s.tombs, b.box.size ≤ 140737488355328
  ho : ∀ b ∈ s.holds, b.box.size ≤ 140737488355328
open Classical in
noncomputable def okPr (p : Prop) : Bool := decide p
theorem okPr_iff {p : Prop} : p ↔ okPr p = true := by unfold okPr; simp
theorem okPr_true {p : Prop} (h : p) : okPr p = true := okPr_iff.1 h
theorem okPr_false {p : Prop} (h : ¬ p) : okPr p = false := by unfold okPr; simp [h]
theorem okPr_and {p q : Prop} (h : p) : okPr (p ∧ q) = okPr q := by unfold okPr; simp [h]
def OkB16 (nv : Int) (l : List Bx) : Prop := okAll 16 (fun a b => ltS a.name b.name) (bxMay nv) l ∧ boxN l inboxS ≠ 0 ∧ (l.map Bx.valid).Nodup
theorem bxMay_iff {nv : Int} {b : Bx} : bxMay nv b = true ↔ OkBx b ∧ rightS b.name = true ∧ b.valid < nv := by
  unfold bxMay
  simp only [Bool.and_eq_true, decide_eq_true_eq, okBx_iff]
  constructor
  · rintro ⟨h1, h2, h3⟩; exact ⟨h2, h1, h3⟩
  · rintro ⟨h1, h2, h3⟩; exact ⟨h2, h1, h3⟩
theorem okB16 {nv : Int} {l : List Bx} : OkB16 nv l ↔ l.length ≤ 16 ∧ OkBoxes nv l := by
  unfold OkB16 okAll OkL
  have hn : (l.map Bx.valid).Nodup ↔ l.Pairwise (fun a b => a.valid ≠ b.valid) := by unfold List.Nodup; rw [List.pairwise_map]
  have hi : boxN l inboxS ≠ 0 ↔ ∃ b ∈ l, b.name = inboxS := by
    constructor
    · intro h; obtain ⟨b, hb, he⟩ := boxN_at h; exact ⟨b, List.mem_of_getElem? hb, he⟩
    · rintro ⟨b, hb, he⟩ h; exact boxN_none.1 h b hb he
  rw [hn, hi]
  constructor
  · rintro ⟨⟨h1, h2, h3⟩, h4, h5⟩; exact ⟨h1, fun b hb => bxMay_iff.1 (h2 b hb), h3, h5, h4⟩
  · rintro ⟨h1, h2, h3, h4, h5⟩; exact ⟨⟨h1, fun b hb => bxMay_iff.2 (h2 b hb), h3⟩, h5, h4⟩
theorem lone_ok {m : Mg} : okBx ⟨⟨#[]⟩, 1, 4294967296, [m]⟩ = okMg m := by
  by_cases h : okMg m = true
  · rw [h]
    refine okBx_yes ⟨by show (1 : Int) ≤ 1; omega, by show (1 : Int) ≤ 4294967295; omega, by show (1 : Int) ≤ 4294967296; omega, by show (4294967296 : Int) ≤ 4294967296; omega, by show (1 : Nat) ≤ 40; omega, fun x hx => ?_, List.pairwise_singleton _ _⟩
    rw [List.mem_singleton.1 hx]
    have := okMg_of h
    exact ⟨h, by show m.uid < 4294967296; omega⟩
  · rw [Bool.eq_false_iff.2 h]
    exact okBx_no fun q => h (q.2.2.2.2.2.1 m (List.mem_singleton_self m)).1
theorem okT60 {c nt : Int} {l : List Tmb} : okAll 60 (fun a b => a.id < b.id) (tbMay c nt) l ↔ l.length ≤ 60 ∧ OkTombs c nt l := by
  have h : ∀ t, tbMay c nt t = true ↔ 1 ≤ t.id ∧ t.id < nt ∧ rightS t.box = true ∧ 0 ≤ t.at_ ∧ t.at_ ≤ c ∧ okMg t.msg = true := by
    intro t
    unfold tbMay gvB
    rw [lone_ok]
    simp only [Bool.and_eq_true, decide_eq_true_eq]
    constructor
    · rintro ⟨⟨h1, h2⟩, h3, h4, h5, h6⟩; exact ⟨h1, h2, h3, h4, h5, h6⟩
    · rintro ⟨h1, h2, h3, h4, h5, h6⟩; exact ⟨⟨h1, h2⟩, h3, h4, h5, h6⟩
  unfold okAll OkL OkTombs
  constructor
  · rintro ⟨h1, h2, h3⟩; exact ⟨h1, fun t ht => (h t).1 (h2 t ht), h3⟩
  · rintro ⟨h1, h2, h3⟩; exact ⟨h1, fun t ht => (h t).2 (h2 t ht), h3⟩
theorem hold_right14 {box : ByteArray} {st : List Rg} : rightE (evHold box st) = (rightS box && setB st) := by
  unfold rightE evHold rightS
  simp [partsN, letK, okQ, outP, evEq, bare, tmB]
theorem setB_iff {st : List Rg} : setB st = true ↔ (st ≠ [] → rightU st = true) := by
  unfold setB rightU
  simp only [decide_eq_true_eq]
  constructor
  · rintro ⟨h1, h2⟩ hn; exact ⟨List.length_pos_iff.2 hn, h1, h2⟩
  · intro h
    by_cases hn : st = []
    · subst hn; exact ⟨by simp, fun r hr => by cases hr⟩
    · exact (h hn).2
theorem okH16 {nh : Int} {l : List Hol} : okAll 16 (fun a b => a.id < b.id) (hoMay nh) l ↔ l.length ≤ 16 ∧ OkHolds nh l := by
  have h : ∀ t, hoMay nh t = true ↔ 1 ≤ t.id ∧ t.id < nh ∧ rightS t.box = true ∧ (t.set ≠ [] → rightU t.set = true) := by
    intro t
    unfold hoMay gvB
    rw [hold_right14, ← setB_iff]
    simp only [Bool.and_eq_true, decide_eq_true_eq]
    constructor
    · rintro ⟨⟨h1, h2⟩, h3, h4⟩; exact ⟨h1, h2, h3, h4⟩
    · rintro ⟨h1, h2, h3, h4⟩; exact ⟨⟨h1, h2⟩, h3, h4⟩
  unfold okAll OkL OkHolds
  constructor
  · rintro ⟨h1, h2, h3⟩; exact ⟨h1, fun t ht => (h t).1 (h2 t ht), h3⟩
  · rintro ⟨h1, h2, h3⟩; exact ⟨h1, fun t ht => (h t).2 (h2 t ht), h3⟩
theorem okR16 {l : List Rul} : okAll 16 (fun a b => ltS a.1 b.1) ruMay l ↔ l.length ≤ 16 ∧ OkRules l := by
  have h : ∀ t, ruMay t = true ↔ rightS t.1 = true ∧ 1 ≤ t.2 ∧ t.2 ≤ 1099511627776 := by
    intro t
    unfold ruMay tmB
    simp only [Bool.and_eq_true, decide_eq_true_eq]
    constructor
    · rintro ⟨h1, h2, h3⟩; exact ⟨h1, by omega, h3.2⟩
    · rintro ⟨h1, h2, h3⟩; exact ⟨h1, by omega, by omega, h3⟩
  unfold okAll OkL OkRules
  constructor
  · rintro ⟨h1, h2, h3⟩; exact ⟨h1, fun t ht => (h t).1 (h2 t ht), h3⟩
  · rintro ⟨h1, h2, h3⟩; exact ⟨h1, fun t ht => (h t).2 (h2 t ht), h3⟩
theorem okS16 {l : List ByteArray} : okAll 16 ltS rightS l ↔ l.length ≤ 16 ∧ OkSubs l := Iff.rfl
set_option maxHeartbeats 1000000 in
theorem nmRightP (l : List ByteArray) (w : World) (hsz : ∀ b ∈ l, b.size ≤ 140737488355328) : CallP Tryz.prog 118 #[] (fun x => .string x) TrueP (id : ByteArray → ByteArray) l rightS w := by
  intro W x hW hm hx
  exact nmRight_any x (hsz x hm) W
set_option maxRecDepth 20000 in
set_option maxHeartbeats 2000000 in
theorem stsubsMayBe_any (cl nv nt nh : Int) (bA sA rA tA gA : Option Addr) (bn bc sn sc rn rc tn tc gn gc : Nat) (l : List ByteArray) (w : World) (hl : StrsIn w w.heap.size sA sn l) (hn' : sn ≤ 140737488355328) (hsz : ∀ b ∈ l, b.size ≤ 140737488355328) :
    Calls Tryz.prog 47 #[.agg #[.int .i64 cl, .slice bA bn bc, .slice sA sn sc, .slice rA rn rc, .slice tA tn tc, .slice gA gn gc, .int .i64 nv, .int .i64 nt, .int .i64 nh]] w (SaysB (okPr (okAll 16 ltS rightS l)) w) := by
  have hb1 : Below w.heap.size w (w.alloc (.cells #[.int .i64 cl, .slice bA bn bc, .slice sA sn sc, .slice rA rn rc, .slice tA tn tc, .slice gA gn gc, .int .i64 nv, .int .i64 nt, .int .i64 nh] 28)) := (Below.refl _ _).alloc (Nat.le_refl _) _
  have hk0 : Bk (w.alloc (.cells #[.int .i64 cl, .slice bA bn bc, .slice sA sn sc, .slice rA rn rc, .slice tA tn tc, .slice gA gn gc, .int .i64 nv, .int .i64 nt, .int .i64 nh] 28)) w.heap.size 28 #[.int .i64 cl, .slice bA bn bc, .slice sA sn sc, .slice rA rn rc, .slice tA tn tc, .slice gA gn gc, .int .i64 nv, .int .i64 nt, .int .i64 nh] := Bk.new _ _ _
  have k2 := hk0.cell 2
  have HB := Lib.hid hb1
  have CI := Lib.hid (zallSt_any 16 118 124 #[] rightS sA sn sc l _ (hl.later_ trueStays hb1) hn' (enters_of Tryz.func124 (by decide) (by kernel_rfl)) (enters_of Tryz.func118 (by decide) (by kernel_rfl)) stitself_any (nmRightP l _ hsz) _ okPr_iff)
  clear hb1 hk0 hl
  go_enter Tryz.func47, Tryz.ntmps47
  go_wp2_with fail
  refine CI.out.mono ?_
  rintro e w' ⟨rfl, h4⟩
  have HB4 := Lib.hid (HB.out.trans (h4.mono HB.out.size))
  clear h4 CI
  go_wp2_with fail
  go_ret
  exact ⟨rfl, HB4.out⟩
set_option maxRecDepth 20000 in
set_option maxHeartbeats 2000000 in
theorem strulesMayBe_any (cl nv nt nh : Int) (bA sA rA tA gA : Option Addr) (bn bc sn sc rn rc tn tc gn gc : Nat) (l : List Rul) (w : World) (hl : RulesIn w w.heap.size rA rn l) (hn' : rn ≤ 140737488355328) (hsz : ∀ b ∈ l, b.1.size ≤ 140737488355328) :
    Calls Tryz.prog 48 #[.agg #[.int .i64 cl, .slice bA bn bc, .slice sA sn sc, .slice rA rn rc, .slice tA tn tc, .slice gA gn gc, .int .i64 nv, .int .i64 nt, .int .i64 nh]] w (SaysB (okPr (okAll 16 (fun a b => ltS a.1 b.1) ruMay l)) w) := by
  have hb1 : Below w.heap.size w (w.alloc (.cells #[.int .i64 cl, .slice bA bn bc, .slice sA sn sc, .slice rA rn rc, .slice tA tn tc, .slice gA gn gc, .int .i64 nv, .int .i64 nt, .int .i64 nh] 28)) := (Below.refl _ _).alloc (Nat.le_refl _) _
  have hk0 : Bk (w.alloc (.cells #[.int .i64 cl, .slice bA bn bc, .slice sA sn sc, .slice rA rn rc, .slice tA tn tc, .slice gA gn gc, .int .i64 nv, .int .i64 nt, .int .i64 nh] 28)) w.heap.size 28 #[.int .i64 cl, .slice bA bn bc, .slice sA sn sc, .slice rA rn rc, .slice tA tn tc, .slice gA gn gc, .int .i64 nv, .int .i64 nt, .int .i64 nh] := Bk.new _ _ _
  have k3 := hk0.cell 3
  have HB := Lib.hid hb1
  have CI := Lib.hid (zallRu_any 16 125 127 #[] ruMay rA rn rc l _ (hl.later_ trueStays hb1) hn' (enters_of Tryz.func127 (by decide) (by kernel_rfl)) (enters_of Tryz.func125 (by decide) (by kernel_rfl)) strule2_any (struMay_any l _ hsz) _ okPr_iff)
  clear hb1 hk0 hl
  go_enter Tryz.func48, Tryz.ntmps48
  go_wp2_with fail
  refine CI.out.mono ?_
  rintro e w' ⟨rfl, h4⟩
  have HB4 := Lib.hid (HB.out.trans (h4.mono HB.out.size))
  clear h4 CI
  go_wp2_with fail
  go_ret
  exact ⟨rfl, HB4.out⟩
set_option maxRecDepth 20000 in
set_option maxHeartbeats 2000000 in
theorem sttombsMayBe_any (cl nv nt nh : Int) (bA sA rA tA gA : Option Addr) (bn bc sn sc rn rc tn tc gn gc : Nat) (l : List Tmb) (w : World) (hl : TombsIn w w.heap.size tA tn l) (hn' : tn ≤ 140737488355328) (hsz : ∀ b ∈ l, b.box.size ≤ 140737488355328) :
    Calls Tryz.prog 49 #[.agg #[.int .i64 cl, .slice bA bn bc, .slice sA sn sc, .slice rA rn rc, .slice tA tn tc, .slice gA gn gc, .int .i64 nv, .int .i64 nt, .int .i64 nh]] w (SaysB (okPr (okAll 60 (fun a b => a.id < b.id) (tbMay cl nt) l)) w) := by
  have hb1 : Below w.heap.size w (w.alloc (.cells #[.int .i64 cl, .slice bA bn bc, .slice sA sn sc, .slice rA rn rc, .slice tA tn tc, .slice gA gn gc, .int .i64 nv, .int .i64 nt, .int .i64 nh] 28)) := (Below.refl _ _).alloc (Nat.le_refl _) _
  have hk0 : Bk (w.alloc (.cells #[.int .i64 cl, .slice bA bn bc, .slice sA sn sc, .slice rA rn rc, .slice tA tn tc, .slice gA gn gc, .int .i64 nv, .int .i64 nt, .int .i64 nh] 28)) w.heap.size 28 #[.int .i64 cl, .slice bA bn bc, .slice sA sn sc, .slice rA rn rc, .slice tA tn tc, .slice gA gn gc, .int .i64 nv, .int .i64 nt, .int .i64 nh] := Bk.new _ _ _
  have k4 := hk0.cell 4
  have HB := Lib.hid hb1
  have CI := Lib.hid (zallTb_any 60 128 132 #[.pointer (some ⟨w.heap.size, 0, none⟩)] (tbMay cl nt) tA tn tc l _ (hl.later_ thStays hb1) hn' (enters_of Tryz.func132 (by decide) (by kernel_rfl)) (enters_of Tryz.func128 (by decide) (by kernel_rfl)) sttombID_any (sttbMay_any w.heap.size cl nt l _ (hk0.cell 0) (hk0.cell 7) hsz) _ okPr_iff)
  clear hb1 hk0 hl
  go_enter Tryz.func49, Tryz.ntmps49
  go_wp2_with fail
  refine CI.out.mono ?_
  rintro e w' ⟨rfl, h4⟩
  have HB4 := Lib.hid (HB.out.trans (h4.mono HB.out.size))
  clear h4 CI
  go_wp2_with fail
  go_ret
  exact ⟨rfl, HB4.out⟩
set_option maxRecDepth 20000 in
set_option maxHeartbeats 2000000 in
theorem stholdsMayBe_any (cl nv nt nh : Int) (bA sA rA tA gA : Option Addr) (bn bc sn sc rn rc tn tc gn gc : Nat) (l : List Hol) (w : World) (hl : HolsIn w w.heap.size gA gn l) (hn' : gn ≤ 140737488355328) (hsz : ∀ b ∈ l, b.box.size ≤ 140737488355328) (hK : Kinds w) :
    Calls Tryz.prog 50 #[.agg #[.int .i64 cl, .slice bA bn bc, .slice sA sn sc, .slice rA rn rc, .slice tA tn tc, .slice gA gn gc, .int .i64 nv, .int .i64 nt, .int .i64 nh]] w (SaysB (okPr (okAll 16 (fun a b => a.id < b.id) (hoMay nh) l)) w) := by
  have hb1 : Below w.heap.size w (w.alloc (.cells #[.int .i64 cl, .slice bA bn bc, .slice sA sn sc, .slice rA rn rc, .slice tA tn tc, .slice gA gn gc, .int .i64 nv, .int .i64 nt, .int .i64 nh] 28)) := (Below.refl _ _).alloc (Nat.le_refl _) _
  have hk0 : Bk (w.alloc (.cells #[.int .i64 cl, .slice bA bn bc, .slice sA sn sc, .slice rA rn rc, .slice tA tn tc, .slice gA gn gc, .int .i64 nv, .int .i64 nt, .int .i64 nh] 28)) w.heap.size 28 #[.int .i64 cl, .slice bA bn bc, .slice sA sn sc, .slice rA rn rc, .slice tA tn tc, .slice gA gn gc, .int .i64 nv, .int .i64 nt, .int .i64 nh] := Bk.new _ _ _
  have k5 := hk0.cell 5
  have HB := Lib.hid hb1
  have CI := Lib.hid (zallHo_any 16 133 135 #[.pointer (some ⟨w.heap.size, 0, none⟩)] (hoMay nh) gA gn gc l _ (hl.later_ hhStays hb1) hn' (enters_of Tryz.func135 (by decide) (by kernel_rfl)) (enters_of Tryz.func133 (by decide) (by kernel_rfl)) stholdID_any (sthoMay_any w.heap.size nh l _ (hK.below hb1) (hk0.cell 8) hsz) _ okPr_iff)
  clear hb1 hk0 hl
  go_enter Tryz.func50, Tryz.ntmps50
  go_wp2_with fail
  refine CI.out.mono ?_
  rintro e w' ⟨rfl, h4⟩
  have HB4 := Lib.hid (HB.out.trans (h4.mono HB.out.size))
  clear h4 CI
  go_wp2_with fail
  go_ret
  exact ⟨rfl, HB4.out⟩
set_option maxRecDepth 20000 in
set_option maxHeartbeats 4000000 in
theorem stboxesMayBe_any (cl nv nt nh : Int) (bA sA rA tA gA : Option Addr) (bn bc sn sc rn rc tn tc gn gc : Nat) (l : List Bx) (w : World) (hl : BoxesIn w w.heap.size bA bn l) (hn' : bn ≤ 140737488355328) (hsz : ∀ b ∈ l, b.name.size ≤ 140737488355328) :
    Calls Tryz.prog 46 #[.agg #[.int .i64 cl, .slice bA bn bc, .slice sA sn sc, .slice rA rn rc, .slice tA tn tc, .slice gA gn gc, .int .i64 nv, .int .i64 nt, .int .i64 nh]] w (SaysB (okPr (OkB16 nv l)) w) := by
  have hb1 : Below w.heap.size w (w.alloc (.cells #[.int .i64 cl, .slice bA bn bc, .slice sA sn sc, .slice rA rn rc, .slice tA tn tc, .slice gA gn gc, .int .i64 nv, .int .i64 nt, .int .i64 nh] 28)) := (Below.refl _ _).alloc (Nat.le_refl _) _
  have hk0 : Bk (w.alloc (.cells #[.int .i64 cl, .slice bA bn bc, .slice sA sn sc, .slice rA rn rc, .slice tA tn tc, .slice gA gn gc, .int .i64 nv, .int .i64 nt, .int .i64 nh] 28)) w.heap.size 28 #[.int .i64 cl, .slice bA bn bc, .slice sA sn sc, .slice rA rn rc, .slice tA tn tc, .slice gA gn gc, .int .i64 nv, .int .i64 nt, .int .i64 nh] := Bk.new _ _ _
  have k1 := hk0.cell 1
  have HB := Lib.hid hb1
  have HK := Lib.hid hk0
  have HL := Lib.hid (hl.later_ bhStays hb1)
  have CI := Lib.hid (zallBx_any 16 117 121 #[.pointer (some ⟨w.heap.size, 0, none⟩)] (bxMay nv) bA bn bc l _ (hl.later_ bhStays hb1) hn' (enters_of Tryz.func121 (by decide) (by kernel_rfl)) (enters_of Tryz.func117 (by decide) (by kernel_rfl)) stboxName_any (stboxMay_any w.heap.size nv l _ (hk0.cell 6) hsz) _ okPr_iff)
  clear hb1 hk0 hl
  go_enter Tryz.func46, Tryz.ntmps46
  go_wp2_with fail
  refine CI.out.mono ?_
  generalize w.alloc (.cells #[.int .i64 cl, .slice bA bn bc, .slice sA sn sc, .slice rA rn rc, .slice tA tn tc, .slice gA gn gc, .int .i64 nv, .int .i64 nt, .int .i64 nh] 28) = W1 at *
  rintro e w2 ⟨rfl, h4⟩
  have HB2 := Lib.hid (HB.out.trans (h4.mono HB.out.size))
  have HK2 := Lib.hid (HK.out.below h4 HK.out.lt)
  have HL2 := Lib.hid (HL.out.later_ bhStays h4)
  clear h4 CI k1 HB HK HL
  by_cases h1 : okAll 16 (fun a b => ltS a.name b.name) (bxMay nv) l
  · rw [okPr_true h1]
    have H1 := Lib.hid h1
    clear h1
    have k0 := HK2.out.cell 0
    have k1 := HK2.out.cell 1
    have k2 := HK2.out.cell 2
    have k3 := HK2.out.cell 3
    have k4 := HK2.out.cell 4
    have k5 := HK2.out.cell 5
    have k6 := HK2.out.cell 6
    have k7 := HK2.out.cell 7
    have k8 := HK2.out.cell 8
    go_wp2_with fail
    refine (stboxAt_any cl nv nt nh bA sA rA tA gA bn bc sn sc rn rc tn tc gn gc l inboxS w2 HL2.out hn').mono ?_
    rintro e w3 ⟨z, rfl, hz, hz1, hz2, h4⟩
    have HB3 := Lib.hid (HB2.out.trans (h4.mono HB2.out.size))
    have HK3 := Lib.hid (HK2.out.below h4 HK2.out.lt)
    have HL3 := Lib.hid (HL2.out.later_ bhStays h4)
    rw [← boxN_idx] at hz
    have HZ := Lib.hid hz
    clear h4 hz k0 k1 k2 k3 k4 k5 k6 k7 k8 HB2 HK2 HL2
    by_cases h2 : 0 ≤ z
    · have H2 : Hid (boxN l inboxS ≠ 0) := Lib.hid (by have := HZ.out; omega)
      have k1 := HK3.out.cell 1
      go_wp2_with fail
      refine (stvalids_any bA bn bc l w3 HL3.out (by have := H1.out.1; rw [HL3.out.len] at this; omega) (fun b hb => by have := (bxMay_iff.1 (H1.out.2.1 b hb)).1; exact ⟨this.1, this.2.1⟩)).mono ?_
      rintro e w4 ⟨rfl, h4⟩
      have HB4 := Lib.hid (HB3.out.trans (h4.mono HB3.out.size))
      have HR : Hid (okPr (OkB16 nv l) = decide (l.map Bx.valid).Nodup) := Lib.hid (by
        unfold OkB16
        rw [okPr_and H1.out, okPr_and H2.out]
        by_cases hq : (l.map Bx.valid).Nodup
        · rw [okPr_true hq, decide_eq_true hq]
        · rw [okPr_false hq, decide_eq_false hq])
      clear h4 k1
      go_wp2_with fail
      go_ret
      exact ⟨by rw [HR.out] <;> rfl, HB4.out⟩
    · have HR : Hid (okPr (OkB16 nv l) = false) := Lib.hid (okPr_false fun q => by have := q.2.1; have := HZ.out; omega)
      go_wp2_with fail
      go_ret
      exact ⟨ret_bool (by rw [HR.out] <;> first | rfl | simp [h2]), HB3.out⟩
  · rw [okPr_false h1]
    have HR : Hid (okPr (OkB16 nv l) = false) := Lib.hid (okPr_false fun q => h1 q.1)
    go_wp2_with fail
    go_ret
    exact ⟨by rw [HR.out] <;> rfl, HB2.out⟩
end Go.Proofs.YtbogjfbfgbhdbaaGreatDoor
namespace Go.Proofs.YtbogjfbfgbhdbaaGreatDoor
open List renaming setIfInBounds_toArray → jA, set_cons_zero → jB, set_cons_succ → jC, getElem_toArray → jD, getElem_cons_zero → jE, getElem_cons_succ → jF
set_option linter.unusedVariables false
set_option linter.unusedSimpArgs false
open Go.RowKit
set_option linter.unusedVariables false
set_option linter.unusedSimpArgs false
theorem okSta_parts (s : Sta) : okS s = (tmB s.clock && (nxB s.nv && (nxB s.nt && (nxB s.nh && (okPr (OkB16 s.nv s.boxes) && (okPr (okAll 16 ltS rightS s.subs) && (okPr (okAll 16 (fun a b => ltS a.1 b.1) ruMay s.rules) && (okPr (okAll 60 (fun a b => a.id < b.id) (tbMay s.clock s.nt) s.tombs) && okPr (okAll 16 (fun a b => a.id < b.id) (hoMay s.nh) s.holds))))))))) := by
  apply okS_iff
  simp only [Bool.and_eq_true, ← okPr_iff]
  rw [okB16, okS16, okR16, okT60, okH16]
  have ht : tmB s.clock = true ↔ 0 ≤ s.clock ∧ s.clock ≤ 1099511627776 := by unfold tmB; simp
  have hn : ∀ n, nxB n = true ↔ NextOk n := by intro n; unfold nxB NextOk; simp
  rw [ht, hn, hn, hn]
  constructor
  · intro h
    exact ⟨h.clock, h.nv, h.nt, h.nh, ⟨h.lens.1, h.boxes⟩, ⟨h.lens.2.1, h.subs⟩, ⟨h.lens.2.2.1, h.rules⟩, ⟨h.lens.2.2.2.1, h.tombs⟩, ⟨h.lens.2.2.2.2, h.holds⟩⟩
  · rintro ⟨h1, h2, h3, h4, ⟨l1, h5⟩, ⟨l2, h6⟩, ⟨l3, h7⟩, ⟨l4, h8⟩, ⟨l5, h9⟩⟩
    exact ⟨h1, h2, h3, h4, ⟨l1, l2, l3, l4, l5⟩, h5, h6, h7, h8, h9⟩
theorem Bk.nine {w : World} {b : Nat} {t : TypeId} {v0 v1 v2 v3 v4 v5 v6 v7 v8 : Value} (h : Bk w b t #[v0, v1, v2, v3, v4, v5, v6, v7, v8]) :
    w.cell? ⟨b, 0, none⟩ = some v0 ∧ w.cell? ⟨b, 1, none⟩ = some v1 ∧ w.cell? ⟨b, 2, none⟩ = some v2 ∧ w.cell? ⟨b, 3, none⟩ = some v3 ∧ w.cell? ⟨b, 4, none⟩ = some v4 ∧ w.cell? ⟨b, 5, none⟩ = some v5 ∧ w.cell? ⟨b, 6, none⟩ = some v6 ∧ w.cell? ⟨b, 7, none⟩ = some v7 ∧ w.cell? ⟨b, 8, none⟩ = some v8 :=
  ⟨h.cell 0, h.cell 1, h.cell 2, h.cell 3, h.cell 4, h.cell 5, h.cell 6, h.cell 7, h.cell 8⟩
set_option maxRecDepth 20000 in
set_option maxHeartbeats 8000000 in
theorem stRight_any (s : Sta) (p : StaAt) (w : World) (h : StaIn w w.heap.size s p) (hb : BigS s) (hK : Kinds w) : Calls Tryz.prog 16 #[staV s p] w (SaysB (okS s) w) := by
  obtain ⟨cl, boxes, subs, rules, tombs, holds, nv, nt, nh⟩ := s
  obtain ⟨⟨bA, bn, bc⟩, ⟨sA, sn, sc⟩, ⟨rA, rn, rc⟩, ⟨tA, tn, tc⟩, ⟨gA, gn, gc⟩⟩ := p
  show Calls Tryz.prog 16 #[.agg #[.int .i64 cl, .slice bA bn bc, .slice sA sn sc, .slice rA rn rc, .slice tA tn tc, .slice gA gn gc, .int .i64 nv, .int .i64 nt, .int .i64 nh]] w _
  have hE := okSta_parts ⟨cl, boxes, subs, rules, tombs, holds, nv, nt, nh⟩
  simp only at hE
  have HB : Hid (Below w.heap.size w (w.alloc (.cells #[.int .i64 cl, .slice bA bn bc, .slice sA sn sc, .slice rA rn rc, .slice tA tn tc, .slice gA gn gc, .int .i64 nv, .int .i64 nt, .int .i64 nh] 28))) := Lib.hid ((Below.refl _ _).alloc (Nat.le_refl _) _)
  have HK0 : Hid (Bk (w.alloc (.cells #[.int .i64 cl, .slice bA bn bc, .slice sA sn sc, .slice rA rn rc, .slice tA tn tc, .slice gA gn gc, .int .i64 nv, .int .i64 nt, .int .i64 nh] 28)) w.heap.size 28 #[.int .i64 cl, .slice bA bn bc, .slice sA sn sc, .slice rA rn rc, .slice tA tn tc, .slice gA gn gc, .int .i64 nv, .int .i64 nt, .int .i64 nh]) := Lib.hid (Bk.new _ _ _)
  have HH := Lib.hid h
  have HBG := Lib.hid hb
  have HKI := Lib.hid hK
  have HE := Lib.hid hE
  clear h hb hK hE
  obtain ⟨k0, k1, k2, k3, k4, k5, k6, k7, k8⟩ := HK0.out.nine
  go_enter Tryz.func16, Tryz.ntmps16
  go_wp2_with fail
  refine (stisTime_any cl _).mono ?_
  generalize w.alloc (.cells #[.int .i64 cl, .slice bA bn bc, .slice sA sn sc, .slice rA rn rc, .slice tA tn tc, .slice gA gn gc, .int .i64 nv, .int .i64 nt, .int .i64 nh] 28) = W0 at *
  rintro e w1 ⟨rfl, rfl⟩
  cases h0 : tmB cl
  · have HR : Hid (okS ⟨cl, boxes, subs, rules, tombs, holds, nv, nt, nh⟩ = false) := Lib.hid (by rw [HE.out, h0]; rfl)
    clear h0
    go_wp2_with fail
    go_ret
    exact ⟨by rw [HR.out] <;> rfl, HB.out⟩
  have H0 := Lib.hid h0
  clear h0
  go_wp2_with fail
  refine (stisNext_any nv _).mono ?_
  rintro e w1 ⟨rfl, rfl⟩
  cases h1 : nxB nv
  · have HR : Hid (okS ⟨cl, boxes, subs, rules, tombs, holds, nv, nt, nh⟩ = false) := Lib.hid (by rw [HE.out, H0.out, h1]; rfl)
    clear h1
    go_wp2_with fail
    go_ret
    exact ⟨by rw [HR.out] <;> rfl, HB.out⟩
  have H1 := Lib.hid h1
  clear h1
  go_wp2_with fail
  refine (stisNext_any nt _).mono ?_
  rintro e w1 ⟨rfl, rfl⟩
  cases h2 : nxB nt
  · have HR : Hid (okS ⟨cl, boxes, subs, rules, tombs, holds, nv, nt, nh⟩ = false) := Lib.hid (by rw [HE.out, H0.out, H1.out, h2]; rfl)
    clear h2
    go_wp2_with fail
    go_ret
    exact ⟨by rw [HR.out] <;> rfl, HB.out⟩
  have H2 := Lib.hid h2
  clear h2
  go_wp2_with fail
  refine (stisNext_any nh _).mono ?_
  rintro e w1 ⟨rfl, rfl⟩
  cases h3 : nxB nh
  · have HR : Hid (okS ⟨cl, boxes, subs, rules, tombs, holds, nv, nt, nh⟩ = false) := Lib.hid (by rw [HE.out, H0.out, H1.out, H2.out, h3]; rfl)
    clear h3
    go_wp2_with fail
    go_ret
    exact ⟨by rw [HR.out] <;> rfl, HB.out⟩
  have H3 := Lib.hid h3
  clear h3
  go_wp2_with fail
  refine (stboxesMayBe_any cl nv nt nh bA sA rA tA gA bn bc sn sc rn rc tn tc gn gc boxes _ (HH.out.bx.later_ bhStays HB.out) HH.out.sz.1 HBG.out.bx).mono ?_
  rintro e w2 ⟨rfl, hb2⟩
  have HBN := Lib.hid (HB.out.trans (hb2.mono HB.out.size))
  have HKN := Lib.hid (HK0.out.below hb2 HK0.out.lt)
  clear hb2 k0 k1 k2 k3 k4 k5 k6 k7 k8 HB HK0
  have HB := HBN
  have HK0 := HKN
  clear HBN HKN
  obtain ⟨k0, k1, k2, k3, k4, k5, k6, k7, k8⟩ := HK0.out.nine
  cases h4 : okPr (OkB16 nv boxes)
  · have HR : Hid (okS ⟨cl, boxes, subs, rules, tombs, holds, nv, nt, nh⟩ = false) := Lib.hid (by rw [HE.out, H0.out, H1.out, H2.out, H3.out, h4]; rfl)
    clear h4
    go_wp2_with fail
    go_ret
    exact ⟨by rw [HR.out] <;> rfl, HB.out⟩
  have H4 := Lib.hid h4
  clear h4
  go_wp2_with fail
  refine (stsubsMayBe_any cl nv nt nh bA sA rA tA gA bn bc sn sc rn rc tn tc gn gc subs _ ((HH.out.sb.later HB.out).nest) HH.out.sz.2.1 HBG.out.sb).mono ?_
  rintro e w2 ⟨rfl, hb2⟩
  have HBN := Lib.hid (HB.out.trans (hb2.mono HB.out.size))
  have HKN := Lib.hid (HK0.out.below hb2 HK0.out.lt)
  clear hb2 k0 k1 k2 k3 k4 k5 k6 k7 k8 HB HK0
  have HB := HBN
  have HK0 := HKN
  clear HBN HKN
  obtain ⟨k0, k1, k2, k3, k4, k5, k6, k7, k8⟩ := HK0.out.nine
  cases h5 : okPr (okAll 16 ltS rightS subs)
  · have HR : Hid (okS ⟨cl, boxes, subs, rules, tombs, holds, nv, nt, nh⟩ = false) := Lib.hid (by rw [HE.out, H0.out, H1.out, H2.out, H3.out, H4.out, h5]; rfl)
    clear h5
    go_wp2_with fail
    go_ret
    exact ⟨by rw [HR.out] <;> rfl, HB.out⟩
  have H5 := Lib.hid h5
  clear h5
  go_wp2_with fail
  refine (strulesMayBe_any cl nv nt nh bA sA rA tA gA bn bc sn sc rn rc tn tc gn gc rules _ ((HH.out.ru.later HB.out).nest) HH.out.sz.2.2.1 HBG.out.ru).mono ?_
  rintro e w2 ⟨rfl, hb2⟩
  have HBN := Lib.hid (HB.out.trans (hb2.mono HB.out.size))
  have HKN := Lib.hid (HK0.out.below hb2 HK0.out.lt)
  clear hb2 k0 k1 k2 k3 k4 k5 k6 k7 k8 HB HK0
  have HB := HBN
  have HK0 := HKN
  clear HBN HKN
  obtain ⟨k0, k1, k2, k3, k4, k5, k6, k7, k8⟩ := HK0.out.nine
  cases h6 : okPr (okAll 16 (fun a b => ltS a.1 b.1) ruMay rules)
  · have HR : Hid (okS ⟨cl, boxes, subs, rules, tombs, holds, nv, nt, nh⟩ = false) := Lib.hid (by rw [HE.out, H0.out, H1.out, H2.out, H3.out, H4.out, H5.out, h6]; rfl)
    clear h6
    go_wp2_with fail
    go_ret
    exact ⟨by rw [HR.out] <;> rfl, HB.out⟩
  have H6 := Lib.hid h6
  clear h6
  go_wp2_with fail
  refine (sttombsMayBe_any cl nv nt nh bA sA rA tA gA bn bc sn sc rn rc tn tc gn gc tombs _ (HH.out.tb.later_ thStays HB.out) HH.out.sz.2.2.2.1 HBG.out.tb).mono ?_
  rintro e w2 ⟨rfl, hb2⟩
  have HBN := Lib.hid (HB.out.trans (hb2.mono HB.out.size))
  have HKN := Lib.hid (HK0.out.below hb2 HK0.out.lt)
  clear hb2 k0 k1 k2 k3 k4 k5 k6 k7 k8 HB HK0
  have HB := HBN
  have HK0 := HKN
  clear HBN HKN
  obtain ⟨k0, k1, k2, k3, k4, k5, k6, k7, k8⟩ := HK0.out.nine
  cases h7 : okPr (okAll 60 (fun a b => a.id < b.id) (tbMay cl nt) tombs)
  · have HR : Hid (okS ⟨cl, boxes, subs, rules, tombs, holds, nv, nt, nh⟩ = false) := Lib.hid (by rw [HE.out, H0.out, H1.out, H2.out, H3.out, H4.out, H5.out, H6.out, h7]; rfl)
    clear h7
    go_wp2_with fail
    go_ret
    exact ⟨by rw [HR.out] <;> rfl, HB.out⟩
  have H7 := Lib.hid h7
  clear h7
  go_wp2_with fail
  refine (stholdsMayBe_any cl nv nt nh bA sA rA tA gA bn bc sn sc rn rc tn tc gn gc holds _ (HH.out.ho.later_ hhStays HB.out) HH.out.sz.2.2.2.2 HBG.out.ho (HKI.out.below HB.out)).mono ?_
  rintro e w2 ⟨rfl, hb2⟩
  have HBN := Lib.hid (HB.out.trans (hb2.mono HB.out.size))
  have HKN := Lib.hid (HK0.out.below hb2 HK0.out.lt)
  clear hb2 k0 k1 k2 k3 k4 k5 k6 k7 k8 HB HK0
  have HB := HBN
  have HK0 := HKN
  clear HBN HKN
  obtain ⟨k0, k1, k2, k3, k4, k5, k6, k7, k8⟩ := HK0.out.nine
  have HR : Hid (okS ⟨cl, boxes, subs, rules, tombs, holds, nv, nt, nh⟩ = okPr (okAll 16 (fun a b => a.id < b.id) (hoMay nh) holds)) := Lib.hid (by rw [HE.out, H0.out, H1.out, H2.out, H3.out, H4.out, H5.out, H6.out, H7.out]; rfl)
  clear k0 k1 k2 k3 k4 k5 k6 k7 k8
  go_wp2_with fail
  go_ret
  exact ⟨by rw [HR.out] <;> rfl, HB.out⟩
end Go.Proofs.YtbogjfbfgbhdbaaGreatDoor
