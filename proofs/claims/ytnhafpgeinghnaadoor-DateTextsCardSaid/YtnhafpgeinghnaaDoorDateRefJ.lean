/-
  Contracts over the document's own dates: a short date.
-/
import Derived.Test.YtnhafpgeinghnaaDoorDateRefI
import Derived.Test.YtnhafpgeinghnaaDoorDateRefG
import Derived.Test.YtnhafpgeinghnaaDoorDateDoors
namespace Go.Proofs.YtnhafpgeinghnaaDoor
open Go.RowKit
set_option linter.unusedVariables false
set_option linter.unusedSimpArgs false

theorem ymdR_T {d m y : List Nat} (h : ymdOk d m y = true) : ymdR d m y = .tuple #[.int .i64 (ymdV d m y), .bool true] := if_pos h
theorem ymdR_F {d m y : List Nat} (h : ymdOk d m y = false) : ymdR d m y = .tuple #[.int .i64 0, .bool false] := if_neg (by rw [h]; exact Bool.false_ne_true)
def shortX (l : List Nat) : Int × Int := if 11 < l.length then (0, 3) else shortR l

set_option maxRecDepth 20000 in
set_option maxHeartbeats 8000000 in
theorem x7short_any (s : ByteArray) (hs : s.size ≤ 100000) (w : World) :
    Calls Tryd.prog 11 #[.string s] w fun e w' => e = .returned (resP (shortX (nats s))) ∧ Below w.heap.size w w' := by
  by_cases h11 : 11 < s.size
  · have HR : Hid (shortX (nats s) = (0, 3)) := Lib.hid (by unfold shortX; rw [nats_length, if_pos h11])
    have h11' : (11 : Int) < (s.size : Int) := by omega
    go_enter Tryd.func11, Tryd.ntmps11
    go_wp2_with fail
    go_ret2
    exact ⟨by rw [HR.out] <;> rfl, Below.refl _ _⟩
  have HR : Hid (shortX (nats s) = threeR (splitL 45 (nats s))) := Lib.hid (by unfold shortX; rw [nats_length, if_neg h11]; rfl)
  have h11' : ¬ (11 : Int) < (s.size : Int) := by omega
  have csp := x7split_any s 45 (by omega) hs w
  have hlt := splitL_lt (c := 45) (nats_lt s)
  have hln := splitL_len (c := 45) (l := nats s)
  rw [nats_length] at hln
  obtain ⟨L, hL⟩ : ∃ L, splitL 45 (nats s) = L := ⟨_, rfl⟩
  rw [hL] at csp hlt hln HR
  clear hL
  rcases three_cases L with ⟨p0, p1, p2, rfl⟩ | h3
  · have hz0 : (strOf p0).size ≤ 4294967296 := size_small (Nat.le_trans (hln p0 (by simp)) (by omega))
    have hz1 : (strOf p1).size ≤ 4294967296 := size_small (Nat.le_trans (hln p1 (by simp)) (by omega))
    have hz2 : (strOf p2).size ≤ 4294967296 := size_small (Nat.le_trans (hln p2 (by simp)) (by omega))
    have HN0 := Lib.hid (nats_strOf p0 (hlt p0 (by simp)))
    have HN1 := Lib.hid (nats_strOf p1 (hlt p1 (by simp)))
    have HN2 := Lib.hid (nats_strOf p2 (hlt p2 (by simp)))
    have cy := fun W => x7ymd_any (strOf p0) (strOf p1) (strOf p2) hz0 hz1 hz2 W
    rw [HN0.out, HN1.out, HN2.out] at cy
    clear hlt hln HN0 HN1 HN2 hz0 hz1 hz2
    go_enter Tryd.func11, Tryd.ntmps11
    go_wp2_with fail
    refine csp.mono ?_
    rintro e w1 ⟨A, n, k, rfl, hown, hb⟩
    obtain rfl : n = 3 := by have := hown.len; simpa using this.symm
    obtain ⟨g, rfl, hg1, hg2, hst, hfz, hput⟩ := hown.at_ (by omega)
    have HB := Lib.hid hb
    have hc0 := hst 0 p0 rfl
    have hc1 := hst 1 p1 rfl
    have hc2 := hst 2 p2 rfl
    simp only [Nat.zero_add] at hc0 hc1 hc2
    clear hown hb csp hst hfz hput
    go_wp2_with fail
    have hm : Tryd.prog.follows .mixedOrders = true := by kernel_rfl
    have hgw : g < w1.drew.heap.size := hg2
    refine wp_region_held_drew (S := fun W' => W'.cell? ⟨g, 0, none⟩ = some (.string (strOf p0)) ∧ W'.cell? ⟨g, 1, none⟩ = some (.string (strOf p1)) ∧ W'.cell? ⟨g, 2, none⟩ = some (.string (strOf p2))) hm ⟨hc0, hc1, hc2⟩ (fun hHeld => ?_)
    have HBW := Lib.hid (HB.out.trans ((Below.refl w1.heap.size w1).drew.mono HB.out.size))
    clear HB hc0 hc1 hc2 hg2
    generalize w1.drew = W at *
    simp only [List.size_toArray, List.length_cons, List.length_nil, Nat.reduceAdd]
    refine wpAnyH_take (i := 0) (v := .slice (some ⟨g, 0, none⟩) 3 k) rfl (by kernel_rfl) (by kernel_rfl) (by kernel_rfl) (fun _ _ _ h => h) (Or.inl ⟨by rfl, fun w0 hC => by simp [execOp, Act.eval, Act.put, go_sem]⟩) hHeld ?_
    try simp only [Act.put, List.setIfInBounds_toArray, List.set_cons_zero, List.set_cons_succ, List.getElem_toArray, List.getElem_cons_zero, List.getElem_cons_succ]
    refine wpAnyH_take (i := 1) (v := .pointer (some ⟨g, 0, none⟩)) rfl (by kernel_rfl) (by kernel_rfl) (by kernel_rfl) (fun _ _ _ h => h) (Or.inl ⟨by rfl, fun w0 hC => by simp [execOp, Act.eval, Act.put, go_sem]⟩) hHeld ?_
    try simp only [Act.put, List.setIfInBounds_toArray, List.set_cons_zero, List.set_cons_succ, List.getElem_toArray, List.getElem_cons_zero, List.getElem_cons_succ]
    refine wpAnyH_take (i := 2) (v := .string (strOf p0)) rfl (by kernel_rfl) (by kernel_rfl) (by kernel_rfl) (fun _ _ _ h => h) (Or.inl ⟨by rfl, fun w0 hC => by simp [execOp, Act.eval, Act.put, go_sem, hC.1]⟩) hHeld ?_
    try simp only [Act.put, List.setIfInBounds_toArray, List.set_cons_zero, List.set_cons_succ, List.getElem_toArray, List.getElem_cons_zero, List.getElem_cons_succ]
    refine wpAnyH_take (i := 3) (v := .slice (some ⟨g, 0, none⟩) 3 k) rfl (by kernel_rfl) (by kernel_rfl) (by kernel_rfl) (fun _ _ _ h => h) (Or.inl ⟨by rfl, fun w0 hC => by simp [execOp, Act.eval, Act.put, go_sem]⟩) hHeld ?_
    try simp only [Act.put, List.setIfInBounds_toArray, List.set_cons_zero, List.set_cons_succ, List.getElem_toArray, List.getElem_cons_zero, List.getElem_cons_succ]
    refine wpAnyH_take (i := 4) (v := .pointer (some ⟨g, 1, none⟩)) rfl (by kernel_rfl) (by kernel_rfl) (by kernel_rfl) (fun _ _ _ h => h) (Or.inl ⟨by rfl, fun w0 hC => by simp [execOp, Act.eval, Act.put, go_sem]⟩) hHeld ?_
    try simp only [Act.put, List.setIfInBounds_toArray, List.set_cons_zero, List.set_cons_succ, List.getElem_toArray, List.getElem_cons_zero, List.getElem_cons_succ]
    refine wpAnyH_take (i := 5) (v := .string (strOf p1)) rfl (by kernel_rfl) (by kernel_rfl) (by kernel_rfl) (fun _ _ _ h => h) (Or.inl ⟨by rfl, fun w0 hC => by simp [execOp, Act.eval, Act.put, go_sem, hC.2.1]⟩) hHeld ?_
    try simp only [Act.put, List.setIfInBounds_toArray, List.set_cons_zero, List.set_cons_succ, List.getElem_toArray, List.getElem_cons_zero, List.getElem_cons_succ]
    refine wpAnyH_take (i := 6) (v := .slice (some ⟨g, 0, none⟩) 3 k) rfl (by kernel_rfl) (by kernel_rfl) (by kernel_rfl) (fun _ _ _ h => h) (Or.inl ⟨by rfl, fun w0 hC => by simp [execOp, Act.eval, Act.put, go_sem]⟩) hHeld ?_
    try simp only [Act.put, List.setIfInBounds_toArray, List.set_cons_zero, List.set_cons_succ, List.getElem_toArray, List.getElem_cons_zero, List.getElem_cons_succ]
    refine wpAnyH_take (i := 7) (v := .pointer (some ⟨g, 2, none⟩)) rfl (by kernel_rfl) (by kernel_rfl) (by kernel_rfl) (fun _ _ _ h => h) (Or.inl ⟨by rfl, fun w0 hC => by simp [execOp, Act.eval, Act.put, go_sem]⟩) hHeld ?_
    try simp only [Act.put, List.setIfInBounds_toArray, List.set_cons_zero, List.set_cons_succ, List.getElem_toArray, List.getElem_cons_zero, List.getElem_cons_succ]
    refine wpAnyH_take (i := 8) (v := .string (strOf p2)) rfl (by kernel_rfl) (by kernel_rfl) (by kernel_rfl) (fun _ _ _ h => h) (Or.inl ⟨by rfl, fun w0 hC => by simp [execOp, Act.eval, Act.put, go_sem, hC.2.2]⟩) hHeld ?_
    try simp only [Act.put, List.setIfInBounds_toArray, List.set_cons_zero, List.set_cons_succ, List.getElem_toArray, List.getElem_cons_zero, List.getElem_cons_succ]
    refine wpAnyH_ready (rs := [9]) (by kernel_rfl) (by simp) (AllReadyH.cons rfl (fun K hK => ?_) AllReadyH.nil)
    rw [if_pos (by rfl)]
    go_wp2_with fail
    refine (cy W).mono ?_
    rintro e W2 ⟨rfl, hb2⟩
    have hS : _ ∧ _ ∧ _ := And.intro ((hb2.cell (p := ⟨g, 0, none⟩) hgw).trans hHeld.1) (And.intro ((hb2.cell (p := ⟨g, 1, none⟩) hgw).trans hHeld.2.1) ((hb2.cell (p := ⟨g, 2, none⟩) hgw).trans hHeld.2.2))
    have HB2 := Lib.hid (HBW.out.trans (hb2.mono HBW.out.size))
    clear hb2 HBW hHeld cy
    refine hK.out _ _ hS (fun hHeld => ?_)
    clear hK K
    try simp only [Act.put, List.setIfInBounds_toArray, List.set_cons_zero, List.set_cons_succ, List.getElem_toArray, List.getElem_cons_zero, List.getElem_cons_succ]
    clear hS
    have HT : Hid (threeR [p0, p1, p2] = if ymdOk p0 p1 p2 = true ∧ 0 ≤ ymdV p0 p1 p2 then (ymdV p0 p1 p2, 0) else (0, 3)) := Lib.hid rfl
    cases hok : ymdOk p0 p1 p2
    · rw [ymdR_F hok]
      have HOK := Lib.hid hok
      clear hok
      refine wpAnyH_take (i := 10) (v := .tuple #[.int .i64 0, .bool false]) rfl (by kernel_rfl) (by kernel_rfl) (by kernel_rfl) (fun _ _ _ h => h) (Or.inl ⟨by rfl, fun w0 hC => by simp [execOp, Act.eval, Act.put, go_sem]⟩) hHeld ?_
      try simp only [Act.put, List.setIfInBounds_toArray, List.set_cons_zero, List.set_cons_succ, List.getElem_toArray, List.getElem_cons_zero, List.getElem_cons_succ]
      refine wpAnyH_take (i := 11) (v := .int .i64 0) rfl (by kernel_rfl) (by kernel_rfl) (by kernel_rfl) (fun _ _ _ h => h) (Or.inl ⟨by rfl, fun w0 hC => by simp [execOp, Act.eval, Act.put, go_sem]⟩) hHeld ?_
      try simp only [Act.put, List.setIfInBounds_toArray, List.set_cons_zero, List.set_cons_succ, List.getElem_toArray, List.getElem_cons_zero, List.getElem_cons_succ]
      refine wpAnyH_take (i := 12) (v := .bool false) rfl (by kernel_rfl) (by kernel_rfl) (by kernel_rfl) (fun _ _ _ h => h) (Or.inl ⟨by rfl, fun w0 hC => by simp [execOp, Act.eval, Act.put, go_sem]⟩) hHeld ?_
      try simp only [Act.put, List.setIfInBounds_toArray, List.set_cons_zero, List.set_cons_succ, List.getElem_toArray, List.getElem_cons_zero, List.getElem_cons_succ]
      refine wpAnyH_take (i := 13) (v := .int .i64 0) rfl (by kernel_rfl) (by kernel_rfl) (by kernel_rfl) (fun _ _ _ h => h) (Or.inl ⟨by rfl, fun w0 hC => by simp [execOp, Act.eval, Act.put, go_sem]⟩) hHeld ?_
      try simp only [Act.put, List.setIfInBounds_toArray, List.set_cons_zero, List.set_cons_succ, List.getElem_toArray, List.getElem_cons_zero, List.getElem_cons_succ]
      refine wpAnyH_take (i := 14) (v := .bool false) rfl (by kernel_rfl) (by kernel_rfl) (by kernel_rfl) (fun _ _ _ h => h) (Or.inl ⟨by rfl, fun w0 hC => by simp [execOp, Act.eval, Act.put, go_sem]⟩) hHeld ?_
      try simp only [Act.put, List.setIfInBounds_toArray, List.set_cons_zero, List.set_cons_succ, List.getElem_toArray, List.getElem_cons_zero, List.getElem_cons_succ]
      refine wpAnyH_done (by kernel_rfl) ?_ _
      clear hHeld
      go_wp2_with fail
      go_ret2
      exact ⟨by rw [HR.out, HT.out, if_neg (fun h => by rw [HOK.out] at h; exact Bool.false_ne_true h.1)] <;> rfl, HB2.out⟩
    · rw [ymdR_T hok]
      have HOK := Lib.hid hok
      clear hok
      obtain ⟨z, hz⟩ : ∃ z, ymdV p0 p1 p2 = z := ⟨_, rfl⟩
      rw [hz] at HT ⊢
      clear hz
      refine wpAnyH_take (i := 10) (v := .tuple #[.int .i64 z, .bool true]) rfl (by kernel_rfl) (by kernel_rfl) (by kernel_rfl) (fun _ _ _ h => h) (Or.inl ⟨by rfl, fun w0 hC => by simp [execOp, Act.eval, Act.put, go_sem]⟩) hHeld ?_
      try simp only [Act.put, List.setIfInBounds_toArray, List.set_cons_zero, List.set_cons_succ, List.getElem_toArray, List.getElem_cons_zero, List.getElem_cons_succ]
      refine wpAnyH_take (i := 11) (v := .int .i64 z) rfl (by kernel_rfl) (by kernel_rfl) (by kernel_rfl) (fun _ _ _ h => h) (Or.inl ⟨by rfl, fun w0 hC => by simp [execOp, Act.eval, Act.put, go_sem]⟩) hHeld ?_
      try simp only [Act.put, List.setIfInBounds_toArray, List.set_cons_zero, List.set_cons_succ, List.getElem_toArray, List.getElem_cons_zero, List.getElem_cons_succ]
      refine wpAnyH_take (i := 12) (v := .bool true) rfl (by kernel_rfl) (by kernel_rfl) (by kernel_rfl) (fun _ _ _ h => h) (Or.inl ⟨by rfl, fun w0 hC => by simp [execOp, Act.eval, Act.put, go_sem]⟩) hHeld ?_
      try simp only [Act.put, List.setIfInBounds_toArray, List.set_cons_zero, List.set_cons_succ, List.getElem_toArray, List.getElem_cons_zero, List.getElem_cons_succ]
      refine wpAnyH_take (i := 13) (v := .int .i64 z) rfl (by kernel_rfl) (by kernel_rfl) (by kernel_rfl) (fun _ _ _ h => h) (Or.inl ⟨by rfl, fun w0 hC => by simp [execOp, Act.eval, Act.put, go_sem]⟩) hHeld ?_
      try simp only [Act.put, List.setIfInBounds_toArray, List.set_cons_zero, List.set_cons_succ, List.getElem_toArray, List.getElem_cons_zero, List.getElem_cons_succ]
      refine wpAnyH_take (i := 14) (v := .bool true) rfl (by kernel_rfl) (by kernel_rfl) (by kernel_rfl) (fun _ _ _ h => h) (Or.inl ⟨by rfl, fun w0 hC => by simp [execOp, Act.eval, Act.put, go_sem]⟩) hHeld ?_
      try simp only [Act.put, List.setIfInBounds_toArray, List.set_cons_zero, List.set_cons_succ, List.getElem_toArray, List.getElem_cons_zero, List.getElem_cons_succ]
      refine wpAnyH_done (by kernel_rfl) ?_ _
      clear hHeld
      by_cases h0 : z < 0
      · go_wp2_with fail
        go_ret2
        exact ⟨by rw [HR.out, HT.out, if_neg (fun h => by omega)] <;> rfl, HB2.out⟩
      · have h0' : 0 ≤ z := by omega
        go_wp2_with fail
        go_ret2
        exact ⟨by rw [HR.out, HT.out, if_pos ⟨HOK.out, h0'⟩] <;> rfl, HB2.out⟩
  · have HT : Hid (threeR L = (0, 3)) := Lib.hid (threeR_no h3)
    go_enter Tryd.func11, Tryd.ntmps11
    go_wp2_with fail
    refine csp.mono ?_
    rintro e w1 ⟨A, n, k, rfl, hown, hb⟩
    have hn3 : (n : Int) ≠ 3 := by have := hown.len; omega
    have HB := Lib.hid hb
    clear hown hb csp
    go_wp2_with fail
    go_ret2
    exact ⟨by rw [HR.out, HT.out] <;> rfl, HB.out⟩
end Go.Proofs.YtnhafpgeinghnaaDoor
