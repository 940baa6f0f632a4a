/-
  The laws of package box, as walks: Adds.
-/
import Derived.Test.YthmlgbeonmpbjaaQBoxL
namespace Go.Proofs.Ythmlgbeonmpbjaa
set_option linter.unusedVariables false
set_option linter.unusedSimpArgs false
open Go.RowKit
set_option linter.unusedVariables false
set_option linter.unusedSimpArgs false

theorem small_of {nm : ByteArray} {v nx : Int} {l : List Mg} (h : greatX ⟨nm, v, nx, l⟩ = false) : l.length ≤ 5000 ∧ ∀ m ∈ l, m.body.length ≤ 5000 := by
  have h' : ¬ 5000 < l.length + sizeN l := of_decide_eq_false h
  exact ⟨by omega, fun m hm => by have := sizeN_mem hm; omega⟩
theorem small_6 {l : List Mg} (h : ∀ m ∈ l, m.body.length ≤ 5000) : ∀ m ∈ l, m.body.length ≤ 1000000 := fun m hm => Nat.le_trans (h m hm) (by omega)
theorem small_14 {l : List Mg} (h : ∀ m ∈ l, m.body.length ≤ 5000) : ∀ m ∈ l, m.body.length ≤ 140737488355328 := fun m hm => Nat.le_trans (h m hm) (by omega)
theorem add_len (b : Bx) (m : Mg) : (addB b m).msgs.length ≤ b.msgs.length + 1 := by
  by_cases h : addE b m = 0
  · rw [(addB_ok h).1]; show (b.msgs ++ _).length ≤ _; simp
  · rw [(addB_no h).1]; omega
theorem store_len (b : Bx) (ids : List Int) (mode flags : Int) : (storeB b ids mode flags).msgs.length ≤ b.msgs.length := by
  by_cases h : storeE b ids mode flags = 0
  · rw [storeB_ok h]; show (storeL _ _ _ _).length ≤ _; rw [storeL_len]; exact Nat.le_refl _
  · rw [storeB_no h]; exact Nat.le_refl _
theorem tk_len (b : Bx) (ids : List Int) : (tkB b ids).msgs.length ≤ b.msgs.length ∧ (tkM b ids).length ≤ b.msgs.length := by
  by_cases h : tkE b ids = 0
  · rw [(tkB_ok h).1, (tkB_ok h).2]; exact ⟨left_le _ _, gone_le _ _⟩
  · rw [(tkB_no h).1, (tkB_no h).2]; exact ⟨Nat.le_refl _, by simp⟩
theorem eq_self_bx (b : Bx) : decide (b = b) = true := decide_eq_true rfl

set_option maxRecDepth 20000 in
set_option maxHeartbeats 8000000 in
theorem boxAdds_walk (nm : ByteArray) (v nx : Int) (A : Option Addr) (n c : Nat) (l : List Mg) (u f d : Int) (xA : Option Addr) (xn xc : Nat) (bl : List Nat) (w : World) (hl : MsgsIn w w.heap.size A n l) (hn : n ≤ 140737488355328) (hx : Bytes w w.heap.size xA xn bl) (hxn : xn ≤ 140737488355328) :
    Calls Try.prog 3 #[.agg #[.string nm, .int .i64 v, .int .i64 nx, .slice A n c], .agg #[.int .i64 u, .int .i64 f, .int .i64 d, .slice xA xn xc]] w fun e w' => e = .returned (.bool true) ∧ Below w.heap.size w w' := by
  have hmx : Try.prog.follows .mixedOrders = true := by kernel_rfl
  have hB : Below w.heap.size w ((w.alloc (.cells #[.string nm, .int .i64 v, .int .i64 nx, .slice A n c] 24)).alloc (.cells #[.int .i64 u, .int .i64 f, .int .i64 d, .slice xA xn xc] 27)) := ((Below.refl _ _).alloc (Nat.le_refl _) _).alloc (by simp) _
  have h1 : Bk ((w.alloc (.cells #[.string nm, .int .i64 v, .int .i64 nx, .slice A n c] 24)).alloc (.cells #[.int .i64 u, .int .i64 f, .int .i64 d, .slice xA xn xc] 27)) w.heap.size 24 #[.string nm, .int .i64 v, .int .i64 nx, .slice A n c] := (Bk.new _ _ _).alloc _
  have h2 : Bk ((w.alloc (.cells #[.string nm, .int .i64 v, .int .i64 nx, .slice A n c] 24)).alloc (.cells #[.int .i64 u, .int .i64 f, .int .i64 d, .slice xA xn xc] 27)) (w.heap.size + 1) 27 #[.int .i64 u, .int .i64 f, .int .i64 d, .slice xA xn xc] := Bk.new2 _ _ _ _
  have HL := Lib.hid hl
  have HX := Lib.hid hx
  have HB := Lib.hid hB
  have H1 := Lib.hid h1
  have H2 := Lib.hid h2
  clear hB h1 h2 hl hx
  cases hg : greatX ⟨nm, v, nx, l⟩
  · have HSM := Lib.hid (small_of hg)
    have HG := Lib.hid hg
    clear hg
    by_cases hx5 : 5000 < xn
    · have hx5' : (5000 : Int) < (xn : Int) := by omega
      go_enter Try.func3, Try.ntmps3
      go_wp2_with fail
      refine (alive11_any _).mono ?_
      rintro e w1 ⟨rfl, hb⟩
      have HB1 := Lib.hid (HB.out.trans (hb.mono HB.out.size))
      have H11 := Lib.hid (H1.out.below hb H1.out.lt)
      have H21 := Lib.hid (H2.out.below hb H2.out.lt)
      clear hb
      clear HB H1 H2
      obtain ⟨⟨b0, b1, b2, b3⟩, -, -, -, -⟩ := H11.out.four
      go_wp2_with fail
      refine (great11_any nm v nx A n c l w1 (HL.out.later HB1.out) hn).mono ?_
      rintro e w2 ⟨rfl, hb⟩
      rw [HG.out]
      have HB2 := Lib.hid (HB1.out.trans (hb.mono HB1.out.size))
      have H12 := Lib.hid (H11.out.below hb H11.out.lt)
      have H22 := Lib.hid (H21.out.below hb H21.out.lt)
      clear hb HB1 H11 H21 b0 b1 b2 b3
      obtain ⟨⟨m0, m1, m2, m3⟩, -, -, -, -⟩ := H22.out.four
      go_wp2_with fail
      go_ret
      exact ⟨rfl, HB2.out⟩
    have hx5' : decide ((5000 : Int) < (xn : Int)) = false := decide_eq_false (by omega)
    have hn5 : n ≤ 5000 := by have := HSM.out.1; rw [HL.out.len] at this; exact this
    go_enter Try.func3, Try.ntmps3
    go_wp2_with fail
    refine (alive11_any _).mono ?_
    rintro e w1 ⟨rfl, hb⟩
    have HB1 := Lib.hid (HB.out.trans (hb.mono HB.out.size))
    have H11 := Lib.hid (H1.out.below hb H1.out.lt)
    have H21 := Lib.hid (H2.out.below hb H2.out.lt)
    clear hb
    clear HB H1 H2
    obtain ⟨⟨b0, b1, b2, b3⟩, -, -, -, -⟩ := H11.out.four
    go_wp2_with fail
    refine (great11_any nm v nx A n c l w1 (HL.out.later HB1.out) hn).mono ?_
    rintro e w2 ⟨rfl, hb⟩
    rw [HG.out]
    have HB2 := Lib.hid (HB1.out.trans (hb.mono HB1.out.size))
    have H12 := Lib.hid (H11.out.below hb H11.out.lt)
    have H22 := Lib.hid (H21.out.below hb H21.out.lt)
    clear hb HB1 H11 H21 b0 b1 b2 b3
    obtain ⟨⟨m0, m1, m2, m3⟩, -, -, -, -⟩ := H22.out.four
    obtain ⟨⟨b0, b1, b2, b3⟩, -, -, -, -⟩ := H12.out.four
    go_wp2_with fail
    clear m0 m1 m2 m3 b0 b1 b2 b3
    refine (x11copy_any nm v nx A n c l w2 (HL.out.later HB2.out) (by omega) (small_6 HSM.out.2)).mono ?_
    rintro e w3 ⟨A', c', rfl, ho, hb⟩
    have hba : Below w3.heap.size w3 (w3.alloc (.cells #[.string nm, .int .i64 v, .int .i64 nx, .slice A' n c'] 24)) := (Below.refl _ _).alloc (Nat.le_refl _) _
    have hb' := hb.trans (hba.mono hb.size)
    have HB3 := Lib.hid (HB2.out.trans (hb'.mono HB2.out.size))
    have H13 := Lib.hid (H12.out.below hb' H12.out.lt)
    have H23 := Lib.hid (H22.out.below hb' H22.out.lt)
    have HO3 := Lib.hid ((ho.below hba).msgs (small_14 HSM.out.2))
    have K3 : Hid (Bk (w3.alloc (.cells #[.string nm, .int .i64 v, .int .i64 nx, .slice A' n c'] 24)) w3.heap.size 24 #[.string nm, .int .i64 v, .int .i64 nx, .slice A' n c']) := Lib.hid (Bk.new _ _ _)
    clear hb hba hb' ho HB2 H12 H22
    obtain ⟨⟨m0, m1, m2, m3⟩, -, -, -, -⟩ := H23.out.four
    obtain ⟨⟨k0, k1, k2, k3⟩, -, -, -, -⟩ := K3.out.four
    go_wp2_with fail
    obtain ⟨bo, hbo⟩ : ∃ bo, w3.heap.size = bo := ⟨_, rfl⟩
    rw [hbo] at K3 ⊢
    clear hbo m0 m1 m2 m3 k0 k1 k2 k3
    generalize w3.alloc (.cells #[.string nm, .int .i64 v, .int .i64 nx, .slice A' n c'] 24) = W3 at *
    refine (add_any nm v nx A' n c' l u f d xA xn xc bl W3 HO3.out (by omega) (small_6 HSM.out.2) (HX.out.later HB3.out) hxn).mono ?_
    rintro e w4 ⟨A4, n4, c4, rfl, hm4, hb⟩
    have HLEN := Lib.hid (add_len ⟨nm, v, nx, l⟩ ⟨u, f, d, bl⟩)
    have HADD := Lib.hid (fun (A : Option Addr) (n c : Nat) (w : World) => @x11add_any nm v nx A n c l u f d xA xn xc bl w)
    unfold AddIs at HADD
    generalize addB ⟨nm, v, nx, l⟩ ⟨u, f, d, bl⟩ = bb at *
    generalize addN ⟨nm, v, nx, l⟩ ⟨u, f, d, bl⟩ = kk at *
    generalize addE ⟨nm, v, nx, l⟩ ⟨u, f, d, bl⟩ = ee at *
    obtain ⟨nm2, v2, nx2, l2⟩ := bb
    simp only at hm4 HLEN HADD ⊢
    have hba : Below w4.heap.size w4 (w4.alloc (.cells #[.string nm2, .int .i64 v2, .int .i64 nx2, .slice A4 n4 c4] 24)) := (Below.refl _ _).alloc (Nat.le_refl _) _
    have hb' := hb.trans (hba.mono hb.size)
    have HB4 := Lib.hid (HB3.out.trans (hb'.mono HB3.out.size))
    have H14 := Lib.hid (H13.out.below hb' H13.out.lt)
    have H24 := Lib.hid (H23.out.below hb' H23.out.lt)
    have K34 := Lib.hid (K3.out.below hb' K3.out.lt)
    have HO4 := Lib.hid (HO3.out.later hb')
    have HA4 := Lib.hid (hm4.later hba)
    have K4 : Hid (Bk (w4.alloc (.cells #[.string nm2, .int .i64 v2, .int .i64 nx2, .slice A4 n4 c4] 24)) w4.heap.size 24 #[.string nm2, .int .i64 v2, .int .i64 nx2, .slice A4 n4 c4]) := Lib.hid (Bk.new _ _ _)
    have HN4 : Hid (n4 ≤ 5001) := Lib.hid (by have h1 := hm4.len; have h2 := HLEN.out; have h3 := HL.out.len; (try simp only at h2); omega)
    clear hb hba hb' hm4 HB3 H13 H23 K3 HO3 HLEN
    obtain ⟨⟨m0, m1, m2, m3⟩, -, -, -, -⟩ := H24.out.four
    obtain ⟨⟨b0, b1, b2, b3⟩, -, -, -, -⟩ := H14.out.four
    go_wp2_with fail
    obtain ⟨ba, hba⟩ : ∃ ba, w4.heap.size = ba := ⟨_, rfl⟩
    rw [hba] at K4 ⊢
    clear hba m0 m1 m2 m3 b0 b1 b2 b3
    generalize w4.alloc (.cells #[.string nm2, .int .i64 v2, .int .i64 nx2, .slice A4 n4 c4] 24) = W4 at *
    refine (HADD.out A n c W4 (HL.out.later HB4.out) (by omega) (small_6 HSM.out.2) (HX.out.later HB4.out) hxn).mono ?_
    rintro e w5 ⟨A5, n5, c5, rfl, hm5, hb⟩
    have hba : Below w5.heap.size w5 (w5.alloc (.cells #[.string nm2, .int .i64 v2, .int .i64 nx2, .slice A5 n5 c5] 24)) := (Below.refl _ _).alloc (Nat.le_refl _) _
    have hb' := hb.trans (hba.mono hb.size)
    have HB5 := Lib.hid (HB4.out.trans (hb'.mono HB4.out.size))
    have h15 := H14.out.below hb' H14.out.lt
    have k35 := K34.out.below hb' K34.out.lt
    have k45 := K4.out.below hb' K4.out.lt
    have k5 : Bk (w5.alloc (.cells #[.string nm2, .int .i64 v2, .int .i64 nx2, .slice A5 n5 c5] 24)) w5.heap.size 24 #[.string nm2, .int .i64 v2, .int .i64 nx2, .slice A5 n5 c5] := Bk.new _ _ _
    have HO5 := Lib.hid (HO4.out.later hb')
    have HA5 := Lib.hid (HA4.out.later hb')
    have HC5 := Lib.hid (hm5.later hba)
    have HN5 : Hid (n5 = n4) := Lib.hid (by rw [← hm5.len, HA4.out.len])
    clear hb hba hb' hm5 HB4 H14 H24 K34 K4 HO4 HA4 HADD
    go_wp2_with fail
    obtain ⟨bc, hbc⟩ : ∃ bc, w5.heap.size = bc := ⟨_, rfl⟩
    rw [hbc] at k5 ⊢
    clear hbc
    generalize w5.alloc (.cells #[.string nm2, .int .i64 v2, .int .i64 nx2, .slice A5 n5 c5] 24) = wr at *
    have lb := h15.lt
    have lo := k35.lt
    have la := k45.lt
    have lc := k5.lt
    obtain ⟨⟨b0, b1, b2, b3⟩, -, -, -, -⟩ := h15.four
    obtain ⟨⟨o0, o1, o2, o3⟩, -, -, -, -⟩ := k35.four
    obtain ⟨⟨a0, a1, a2, a3⟩, -, -, -, -⟩ := k45.four
    obtain ⟨⟨c0, c1, c2, c3⟩, -, -, -, -⟩ := k5.four
    clear h15 k35 k45 k5
    refine wp_region_held_drew (S := fun W' => Below wr.heap.size wr W') hmx (Below.refl wr.heap.size wr).drew (fun hHeld => ?_)
    generalize hW0 : wr.drew = W at *
    clear hW0
    simp only [List.size_toArray, List.length_cons, List.length_nil, Nat.reduceAdd]
    obtain ⟨q, hq⟩ : ∃ q, okBx ⟨nm, v, nx, l⟩ = q := ⟨_, rfl⟩
    have HQ := Lib.hid hq
    clear hq
    refine wpAnyH_take (i := 0) (v := .agg #[.string nm2, .int .i64 v2, .int .i64 nx2, .slice A4 n4 c4]) rfl (by kernel_rfl) (by kernel_rfl) (by kernel_rfl) (fun _ _ _ h => h) (Or.inl ⟨by rfl, fun w0 hC => by simp [execOp, Act.eval, Act.put, go_sem, (hC.cell (p := ⟨ba, 0, none⟩) la).trans a0, (hC.cell (p := ⟨ba, 1, none⟩) la).trans a1, (hC.cell (p := ⟨ba, 2, none⟩) la).trans a2, (hC.cell (p := ⟨ba, 3, none⟩) la).trans a3]⟩) hHeld ?_
    try simp only [Act.put, List.setIfInBounds_toArray, List.set_cons_zero, List.set_cons_succ, List.getElem_toArray, List.getElem_cons_zero, List.getElem_cons_succ]
    refine wpAnyH_take (i := 1) (v := .agg #[.string nm2, .int .i64 v2, .int .i64 nx2, .slice A5 n5 c5]) rfl (by kernel_rfl) (by kernel_rfl) (by kernel_rfl) (fun _ _ _ h => h) (Or.inl ⟨by rfl, fun w0 hC => by simp [execOp, Act.eval, Act.put, go_sem, (hC.cell (p := ⟨bc, 0, none⟩) lc).trans c0, (hC.cell (p := ⟨bc, 1, none⟩) lc).trans c1, (hC.cell (p := ⟨bc, 2, none⟩) lc).trans c2, (hC.cell (p := ⟨bc, 3, none⟩) lc).trans c3]⟩) hHeld ?_
    try simp only [Act.put, List.setIfInBounds_toArray, List.set_cons_zero, List.set_cons_succ, List.getElem_toArray, List.getElem_cons_zero, List.getElem_cons_succ]
    refine wpAnyH_ready (rs := [2]) (by kernel_rfl) (by simp) (AllReadyH.cons rfl (fun K hK => ?_) AllReadyH.nil)
    rw [if_pos (by rfl)]
    go_wp2_with fail
    refine (x11same_any nm2 v2 nx2 A4 n4 c4 l2 nm2 v2 nx2 A5 n5 c5 l2 W (HA5.out.later hHeld) (HC5.out.later hHeld) (by have := HN4.out; omega) (by have := HN4.out; have := HN5.out; omega)).mono ?_
    rintro e W2 ⟨rfl, hb2⟩
    rw [eq_self_bx]
    have hS := hHeld.trans (hb2.mono hHeld.size)
    clear hHeld hb2
    refine hK.out _ _ hS (fun hHeld => ?_)
    clear hK K
    try simp only [Act.put, List.setIfInBounds_toArray, List.set_cons_zero, List.set_cons_succ, List.getElem_toArray, List.getElem_cons_zero, List.getElem_cons_succ]
    clear hS
    generalize W2 = W3' at *
    refine wpAnyH_take (i := 3) (v := .bool true) rfl (by kernel_rfl) (by kernel_rfl) (by kernel_rfl) (fun _ _ _ h => h) (Or.inl ⟨by rfl, fun w0 hC => by simp [execOp, Act.eval, Act.put, go_sem]⟩) hHeld ?_
    try simp only [Act.put, List.setIfInBounds_toArray, List.set_cons_zero, List.set_cons_succ, List.getElem_toArray, List.getElem_cons_zero, List.getElem_cons_succ]
    refine wpAnyH_take (i := 4) (v := .int .i64 kk) rfl (by kernel_rfl) (by kernel_rfl) (by kernel_rfl) (fun _ _ _ h => h) (Or.inl ⟨by rfl, fun w0 hC => by simp [execOp, Act.eval, Act.put, go_sem]⟩) hHeld ?_
    try simp only [Act.put, List.setIfInBounds_toArray, List.set_cons_zero, List.set_cons_succ, List.getElem_toArray, List.getElem_cons_zero, List.getElem_cons_succ]
    refine wpAnyH_take (i := 5) (v := .int .i64 kk) rfl (by kernel_rfl) (by kernel_rfl) (by kernel_rfl) (fun _ _ _ h => h) (Or.inl ⟨by rfl, fun w0 hC => by simp [execOp, Act.eval, Act.put, go_sem]⟩) hHeld ?_
    try simp only [Act.put, List.setIfInBounds_toArray, List.set_cons_zero, List.set_cons_succ, List.getElem_toArray, List.getElem_cons_zero, List.getElem_cons_succ]
    refine wpAnyH_take (i := 6) (v := .bool true) rfl (by kernel_rfl) (by kernel_rfl) (by kernel_rfl) (fun _ _ _ h => h) (Or.inl ⟨by rfl, fun w0 hC => by simp [execOp, Act.eval, Act.put, go_sem]⟩) hHeld ?_
    try simp only [Act.put, List.setIfInBounds_toArray, List.set_cons_zero, List.set_cons_succ, List.getElem_toArray, List.getElem_cons_zero, List.getElem_cons_succ]
    refine wpAnyH_take (i := 7) (v := .bool true) rfl (by kernel_rfl) (by kernel_rfl) (by kernel_rfl) (fun _ _ _ h => h) (Or.inl ⟨by rfl, fun w0 hC => by simp [execOp, Act.eval, Act.put, go_sem]⟩) hHeld ?_
    try simp only [Act.put, List.setIfInBounds_toArray, List.set_cons_zero, List.set_cons_succ, List.getElem_toArray, List.getElem_cons_zero, List.getElem_cons_succ]
    refine wpAnyH_take (i := 8) (v := .bool true) rfl (by kernel_rfl) (by kernel_rfl) (by kernel_rfl) (fun _ _ _ h => h) (Or.inl ⟨by rfl, fun w0 hC => by simp [execOp, Act.eval, Act.put, go_sem]⟩) hHeld ?_
    try simp only [Act.put, List.setIfInBounds_toArray, List.set_cons_zero, List.set_cons_succ, List.getElem_toArray, List.getElem_cons_zero, List.getElem_cons_succ]
    refine wpAnyH_take (i := 9) (v := .int .i64 ee) rfl (by kernel_rfl) (by kernel_rfl) (by kernel_rfl) (fun _ _ _ h => h) (Or.inl ⟨by rfl, fun w0 hC => by simp [execOp, Act.eval, Act.put, go_sem]⟩) hHeld ?_
    try simp only [Act.put, List.setIfInBounds_toArray, List.set_cons_zero, List.set_cons_succ, List.getElem_toArray, List.getElem_cons_zero, List.getElem_cons_succ]
    refine wpAnyH_take (i := 10) (v := .int .i64 ee) rfl (by kernel_rfl) (by kernel_rfl) (by kernel_rfl) (fun _ _ _ h => h) (Or.inl ⟨by rfl, fun w0 hC => by simp [execOp, Act.eval, Act.put, go_sem]⟩) hHeld ?_
    try simp only [Act.put, List.setIfInBounds_toArray, List.set_cons_zero, List.set_cons_succ, List.getElem_toArray, List.getElem_cons_zero, List.getElem_cons_succ]
    refine wpAnyH_take (i := 11) (v := .bool true) rfl (by kernel_rfl) (by kernel_rfl) (by kernel_rfl) (fun _ _ _ h => h) (Or.inl ⟨by rfl, fun w0 hC => by simp [execOp, Act.eval, Act.put, go_sem]⟩) hHeld ?_
    try simp only [Act.put, List.setIfInBounds_toArray, List.set_cons_zero, List.set_cons_succ, List.getElem_toArray, List.getElem_cons_zero, List.getElem_cons_succ]
    refine wpAnyH_take (i := 12) (v := .bool true) rfl (by kernel_rfl) (by kernel_rfl) (by kernel_rfl) (fun _ _ _ h => h) (Or.inl ⟨by rfl, fun w0 hC => by simp [execOp, Act.eval, Act.put, go_sem]⟩) hHeld ?_
    try simp only [Act.put, List.setIfInBounds_toArray, List.set_cons_zero, List.set_cons_succ, List.getElem_toArray, List.getElem_cons_zero, List.getElem_cons_succ]
    refine wpAnyH_take (i := 13) (v := .bool true) rfl (by kernel_rfl) (by kernel_rfl) (by kernel_rfl) (fun _ _ _ h => h) (Or.inl ⟨by rfl, fun w0 hC => by simp [execOp, Act.eval, Act.put, go_sem]⟩) hHeld ?_
    try simp only [Act.put, List.setIfInBounds_toArray, List.set_cons_zero, List.set_cons_succ, List.getElem_toArray, List.getElem_cons_zero, List.getElem_cons_succ]
    refine wpAnyH_take (i := 14) (v := .agg #[.string nm, .int .i64 v, .int .i64 nx, .slice A' n c']) rfl (by kernel_rfl) (by kernel_rfl) (by kernel_rfl) (fun _ _ _ h => h) (Or.inl ⟨by rfl, fun w0 hC => by simp [execOp, Act.eval, Act.put, go_sem, (hC.cell (p := ⟨bo, 0, none⟩) lo).trans o0, (hC.cell (p := ⟨bo, 1, none⟩) lo).trans o1, (hC.cell (p := ⟨bo, 2, none⟩) lo).trans o2, (hC.cell (p := ⟨bo, 3, none⟩) lo).trans o3]⟩) hHeld ?_
    try simp only [Act.put, List.setIfInBounds_toArray, List.set_cons_zero, List.set_cons_succ, List.getElem_toArray, List.getElem_cons_zero, List.getElem_cons_succ]
    refine wpAnyH_take (i := 16) (v := .agg #[.string nm, .int .i64 v, .int .i64 nx, .slice A n c]) rfl (by kernel_rfl) (by kernel_rfl) (by kernel_rfl) (fun _ _ _ h => h) (Or.inl ⟨by rfl, fun w0 hC => by simp [execOp, Act.eval, Act.put, go_sem, (hC.cell (p := ⟨w.heap.size, 0, none⟩) lb).trans b0, (hC.cell (p := ⟨w.heap.size, 1, none⟩) lb).trans b1, (hC.cell (p := ⟨w.heap.size, 2, none⟩) lb).trans b2, (hC.cell (p := ⟨w.heap.size, 3, none⟩) lb).trans b3]⟩) hHeld ?_
    try simp only [Act.put, List.setIfInBounds_toArray, List.set_cons_zero, List.set_cons_succ, List.getElem_toArray, List.getElem_cons_zero, List.getElem_cons_succ]
    refine wpAnyH_ready (rs := [15]) (by kernel_rfl) (by simp) (AllReadyH.cons rfl (fun K hK => ?_) AllReadyH.nil)
    rw [if_pos (by rfl)]
    go_wp2_with fail
    refine (right_any nm v nx A' n c' l W3' (HO5.out.later hHeld) (by omega)).mono ?_
    rintro e W2 ⟨rfl, hb2⟩
    rw [HQ.out]
    have hS := hHeld.trans (hb2.mono hHeld.size)
    clear hHeld hb2
    refine hK.out _ _ hS (fun hHeld => ?_)
    clear hK K
    try simp only [Act.put, List.setIfInBounds_toArray, List.set_cons_zero, List.set_cons_succ, List.getElem_toArray, List.getElem_cons_zero, List.getElem_cons_succ]
    clear hS
    generalize W2 = W4' at *
    refine wpAnyH_ready (rs := [17]) (by kernel_rfl) (by simp) (AllReadyH.cons rfl (fun K hK => ?_) AllReadyH.nil)
    rw [if_pos (by rfl)]
    go_wp2_with fail
    refine (x11right_any nm v nx A n c l W4' ((HL.out.later HB5.out).later hHeld) (by omega)).mono ?_
    rintro e W2 ⟨rfl, hb2⟩
    rw [HQ.out]
    have hS := hHeld.trans (hb2.mono hHeld.size)
    clear hHeld hb2
    refine hK.out _ _ hS (fun hHeld => ?_)
    clear hK K
    try simp only [Act.put, List.setIfInBounds_toArray, List.set_cons_zero, List.set_cons_succ, List.getElem_toArray, List.getElem_cons_zero, List.getElem_cons_succ]
    clear hS
    generalize W2 = W5' at *
    refine wpAnyH_take (i := 18) (v := .bool true) rfl (by kernel_rfl) (by kernel_rfl) (by kernel_rfl) (fun _ _ _ h => h) (Or.inl ⟨by rfl, fun w0 hC => by cases q <;> simp [execOp, Act.eval, Act.put, go_sem]⟩) hHeld ?_
    try simp only [Act.put, List.setIfInBounds_toArray, List.set_cons_zero, List.set_cons_succ, List.getElem_toArray, List.getElem_cons_zero, List.getElem_cons_succ]
    refine wpAnyH_take (i := 19) (v := .bool true) rfl (by kernel_rfl) (by kernel_rfl) (by kernel_rfl) (fun _ _ _ h => h) (Or.inl ⟨by rfl, fun w0 hC => by simp [execOp, Act.eval, Act.put, go_sem]⟩) hHeld ?_
    try simp only [Act.put, List.setIfInBounds_toArray, List.set_cons_zero, List.set_cons_succ, List.getElem_toArray, List.getElem_cons_zero, List.getElem_cons_succ]
    refine wpAnyH_take (i := 20) (v := .bool true) rfl (by kernel_rfl) (by kernel_rfl) (by kernel_rfl) (fun _ _ _ h => h) (Or.inl ⟨by rfl, fun w0 hC => by simp [execOp, Act.eval, Act.put, go_sem]⟩) hHeld ?_
    try simp only [Act.put, List.setIfInBounds_toArray, List.set_cons_zero, List.set_cons_succ, List.getElem_toArray, List.getElem_cons_zero, List.getElem_cons_succ]
    refine wpAnyH_take (i := 21) (v := .agg #[.string nm, .int .i64 v, .int .i64 nx, .slice A' n c']) rfl (by kernel_rfl) (by kernel_rfl) (by kernel_rfl) (fun _ _ _ h => h) (Or.inl ⟨by rfl, fun w0 hC => by simp [execOp, Act.eval, Act.put, go_sem, (hC.cell (p := ⟨bo, 0, none⟩) lo).trans o0, (hC.cell (p := ⟨bo, 1, none⟩) lo).trans o1, (hC.cell (p := ⟨bo, 2, none⟩) lo).trans o2, (hC.cell (p := ⟨bo, 3, none⟩) lo).trans o3]⟩) hHeld ?_
    try simp only [Act.put, List.setIfInBounds_toArray, List.set_cons_zero, List.set_cons_succ, List.getElem_toArray, List.getElem_cons_zero, List.getElem_cons_succ]
    refine wpAnyH_take (i := 22) (v := .agg #[.string nm, .int .i64 v, .int .i64 nx, .slice A n c]) rfl (by kernel_rfl) (by kernel_rfl) (by kernel_rfl) (fun _ _ _ h => h) (Or.inl ⟨by rfl, fun w0 hC => by simp [execOp, Act.eval, Act.put, go_sem, (hC.cell (p := ⟨w.heap.size, 0, none⟩) lb).trans b0, (hC.cell (p := ⟨w.heap.size, 1, none⟩) lb).trans b1, (hC.cell (p := ⟨w.heap.size, 2, none⟩) lb).trans b2, (hC.cell (p := ⟨w.heap.size, 3, none⟩) lb).trans b3]⟩) hHeld ?_
    try simp only [Act.put, List.setIfInBounds_toArray, List.set_cons_zero, List.set_cons_succ, List.getElem_toArray, List.getElem_cons_zero, List.getElem_cons_succ]
    refine wpAnyH_ready (rs := [23]) (by kernel_rfl) (by simp) (AllReadyH.cons rfl (fun K hK => ?_) AllReadyH.nil)
    rw [if_pos (by rfl)]
    go_wp2_with fail
    refine (x11same_any nm v nx A' n c' l nm v nx A n c l W5' (HO5.out.later hHeld) ((HL.out.later HB5.out).later hHeld) (by omega) (by omega)).mono ?_
    rintro e W2 ⟨rfl, hb2⟩
    rw [eq_self_bx]
    have hS := hHeld.trans (hb2.mono hHeld.size)
    clear hHeld hb2
    refine hK.out _ _ hS (fun hHeld => ?_)
    clear hK K
    try simp only [Act.put, List.setIfInBounds_toArray, List.set_cons_zero, List.set_cons_succ, List.getElem_toArray, List.getElem_cons_zero, List.getElem_cons_succ]
    clear hS
    generalize W2 = W6' at *
    refine wpAnyH_take (i := 24) (v := .bool true) rfl (by kernel_rfl) (by kernel_rfl) (by kernel_rfl) (fun _ _ _ h => h) (Or.inl ⟨by rfl, fun w0 hC => by simp [execOp, Act.eval, Act.put, go_sem]⟩) hHeld ?_
    try simp only [Act.put, List.setIfInBounds_toArray, List.set_cons_zero, List.set_cons_succ, List.getElem_toArray, List.getElem_cons_zero, List.getElem_cons_succ]
    refine wpAnyH_take (i := 25) (v := .bool true) rfl (by kernel_rfl) (by kernel_rfl) (by kernel_rfl) (fun _ _ _ h => h) (Or.inl ⟨by rfl, fun w0 hC => by simp [execOp, Act.eval, Act.put, go_sem]⟩) hHeld ?_
    try simp only [Act.put, List.setIfInBounds_toArray, List.set_cons_zero, List.set_cons_succ, List.getElem_toArray, List.getElem_cons_zero, List.getElem_cons_succ]
    refine wpAnyH_done (by kernel_rfl) ?_ _
    have HBE := Lib.hid (HB5.out.trans (hHeld.mono HB5.out.size))
    clear hHeld
    go_wp2_with fail
    go_ret
    exact ⟨rfl, HBE.out⟩
  · have HG := Lib.hid hg
    clear hg
    go_enter Try.func3, Try.ntmps3
    go_wp2_with fail
    refine (alive11_any _).mono ?_
    rintro e w1 ⟨rfl, hb⟩
    have HB1 := Lib.hid (HB.out.trans (hb.mono HB.out.size))
    have H11 := Lib.hid (H1.out.below hb H1.out.lt)
    have H21 := Lib.hid (H2.out.below hb H2.out.lt)
    clear hb
    clear HB H1 H2
    obtain ⟨⟨b0, b1, b2, b3⟩, -, -, -, -⟩ := H11.out.four
    go_wp2_with fail
    refine (great11_any nm v nx A n c l w1 (HL.out.later HB1.out) hn).mono ?_
    rintro e w2 ⟨rfl, hb⟩
    rw [HG.out]
    have HB2 := Lib.hid (HB1.out.trans (hb.mono HB1.out.size))
    have H12 := Lib.hid (H11.out.below hb H11.out.lt)
    have H22 := Lib.hid (H21.out.below hb H21.out.lt)
    clear hb HB1 H11 H21 b0 b1 b2 b3
    go_wp2_with fail
    go_ret
    exact ⟨rfl, HB2.out⟩
end Go.Proofs.Ythmlgbeonmpbjaa
