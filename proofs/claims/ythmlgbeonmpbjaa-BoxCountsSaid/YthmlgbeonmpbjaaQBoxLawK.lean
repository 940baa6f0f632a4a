/-
  The laws of package box, as walks: Asks.
-/
import Derived.Test.YthmlgbeonmpbjaaQBoxLawA
namespace Go.Proofs.Ythmlgbeonmpbjaa
set_option linter.unusedVariables false
set_option linter.unusedSimpArgs false
open Go.RowKit
set_option linter.unusedVariables false
set_option linter.unusedSimpArgs false

set_option maxRecDepth 20000 in
set_option maxHeartbeats 16000000 in
theorem boxAsks_walk (nm : ByteArray) (v nx : Int) (A : Option Addr) (n c : Nat) (l : List Mg) (nm' : ByteArray) (v' nx' : Int) (A' : Option Addr) (n' c' : Nat) (l' : List Mg) (x0 x1 : Int) (w : World) (hl : MsgsIn w w.heap.size A n l) (hn : n ≤ 140737488355328) (hl' : MsgsIn w w.heap.size A' n' l') (hn' : n' ≤ 140737488355328) :
    Calls Try.prog 5 #[.agg #[.string nm, .int .i64 v, .int .i64 nx, .slice A n c], .agg #[.string nm', .int .i64 v', .int .i64 nx', .slice A' n' c'], .agg #[.int .i64 x0, .int .i64 x1]] w fun e w' => e = .returned (.bool true) ∧ Below w.heap.size w w' := by
  have hmx : Try.prog.follows .mixedOrders = true := by kernel_rfl
  have hB : Below w.heap.size w (((w.alloc (.cells #[.string nm, .int .i64 v, .int .i64 nx, .slice A n c] 24)).alloc (.cells #[.string nm', .int .i64 v', .int .i64 nx', .slice A' n' c'] 24)).alloc (.cells #[.int .i64 x0, .int .i64 x1] 37)) := (((Below.refl _ _).alloc (Nat.le_refl _) _).alloc (by simp) _).alloc (by simp; omega) _
  have h1 : Bk (((w.alloc (.cells #[.string nm, .int .i64 v, .int .i64 nx, .slice A n c] 24)).alloc (.cells #[.string nm', .int .i64 v', .int .i64 nx', .slice A' n' c'] 24)).alloc (.cells #[.int .i64 x0, .int .i64 x1] 37)) w.heap.size 24 #[.string nm, .int .i64 v, .int .i64 nx, .slice A n c] := ((Bk.new _ _ _).alloc _).alloc _
  have h2 : Bk (((w.alloc (.cells #[.string nm, .int .i64 v, .int .i64 nx, .slice A n c] 24)).alloc (.cells #[.string nm', .int .i64 v', .int .i64 nx', .slice A' n' c'] 24)).alloc (.cells #[.int .i64 x0, .int .i64 x1] 37)) (w.heap.size + 1) 24 #[.string nm', .int .i64 v', .int .i64 nx', .slice A' n' c'] := (Bk.new2 _ _ _ _).alloc _
  have h3 : Bk (((w.alloc (.cells #[.string nm, .int .i64 v, .int .i64 nx, .slice A n c] 24)).alloc (.cells #[.string nm', .int .i64 v', .int .i64 nx', .slice A' n' c'] 24)).alloc (.cells #[.int .i64 x0, .int .i64 x1] 37)) (w.heap.size + 1 + 1) 37 #[.int .i64 x0, .int .i64 x1] := Bk.new3 _ _ _ _ _
  have HL := Lib.hid hl
  have HL' := Lib.hid hl'
  have HB := Lib.hid hB
  have H1 := Lib.hid h1
  have H2 := Lib.hid h2
  have H3 := Lib.hid h3
  clear hB h1 h2 h3 hl hl'
  cases hg : greatX ⟨nm, v, nx, l⟩
  · have HSM := Lib.hid (small_of hg)
    have HG := Lib.hid hg
    clear hg
    cases hg' : greatX ⟨nm', v', nx', l'⟩
    · have HSM' := Lib.hid (small_of hg')
      have HG' := Lib.hid hg'
      clear hg'
      have hn5 : n ≤ 5000 := by have := HSM.out.1; rw [HL.out.len] at this; exact this
      have hn5' : n' ≤ 5000 := by have := HSM'.out.1; rw [HL'.out.len] at this; exact this
      go_enter Try.func5, Try.ntmps5
      go_wp2_with fail
      refine (alive11_any _).mono ?_
      rintro e w1 ⟨rfl, hb⟩
      have HB_1 := Lib.hid (HB.out.trans (hb.mono HB.out.size))
      have H1_1 := Lib.hid (H1.out.below hb H1.out.lt)
      have H2_1 := Lib.hid (H2.out.below hb H2.out.lt)
      have H3_1 := Lib.hid (H3.out.below hb H3.out.lt)
      clear hb HB H1 H2 H3
      obtain ⟨⟨b0, b1, b2, b3⟩, -, -, -, -⟩ := H1_1.out.four
      go_wp2_with fail
      clear b0 b1 b2 b3
      refine (great11_any nm v nx A n c l w1 (HL.out.later HB_1.out) hn).mono ?_
      rintro e w2 ⟨rfl, hb⟩
      rw [HG.out]
      have HB_2 := Lib.hid (HB_1.out.trans (hb.mono HB_1.out.size))
      have H1_2 := Lib.hid (H1_1.out.below hb H1_1.out.lt)
      have H2_2 := Lib.hid (H2_1.out.below hb H2_1.out.lt)
      have H3_2 := Lib.hid (H3_1.out.below hb H3_1.out.lt)
      clear hb HB_1 H1_1 H2_1 H3_1
      obtain ⟨⟨b0, b1, b2, b3⟩, -, -, -, -⟩ := H2_2.out.four
      go_wp2_with fail
      clear b0 b1 b2 b3
      refine (great11_any nm' v' nx' A' n' c' l' w2 (HL'.out.later HB_2.out) hn').mono ?_
      rintro e w3 ⟨rfl, hb⟩
      rw [HG'.out]
      have HB_3 := Lib.hid (HB_2.out.trans (hb.mono HB_2.out.size))
      have H1_3 := Lib.hid (H1_2.out.below hb H1_2.out.lt)
      have H2_3 := Lib.hid (H2_2.out.below hb H2_2.out.lt)
      have H3_3 := Lib.hid (H3_2.out.below hb H3_2.out.lt)
      clear hb HB_2 H1_2 H2_2 H3_2
      obtain ⟨⟨b0, b1, b2, b3⟩, -, -, -, -⟩ := H1_3.out.four
      have t0 := H3_3.out.cell 0
      go_wp2_with fail
      clear b0 b1 b2 b3 t0
      obtain ⟨fm, hfm⟩ : ∃ fm, findM l x0 = fm := ⟨_, rfl⟩
      obtain ⟨fq, hfq⟩ : ∃ fq, decide (placeN l x0 ≠ 0) = fq := ⟨_, rfl⟩
      have hF := find_any nm v nx x0 A n c l w3 (HL.out.later HB_3.out) (by omega) (small_6 HSM.out.2)
      unfold FindIs at hF
      rw [hfm, hfq] at hF
      refine hF.mono ?_
      rintro e w4 ⟨A7, n7, c7, rfl, hm, hb⟩
      have hba : Below w4.heap.size w4 (w4.alloc (.cells #[.int .i64 fm.uid, .int .i64 fm.flags, .int .i64 fm.date, .slice A7 n7 c7] 27)) := (Below.refl _ _).alloc (Nat.le_refl _) _
      have hb' := hb.trans (hba.mono hb.size)
      have HB_4 := Lib.hid (HB_3.out.trans (hb'.mono HB_3.out.size))
      have H1_4 := Lib.hid (H1_3.out.below hb' H1_3.out.lt)
      have H2_4 := Lib.hid (H2_3.out.below hb' H2_3.out.lt)
      have H3_4 := Lib.hid (H3_3.out.below hb' H3_3.out.lt)
      have K7_4 : Hid (Bk (w4.alloc (.cells #[.int .i64 fm.uid, .int .i64 fm.flags, .int .i64 fm.date, .slice A7 n7 c7] 27)) w4.heap.size 27 #[.int .i64 fm.uid, .int .i64 fm.flags, .int .i64 fm.date, .slice A7 n7 c7]) := Lib.hid (Bk.new _ _ _)
      have L7_4 := Lib.hid (hm.later hba)
      clear hb hba hb' hm hF HB_3 H1_3 H2_3 H3_3 
      obtain ⟨⟨b0, b1, b2, b3⟩, -, -, -, -⟩ := H1_4.out.four
      have t0 := H3_4.out.cell 0
      have HFM0 := Lib.hid hfm
      have HFQ0 := Lib.hid hfq
      clear hfm hfq
      go_wp2_with fail
      have hfm := HFM0.out
      have hfq := HFQ0.out
      clear HFM0 HFQ0
      obtain ⟨b7, hbo⟩ : ∃ q, w4.heap.size = q := ⟨_, rfl⟩
      try rw [hbo] at K7_4
      try rw [hbo]
      clear hbo b0 b1 b2 b3 t0
      generalize w4.alloc (.cells #[.int .i64 fm.uid, .int .i64 fm.flags, .int .i64 fm.date, .slice A7 n7 c7] 27) = W4 at *
      have hF := x11find_any nm v nx x0 A n c l W4 (HL.out.later HB_4.out) (by omega) (small_6 HSM.out.2)
      unfold FindIs at hF
      rw [hfm, hfq] at hF
      refine hF.mono ?_
      rintro e w4 ⟨A9, n9, c9, rfl, hm, hb⟩
      have hba : Below w4.heap.size w4 (w4.alloc (.cells #[.int .i64 fm.uid, .int .i64 fm.flags, .int .i64 fm.date, .slice A9 n9 c9] 27)) := (Below.refl _ _).alloc (Nat.le_refl _) _
      have hb' := hb.trans (hba.mono hb.size)
      have HB_5 := Lib.hid (HB_4.out.trans (hb'.mono HB_4.out.size))
      have H1_5 := Lib.hid (H1_4.out.below hb' H1_4.out.lt)
      have H2_5 := Lib.hid (H2_4.out.below hb' H2_4.out.lt)
      have H3_5 := Lib.hid (H3_4.out.below hb' H3_4.out.lt)
      have K7_5 := Lib.hid (K7_4.out.below hb' K7_4.out.lt)
      have L7_5 := Lib.hid (L7_4.out.later hb')
      have K9_5 : Hid (Bk (w4.alloc (.cells #[.int .i64 fm.uid, .int .i64 fm.flags, .int .i64 fm.date, .slice A9 n9 c9] 27)) w4.heap.size 27 #[.int .i64 fm.uid, .int .i64 fm.flags, .int .i64 fm.date, .slice A9 n9 c9]) := Lib.hid (Bk.new _ _ _)
      have L9_5 := Lib.hid (hm.later hba)
      clear hb hba hb' hm hF HB_4 H1_4 H2_4 H3_4 K7_4 L7_4
      obtain ⟨⟨b0, b1, b2, b3⟩, -, -, -, -⟩ := H1_5.out.four
      have t0 := H3_5.out.cell 0
      have HFM := Lib.hid hfm
      have HFQ := Lib.hid hfq
      clear hfm hfq
      go_wp2_with fail
      obtain ⟨b9, hbo⟩ : ∃ q, w4.heap.size = q := ⟨_, rfl⟩
      try rw [hbo] at K9_5
      try rw [hbo]
      clear hbo b0 b1 b2 b3 t0
      generalize w4.alloc (.cells #[.int .i64 fm.uid, .int .i64 fm.flags, .int .i64 fm.date, .slice A9 n9 c9] 27) = W5 at *
      refine (copy_any nm v nx A n c l W5 (HL.out.later HB_5.out) (by omega) (small_6 HSM.out.2)).mono ?_
      rintro e w6 ⟨A2, c2, rfl, ho, hb⟩
      have hba : Below w6.heap.size w6 (w6.alloc (.cells #[.string nm, .int .i64 v, .int .i64 nx, .slice A2 n c2] 24)) := (Below.refl _ _).alloc (Nat.le_refl _) _
      have hb' := hb.trans (hba.mono hb.size)
      have HB_6 := Lib.hid (HB_5.out.trans (hb'.mono HB_5.out.size))
      have H1_6 := Lib.hid (H1_5.out.below hb' H1_5.out.lt)
      have H2_6 := Lib.hid (H2_5.out.below hb' H2_5.out.lt)
      have H3_6 := Lib.hid (H3_5.out.below hb' H3_5.out.lt)
      have k7 := K7_5.out.below hb' K7_5.out.lt
      have k9 := K9_5.out.below hb' K9_5.out.lt
      have kc : Bk (w6.alloc (.cells #[.string nm, .int .i64 v, .int .i64 nx, .slice A2 n c2] 24)) w6.heap.size 24 #[.string nm, .int .i64 v, .int .i64 nx, .slice A2 n c2] := Bk.new _ _ _
      have L7 := Lib.hid (L7_5.out.later hb')
      have L9 := Lib.hid (L9_5.out.later hb')
      have LC := Lib.hid ((ho.below hba).msgs (small_14 HSM.out.2))
      clear hb hba hb' ho HB_5 H1_5 H2_5 H3_5 K7_5 K9_5 L7_5 L9_5
      go_wp2_with fail
      obtain ⟨bc, hbo⟩ : ∃ q, w6.heap.size = q := ⟨_, rfl⟩
      try rw [hbo] at kc
      try rw [hbo]
      clear hbo
      generalize w6.alloc (.cells #[.string nm, .int .i64 v, .int .i64 nx, .slice A2 n c2] 24) = wr at *
      have h1 := H1_6.out
      have h2 := H2_6.out
      have t0 := H3_6.out.cell 0
      have t1 := H3_6.out.cell 1
      have lt := H3_6.out.lt
      have la := h1.lt
      obtain ⟨⟨a0, a1, a2, a3⟩, -, -, -, -⟩ := h1.four
      have lb := h2.lt
      obtain ⟨⟨b0, b1, b2, b3⟩, -, -, -, -⟩ := h2.four
      have lf := k7.lt
      obtain ⟨⟨f0, f1, f2, f3⟩, -, -, -, -⟩ := k7.four
      have lg := k9.lt
      obtain ⟨⟨g0, g1, g2, g3⟩, -, -, -, -⟩ := k9.four
      have lk := kc.lt
      obtain ⟨⟨k0, k1, k2, k3⟩, -, -, -, -⟩ := kc.four
      clear h1 h2 k7 k9 kc
      have LA := Lib.hid (HL.out.later HB_6.out)
      have LB := Lib.hid (HL'.out.later HB_6.out)
      obtain ⟨pq, hpq⟩ : ∃ q, placeN l x0 = q := ⟨_, rfl⟩
      have HPQ := Lib.hid hpq
      obtain ⟨cq, hcq⟩ : ∃ q, cntN l x1 = q := ⟨_, rfl⟩
      have HCQ := Lib.hid hcq
      obtain ⟨sq, hsq⟩ : ∃ q, decide ((⟨nm, v, nx, l⟩ : Bx) = ⟨nm', v', nx', l'⟩) = q := ⟨_, rfl⟩
      have HSQ := Lib.hid hsq
      clear hpq hcq hsq
      obtain ⟨fu, ff, fd, fb⟩ := fm
      simp only at f0 f1 f2 f3 g0 g1 g2 g3 L7 L9 ⊢
      refine wp_region_held_drew (S := fun W' => Below wr.heap.size wr W') hmx (Below.refl wr.heap.size wr).drew (fun hHeld => ?_)
      generalize hW0 : wr.drew = W at *
      clear hW0
      simp only [List.size_toArray, List.length_cons, List.length_nil, Nat.reduceAdd]
      refine wpAnyH_take (i := 0) (v := .agg #[.int .i64 fu, .int .i64 ff, .int .i64 fd, .slice A7 n7 c7]) rfl (by kernel_rfl) (by kernel_rfl) (by kernel_rfl) (fun _ _ _ h => h) (Or.inl ⟨by rfl, fun w0 hC => by simp [execOp, Act.eval, Act.put, go_sem, (hC.cell (p := ⟨b7, 0, none⟩) lf).trans f0, (hC.cell (p := ⟨b7, 1, none⟩) lf).trans f1, (hC.cell (p := ⟨b7, 2, none⟩) lf).trans f2, (hC.cell (p := ⟨b7, 3, none⟩) lf).trans f3]⟩) hHeld ?_
      try simp only [Act.put, List.setIfInBounds_toArray, List.set_cons_zero, List.set_cons_succ, List.getElem_toArray, List.getElem_cons_zero, List.getElem_cons_succ]
      refine wpAnyH_take (i := 1) (v := .agg #[.int .i64 fu, .int .i64 ff, .int .i64 fd, .slice A9 n9 c9]) rfl (by kernel_rfl) (by kernel_rfl) (by kernel_rfl) (fun _ _ _ h => h) (Or.inl ⟨by rfl, fun w0 hC => by simp [execOp, Act.eval, Act.put, go_sem, (hC.cell (p := ⟨b9, 0, none⟩) lg).trans g0, (hC.cell (p := ⟨b9, 1, none⟩) lg).trans g1, (hC.cell (p := ⟨b9, 2, none⟩) lg).trans g2, (hC.cell (p := ⟨b9, 3, none⟩) lg).trans g3]⟩) hHeld ?_
      try simp only [Act.put, List.setIfInBounds_toArray, List.set_cons_zero, List.set_cons_succ, List.getElem_toArray, List.getElem_cons_zero, List.getElem_cons_succ]
      refine wpAnyH_ready (rs := [2]) (by kernel_rfl) (by simp) (AllReadyH.cons rfl (fun K hK => ?_) AllReadyH.nil)
      rw [if_pos (by rfl)]
      go_wp2_with fail
      refine (x11sameMsg_any fu ff fd A7 n7 c7 fb fu ff fd A9 n9 c9 fb W (L7.out.later hHeld) (L9.out.later hHeld)).mono ?_
      rintro e W2 ⟨rfl, hw2⟩
      rw [show decide ((⟨fu, ff, fd, fb⟩ : Mg) = ⟨fu, ff, fd, fb⟩) = true from decide_eq_true rfl]
      have hb2 : Below W.heap.size W W2 := by rw [hw2]; exact ((Below.refl _ _).alloc (Nat.le_refl _) _).alloc (by simp) _
      clear hw2
      have hS := hHeld.trans (hb2.mono hHeld.size)
      clear hHeld hb2
      refine hK.out _ _ hS (fun hHeld => ?_)
      clear hK K
      try simp only [Act.put, List.setIfInBounds_toArray, List.set_cons_zero, List.set_cons_succ, List.getElem_toArray, List.getElem_cons_zero, List.getElem_cons_succ]
      clear hS
      generalize W2 = W1a at *
      refine wpAnyH_take (i := 3) (v := .bool true) rfl (by kernel_rfl) (by kernel_rfl) (by kernel_rfl) (fun _ _ _ h => h) (Or.inl ⟨by rfl, fun w0 hC => by simp [execOp, Act.eval, Act.put, go_sem]⟩) hHeld ?_
      try simp only [Act.put, List.setIfInBounds_toArray, List.set_cons_zero, List.set_cons_succ, List.getElem_toArray, List.getElem_cons_zero, List.getElem_cons_succ]
      refine wpAnyH_take (i := 4) (v := .bool fq) rfl (by kernel_rfl) (by kernel_rfl) (by kernel_rfl) (fun _ _ _ h => h) (Or.inl ⟨by rfl, fun w0 hC => by simp [execOp, Act.eval, Act.put, go_sem]⟩) hHeld ?_
      try simp only [Act.put, List.setIfInBounds_toArray, List.set_cons_zero, List.set_cons_succ, List.getElem_toArray, List.getElem_cons_zero, List.getElem_cons_succ]
      refine wpAnyH_take (i := 5) (v := .bool fq) rfl (by kernel_rfl) (by kernel_rfl) (by kernel_rfl) (fun _ _ _ h => h) (Or.inl ⟨by rfl, fun w0 hC => by simp [execOp, Act.eval, Act.put, go_sem]⟩) hHeld ?_
      try simp only [Act.put, List.setIfInBounds_toArray, List.set_cons_zero, List.set_cons_succ, List.getElem_toArray, List.getElem_cons_zero, List.getElem_cons_succ]
      refine wpAnyH_take (i := 6) (v := .bool true) rfl (by kernel_rfl) (by kernel_rfl) (by kernel_rfl) (fun _ _ _ h => h) (Or.inl ⟨by rfl, fun w0 hC => by cases fq <;> simp [execOp, Act.eval, Act.put, go_sem]⟩) hHeld ?_
      try simp only [Act.put, List.setIfInBounds_toArray, List.set_cons_zero, List.set_cons_succ, List.getElem_toArray, List.getElem_cons_zero, List.getElem_cons_succ]
      refine wpAnyH_take (i := 7) (v := .bool true) rfl (by kernel_rfl) (by kernel_rfl) (by kernel_rfl) (fun _ _ _ h => h) (Or.inl ⟨by rfl, fun w0 hC => by simp [execOp, Act.eval, Act.put, go_sem]⟩) hHeld ?_
      try simp only [Act.put, List.setIfInBounds_toArray, List.set_cons_zero, List.set_cons_succ, List.getElem_toArray, List.getElem_cons_zero, List.getElem_cons_succ]
      refine wpAnyH_take (i := 8) (v := .bool true) rfl (by kernel_rfl) (by kernel_rfl) (by kernel_rfl) (fun _ _ _ h => h) (Or.inl ⟨by rfl, fun w0 hC => by simp [execOp, Act.eval, Act.put, go_sem]⟩) hHeld ?_
      try simp only [Act.put, List.setIfInBounds_toArray, List.set_cons_zero, List.set_cons_succ, List.getElem_toArray, List.getElem_cons_zero, List.getElem_cons_succ]
      refine wpAnyH_take (i := 9) (v := .agg #[.string nm, .int .i64 v, .int .i64 nx, .slice A n c]) rfl (by kernel_rfl) (by kernel_rfl) (by kernel_rfl) (fun _ _ _ h => h) (Or.inl ⟨by rfl, fun w0 hC => by simp [execOp, Act.eval, Act.put, go_sem, (hC.cell (p := ⟨w.heap.size, 0, none⟩) la).trans a0, (hC.cell (p := ⟨w.heap.size, 1, none⟩) la).trans a1, (hC.cell (p := ⟨w.heap.size, 2, none⟩) la).trans a2, (hC.cell (p := ⟨w.heap.size, 3, none⟩) la).trans a3]⟩) hHeld ?_
      try simp only [Act.put, List.setIfInBounds_toArray, List.set_cons_zero, List.set_cons_succ, List.getElem_toArray, List.getElem_cons_zero, List.getElem_cons_succ]
      refine wpAnyH_take (i := 10) (v := .pointer (some ⟨w.heap.size + 1 + 1, 0, none⟩)) rfl (by kernel_rfl) (by kernel_rfl) (by kernel_rfl) (fun _ _ _ h => h) (Or.inl ⟨by rfl, fun w0 hC => by simp [execOp, Act.eval, Act.put, go_sem]⟩) hHeld ?_
      try simp only [Act.put, List.setIfInBounds_toArray, List.set_cons_zero, List.set_cons_succ, List.getElem_toArray, List.getElem_cons_zero, List.getElem_cons_succ]
      refine wpAnyH_take (i := 11) (v := .int .i64 x0) rfl (by kernel_rfl) (by kernel_rfl) (by kernel_rfl) (fun _ _ _ h => h) (Or.inl ⟨by rfl, fun w0 hC => by simp [execOp, Act.eval, Act.put, go_sem, (hC.cell (p := ⟨w.heap.size + 1 + 1, 0, none⟩) lt).trans t0]⟩) hHeld ?_
      try simp only [Act.put, List.setIfInBounds_toArray, List.set_cons_zero, List.set_cons_succ, List.getElem_toArray, List.getElem_cons_zero, List.getElem_cons_succ]
      refine wpAnyH_take (i := 13) (v := .agg #[.string nm, .int .i64 v, .int .i64 nx, .slice A n c]) rfl (by kernel_rfl) (by kernel_rfl) (by kernel_rfl) (fun _ _ _ h => h) (Or.inl ⟨by rfl, fun w0 hC => by simp [execOp, Act.eval, Act.put, go_sem, (hC.cell (p := ⟨w.heap.size, 0, none⟩) la).trans a0, (hC.cell (p := ⟨w.heap.size, 1, none⟩) la).trans a1, (hC.cell (p := ⟨w.heap.size, 2, none⟩) la).trans a2, (hC.cell (p := ⟨w.heap.size, 3, none⟩) la).trans a3]⟩) hHeld ?_
      try simp only [Act.put, List.setIfInBounds_toArray, List.set_cons_zero, List.set_cons_succ, List.getElem_toArray, List.getElem_cons_zero, List.getElem_cons_succ]
      refine wpAnyH_take (i := 14) (v := .pointer (some ⟨w.heap.size + 1 + 1, 0, none⟩)) rfl (by kernel_rfl) (by kernel_rfl) (by kernel_rfl) (fun _ _ _ h => h) (Or.inl ⟨by rfl, fun w0 hC => by simp [execOp, Act.eval, Act.put, go_sem]⟩) hHeld ?_
      try simp only [Act.put, List.setIfInBounds_toArray, List.set_cons_zero, List.set_cons_succ, List.getElem_toArray, List.getElem_cons_zero, List.getElem_cons_succ]
      refine wpAnyH_take (i := 15) (v := .int .i64 x0) rfl (by kernel_rfl) (by kernel_rfl) (by kernel_rfl) (fun _ _ _ h => h) (Or.inl ⟨by rfl, fun w0 hC => by simp [execOp, Act.eval, Act.put, go_sem, (hC.cell (p := ⟨w.heap.size + 1 + 1, 0, none⟩) lt).trans t0]⟩) hHeld ?_
      try simp only [Act.put, List.setIfInBounds_toArray, List.set_cons_zero, List.set_cons_succ, List.getElem_toArray, List.getElem_cons_zero, List.getElem_cons_succ]
      refine wpAnyH_ready (rs := [12]) (by kernel_rfl) (by simp) (AllReadyH.cons rfl (fun K hK => ?_) AllReadyH.nil)
      rw [if_pos (by rfl)]
      go_wp2_with fail
      refine (place_any nm v nx x0 A n c l W1a (LA.out.later hHeld) (by omega)).mono ?_
      rintro e W2 ⟨rfl, hb2⟩
      rw [HPQ.out]
      have hS := hHeld.trans (hb2.mono hHeld.size)
      clear hHeld hb2
      refine hK.out _ _ hS (fun hHeld => ?_)
      clear hK K
      try simp only [Act.put, List.setIfInBounds_toArray, List.set_cons_zero, List.set_cons_succ, List.getElem_toArray, List.getElem_cons_zero, List.getElem_cons_succ]
      clear hS
      generalize W2 = W2a at *
      refine wpAnyH_ready (rs := [16]) (by kernel_rfl) (by simp) (AllReadyH.cons rfl (fun K hK => ?_) AllReadyH.nil)
      rw [if_pos (by rfl)]
      go_wp2_with fail
      refine (x11place_any nm v nx x0 A n c l W2a (LA.out.later hHeld) (by omega)).mono ?_
      rintro e W2 ⟨rfl, hw2⟩
      rw [HPQ.out]
      have hb2 : Below W2a.heap.size W2a W2 := by rw [hw2]; exact (Below.refl _ _).alloc (Nat.le_refl _) _
      clear hw2
      have hS := hHeld.trans (hb2.mono hHeld.size)
      clear hHeld hb2
      refine hK.out _ _ hS (fun hHeld => ?_)
      clear hK K
      try simp only [Act.put, List.setIfInBounds_toArray, List.set_cons_zero, List.set_cons_succ, List.getElem_toArray, List.getElem_cons_zero, List.getElem_cons_succ]
      clear hS
      generalize W2 = W3a at *
      refine wpAnyH_take (i := 17) (v := .bool true) rfl (by kernel_rfl) (by kernel_rfl) (by kernel_rfl) (fun _ _ _ h => h) (Or.inl ⟨by rfl, fun w0 hC => by simp [execOp, Act.eval, Act.put, go_sem]⟩) hHeld ?_
      try simp only [Act.put, List.setIfInBounds_toArray, List.set_cons_zero, List.set_cons_succ, List.getElem_toArray, List.getElem_cons_zero, List.getElem_cons_succ]
      refine wpAnyH_take (i := 18) (v := .bool true) rfl (by kernel_rfl) (by kernel_rfl) (by kernel_rfl) (fun _ _ _ h => h) (Or.inl ⟨by rfl, fun w0 hC => by simp [execOp, Act.eval, Act.put, go_sem]⟩) hHeld ?_
      try simp only [Act.put, List.setIfInBounds_toArray, List.set_cons_zero, List.set_cons_succ, List.getElem_toArray, List.getElem_cons_zero, List.getElem_cons_succ]
      refine wpAnyH_take (i := 19) (v := .bool true) rfl (by kernel_rfl) (by kernel_rfl) (by kernel_rfl) (fun _ _ _ h => h) (Or.inl ⟨by rfl, fun w0 hC => by simp [execOp, Act.eval, Act.put, go_sem]⟩) hHeld ?_
      try simp only [Act.put, List.setIfInBounds_toArray, List.set_cons_zero, List.set_cons_succ, List.getElem_toArray, List.getElem_cons_zero, List.getElem_cons_succ]
      refine wpAnyH_take (i := 20) (v := .agg #[.string nm, .int .i64 v, .int .i64 nx, .slice A n c]) rfl (by kernel_rfl) (by kernel_rfl) (by kernel_rfl) (fun _ _ _ h => h) (Or.inl ⟨by rfl, fun w0 hC => by simp [execOp, Act.eval, Act.put, go_sem, (hC.cell (p := ⟨w.heap.size, 0, none⟩) la).trans a0, (hC.cell (p := ⟨w.heap.size, 1, none⟩) la).trans a1, (hC.cell (p := ⟨w.heap.size, 2, none⟩) la).trans a2, (hC.cell (p := ⟨w.heap.size, 3, none⟩) la).trans a3]⟩) hHeld ?_
      try simp only [Act.put, List.setIfInBounds_toArray, List.set_cons_zero, List.set_cons_succ, List.getElem_toArray, List.getElem_cons_zero, List.getElem_cons_succ]
      refine wpAnyH_take (i := 21) (v := .pointer (some ⟨w.heap.size + 1 + 1, 1, none⟩)) rfl (by kernel_rfl) (by kernel_rfl) (by kernel_rfl) (fun _ _ _ h => h) (Or.inl ⟨by rfl, fun w0 hC => by simp [execOp, Act.eval, Act.put, go_sem]⟩) hHeld ?_
      try simp only [Act.put, List.setIfInBounds_toArray, List.set_cons_zero, List.set_cons_succ, List.getElem_toArray, List.getElem_cons_zero, List.getElem_cons_succ]
      refine wpAnyH_take (i := 22) (v := .int .i64 x1) rfl (by kernel_rfl) (by kernel_rfl) (by kernel_rfl) (fun _ _ _ h => h) (Or.inl ⟨by rfl, fun w0 hC => by simp [execOp, Act.eval, Act.put, go_sem, (hC.cell (p := ⟨w.heap.size + 1 + 1, 1, none⟩) lt).trans t1]⟩) hHeld ?_
      try simp only [Act.put, List.setIfInBounds_toArray, List.set_cons_zero, List.set_cons_succ, List.getElem_toArray, List.getElem_cons_zero, List.getElem_cons_succ]
      refine wpAnyH_take (i := 24) (v := .agg #[.string nm, .int .i64 v, .int .i64 nx, .slice A n c]) rfl (by kernel_rfl) (by kernel_rfl) (by kernel_rfl) (fun _ _ _ h => h) (Or.inl ⟨by rfl, fun w0 hC => by simp [execOp, Act.eval, Act.put, go_sem, (hC.cell (p := ⟨w.heap.size, 0, none⟩) la).trans a0, (hC.cell (p := ⟨w.heap.size, 1, none⟩) la).trans a1, (hC.cell (p := ⟨w.heap.size, 2, none⟩) la).trans a2, (hC.cell (p := ⟨w.heap.size, 3, none⟩) la).trans a3]⟩) hHeld ?_
      try simp only [Act.put, List.setIfInBounds_toArray, List.set_cons_zero, List.set_cons_succ, List.getElem_toArray, List.getElem_cons_zero, List.getElem_cons_succ]
      refine wpAnyH_take (i := 25) (v := .pointer (some ⟨w.heap.size + 1 + 1, 1, none⟩)) rfl (by kernel_rfl) (by kernel_rfl) (by kernel_rfl) (fun _ _ _ h => h) (Or.inl ⟨by rfl, fun w0 hC => by simp [execOp, Act.eval, Act.put, go_sem]⟩) hHeld ?_
      try simp only [Act.put, List.setIfInBounds_toArray, List.set_cons_zero, List.set_cons_succ, List.getElem_toArray, List.getElem_cons_zero, List.getElem_cons_succ]
      refine wpAnyH_take (i := 26) (v := .int .i64 x1) rfl (by kernel_rfl) (by kernel_rfl) (by kernel_rfl) (fun _ _ _ h => h) (Or.inl ⟨by rfl, fun w0 hC => by simp [execOp, Act.eval, Act.put, go_sem, (hC.cell (p := ⟨w.heap.size + 1 + 1, 1, none⟩) lt).trans t1]⟩) hHeld ?_
      try simp only [Act.put, List.setIfInBounds_toArray, List.set_cons_zero, List.set_cons_succ, List.getElem_toArray, List.getElem_cons_zero, List.getElem_cons_succ]
      refine wpAnyH_ready (rs := [23]) (by kernel_rfl) (by simp) (AllReadyH.cons rfl (fun K hK => ?_) AllReadyH.nil)
      rw [if_pos (by rfl)]
      go_wp2_with fail
      refine (count_any nm v nx x1 A n c l W3a (LA.out.later hHeld) (by omega)).mono ?_
      rintro e W2 ⟨rfl, hb2⟩
      rw [HCQ.out]
      have hS := hHeld.trans (hb2.mono hHeld.size)
      clear hHeld hb2
      refine hK.out _ _ hS (fun hHeld => ?_)
      clear hK K
      try simp only [Act.put, List.setIfInBounds_toArray, List.set_cons_zero, List.set_cons_succ, List.getElem_toArray, List.getElem_cons_zero, List.getElem_cons_succ]
      clear hS
      generalize W2 = W4a at *
      refine wpAnyH_ready (rs := [27]) (by kernel_rfl) (by simp) (AllReadyH.cons rfl (fun K hK => ?_) AllReadyH.nil)
      rw [if_pos (by rfl)]
      go_wp2_with fail
      refine (x11count_any nm v nx x1 A n c l W4a (LA.out.later hHeld) (by omega)).mono ?_
      rintro e W2 ⟨rfl, hb2⟩
      rw [HCQ.out]
      have hS := hHeld.trans (hb2.mono hHeld.size)
      clear hHeld hb2
      refine hK.out _ _ hS (fun hHeld => ?_)
      clear hK K
      try simp only [Act.put, List.setIfInBounds_toArray, List.set_cons_zero, List.set_cons_succ, List.getElem_toArray, List.getElem_cons_zero, List.getElem_cons_succ]
      clear hS
      generalize W2 = W5a at *
      refine wpAnyH_take (i := 28) (v := .bool true) rfl (by kernel_rfl) (by kernel_rfl) (by kernel_rfl) (fun _ _ _ h => h) (Or.inl ⟨by rfl, fun w0 hC => by simp [execOp, Act.eval, Act.put, go_sem]⟩) hHeld ?_
      try simp only [Act.put, List.setIfInBounds_toArray, List.set_cons_zero, List.set_cons_succ, List.getElem_toArray, List.getElem_cons_zero, List.getElem_cons_succ]
      refine wpAnyH_take (i := 29) (v := .bool true) rfl (by kernel_rfl) (by kernel_rfl) (by kernel_rfl) (fun _ _ _ h => h) (Or.inl ⟨by rfl, fun w0 hC => by simp [execOp, Act.eval, Act.put, go_sem]⟩) hHeld ?_
      try simp only [Act.put, List.setIfInBounds_toArray, List.set_cons_zero, List.set_cons_succ, List.getElem_toArray, List.getElem_cons_zero, List.getElem_cons_succ]
      refine wpAnyH_take (i := 30) (v := .bool true) rfl (by kernel_rfl) (by kernel_rfl) (by kernel_rfl) (fun _ _ _ h => h) (Or.inl ⟨by rfl, fun w0 hC => by simp [execOp, Act.eval, Act.put, go_sem]⟩) hHeld ?_
      try simp only [Act.put, List.setIfInBounds_toArray, List.set_cons_zero, List.set_cons_succ, List.getElem_toArray, List.getElem_cons_zero, List.getElem_cons_succ]
      refine wpAnyH_take (i := 31) (v := .agg #[.string nm, .int .i64 v, .int .i64 nx, .slice A n c]) rfl (by kernel_rfl) (by kernel_rfl) (by kernel_rfl) (fun _ _ _ h => h) (Or.inl ⟨by rfl, fun w0 hC => by simp [execOp, Act.eval, Act.put, go_sem, (hC.cell (p := ⟨w.heap.size, 0, none⟩) la).trans a0, (hC.cell (p := ⟨w.heap.size, 1, none⟩) la).trans a1, (hC.cell (p := ⟨w.heap.size, 2, none⟩) la).trans a2, (hC.cell (p := ⟨w.heap.size, 3, none⟩) la).trans a3]⟩) hHeld ?_
      try simp only [Act.put, List.setIfInBounds_toArray, List.set_cons_zero, List.set_cons_succ, List.getElem_toArray, List.getElem_cons_zero, List.getElem_cons_succ]
      refine wpAnyH_take (i := 33) (v := .agg #[.string nm, .int .i64 v, .int .i64 nx, .slice A n c]) rfl (by kernel_rfl) (by kernel_rfl) (by kernel_rfl) (fun _ _ _ h => h) (Or.inl ⟨by rfl, fun w0 hC => by simp [execOp, Act.eval, Act.put, go_sem, (hC.cell (p := ⟨w.heap.size, 0, none⟩) la).trans a0, (hC.cell (p := ⟨w.heap.size, 1, none⟩) la).trans a1, (hC.cell (p := ⟨w.heap.size, 2, none⟩) la).trans a2, (hC.cell (p := ⟨w.heap.size, 3, none⟩) la).trans a3]⟩) hHeld ?_
      try simp only [Act.put, List.setIfInBounds_toArray, List.set_cons_zero, List.set_cons_succ, List.getElem_toArray, List.getElem_cons_zero, List.getElem_cons_succ]
      refine wpAnyH_ready (rs := [32]) (by kernel_rfl) (by simp) (AllReadyH.cons rfl (fun K hK => ?_) AllReadyH.nil)
      rw [if_pos (by rfl)]
      go_wp2_with fail
      refine (uids_any nm v nx A n c l W5a (LA.out.later hHeld) (by omega)).mono ?_
      rintro e W2 ⟨Au, nu, cu, rfl, hu, _, hb2⟩
      have HU := Lib.hid hu
      have HUN : Hid (nu = n) := Lib.hid (by rw [← hu.1, List.length_map, HL.out.len])
      clear hu
      have hS := hHeld.trans (hb2.mono hHeld.size)
      clear hHeld hb2
      refine hK.out _ _ hS (fun hHeld => ?_)
      clear hK K
      try simp only [Act.put, List.setIfInBounds_toArray, List.set_cons_zero, List.set_cons_succ, List.getElem_toArray, List.getElem_cons_zero, List.getElem_cons_succ]
      clear hS
      generalize W2 = W6a at *
      refine wpAnyH_ready (rs := [34]) (by kernel_rfl) (by simp) (AllReadyH.cons rfl (fun K hK => ?_) AllReadyH.nil)
      rw [if_pos (by rfl)]
      go_wp2_with fail
      refine (x11uids_any nm v nx A n c l W6a (LA.out.later hHeld) (by omega)).mono ?_
      rintro e W2 ⟨At, nt, ct, rfl, hu, _, hb2⟩
      have HU2 := Lib.hid (HU.out.later hb2)
      have HT := Lib.hid hu
      have HTN : Hid (nt = n) := Lib.hid (by rw [← hu.1, List.length_map, HL.out.len])
      clear hu
      have hS := hHeld.trans (hb2.mono hHeld.size)
      clear hHeld hb2
      refine hK.out _ _ hS (fun hHeld => ?_)
      clear hK K
      try simp only [Act.put, List.setIfInBounds_toArray, List.set_cons_zero, List.set_cons_succ, List.getElem_toArray, List.getElem_cons_zero, List.getElem_cons_succ]
      clear hS
      generalize W2 = W7a at *
      refine wpAnyH_ready (rs := [35]) (by kernel_rfl) (by simp) (AllReadyH.cons rfl (fun K hK => ?_) AllReadyH.nil)
      rw [if_pos (by rfl)]
      go_wp2_with fail
      refine (x9Ints_any Au At nu cu nt ct (l.map Mg.uid) (l.map Mg.uid) W7a HU2.out HT.out (by have := HUN.out; omega) (by have := HTN.out; omega)).mono ?_
      rintro e W2 ⟨rfl, qd, hw2⟩
      rw [show decide (l.map Mg.uid = l.map Mg.uid) = true from decide_eq_true rfl]
      have hb2 : Below W7a.heap.size W7a W2 := by rw [hw2]; exact below_drewN (Below.refl _ _) _
      clear hw2
      have hS := hHeld.trans (hb2.mono hHeld.size)
      clear hHeld hb2
      refine hK.out _ _ hS (fun hHeld => ?_)
      clear hK K
      try simp only [Act.put, List.setIfInBounds_toArray, List.set_cons_zero, List.set_cons_succ, List.getElem_toArray, List.getElem_cons_zero, List.getElem_cons_succ]
      clear hS
      generalize W2 = W8a at *
      refine wpAnyH_take (i := 36) (v := .bool true) rfl (by kernel_rfl) (by kernel_rfl) (by kernel_rfl) (fun _ _ _ h => h) (Or.inl ⟨by rfl, fun w0 hC => by simp [execOp, Act.eval, Act.put, go_sem]⟩) hHeld ?_
      try simp only [Act.put, List.setIfInBounds_toArray, List.set_cons_zero, List.set_cons_succ, List.getElem_toArray, List.getElem_cons_zero, List.getElem_cons_succ]
      refine wpAnyH_take (i := 37) (v := .bool true) rfl (by kernel_rfl) (by kernel_rfl) (by kernel_rfl) (fun _ _ _ h => h) (Or.inl ⟨by rfl, fun w0 hC => by simp [execOp, Act.eval, Act.put, go_sem]⟩) hHeld ?_
      try simp only [Act.put, List.setIfInBounds_toArray, List.set_cons_zero, List.set_cons_succ, List.getElem_toArray, List.getElem_cons_zero, List.getElem_cons_succ]
      refine wpAnyH_take (i := 38) (v := .agg #[.string nm, .int .i64 v, .int .i64 nx, .slice A n c]) rfl (by kernel_rfl) (by kernel_rfl) (by kernel_rfl) (fun _ _ _ h => h) (Or.inl ⟨by rfl, fun w0 hC => by simp [execOp, Act.eval, Act.put, go_sem, (hC.cell (p := ⟨w.heap.size, 0, none⟩) la).trans a0, (hC.cell (p := ⟨w.heap.size, 1, none⟩) la).trans a1, (hC.cell (p := ⟨w.heap.size, 2, none⟩) la).trans a2, (hC.cell (p := ⟨w.heap.size, 3, none⟩) la).trans a3]⟩) hHeld ?_
      try simp only [Act.put, List.setIfInBounds_toArray, List.set_cons_zero, List.set_cons_succ, List.getElem_toArray, List.getElem_cons_zero, List.getElem_cons_succ]
      refine wpAnyH_take (i := 39) (v := .agg #[.string nm', .int .i64 v', .int .i64 nx', .slice A' n' c']) rfl (by kernel_rfl) (by kernel_rfl) (by kernel_rfl) (fun _ _ _ h => h) (Or.inl ⟨by rfl, fun w0 hC => by simp [execOp, Act.eval, Act.put, go_sem, (hC.cell (p := ⟨w.heap.size + 1, 0, none⟩) lb).trans b0, (hC.cell (p := ⟨w.heap.size + 1, 1, none⟩) lb).trans b1, (hC.cell (p := ⟨w.heap.size + 1, 2, none⟩) lb).trans b2, (hC.cell (p := ⟨w.heap.size + 1, 3, none⟩) lb).trans b3]⟩) hHeld ?_
      try simp only [Act.put, List.setIfInBounds_toArray, List.set_cons_zero, List.set_cons_succ, List.getElem_toArray, List.getElem_cons_zero, List.getElem_cons_succ]
      refine wpAnyH_take (i := 41) (v := .agg #[.string nm, .int .i64 v, .int .i64 nx, .slice A n c]) rfl (by kernel_rfl) (by kernel_rfl) (by kernel_rfl) (fun _ _ _ h => h) (Or.inl ⟨by rfl, fun w0 hC => by simp [execOp, Act.eval, Act.put, go_sem, (hC.cell (p := ⟨w.heap.size, 0, none⟩) la).trans a0, (hC.cell (p := ⟨w.heap.size, 1, none⟩) la).trans a1, (hC.cell (p := ⟨w.heap.size, 2, none⟩) la).trans a2, (hC.cell (p := ⟨w.heap.size, 3, none⟩) la).trans a3]⟩) hHeld ?_
      try simp only [Act.put, List.setIfInBounds_toArray, List.set_cons_zero, List.set_cons_succ, List.getElem_toArray, List.getElem_cons_zero, List.getElem_cons_succ]
      refine wpAnyH_take (i := 42) (v := .agg #[.string nm', .int .i64 v', .int .i64 nx', .slice A' n' c']) rfl (by kernel_rfl) (by kernel_rfl) (by kernel_rfl) (fun _ _ _ h => h) (Or.inl ⟨by rfl, fun w0 hC => by simp [execOp, Act.eval, Act.put, go_sem, (hC.cell (p := ⟨w.heap.size + 1, 0, none⟩) lb).trans b0, (hC.cell (p := ⟨w.heap.size + 1, 1, none⟩) lb).trans b1, (hC.cell (p := ⟨w.heap.size + 1, 2, none⟩) lb).trans b2, (hC.cell (p := ⟨w.heap.size + 1, 3, none⟩) lb).trans b3]⟩) hHeld ?_
      try simp only [Act.put, List.setIfInBounds_toArray, List.set_cons_zero, List.set_cons_succ, List.getElem_toArray, List.getElem_cons_zero, List.getElem_cons_succ]
      refine wpAnyH_ready (rs := [40]) (by kernel_rfl) (by simp) (AllReadyH.cons rfl (fun K hK => ?_) AllReadyH.nil)
      rw [if_pos (by rfl)]
      go_wp2_with fail
      refine (same_any11 nm v nx A n c l nm' v' nx' A' n' c' l' W8a (LA.out.later hHeld) (LB.out.later hHeld) (by omega) (by omega)).mono ?_
      rintro e W2 ⟨rfl, hb2⟩
      rw [HSQ.out]
      have hS := hHeld.trans (hb2.mono hHeld.size)
      clear hHeld hb2
      refine hK.out _ _ hS (fun hHeld => ?_)
      clear hK K
      try simp only [Act.put, List.setIfInBounds_toArray, List.set_cons_zero, List.set_cons_succ, List.getElem_toArray, List.getElem_cons_zero, List.getElem_cons_succ]
      clear hS
      generalize W2 = W9a at *
      refine wpAnyH_ready (rs := [43]) (by kernel_rfl) (by simp) (AllReadyH.cons rfl (fun K hK => ?_) AllReadyH.nil)
      rw [if_pos (by rfl)]
      go_wp2_with fail
      refine (x11same_any nm v nx A n c l nm' v' nx' A' n' c' l' W9a (LA.out.later hHeld) (LB.out.later hHeld) (by omega) (by omega)).mono ?_
      rintro e W2 ⟨rfl, hb2⟩
      rw [HSQ.out]
      have hS := hHeld.trans (hb2.mono hHeld.size)
      clear hHeld hb2
      refine hK.out _ _ hS (fun hHeld => ?_)
      clear hK K
      try simp only [Act.put, List.setIfInBounds_toArray, List.set_cons_zero, List.set_cons_succ, List.getElem_toArray, List.getElem_cons_zero, List.getElem_cons_succ]
      clear hS
      generalize W2 = W10a at *
      refine wpAnyH_take (i := 44) (v := .bool true) rfl (by kernel_rfl) (by kernel_rfl) (by kernel_rfl) (fun _ _ _ h => h) (Or.inl ⟨by rfl, fun w0 hC => by cases sq <;> simp [execOp, Act.eval, Act.put, go_sem]⟩) hHeld ?_
      try simp only [Act.put, List.setIfInBounds_toArray, List.set_cons_zero, List.set_cons_succ, List.getElem_toArray, List.getElem_cons_zero, List.getElem_cons_succ]
      refine wpAnyH_take (i := 45) (v := .bool true) rfl (by kernel_rfl) (by kernel_rfl) (by kernel_rfl) (fun _ _ _ h => h) (Or.inl ⟨by rfl, fun w0 hC => by simp [execOp, Act.eval, Act.put, go_sem]⟩) hHeld ?_
      try simp only [Act.put, List.setIfInBounds_toArray, List.set_cons_zero, List.set_cons_succ, List.getElem_toArray, List.getElem_cons_zero, List.getElem_cons_succ]
      refine wpAnyH_take (i := 46) (v := .bool true) rfl (by kernel_rfl) (by kernel_rfl) (by kernel_rfl) (fun _ _ _ h => h) (Or.inl ⟨by rfl, fun w0 hC => by simp [execOp, Act.eval, Act.put, go_sem]⟩) hHeld ?_
      try simp only [Act.put, List.setIfInBounds_toArray, List.set_cons_zero, List.set_cons_succ, List.getElem_toArray, List.getElem_cons_zero, List.getElem_cons_succ]
      refine wpAnyH_take (i := 47) (v := .agg #[.string nm, .int .i64 v, .int .i64 nx, .slice A n c]) rfl (by kernel_rfl) (by kernel_rfl) (by kernel_rfl) (fun _ _ _ h => h) (Or.inl ⟨by rfl, fun w0 hC => by simp [execOp, Act.eval, Act.put, go_sem, (hC.cell (p := ⟨w.heap.size, 0, none⟩) la).trans a0, (hC.cell (p := ⟨w.heap.size, 1, none⟩) la).trans a1, (hC.cell (p := ⟨w.heap.size, 2, none⟩) la).trans a2, (hC.cell (p := ⟨w.heap.size, 3, none⟩) la).trans a3]⟩) hHeld ?_
      try simp only [Act.put, List.setIfInBounds_toArray, List.set_cons_zero, List.set_cons_succ, List.getElem_toArray, List.getElem_cons_zero, List.getElem_cons_succ]
      refine wpAnyH_take (i := 48) (v := .agg #[.string nm, .int .i64 v, .int .i64 nx, .slice A2 n c2]) rfl (by kernel_rfl) (by kernel_rfl) (by kernel_rfl) (fun _ _ _ h => h) (Or.inl ⟨by rfl, fun w0 hC => by simp [execOp, Act.eval, Act.put, go_sem, (hC.cell (p := ⟨bc, 0, none⟩) lk).trans k0, (hC.cell (p := ⟨bc, 1, none⟩) lk).trans k1, (hC.cell (p := ⟨bc, 2, none⟩) lk).trans k2, (hC.cell (p := ⟨bc, 3, none⟩) lk).trans k3]⟩) hHeld ?_
      try simp only [Act.put, List.setIfInBounds_toArray, List.set_cons_zero, List.set_cons_succ, List.getElem_toArray, List.getElem_cons_zero, List.getElem_cons_succ]
      refine wpAnyH_ready (rs := [49]) (by kernel_rfl) (by simp) (AllReadyH.cons rfl (fun K hK => ?_) AllReadyH.nil)
      rw [if_pos (by rfl)]
      go_wp2_with fail
      refine (x11same_any nm v nx A n c l nm v nx A2 n c2 l W10a (LA.out.later hHeld) (LC.out.later hHeld) (by omega) (by omega)).mono ?_
      rintro e W2 ⟨rfl, hb2⟩
      rw [eq_self_bx]
      have hS := hHeld.trans (hb2.mono hHeld.size)
      clear hHeld hb2
      refine hK.out _ _ hS (fun hHeld => ?_)
      clear hK K
      try simp only [Act.put, List.setIfInBounds_toArray, List.set_cons_zero, List.set_cons_succ, List.getElem_toArray, List.getElem_cons_zero, List.getElem_cons_succ]
      clear hS
      generalize W2 = W11a at *
      refine wpAnyH_take (i := 50) (v := .bool true) rfl (by kernel_rfl) (by kernel_rfl) (by kernel_rfl) (fun _ _ _ h => h) (Or.inl ⟨by rfl, fun w0 hC => by simp [execOp, Act.eval, Act.put, go_sem]⟩) hHeld ?_
      try simp only [Act.put, List.setIfInBounds_toArray, List.set_cons_zero, List.set_cons_succ, List.getElem_toArray, List.getElem_cons_zero, List.getElem_cons_succ]
      refine wpAnyH_take (i := 51) (v := .bool true) rfl (by kernel_rfl) (by kernel_rfl) (by kernel_rfl) (fun _ _ _ h => h) (Or.inl ⟨by rfl, fun w0 hC => by simp [execOp, Act.eval, Act.put, go_sem]⟩) hHeld ?_
      try simp only [Act.put, List.setIfInBounds_toArray, List.set_cons_zero, List.set_cons_succ, List.getElem_toArray, List.getElem_cons_zero, List.getElem_cons_succ]
      refine wpAnyH_take (i := 52) (v := .agg #[.string nm, .int .i64 v, .int .i64 nx, .slice A n c]) rfl (by kernel_rfl) (by kernel_rfl) (by kernel_rfl) (fun _ _ _ h => h) (Or.inl ⟨by rfl, fun w0 hC => by simp [execOp, Act.eval, Act.put, go_sem, (hC.cell (p := ⟨w.heap.size, 0, none⟩) la).trans a0, (hC.cell (p := ⟨w.heap.size, 1, none⟩) la).trans a1, (hC.cell (p := ⟨w.heap.size, 2, none⟩) la).trans a2, (hC.cell (p := ⟨w.heap.size, 3, none⟩) la).trans a3]⟩) hHeld ?_
      try simp only [Act.put, List.setIfInBounds_toArray, List.set_cons_zero, List.set_cons_succ, List.getElem_toArray, List.getElem_cons_zero, List.getElem_cons_succ]
      refine wpAnyH_take (i := 53) (v := .agg #[.string nm, .int .i64 v, .int .i64 nx, .slice A n c]) rfl (by kernel_rfl) (by kernel_rfl) (by kernel_rfl) (fun _ _ _ h => h) (Or.inl ⟨by rfl, fun w0 hC => by simp [execOp, Act.eval, Act.put, go_sem, (hC.cell (p := ⟨w.heap.size, 0, none⟩) la).trans a0, (hC.cell (p := ⟨w.heap.size, 1, none⟩) la).trans a1, (hC.cell (p := ⟨w.heap.size, 2, none⟩) la).trans a2, (hC.cell (p := ⟨w.heap.size, 3, none⟩) la).trans a3]⟩) hHeld ?_
      try simp only [Act.put, List.setIfInBounds_toArray, List.set_cons_zero, List.set_cons_succ, List.getElem_toArray, List.getElem_cons_zero, List.getElem_cons_succ]
      refine wpAnyH_ready (rs := [54]) (by kernel_rfl) (by simp) (AllReadyH.cons rfl (fun K hK => ?_) AllReadyH.nil)
      rw [if_pos (by rfl)]
      go_wp2_with fail
      refine (same_any11 nm v nx A n c l nm v nx A n c l W11a (LA.out.later hHeld) (LA.out.later hHeld) (by omega) (by omega)).mono ?_
      rintro e W2 ⟨rfl, hb2⟩
      rw [eq_self_bx]
      have hS := hHeld.trans (hb2.mono hHeld.size)
      clear hHeld hb2
      refine hK.out _ _ hS (fun hHeld => ?_)
      clear hK K
      try simp only [Act.put, List.setIfInBounds_toArray, List.set_cons_zero, List.set_cons_succ, List.getElem_toArray, List.getElem_cons_zero, List.getElem_cons_succ]
      clear hS
      generalize W2 = W12a at *
      refine wpAnyH_take (i := 55) (v := .bool true) rfl (by kernel_rfl) (by kernel_rfl) (by kernel_rfl) (fun _ _ _ h => h) (Or.inl ⟨by rfl, fun w0 hC => by simp [execOp, Act.eval, Act.put, go_sem]⟩) hHeld ?_
      try simp only [Act.put, List.setIfInBounds_toArray, List.set_cons_zero, List.set_cons_succ, List.getElem_toArray, List.getElem_cons_zero, List.getElem_cons_succ]
      refine wpAnyH_take (i := 56) (v := .bool true) rfl (by kernel_rfl) (by kernel_rfl) (by kernel_rfl) (fun _ _ _ h => h) (Or.inl ⟨by rfl, fun w0 hC => by simp [execOp, Act.eval, Act.put, go_sem]⟩) hHeld ?_
      try simp only [Act.put, List.setIfInBounds_toArray, List.set_cons_zero, List.set_cons_succ, List.getElem_toArray, List.getElem_cons_zero, List.getElem_cons_succ]
      refine wpAnyH_done (by kernel_rfl) ?_ _
      have HBE := Lib.hid (HB_6.out.trans (hHeld.mono HB_6.out.size))
      clear hHeld
      go_wp2_with fail
      go_ret
      exact ⟨rfl, HBE.out⟩
    · have HG' := Lib.hid hg'
      clear hg'
      go_enter Try.func5, Try.ntmps5
      go_wp2_with fail
      refine (alive11_any _).mono ?_
      rintro e w1 ⟨rfl, hb⟩
      have HB_1 := Lib.hid (HB.out.trans (hb.mono HB.out.size))
      have H1_1 := Lib.hid (H1.out.below hb H1.out.lt)
      have H2_1 := Lib.hid (H2.out.below hb H2.out.lt)
      have H3_1 := Lib.hid (H3.out.below hb H3.out.lt)
      clear hb HB H1 H2 H3
      obtain ⟨⟨b0, b1, b2, b3⟩, -, -, -, -⟩ := H1_1.out.four
      go_wp2_with fail
      clear b0 b1 b2 b3
      refine (great11_any nm v nx A n c l w1 (HL.out.later HB_1.out) hn).mono ?_
      rintro e w2 ⟨rfl, hb⟩
      rw [HG.out]
      have HB_2 := Lib.hid (HB_1.out.trans (hb.mono HB_1.out.size))
      have H1_2 := Lib.hid (H1_1.out.below hb H1_1.out.lt)
      have H2_2 := Lib.hid (H2_1.out.below hb H2_1.out.lt)
      have H3_2 := Lib.hid (H3_1.out.below hb H3_1.out.lt)
      clear hb HB_1 H1_1 H2_1 H3_1
      obtain ⟨⟨b0, b1, b2, b3⟩, -, -, -, -⟩ := H2_2.out.four
      go_wp2_with fail
      clear b0 b1 b2 b3
      refine (great11_any nm' v' nx' A' n' c' l' w2 (HL'.out.later HB_2.out) hn').mono ?_
      rintro e w3 ⟨rfl, hb⟩
      rw [HG'.out]
      have HB_3 := Lib.hid (HB_2.out.trans (hb.mono HB_2.out.size))
      have H1_3 := Lib.hid (H1_2.out.below hb H1_2.out.lt)
      have H2_3 := Lib.hid (H2_2.out.below hb H2_2.out.lt)
      have H3_3 := Lib.hid (H3_2.out.below hb H3_2.out.lt)
      clear hb HB_2 H1_2 H2_2 H3_2
      go_wp2_with fail
      go_ret
      exact ⟨rfl, HB_3.out⟩
  · have HG := Lib.hid hg
    clear hg
    go_enter Try.func5, Try.ntmps5
    go_wp2_with fail
    refine (alive11_any _).mono ?_
    rintro e w1 ⟨rfl, hb⟩
    have HB_1 := Lib.hid (HB.out.trans (hb.mono HB.out.size))
    have H1_1 := Lib.hid (H1.out.below hb H1.out.lt)
    have H2_1 := Lib.hid (H2.out.below hb H2.out.lt)
    have H3_1 := Lib.hid (H3.out.below hb H3.out.lt)
    clear hb HB H1 H2 H3
    obtain ⟨⟨b0, b1, b2, b3⟩, -, -, -, -⟩ := H1_1.out.four
    go_wp2_with fail
    clear b0 b1 b2 b3
    refine (great11_any nm v nx A n c l w1 (HL.out.later HB_1.out) hn).mono ?_
    rintro e w2 ⟨rfl, hb⟩
    rw [HG.out]
    have HB_2 := Lib.hid (HB_1.out.trans (hb.mono HB_1.out.size))
    have H1_2 := Lib.hid (H1_1.out.below hb H1_1.out.lt)
    have H2_2 := Lib.hid (H2_1.out.below hb H2_1.out.lt)
    have H3_2 := Lib.hid (H3_1.out.below hb H3_1.out.lt)
    clear hb HB_1 H1_1 H2_1 H3_1
    go_wp2_with fail
    go_ret
    exact ⟨rfl, HB_2.out⟩
end Go.Proofs.Ythmlgbeonmpbjaa
