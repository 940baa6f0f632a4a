/-
  The laws of package box, as walks: Takes.
-/
import Derived.Test.YthmlgbeonmpbjaaQBoxLawA
namespace Go.Proofs.Ythmlgbeonmpbjaa
set_option linter.unusedVariables false
set_option linter.unusedSimpArgs false
open Go.RowKit
set_option linter.unusedVariables false
set_option linter.unusedSimpArgs false

theorem split_at {l : List Mg} {r : Nat} {a : Mg} (h : l[r]? = some a) : l = l.take r ++ a :: l.drop (r + 1) := by
  have hk := (List.getElem?_eq_some_iff.1 h).1
  have e : l.drop r = a :: l.drop (r + 1) := by
    rw [List.drop_eq_getElem_cons hk]
    rw [List.getElem?_eq_getElem hk] at h
    rw [Option.some.inj h]
  rw [← e, List.take_append_drop]
theorem gone_at {l : List Mg} {ids : List Int} {r : Nat} {a : Mg} (h : l[r]? = some a) (hm : a.uid ∈ ids) : (goneL l ids)[(goneL (l.take r) ids).length]? = some a := by
  conv => lhs; arg 1; rw [split_at h]
  unfold goneL
  rw [List.filter_append, List.getElem?_append_right (Nat.le_refl _), Nat.sub_self, List.filter_cons_of_pos (by simpa using hm)]
  rfl
theorem left_at {l : List Mg} {ids : List Int} {r : Nat} {a : Mg} (h : l[r]? = some a) (hm : a.uid ∉ ids) : (leftL l ids)[(leftL (l.take r) ids).length]? = some a := by
  conv => lhs; arg 1; rw [split_at h]
  unfold leftL
  rw [List.filter_append, List.getElem?_append_right (Nat.le_refl _), Nat.sub_self, List.filter_cons_of_pos (by simpa using hm)]
  rfl
theorem gone_in {l : List Mg} {ids : List Int} {i : Nat} {y : Mg} (h : (goneL l ids)[i]? = some y) : y.uid ∈ ids := by
  have := List.mem_filter.1 (List.mem_of_getElem? h)
  simpa using this.2
theorem gone_take_le (l : List Mg) (ids : List Int) (r : Nat) : (goneL (l.take r) ids).length ≤ r := Nat.le_trans (gone_le _ _) (by rw [List.length_take]; omega)
theorem left_take_le (l : List Mg) (ids : List Int) (r : Nat) : (leftL (l.take r) ids).length ≤ r := Nat.le_trans (left_le _ _) (by rw [List.length_take]; omega)

set_option maxRecDepth 20000 in
set_option maxHeartbeats 8000000 in
theorem boxTakes_walk (nm : ByteArray) (v nx : Int) (A : Option Addr) (n c : Nat) (l : List Mg) (B : Option Addr) (m d0 : Nat) (ids : List Int) (w : World) (hl : MsgsIn w w.heap.size A n l) (hn : n ≤ 140737488355328) (hi : Col ints w w.heap.size B m ids) (hm : m ≤ 140737488355328) :
    Calls Try.prog 7 #[.agg #[.string nm, .int .i64 v, .int .i64 nx, .slice A n c], .slice B m d0] w fun e w' => e = .returned (.bool true) ∧ Below w.heap.size w w' := by
  have hmx : Try.prog.follows .mixedOrders = true := by kernel_rfl
  have hB : Below w.heap.size w (w.alloc (.cells #[.string nm, .int .i64 v, .int .i64 nx, .slice A n c] 24)) := (Below.refl _ _).alloc (Nat.le_refl _) _
  have h1 : Bk (w.alloc (.cells #[.string nm, .int .i64 v, .int .i64 nx, .slice A n c] 24)) w.heap.size 24 #[.string nm, .int .i64 v, .int .i64 nx, .slice A n c] := Bk.new _ _ _
  have HL := Lib.hid hl
  have HI := Lib.hid hi
  have HB := Lib.hid hB
  have H1 := Lib.hid h1
  clear hB h1 hl hi
  cases hg : greatX ⟨nm, v, nx, l⟩
  · have HSM := Lib.hid (small_of hg)
    have HG := Lib.hid hg
    clear hg
    by_cases hx5 : 100 < m
    · have hx5' : (100 : Int) < (m : Int) := by omega
      go_enter Try.func7, Try.ntmps7
      go_wp2_with fail
      refine (alive11_any _).mono ?_
      rintro e w1 ⟨rfl, hb⟩
      have HB1 := Lib.hid (HB.out.trans (hb.mono HB.out.size))
      have H11 := Lib.hid (H1.out.below hb H1.out.lt)
      clear hb
      clear HB H1
      obtain ⟨⟨b0, b1, b2, b3⟩, -, -, -, -⟩ := H11.out.four
      go_wp2_with fail
      refine (great11_any nm v nx A n c l w1 (HL.out.later HB1.out) hn).mono ?_
      rintro e w2 ⟨rfl, hb⟩
      rw [HG.out]
      have HB2 := Lib.hid (HB1.out.trans (hb.mono HB1.out.size))
      have H12 := Lib.hid (H11.out.below hb H11.out.lt)
      clear hb HB1 H11 b0 b1 b2 b3
      go_wp2_with fail
      go_ret
      exact ⟨rfl, HB2.out⟩
    have hx5' : decide ((100 : Int) < (m : Int)) = false := decide_eq_false (by omega)
    have hn5 : n ≤ 5000 := by have := HSM.out.1; rw [HL.out.len] at this; exact this
    by_cases ht : tkE ⟨nm, v, nx, l⟩ ids = 0
    · have HTB := Lib.hid (tkB_ok ht)
      have HTE := Lib.hid ht
      clear ht
      go_enter Try.func7, Try.ntmps7
      go_wp2_with fail
      refine (alive11_any _).mono ?_
      rintro e w1 ⟨rfl, hb⟩
      have HB1 := Lib.hid (HB.out.trans (hb.mono HB.out.size))
      have H11 := Lib.hid (H1.out.below hb H1.out.lt)
      clear hb
      clear HB H1
      obtain ⟨⟨b0, b1, b2, b3⟩, -, -, -, -⟩ := H11.out.four
      go_wp2_with fail
      refine (great11_any nm v nx A n c l w1 (HL.out.later HB1.out) hn).mono ?_
      rintro e w2 ⟨rfl, hb⟩
      rw [HG.out]
      have HB2 := Lib.hid (HB1.out.trans (hb.mono HB1.out.size))
      have H12 := Lib.hid (H11.out.below hb H11.out.lt)
      clear hb HB1 H11 b0 b1 b2 b3
      obtain ⟨⟨b0, b1, b2, b3⟩, -, -, -, -⟩ := H12.out.four
      go_wp2_with fail
      clear b0 b1 b2 b3
      refine (take_any nm v nx A n c l B m d0 ids w2 (HL.out.later HB2.out) (by omega) (small_6 HSM.out.2) ((HI.out.below HB2.out (Nat.le_refl _)).more HB2.out.size) hm).mono ?_
      rintro e w3 ⟨A6, n6, c6, Ag, ng, cg, rfl, hm6, hg6, hb⟩
      rw [HTB.out.1] at hm6 ⊢
      rw [HTB.out.2] at hg6
      simp only at hm6 ⊢
      rw [HTE.out]
      have hba : Below w3.heap.size w3 (w3.alloc (.cells #[.string nm, .int .i64 v, .int .i64 nx, .slice A6 n6 c6] 24)) := (Below.refl _ _).alloc (Nat.le_refl _) _
      have hb' := hb.trans (hba.mono hb.size)
      have HB3 := Lib.hid (HB2.out.trans (hb'.mono HB2.out.size))
      have H13 := Lib.hid (H12.out.below hb' H12.out.lt)
      have KX : Hid (Bk (w3.alloc (.cells #[.string nm, .int .i64 v, .int .i64 nx, .slice A6 n6 c6] 24)) w3.heap.size 24 #[.string nm, .int .i64 v, .int .i64 nx, .slice A6 n6 c6]) := Lib.hid (Bk.new _ _ _)
      have LX := Lib.hid (hm6.later hba)
      have LG := Lib.hid (hg6.later hba)
      have HN6 : Hid ((leftL l ids).length = n6) := Lib.hid hm6.len
      have HNG : Hid ((goneL l ids).length = ng) := Lib.hid hg6.len
      clear hb hba hb' hm6 hg6 HB2 H12
      obtain ⟨⟨x0, x1, x2, x3⟩, -, -, -, -⟩ := KX.out.four
      go_wp2_with fail
      obtain ⟨bx, hbo⟩ : ∃ q, w3.heap.size = q := ⟨_, rfl⟩
      try rw [hbo] at KX
      try rw [hbo]
      clear hbo x0 x1 x2 x3
      generalize w3.alloc (.cells #[.string nm, .int .i64 v, .int .i64 nx, .slice A6 n6 c6] 24) = w4 at *
      have h40 : ng ≤ 5000 ∧ n6 ≤ 5000 := by have := HN6.out; have := HNG.out; have := gone_le l ids; have := left_le l ids; have := HL.out.len; omega
      go_loopw [8, 9, 10] (fun i k r wx => ∃ q : Nat, q ≤ n ∧ r = .int .i64 (q : Int) ∧ i = .int .i64 (((goneL (l.take q) ids).length : Nat) : Int) ∧ k = .int .i64 (((leftL (l.take q) ids).length : Nat) : Int) ∧ Below w4.heap.size w4 wx) (fun _ _ r _ => n - (intOf r).toNat)
      case atStart => exact ⟨0, Nat.zero_le _, rfl, rfl, rfl, Below.refl _ _⟩
      case round =>
        obtain ⟨r, hr, rfl, rfl, rfl, hb⟩ := hrel
        have HBR := Lib.hid hb
        have HB4 := Lib.hid (HB3.out.trans (hb.mono HB3.out.size))
        have h1r := H13.out.below hb H13.out.lt
        have kxr := KX.out.below hb KX.out.lt
        have H1R := Lib.hid h1r
        have KXR := Lib.hid kxr
        have HGT := Lib.hid (gone_take_le l ids r)
        have HLT := Lib.hid (left_take_le l ids r)
        obtain ⟨⟨b0, b1, b2, b3⟩, -, -, -, -⟩ := h1r.four
        clear hb h1r kxr
        by_cases hlt : r < n
        · obtain ⟨b, o, x, rfl, hbb, hla, htk, hrow, hin⟩ := (HL.out.later HB4.out).at_ hlt
          have HLA := Lib.hid hla
          have HTK := Lib.hid htk
          have HROW := Lib.hid hrow
          have hk0 : (0 : Int) ≤ (r : Int) := by omega
          have hkn : (r : Int) < (n : Int) := by omega
          obtain ⟨⟨u, f, d, bl⟩, xA, xn, xc⟩ := x
          have hb1 : Below wr.heap.size wr (wr.alloc (.cells #[.int .i64 u, .int .i64 f, .int .i64 d, .slice xA xn xc] 27)) := (Below.refl _ _).alloc (Nat.le_refl _) _
          have HIN := Lib.hid (hin.later hb1)
          have HM1 : Hid (Bk (wr.alloc (.cells #[.int .i64 u, .int .i64 f, .int .i64 d, .slice xA xn xc] 27)) wr.heap.size 27 #[.int .i64 u, .int .i64 f, .int .i64 d, .slice xA xn xc]) := Lib.hid (Bk.new _ _ _)
          have HBW := Lib.hid (HBR.out.trans (hb1.mono HBR.out.size))
          have KXW := Lib.hid (KXR.out.below hb1 KXR.out.lt)
          have hi5 : (goneL (l.take r) ids).length ≤ 5000 := by have := HGT.out; omega
          have hk5 : (leftL (l.take r) ids).length ≤ 5000 := by have := HLT.out; omega
          clear hla htk hrow hin hb1
          obtain ⟨gi, hgi⟩ : ∃ q, (goneL (l.take r) ids).length = q := ⟨_, rfl⟩
          obtain ⟨ki, hki⟩ : ∃ q, (leftL (l.take r) ids).length = q := ⟨_, rfl⟩
          by_cases hq : u ∈ ids
          · have hgone := gone_at HLA.out hq
            have hgs := gone_snoc HTK.out hq
            have HGI : Hid ((goneL (l.take (r + 1)) ids).length = gi + 1 ∧ (leftL (l.take (r + 1)) ids).length = ki) := Lib.hid (by rw [hgs.1, hgs.2, List.length_append, hgi]; exact ⟨rfl, hki⟩)
            rw [hgi] at hgone hi5 ⊢
            rw [hki] at hk5 ⊢
            have hgl : gi < ng := by rw [← HNG.out]; exact (List.getElem?_eq_some_iff.1 hgone).1
            have HGONE := Lib.hid hgone
            clear hgs hgi hki hq hgone HGT HLT
            go_wp2_with ((with_reducible show wpList _ _ _ (⟨some 49, _, _, _, _, _⟩ :: _) _ _); refine hold ?_)
            refine held (wpList_load_mid rfl 27 (.tmp 48) rfl b (o + r * 4) rfl _ _ HROW.out Try.underlying27 rfl (by kernel_rfl) ?_)
            unfold hdC
            go_wp2_with fail
            obtain ⟨bm, hbm⟩ : ∃ q, wr.heap.size = q := ⟨_, rfl⟩
            try rw [hbm] at HM1
            try rw [hbm]
            clear hbm
            generalize wr.alloc (.cells #[.int .i64 u, .int .i64 f, .int .i64 d, .slice xA xn xc] 27) = wm at *
            obtain ⟨⟨m0, m1, m2, m3⟩, -, -, -, -⟩ := HM1.out.four
            have lm := HM1.out.lt
            obtain ⟨gb, go, y, rfl, hyb, hly, _, hrowy, hiny⟩ := (LG.out.later HBW.out).at_ hgl
            have hye : y.m = ⟨u, f, d, bl⟩ := Option.some.inj (hly.symm.trans HGONE.out)
            obtain ⟨ym, yA, yn, yc⟩ := y
            replace hye : ym = ⟨u, f, d, bl⟩ := hye
            subst hye
            have HINY := Lib.hid hiny
            have hry := row4 hrowy
            simp only at hry
            obtain ⟨y0, y1, y2, y3⟩ := hry
            have g0 : (0 : Int) ≤ (gi : Int) := by omega
            have g1 : (gi : Int) < (ng : Int) := by omega
            clear hly hrowy hiny
            refine wp_region_held_drew (S := fun W' => Below wm.heap.size wm W') hmx (Below.refl wm.heap.size wm).drew (fun hHeld => ?_)
            generalize hW0 : wm.drew = W at *
            clear hW0
            simp only [List.size_toArray, List.length_cons, List.length_nil, Nat.reduceAdd]
            refine wpAnyH_take (i := 0) (v := .int .i64 (gi : Int)) rfl (by kernel_rfl) (by kernel_rfl) (by kernel_rfl) (fun _ _ _ h => h) (Or.inl ⟨by rfl, fun w0 hC => by simp [execOp, Act.eval, Act.put, go_sem]⟩) hHeld ?_
            try simp only [Act.put, List.setIfInBounds_toArray, List.set_cons_zero, List.set_cons_succ, List.getElem_toArray, List.getElem_cons_zero, List.getElem_cons_succ]
            refine wpAnyH_take (i := 1) (v := .slice (some ⟨gb, go, none⟩) ng cg) rfl (by kernel_rfl) (by kernel_rfl) (by kernel_rfl) (fun _ _ _ h => h) (Or.inl ⟨by rfl, fun w0 hC => by simp [execOp, Act.eval, Act.put, go_sem]⟩) hHeld ?_
            try simp only [Act.put, List.setIfInBounds_toArray, List.set_cons_zero, List.set_cons_succ, List.getElem_toArray, List.getElem_cons_zero, List.getElem_cons_succ]
            refine wpAnyH_take (i := 2) (v := .int .i64 (ng : Int)) rfl (by kernel_rfl) (by kernel_rfl) (by kernel_rfl) (fun _ _ _ h => h) (Or.inl ⟨by rfl, fun w0 hC => by simp [execOp, Act.eval, Act.put, go_sem]⟩) hHeld ?_
            try simp only [Act.put, List.setIfInBounds_toArray, List.set_cons_zero, List.set_cons_succ, List.getElem_toArray, List.getElem_cons_zero, List.getElem_cons_succ]
            refine wpAnyH_take (i := 3) (v := .bool true) rfl (by kernel_rfl) (by kernel_rfl) (by kernel_rfl) (fun _ _ _ h => h) (Or.inl ⟨by rfl, fun w0 hC => by simp [execOp, Act.eval, Act.put, go_sem]; omega⟩) hHeld ?_
            try simp only [Act.put, List.setIfInBounds_toArray, List.set_cons_zero, List.set_cons_succ, List.getElem_toArray, List.getElem_cons_zero, List.getElem_cons_succ]
            refine wpAnyH_take (i := 4) (v := .bool true) rfl (by kernel_rfl) (by kernel_rfl) (by kernel_rfl) (fun _ _ _ h => h) (Or.inl ⟨by rfl, fun w0 hC => by simp [execOp, Act.eval, Act.put, go_sem]⟩) hHeld ?_
            try simp only [Act.put, List.setIfInBounds_toArray, List.set_cons_zero, List.set_cons_succ, List.getElem_toArray, List.getElem_cons_zero, List.getElem_cons_succ]
            refine wpAnyH_take (i := 5) (v := .slice (some ⟨gb, go, none⟩) ng cg) rfl (by kernel_rfl) (by kernel_rfl) (by kernel_rfl) (fun _ _ _ h => h) (Or.inl ⟨by rfl, fun w0 hC => by simp [execOp, Act.eval, Act.put, go_sem]⟩) hHeld ?_
            try simp only [Act.put, List.setIfInBounds_toArray, List.set_cons_zero, List.set_cons_succ, List.getElem_toArray, List.getElem_cons_zero, List.getElem_cons_succ]
            refine wpAnyH_take (i := 6) (v := .int .i64 (gi : Int)) rfl (by kernel_rfl) (by kernel_rfl) (by kernel_rfl) (fun _ _ _ h => h) (Or.inl ⟨by rfl, fun w0 hC => by simp [execOp, Act.eval, Act.put, go_sem]⟩) hHeld ?_
            try simp only [Act.put, List.setIfInBounds_toArray, List.set_cons_zero, List.set_cons_succ, List.getElem_toArray, List.getElem_cons_zero, List.getElem_cons_succ]
            refine wpAnyH_take (i := 7) (v := .pointer (some ⟨gb, go + gi * 4, none⟩)) rfl (by kernel_rfl) (by kernel_rfl) (by kernel_rfl) (fun _ _ _ h => h) (Or.inl ⟨by rfl, fun w0 hC => by simp [execOp, Act.eval, Act.put, go_sem, g0, g1, hgl]⟩) hHeld ?_
            try simp only [Act.put, List.setIfInBounds_toArray, List.set_cons_zero, List.set_cons_succ, List.getElem_toArray, List.getElem_cons_zero, List.getElem_cons_succ]
            refine wpAnyH_take (i := 8) (v := .agg #[.int .i64 u, .int .i64 f, .int .i64 d, .slice yA yn yc]) rfl (by kernel_rfl) (by kernel_rfl) (by kernel_rfl) (fun _ _ _ h => h) (Or.inl ⟨by rfl, fun w0 hC => by simp [execOp, Act.eval, Act.put, go_sem, (hC.cell (p := ⟨gb, go + gi * 4, none⟩) hyb).trans y0, (hC.cell (p := ⟨gb, go + gi * 4 + 1, none⟩) hyb).trans y1, (hC.cell (p := ⟨gb, go + gi * 4 + 2, none⟩) hyb).trans y2, (hC.cell (p := ⟨gb, go + gi * 4 + 3, none⟩) hyb).trans y3]⟩) hHeld ?_
            try simp only [Act.put, List.setIfInBounds_toArray, List.set_cons_zero, List.set_cons_succ, List.getElem_toArray, List.getElem_cons_zero, List.getElem_cons_succ]
            refine wpAnyH_take (i := 9) (v := .agg #[.int .i64 u, .int .i64 f, .int .i64 d, .slice xA xn xc]) rfl (by kernel_rfl) (by kernel_rfl) (by kernel_rfl) (fun _ _ _ h => h) (Or.inl ⟨by rfl, fun w0 hC => by simp [execOp, Act.eval, Act.put, go_sem, (hC.cell (p := ⟨bm, 0, none⟩) lm).trans m0, (hC.cell (p := ⟨bm, 1, none⟩) lm).trans m1, (hC.cell (p := ⟨bm, 2, none⟩) lm).trans m2, (hC.cell (p := ⟨bm, 3, none⟩) lm).trans m3]⟩) hHeld ?_
            try simp only [Act.put, List.setIfInBounds_toArray, List.set_cons_zero, List.set_cons_succ, List.getElem_toArray, List.getElem_cons_zero, List.getElem_cons_succ]
            refine wpAnyH_ready (rs := [10]) (by kernel_rfl) (by simp) (AllReadyH.cons rfl (fun K hK => ?_) AllReadyH.nil)
            rw [if_pos (by rfl)]
            go_wp2_with fail
            refine (x11sameMsg_any u f d yA yn yc bl u f d xA xn xc bl W (HINY.out.later hHeld).1 (HIN.out.later hHeld).1).mono ?_
            rintro e W2 ⟨rfl, hw2⟩
            rw [show decide ((⟨u, f, d, bl⟩ : Mg) = ⟨u, f, d, bl⟩) = true from decide_eq_true rfl]
            have hb2 : Below W.heap.size W W2 := by rw [hw2]; exact ((Below.refl _ _).alloc (Nat.le_refl _) _).alloc (by simp) _
            have hS := hHeld.trans (hb2.mono hHeld.size)
            clear hHeld hb2 hw2
            refine hK.out _ _ hS (fun hHeld => ?_)
            clear hK K
            try simp only [Act.put, List.setIfInBounds_toArray, List.set_cons_zero, List.set_cons_succ, List.getElem_toArray, List.getElem_cons_zero, List.getElem_cons_succ]
            clear hS
            generalize W2 = W2' at *
            refine wpAnyH_take (i := 11) (v := .bool true) rfl (by kernel_rfl) (by kernel_rfl) (by kernel_rfl) (fun _ _ _ h => h) (Or.inl ⟨by rfl, fun w0 hC => by simp [execOp, Act.eval, Act.put, go_sem]⟩) hHeld ?_
            try simp only [Act.put, List.setIfInBounds_toArray, List.set_cons_zero, List.set_cons_succ, List.getElem_toArray, List.getElem_cons_zero, List.getElem_cons_succ]
            refine wpAnyH_take (i := 12) (v := .bool true) rfl (by kernel_rfl) (by kernel_rfl) (by kernel_rfl) (fun _ _ _ h => h) (Or.inl ⟨by rfl, fun w0 hC => by simp [execOp, Act.eval, Act.put, go_sem]⟩) hHeld ?_
            try simp only [Act.put, List.setIfInBounds_toArray, List.set_cons_zero, List.set_cons_succ, List.getElem_toArray, List.getElem_cons_zero, List.getElem_cons_succ]
            refine wpAnyH_done (by kernel_rfl) ?_ _
            have HBZ0 := Lib.hid (HBW.out.trans (hHeld.mono HBW.out.size))
            have HHELD := Lib.hid hHeld
            clear hHeld
            go_wp2_with fail
            go_roundw
            case rel => exact ⟨r + 1, by omega, by go_num, by rw [HGI.out.1]; go_num, by rw [HGI.out.2], HBZ0.out⟩
            case measure => simp [intOf]; omega
          · have hleft := left_at HLA.out hq
            have hgs := left_snoc HTK.out hq
            have HGI : Hid ((goneL (l.take (r + 1)) ids).length = gi ∧ (leftL (l.take (r + 1)) ids).length = ki + 1) := Lib.hid (by rw [hgs.1, hgs.2, List.length_append, hki]; exact ⟨hgi, rfl⟩)
            rw [hgi] at hi5 ⊢
            rw [hki] at hleft hk5 ⊢
            have hkl : ki < n6 := by rw [← HN6.out]; exact (List.getElem?_eq_some_iff.1 hleft).1
            have HLEFT := Lib.hid hleft
            have HQ := Lib.hid hq
            clear hgs hgi hki hq hleft HGT HLT
            go_wp2_with ((with_reducible show wpList _ _ _ (⟨some 49, _, _, _, _, _⟩ :: _) _ _); refine hold ?_)
            refine held (wpList_load_mid rfl 27 (.tmp 48) rfl b (o + r * 4) rfl _ _ HROW.out Try.underlying27 rfl (by kernel_rfl) ?_)
            unfold hdC
            go_wp2_with fail
            obtain ⟨bm, hbm⟩ : ∃ q, wr.heap.size = q := ⟨_, rfl⟩
            try rw [hbm] at HM1
            try rw [hbm]
            clear hbm
            generalize wr.alloc (.cells #[.int .i64 u, .int .i64 f, .int .i64 d, .slice xA xn xc] 27) = wm at *
            obtain ⟨⟨m0, m1, m2, m3⟩, -, -, -, -⟩ := HM1.out.four
            have lm := HM1.out.lt
            by_cases hgl : gi < ng
            · obtain ⟨gb, go, y, rfl, hyb, hly, _, hrowy, hiny⟩ := (LG.out.later HBW.out).at_ hgl
              have hyu := gone_in hly
              obtain ⟨⟨gu, gf, gd, gbl⟩, yA, yn, yc⟩ := y
              have HNE : Hid (decide ((⟨gu, gf, gd, gbl⟩ : Mg) = ⟨u, f, d, bl⟩) = false) := Lib.hid (decide_eq_false (fun e => HQ.out (by have := congrArg Mg.uid e; simp only at this; rw [← this]; exact hyu)))
              have HINY := Lib.hid hiny
              have hry := row4 hrowy
              simp only at hry
              obtain ⟨y0, y1, y2, y3⟩ := hry
              have g0 : (0 : Int) ≤ (gi : Int) := by omega
              have g1 : (gi : Int) < (ng : Int) := by omega
              clear hly hrowy hiny hyu
              refine wp_region_held_drew (S := fun W' => Below wm.heap.size wm W') hmx (Below.refl wm.heap.size wm).drew (fun hHeld => ?_)
              generalize hW0 : wm.drew = W at *
              clear hW0
              simp only [List.size_toArray, List.length_cons, List.length_nil, Nat.reduceAdd]
              refine wpAnyH_take (i := 0) (v := .int .i64 (gi : Int)) rfl (by kernel_rfl) (by kernel_rfl) (by kernel_rfl) (fun _ _ _ h => h) (Or.inl ⟨by rfl, fun w0 hC => by simp [execOp, Act.eval, Act.put, go_sem]⟩) hHeld ?_
              try simp only [Act.put, List.setIfInBounds_toArray, List.set_cons_zero, List.set_cons_succ, List.getElem_toArray, List.getElem_cons_zero, List.getElem_cons_succ]
              refine wpAnyH_take (i := 1) (v := .slice (some ⟨gb, go, none⟩) ng cg) rfl (by kernel_rfl) (by kernel_rfl) (by kernel_rfl) (fun _ _ _ h => h) (Or.inl ⟨by rfl, fun w0 hC => by simp [execOp, Act.eval, Act.put, go_sem]⟩) hHeld ?_
              try simp only [Act.put, List.setIfInBounds_toArray, List.set_cons_zero, List.set_cons_succ, List.getElem_toArray, List.getElem_cons_zero, List.getElem_cons_succ]
              refine wpAnyH_take (i := 2) (v := .int .i64 (ng : Int)) rfl (by kernel_rfl) (by kernel_rfl) (by kernel_rfl) (fun _ _ _ h => h) (Or.inl ⟨by rfl, fun w0 hC => by simp [execOp, Act.eval, Act.put, go_sem]⟩) hHeld ?_
              try simp only [Act.put, List.setIfInBounds_toArray, List.set_cons_zero, List.set_cons_succ, List.getElem_toArray, List.getElem_cons_zero, List.getElem_cons_succ]
              refine wpAnyH_take (i := 3) (v := .bool true) rfl (by kernel_rfl) (by kernel_rfl) (by kernel_rfl) (fun _ _ _ h => h) (Or.inl ⟨by rfl, fun w0 hC => by simp [execOp, Act.eval, Act.put, go_sem]; omega⟩) hHeld ?_
              try simp only [Act.put, List.setIfInBounds_toArray, List.set_cons_zero, List.set_cons_succ, List.getElem_toArray, List.getElem_cons_zero, List.getElem_cons_succ]
              refine wpAnyH_take (i := 4) (v := .bool true) rfl (by kernel_rfl) (by kernel_rfl) (by kernel_rfl) (fun _ _ _ h => h) (Or.inl ⟨by rfl, fun w0 hC => by simp [execOp, Act.eval, Act.put, go_sem]⟩) hHeld ?_
              try simp only [Act.put, List.setIfInBounds_toArray, List.set_cons_zero, List.set_cons_succ, List.getElem_toArray, List.getElem_cons_zero, List.getElem_cons_succ]
              refine wpAnyH_take (i := 5) (v := .slice (some ⟨gb, go, none⟩) ng cg) rfl (by kernel_rfl) (by kernel_rfl) (by kernel_rfl) (fun _ _ _ h => h) (Or.inl ⟨by rfl, fun w0 hC => by simp [execOp, Act.eval, Act.put, go_sem]⟩) hHeld ?_
              try simp only [Act.put, List.setIfInBounds_toArray, List.set_cons_zero, List.set_cons_succ, List.getElem_toArray, List.getElem_cons_zero, List.getElem_cons_succ]
              refine wpAnyH_take (i := 6) (v := .int .i64 (gi : Int)) rfl (by kernel_rfl) (by kernel_rfl) (by kernel_rfl) (fun _ _ _ h => h) (Or.inl ⟨by rfl, fun w0 hC => by simp [execOp, Act.eval, Act.put, go_sem]⟩) hHeld ?_
              try simp only [Act.put, List.setIfInBounds_toArray, List.set_cons_zero, List.set_cons_succ, List.getElem_toArray, List.getElem_cons_zero, List.getElem_cons_succ]
              refine wpAnyH_take (i := 7) (v := .pointer (some ⟨gb, go + gi * 4, none⟩)) rfl (by kernel_rfl) (by kernel_rfl) (by kernel_rfl) (fun _ _ _ h => h) (Or.inl ⟨by rfl, fun w0 hC => by simp [execOp, Act.eval, Act.put, go_sem, g0, g1, hgl]⟩) hHeld ?_
              try simp only [Act.put, List.setIfInBounds_toArray, List.set_cons_zero, List.set_cons_succ, List.getElem_toArray, List.getElem_cons_zero, List.getElem_cons_succ]
              refine wpAnyH_take (i := 8) (v := .agg #[.int .i64 gu, .int .i64 gf, .int .i64 gd, .slice yA yn yc]) rfl (by kernel_rfl) (by kernel_rfl) (by kernel_rfl) (fun _ _ _ h => h) (Or.inl ⟨by rfl, fun w0 hC => by simp [execOp, Act.eval, Act.put, go_sem, (hC.cell (p := ⟨gb, go + gi * 4, none⟩) hyb).trans y0, (hC.cell (p := ⟨gb, go + gi * 4 + 1, none⟩) hyb).trans y1, (hC.cell (p := ⟨gb, go + gi * 4 + 2, none⟩) hyb).trans y2, (hC.cell (p := ⟨gb, go + gi * 4 + 3, none⟩) hyb).trans y3]⟩) hHeld ?_
              try simp only [Act.put, List.setIfInBounds_toArray, List.set_cons_zero, List.set_cons_succ, List.getElem_toArray, List.getElem_cons_zero, List.getElem_cons_succ]
              refine wpAnyH_take (i := 9) (v := .agg #[.int .i64 u, .int .i64 f, .int .i64 d, .slice xA xn xc]) rfl (by kernel_rfl) (by kernel_rfl) (by kernel_rfl) (fun _ _ _ h => h) (Or.inl ⟨by rfl, fun w0 hC => by simp [execOp, Act.eval, Act.put, go_sem, (hC.cell (p := ⟨bm, 0, none⟩) lm).trans m0, (hC.cell (p := ⟨bm, 1, none⟩) lm).trans m1, (hC.cell (p := ⟨bm, 2, none⟩) lm).trans m2, (hC.cell (p := ⟨bm, 3, none⟩) lm).trans m3]⟩) hHeld ?_
              try simp only [Act.put, List.setIfInBounds_toArray, List.set_cons_zero, List.set_cons_succ, List.getElem_toArray, List.getElem_cons_zero, List.getElem_cons_succ]
              refine wpAnyH_ready (rs := [10]) (by kernel_rfl) (by simp) (AllReadyH.cons rfl (fun K hK => ?_) AllReadyH.nil)
              rw [if_pos (by rfl)]
              go_wp2_with fail
              refine (x11sameMsg_any gu gf gd yA yn yc gbl u f d xA xn xc bl W (HINY.out.later hHeld).1 (HIN.out.later hHeld).1).mono ?_
              rintro e W2 ⟨rfl, hw2⟩
              rw [HNE.out]
              have hb2 : Below W.heap.size W W2 := by rw [hw2]; exact ((Below.refl _ _).alloc (Nat.le_refl _) _).alloc (by simp) _
              have hS := hHeld.trans (hb2.mono hHeld.size)
              clear hHeld hb2 hw2
              refine hK.out _ _ hS (fun hHeld => ?_)
              clear hK K
              try simp only [Act.put, List.setIfInBounds_toArray, List.set_cons_zero, List.set_cons_succ, List.getElem_toArray, List.getElem_cons_zero, List.getElem_cons_succ]
              clear hS
              generalize W2 = W2' at *
              refine wpAnyH_take (i := 11) (v := .bool false) rfl (by kernel_rfl) (by kernel_rfl) (by kernel_rfl) (fun _ _ _ h => h) (Or.inl ⟨by rfl, fun w0 hC => by simp [execOp, Act.eval, Act.put, go_sem]⟩) hHeld ?_
              try simp only [Act.put, List.setIfInBounds_toArray, List.set_cons_zero, List.set_cons_succ, List.getElem_toArray, List.getElem_cons_zero, List.getElem_cons_succ]
              refine wpAnyH_take (i := 12) (v := .bool false) rfl (by kernel_rfl) (by kernel_rfl) (by kernel_rfl) (fun _ _ _ h => h) (Or.inl ⟨by rfl, fun w0 hC => by simp [execOp, Act.eval, Act.put, go_sem]⟩) hHeld ?_
              try simp only [Act.put, List.setIfInBounds_toArray, List.set_cons_zero, List.set_cons_succ, List.getElem_toArray, List.getElem_cons_zero, List.getElem_cons_succ]
              refine wpAnyH_done (by kernel_rfl) ?_ _
              have HBZ0 := Lib.hid (HBW.out.trans (hHeld.mono HBW.out.size))
              have HHELD := Lib.hid hHeld
              clear hHeld
              clear y0 y1 y2 y3 m0 m1 m2 m3
              obtain ⟨zb, zo, z, rfl, hzb, hlz, _, hrowz, hinz⟩ := (LX.out.later HBZ0.out).at_ hkl
              have hze : z.m = ⟨u, f, d, bl⟩ := Option.some.inj (hlz.symm.trans HLEFT.out)
              obtain ⟨zm, zA, zn, zc⟩ := z
              replace hze : zm = ⟨u, f, d, bl⟩ := hze
              subst hze
              have HINZ := Lib.hid hinz
              have hrz := row4 hrowz
              simp only at hrz
              obtain ⟨z0, z1, z2, z3⟩ := hrz
              have p0 : (0 : Int) ≤ (ki : Int) := by omega
              have p1 : (ki : Int) < (n6 : Int) := by omega
              have kxz := KXW.out.below HHELD.out KXW.out.lt
              have hmz := HM1.out.below HHELD.out HM1.out.lt
              have HINM := Lib.hid (HIN.out.later HHELD.out)
              have lx := kxz.lt
              have lmz := hmz.lt
              have x3 := kxz.cell 3
              obtain ⟨⟨n0, n1, n2, n3⟩, -, -, -, -⟩ := hmz.four
              clear hlz hrowz hinz kxz hmz
              go_wp2_with fail
              generalize W2' = wz at *
              refine wp_region_held_drew (S := fun W' => Below wz.heap.size wz W') hmx (Below.refl wz.heap.size wz).drew (fun hHeld => ?_)
              generalize hW0 : wz.drew = W at *
              clear hW0
              simp only [List.size_toArray, List.length_cons, List.length_nil, Nat.reduceAdd]
              refine wpAnyH_take (i := 0) (v := .int .i64 (ki : Int)) rfl (by kernel_rfl) (by kernel_rfl) (by kernel_rfl) (fun _ _ _ h => h) (Or.inl ⟨by rfl, fun w0 hC => by simp [execOp, Act.eval, Act.put, go_sem]⟩) hHeld ?_
              try simp only [Act.put, List.setIfInBounds_toArray, List.set_cons_zero, List.set_cons_succ, List.getElem_toArray, List.getElem_cons_zero, List.getElem_cons_succ]
              refine wpAnyH_take (i := 1) (v := .pointer (some ⟨bx, 3, none⟩)) rfl (by kernel_rfl) (by kernel_rfl) (by kernel_rfl) (fun _ _ _ h => h) (Or.inl ⟨by rfl, fun w0 hC => by simp [execOp, Act.eval, Act.put, go_sem]⟩) hHeld ?_
              try simp only [Act.put, List.setIfInBounds_toArray, List.set_cons_zero, List.set_cons_succ, List.getElem_toArray, List.getElem_cons_zero, List.getElem_cons_succ]
              refine wpAnyH_take (i := 2) (v := .slice (some ⟨zb, zo, none⟩) n6 c6) rfl (by kernel_rfl) (by kernel_rfl) (by kernel_rfl) (fun _ _ _ h => h) (Or.inl ⟨by rfl, fun w0 hC => by simp [execOp, Act.eval, Act.put, go_sem, (hC.cell (p := ⟨bx, 3, none⟩) lx).trans x3]⟩) hHeld ?_
              try simp only [Act.put, List.setIfInBounds_toArray, List.set_cons_zero, List.set_cons_succ, List.getElem_toArray, List.getElem_cons_zero, List.getElem_cons_succ]
              refine wpAnyH_take (i := 3) (v := .int .i64 (n6 : Int)) rfl (by kernel_rfl) (by kernel_rfl) (by kernel_rfl) (fun _ _ _ h => h) (Or.inl ⟨by rfl, fun w0 hC => by simp [execOp, Act.eval, Act.put, go_sem]⟩) hHeld ?_
              try simp only [Act.put, List.setIfInBounds_toArray, List.set_cons_zero, List.set_cons_succ, List.getElem_toArray, List.getElem_cons_zero, List.getElem_cons_succ]
              refine wpAnyH_take (i := 4) (v := .bool true) rfl (by kernel_rfl) (by kernel_rfl) (by kernel_rfl) (fun _ _ _ h => h) (Or.inl ⟨by rfl, fun w0 hC => by simp [execOp, Act.eval, Act.put, go_sem]; omega⟩) hHeld ?_
              try simp only [Act.put, List.setIfInBounds_toArray, List.set_cons_zero, List.set_cons_succ, List.getElem_toArray, List.getElem_cons_zero, List.getElem_cons_succ]
              refine wpAnyH_take (i := 5) (v := .bool true) rfl (by kernel_rfl) (by kernel_rfl) (by kernel_rfl) (fun _ _ _ h => h) (Or.inl ⟨by rfl, fun w0 hC => by simp [execOp, Act.eval, Act.put, go_sem]⟩) hHeld ?_
              try simp only [Act.put, List.setIfInBounds_toArray, List.set_cons_zero, List.set_cons_succ, List.getElem_toArray, List.getElem_cons_zero, List.getElem_cons_succ]
              refine wpAnyH_take (i := 6) (v := .pointer (some ⟨bx, 3, none⟩)) rfl (by kernel_rfl) (by kernel_rfl) (by kernel_rfl) (fun _ _ _ h => h) (Or.inl ⟨by rfl, fun w0 hC => by simp [execOp, Act.eval, Act.put, go_sem]⟩) hHeld ?_
              try simp only [Act.put, List.setIfInBounds_toArray, List.set_cons_zero, List.set_cons_succ, List.getElem_toArray, List.getElem_cons_zero, List.getElem_cons_succ]
              refine wpAnyH_take (i := 7) (v := .slice (some ⟨zb, zo, none⟩) n6 c6) rfl (by kernel_rfl) (by kernel_rfl) (by kernel_rfl) (fun _ _ _ h => h) (Or.inl ⟨by rfl, fun w0 hC => by simp [execOp, Act.eval, Act.put, go_sem, (hC.cell (p := ⟨bx, 3, none⟩) lx).trans x3]⟩) hHeld ?_
              try simp only [Act.put, List.setIfInBounds_toArray, List.set_cons_zero, List.set_cons_succ, List.getElem_toArray, List.getElem_cons_zero, List.getElem_cons_succ]
              refine wpAnyH_take (i := 8) (v := .int .i64 (ki : Int)) rfl (by kernel_rfl) (by kernel_rfl) (by kernel_rfl) (fun _ _ _ h => h) (Or.inl ⟨by rfl, fun w0 hC => by simp [execOp, Act.eval, Act.put, go_sem]⟩) hHeld ?_
              try simp only [Act.put, List.setIfInBounds_toArray, List.set_cons_zero, List.set_cons_succ, List.getElem_toArray, List.getElem_cons_zero, List.getElem_cons_succ]
              refine wpAnyH_take (i := 9) (v := .pointer (some ⟨zb, zo + ki * 4, none⟩)) rfl (by kernel_rfl) (by kernel_rfl) (by kernel_rfl) (fun _ _ _ h => h) (Or.inl ⟨by rfl, fun w0 hC => by simp [execOp, Act.eval, Act.put, go_sem, p0, p1, hkl]⟩) hHeld ?_
              try simp only [Act.put, List.setIfInBounds_toArray, List.set_cons_zero, List.set_cons_succ, List.getElem_toArray, List.getElem_cons_zero, List.getElem_cons_succ]
              refine wpAnyH_take (i := 10) (v := .agg #[.int .i64 u, .int .i64 f, .int .i64 d, .slice zA zn zc]) rfl (by kernel_rfl) (by kernel_rfl) (by kernel_rfl) (fun _ _ _ h => h) (Or.inl ⟨by rfl, fun w0 hC => by simp [execOp, Act.eval, Act.put, go_sem, (hC.cell (p := ⟨zb, zo + ki * 4, none⟩) hzb).trans z0, (hC.cell (p := ⟨zb, zo + ki * 4 + 1, none⟩) hzb).trans z1, (hC.cell (p := ⟨zb, zo + ki * 4 + 2, none⟩) hzb).trans z2, (hC.cell (p := ⟨zb, zo + ki * 4 + 3, none⟩) hzb).trans z3]⟩) hHeld ?_
              try simp only [Act.put, List.setIfInBounds_toArray, List.set_cons_zero, List.set_cons_succ, List.getElem_toArray, List.getElem_cons_zero, List.getElem_cons_succ]
              refine wpAnyH_take (i := 11) (v := .agg #[.int .i64 u, .int .i64 f, .int .i64 d, .slice xA xn xc]) rfl (by kernel_rfl) (by kernel_rfl) (by kernel_rfl) (fun _ _ _ h => h) (Or.inl ⟨by rfl, fun w0 hC => by simp [execOp, Act.eval, Act.put, go_sem, (hC.cell (p := ⟨bm, 0, none⟩) lmz).trans n0, (hC.cell (p := ⟨bm, 1, none⟩) lmz).trans n1, (hC.cell (p := ⟨bm, 2, none⟩) lmz).trans n2, (hC.cell (p := ⟨bm, 3, none⟩) lmz).trans n3]⟩) hHeld ?_
              try simp only [Act.put, List.setIfInBounds_toArray, List.set_cons_zero, List.set_cons_succ, List.getElem_toArray, List.getElem_cons_zero, List.getElem_cons_succ]
              refine wpAnyH_ready (rs := [12]) (by kernel_rfl) (by simp) (AllReadyH.cons rfl (fun K hK => ?_) AllReadyH.nil)
              rw [if_pos (by rfl)]
              go_wp2_with fail
              refine (x11sameMsg_any u f d zA zn zc bl u f d xA xn xc bl W (HINZ.out.later hHeld).1 (HINM.out.later hHeld).1).mono ?_
              rintro e W3 ⟨rfl, hw2⟩
              rw [show decide ((⟨u, f, d, bl⟩ : Mg) = ⟨u, f, d, bl⟩) = true from decide_eq_true rfl]
              have hb2 : Below W.heap.size W W3 := by rw [hw2]; exact ((Below.refl _ _).alloc (Nat.le_refl _) _).alloc (by simp) _
              have hS := hHeld.trans (hb2.mono hHeld.size)
              clear hHeld hb2 hw2
              refine hK.out _ _ hS (fun hHeld => ?_)
              clear hK K
              try simp only [Act.put, List.setIfInBounds_toArray, List.set_cons_zero, List.set_cons_succ, List.getElem_toArray, List.getElem_cons_zero, List.getElem_cons_succ]
              clear hS
              refine wpAnyH_take (i := 13) (v := .bool true) rfl (by kernel_rfl) (by kernel_rfl) (by kernel_rfl) (fun _ _ _ h => h) (Or.inl ⟨by rfl, fun w0 hC => by simp [execOp, Act.eval, Act.put, go_sem]⟩) hHeld ?_
              try simp only [Act.put, List.setIfInBounds_toArray, List.set_cons_zero, List.set_cons_succ, List.getElem_toArray, List.getElem_cons_zero, List.getElem_cons_succ]
              refine wpAnyH_take (i := 14) (v := .bool true) rfl (by kernel_rfl) (by kernel_rfl) (by kernel_rfl) (fun _ _ _ h => h) (Or.inl ⟨by rfl, fun w0 hC => by simp [execOp, Act.eval, Act.put, go_sem]⟩) hHeld ?_
              try simp only [Act.put, List.setIfInBounds_toArray, List.set_cons_zero, List.set_cons_succ, List.getElem_toArray, List.getElem_cons_zero, List.getElem_cons_succ]
              refine wpAnyH_done (by kernel_rfl) ?_ _
              have HBZ := Lib.hid (HBZ0.out.trans (hHeld.mono HBZ0.out.size))
              clear hHeld
              go_wp2_with fail
              go_roundw
              case rel => exact ⟨r + 1, by omega, by go_num, by rw [HGI.out.1], by rw [HGI.out.2]; go_num, HBZ.out⟩
              case measure => simp [intOf]; omega
            · have hg1 : decide ((gi : Int) < (ng : Int)) = false := decide_eq_false (by omega)
              refine wp_region_held_drew (S := fun W' => Below wm.heap.size wm W') hmx (Below.refl wm.heap.size wm).drew (fun hHeld => ?_)
              generalize hW0 : wm.drew = W at *
              clear hW0
              simp only [List.size_toArray, List.length_cons, List.length_nil, Nat.reduceAdd]
              refine wpAnyH_take (i := 0) (v := .int .i64 (gi : Int)) rfl (by kernel_rfl) (by kernel_rfl) (by kernel_rfl) (fun _ _ _ h => h) (Or.inl ⟨by rfl, fun w0 hC => by simp [execOp, Act.eval, Act.put, go_sem]⟩) hHeld ?_
              try simp only [Act.put, List.setIfInBounds_toArray, List.set_cons_zero, List.set_cons_succ, List.getElem_toArray, List.getElem_cons_zero, List.getElem_cons_succ]
              refine wpAnyH_take (i := 1) (v := .slice Ag ng cg) rfl (by kernel_rfl) (by kernel_rfl) (by kernel_rfl) (fun _ _ _ h => h) (Or.inl ⟨by rfl, fun w0 hC => by simp [execOp, Act.eval, Act.put, go_sem]⟩) hHeld ?_
              try simp only [Act.put, List.setIfInBounds_toArray, List.set_cons_zero, List.set_cons_succ, List.getElem_toArray, List.getElem_cons_zero, List.getElem_cons_succ]
              refine wpAnyH_take (i := 2) (v := .int .i64 (ng : Int)) rfl (by kernel_rfl) (by kernel_rfl) (by kernel_rfl) (fun _ _ _ h => h) (Or.inl ⟨by rfl, fun w0 hC => by simp [execOp, Act.eval, Act.put, go_sem]⟩) hHeld ?_
              try simp only [Act.put, List.setIfInBounds_toArray, List.set_cons_zero, List.set_cons_succ, List.getElem_toArray, List.getElem_cons_zero, List.getElem_cons_succ]
              refine wpAnyH_take (i := 3) (v := .bool false) rfl (by kernel_rfl) (by kernel_rfl) (by kernel_rfl) (fun _ _ _ h => h) (Or.inl ⟨by rfl, fun w0 hC => by simp [execOp, Act.eval, Act.put, go_sem]; omega⟩) hHeld ?_
              try simp only [Act.put, List.setIfInBounds_toArray, List.set_cons_zero, List.set_cons_succ, List.getElem_toArray, List.getElem_cons_zero, List.getElem_cons_succ]
              refine wpAnyH_take (i := 4) (v := .bool false) rfl (by kernel_rfl) (by kernel_rfl) (by kernel_rfl) (fun _ _ _ h => h) (Or.inl ⟨by rfl, fun w0 hC => by simp [execOp, Act.eval, Act.put, go_sem]⟩) hHeld ?_
              try simp only [Act.put, List.setIfInBounds_toArray, List.set_cons_zero, List.set_cons_succ, List.getElem_toArray, List.getElem_cons_zero, List.getElem_cons_succ]
              refine wpAnyH_take (i := 5) (v := undef) rfl (by kernel_rfl) (by kernel_rfl) (by kernel_rfl) (fun _ _ _ h => h) (Or.inr ⟨by rfl, rfl⟩) hHeld ?_
              try simp only [Act.put, List.setIfInBounds_toArray, List.set_cons_zero, List.set_cons_succ, List.getElem_toArray, List.getElem_cons_zero, List.getElem_cons_succ]
              refine wpAnyH_take (i := 6) (v := undef) rfl (by kernel_rfl) (by kernel_rfl) (by kernel_rfl) (fun _ _ _ h => h) (Or.inr ⟨by rfl, rfl⟩) hHeld ?_
              try simp only [Act.put, List.setIfInBounds_toArray, List.set_cons_zero, List.set_cons_succ, List.getElem_toArray, List.getElem_cons_zero, List.getElem_cons_succ]
              refine wpAnyH_take (i := 7) (v := undef) rfl (by kernel_rfl) (by kernel_rfl) (by kernel_rfl) (fun _ _ _ h => h) (Or.inr ⟨by rfl, rfl⟩) hHeld ?_
              try simp only [Act.put, List.setIfInBounds_toArray, List.set_cons_zero, List.set_cons_succ, List.getElem_toArray, List.getElem_cons_zero, List.getElem_cons_succ]
              refine wpAnyH_take (i := 8) (v := undef) rfl (by kernel_rfl) (by kernel_rfl) (by kernel_rfl) (fun _ _ _ h => h) (Or.inr ⟨by rfl, rfl⟩) hHeld ?_
              try simp only [Act.put, List.setIfInBounds_toArray, List.set_cons_zero, List.set_cons_succ, List.getElem_toArray, List.getElem_cons_zero, List.getElem_cons_succ]
              refine wpAnyH_take (i := 9) (v := undef) rfl (by kernel_rfl) (by kernel_rfl) (by kernel_rfl) (fun _ _ _ h => h) (Or.inr ⟨by rfl, rfl⟩) hHeld ?_
              try simp only [Act.put, List.setIfInBounds_toArray, List.set_cons_zero, List.set_cons_succ, List.getElem_toArray, List.getElem_cons_zero, List.getElem_cons_succ]
              refine wpAnyH_take (i := 10) (v := undef) rfl (by kernel_rfl) (by kernel_rfl) (by kernel_rfl) (fun _ _ _ h => h) (Or.inr ⟨by rfl, rfl⟩) hHeld ?_
              try simp only [Act.put, List.setIfInBounds_toArray, List.set_cons_zero, List.set_cons_succ, List.getElem_toArray, List.getElem_cons_zero, List.getElem_cons_succ]
              refine wpAnyH_take (i := 11) (v := .bool false) rfl (by kernel_rfl) (by kernel_rfl) (by kernel_rfl) (fun _ _ _ h => h) (Or.inl ⟨by rfl, fun w0 hC => by simp [execOp, Act.eval, Act.put, go_sem]⟩) hHeld ?_
              try simp only [Act.put, List.setIfInBounds_toArray, List.set_cons_zero, List.set_cons_succ, List.getElem_toArray, List.getElem_cons_zero, List.getElem_cons_succ]
              refine wpAnyH_take (i := 12) (v := .bool false) rfl (by kernel_rfl) (by kernel_rfl) (by kernel_rfl) (fun _ _ _ h => h) (Or.inl ⟨by rfl, fun w0 hC => by simp [execOp, Act.eval, Act.put, go_sem]⟩) hHeld ?_
              try simp only [Act.put, List.setIfInBounds_toArray, List.set_cons_zero, List.set_cons_succ, List.getElem_toArray, List.getElem_cons_zero, List.getElem_cons_succ]
              refine wpAnyH_done (by kernel_rfl) ?_ _
              have HBZ0 := Lib.hid (HBW.out.trans (hHeld.mono HBW.out.size))
              have HHELD := Lib.hid hHeld
              clear hHeld hg1 m0 m1 m2 m3
              obtain ⟨zb, zo, z, rfl, hzb, hlz, _, hrowz, hinz⟩ := (LX.out.later HBZ0.out).at_ hkl
              have hze : z.m = ⟨u, f, d, bl⟩ := Option.some.inj (hlz.symm.trans HLEFT.out)
              obtain ⟨zm, zA, zn, zc⟩ := z
              replace hze : zm = ⟨u, f, d, bl⟩ := hze
              subst hze
              have HINZ := Lib.hid hinz
              have hrz := row4 hrowz
              simp only at hrz
              obtain ⟨z0, z1, z2, z3⟩ := hrz
              have p0 : (0 : Int) ≤ (ki : Int) := by omega
              have p1 : (ki : Int) < (n6 : Int) := by omega
              have kxz := KXW.out.below HHELD.out KXW.out.lt
              have hmz := HM1.out.below HHELD.out HM1.out.lt
              have HINM := Lib.hid (HIN.out.later HHELD.out)
              have lx := kxz.lt
              have lmz := hmz.lt
              have x3 := kxz.cell 3
              obtain ⟨⟨n0, n1, n2, n3⟩, -, -, -, -⟩ := hmz.four
              clear hlz hrowz hinz kxz hmz
              go_wp2_with fail
              generalize W = wz at *
              refine wp_region_held_drew (S := fun W' => Below wz.heap.size wz W') hmx (Below.refl wz.heap.size wz).drew (fun hHeld => ?_)
              generalize hW0 : wz.drew = W at *
              clear hW0
              simp only [List.size_toArray, List.length_cons, List.length_nil, Nat.reduceAdd]
              refine wpAnyH_take (i := 0) (v := .int .i64 (ki : Int)) rfl (by kernel_rfl) (by kernel_rfl) (by kernel_rfl) (fun _ _ _ h => h) (Or.inl ⟨by rfl, fun w0 hC => by simp [execOp, Act.eval, Act.put, go_sem]⟩) hHeld ?_
              try simp only [Act.put, List.setIfInBounds_toArray, List.set_cons_zero, List.set_cons_succ, List.getElem_toArray, List.getElem_cons_zero, List.getElem_cons_succ]
              refine wpAnyH_take (i := 1) (v := .pointer (some ⟨bx, 3, none⟩)) rfl (by kernel_rfl) (by kernel_rfl) (by kernel_rfl) (fun _ _ _ h => h) (Or.inl ⟨by rfl, fun w0 hC => by simp [execOp, Act.eval, Act.put, go_sem]⟩) hHeld ?_
              try simp only [Act.put, List.setIfInBounds_toArray, List.set_cons_zero, List.set_cons_succ, List.getElem_toArray, List.getElem_cons_zero, List.getElem_cons_succ]
              refine wpAnyH_take (i := 2) (v := .slice (some ⟨zb, zo, none⟩) n6 c6) rfl (by kernel_rfl) (by kernel_rfl) (by kernel_rfl) (fun _ _ _ h => h) (Or.inl ⟨by rfl, fun w0 hC => by simp [execOp, Act.eval, Act.put, go_sem, (hC.cell (p := ⟨bx, 3, none⟩) lx).trans x3]⟩) hHeld ?_
              try simp only [Act.put, List.setIfInBounds_toArray, List.set_cons_zero, List.set_cons_succ, List.getElem_toArray, List.getElem_cons_zero, List.getElem_cons_succ]
              refine wpAnyH_take (i := 3) (v := .int .i64 (n6 : Int)) rfl (by kernel_rfl) (by kernel_rfl) (by kernel_rfl) (fun _ _ _ h => h) (Or.inl ⟨by rfl, fun w0 hC => by simp [execOp, Act.eval, Act.put, go_sem]⟩) hHeld ?_
              try simp only [Act.put, List.setIfInBounds_toArray, List.set_cons_zero, List.set_cons_succ, List.getElem_toArray, List.getElem_cons_zero, List.getElem_cons_succ]
              refine wpAnyH_take (i := 4) (v := .bool true) rfl (by kernel_rfl) (by kernel_rfl) (by kernel_rfl) (fun _ _ _ h => h) (Or.inl ⟨by rfl, fun w0 hC => by simp [execOp, Act.eval, Act.put, go_sem]; omega⟩) hHeld ?_
              try simp only [Act.put, List.setIfInBounds_toArray, List.set_cons_zero, List.set_cons_succ, List.getElem_toArray, List.getElem_cons_zero, List.getElem_cons_succ]
              refine wpAnyH_take (i := 5) (v := .bool true) rfl (by kernel_rfl) (by kernel_rfl) (by kernel_rfl) (fun _ _ _ h => h) (Or.inl ⟨by rfl, fun w0 hC => by simp [execOp, Act.eval, Act.put, go_sem]⟩) hHeld ?_
              try simp only [Act.put, List.setIfInBounds_toArray, List.set_cons_zero, List.set_cons_succ, List.getElem_toArray, List.getElem_cons_zero, List.getElem_cons_succ]
              refine wpAnyH_take (i := 6) (v := .pointer (some ⟨bx, 3, none⟩)) rfl (by kernel_rfl) (by kernel_rfl) (by kernel_rfl) (fun _ _ _ h => h) (Or.inl ⟨by rfl, fun w0 hC => by simp [execOp, Act.eval, Act.put, go_sem]⟩) hHeld ?_
              try simp only [Act.put, List.setIfInBounds_toArray, List.set_cons_zero, List.set_cons_succ, List.getElem_toArray, List.getElem_cons_zero, List.getElem_cons_succ]
              refine wpAnyH_take (i := 7) (v := .slice (some ⟨zb, zo, none⟩) n6 c6) rfl (by kernel_rfl) (by kernel_rfl) (by kernel_rfl) (fun _ _ _ h => h) (Or.inl ⟨by rfl, fun w0 hC => by simp [execOp, Act.eval, Act.put, go_sem, (hC.cell (p := ⟨bx, 3, none⟩) lx).trans x3]⟩) hHeld ?_
              try simp only [Act.put, List.setIfInBounds_toArray, List.set_cons_zero, List.set_cons_succ, List.getElem_toArray, List.getElem_cons_zero, List.getElem_cons_succ]
              refine wpAnyH_take (i := 8) (v := .int .i64 (ki : Int)) rfl (by kernel_rfl) (by kernel_rfl) (by kernel_rfl) (fun _ _ _ h => h) (Or.inl ⟨by rfl, fun w0 hC => by simp [execOp, Act.eval, Act.put, go_sem]⟩) hHeld ?_
              try simp only [Act.put, List.setIfInBounds_toArray, List.set_cons_zero, List.set_cons_succ, List.getElem_toArray, List.getElem_cons_zero, List.getElem_cons_succ]
              refine wpAnyH_take (i := 9) (v := .pointer (some ⟨zb, zo + ki * 4, none⟩)) rfl (by kernel_rfl) (by kernel_rfl) (by kernel_rfl) (fun _ _ _ h => h) (Or.inl ⟨by rfl, fun w0 hC => by simp [execOp, Act.eval, Act.put, go_sem, p0, p1, hkl]⟩) hHeld ?_
              try simp only [Act.put, List.setIfInBounds_toArray, List.set_cons_zero, List.set_cons_succ, List.getElem_toArray, List.getElem_cons_zero, List.getElem_cons_succ]
              refine wpAnyH_take (i := 10) (v := .agg #[.int .i64 u, .int .i64 f, .int .i64 d, .slice zA zn zc]) rfl (by kernel_rfl) (by kernel_rfl) (by kernel_rfl) (fun _ _ _ h => h) (Or.inl ⟨by rfl, fun w0 hC => by simp [execOp, Act.eval, Act.put, go_sem, (hC.cell (p := ⟨zb, zo + ki * 4, none⟩) hzb).trans z0, (hC.cell (p := ⟨zb, zo + ki * 4 + 1, none⟩) hzb).trans z1, (hC.cell (p := ⟨zb, zo + ki * 4 + 2, none⟩) hzb).trans z2, (hC.cell (p := ⟨zb, zo + ki * 4 + 3, none⟩) hzb).trans z3]⟩) hHeld ?_
              try simp only [Act.put, List.setIfInBounds_toArray, List.set_cons_zero, List.set_cons_succ, List.getElem_toArray, List.getElem_cons_zero, List.getElem_cons_succ]
              refine wpAnyH_take (i := 11) (v := .agg #[.int .i64 u, .int .i64 f, .int .i64 d, .slice xA xn xc]) rfl (by kernel_rfl) (by kernel_rfl) (by kernel_rfl) (fun _ _ _ h => h) (Or.inl ⟨by rfl, fun w0 hC => by simp [execOp, Act.eval, Act.put, go_sem, (hC.cell (p := ⟨bm, 0, none⟩) lmz).trans n0, (hC.cell (p := ⟨bm, 1, none⟩) lmz).trans n1, (hC.cell (p := ⟨bm, 2, none⟩) lmz).trans n2, (hC.cell (p := ⟨bm, 3, none⟩) lmz).trans n3]⟩) hHeld ?_
              try simp only [Act.put, List.setIfInBounds_toArray, List.set_cons_zero, List.set_cons_succ, List.getElem_toArray, List.getElem_cons_zero, List.getElem_cons_succ]
              refine wpAnyH_ready (rs := [12]) (by kernel_rfl) (by simp) (AllReadyH.cons rfl (fun K hK => ?_) AllReadyH.nil)
              rw [if_pos (by rfl)]
              go_wp2_with fail
              refine (x11sameMsg_any u f d zA zn zc bl u f d xA xn xc bl W (HINZ.out.later hHeld).1 (HINM.out.later hHeld).1).mono ?_
              rintro e W3 ⟨rfl, hw2⟩
              rw [show decide ((⟨u, f, d, bl⟩ : Mg) = ⟨u, f, d, bl⟩) = true from decide_eq_true rfl]
              have hb2 : Below W.heap.size W W3 := by rw [hw2]; exact ((Below.refl _ _).alloc (Nat.le_refl _) _).alloc (by simp) _
              have hS := hHeld.trans (hb2.mono hHeld.size)
              clear hHeld hb2 hw2
              refine hK.out _ _ hS (fun hHeld => ?_)
              clear hK K
              try simp only [Act.put, List.setIfInBounds_toArray, List.set_cons_zero, List.set_cons_succ, List.getElem_toArray, List.getElem_cons_zero, List.getElem_cons_succ]
              clear hS
              refine wpAnyH_take (i := 13) (v := .bool true) rfl (by kernel_rfl) (by kernel_rfl) (by kernel_rfl) (fun _ _ _ h => h) (Or.inl ⟨by rfl, fun w0 hC => by simp [execOp, Act.eval, Act.put, go_sem]⟩) hHeld ?_
              try simp only [Act.put, List.setIfInBounds_toArray, List.set_cons_zero, List.set_cons_succ, List.getElem_toArray, List.getElem_cons_zero, List.getElem_cons_succ]
              refine wpAnyH_take (i := 14) (v := .bool true) rfl (by kernel_rfl) (by kernel_rfl) (by kernel_rfl) (fun _ _ _ h => h) (Or.inl ⟨by rfl, fun w0 hC => by simp [execOp, Act.eval, Act.put, go_sem]⟩) hHeld ?_
              try simp only [Act.put, List.setIfInBounds_toArray, List.set_cons_zero, List.set_cons_succ, List.getElem_toArray, List.getElem_cons_zero, List.getElem_cons_succ]
              refine wpAnyH_done (by kernel_rfl) ?_ _
              have HBZ := Lib.hid (HBZ0.out.trans (hHeld.mono HBZ0.out.size))
              clear hHeld
              go_wp2_with fail
              go_roundw
              case rel => exact ⟨r + 1, by omega, by go_num, by rw [HGI.out.1], by rw [HGI.out.2]; go_num, HBZ.out⟩
              case measure => simp [intOf]; omega
        · have hkn : ¬ (r : Int) < (n : Int) := by omega
          obtain rfl : n = r := by omega
          have htk : l.take n = l := List.take_of_length_le (by rw [HL.out.len]; exact Nat.le_refl _)
          rw [htk, HNG.out, HN6.out]
          obtain ⟨⟨x0, x1, x2, x3⟩, -, -, -, -⟩ := KXR.out.four
          have e1 : ((ng : Int) == (ng : Int)) = true := by simp
          have e2 : ((n6 : Int) == (n6 : Int)) = true := by simp
          have e3 : (nx == nx) = true := by simp
          have e4 : (v == v) = true := by simp
          have e5 : (nm.toList == nm.toList) = true := by simp
          clear htk
          go_wp2_with fail
          go_ret
          exact ⟨rfl, HB4.out⟩
    · have HTB := Lib.hid (tkB_no ht)
      have hte : (tkE ⟨nm, v, nx, l⟩ ids != 0) = true := by simp [ht]
      clear ht
      go_enter Try.func7, Try.ntmps7
      go_wp2_with fail
      refine (alive11_any _).mono ?_
      rintro e w1 ⟨rfl, hb⟩
      have HB1 := Lib.hid (HB.out.trans (hb.mono HB.out.size))
      have H11 := Lib.hid (H1.out.below hb H1.out.lt)
      clear hb
      clear HB H1
      obtain ⟨⟨b0, b1, b2, b3⟩, -, -, -, -⟩ := H11.out.four
      go_wp2_with fail
      refine (great11_any nm v nx A n c l w1 (HL.out.later HB1.out) hn).mono ?_
      rintro e w2 ⟨rfl, hb⟩
      rw [HG.out]
      have HB2 := Lib.hid (HB1.out.trans (hb.mono HB1.out.size))
      have H12 := Lib.hid (H11.out.below hb H11.out.lt)
      clear hb HB1 H11 b0 b1 b2 b3
      obtain ⟨⟨b0, b1, b2, b3⟩, -, -, -, -⟩ := H12.out.four
      go_wp2_with fail
      clear b0 b1 b2 b3
      refine (take_any nm v nx A n c l B m d0 ids w2 (HL.out.later HB2.out) (by omega) (small_6 HSM.out.2) ((HI.out.below HB2.out (Nat.le_refl _)).more HB2.out.size) hm).mono ?_
      rintro e w3 ⟨A6, n6, c6, Ag, ng, cg, rfl, hm6, hg6, hb⟩
      rw [HTB.out.1] at hm6 ⊢
      rw [HTB.out.2] at hg6
      simp only at hm6 ⊢
      have hba : Below w3.heap.size w3 (w3.alloc (.cells #[.string nm, .int .i64 v, .int .i64 nx, .slice A6 n6 c6] 24)) := (Below.refl _ _).alloc (Nat.le_refl _) _
      have hb' := hb.trans (hba.mono hb.size)
      have HB3 := Lib.hid (HB2.out.trans (hb'.mono HB2.out.size))
      have H13 := Lib.hid (H12.out.below hb' H12.out.lt)
      have KX : Hid (Bk (w3.alloc (.cells #[.string nm, .int .i64 v, .int .i64 nx, .slice A6 n6 c6] 24)) w3.heap.size 24 #[.string nm, .int .i64 v, .int .i64 nx, .slice A6 n6 c6]) := Lib.hid (Bk.new _ _ _)
      have LX := Lib.hid (hm6.later hba)
      have LG := Lib.hid (hg6.later hba)
      have HN6 : Hid (l.length = n6) := Lib.hid hm6.len
      have HNG : Hid (([] : List Mg).length = ng) := Lib.hid hg6.len
      clear hb hba hb' hm6 hg6 HB2 H12
      have HNG0 : Hid (ng = 0) := Lib.hid HNG.out.symm
      obtain rfl := HNG0.out
      obtain ⟨⟨x0, x1, x2, x3⟩, -, -, -, -⟩ := KX.out.four
      obtain ⟨⟨b0, b1, b2, b3⟩, -, -, -, -⟩ := H13.out.four
      go_wp2_with fail
      clear x0 x1 x2 x3 b0 b1 b2 b3
      generalize w3.alloc (.cells #[.string nm, .int .i64 v, .int .i64 nx, .slice A6 n6 c6] 24) = w4 at *
      refine (x11same_any nm v nx A6 n6 c6 l nm v nx A n c l w4 LX.out (HL.out.later HB3.out) (by have := HN6.out; have := HL.out.len; omega) (by omega)).mono ?_
      rintro e w5 ⟨rfl, hb⟩
      rw [eq_self_bx]
      have HBE := Lib.hid (HB3.out.trans (hb.mono HB3.out.size))
      clear hb
      go_wp2_with fail
      go_ret
      exact ⟨rfl, HBE.out⟩
  · have HG := Lib.hid hg
    clear hg
    go_enter Try.func7, Try.ntmps7
    go_wp2_with fail
    refine (alive11_any _).mono ?_
    rintro e w1 ⟨rfl, hb⟩
    have HB1 := Lib.hid (HB.out.trans (hb.mono HB.out.size))
    have H11 := Lib.hid (H1.out.below hb H1.out.lt)
    clear hb
    clear HB H1
    obtain ⟨⟨b0, b1, b2, b3⟩, -, -, -, -⟩ := H11.out.four
    go_wp2_with fail
    refine (great11_any nm v nx A n c l w1 (HL.out.later HB1.out) hn).mono ?_
    rintro e w2 ⟨rfl, hb⟩
    rw [HG.out]
    have HB2 := Lib.hid (HB1.out.trans (hb.mono HB1.out.size))
    have H12 := Lib.hid (H11.out.below hb H11.out.lt)
    clear hb HB1 H11 b0 b1 b2 b3
    go_wp2_with fail
    go_ret
    exact ⟨rfl, HB2.out⟩
end Go.Proofs.Ythmlgbeonmpbjaa
