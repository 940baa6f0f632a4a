/-
  The laws of package box, as walks: Counts.
-/
import Derived.Test.YthmlgbeonmpbjaaQBoxLawA
import Derived.Test.YthmlgbeonmpbjaaQBoxHr
import Derived.Deep.DeepCutAuto
namespace Go.Proofs.Ythmlgbeonmpbjaa
set_option linter.unusedVariables false
set_option linter.unusedSimpArgs false
open Go.RowKit
set_option linter.unusedVariables false
set_option linter.unusedSimpArgs false

theorem or_facts : ∀ a : Nat, a < 32 → ∀ b : Nat, b < 32 → (bits .and .i64 (bits .or .i64 (a : Int) (b : Int)) (b : Int) == (b : Int)) = true ∧ (bits .and .i64 (a : Int) 0 == 0) = true := by decide +kernel
theorem hasF_0 {m : Mg} (h : okF m.flags = true) : hasF 0 m = true := by
  obtain ⟨a, ha, hl⟩ := okF_nat h
  unfold hasF
  rw [ha]
  exact (or_facts a hl 0 (by omega)).2
theorem cnt_0 {l : List Mg} (h : ∀ m ∈ l, okF m.flags = true) : cntN l 0 = l.length := by
  unfold cntN
  rw [List.filter_eq_self.2 (fun m hm => hasF_0 (h m hm))]
theorem okF_set {m : Mg} {q : Nat} (h : okMg m = true) (hq : q < 32) (he : apE 0 1 (q : Int) = 0) : okF (setF 1 (q : Int) m).flags = true := by
  have := (ap_twice (okMg_of h).2.2.1 he).2
  exact decide_eq_true ⟨this.1, by show apV m.flags 1 (q : Int) ≤ 31; omega⟩
theorem setF_or {m : Mg} {q : Nat} (h : okMg m = true) (hq : q < 32) : (setF 1 (q : Int) m).flags = bits .or .i64 m.flags (q : Int) := by
  show apV m.flags 1 (q : Int) = _
  exact (ap_1 (okMg_of h).2.2.1 (decide_eq_true ⟨by omega, by omega⟩)).1
theorem hasF_set {m : Mg} {q : Nat} (h : okMg m = true) (hq : q < 32) : hasF (q : Int) (setF 1 (q : Int) m) = true := by
  obtain ⟨a, ha, hl⟩ := okF_nat (okMg_of h).2.2.1
  unfold hasF
  rw [setF_or h hq, ha]
  exact (or_facts a hl q hq).1
theorem cnt_mono {l : List Mg} {ids : List Int} {q : Nat} (h : ∀ m ∈ l, okMg m = true) (hq : q < 32) : cntN l (q : Int) ≤ cntN (storeL l ids 1 (q : Int)) (q : Int) := by
  induction l with
  | nil => exact Nat.le_refl _
  | cons m l ih =>
    have ih' := ih (fun x hx => h x (List.mem_cons_of_mem _ hx))
    have hm := h m List.mem_cons_self
    have e : storeL (m :: l) ids 1 (q : Int) = (if m.uid ∈ ids then setF 1 (q : Int) m else m) :: storeL l ids 1 (q : Int) := rfl
    rw [e]
    unfold cntN at ih' ⊢
    rw [List.filter_cons, List.filter_cons]
    by_cases hu : m.uid ∈ ids
    · rw [if_pos hu, hasF_set hm hq]
      split <;> simp <;> omega
    · rw [if_neg hu]
      split <;> simp <;> omega
theorem store_flags {l : List Mg} {ids : List Int} {q : Nat} (h : ∀ m ∈ l, okMg m = true) (hq : q < 32) (he : apE 0 1 (q : Int) = 0) : ∀ m ∈ storeL l ids 1 (q : Int), okF m.flags = true := by
  intro m hm
  obtain ⟨x, hx, rfl⟩ := List.mem_map.1 hm
  split
  · exact okF_set (h x hx) hq he
  · exact (okMg_of (h x hx)).2.2.1
theorem apE_1 {q : Nat} (hq : q < 32) : apE 0 1 (q : Int) = 0 := (ap_1 (by decide) (decide_eq_true ⟨by omega, by omega⟩)).2

set_option maxRecDepth 20000 in
set_option maxHeartbeats 8000000 in
theorem boxCounts_walk (nm : ByteArray) (v nx : Int) (A : Option Addr) (n c : Nat) (l : List Mg) (B : Option Addr) (m d0 : Nat) (ids : List Int) (fl : Nat) (w : World) (hl : MsgsIn w w.heap.size A n l) (hn : n ≤ 140737488355328) (hi : Col ints w w.heap.size B m ids) (hm : m ≤ 140737488355328) (hfl : fl < 256) :
    Calls Try.prog 8 #[.agg #[.string nm, .int .i64 v, .int .i64 nx, .slice A n c], .slice B m d0, .int .u8 (fl : Int)] w fun e w' => e = .returned (.bool true) ∧ Below w.heap.size w w' := by
  have hmx : Try.prog.follows .mixedOrders = true := by kernel_rfl
  have hB : Below w.heap.size w (w.alloc (.cells #[.string nm, .int .i64 v, .int .i64 nx, .slice A n c] 24)) := (Below.refl _ _).alloc (Nat.le_refl _) _
  have h1 : Bk (w.alloc (.cells #[.string nm, .int .i64 v, .int .i64 nx, .slice A n c] 24)) w.heap.size 24 #[.string nm, .int .i64 v, .int .i64 nx, .slice A n c] := Bk.new _ _ _
  have HL := Lib.hid hl
  have HI := Lib.hid hi
  have HB := Lib.hid hB
  have H1 := Lib.hid h1
  clear hB h1 hl hi
  obtain ⟨q, hq⟩ : ∃ q : Nat, fl % 32 = q := ⟨_, rfl⟩
  have hq32 : q < 32 := by omega
  have hf0 : (0 : Int) ≤ (fl : Int) := by omega
  have hf1 : (fl : Int) < 256 := by omega
  have HFQ : Hid ((fl : Int) % 32 = (q : Int)) := Lib.hid (by omega)
  clear hq
  cases hg : greatX ⟨nm, v, nx, l⟩
  · have HSM := Lib.hid (small_of hg)
    have HG := Lib.hid hg
    clear hg
    by_cases hx5 : 100 < m
    · have hx5' : (100 : Int) < (m : Int) := by omega
      go_enter Try.func8, Try.ntmps8
      go_wp2_with fail
      refine (alive11_any _).mono ?_
      rintro e w1 ⟨rfl, hb⟩
      have HB1 := Lib.hid (HB.out.trans (hb.mono HB.out.size))
      have H11 := Lib.hid (H1.out.below hb H1.out.lt)
      clear hb
      clear HB H1
      obtain ⟨⟨b0, b1, b2, b3⟩, -, -, -, -⟩ := H11.out.four
      go_wp2_with fail
      refine (great11_any nm v nx A n c l w1 (HL.out.later HB1.out) hn).mono ?_
      rintro e w2 ⟨rfl, hb⟩
      rw [HG.out]
      have HB2 := Lib.hid (HB1.out.trans (hb.mono HB1.out.size))
      have H12 := Lib.hid (H11.out.below hb H11.out.lt)
      clear hb HB1 H11 b0 b1 b2 b3
      go_wp2_with fail
      go_ret
      exact ⟨rfl, HB2.out⟩
    have hx5' : decide ((100 : Int) < (m : Int)) = false := decide_eq_false (by omega)
    have hn5 : n ≤ 5000 := by have := HSM.out.1; rw [HL.out.len] at this; exact this
    by_cases ht : storeE ⟨nm, v, nx, l⟩ ids 1 (q : Int) = 0
    · have HTB := Lib.hid (storeB_ok ht)
      have HTE := Lib.hid ht
      have HOK := Lib.hid (storeE_zero ht).1
      clear ht
      go_enter Try.func8, Try.ntmps8
      go_wp2_with fail
      refine (alive11_any _).mono ?_
      rintro e w1 ⟨rfl, hb⟩
      have HB1 := Lib.hid (HB.out.trans (hb.mono HB.out.size))
      have H11 := Lib.hid (H1.out.below hb H1.out.lt)
      clear hb
      clear HB H1
      obtain ⟨⟨b0, b1, b2, b3⟩, -, -, -, -⟩ := H11.out.four
      go_wp2_with fail
      refine (great11_any nm v nx A n c l w1 (HL.out.later HB1.out) hn).mono ?_
      rintro e w2 ⟨rfl, hb⟩
      rw [HG.out]
      have HB2 := Lib.hid (HB1.out.trans (hb.mono HB1.out.size))
      have H12 := Lib.hid (H11.out.below hb H11.out.lt)
      clear hb HB1 H11 b0 b1 b2 b3
      obtain ⟨⟨b0, b1, b2, b3⟩, -, -, -, -⟩ := H12.out.four
      go_wp2_with fail
      clear b0 b1 b2 b3
      try rw [HFQ.out]
      refine (store_any nm v nx A n c l B m d0 ids 1 (q : Int) w2 (HL.out.later HB2.out) (by omega) (small_6 HSM.out.2) ((HI.out.below HB2.out (Nat.le_refl _)).more HB2.out.size) hm).mono ?_
      rintro e w3 ⟨A6, n6, c6, rfl, hm6, hb⟩
      rw [HTB.out] at hm6 ⊢
      simp only at hm6 ⊢
      rw [HTE.out]
      have hba : Below w3.heap.size w3 (w3.alloc (.cells #[.string nm, .int .i64 v, .int .i64 nx, .slice A6 n6 c6] 24)) := (Below.refl _ _).alloc (Nat.le_refl _) _
      have hb' := hb.trans (hba.mono hb.size)
      have HB3 := Lib.hid (HB2.out.trans (hb'.mono HB2.out.size))
      have H13 := Lib.hid (H12.out.below hb' H12.out.lt)
      have KX : Hid (Bk (w3.alloc (.cells #[.string nm, .int .i64 v, .int .i64 nx, .slice A6 n6 c6] 24)) w3.heap.size 24 #[.string nm, .int .i64 v, .int .i64 nx, .slice A6 n6 c6]) := Lib.hid (Bk.new _ _ _)
      have LX := Lib.hid (hm6.later hba)
      have HN6 : Hid (n6 = n) := Lib.hid (by rw [← hm6.len, storeL_len]; exact HL.out.len)
      clear hb hba hb' hm6 HB2 H12
      obtain rfl := HN6.out.symm
      obtain ⟨⟨x0, x1, x2, x3⟩, -, -, -, -⟩ := KX.out.four
      obtain ⟨⟨b0, b1, b2, b3⟩, -, -, -, -⟩ := H13.out.four
      have e0 : ((n : Int) != (n : Int)) = false := by simp
      go_wp2_with fail
      obtain ⟨bx, hbo⟩ : ∃ q, w3.heap.size = q := ⟨_, rfl⟩
      try rw [hbo] at KX
      try rw [hbo]
      clear hbo x0 x1 x2 x3 b0 b1 b2 b3 e0
      generalize w3.alloc (.cells #[.string nm, .int .i64 v, .int .i64 nx, .slice A6 n c6] 24) = w4 at *
      go_loopw [10] (fun i wx => ∃ r : Nat, r ≤ n ∧ i = .int .i64 (r : Int) ∧ Below w4.heap.size w4 wx) (fun i _ => n - (intOf i).toNat)
      case atStart => exact ⟨0, Nat.zero_le _, rfl, Below.refl _ _⟩
      case round =>
        obtain ⟨r, hr, rfl, hb⟩ := hrel
        obtain ⟨wo, rfl⟩ : ∃ wo, wo = wr := ⟨_, rfl⟩
        have HBR := Lib.hid hb
        have HB4 := Lib.hid (HB3.out.trans (hb.mono HB3.out.size))
        have h1r := H13.out.below hb H13.out.lt
        have kxr := KX.out.below hb KX.out.lt
        have H1R := Lib.hid h1r
        have KXR := Lib.hid kxr
        have b3 := h1r.cell 3
        have x3 := kxr.cell 3
        have lb := h1r.lt
        have lx := kxr.lt
        clear hb h1r kxr
        by_cases hlt : r < n
        · obtain ⟨b, o, x, rfl, hbb, hla, htk, hrow, hin⟩ := (HL.out.later HB4.out).at_ hlt
          obtain ⟨zb, zo, z, rfl, hzb, hlz, _, hrowz, _⟩ := (LX.out.later HBR.out).at_ hlt
          have hzm : z.m = if x.m.uid ∈ ids then setF 1 (q : Int) x.m else x.m := by rw [storeL_get, hla] at hlz; exact (Option.some.inj hlz).symm
          have HOKM := Lib.hid (HOK.out.2.2.2.2.2.1 x.m (List.mem_of_getElem? hla)).1
          have hk0 : (0 : Int) ≤ (r : Int) := by omega
          have hkn : (r : Int) < (n : Int) := by omega
          obtain ⟨⟨u, f, d, bl⟩, xA, xn, xc⟩ := x
          obtain ⟨⟨zu, zf, zd, zl⟩, zA, zn, zc⟩ := z
          simp only at hzm
          have hz1 : zu = u ∧ zd = d := by split at hzm <;> (have e1 := congrArg Mg.uid hzm; have e2 := congrArg Mg.date hzm; exact ⟨e1, e2⟩)
          obtain ⟨rfl, rfl⟩ := hz1
          have HZF : Hid (zf = if zu ∈ ids then bits .or .i64 f (q : Int) else f) := Lib.hid (by
            split at hzm
            · rename_i hmem; rw [if_pos hmem]; have e1 := congrArg Mg.flags hzm; rw [setF_or HOKM.out hq32] at e1; exact e1
            · rename_i hmem; rw [if_neg hmem]; exact congrArg Mg.flags hzm)
          have hr4 := row4 hrow
          have hrz := row4 hrowz
          simp only at hr4 hrz
          obtain ⟨r0, r1, r2, r3⟩ := hr4
          obtain ⟨s0, s1, s2, s3⟩ := hrz
          clear hla htk hrow hin hlz hrowz hzm
          go_upto_region 14 with (fail)
          go_cut [11, 12] (fun x11 x12 wx => ∃ bm bn, x11 = .pointer (some ⟨bm, 0, none⟩) ∧ x12 = .pointer (some ⟨bn, 0, none⟩) ∧ Bk wx bm 27 #[.int .i64 zu, .int .i64 f, .int .i64 zd, .slice xA xn xc] ∧ Bk wx bn 27 #[.int .i64 zu, .int .i64 zf, .int .i64 zd, .slice zA zn zc] ∧ Below wo.heap.size wo wx)
          case first =>
            go_wp2_with fail
            refine wp_region_held_drew (S := fun W' => Below wo.heap.size wo W') hmx (Below.refl wo.heap.size wo).drew (fun hHeld => ?_)
            generalize hW0 : wo.drew = W at *
            clear hW0
            simp only [List.size_toArray, List.length_cons, List.length_nil, Nat.reduceAdd]
            refine wpAnyH_take (i := 0) (v := .pointer (some ⟨w.heap.size, 3, none⟩)) rfl (by kernel_rfl) (by kernel_rfl) (by kernel_rfl) (fun _ _ _ h => h) (Or.inl ⟨by rfl, fun w0 hC => by simp [execOp, Act.eval, Act.put, go_sem]⟩) hHeld ?_
            try simp only [Act.put, List.setIfInBounds_toArray, List.set_cons_zero, List.set_cons_succ, List.getElem_toArray, List.getElem_cons_zero, List.getElem_cons_succ]
            refine wpAnyH_take (i := 1) (v := .slice (some ⟨b, o, none⟩) n c) rfl (by kernel_rfl) (by kernel_rfl) (by kernel_rfl) (fun _ _ _ h => h) (Or.inl ⟨by rfl, fun w0 hC => by simp [execOp, Act.eval, Act.put, go_sem, (hC.cell (p := ⟨w.heap.size, 3, none⟩) lb).trans b3]⟩) hHeld ?_
            try simp only [Act.put, List.setIfInBounds_toArray, List.set_cons_zero, List.set_cons_succ, List.getElem_toArray, List.getElem_cons_zero, List.getElem_cons_succ]
            refine wpAnyH_take (i := 2) (v := .int .i64 (r : Int)) rfl (by kernel_rfl) (by kernel_rfl) (by kernel_rfl) (fun _ _ _ h => h) (Or.inl ⟨by rfl, fun w0 hC => by simp [execOp, Act.eval, Act.put, go_sem]⟩) hHeld ?_
            try simp only [Act.put, List.setIfInBounds_toArray, List.set_cons_zero, List.set_cons_succ, List.getElem_toArray, List.getElem_cons_zero, List.getElem_cons_succ]
            refine wpAnyH_take (i := 3) (v := .pointer (some ⟨b, o + r * 4, none⟩)) rfl (by kernel_rfl) (by kernel_rfl) (by kernel_rfl) (fun _ _ _ h => h) (Or.inl ⟨by rfl, fun w0 hC => by simp [execOp, Act.eval, Act.put, go_sem, hk0, hkn, hlt]⟩) hHeld ?_
            try simp only [Act.put, List.setIfInBounds_toArray, List.set_cons_zero, List.set_cons_succ, List.getElem_toArray, List.getElem_cons_zero, List.getElem_cons_succ]
            refine wpAnyH_take (i := 4) (v := .agg #[.int .i64 zu, .int .i64 f, .int .i64 zd, .slice xA xn xc]) rfl (by kernel_rfl) (by kernel_rfl) (by kernel_rfl) (fun _ _ _ h => h) (Or.inl ⟨by rfl, fun w0 hC => by simp [execOp, Act.eval, Act.put, go_sem, (hC.cell (p := ⟨b, o + r * 4, none⟩) hbb).trans r0, (hC.cell (p := ⟨b, o + r * 4 + 1, none⟩) hbb).trans r1, (hC.cell (p := ⟨b, o + r * 4 + 2, none⟩) hbb).trans r2, (hC.cell (p := ⟨b, o + r * 4 + 3, none⟩) hbb).trans r3]⟩) hHeld ?_
            try simp only [Act.put, List.setIfInBounds_toArray, List.set_cons_zero, List.set_cons_succ, List.getElem_toArray, List.getElem_cons_zero, List.getElem_cons_succ]
            refine wpAnyH_take (i := 5) (v := .pointer (some ⟨bx, 3, none⟩)) rfl (by kernel_rfl) (by kernel_rfl) (by kernel_rfl) (fun _ _ _ h => h) (Or.inl ⟨by rfl, fun w0 hC => by simp [execOp, Act.eval, Act.put, go_sem]⟩) hHeld ?_
            try simp only [Act.put, List.setIfInBounds_toArray, List.set_cons_zero, List.set_cons_succ, List.getElem_toArray, List.getElem_cons_zero, List.getElem_cons_succ]
            refine wpAnyH_take (i := 6) (v := .slice (some ⟨zb, zo, none⟩) n c6) rfl (by kernel_rfl) (by kernel_rfl) (by kernel_rfl) (fun _ _ _ h => h) (Or.inl ⟨by rfl, fun w0 hC => by simp [execOp, Act.eval, Act.put, go_sem, (hC.cell (p := ⟨bx, 3, none⟩) lx).trans x3]⟩) hHeld ?_
            try simp only [Act.put, List.setIfInBounds_toArray, List.set_cons_zero, List.set_cons_succ, List.getElem_toArray, List.getElem_cons_zero, List.getElem_cons_succ]
            refine wpAnyH_take (i := 7) (v := .int .i64 (r : Int)) rfl (by kernel_rfl) (by kernel_rfl) (by kernel_rfl) (fun _ _ _ h => h) (Or.inl ⟨by rfl, fun w0 hC => by simp [execOp, Act.eval, Act.put, go_sem]⟩) hHeld ?_
            try simp only [Act.put, List.setIfInBounds_toArray, List.set_cons_zero, List.set_cons_succ, List.getElem_toArray, List.getElem_cons_zero, List.getElem_cons_succ]
            refine wpAnyH_take (i := 8) (v := .pointer (some ⟨zb, zo + r * 4, none⟩)) rfl (by kernel_rfl) (by kernel_rfl) (by kernel_rfl) (fun _ _ _ h => h) (Or.inl ⟨by rfl, fun w0 hC => by simp [execOp, Act.eval, Act.put, go_sem, hk0, hkn, hlt]⟩) hHeld ?_
            try simp only [Act.put, List.setIfInBounds_toArray, List.set_cons_zero, List.set_cons_succ, List.getElem_toArray, List.getElem_cons_zero, List.getElem_cons_succ]
            refine wpAnyH_take (i := 9) (v := .agg #[.int .i64 zu, .int .i64 zf, .int .i64 zd, .slice zA zn zc]) rfl (by kernel_rfl) (by kernel_rfl) (by kernel_rfl) (fun _ _ _ h => h) (Or.inl ⟨by rfl, fun w0 hC => by simp [execOp, Act.eval, Act.put, go_sem, (hC.cell (p := ⟨zb, zo + r * 4, none⟩) hzb).trans s0, (hC.cell (p := ⟨zb, zo + r * 4 + 1, none⟩) hzb).trans s1, (hC.cell (p := ⟨zb, zo + r * 4 + 2, none⟩) hzb).trans s2, (hC.cell (p := ⟨zb, zo + r * 4 + 3, none⟩) hzb).trans s3]⟩) hHeld ?_
            try simp only [Act.put, List.setIfInBounds_toArray, List.set_cons_zero, List.set_cons_succ, List.getElem_toArray, List.getElem_cons_zero, List.getElem_cons_succ]
            have HW := Lib.hid hHeld
            refine wpAnyH_ready (rs := [10, 11]) (by kernel_rfl) (by simp) (AllReadyH.cons rfl (fun K hK => ?_) (AllReadyH.cons rfl (fun K hK => ?_) AllReadyH.nil))
            · rw [if_pos (by rfl)]
              go_wp2_with fail
              have hS := hHeld.alloc hHeld.size (.cells #[.int .i64 0, .int .i64 0, .int .i64 0, .slice none 0 0] 27)
              clear hHeld
              refine hK.out _ _ hS (fun hHeld => ?_)
              clear hK K
              try simp only [Act.put, List.setIfInBounds_toArray, List.set_cons_zero, List.set_cons_succ, List.getElem_toArray, List.getElem_cons_zero, List.getElem_cons_succ]
              clear hS
              refine wpAnyH_ready (rs := [11]) (by kernel_rfl) (by simp) (AllReadyH.cons rfl (fun K hK => ?_) AllReadyH.nil)
              rw [if_pos (by rfl)]
              go_wp2_with fail
              have hS := hHeld.alloc hHeld.size (.cells #[.int .i64 0, .int .i64 0, .int .i64 0, .slice none 0 0] 27)
              have hws := hHeld.size
              clear hHeld
              refine hK.out _ _ hS (fun hHeld => ?_)
              clear hK K
              try simp only [Act.put, List.setIfInBounds_toArray, List.set_cons_zero, List.set_cons_succ, List.getElem_toArray, List.getElem_cons_zero, List.getElem_cons_succ]
              clear hS
              refine wpAnyH_ready (rs := [12]) (by kernel_rfl) (by simp) (AllReadyH.cons rfl (fun K hK => ?_) AllReadyH.nil)
              rw [if_pos (by rfl)]
              go_wp2_with fail
              have hS : Below wo.heap.size wo ((W.alloc (.cells #[.int .i64 zu, .int .i64 f, .int .i64 zd, .slice xA xn xc] 27)).alloc (.cells #[.int .i64 0, .int .i64 0, .int .i64 0, .slice none 0 0] 27)) := (HW.out.alloc HW.out.size _).alloc (by have := HW.out.size; simp; omega) _
              clear hHeld
              refine hK.out _ _ hS (fun hHeld => ?_)
              clear hK K
              try simp only [Act.put, List.setIfInBounds_toArray, List.set_cons_zero, List.set_cons_succ, List.getElem_toArray, List.getElem_cons_zero, List.getElem_cons_succ]
              clear hS
              refine wpAnyH_ready (rs := [13]) (by kernel_rfl) (by simp) (AllReadyH.cons rfl (fun K hK => ?_) AllReadyH.nil)
              rw [if_pos (by rfl)]
              go_wp2_with fail
              have hS : Below wo.heap.size wo ((W.alloc (.cells #[.int .i64 zu, .int .i64 f, .int .i64 zd, .slice xA xn xc] 27)).alloc (.cells #[.int .i64 zu, .int .i64 zf, .int .i64 zd, .slice zA zn zc] 27)) := (HW.out.alloc HW.out.size _).alloc (by have := HW.out.size; simp; omega) _
              clear hHeld
              refine hK.out _ _ hS (fun hHeld => ?_)
              clear hK K
              try simp only [Act.put, List.setIfInBounds_toArray, List.set_cons_zero, List.set_cons_succ, List.getElem_toArray, List.getElem_cons_zero, List.getElem_cons_succ]
              clear hS
              refine wpAnyH_done (by kernel_rfl) ?_ _
              go_wp2_with fail
              go_meet
              exact ⟨_, _, rfl, rfl, (Bk.new _ _ _).alloc _, Bk.new2 _ _ _ _, hHeld⟩
            · rw [if_pos (by rfl)]
              go_wp2_with fail
              have hS := hHeld.alloc hHeld.size (.cells #[.int .i64 0, .int .i64 0, .int .i64 0, .slice none 0 0] 27)
              clear hHeld
              refine hK.out _ _ hS (fun hHeld => ?_)
              clear hK K
              try simp only [Act.put, List.setIfInBounds_toArray, List.set_cons_zero, List.set_cons_succ, List.getElem_toArray, List.getElem_cons_zero, List.getElem_cons_succ]
              clear hS
              refine wpAnyH_ready (rs := [10]) (by kernel_rfl) (by simp) (AllReadyH.cons rfl (fun K hK => ?_) AllReadyH.nil)
              rw [if_pos (by rfl)]
              go_wp2_with fail
              have hS := hHeld.alloc hHeld.size (.cells #[.int .i64 0, .int .i64 0, .int .i64 0, .slice none 0 0] 27)
              have hws := hHeld.size
              clear hHeld
              refine hK.out _ _ hS (fun hHeld => ?_)
              clear hK K
              try simp only [Act.put, List.setIfInBounds_toArray, List.set_cons_zero, List.set_cons_succ, List.getElem_toArray, List.getElem_cons_zero, List.getElem_cons_succ]
              clear hS
              refine wpAnyH_ready (rs := [12]) (by kernel_rfl) (by simp) (AllReadyH.cons rfl (fun K hK => ?_) AllReadyH.nil)
              rw [if_pos (by rfl)]
              go_wp2_with fail
              have hS : Below wo.heap.size wo ((W.alloc (.cells #[.int .i64 0, .int .i64 0, .int .i64 0, .slice none 0 0] 27)).alloc (.cells #[.int .i64 zu, .int .i64 f, .int .i64 zd, .slice xA xn xc] 27)) := (HW.out.alloc HW.out.size _).alloc (by have := HW.out.size; simp; omega) _
              clear hHeld
              refine hK.out _ _ hS (fun hHeld => ?_)
              clear hK K
              try simp only [Act.put, List.setIfInBounds_toArray, List.set_cons_zero, List.set_cons_succ, List.getElem_toArray, List.getElem_cons_zero, List.getElem_cons_succ]
              clear hS
              refine wpAnyH_ready (rs := [13]) (by kernel_rfl) (by simp) (AllReadyH.cons rfl (fun K hK => ?_) AllReadyH.nil)
              rw [if_pos (by rfl)]
              go_wp2_with fail
              have hS : Below wo.heap.size wo ((W.alloc (.cells #[.int .i64 zu, .int .i64 zf, .int .i64 zd, .slice zA zn zc] 27)).alloc (.cells #[.int .i64 zu, .int .i64 f, .int .i64 zd, .slice xA xn xc] 27)) := (HW.out.alloc HW.out.size _).alloc (by have := HW.out.size; simp; omega) _
              clear hHeld
              refine hK.out _ _ hS (fun hHeld => ?_)
              clear hK K
              try simp only [Act.put, List.setIfInBounds_toArray, List.set_cons_zero, List.set_cons_succ, List.getElem_toArray, List.getElem_cons_zero, List.getElem_cons_succ]
              clear hS
              refine wpAnyH_done (by kernel_rfl) ?_ _
              go_wp2_with fail
              go_meet
              exact ⟨_, _, rfl, rfl, Bk.new2 _ _ _ _, (Bk.new _ _ _).alloc _, hHeld⟩
          case rest =>
            obtain ⟨bm, bn, rfl, rfl, km, kn, hbw⟩ := hcut
            generalize wc = wm at *
            have HBW := Lib.hid (HBR.out.trans (hbw.mono HBR.out.size))
            obtain ⟨⟨m0, m1, m2, m3⟩, -, -, -, -⟩ := km.four
            obtain ⟨⟨n0, n1, n2, n3⟩, -, -, -, -⟩ := kn.four
            have HIW := Lib.hid ((HI.out.below (HB4.out.trans (hbw.mono HB4.out.size)) (Nat.le_refl _)))
            clear km kn hbw b3 x3 lb lx r0 r1 r2 r3 s0 s1 s2 s3
            go_wp2_with fail
            go_loopw [13, 14] (fun t i wx => ∃ (j : Nat) (is : Bool), j ≤ m ∧ i = .int .i64 (j : Int) ∧ t = .bool is ∧ is = decide (zu ∈ ids.take j) ∧ ∃ q, wx = wm.drewN q) (fun _ i _ => m - (intOf i).toNat)
            case atStart => exact ⟨0, false, Nat.zero_le _, rfl, rfl, by simp, 0, rfl⟩
            case round =>
              obtain ⟨j, is, hj, rfl, rfl, his, qd, rfl⟩ := hrel
              have HIS := Lib.hid his.symm
              clear his
              by_cases hjm : j < m
              · obtain ⟨bi, oi, z, rfl, hbi, hlz, htz, hcz⟩ := HIW.out.at_ hjm
                have HTZ := Lib.hid htz
                replace hcz : wm.cell? ⟨bi, oi + j, none⟩ = some (.int .i64 z) := hcz
                have j0 : (0 : Int) ≤ (j : Int) := by omega
                have j1 : (j : Int) < (m : Int) := by omega
                clear hlz htz
                cases is
                · cases hzu : (z == zu)
                  · have HS := Lib.hid (mem_not HTZ.out HIS.out hzu)
                    go_wp2_with fail
                    go_quiet (fail)
                    go_wp2_with fail
                    go_roundw
                    case rel => exact ⟨j + 1, false, by omega, by go_num, rfl, by rw [HS.out], _, rfl⟩
                    case measure => simp [intOf]; omega
                  · have HS := Lib.hid (mem_is HTZ.out hzu)
                    go_wp2_with fail
                    go_quiet (fail)
                    go_wp2_with fail
                    go_roundw
                    case rel => exact ⟨j + 1, true, by omega, by go_num, rfl, by rw [HS.out], _, rfl⟩
                    case measure => simp [intOf]; omega
                · have HS := Lib.hid (mem_was HTZ.out HIS.out)
                  go_wp2_with fail
                  go_quiet (fail)
                  go_wp2_with fail
                  go_roundw
                  case rel => exact ⟨j + 1, true, by omega, by go_num, rfl, by rw [HS.out], _, rfl⟩
                  case measure => simp [intOf]; omega
              · have hjn : ¬ (j : Int) < (m : Int) := by omega
                obtain rfl : m = j := by omega
                have hmem : decide (zu ∈ ids) = is := by have := HIS.out; rwa [List.take_of_length_le (by rw [HI.out.1]; exact Nat.le_refl _)] at this
                have HBE := Lib.hid (HBW.out.trans (below_drewN (Below.refl wm.heap.size wm) qd |>.mono HBW.out.size))
                cases is
                · have hzf := HZF.out
                  rw [if_neg (of_decide_eq_false hmem)] at hzf
                  subst hzf
                  clear hmem
                  go_wp2_with fail
                  go_roundw
                  case rel => exact ⟨r + 1, by omega, by go_num, HBE.out⟩
                  case measure => simp [intOf]; omega
                · have hzf := HZF.out
                  rw [if_pos (of_decide_eq_true hmem)] at hzf
                  subst hzf
                  clear hmem
                  go_wp2_with fail
                  go_roundw
                  case rel => exact ⟨r + 1, by omega, by go_num, HBE.out⟩
                  case measure => simp [intOf]; omega
        · have hkn : ¬ (r : Int) < (n : Int) := by omega
          have hokm : ∀ m ∈ l, okMg m = true := fun m hm => (HOK.out.2.2.2.2.2.1 m hm).1
          obtain ⟨cx, hcx⟩ : ∃ q2, cntN (storeL l ids 1 (q : Int)) (q : Int) = q2 := ⟨_, rfl⟩
          obtain ⟨cb, hcb⟩ : ∃ q2, cntN l (q : Int) = q2 := ⟨_, rfl⟩
          have hge : (cb : Int) ≤ (cx : Int) := by have := cnt_mono (ids := ids) hokm hq32; rw [hcx, hcb] at this; omega
          have HC0 : Hid (cntN (storeL l ids 1 (q : Int)) 0 = n) := Lib.hid (by rw [cnt_0 (store_flags hokm hq32 (apE_1 hq32)), storeL_len]; exact HL.out.len)
          have HCX := Lib.hid hcx
          have HCB := Lib.hid hcb
          obtain ⟨⟨y0, y1, y2, y3⟩, -, -, -, -⟩ := KXR.out.four
          obtain ⟨⟨a0, a1, a2, a3⟩, -, -, -, -⟩ := H1R.out.four
          have LXR := Lib.hid (LX.out.later HBR.out)
          clear hokm hcx hcb
          go_wp2_with fail
          refine wp_region_held_drew (S := fun W' => Below wo.heap.size wo W') hmx (Below.refl wo.heap.size wo).drew (fun hHeld => ?_)
          generalize hW0 : wo.drew = W at *
          clear hW0
          simp only [List.size_toArray, List.length_cons, List.length_nil, Nat.reduceAdd]
          refine wpAnyH_take (i := 0) (v := .agg #[.string nm, .int .i64 v, .int .i64 nx, .slice A6 n c6]) rfl (by kernel_rfl) (by kernel_rfl) (by kernel_rfl) (fun _ _ _ h => h) (Or.inl ⟨by rfl, fun w0 hC => by simp [execOp, Act.eval, Act.put, go_sem, (hC.cell (p := ⟨bx, 0, none⟩) lx).trans y0, (hC.cell (p := ⟨bx, 1, none⟩) lx).trans y1, (hC.cell (p := ⟨bx, 2, none⟩) lx).trans y2, (hC.cell (p := ⟨bx, 3, none⟩) lx).trans y3]⟩) hHeld ?_
          try simp only [Act.put, List.setIfInBounds_toArray, List.set_cons_zero, List.set_cons_succ, List.getElem_toArray, List.getElem_cons_zero, List.getElem_cons_succ]
          refine wpAnyH_take (i := 1) (v := .int .i64 (q : Int)) rfl (by kernel_rfl) (by kernel_rfl) (by kernel_rfl) (fun _ _ _ h => h) (Or.inl ⟨by rfl, fun w0 hC => by simp [execOp, Act.eval, Act.put, go_sem]⟩) hHeld ?_
          try simp only [Act.put, List.setIfInBounds_toArray, List.set_cons_zero, List.set_cons_succ, List.getElem_toArray, List.getElem_cons_zero, List.getElem_cons_succ]
          refine wpAnyH_take (i := 3) (v := .agg #[.string nm, .int .i64 v, .int .i64 nx, .slice A n c]) rfl (by kernel_rfl) (by kernel_rfl) (by kernel_rfl) (fun _ _ _ h => h) (Or.inl ⟨by rfl, fun w0 hC => by simp [execOp, Act.eval, Act.put, go_sem, (hC.cell (p := ⟨w.heap.size, 0, none⟩) lb).trans a0, (hC.cell (p := ⟨w.heap.size, 1, none⟩) lb).trans a1, (hC.cell (p := ⟨w.heap.size, 2, none⟩) lb).trans a2, (hC.cell (p := ⟨w.heap.size, 3, none⟩) lb).trans a3]⟩) hHeld ?_
          try simp only [Act.put, List.setIfInBounds_toArray, List.set_cons_zero, List.set_cons_succ, List.getElem_toArray, List.getElem_cons_zero, List.getElem_cons_succ]
          refine wpAnyH_take (i := 4) (v := .int .i64 (q : Int)) rfl (by kernel_rfl) (by kernel_rfl) (by kernel_rfl) (fun _ _ _ h => h) (Or.inl ⟨by rfl, fun w0 hC => by simp [execOp, Act.eval, Act.put, go_sem]⟩) hHeld ?_
          try simp only [Act.put, List.setIfInBounds_toArray, List.set_cons_zero, List.set_cons_succ, List.getElem_toArray, List.getElem_cons_zero, List.getElem_cons_succ]
          refine wpAnyH_ready (rs := [2]) (by kernel_rfl) (by simp) (AllReadyH.cons rfl (fun K hK => ?_) AllReadyH.nil)
          rw [if_pos (by rfl)]
          go_wp2_with fail
          refine (count_any nm v nx (q : Int) A6 n c6 _ W (LXR.out.later hHeld) (by omega)).mono ?_
          rintro e W2 ⟨rfl, hb2⟩
          rw [HCX.out]
          have hS := hHeld.trans (hb2.mono hHeld.size)
          clear hHeld hb2
          refine hK.out _ _ hS (fun hHeld => ?_)
          clear hK K
          try simp only [Act.put, List.setIfInBounds_toArray, List.set_cons_zero, List.set_cons_succ, List.getElem_toArray, List.getElem_cons_zero, List.getElem_cons_succ]
          clear hS
          generalize W2 = Wa at *
          refine wpAnyH_ready (rs := [5]) (by kernel_rfl) (by simp) (AllReadyH.cons rfl (fun K hK => ?_) AllReadyH.nil)
          rw [if_pos (by rfl)]
          go_wp2_with fail
          refine (count_any nm v nx (q : Int) A n c _ Wa ((HL.out.later HB4.out).later hHeld) (by omega)).mono ?_
          rintro e W2 ⟨rfl, hb2⟩
          rw [HCB.out]
          have hS := hHeld.trans (hb2.mono hHeld.size)
          clear hHeld hb2
          refine hK.out _ _ hS (fun hHeld => ?_)
          clear hK K
          try simp only [Act.put, List.setIfInBounds_toArray, List.set_cons_zero, List.set_cons_succ, List.getElem_toArray, List.getElem_cons_zero, List.getElem_cons_succ]
          clear hS
          generalize W2 = Wb at *
          refine wpAnyH_take (i := 6) (v := .bool true) rfl (by kernel_rfl) (by kernel_rfl) (by kernel_rfl) (fun _ _ _ h => h) (Or.inl ⟨by rfl, fun w0 hC => by simp [execOp, Act.eval, Act.put, go_sem]; omega⟩) hHeld ?_
          try simp only [Act.put, List.setIfInBounds_toArray, List.set_cons_zero, List.set_cons_succ, List.getElem_toArray, List.getElem_cons_zero, List.getElem_cons_succ]
          refine wpAnyH_take (i := 7) (v := .bool true) rfl (by kernel_rfl) (by kernel_rfl) (by kernel_rfl) (fun _ _ _ h => h) (Or.inl ⟨by rfl, fun w0 hC => by simp [execOp, Act.eval, Act.put, go_sem]⟩) hHeld ?_
          try simp only [Act.put, List.setIfInBounds_toArray, List.set_cons_zero, List.set_cons_succ, List.getElem_toArray, List.getElem_cons_zero, List.getElem_cons_succ]
          refine wpAnyH_take (i := 8) (v := .agg #[.string nm, .int .i64 v, .int .i64 nx, .slice A6 n c6]) rfl (by kernel_rfl) (by kernel_rfl) (by kernel_rfl) (fun _ _ _ h => h) (Or.inl ⟨by rfl, fun w0 hC => by simp [execOp, Act.eval, Act.put, go_sem, (hC.cell (p := ⟨bx, 0, none⟩) lx).trans y0, (hC.cell (p := ⟨bx, 1, none⟩) lx).trans y1, (hC.cell (p := ⟨bx, 2, none⟩) lx).trans y2, (hC.cell (p := ⟨bx, 3, none⟩) lx).trans y3]⟩) hHeld ?_
          try simp only [Act.put, List.setIfInBounds_toArray, List.set_cons_zero, List.set_cons_succ, List.getElem_toArray, List.getElem_cons_zero, List.getElem_cons_succ]
          refine wpAnyH_take (i := 10) (v := .pointer (some ⟨bx, 3, none⟩)) rfl (by kernel_rfl) (by kernel_rfl) (by kernel_rfl) (fun _ _ _ h => h) (Or.inl ⟨by rfl, fun w0 hC => by simp [execOp, Act.eval, Act.put, go_sem]⟩) hHeld ?_
          try simp only [Act.put, List.setIfInBounds_toArray, List.set_cons_zero, List.set_cons_succ, List.getElem_toArray, List.getElem_cons_zero, List.getElem_cons_succ]
          refine wpAnyH_take (i := 11) (v := .slice A6 n c6) rfl (by kernel_rfl) (by kernel_rfl) (by kernel_rfl) (fun _ _ _ h => h) (Or.inl ⟨by rfl, fun w0 hC => by simp [execOp, Act.eval, Act.put, go_sem, (hC.cell (p := ⟨bx, 3, none⟩) lx).trans x3]⟩) hHeld ?_
          try simp only [Act.put, List.setIfInBounds_toArray, List.set_cons_zero, List.set_cons_succ, List.getElem_toArray, List.getElem_cons_zero, List.getElem_cons_succ]
          refine wpAnyH_take (i := 12) (v := .int .i64 (n : Int)) rfl (by kernel_rfl) (by kernel_rfl) (by kernel_rfl) (fun _ _ _ h => h) (Or.inl ⟨by rfl, fun w0 hC => by simp [execOp, Act.eval, Act.put, go_sem]⟩) hHeld ?_
          try simp only [Act.put, List.setIfInBounds_toArray, List.set_cons_zero, List.set_cons_succ, List.getElem_toArray, List.getElem_cons_zero, List.getElem_cons_succ]
          refine wpAnyH_ready (rs := [9]) (by kernel_rfl) (by simp) (AllReadyH.cons rfl (fun K hK => ?_) AllReadyH.nil)
          rw [if_pos (by rfl)]
          go_wp2_with fail
          refine (count_any nm v nx 0 A6 n c6 _ Wb (LXR.out.later hHeld) (by omega)).mono ?_
          rintro e W2 ⟨rfl, hb2⟩
          rw [HC0.out]
          have hS := hHeld.trans (hb2.mono hHeld.size)
          clear hHeld hb2
          refine hK.out _ _ hS (fun hHeld => ?_)
          clear hK K
          try simp only [Act.put, List.setIfInBounds_toArray, List.set_cons_zero, List.set_cons_succ, List.getElem_toArray, List.getElem_cons_zero, List.getElem_cons_succ]
          clear hS
          generalize W2 = Wd at *
          refine wpAnyH_take (i := 13) (v := .bool true) rfl (by kernel_rfl) (by kernel_rfl) (by kernel_rfl) (fun _ _ _ h => h) (Or.inl ⟨by rfl, fun w0 hC => by simp [execOp, Act.eval, Act.put, go_sem]⟩) hHeld ?_
          try simp only [Act.put, List.setIfInBounds_toArray, List.set_cons_zero, List.set_cons_succ, List.getElem_toArray, List.getElem_cons_zero, List.getElem_cons_succ]
          refine wpAnyH_take (i := 14) (v := .bool true) rfl (by kernel_rfl) (by kernel_rfl) (by kernel_rfl) (fun _ _ _ h => h) (Or.inl ⟨by rfl, fun w0 hC => by simp [execOp, Act.eval, Act.put, go_sem]⟩) hHeld ?_
          try simp only [Act.put, List.setIfInBounds_toArray, List.set_cons_zero, List.set_cons_succ, List.getElem_toArray, List.getElem_cons_zero, List.getElem_cons_succ]
          refine wpAnyH_take (i := 15) (v := .bool true) rfl (by kernel_rfl) (by kernel_rfl) (by kernel_rfl) (fun _ _ _ h => h) (Or.inl ⟨by rfl, fun w0 hC => by simp [execOp, Act.eval, Act.put, go_sem]⟩) hHeld ?_
          try simp only [Act.put, List.setIfInBounds_toArray, List.set_cons_zero, List.set_cons_succ, List.getElem_toArray, List.getElem_cons_zero, List.getElem_cons_succ]
          refine wpAnyH_done (by kernel_rfl) ?_ _
          have HBE := Lib.hid (HB4.out.trans (hHeld.mono HB4.out.size))
          clear hHeld
          go_wp2_with fail
          go_ret
          exact ⟨rfl, HBE.out⟩
    · have HTB := Lib.hid (storeB_no ht)
      have hte : (storeE ⟨nm, v, nx, l⟩ ids 1 (q : Int) != 0) = true := by simp [ht]
      clear ht
      go_enter Try.func8, Try.ntmps8
      go_wp2_with fail
      refine (alive11_any _).mono ?_
      rintro e w1 ⟨rfl, hb⟩
      have HB1 := Lib.hid (HB.out.trans (hb.mono HB.out.size))
      have H11 := Lib.hid (H1.out.below hb H1.out.lt)
      clear hb
      clear HB H1
      obtain ⟨⟨b0, b1, b2, b3⟩, -, -, -, -⟩ := H11.out.four
      go_wp2_with fail
      refine (great11_any nm v nx A n c l w1 (HL.out.later HB1.out) hn).mono ?_
      rintro e w2 ⟨rfl, hb⟩
      rw [HG.out]
      have HB2 := Lib.hid (HB1.out.trans (hb.mono HB1.out.size))
      have H12 := Lib.hid (H11.out.below hb H11.out.lt)
      clear hb HB1 H11 b0 b1 b2 b3
      obtain ⟨⟨b0, b1, b2, b3⟩, -, -, -, -⟩ := H12.out.four
      go_wp2_with fail
      clear b0 b1 b2 b3
      try rw [HFQ.out]
      refine (store_any nm v nx A n c l B m d0 ids 1 (q : Int) w2 (HL.out.later HB2.out) (by omega) (small_6 HSM.out.2) ((HI.out.below HB2.out (Nat.le_refl _)).more HB2.out.size) hm).mono ?_
      rintro e w3 ⟨A6, n6, c6, rfl, hm6, hb⟩
      rw [HTB.out] at hm6 ⊢
      simp only at hm6 ⊢
      have hba : Below w3.heap.size w3 (w3.alloc (.cells #[.string nm, .int .i64 v, .int .i64 nx, .slice A6 n6 c6] 24)) := (Below.refl _ _).alloc (Nat.le_refl _) _
      have hb' := hb.trans (hba.mono hb.size)
      have HB3 := Lib.hid (HB2.out.trans (hb'.mono HB2.out.size))
      have H13 := Lib.hid (H12.out.below hb' H12.out.lt)
      have KX : Hid (Bk (w3.alloc (.cells #[.string nm, .int .i64 v, .int .i64 nx, .slice A6 n6 c6] 24)) w3.heap.size 24 #[.string nm, .int .i64 v, .int .i64 nx, .slice A6 n6 c6]) := Lib.hid (Bk.new _ _ _)
      have LX := Lib.hid (hm6.later hba)
      have HN6 : Hid (n6 = n) := Lib.hid (by rw [← hm6.len]; exact HL.out.len)
      clear hb hba hb' hm6 HB2 H12
      obtain ⟨⟨x0, x1, x2, x3⟩, -, -, -, -⟩ := KX.out.four
      obtain ⟨⟨b0, b1, b2, b3⟩, -, -, -, -⟩ := H13.out.four
      go_wp2_with fail
      clear x0 x1 x2 x3 b0 b1 b2 b3
      generalize w3.alloc (.cells #[.string nm, .int .i64 v, .int .i64 nx, .slice A6 n6 c6] 24) = w4 at *
      refine (x11same_any nm v nx A6 n6 c6 l nm v nx A n c l w4 LX.out (HL.out.later HB3.out) (by have := HN6.out; omega) (by omega)).mono ?_
      rintro e w5 ⟨rfl, hb⟩
      rw [eq_self_bx]
      have HBE := Lib.hid (HB3.out.trans (hb.mono HB3.out.size))
      clear hb
      go_wp2_with fail
      go_ret
      exact ⟨rfl, HBE.out⟩
  · have HG := Lib.hid hg
    clear hg
    go_enter Try.func8, Try.ntmps8
    go_wp2_with fail
    refine (alive11_any _).mono ?_
    rintro e w1 ⟨rfl, hb⟩
    have HB1 := Lib.hid (HB.out.trans (hb.mono HB.out.size))
    have H11 := Lib.hid (H1.out.below hb H1.out.lt)
    clear hb
    clear HB H1
    obtain ⟨⟨b0, b1, b2, b3⟩, -, -, -, -⟩ := H11.out.four
    go_wp2_with fail
    refine (great11_any nm v nx A n c l w1 (HL.out.later HB1.out) hn).mono ?_
    rintro e w2 ⟨rfl, hb⟩
    rw [HG.out]
    have HB2 := Lib.hid (HB1.out.trans (hb.mono HB1.out.size))
    have H12 := Lib.hid (H11.out.below hb H11.out.lt)
    clear hb HB1 H11 b0 b1 b2 b3
    go_wp2_with fail
    go_ret
    exact ⟨rfl, HB2.out⟩
end Go.Proofs.Ythmlgbeonmpbjaa
