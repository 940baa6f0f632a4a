/-
  Contracts over package date: a time is parsed.
-/
import Derived.Test.YtnhafpgeinghnaaDoorDateRes
namespace Go.Proofs.YtnhafpgeinghnaaDoor
open Go.RowKit
set_option linter.unusedVariables false
set_option linter.unusedSimpArgs false

set_option maxRecDepth 20000 in
set_option maxHeartbeats 40000000 in
theorem parse_any (s : ByteArray) (hs : s.size ≤ 4294967280) (w : World) (hM : Mon w) :
    Calls Tryd.prog 8 #[.string s] w fun e w' => e = .returned (resP (parseR (nats s))) ∧ Below w.heap.size w w' := by
  have h64 : s.size ≤ 9223372036854775807 := by omega
  by_cases h26 : s.size = 26
  · have hge : 26 ≤ s.size := by omega
    have hne : ((s.size : Int) != 26) = false := by rw [h26]; rfl
    have HL := Lib.hid (show (nats s).length = 26 by rw [nats_length, h26])
    have H26 := Lib.hid h26
    clear h26
    have i2 : 2 < s.size := by omega
    have i6 : 6 < s.size := by omega
    have i11 : 11 < s.size := by omega
    have i20 : 20 < s.size := by omega
    have hgd : ∀ (k : Nat) (hk : k < s.size), (nats s).getD k 0 = s[k].toNat := fun k hk => by rw [List.getD_eq_getElem?_getD, nats_byte s k hk]; rfl
    have HPOS : Hid (posB (nats s) = (decide (s[2].toNat = 45) && (decide (s[6].toNat = 45) && (decide (s[11].toNat = 32) && decide (s[20].toNat = 32))))) := Lib.hid (by
      unfold posB; rw [hgd 2 i2, hgd 6 i6, hgd 11 i11, hgd 20 i20])
    have j2 : (2 : Int) < (s.size : Int) := by omega
    have j6 : (6 : Int) < (s.size : Int) := by omega
    have j11 : (11 : Int) < (s.size : Int) := by omega
    have j20 : (20 : Int) < (s.size : Int) := by omega
    have j20' : (20 : Int) ≤ (s.size : Int) := by omega
    have j21 : (21 : Int) ≤ (s.size : Int) := by omega
    have HX0 := Lib.hid (show nats (s.extract 0 2) = (nats s).take 2 from by rw [piece_eq, List.drop_zero])
    have HX1 := Lib.hid (piece_eq s 3 6)
    have HX2 := Lib.hid (piece_eq s 7 11)
    have HX3 := Lib.hid (piece_eq s 12 20)
    have HX4 : Hid (nats (s.extract 21 s.size) = (nats s).drop 21) := Lib.hid (by rw [piece_eq, List.take_of_length_le (by rw [nats_length]; omega)])
    have hz0 : (strOf (trimB (nats (s.extract 0 2)))).size ≤ 4294967280 := by
      rw [strOf_size, HX0.out]; unfold trimB; split <;> simp <;> omega
    have hz1 : (s.extract 3 6).size ≤ 4294967280 := by rw [← nats_length, HX1.out]; simp; omega
    have hz2 : (s.extract 7 11).size ≤ 4294967280 := by rw [← nats_length, HX2.out]; simp; omega
    have hz3 : (s.extract 12 20).size ≤ 4294967280 := by rw [← nats_length, HX3.out]; simp; omega
    have hz4 : (s.extract 21 s.size).size ≤ 4294967280 := by rw [← nats_length, HX4.out, List.length_drop, HL.out]; omega
    have HT0 : Hid (nats (strOf (trimB (nats (s.extract 0 2)))) = trimB ((nats s).take 2)) := Lib.hid (by
      rw [nats_strOf _ (fun x hx => ?_), HX0.out]
      unfold trimB at hx
      split at hx
      · exact nats_lt _ x (List.mem_of_mem_drop hx)
      · exact nats_lt _ x hx)
    have hw0 := hM.lt
    have HM := Lib.hid hM
    clear hgd hM
    rcases pos_cases s[2].toNat s[6].toNat s[11].toNat s[20].toNat with ⟨f2, hp⟩ | ⟨f2, f6, hp⟩ | ⟨f2, f6, f11, hp⟩ | ⟨f2, f6, f11, f20, hp⟩ | ⟨f2, f6, f11, f20, hp⟩
    all_goals
      have HP : Hid (posB (nats s) = _) := Lib.hid (by rw [HPOS.out, hp])
      clear hp HPOS
      go_enter Tryd.func8, Tryd.ntmps8
      go_wp2_with fail
      have hr0 := Rd.new w hw0
      refine (need_any w.heap.size false _ _ hr0).mono ?_
      rintro e w1 ⟨rfl, hr1, hg1⟩
      obtain ⟨b1, hb1⟩ : ∃ q, (false || !posB (nats s)) = q := ⟨_, rfl⟩
      have hr1 : Rd w1 w.heap.size b1 := by
        rw [← hb1, HP.out]
        first
          | exact hr1
          | (have e20 : ((s[20].toNat : Int) == 32) = false := by simpa using f20
             rw [e20] at hr1
             exact hr1)
      have HB1 := Lib.hid hb1
      have HG1 := Lib.hid (show Below w.heap.size w w1 from below_of_new hg1)
      have HM1 := Lib.hid (HM.out.below HG1.out)
      clear hb1 hg1 hr0 HP
      go_wp2_with fail
      have hm : Tryd.prog.follows .mixedOrders = true := by kernel_rfl
      refine wp_region_held_drew (S := fun _ => True) hm trivial (fun hHeld => ?_)
      have HRW := Lib.hid (hr1.below ((Below.refl w1.heap.size w1).drew) hr1.lt)
      have HGW := Lib.hid (HG1.out.trans (((Below.refl w1.heap.size w1).drew).mono HG1.out.size))
      have HMW := Lib.hid (HM1.out.below ((Below.refl w1.heap.size w1).drew))
      clear hr1 HG1 HM1
      generalize w1.drew = W at *
      simp only [List.size_toArray, List.length_cons, List.length_nil, Nat.reduceAdd]
      refine wpAnyH_take (i := 0) (v := .string s) rfl (by kernel_rfl) (by kernel_rfl) (by kernel_rfl) (fun _ _ _ h => h) (Or.inl ⟨by rfl, fun w0 hC => by simp [execOp, Act.eval, Act.put, go_sem]⟩) hHeld ?_
      try simp only [Act.put, List.setIfInBounds_toArray, List.set_cons_zero, List.set_cons_succ, List.getElem_toArray, List.getElem_cons_zero, List.getElem_cons_succ]
      refine wpAnyH_take (i := 1) (v := .string (s.extract 0 2)) rfl (by kernel_rfl) (by kernel_rfl) (by kernel_rfl) (fun _ _ _ h => h) (Or.inl ⟨by rfl, fun w0 hC => by simp [execOp, Act.eval, Act.put, go_sem]; intro hz; exact absurd hz (by omega)⟩) hHeld ?_
      try simp only [Act.put, List.setIfInBounds_toArray, List.set_cons_zero, List.set_cons_succ, List.getElem_toArray, List.getElem_cons_zero, List.getElem_cons_succ]
      refine wpAnyH_take (i := 3) (v := .string s) rfl (by kernel_rfl) (by kernel_rfl) (by kernel_rfl) (fun _ _ _ h => h) (Or.inl ⟨by rfl, fun w0 hC => by simp [execOp, Act.eval, Act.put, go_sem]⟩) hHeld ?_
      try simp only [Act.put, List.setIfInBounds_toArray, List.set_cons_zero, List.set_cons_succ, List.getElem_toArray, List.getElem_cons_zero, List.getElem_cons_succ]
      refine wpAnyH_take (i := 4) (v := .string (s.extract 3 6)) rfl (by kernel_rfl) (by kernel_rfl) (by kernel_rfl) (fun _ _ _ h => h) (Or.inl ⟨by rfl, fun w0 hC => by simp [execOp, Act.eval, Act.put, go_sem]; intro hz; exact absurd hz (by omega)⟩) hHeld ?_
      try simp only [Act.put, List.setIfInBounds_toArray, List.set_cons_zero, List.set_cons_succ, List.getElem_toArray, List.getElem_cons_zero, List.getElem_cons_succ]
      refine wpAnyH_take (i := 5) (v := .string s) rfl (by kernel_rfl) (by kernel_rfl) (by kernel_rfl) (fun _ _ _ h => h) (Or.inl ⟨by rfl, fun w0 hC => by simp [execOp, Act.eval, Act.put, go_sem]⟩) hHeld ?_
      try simp only [Act.put, List.setIfInBounds_toArray, List.set_cons_zero, List.set_cons_succ, List.getElem_toArray, List.getElem_cons_zero, List.getElem_cons_succ]
      refine wpAnyH_take (i := 6) (v := .string (s.extract 7 11)) rfl (by kernel_rfl) (by kernel_rfl) (by kernel_rfl) (fun _ _ _ h => h) (Or.inl ⟨by rfl, fun w0 hC => by simp [execOp, Act.eval, Act.put, go_sem]; intro hz; exact absurd hz (by omega)⟩) hHeld ?_
      try simp only [Act.put, List.setIfInBounds_toArray, List.set_cons_zero, List.set_cons_succ, List.getElem_toArray, List.getElem_cons_zero, List.getElem_cons_succ]
      refine wpAnyH_ready (rs := [2]) (by kernel_rfl) (by simp) (AllReadyH.cons rfl (fun K hK => ?_) AllReadyH.nil)
      rw [if_pos (by rfl)]
      go_wp2_with fail
      refine (trimPrefix_any (s.extract 0 2) W).mono ?_
      rintro e w' ⟨rfl, rfl⟩
      have hS : True := trivial
      refine hK.out _ _ hS (fun hHeld => ?_)
      clear hK K
      try simp only [Act.put, List.setIfInBounds_toArray, List.set_cons_zero, List.set_cons_succ, List.getElem_toArray, List.getElem_cons_zero, List.getElem_cons_succ]
      refine wpAnyH_ready (rs := [7]) (by kernel_rfl) (by simp) (AllReadyH.cons rfl (fun K hK => ?_) AllReadyH.nil)
      rw [if_pos (by rfl)]
      go_wp2_with fail
      refine (day_any3 w.heap.size _ (s.extract 3 6) (s.extract 7 11) b1 W HRW.out (by omega) (by omega) (by omega) HMW.out).mono ?_
      rintro e W2 ⟨rfl, hr2, hg2⟩
      rw [HT0.out, HX1.out, HX2.out] at hr2 ⊢
      obtain ⟨z, hz⟩ : ∃ z, dayR b1 (trimB ((nats s).take 2)) (((nats s).take 6).drop 3) (((nats s).take 11).drop 7) = z := ⟨_, rfl⟩
      obtain ⟨b2, hb2⟩ : ∃ q, (b1 || !dtsOk (nats s)) = q := ⟨_, rfl⟩
      have hzb := dayR_bd b1 (trimB ((nats s).take 2)) (((nats s).take 6).drop 3) (((nats s).take 11).drop 7)
      have hr2 : Rd W2 w.heap.size b2 := by rw [← hb2]; exact hr2
      rw [hz] at hzb ⊢
      have HZ := Lib.hid hz
      have HB2 := Lib.hid hb2
      have HR2 := Lib.hid hr2
      have HG2 := Lib.hid (below_grown_new HGW.out hg2)
      have hw1 : IntKind.i64.wrap (z * 86400) = z * 86400 := IntWalk.i64_in _ (by omega)
      clear hz hb2 hr2 hg2 HRW HGW HMW hHeld
      refine hK.out _ _ hS (fun hHeld => ?_)
      clear hK K
      try simp only [Act.put, List.setIfInBounds_toArray, List.set_cons_zero, List.set_cons_succ, List.getElem_toArray, List.getElem_cons_zero, List.getElem_cons_succ]
      refine wpAnyH_take (i := 8) (v := .int .i64 (z * 86400)) rfl (by kernel_rfl) (by kernel_rfl) (by kernel_rfl) (fun _ _ _ h => h) (Or.inl ⟨by rfl, fun w0 hC => by simp [execOp, Act.eval, Act.put, go_sem, hw1]⟩) hHeld ?_
      try simp only [Act.put, List.setIfInBounds_toArray, List.set_cons_zero, List.set_cons_succ, List.getElem_toArray, List.getElem_cons_zero, List.getElem_cons_succ]
      refine wpAnyH_take (i := 9) (v := .int .i64 (z * 86400)) rfl (by kernel_rfl) (by kernel_rfl) (by kernel_rfl) (fun _ _ _ h => h) (Or.inl ⟨by rfl, fun w0 hC => by simp [execOp, Act.eval, Act.put, go_sem]⟩) hHeld ?_
      try simp only [Act.put, List.setIfInBounds_toArray, List.set_cons_zero, List.set_cons_succ, List.getElem_toArray, List.getElem_cons_zero, List.getElem_cons_succ]
      refine wpAnyH_done (by kernel_rfl) ?_ _
      clear hw1 hHeld hS
      go_wp2_with fail
      refine (clock_any w.heap.size (s.extract 12 20) b2 W2 HR2.out (by omega)).mono ?_
      rintro e W3 ⟨y, hy, rfl, hr3, hg3⟩
      rw [HX3.out] at hr3 hy
      obtain ⟨b3, hb3⟩ : ∃ q, (b2 || !clkOk true (clsL (nats s))) = q := ⟨_, rfl⟩
      have hr3 : Rd W3 w.heap.size b3 := by rw [← hb3]; exact hr3
      have HB3 := Lib.hid hb3
      have HY := Lib.hid hy
      have hy0 := hy.1
      have hy1 := hy.2.1
      have HR3 := Lib.hid hr3
      have HG3 := Lib.hid (below_grown_new HG2.out hg3)
      clear hb3 hy hr3 hg3 HR2 HG2
      go_wp2_with fail
      have hqb : -260000000000 ≤ z * 86400 + y ∧ z * 86400 + y ≤ 260000000000 := by omega
      generalize hq : z * 86400 + y = q at hqb ⊢
      have HQ := Lib.hid hq
      clear hq hzb hy0 hy1
      refine (zone_any w.heap.size (s.extract 21 s.size) b3 W3 HR3.out (by omega)).mono ?_
      rintro e W4 ⟨y2, hy2, rfl, hr4, hg4⟩
      rw [HX4.out] at hr4 hy2
      obtain ⟨b4, hb4⟩ : ∃ q, (b3 || !zoneOk ((nats s).drop 21)) = q := ⟨_, rfl⟩
      have hr4 : Rd W4 w.heap.size b4 := by rw [← hb4]; exact hr4
      have HB4 := Lib.hid hb4
      have HY2 := Lib.hid hy2
      have hy20 := hy2.1
      have hy21 := hy2.2.1
      have hcell := hr4.cell
      have HG4 := Lib.hid (below_grown_new HG3.out hg4)
      clear hb4 hy2 hr4 hg4 HR3 HG3
      have hall : b4 = !parseOk (nats s) := by
        have := or4 (posB (nats s)) (dtsOk (nats s)) (clkOk true (clsL (nats s))) (zoneOk ((nats s).drop 21))
        rw [HB1.out, HB2.out, HB3.out, HB4.out] at this
        exact this
      have HALL := Lib.hid hall
      have HRR : Hid (parseR (nats s) = if parseOk (nats s) = true then rangeR (parseV (nats s)) else (0, 3)) := Lib.hid (by unfold parseR; rw [if_pos HL.out])
      clear hall
      go_wp2_with ((with_reducible show wpList _ _ _ (⟨some 48, _, _, _, _, _⟩ :: _) _ _); refine hold ?_)
      have htb : -300000000000 ≤ q - y2 ∧ q - y2 ≤ 300000000000 := by omega
      generalize ht : q - y2 = t at htb ⊢
      have HT := Lib.hid ht
      clear ht hqb hy20 hy21
      cases hb : b4
      · have hv : q - y2 = parseV (nats s) := by
          have hb3' : b3 = false := or_f HB4.out hb
          have hb2' : b2 = false := or_f HB3.out hb3'
          have e1 : z = dtsV (nats s) := by
            rw [← HZ.out]
            unfold dayR dtsV
            have := HB2.out
            unfold dtsOk at this
            rw [this, hb2', if_neg Bool.false_ne_true]
          have e2 := HY.out.2.2 (show (b2 || !clkOk true (clsL (nats s))) = false by rw [HB3.out, hb3'])
          have e3 := HY2.out.2.2 (by rw [HB4.out, hb])
          unfold parseV
          rw [← HQ.out, e1, e2, e3]
          rfl
        have HV := Lib.hid hv
        have hok : parseOk (nats s) = true := not_f HALL.out hb
        have HR2 : Hid (parseR (nats s) = rangeR (q - y2)) := Lib.hid (by rw [HRR.out, if_pos hok, hv])
        rw [hb] at hcell
        clear hv hok hb
        rw [HT.out] at HR2
        by_cases h0 : t < 0
        · have HF : Hid (rangeR t = (0, 15)) := Lib.hid (by unfold rangeR; rw [if_pos (.inl h0)])
          refine held ?_
          go_wp2_with fail
          go_ret2
          exact ⟨by rw [HR2.out, HF.out] <;> rfl, HG4.out⟩
        · by_cases h1 : t ≤ 253402300799
          · have HF : Hid (rangeR t = (t, 0)) := Lib.hid (by unfold rangeR; rw [if_neg (by omega)])
            refine held ?_
            go_wp2_with fail
            go_ret2
            exact ⟨by rw [HR2.out, HF.out] <;> rfl, HG4.out⟩
          · have HF : Hid (rangeR t = (0, 15)) := Lib.hid (by unfold rangeR; rw [if_pos (.inr (by omega))])
            refine held ?_
            go_wp2_with fail
            go_ret2
            exact ⟨by rw [HR2.out, HF.out] <;> rfl, HG4.out⟩
      · have hok : parseOk (nats s) = false := not_t HALL.out hb
        have HR2 : Hid (parseR (nats s) = (0, 3)) := Lib.hid (by rw [HRR.out, hok, if_neg Bool.false_ne_true])
        rw [hb] at hcell
        clear hok hb
        refine held ?_
        go_wp2_with fail
        go_ret2
        exact ⟨by rw [HR2.out] <;> rfl, HG4.out⟩
  · have HR : Hid (parseR (nats s) = (0, 3)) := Lib.hid (by unfold parseR; rw [if_neg (by rw [nats_length]; exact h26)])
    have hne : ((s.size : Int) != 26) = true := by simp; omega
    clear h26
    go_enter Tryd.func8, Tryd.ntmps8
    go_wp2_with fail
    go_ret2
    exact ⟨by rw [HR.out] <;> rfl, Below.refl _ _⟩
end Go.Proofs.YtnhafpgeinghnaaDoor
