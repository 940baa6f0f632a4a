/-
 A part of the proof: see the last text.
-/
import Derived.Test.YtcdehejgnnnimaaGreatDoorSAppK
import Derived.Test.YtcdehejgnnnimaaGreatDoorSKvOpnM
import Derived.Test.YtcdehejgnnnimaaGreatDoorSKvGet
import Derived.Test.YtcdehejgnnnimaaGreatDoorSKvEnc
import Derived.Deep.QuietTactic
import Derived.Deep.RegionHeld3
namespace Go.Proofs.YtcdehejgnnnimaaGreatDoor
open List renaming setIfInBounds_toArray → jA, set_cons_zero → jB, set_cons_succ → jC, getElem_toArray → jD, getElem_cons_zero → jE, getElem_cons_succ → jF
set_option linter.unusedVariables false
set_option linter.unusedSimpArgs false
open Go.RowKit
set_option linter.unusedVariables false
set_option linter.unusedSimpArgs false
set_option maxRecDepth 20000 in
set_option maxHeartbeats 8000000 in
theorem x6do_any (A : Option Addr) (n c : Nat) (l : List Pr) (A' : Option Addr) (n' c' : Nat) (cs : List Chg) (w : World) (hl : ColK 2 pairC w w.heap.size A n l) (hcs : ColK 3 chgC w w.heap.size A' n' cs) (hr : Rising l) (hn : n ≤ 400000) (hn' : n' ≤ 400000) :
 Calls Tryz.prog 10 #[.slice A n c, .slice A' n' c'] w (RisesTo (runF (fnOf l) cs) w.heap.size w) := by
 have HL := Lib.hid hl
 have HCS := Lib.hid hcs
 have HR := Lib.hid hr
 have hb0 : Below w.heap.size w (w.alloc (.cells #[] 60)) := (Below.refl _ _).alloc (Nat.le_refl _) _
 obtain ⟨A2, c2, w1, hrun, ho, _, hb⟩ := app_own (c' := c) (OwnK.empty pairC_len w 60) (hl.below hb0 (Nat.le_refl _)) (by omega) (by simp)
 rw [Nat.zero_add, List.nil_append] at *
 have HAT0 : Hid (DoAt w A' n' cs A2 n c2 l w1) := Lib.hid ⟨ho, hcs.below (hb0.trans (hb.mono (Nat.le_refl _))) (Nat.le_refl _), hb0.trans (hb.mono (Nat.le_refl _))⟩
 clear hl hcs hr hb0 ho hb
 go_enter Tryz.func10, Tryz.ntmps10
 go_wp2_with ((with_reducible show wpList _ _ _ (⟨some 11, _, _, _, _, _⟩ :: _) _ _); refine holdK ?_)
 refine heldK (wpList_plain rfl fun _ hK => wp_append_ks rfl rfl rfl hrun (hK _ _ ?_))
 clear hrun
 go_wp2_with fail
 go_loopw [5, 6] (fun o i wx => ∃ (k m2 c2 : Nat) (A2 : Option Addr) (os : List Pr), k ≤ n' ∧ i = .int .i64 (k : Int) ∧ o = .slice A2 m2 c2 ∧ m2 ≤ n + k ∧ DoAt w A' n' cs A2 m2 c2 os wx ∧ Lists os (runF (fnOf l) (cs.take k))) (fun _ i _ => n' - (intOf i).toNat)
 case atStart => exact ⟨0, n, c2, A2, l, Nat.zero_le _, rfl, rfl, Nat.le_refl _, HAT0.out, lists_fnOf HR.out⟩
 case round =>
  obtain ⟨k, m2, c2, A2, os, hk, rfl, rfl, hm2, hat, hli⟩ := hrel
  have HAT := Lib.hid hat
  have HLI := Lib.hid hli
  clear hat hli
  by_cases hlt : k < n'
  ·obtain ⟨b, o, a, rfl, hbb, hla, htk, hrow⟩ := HAT.out.2.1.at_ hlt
   obtain ⟨ck, cv, cg⟩ := a
   have HRF := Lib.hid (runF_snoc (fnOf l) htk)
   have HROW := Lib.hid hrow
   have hk0 : (0 : Int) ≤ (k : Int) := by omega
   have hkn : (k : Int) < (n' : Int) := by omega
   have HM2 : Hid (m2 ≤ n + k) := Lib.hid hm2
   have hm2c : m2 ≤ c2 := HAT.out.1.cap.1
   have HLA := Lib.hid hla
   clear hla htk hrow
   go_wp2_with fail
   obtain ⟨wo, hwo⟩ : ∃ wo, wo = wr := ⟨_, rfl⟩
   go_loopw [7] (fun j wx => ∃ q p : Nat, q ≤ m2 ∧ j = .int .i64 (q : Int) ∧ (∀ x ∈ os.take q, ltK x.1 ck) ∧ wx = wo.drewN p) (fun j _ => m2 - (intOf j).toNat)
   case atStart => exact ⟨0, 0, Nat.zero_le _, rfl, fun x hx => (by cases hx), hwo.symm⟩
   case round =>
    obtain ⟨q, p, hq, rfl, hu, hw⟩ := hrel
    have HU := Lib.hid hu
    have hbw : Below wo.heap.size wo wr := by rw [hw]; exact below_drewK (Below.refl _ _) p
    have HW := Lib.hid hw
    rw [← hwo] at HAT HROW
    have HATI := Lib.hid (HAT.out.below hbw)
    have hrow : wr.rangeAt b (o + k * 3) (chgC (ck, cv, cg)) := by
     have := HROW.out
     rw [hw]; exact this
    have r0 := hrow 0 _ rfl
    have r1 := hrow 1 _ rfl
    have r2 := hrow 2 _ rfl
    rw [Nat.add_zero] at r0
    have hq0 : (0 : Int) ≤ (q : Int) := by omega
    have HLEN := Lib.hid HATI.out.1.len
    clear hu hw hbw hrow
    by_cases hqm : q < m2
    ·obtain ⟨g, hA2, hg1, hg2, hcells⟩ := HATI.out.1.range (by omega)
     obtain ⟨x, hx⟩ : ∃ x, os[q]? = some x := ⟨os[q]'(by rw [HLEN.out]; exact hqm), List.getElem?_eq_getElem _⟩
     obtain ⟨xk, xv⟩ := x
     have s0 := hcells q _ hx 0 _ rfl
     have s1 := hcells q _ hx 1 _ rfl
     rw [Nat.add_zero] at s0
     subst hA2
     have HX := Lib.hid hx
     have HG := Lib.hid hg1
     have hqm' : (q : Int) < (m2 : Int) := by omega
     have hdq : decide ((q : Int) < (m2 : Int)) = true := decide_eq_true hqm'
     clear hx hcells hg1 hg2
     cases hle : Op.bytesLess xk.toList ck.toList
     ·have HNL : Hid (¬ ltK xk ck) := Lib.hid (fun z => by rw [(lessK_iff _ _).2 z] at hle; cases hle)
      have HSP : Hid (Spot os ck q) := Lib.hid ⟨by rw [HLEN.out]; exact hq, HU.out, fun x hx => by rw [HX.out] at hx; cases hx; exact HNL.out⟩
      have heq := text_eqb xk ck
      go_wp2_with fail
      go_quiet (fail)
      go_wp2_with fail
      by_cases he : xk = ck
      ·have he2 := he.symm
       subst he2
       clear he
       rw [decide_eq_true rfl] at heq
       refine code_over (fun W => DoAt w (some ⟨b, o, none⟩) n' cs (some ⟨g, 0, none⟩) m2 c2 os W) (HATI.out.drewN _) ?_
       rintro W1 hat1
       obtain ⟨r0, r1, r2⟩ := hat1.chg HLA.out
       obtain ⟨s0, s1⟩ := hat1.pair HX.out
       have HAT1 := Lib.hid hat1
       clear hat1
       go_quiet (fail)
       refine k_overK (fun W => DoAt w (some ⟨b, o, none⟩) n' cs (some ⟨g, 0, none⟩) m2 c2 os W) (HAT1.out.drewN _) ?_
       clear r0 r1 r2 s0 s1 HATI
       clear HAT1
       rintro W1 hat1
       obtain ⟨r0, r1, r2⟩ := hat1.chg HLA.out
       obtain ⟨s0, s1⟩ := hat1.pair HX.out
       have HAT1 := Lib.hid hat1
       clear hat1
       cases cg
       ·have HLN : Hid (Lists (os.set q (ck, cv)) (runF (fnOf l) (cs.take (k + 1)))) := Lib.hid (by rw [HRF.out]; exact step_set HLI.out HX.out)
        obtain ⟨g', hg', hfz, hcl, hput⟩ := HAT1.out.put (cv := cv) HX.out
        injection hg' with hg'
        injection hg' with hg' _
        subst hg'
        have HPUT := Lib.hid hput
        clear hput
        go_wp2_with fail
        go_roundw
        case rel => exact ⟨k + 1, m2, c2, _, _, by omega, by go_num, rfl, by have := HM2.out; omega, HPUT.out, HLN.out⟩
        case measure => simp [intOf]; omega
       ·go_wp2_with fail
        have hwq : IntKind.i64.wrap ((q : Int) + 1) = ((q + 1 : Nat) : Int) := by rw [IntWalk.i64_in _ (by omega)]; omega
        have HLN : Hid (Lists (os.take q ++ os.drop (q + 1)) (runF (fnOf l) (cs.take (k + 1)))) := Lib.hid (by rw [HRF.out]; exact step_del HLI.out HX.out)
        have hm : Tryz.prog.follows .mixedOrders = true := by kernel_rfl
        have hqc : q ≤ c2 := by omega
        have hcol := HAT1.out.1.col
        have HCL := Lib.hid hcol
        clear hcol
        refine wp_region_held_drew (S := fun W' => Below W1.heap.size W1 W') hm ((Below.refl _ _).drew) (fun hHeld => ?_)
        obtain ⟨V0, hV0⟩ : ∃ V, V = W1.drew := ⟨_, rfl⟩
        rw [← hV0] at hHeld ⊢
        clear hV0
        simp only [List.size_toArray, List.length_cons, List.length_nil, Nat.reduceAdd]
        refine wpAnyH_take (i := 1) (v := .slice (some ⟨g, 0, none⟩) m2 c2) rfl (by kernel_rfl) (by kernel_rfl) (by kernel_rfl) (fun _ _ _ h => h) (Or.inl ⟨by rfl, fun w0 hC => by simp [execOp, Act.eval, Act.put, go_sem]⟩) hHeld ?_
        try simp only [Act.put, jA, jB, jC, jD, jE, jF]
        refine wpAnyH_take (i := 2) (v := .int .i64 (q : Int)) rfl (by kernel_rfl) (by kernel_rfl) (by kernel_rfl) (fun _ _ _ h => h) (Or.inl ⟨by rfl, fun w0 hC => by simp [execOp, Act.eval, Act.put, go_sem]⟩) hHeld ?_
        try simp only [Act.put, jA, jB, jC, jD, jE, jF]
        refine wpAnyH_take (i := 3) (v := .slice (toA (some ⟨g, 0, none⟩) c2) q c2) rfl (by kernel_rfl) (by kernel_rfl) (by kernel_rfl) (fun _ _ _ h => h) (Or.inl ⟨by rfl, fun w0 hC => exec_toP rfl rfl rfl hqc⟩) hHeld ?_
        try simp only [Act.put, jA, jB, jC, jD, jE, jF]
        refine wpAnyH_take (i := 5) (v := .slice (some ⟨g, 0, none⟩) m2 c2) rfl (by kernel_rfl) (by kernel_rfl) (by kernel_rfl) (fun _ _ _ h => h) (Or.inl ⟨by rfl, fun w0 hC => by simp [execOp, Act.eval, Act.put, go_sem]⟩) hHeld ?_
        try simp only [Act.put, jA, jB, jC, jD, jE, jF]
        refine wpAnyH_take (i := 6) (v := .int .i64 (q : Int)) rfl (by kernel_rfl) (by kernel_rfl) (by kernel_rfl) (fun _ _ _ h => h) (Or.inl ⟨by rfl, fun w0 hC => by simp [execOp, Act.eval, Act.put, go_sem]⟩) hHeld ?_
        try simp only [Act.put, jA, jB, jC, jD, jE, jF]
        refine wpAnyH_take (i := 7) (v := .int .i64 ((q + 1 : Nat) : Int)) rfl (by kernel_rfl) (by kernel_rfl) (by kernel_rfl) (fun _ _ _ h => h) (Or.inl ⟨by rfl, fun w0 hC => by simp [execOp, Act.eval, Act.put, go_sem, hwq]⟩) hHeld ?_
        try simp only [Act.put, jA, jB, jC, jD, jE, jF]
        refine wpAnyH_take (i := 8) (v := .slice (fromA (some ⟨g, 0, none⟩) (q + 1) c2) (m2 - (q + 1)) (c2 - (q + 1))) rfl (by kernel_rfl) (by kernel_rfl) (by kernel_rfl) (fun _ _ _ h => h) (Or.inl ⟨by rfl, fun w0 hC => exec_fromP rfl rfl rfl (by omega) hm2c⟩) hHeld ?_
        try simp only [Act.put, jA, jB, jC, jD, jE, jF]
        refine wpAnyH_ready (rs := [0]) (by kernel_rfl) (by simp) (AllReadyH.cons rfl (fun K hK => ?_) AllReadyH.nil)
        rw [if_pos (by rfl)]
        go_wp2_with fail
        refine k_overK (fun W' => Below V0.heap.size V0 W' ∧ OwnK 2 pairC W' V0.heap.size 60 (some ⟨V0.heap.size, 0, none⟩) 0 0 [] ∧ V0.heap.size < W'.heap.size) ⟨(Below.refl _ _).alloc (Nat.le_refl _) _, OwnK.empty pairC_len V0 60, by simp⟩ ?_
        rintro V1 ⟨hba, ho, hlt0⟩
        obtain ⟨b0, hb0⟩ : ∃ b0, b0 = V0.heap.size := ⟨_, rfl⟩
        rw [← hb0] at ho hlt0 ⊢
        have ho := ho.from_ (show W1.heap.size ≤ b0 by rw [hb0]; exact hHeld.size)
        clear hb0
        have hSa := hHeld.trans (hba.mono hHeld.size)
        clear hba hHeld
        refine hK.out _ _ hSa (fun hHeld => ?_)
        clear hK K
        try simp only [Act.put, jA, jB, jC, jD, jE, jF]
        clear hSa
        refine wpAnyH_ready (rs := [4]) (by kernel_rfl) (by simp) (AllReadyH.cons rfl (fun K hK => ?_) AllReadyH.nil)
        rw [if_pos (by rfl)]
        obtain ⟨AV2, cV2, V2, hrun, ho2, hgr, hba⟩ := app_own (c' := c2) ho ((HCL.out.toP (c := c2) hq).below hHeld (Nat.le_refl _)) (by omega) hHeld.size
        rw [Nat.zero_add, List.nil_append] at ho2
        rw [Nat.zero_add] at hrun
        clear ho hgr
        have ho := ho2
        clear ho2
        refine wp_append_ks rfl rfl rfl hrun ?_
        clear hrun
        have hSa := hHeld.trans hba
        clear hba hHeld
        refine hK.out _ _ hSa (fun hHeld => ?_)
        clear hK K
        try simp only [Act.put, jA, jB, jC, jD, jE, jF]
        clear hSa
        refine wpAnyH_ready (rs := [9]) (by kernel_rfl) (by simp) (AllReadyH.cons rfl (fun K hK => ?_) AllReadyH.nil)
        rw [if_pos (by rfl)]
        obtain ⟨AV3, cV3, V3, hrun, ho2, hgr, hba⟩ := app_own (c' := c2 - (q + 1)) ho ((HCL.out.fromP (j := q + 1) hqm hm2c).below hHeld (Nat.le_refl _)) (by omega) hHeld.size
        clear ho hgr
        have ho := ho2
        clear ho2
        refine wp_append_ks rfl rfl rfl hrun ?_
        clear hrun
        have hSa := hHeld.trans hba
        clear hba hHeld
        refine hK.out _ _ hSa (fun hHeld => ?_)
        clear hK K
        try simp only [Act.put, jA, jB, jC, jD, jE, jF]
        clear hSa
        refine wpAnyH_ready (rs := [10]) (by kernel_rfl) (by simp) (AllReadyH.cons rfl (fun K hK => ?_) AllReadyH.nil)
        rw [if_pos (by rfl)]
        go_wp2_with fail
        have hSa := hHeld
        refine hK.out _ _ hSa (fun hHeld => ?_)
        clear hK K
        try simp only [Act.put, jA, jB, jC, jD, jE, jF]
        clear hSa
        refine wpAnyH_done (by kernel_rfl) ?_ _
        have HN1 := Lib.hid (HAT1.out.anew hHeld ho)
        clear hHeld ho
        go_wp2_with fail
        go_roundw
        case rel => exact ⟨k + 1, _, cV3, AV3, _, by omega, by go_num, rfl, by have := HM2.out; omega, HN1.out, HLN.out⟩
        case measure => simp [intOf]; omega
      ·rw [decide_eq_false he] at heq
       have HNT : Hid (∀ u, os[q]? ≠ some (ck, u)) := Lib.hid (fun u hu => by rw [HX.out] at hu; injection hu with hu; injection hu with hu _; exact he hu)
       clear he
       refine code_over (fun W => DoAt w (some ⟨b, o, none⟩) n' cs (some ⟨g, 0, none⟩) m2 c2 os W) (HATI.out.drewN _) ?_
       rintro W1 hat1
       obtain ⟨r0, r1, r2⟩ := hat1.chg HLA.out
       obtain ⟨s0, s1⟩ := hat1.pair HX.out
       have HAT1 := Lib.hid hat1
       clear hat1
       go_quiet (fail)
       refine k_overK (fun W => DoAt w (some ⟨b, o, none⟩) n' cs (some ⟨g, 0, none⟩) m2 c2 os W) (HAT1.out.drewN _) ?_
       clear r0 r1 r2 s0 s1 HATI
       clear HAT1
       rintro W1 hat1
       obtain ⟨r0, r1, r2⟩ := hat1.chg HLA.out
       obtain ⟨s0, s1⟩ := hat1.pair HX.out
       have HAT1 := Lib.hid hat1
       clear hat1
       cases cg
       ·go_wp2_with fail
        have HLN : Hid (Lists (os.take q ++ [(ck, cv)] ++ os.drop q) (runF (fnOf l) (cs.take (k + 1)))) := Lib.hid (by rw [HRF.out]; exact step_ins HSP.out HLI.out HNT.out)
        have hm : Tryz.prog.follows .mixedOrders = true := by kernel_rfl
        have hqc : q ≤ c2 := by omega
        have hcol := HAT1.out.1.col
        have HCL := Lib.hid hcol
        clear hcol
        refine wp_region_held_drew (S := fun W' => Below W1.heap.size W1 W') hm ((Below.refl _ _).drew) (fun hHeld => ?_)
        obtain ⟨V0, hV0⟩ : ∃ V, V = W1.drew := ⟨_, rfl⟩
        rw [← hV0] at hHeld ⊢
        clear hV0
        simp only [List.size_toArray, List.length_cons, List.length_nil, Nat.reduceAdd]
        refine wpAnyH_take (i := 1) (v := .slice (some ⟨g, 0, none⟩) m2 c2) rfl (by kernel_rfl) (by kernel_rfl) (by kernel_rfl) (fun _ _ _ h => h) (Or.inl ⟨by rfl, fun w0 hC => by simp [execOp, Act.eval, Act.put, go_sem]⟩) hHeld ?_
        try simp only [Act.put, jA, jB, jC, jD, jE, jF]
        refine wpAnyH_take (i := 2) (v := .int .i64 (q : Int)) rfl (by kernel_rfl) (by kernel_rfl) (by kernel_rfl) (fun _ _ _ h => h) (Or.inl ⟨by rfl, fun w0 hC => by simp [execOp, Act.eval, Act.put, go_sem]⟩) hHeld ?_
        try simp only [Act.put, jA, jB, jC, jD, jE, jF]
        refine wpAnyH_take (i := 3) (v := .slice (toA (some ⟨g, 0, none⟩) c2) q c2) rfl (by kernel_rfl) (by kernel_rfl) (by kernel_rfl) (fun _ _ _ h => h) (Or.inl ⟨by rfl, fun w0 hC => exec_toP rfl rfl rfl hqc⟩) hHeld ?_
        try simp only [Act.put, jA, jB, jC, jD, jE, jF]
        refine wpAnyH_take (i := 5) (v := .slice (some ⟨b, o, none⟩) n' c') rfl (by kernel_rfl) (by kernel_rfl) (by kernel_rfl) (fun _ _ _ h => h) (Or.inl ⟨by rfl, fun w0 hC => by simp [execOp, Act.eval, Act.put, go_sem]⟩) hHeld ?_
        try simp only [Act.put, jA, jB, jC, jD, jE, jF]
        refine wpAnyH_take (i := 6) (v := .int .i64 (k : Int)) rfl (by kernel_rfl) (by kernel_rfl) (by kernel_rfl) (fun _ _ _ h => h) (Or.inl ⟨by rfl, fun w0 hC => by simp [execOp, Act.eval, Act.put, go_sem]⟩) hHeld ?_
        try simp only [Act.put, jA, jB, jC, jD, jE, jF]
        refine wpAnyH_take (i := 7) (v := .pointer (some ⟨b, o + k * 3, none⟩)) rfl (by kernel_rfl) (by kernel_rfl) (by kernel_rfl) (fun _ _ _ h => h) (Or.inl ⟨by rfl, fun w0 hC => by simp [execOp, Act.eval, Act.put, go_sem, hk0, hkn, hlt]⟩) hHeld ?_
        try simp only [Act.put, jA, jB, jC, jD, jE, jF]
        refine wpAnyH_take (i := 8) (v := .pointer (some ⟨b, o + k * 3, none⟩)) rfl (by kernel_rfl) (by kernel_rfl) (by kernel_rfl) (fun _ _ _ h => h) (Or.inl ⟨by rfl, fun w0 hC => by simp [execOp, Act.eval, Act.put, go_sem]⟩) hHeld ?_
        try simp only [Act.put, jA, jB, jC, jD, jE, jF]
        refine wpAnyH_take (i := 9) (v := .string ck) rfl (by kernel_rfl) (by kernel_rfl) (by kernel_rfl) (fun _ _ _ h => h) (Or.inl ⟨by rfl, fun w0 hC => by have := ((HAT1.out.below hC).chg HLA.out).1; simp [execOp, Act.eval, Act.put, go_sem, this]⟩) hHeld ?_
        try simp only [Act.put, jA, jB, jC, jD, jE, jF]
        refine wpAnyH_take (i := 10) (v := .slice (some ⟨b, o, none⟩) n' c') rfl (by kernel_rfl) (by kernel_rfl) (by kernel_rfl) (fun _ _ _ h => h) (Or.inl ⟨by rfl, fun w0 hC => by simp [execOp, Act.eval, Act.put, go_sem]⟩) hHeld ?_
        try simp only [Act.put, jA, jB, jC, jD, jE, jF]
        refine wpAnyH_take (i := 11) (v := .int .i64 (k : Int)) rfl (by kernel_rfl) (by kernel_rfl) (by kernel_rfl) (fun _ _ _ h => h) (Or.inl ⟨by rfl, fun w0 hC => by simp [execOp, Act.eval, Act.put, go_sem]⟩) hHeld ?_
        try simp only [Act.put, jA, jB, jC, jD, jE, jF]
        refine wpAnyH_take (i := 12) (v := .pointer (some ⟨b, o + k * 3, none⟩)) rfl (by kernel_rfl) (by kernel_rfl) (by kernel_rfl) (fun _ _ _ h => h) (Or.inl ⟨by rfl, fun w0 hC => by simp [execOp, Act.eval, Act.put, go_sem, hk0, hkn, hlt]⟩) hHeld ?_
        try simp only [Act.put, jA, jB, jC, jD, jE, jF]
        refine wpAnyH_take (i := 13) (v := .pointer (some ⟨b, o + k * 3 + 1, none⟩)) rfl (by kernel_rfl) (by kernel_rfl) (by kernel_rfl) (fun _ _ _ h => h) (Or.inl ⟨by rfl, fun w0 hC => by simp [execOp, Act.eval, Act.put, go_sem]⟩) hHeld ?_
        try simp only [Act.put, jA, jB, jC, jD, jE, jF]
        refine wpAnyH_take (i := 14) (v := .string cv) rfl (by kernel_rfl) (by kernel_rfl) (by kernel_rfl) (fun _ _ _ h => h) (Or.inl ⟨by rfl, fun w0 hC => by have := ((HAT1.out.below hC).chg HLA.out).2.1; simp [execOp, Act.eval, Act.put, go_sem, this]⟩) hHeld ?_
        try simp only [Act.put, jA, jB, jC, jD, jE, jF]
        refine wpAnyH_take (i := 15) (v := .agg #[.string ck, .string cv]) rfl (by kernel_rfl) (by kernel_rfl) (by kernel_rfl) (fun _ _ _ h => h) (Or.inl ⟨by rfl, fun w0 hC => by simp [execOp, Act.eval, Act.put, go_sem]⟩) hHeld ?_
        try simp only [Act.put, jA, jB, jC, jD, jE, jF]
        refine wpAnyH_take (i := 18) (v := .slice (some ⟨g, 0, none⟩) m2 c2) rfl (by kernel_rfl) (by kernel_rfl) (by kernel_rfl) (fun _ _ _ h => h) (Or.inl ⟨by rfl, fun w0 hC => by simp [execOp, Act.eval, Act.put, go_sem]⟩) hHeld ?_
        try simp only [Act.put, jA, jB, jC, jD, jE, jF]
        refine wpAnyH_take (i := 19) (v := .int .i64 (q : Int)) rfl (by kernel_rfl) (by kernel_rfl) (by kernel_rfl) (fun _ _ _ h => h) (Or.inl ⟨by rfl, fun w0 hC => by simp [execOp, Act.eval, Act.put, go_sem]⟩) hHeld ?_
        try simp only [Act.put, jA, jB, jC, jD, jE, jF]
        refine wpAnyH_take (i := 20) (v := .slice (fromA (some ⟨g, 0, none⟩) q c2) (m2 - q) (c2 - q)) rfl (by kernel_rfl) (by kernel_rfl) (by kernel_rfl) (fun _ _ _ h => h) (Or.inl ⟨by rfl, fun w0 hC => exec_fromP rfl rfl rfl hq hm2c⟩) hHeld ?_
        try simp only [Act.put, jA, jB, jC, jD, jE, jF]
        refine wpAnyH_ready (rs := [0, 16]) (by kernel_rfl) (by simp) (AllReadyH.cons rfl (fun K hK => ?_) (AllReadyH.cons rfl (fun K hK => ?_) AllReadyH.nil))
        ·rw [if_pos (by rfl)]
         go_wp2_with fail
         refine k_overK (fun W' => Below V0.heap.size V0 W' ∧ OwnK 2 pairC W' V0.heap.size 60 (some ⟨V0.heap.size, 0, none⟩) 0 0 [] ∧ V0.heap.size < W'.heap.size) ⟨(Below.refl _ _).alloc (Nat.le_refl _) _, OwnK.empty pairC_len V0 60, by simp⟩ ?_
         rintro V1 ⟨hba, ho, hlt0⟩
         obtain ⟨b0, hb0⟩ : ∃ b0, b0 = V0.heap.size := ⟨_, rfl⟩
         rw [← hb0] at ho hlt0 ⊢
         have ho := ho.from_ (show W1.heap.size ≤ b0 by rw [hb0]; exact hHeld.size)
         clear hb0
         have hSa := hHeld.trans (hba.mono hHeld.size)
         clear hba hHeld
         refine hK.out _ _ hSa (fun hHeld => ?_)
         clear hK K
         try simp only [Act.put, jA, jB, jC, jD, jE, jF]
         clear hSa
         refine wpAnyH_ready (rs := [4, 16]) (by kernel_rfl) (by simp) (AllReadyH.cons rfl (fun K hK => ?_) (AllReadyH.cons rfl (fun K hK => ?_) AllReadyH.nil))
         ·rw [if_pos (by rfl)]
          obtain ⟨AV2, cV2, V2, hrun, ho2, hgr, hba⟩ := app_own (c' := c2) ho ((HCL.out.toP (c := c2) hq).below hHeld (Nat.le_refl _)) (by omega) hHeld.size
          rw [Nat.zero_add, List.nil_append] at ho2
          rw [Nat.zero_add] at hrun
          clear ho hgr
          have ho := ho2
          clear ho2
          refine wp_append_ks rfl rfl rfl hrun ?_
          clear hrun
          have hSa := hHeld.trans hba
          clear hba hHeld
          refine hK.out _ _ hSa (fun hHeld => ?_)
          clear hK K
          try simp only [Act.put, jA, jB, jC, jD, jE, jF]
          clear hSa
          refine wpAnyH_ready (rs := [16]) (by kernel_rfl) (by simp) (AllReadyH.cons rfl (fun K hK => ?_) AllReadyH.nil)
          rw [if_pos (by rfl)]
          go_wp2_with fail
          refine k_overK (fun W' => Below V2.heap.size V2 W' ∧ ColK 2 pairC W' W'.heap.size (some ⟨V2.heap.size, 0, none⟩) 1 [(ck, cv)] ∧ V2.heap.size < W'.heap.size) ⟨(Below.refl _ _).alloc (Nat.le_refl _) _, pair_fresh V2 ck cv, by simp⟩ ?_
          rintro V3 ⟨hba, hone, hlt1⟩
          obtain ⟨b1, hb1⟩ : ∃ b1, b1 = V2.heap.size := ⟨_, rfl⟩
          rw [← hb1] at hone hlt1 ⊢
          clear hb1
          replace ho := ho.below hba
          have hSa := hHeld.trans (hba.mono hHeld.size)
          clear hba hHeld
          refine hK.out _ _ hSa (fun hHeld => ?_)
          clear hK K
          try simp only [Act.put, jA, jB, jC, jD, jE, jF]
          clear hSa
          refine wpAnyH_ready (rs := [17]) (by kernel_rfl) (by simp) (AllReadyH.cons rfl (fun K hK => ?_) AllReadyH.nil)
          rw [if_pos (by rfl)]
          obtain ⟨AV4, cV4, V4, hrun, ho2, hgr, hba⟩ := app_own (c' := 1) ho (hone) (by omega) hHeld.size
          clear ho hgr
          have ho := ho2
          clear ho2
          refine wp_append_ks rfl rfl rfl hrun ?_
          clear hrun
          have hSa := hHeld.trans hba
          clear hba hHeld
          refine hK.out _ _ hSa (fun hHeld => ?_)
          clear hK K
          try simp only [Act.put, jA, jB, jC, jD, jE, jF]
          clear hSa
          refine wpAnyH_ready (rs := [21]) (by kernel_rfl) (by simp) (AllReadyH.cons rfl (fun K hK => ?_) AllReadyH.nil)
          rw [if_pos (by rfl)]
          obtain ⟨AV5, cV5, V5, hrun, ho2, hgr, hba⟩ := app_own (c' := c2 - q) ho ((HCL.out.fromP (j := q) hq hm2c).below hHeld (Nat.le_refl _)) (by omega) hHeld.size
          clear ho hgr
          have ho := ho2
          clear ho2
          refine wp_append_ks rfl rfl rfl hrun ?_
          clear hrun
          have hSa := hHeld.trans hba
          clear hba hHeld
          refine hK.out _ _ hSa (fun hHeld => ?_)
          clear hK K
          try simp only [Act.put, jA, jB, jC, jD, jE, jF]
          clear hSa
          refine wpAnyH_ready (rs := [22]) (by kernel_rfl) (by simp) (AllReadyH.cons rfl (fun K hK => ?_) AllReadyH.nil)
          rw [if_pos (by rfl)]
          go_wp2_with fail
          have hSa := hHeld
          refine hK.out _ _ hSa (fun hHeld => ?_)
          clear hK K
          try simp only [Act.put, jA, jB, jC, jD, jE, jF]
          clear hSa
          refine wpAnyH_done (by kernel_rfl) ?_ _
          have HN1 := Lib.hid (HAT1.out.anew hHeld ho)
          clear hHeld ho
          go_wp2_with fail
          go_roundw
          case rel => exact ⟨k + 1, _, cV5, AV5, _, by omega, by go_num, rfl, by have := HM2.out; omega, HN1.out, HLN.out⟩
          case measure => simp [intOf]; omega
         ·rw [if_pos (by rfl)]
          go_wp2_with fail
          refine k_overK (fun W' => Below V1.heap.size V1 W' ∧ ColK 2 pairC W' W'.heap.size (some ⟨V1.heap.size, 0, none⟩) 1 [(ck, cv)] ∧ V1.heap.size < W'.heap.size) ⟨(Below.refl _ _).alloc (Nat.le_refl _) _, pair_fresh V1 ck cv, by simp⟩ ?_
          rintro V2 ⟨hba, hone, hlt1⟩
          obtain ⟨b1, hb1⟩ : ∃ b1, b1 = V1.heap.size := ⟨_, rfl⟩
          rw [← hb1] at hone hlt1 ⊢
          have hne : b1 ≠ b0 := by omega
          clear hb1
          replace ho := ho.below hba
          have hSa := hHeld.trans (hba.mono hHeld.size)
          clear hba hHeld
          refine hK.out _ _ hSa (fun hHeld => ?_)
          clear hK K
          try simp only [Act.put, jA, jB, jC, jD, jE, jF]
          clear hSa
          refine wpAnyH_ready (rs := [4]) (by kernel_rfl) (by simp) (AllReadyH.cons rfl (fun K hK => ?_) AllReadyH.nil)
          rw [if_pos (by rfl)]
          obtain ⟨AV3, cV3, V3, hrun, ho2, hgr, hba⟩ := app_own (c' := c2) ho ((HCL.out.toP (c := c2) hq).below hHeld (Nat.le_refl _)) (by omega) hHeld.size
          rw [Nat.zero_add, List.nil_append] at ho2
          rw [Nat.zero_add] at hrun
          have hone := (hone.grown (b := b0) hgr (Nat.le_refl _) (fun _ p hp => by cases hp; exact hne)).more hba.size
          clear ho hgr
          have ho := ho2
          clear ho2
          refine wp_append_ks rfl rfl rfl hrun ?_
          clear hrun
          have hSa := hHeld.trans hba
          clear hba hHeld
          refine hK.out _ _ hSa (fun hHeld => ?_)
          clear hK K
          try simp only [Act.put, jA, jB, jC, jD, jE, jF]
          clear hSa
          refine wpAnyH_ready (rs := [17]) (by kernel_rfl) (by simp) (AllReadyH.cons rfl (fun K hK => ?_) AllReadyH.nil)
          rw [if_pos (by rfl)]
          obtain ⟨AV4, cV4, V4, hrun, ho2, hgr, hba⟩ := app_own (c' := 1) ho (hone) (by omega) hHeld.size
          clear ho hgr
          have ho := ho2
          clear ho2
          refine wp_append_ks rfl rfl rfl hrun ?_
          clear hrun
          have hSa := hHeld.trans hba
          clear hba hHeld
          refine hK.out _ _ hSa (fun hHeld => ?_)
          clear hK K
          try simp only [Act.put, jA, jB, jC, jD, jE, jF]
          clear hSa
          refine wpAnyH_ready (rs := [21]) (by kernel_rfl) (by simp) (AllReadyH.cons rfl (fun K hK => ?_) AllReadyH.nil)
          rw [if_pos (by rfl)]
          obtain ⟨AV5, cV5, V5, hrun, ho2, hgr, hba⟩ := app_own (c' := c2 - q) ho ((HCL.out.fromP (j := q) hq hm2c).below hHeld (Nat.le_refl _)) (by omega) hHeld.size
          clear ho hgr
          have ho := ho2
          clear ho2
          refine wp_append_ks rfl rfl rfl hrun ?_
          clear hrun
          have hSa := hHeld.trans hba
          clear hba hHeld
          refine hK.out _ _ hSa (fun hHeld => ?_)
          clear hK K
          try simp only [Act.put, jA, jB, jC, jD, jE, jF]
          clear hSa
          refine wpAnyH_ready (rs := [22]) (by kernel_rfl) (by simp) (AllReadyH.cons rfl (fun K hK => ?_) AllReadyH.nil)
          rw [if_pos (by rfl)]
          go_wp2_with fail
          have hSa := hHeld
          refine hK.out _ _ hSa (fun hHeld => ?_)
          clear hK K
          try simp only [Act.put, jA, jB, jC, jD, jE, jF]
          clear hSa
          refine wpAnyH_done (by kernel_rfl) ?_ _
          have HN1 := Lib.hid (HAT1.out.anew hHeld ho)
          clear hHeld ho
          go_wp2_with fail
          go_roundw
          case rel => exact ⟨k + 1, _, cV5, AV5, _, by omega, by go_num, rfl, by have := HM2.out; omega, HN1.out, HLN.out⟩
          case measure => simp [intOf]; omega
        ·rw [if_pos (by rfl)]
         go_wp2_with fail
         refine k_overK (fun W' => Below V0.heap.size V0 W' ∧ ColK 2 pairC W' W'.heap.size (some ⟨V0.heap.size, 0, none⟩) 1 [(ck, cv)] ∧ V0.heap.size < W'.heap.size) ⟨(Below.refl _ _).alloc (Nat.le_refl _) _, pair_fresh V0 ck cv, by simp⟩ ?_
         rintro V1 ⟨hba, hone, hlt1⟩
         obtain ⟨b1, hb1⟩ : ∃ b1, b1 = V0.heap.size := ⟨_, rfl⟩
         rw [← hb1] at hone hlt1 ⊢
         clear hb1
         have hSa := hHeld.trans (hba.mono hHeld.size)
         clear hba hHeld
         refine hK.out _ _ hSa (fun hHeld => ?_)
         clear hK K
         try simp only [Act.put, jA, jB, jC, jD, jE, jF]
         clear hSa
         refine wpAnyH_ready (rs := [0]) (by kernel_rfl) (by simp) (AllReadyH.cons rfl (fun K hK => ?_) AllReadyH.nil)
         rw [if_pos (by rfl)]
         go_wp2_with fail
         refine k_overK (fun W' => Below V1.heap.size V1 W' ∧ OwnK 2 pairC W' V1.heap.size 60 (some ⟨V1.heap.size, 0, none⟩) 0 0 [] ∧ V1.heap.size < W'.heap.size) ⟨(Below.refl _ _).alloc (Nat.le_refl _) _, OwnK.empty pairC_len V1 60, by simp⟩ ?_
         rintro V2 ⟨hba, ho, hlt0⟩
         obtain ⟨b0, hb0⟩ : ∃ b0, b0 = V1.heap.size := ⟨_, rfl⟩
         rw [← hb0] at ho hlt0 ⊢
         have ho := ho.from_ (show W1.heap.size ≤ b0 by rw [hb0]; exact hHeld.size)
         have hne : b1 ≠ b0 := by omega
         clear hb0
         replace hone := hone.later hba
         have hSa := hHeld.trans (hba.mono hHeld.size)
         clear hba hHeld
         refine hK.out _ _ hSa (fun hHeld => ?_)
         clear hK K
         try simp only [Act.put, jA, jB, jC, jD, jE, jF]
         clear hSa
         refine wpAnyH_ready (rs := [4]) (by kernel_rfl) (by simp) (AllReadyH.cons rfl (fun K hK => ?_) AllReadyH.nil)
         rw [if_pos (by rfl)]
         obtain ⟨AV3, cV3, V3, hrun, ho2, hgr, hba⟩ := app_own (c' := c2) ho ((HCL.out.toP (c := c2) hq).below hHeld (Nat.le_refl _)) (by omega) hHeld.size
         rw [Nat.zero_add, List.nil_append] at ho2
         rw [Nat.zero_add] at hrun
         have hone := (hone.grown (b := b0) hgr (Nat.le_refl _) (fun _ p hp => by cases hp; exact hne)).more hba.size
         clear ho hgr
         have ho := ho2
         clear ho2
         refine wp_append_ks rfl rfl rfl hrun ?_
         clear hrun
         have hSa := hHeld.trans hba
         clear hba hHeld
         refine hK.out _ _ hSa (fun hHeld => ?_)
         clear hK K
         try simp only [Act.put, jA, jB, jC, jD, jE, jF]
         clear hSa
         refine wpAnyH_ready (rs := [17]) (by kernel_rfl) (by simp) (AllReadyH.cons rfl (fun K hK => ?_) AllReadyH.nil)
         rw [if_pos (by rfl)]
         obtain ⟨AV4, cV4, V4, hrun, ho2, hgr, hba⟩ := app_own (c' := 1) ho (hone) (by omega) hHeld.size
         clear ho hgr
         have ho := ho2
         clear ho2
         refine wp_append_ks rfl rfl rfl hrun ?_
         clear hrun
         have hSa := hHeld.trans hba
         clear hba hHeld
         refine hK.out _ _ hSa (fun hHeld => ?_)
         clear hK K
         try simp only [Act.put, jA, jB, jC, jD, jE, jF]
         clear hSa
         refine wpAnyH_ready (rs := [21]) (by kernel_rfl) (by simp) (AllReadyH.cons rfl (fun K hK => ?_) AllReadyH.nil)
         rw [if_pos (by rfl)]
         obtain ⟨AV5, cV5, V5, hrun, ho2, hgr, hba⟩ := app_own (c' := c2 - q) ho ((HCL.out.fromP (j := q) hq hm2c).below hHeld (Nat.le_refl _)) (by omega) hHeld.size
         clear ho hgr
         have ho := ho2
         clear ho2
         refine wp_append_ks rfl rfl rfl hrun ?_
         clear hrun
         have hSa := hHeld.trans hba
         clear hba hHeld
         refine hK.out _ _ hSa (fun hHeld => ?_)
         clear hK K
         try simp only [Act.put, jA, jB, jC, jD, jE, jF]
         clear hSa
         refine wpAnyH_ready (rs := [22]) (by kernel_rfl) (by simp) (AllReadyH.cons rfl (fun K hK => ?_) AllReadyH.nil)
         rw [if_pos (by rfl)]
         go_wp2_with fail
         have hSa := hHeld
         refine hK.out _ _ hSa (fun hHeld => ?_)
         clear hK K
         try simp only [Act.put, jA, jB, jC, jD, jE, jF]
         clear hSa
         refine wpAnyH_done (by kernel_rfl) ?_ _
         have HN1 := Lib.hid (HAT1.out.anew hHeld ho)
         clear hHeld ho
         go_wp2_with fail
         go_roundw
         case rel => exact ⟨k + 1, _, cV5, AV5, _, by omega, by go_num, rfl, by have := HM2.out; omega, HN1.out, HLN.out⟩
         case measure => simp [intOf]; omega
       ·have HLN : Hid (Lists os (runF (fnOf l) (cs.take (k + 1)))) := Lib.hid (by rw [HRF.out]; exact step_none HSP.out HLI.out HNT.out)
        go_wp2_with fail
        go_roundw
        case rel => exact ⟨k + 1, m2, c2, _, os, by omega, by go_num, rfl, by have := HM2.out; omega, HAT1.out, HLN.out⟩
        case measure => simp [intOf]; omega
     ·have HNL : Hid (∀ x ∈ os.take (q + 1), ltK x.1 ck) := Lib.hid (fun x hx => by
       rw [List.take_add_one, HX.out] at hx
       rcases List.mem_append.1 hx with h | h
       ·exact HU.out x h
       ·rw [List.mem_singleton.1 h]; exact (lessK_iff _ _).1 hle)
      go_wp2_with fail
      go_quiet (fail)
      go_wp2_with fail
      go_roundw
      case rel => exact ⟨q + 1, _, by omega, by go_num, HNL.out, by rw [HW.out]; exact drewN_twiceK _ _ _⟩
      case measure => simp [intOf]; omega
    ·have hqm' : ¬ (q : Int) < (m2 : Int) := by omega
     have hdq : decide ((q : Int) < (m2 : Int)) = false := decide_eq_false hqm'
     have hqm2 : q = m2 := by omega
     have HNO : Hid (os[q]? = none) := Lib.hid (List.getElem?_eq_none (by rw [HLEN.out]; omega))
     have HNT : Hid (∀ u, os[q]? ≠ some (ck, u)) := Lib.hid (fun u hu => by rw [HNO.out] at hu; cases hu)
     have HSP : Hid (Spot os ck q) := Lib.hid ⟨by rw [HLEN.out]; exact hq, HU.out, fun x hx => by rw [HNO.out] at hx; cases hx⟩
     clear hqm2
     go_wp2_with fail
     go_quiet (fail)
     go_wp2_with fail
     refine code_over (fun W => DoAt w (some ⟨b, o, none⟩) n' cs A2 m2 c2 os W) (HATI.out.drewN _) ?_
     rintro W1 hat1
     obtain ⟨r0, r1, r2⟩ := hat1.chg HLA.out
     have HAT1 := Lib.hid hat1
     clear hat1
     go_quiet (fail)
     refine k_overK (fun W => DoAt w (some ⟨b, o, none⟩) n' cs A2 m2 c2 os W) (HAT1.out.drewN _) ?_
     clear r0 r1 r2 HATI
     clear HAT1
     rintro W1 hat1
     obtain ⟨r0, r1, r2⟩ := hat1.chg HLA.out
     have HAT1 := Lib.hid hat1
     clear hat1
     cases cg
     ·go_wp2_with fail
      have HLN : Hid (Lists (os.take q ++ [(ck, cv)] ++ os.drop q) (runF (fnOf l) (cs.take (k + 1)))) := Lib.hid (by rw [HRF.out]; exact step_ins HSP.out HLI.out HNT.out)
      have hm : Tryz.prog.follows .mixedOrders = true := by kernel_rfl
      have hqc : q ≤ c2 := by omega
      have hcol := HAT1.out.1.col
      have HCL := Lib.hid hcol
      clear hcol
      refine wp_region_held_drew (S := fun W' => Below W1.heap.size W1 W') hm ((Below.refl _ _).drew) (fun hHeld => ?_)
      obtain ⟨V0, hV0⟩ : ∃ V, V = W1.drew := ⟨_, rfl⟩
      rw [← hV0] at hHeld ⊢
      clear hV0
      simp only [List.size_toArray, List.length_cons, List.length_nil, Nat.reduceAdd]
      refine wpAnyH_take (i := 1) (v := .slice A2 m2 c2) rfl (by kernel_rfl) (by kernel_rfl) (by kernel_rfl) (fun _ _ _ h => h) (Or.inl ⟨by rfl, fun w0 hC => by simp [execOp, Act.eval, Act.put, go_sem]⟩) hHeld ?_
      try simp only [Act.put, jA, jB, jC, jD, jE, jF]
      refine wpAnyH_take (i := 2) (v := .int .i64 (q : Int)) rfl (by kernel_rfl) (by kernel_rfl) (by kernel_rfl) (fun _ _ _ h => h) (Or.inl ⟨by rfl, fun w0 hC => by simp [execOp, Act.eval, Act.put, go_sem]⟩) hHeld ?_
      try simp only [Act.put, jA, jB, jC, jD, jE, jF]
      refine wpAnyH_take (i := 3) (v := .slice (toA A2 c2) q c2) rfl (by kernel_rfl) (by kernel_rfl) (by kernel_rfl) (fun _ _ _ h => h) (Or.inl ⟨by rfl, fun w0 hC => exec_toP rfl rfl rfl hqc⟩) hHeld ?_
      try simp only [Act.put, jA, jB, jC, jD, jE, jF]
      refine wpAnyH_take (i := 5) (v := .slice (some ⟨b, o, none⟩) n' c') rfl (by kernel_rfl) (by kernel_rfl) (by kernel_rfl) (fun _ _ _ h => h) (Or.inl ⟨by rfl, fun w0 hC => by simp [execOp, Act.eval, Act.put, go_sem]⟩) hHeld ?_
      try simp only [Act.put, jA, jB, jC, jD, jE, jF]
      refine wpAnyH_take (i := 6) (v := .int .i64 (k : Int)) rfl (by kernel_rfl) (by kernel_rfl) (by kernel_rfl) (fun _ _ _ h => h) (Or.inl ⟨by rfl, fun w0 hC => by simp [execOp, Act.eval, Act.put, go_sem]⟩) hHeld ?_
      try simp only [Act.put, jA, jB, jC, jD, jE, jF]
      refine wpAnyH_take (i := 7) (v := .pointer (some ⟨b, o + k * 3, none⟩)) rfl (by kernel_rfl) (by kernel_rfl) (by kernel_rfl) (fun _ _ _ h => h) (Or.inl ⟨by rfl, fun w0 hC => by simp [execOp, Act.eval, Act.put, go_sem, hk0, hkn, hlt]⟩) hHeld ?_
      try simp only [Act.put, jA, jB, jC, jD, jE, jF]
      refine wpAnyH_take (i := 8) (v := .pointer (some ⟨b, o + k * 3, none⟩)) rfl (by kernel_rfl) (by kernel_rfl) (by kernel_rfl) (fun _ _ _ h => h) (Or.inl ⟨by rfl, fun w0 hC => by simp [execOp, Act.eval, Act.put, go_sem]⟩) hHeld ?_
      try simp only [Act.put, jA, jB, jC, jD, jE, jF]
      refine wpAnyH_take (i := 9) (v := .string ck) rfl (by kernel_rfl) (by kernel_rfl) (by kernel_rfl) (fun _ _ _ h => h) (Or.inl ⟨by rfl, fun w0 hC => by have := ((HAT1.out.below hC).chg HLA.out).1; simp [execOp, Act.eval, Act.put, go_sem, this]⟩) hHeld ?_
      try simp only [Act.put, jA, jB, jC, jD, jE, jF]
      refine wpAnyH_take (i := 10) (v := .slice (some ⟨b, o, none⟩) n' c') rfl (by kernel_rfl) (by kernel_rfl) (by kernel_rfl) (fun _ _ _ h => h) (Or.inl ⟨by rfl, fun w0 hC => by simp [execOp, Act.eval, Act.put, go_sem]⟩) hHeld ?_
      try simp only [Act.put, jA, jB, jC, jD, jE, jF]
      refine wpAnyH_take (i := 11) (v := .int .i64 (k : Int)) rfl (by kernel_rfl) (by kernel_rfl) (by kernel_rfl) (fun _ _ _ h => h) (Or.inl ⟨by rfl, fun w0 hC => by simp [execOp, Act.eval, Act.put, go_sem]⟩) hHeld ?_
      try simp only [Act.put, jA, jB, jC, jD, jE, jF]
      refine wpAnyH_take (i := 12) (v := .pointer (some ⟨b, o + k * 3, none⟩)) rfl (by kernel_rfl) (by kernel_rfl) (by kernel_rfl) (fun _ _ _ h => h) (Or.inl ⟨by rfl, fun w0 hC => by simp [execOp, Act.eval, Act.put, go_sem, hk0, hkn, hlt]⟩) hHeld ?_
      try simp only [Act.put, jA, jB, jC, jD, jE, jF]
      refine wpAnyH_take (i := 13) (v := .pointer (some ⟨b, o + k * 3 + 1, none⟩)) rfl (by kernel_rfl) (by kernel_rfl) (by kernel_rfl) (fun _ _ _ h => h) (Or.inl ⟨by rfl, fun w0 hC => by simp [execOp, Act.eval, Act.put, go_sem]⟩) hHeld ?_
      try simp only [Act.put, jA, jB, jC, jD, jE, jF]
      refine wpAnyH_take (i := 14) (v := .string cv) rfl (by kernel_rfl) (by kernel_rfl) (by kernel_rfl) (fun _ _ _ h => h) (Or.inl ⟨by rfl, fun w0 hC => by have := ((HAT1.out.below hC).chg HLA.out).2.1; simp [execOp, Act.eval, Act.put, go_sem, this]⟩) hHeld ?_
      try simp only [Act.put, jA, jB, jC, jD, jE, jF]
      refine wpAnyH_take (i := 15) (v := .agg #[.string ck, .string cv]) rfl (by kernel_rfl) (by kernel_rfl) (by kernel_rfl) (fun _ _ _ h => h) (Or.inl ⟨by rfl, fun w0 hC => by simp [execOp, Act.eval, Act.put, go_sem]⟩) hHeld ?_
      try simp only [Act.put, jA, jB, jC, jD, jE, jF]
      refine wpAnyH_take (i := 18) (v := .slice A2 m2 c2) rfl (by kernel_rfl) (by kernel_rfl) (by kernel_rfl) (fun _ _ _ h => h) (Or.inl ⟨by rfl, fun w0 hC => by simp [execOp, Act.eval, Act.put, go_sem]⟩) hHeld ?_
      try simp only [Act.put, jA, jB, jC, jD, jE, jF]
      refine wpAnyH_take (i := 19) (v := .int .i64 (q : Int)) rfl (by kernel_rfl) (by kernel_rfl) (by kernel_rfl) (fun _ _ _ h => h) (Or.inl ⟨by rfl, fun w0 hC => by simp [execOp, Act.eval, Act.put, go_sem]⟩) hHeld ?_
      try simp only [Act.put, jA, jB, jC, jD, jE, jF]
      refine wpAnyH_take (i := 20) (v := .slice (fromA A2 q c2) (m2 - q) (c2 - q)) rfl (by kernel_rfl) (by kernel_rfl) (by kernel_rfl) (fun _ _ _ h => h) (Or.inl ⟨by rfl, fun w0 hC => exec_fromP rfl rfl rfl hq hm2c⟩) hHeld ?_
      try simp only [Act.put, jA, jB, jC, jD, jE, jF]
      refine wpAnyH_ready (rs := [0, 16]) (by kernel_rfl) (by simp) (AllReadyH.cons rfl (fun K hK => ?_) (AllReadyH.cons rfl (fun K hK => ?_) AllReadyH.nil))
      ·rw [if_pos (by rfl)]
       go_wp2_with fail
       refine k_overK (fun W' => Below V0.heap.size V0 W' ∧ OwnK 2 pairC W' V0.heap.size 60 (some ⟨V0.heap.size, 0, none⟩) 0 0 [] ∧ V0.heap.size < W'.heap.size) ⟨(Below.refl _ _).alloc (Nat.le_refl _) _, OwnK.empty pairC_len V0 60, by simp⟩ ?_
       rintro V1 ⟨hba, ho, hlt0⟩
       obtain ⟨b0, hb0⟩ : ∃ b0, b0 = V0.heap.size := ⟨_, rfl⟩
       rw [← hb0] at ho hlt0 ⊢
       have ho := ho.from_ (show W1.heap.size ≤ b0 by rw [hb0]; exact hHeld.size)
       clear hb0
       have hSa := hHeld.trans (hba.mono hHeld.size)
       clear hba hHeld
       refine hK.out _ _ hSa (fun hHeld => ?_)
       clear hK K
       try simp only [Act.put, jA, jB, jC, jD, jE, jF]
       clear hSa
       refine wpAnyH_ready (rs := [4, 16]) (by kernel_rfl) (by simp) (AllReadyH.cons rfl (fun K hK => ?_) (AllReadyH.cons rfl (fun K hK => ?_) AllReadyH.nil))
       ·rw [if_pos (by rfl)]
        obtain ⟨AV2, cV2, V2, hrun, ho2, hgr, hba⟩ := app_own (c' := c2) ho ((HCL.out.toP (c := c2) hq).below hHeld (Nat.le_refl _)) (by omega) hHeld.size
        rw [Nat.zero_add, List.nil_append] at ho2
        rw [Nat.zero_add] at hrun
        clear ho hgr
        have ho := ho2
        clear ho2
        refine wp_append_ks rfl rfl rfl hrun ?_
        clear hrun
        have hSa := hHeld.trans hba
        clear hba hHeld
        refine hK.out _ _ hSa (fun hHeld => ?_)
        clear hK K
        try simp only [Act.put, jA, jB, jC, jD, jE, jF]
        clear hSa
        refine wpAnyH_ready (rs := [16]) (by kernel_rfl) (by simp) (AllReadyH.cons rfl (fun K hK => ?_) AllReadyH.nil)
        rw [if_pos (by rfl)]
        go_wp2_with fail
        refine k_overK (fun W' => Below V2.heap.size V2 W' ∧ ColK 2 pairC W' W'.heap.size (some ⟨V2.heap.size, 0, none⟩) 1 [(ck, cv)] ∧ V2.heap.size < W'.heap.size) ⟨(Below.refl _ _).alloc (Nat.le_refl _) _, pair_fresh V2 ck cv, by simp⟩ ?_
        rintro V3 ⟨hba, hone, hlt1⟩
        obtain ⟨b1, hb1⟩ : ∃ b1, b1 = V2.heap.size := ⟨_, rfl⟩
        rw [← hb1] at hone hlt1 ⊢
        clear hb1
        replace ho := ho.below hba
        have hSa := hHeld.trans (hba.mono hHeld.size)
        clear hba hHeld
        refine hK.out _ _ hSa (fun hHeld => ?_)
        clear hK K
        try simp only [Act.put, jA, jB, jC, jD, jE, jF]
        clear hSa
        refine wpAnyH_ready (rs := [17]) (by kernel_rfl) (by simp) (AllReadyH.cons rfl (fun K hK => ?_) AllReadyH.nil)
        rw [if_pos (by rfl)]
        obtain ⟨AV4, cV4, V4, hrun, ho2, hgr, hba⟩ := app_own (c' := 1) ho (hone) (by omega) hHeld.size
        clear ho hgr
        have ho := ho2
        clear ho2
        refine wp_append_ks rfl rfl rfl hrun ?_
        clear hrun
        have hSa := hHeld.trans hba
        clear hba hHeld
        refine hK.out _ _ hSa (fun hHeld => ?_)
        clear hK K
        try simp only [Act.put, jA, jB, jC, jD, jE, jF]
        clear hSa
        refine wpAnyH_ready (rs := [21]) (by kernel_rfl) (by simp) (AllReadyH.cons rfl (fun K hK => ?_) AllReadyH.nil)
        rw [if_pos (by rfl)]
        obtain ⟨AV5, cV5, V5, hrun, ho2, hgr, hba⟩ := app_own (c' := c2 - q) ho ((HCL.out.fromP (j := q) hq hm2c).below hHeld (Nat.le_refl _)) (by omega) hHeld.size
        clear ho hgr
        have ho := ho2
        clear ho2
        refine wp_append_ks rfl rfl rfl hrun ?_
        clear hrun
        have hSa := hHeld.trans hba
        clear hba hHeld
        refine hK.out _ _ hSa (fun hHeld => ?_)
        clear hK K
        try simp only [Act.put, jA, jB, jC, jD, jE, jF]
        clear hSa
        refine wpAnyH_ready (rs := [22]) (by kernel_rfl) (by simp) (AllReadyH.cons rfl (fun K hK => ?_) AllReadyH.nil)
        rw [if_pos (by rfl)]
        go_wp2_with fail
        have hSa := hHeld
        refine hK.out _ _ hSa (fun hHeld => ?_)
        clear hK K
        try simp only [Act.put, jA, jB, jC, jD, jE, jF]
        clear hSa
        refine wpAnyH_done (by kernel_rfl) ?_ _
        have HN1 := Lib.hid (HAT1.out.anew hHeld ho)
        clear hHeld ho
        go_wp2_with fail
        go_roundw
        case rel => exact ⟨k + 1, _, cV5, AV5, _, by omega, by go_num, rfl, by have := HM2.out; omega, HN1.out, HLN.out⟩
        case measure => simp [intOf]; omega
       ·rw [if_pos (by rfl)]
        go_wp2_with fail
        refine k_overK (fun W' => Below V1.heap.size V1 W' ∧ ColK 2 pairC W' W'.heap.size (some ⟨V1.heap.size, 0, none⟩) 1 [(ck, cv)] ∧ V1.heap.size < W'.heap.size) ⟨(Below.refl _ _).alloc (Nat.le_refl _) _, pair_fresh V1 ck cv, by simp⟩ ?_
        rintro V2 ⟨hba, hone, hlt1⟩
        obtain ⟨b1, hb1⟩ : ∃ b1, b1 = V1.heap.size := ⟨_, rfl⟩
        rw [← hb1] at hone hlt1 ⊢
        have hne : b1 ≠ b0 := by omega
        clear hb1
        replace ho := ho.below hba
        have hSa := hHeld.trans (hba.mono hHeld.size)
        clear hba hHeld
        refine hK.out _ _ hSa (fun hHeld => ?_)
        clear hK K
        try simp only [Act.put, jA, jB, jC, jD, jE, jF]
        clear hSa
        refine wpAnyH_ready (rs := [4]) (by kernel_rfl) (by simp) (AllReadyH.cons rfl (fun K hK => ?_) AllReadyH.nil)
        rw [if_pos (by rfl)]
        obtain ⟨AV3, cV3, V3, hrun, ho2, hgr, hba⟩ := app_own (c' := c2) ho ((HCL.out.toP (c := c2) hq).below hHeld (Nat.le_refl _)) (by omega) hHeld.size
        rw [Nat.zero_add, List.nil_append] at ho2
        rw [Nat.zero_add] at hrun
        have hone := (hone.grown (b := b0) hgr (Nat.le_refl _) (fun _ p hp => by cases hp; exact hne)).more hba.size
        clear ho hgr
        have ho := ho2
        clear ho2
        refine wp_append_ks rfl rfl rfl hrun ?_
        clear hrun
        have hSa := hHeld.trans hba
        clear hba hHeld
        refine hK.out _ _ hSa (fun hHeld => ?_)
        clear hK K
        try simp only [Act.put, jA, jB, jC, jD, jE, jF]
        clear hSa
        refine wpAnyH_ready (rs := [17]) (by kernel_rfl) (by simp) (AllReadyH.cons rfl (fun K hK => ?_) AllReadyH.nil)
        rw [if_pos (by rfl)]
        obtain ⟨AV4, cV4, V4, hrun, ho2, hgr, hba⟩ := app_own (c' := 1) ho (hone) (by omega) hHeld.size
        clear ho hgr
        have ho := ho2
        clear ho2
        refine wp_append_ks rfl rfl rfl hrun ?_
        clear hrun
        have hSa := hHeld.trans hba
        clear hba hHeld
        refine hK.out _ _ hSa (fun hHeld => ?_)
        clear hK K
        try simp only [Act.put, jA, jB, jC, jD, jE, jF]
        clear hSa
        refine wpAnyH_ready (rs := [21]) (by kernel_rfl) (by simp) (AllReadyH.cons rfl (fun K hK => ?_) AllReadyH.nil)
        rw [if_pos (by rfl)]
        obtain ⟨AV5, cV5, V5, hrun, ho2, hgr, hba⟩ := app_own (c' := c2 - q) ho ((HCL.out.fromP (j := q) hq hm2c).below hHeld (Nat.le_refl _)) (by omega) hHeld.size
        clear ho hgr
        have ho := ho2
        clear ho2
        refine wp_append_ks rfl rfl rfl hrun ?_
        clear hrun
        have hSa := hHeld.trans hba
        clear hba hHeld
        refine hK.out _ _ hSa (fun hHeld => ?_)
        clear hK K
        try simp only [Act.put, jA, jB, jC, jD, jE, jF]
        clear hSa
        refine wpAnyH_ready (rs := [22]) (by kernel_rfl) (by simp) (AllReadyH.cons rfl (fun K hK => ?_) AllReadyH.nil)
        rw [if_pos (by rfl)]
        go_wp2_with fail
        have hSa := hHeld
        refine hK.out _ _ hSa (fun hHeld => ?_)
        clear hK K
        try simp only [Act.put, jA, jB, jC, jD, jE, jF]
        clear hSa
        refine wpAnyH_done (by kernel_rfl) ?_ _
        have HN1 := Lib.hid (HAT1.out.anew hHeld ho)
        clear hHeld ho
        go_wp2_with fail
        go_roundw
        case rel => exact ⟨k + 1, _, cV5, AV5, _, by omega, by go_num, rfl, by have := HM2.out; omega, HN1.out, HLN.out⟩
        case measure => simp [intOf]; omega
      ·rw [if_pos (by rfl)]
       go_wp2_with fail
       refine k_overK (fun W' => Below V0.heap.size V0 W' ∧ ColK 2 pairC W' W'.heap.size (some ⟨V0.heap.size, 0, none⟩) 1 [(ck, cv)] ∧ V0.heap.size < W'.heap.size) ⟨(Below.refl _ _).alloc (Nat.le_refl _) _, pair_fresh V0 ck cv, by simp⟩ ?_
       rintro V1 ⟨hba, hone, hlt1⟩
       obtain ⟨b1, hb1⟩ : ∃ b1, b1 = V0.heap.size := ⟨_, rfl⟩
       rw [← hb1] at hone hlt1 ⊢
       clear hb1
       have hSa := hHeld.trans (hba.mono hHeld.size)
       clear hba hHeld
       refine hK.out _ _ hSa (fun hHeld => ?_)
       clear hK K
       try simp only [Act.put, jA, jB, jC, jD, jE, jF]
       clear hSa
       refine wpAnyH_ready (rs := [0]) (by kernel_rfl) (by simp) (AllReadyH.cons rfl (fun K hK => ?_) AllReadyH.nil)
       rw [if_pos (by rfl)]
       go_wp2_with fail
       refine k_overK (fun W' => Below V1.heap.size V1 W' ∧ OwnK 2 pairC W' V1.heap.size 60 (some ⟨V1.heap.size, 0, none⟩) 0 0 [] ∧ V1.heap.size < W'.heap.size) ⟨(Below.refl _ _).alloc (Nat.le_refl _) _, OwnK.empty pairC_len V1 60, by simp⟩ ?_
       rintro V2 ⟨hba, ho, hlt0⟩
       obtain ⟨b0, hb0⟩ : ∃ b0, b0 = V1.heap.size := ⟨_, rfl⟩
       rw [← hb0] at ho hlt0 ⊢
       have ho := ho.from_ (show W1.heap.size ≤ b0 by rw [hb0]; exact hHeld.size)
       have hne : b1 ≠ b0 := by omega
       clear hb0
       replace hone := hone.later hba
       have hSa := hHeld.trans (hba.mono hHeld.size)
       clear hba hHeld
       refine hK.out _ _ hSa (fun hHeld => ?_)
       clear hK K
       try simp only [Act.put, jA, jB, jC, jD, jE, jF]
       clear hSa
       refine wpAnyH_ready (rs := [4]) (by kernel_rfl) (by simp) (AllReadyH.cons rfl (fun K hK => ?_) AllReadyH.nil)
       rw [if_pos (by rfl)]
       obtain ⟨AV3, cV3, V3, hrun, ho2, hgr, hba⟩ := app_own (c' := c2) ho ((HCL.out.toP (c := c2) hq).below hHeld (Nat.le_refl _)) (by omega) hHeld.size
       rw [Nat.zero_add, List.nil_append] at ho2
       rw [Nat.zero_add] at hrun
       have hone := (hone.grown (b := b0) hgr (Nat.le_refl _) (fun _ p hp => by cases hp; exact hne)).more hba.size
       clear ho hgr
       have ho := ho2
       clear ho2
       refine wp_append_ks rfl rfl rfl hrun ?_
       clear hrun
       have hSa := hHeld.trans hba
       clear hba hHeld
       refine hK.out _ _ hSa (fun hHeld => ?_)
       clear hK K
       try simp only [Act.put, jA, jB, jC, jD, jE, jF]
       clear hSa
       refine wpAnyH_ready (rs := [17]) (by kernel_rfl) (by simp) (AllReadyH.cons rfl (fun K hK => ?_) AllReadyH.nil)
       rw [if_pos (by rfl)]
       obtain ⟨AV4, cV4, V4, hrun, ho2, hgr, hba⟩ := app_own (c' := 1) ho (hone) (by omega) hHeld.size
       clear ho hgr
       have ho := ho2
       clear ho2
       refine wp_append_ks rfl rfl rfl hrun ?_
       clear hrun
       have hSa := hHeld.trans hba
       clear hba hHeld
       refine hK.out _ _ hSa (fun hHeld => ?_)
       clear hK K
       try simp only [Act.put, jA, jB, jC, jD, jE, jF]
       clear hSa
       refine wpAnyH_ready (rs := [21]) (by kernel_rfl) (by simp) (AllReadyH.cons rfl (fun K hK => ?_) AllReadyH.nil)
       rw [if_pos (by rfl)]
       obtain ⟨AV5, cV5, V5, hrun, ho2, hgr, hba⟩ := app_own (c' := c2 - q) ho ((HCL.out.fromP (j := q) hq hm2c).below hHeld (Nat.le_refl _)) (by omega) hHeld.size
       clear ho hgr
       have ho := ho2
       clear ho2
       refine wp_append_ks rfl rfl rfl hrun ?_
       clear hrun
       have hSa := hHeld.trans hba
       clear hba hHeld
       refine hK.out _ _ hSa (fun hHeld => ?_)
       clear hK K
       try simp only [Act.put, jA, jB, jC, jD, jE, jF]
       clear hSa
       refine wpAnyH_ready (rs := [22]) (by kernel_rfl) (by simp) (AllReadyH.cons rfl (fun K hK => ?_) AllReadyH.nil)
       rw [if_pos (by rfl)]
       go_wp2_with fail
       have hSa := hHeld
       refine hK.out _ _ hSa (fun hHeld => ?_)
       clear hK K
       try simp only [Act.put, jA, jB, jC, jD, jE, jF]
       clear hSa
       refine wpAnyH_done (by kernel_rfl) ?_ _
       have HN1 := Lib.hid (HAT1.out.anew hHeld ho)
       clear hHeld ho
       go_wp2_with fail
       go_roundw
       case rel => exact ⟨k + 1, _, cV5, AV5, _, by omega, by go_num, rfl, by have := HM2.out; omega, HN1.out, HLN.out⟩
       case measure => simp [intOf]; omega
     ·have HLN : Hid (Lists os (runF (fnOf l) (cs.take (k + 1)))) := Lib.hid (by rw [HRF.out]; exact step_none HSP.out HLI.out HNT.out)
      go_wp2_with fail
      go_roundw
      case rel => exact ⟨k + 1, m2, c2, _, os, by omega, by go_num, rfl, by have := HM2.out; omega, HAT1.out, HLN.out⟩
      case measure => simp [intOf]; omega
  ·have hkn : ¬ (k : Int) < (n' : Int) := by omega
   have hfull : cs.take k = cs := List.take_of_length_le (by rw [HCS.out.1]; omega)
   have HLF : Hid (Lists os (runF (fnOf l) cs)) := Lib.hid (by have := HLI.out; rwa [hfull] at this)
   clear hfull
   go_wp2_with fail
   go_ret
   exact ⟨A2, m2, c2, os, rfl, HAT.out.1, HLF.out, HAT.out.2.2⟩
end Go.Proofs.YtcdehejgnnnimaaGreatDoor
