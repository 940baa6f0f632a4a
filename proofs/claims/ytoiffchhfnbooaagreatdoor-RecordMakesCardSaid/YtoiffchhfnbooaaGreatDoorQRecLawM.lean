/-
  The law Makes of layer 15, as a walk.
-/
import Derived.Test.YtoiffchhfnbooaaGreatDoorQRecH
import Derived.Test.YtoiffchhfnbooaaGreatDoorQRecC
import Derived.Deep.DeepCutAuto
import Derived.Deep.QuietTactic
import Derived.BigQuiet
import Derived.IntWalk
namespace Go.Proofs.YtoiffchhfnbooaaGreatDoor
set_option linter.unusedVariables false
set_option linter.unusedSimpArgs false
open Go.RowKit
set_option linter.unusedVariables false
set_option linter.unusedSimpArgs false
/-- the two boxes of a law's call -/
def RcLw (w : World) (c : Ch) (h : Eh) (W : World) : Prop := Bk W w.heap.size 24 (chC c) ∧ Bk W (w.heap.size + 1) 29 (evC h) ∧ Below w.heap.size w W
theorem RcLw.next {w W W' : World} {c : Ch} {h : Eh} (d : RcLw w c h W) (hb : Below W.heap.size W W') : RcLw w c h W' := ⟨d.1.below hb d.1.lt, d.2.1.below hb d.2.1.lt, d.2.2.trans (hb.mono d.2.2.size)⟩
theorem RcLw.drew {w W : World} {c : Ch} {h : Eh} (d : RcLw w c h W) : RcLw w c h W.drew := d.next (Below.refl _ _).drew
theorem ch_guard : Tryz.prog.eqGuardType Tryz.prog.depth 24 = false := by kernel_rfl
theorem exec_eql_ch {o : Oper} {ρ : Operand → Value} {w : World} {x y : Operand} {X Y : Ch} (ho : o.op = .binOp .eql 24 x y 24) (hx : ρ x = .agg (chC X)) (hy : ρ y = .agg (chC Y)) (h1 : X.Ok) (h2 : Y.Ok) : (execOp ρ o).run Tryz.prog w = .ok (.value (.bool (decide (X = Y)))) w := by
  have hg : (eqGuard .eql 24 x y (.agg (chC X)) (.agg (chC Y))).run Tryz.prog w = .ok () w := by
    unfold eqGuard
    simp [ch_guard, Sem.run_bind]
  unfold execOp
  simp [ho, hx, hy, run_eql_ch w X Y h1 h2, hg]
set_option maxRecDepth 100000 in
set_option maxHeartbeats 8000000 in
theorem recordMakes_walk (c : Ch) (h : Eh) (w : World) (hc : c.Ok) (Hh : EvIn w w.heap.size h) (hK : Kinds w) (ht : Tabs w) : Calls Tryz.prog 3 #[.agg (chC c), .agg (evC h)] w fun e w' => e = .returned (.bool true) ∧ Below w.heap.size w w' := by
  have hmx : Tryz.prog.follows .mixedOrders = true := by kernel_rfl
  have HC := Lib.hid hc
  have HH := Lib.hid Hh
  have HK := Lib.hid hK
  have HT := Lib.hid ht
  clear hc Hh hK ht
  go_enter Tryz.func3, Tryz.ntmps3
  go_wp2_with fail
  refine calls_overE (fun W => RcLw w c h W) ⟨(Bk.new _ _ _).alloc _, Bk.new2 _ _ _ _, ((Below.refl _ _).alloc (Nat.le_refl _) _).alloc (by simp) _⟩ ?_
  rintro W q
  have Q0 := Lib.hid q
  clear q
  refine (alive15_any W (HK.out.below Q0.out.2.2) (Tabs.later15 HT.out Q0.out.2.2)).mono ?_
  rintro e W1 ⟨rfl, hb⟩
  have Q1 := Lib.hid (Q0.out.next hb)
  clear hb Q0
  go_wp2_with ((with_reducible show wpList _ _ _ (⟨some 13, _, _, _, _, _⟩ :: _) _ _); refine hold ?_)
  refine held (wpList_load_mid rfl 29 (.tmp 3) rfl (w.heap.size + 1) 0 rfl _ _ Q1.out.2.1.range Tryz.underlying29 rfl (by kernel_rfl) ?_)
  go_wp2_with fail
  refine (xeGreat_any h W1).mono ?_
  rintro e W2 ⟨gr, rfl, hsm, hb⟩
  have Q2 := Lib.hid (Q1.out.next hb)
  clear hsm hb Q1
  cases gr
  case true =>
    go_wp2_with fail
    go_ret
    exact ⟨rfl, Q2.out.2.2⟩
  obtain ⟨X, hX⟩ : ∃ X, nextC c h.e = X := ⟨_, rfl⟩
  have HXO : Hid X.Ok := Lib.hid (by rw [← hX]; exact nextC_ok c h.e)
  have HX := Lib.hid hX
  clear hX
  obtain ⟨er, her⟩ : ∃ er, nextE c h.e = er := ⟨_, rfl⟩
  have HER := Lib.hid her
  clear her
  obtain ⟨rb, hrb⟩ : ∃ rb, nextB c h.e = rb := ⟨_, rfl⟩
  have HRB := Lib.hid hrb
  clear hrb
  go_wp2_with ((with_reducible show wpList _ _ _ (⟨some 16, _, _, _, _, _⟩ :: _) _ _); refine hold ?_)
  refine held (wpList_load_mid rfl 24 (.tmp 2) rfl w.heap.size 0 rfl _ _ Q2.out.1.range Tryz.underlying24 rfl (info_chl HC.out) ?_)
  refine wpList_load_mid rfl 29 (.tmp 3) rfl (w.heap.size + 1) 0 rfl _ _ Q2.out.2.1.range Tryz.underlying29 rfl (by kernel_rfl) ?_
  go_wp2_with fail
  refine (rcNext_any c h W2 HC.out (HH.out.later Q2.out.2.2) (HK.out.below Q2.out.2.2) (Tabs.later15 HT.out Q2.out.2.2)).mono ?_
  rintro e V3 ⟨A3, N3, k3, rfl, ho, hb⟩
  have P3 := Lib.hid (Q2.out.next hb)
  have O3 := Lib.hid ho
  clear ho
  clear hb Q2
  rw [HX.out, HER.out]
  rw [HRB.out] at O3
  go_wp2_with ((with_reducible show wpList _ _ _ (⟨none, _, _, _, _, _⟩ :: _) _ _); refine hold ?_)
  refine held (wpList_store_wide rfl 24 (.tmp 6) (.tmp 20) rfl V3.heap.size 0 (chC X) rfl rfl 24 (chC ch0) (Bk.new V3 24 (chC ch0)) (by rw [chC_size HXO.out]; exact Nat.le_refl _) (info_ch' HXO.out) (chC_one _) ?_)
  intro W4 hw
  obtain ⟨k6, hb⟩ := ch_new HXO.out hw
  have Q4 := Lib.hid (P3.out.next hb)
  have K6 := Lib.hid k6
  have O4 := Lib.hid (O3.out.below hb)
  obtain ⟨b6, hb6⟩ : ∃ b, V3.heap.size = b := ⟨_, rfl⟩
  rw [hb6] at K6 ⊢
  clear k6 hb hw hb6 P3 O3
  go_wp2_with ((with_reducible show wpList _ _ _ (⟨some 23, _, _, _, _, _⟩ :: _) _ _); refine hold ?_)
  refine held (wpList_load_mid rfl 24 (.tmp 2) rfl w.heap.size 0 rfl _ _ Q4.out.1.range Tryz.underlying24 rfl (info_chl HC.out) ?_)
  refine wpList_load_mid rfl 29 (.tmp 3) rfl (w.heap.size + 1) 0 rfl _ _ Q4.out.2.1.range Tryz.underlying29 rfl (by kernel_rfl) ?_
  go_wp2_with fail
  refine (xrNext_any c h W4 HC.out (HH.out.later Q4.out.2.2) (HK.out.below Q4.out.2.2) (Tabs.later15 HT.out Q4.out.2.2)).mono ?_
  rintro e V5 ⟨A5, N5, k5, rfl, ho, hb⟩
  have P5 := Lib.hid (Q4.out.next hb)
  have O5 := Lib.hid ho
  clear ho
  have K6b := Lib.hid (K6.out.below hb K6.out.lt)
  have O4b := Lib.hid (O4.out.below hb)
  clear hb Q4 K6 O4
  rw [HX.out, HER.out]
  rw [HRB.out] at O5
  go_wp2_with ((with_reducible show wpList _ _ _ (⟨none, _, _, _, _, _⟩ :: _) _ _); refine hold ?_)
  refine held (wpList_store_wide rfl 24 (.tmp 9) (.tmp 27) rfl V5.heap.size 0 (chC X) rfl rfl 24 (chC ch0) (Bk.new V5 24 (chC ch0)) (by rw [chC_size HXO.out]; exact Nat.le_refl _) (info_ch' HXO.out) (chC_one _) ?_)
  intro W6 hw
  obtain ⟨k9, hb⟩ := ch_new HXO.out hw
  have Q6 := Lib.hid (P5.out.next hb)
  have K9 := Lib.hid k9
  have K6 := Lib.hid (K6b.out.below hb K6b.out.lt)
  have O4 := Lib.hid (O4b.out.below hb)
  have O6 := Lib.hid (O5.out.below hb)
  obtain ⟨b9, hb9⟩ : ∃ b, V5.heap.size = b := ⟨_, rfl⟩
  rw [hb9] at K9 ⊢
  clear k9 hb hw hb9 P5 O5 K6b O4b
  go_wp2_with fail
  refine wp_region_held_drew (S := fun W' => RcLw w c h W' ∧ Bk W' b6 24 (chC X) ∧ Bk W' b9 24 (chC X)) hmx ⟨Q6.out.drew, K6.out.drew, K9.out.drew⟩ (fun hHeld => ?_)
  have E4 := Lib.hid (O4.out.below (Below.refl _ _).drew)
  have E6 := Lib.hid (O6.out.below (Below.refl _ _).drew)
  clear Q6 K6 K9 O4 O6
  generalize hW0 : W6.drew = V0 at *
  clear hW0
  simp only [List.size_toArray, List.length_cons, List.length_nil, Nat.reduceAdd]
  refine wpAnyH_take (i := 0) (v := .slice A3 N3 k3) rfl (by kernel_rfl) (by kernel_rfl) (by kernel_rfl) (fun _ _ _ h => h) (Or.inl ⟨by rfl, fun w0 hC => by simp [execOp, Act.eval, Act.put, go_sem]⟩) hHeld ?_
  try simp only [Act.put, List.setIfInBounds_toArray, List.set_cons_zero, List.set_cons_succ, List.getElem_toArray, List.getElem_cons_zero, List.getElem_cons_succ]
  refine wpAnyH_take (i := 1) (v := .slice A5 N5 k5) rfl (by kernel_rfl) (by kernel_rfl) (by kernel_rfl) (fun _ _ _ h => h) (Or.inl ⟨by rfl, fun w0 hC => by simp [execOp, Act.eval, Act.put, go_sem]⟩) hHeld ?_
  try simp only [Act.put, List.setIfInBounds_toArray, List.set_cons_zero, List.set_cons_succ, List.getElem_toArray, List.getElem_cons_zero, List.getElem_cons_succ]
  refine wpAnyH_ready (rs := [2]) (by kernel_rfl) (by simp) (AllReadyH.cons rfl (fun K hK => ?_) AllReadyH.nil)
  rw [if_pos (by rfl)]
  go_wp2_with fail
  have CS := Lib.hid (evx3Same_any A3 N3 k3 _ _ A5 N5 k5 _ _ V0 E4.out.bytes E6.out.bytes)
  rw [decide_eq_true rfl] at CS
  refine CS.out.mono ?_
  rintro e w' ⟨rfl, rfl⟩
  clear CS
  have hS := hHeld
  clear hHeld
  refine hK.out _ _ hS (fun hHeld => ?_)
  clear hK K
  try simp only [Act.put, List.setIfInBounds_toArray, List.set_cons_zero, List.set_cons_succ, List.getElem_toArray, List.getElem_cons_zero, List.getElem_cons_succ]
  clear hS E4 E6
  refine wpAnyH_take (i := 3) (v := .bool true) rfl (by kernel_rfl) (by kernel_rfl) (by kernel_rfl) (fun _ _ _ h => h) (Or.inl ⟨by rfl, fun w0 hC => by simp [execOp, Act.eval, Act.put, go_sem]⟩) hHeld ?_
  try simp only [Act.put, List.setIfInBounds_toArray, List.set_cons_zero, List.set_cons_succ, List.getElem_toArray, List.getElem_cons_zero, List.getElem_cons_succ]
  refine wpAnyH_take (i := 4) (v := .agg (chC X)) rfl (by kernel_rfl) (by kernel_rfl) (by kernel_rfl) (fun _ _ _ h => h) (Or.inl ⟨by rfl, fun w0 hC => exec_load rfl rfl hC.2.1.range Tryz.underlying24 rfl (info_ch' HXO.out)⟩) hHeld ?_
  try simp only [Act.put, List.setIfInBounds_toArray, List.set_cons_zero, List.set_cons_succ, List.getElem_toArray, List.getElem_cons_zero, List.getElem_cons_succ]
  refine wpAnyH_take (i := 5) (v := .agg (chC X)) rfl (by kernel_rfl) (by kernel_rfl) (by kernel_rfl) (fun _ _ _ h => h) (Or.inl ⟨by rfl, fun w0 hC => exec_load rfl rfl hC.2.2.range Tryz.underlying24 rfl (info_ch' HXO.out)⟩) hHeld ?_
  try simp only [Act.put, List.setIfInBounds_toArray, List.set_cons_zero, List.set_cons_succ, List.getElem_toArray, List.getElem_cons_zero, List.getElem_cons_succ]
  refine wpAnyH_take (i := 6) (v := .bool true) rfl (by kernel_rfl) (by kernel_rfl) (by kernel_rfl) (fun _ _ _ h => h) (Or.inl ⟨by rfl, fun w0 hC => (exec_eql_ch rfl rfl rfl HXO.out HXO.out).trans (by rw [decide_eq_true rfl])⟩) hHeld ?_
  try simp only [Act.put, List.setIfInBounds_toArray, List.set_cons_zero, List.set_cons_succ, List.getElem_toArray, List.getElem_cons_zero, List.getElem_cons_succ]
  refine wpAnyH_take (i := 7) (v := .bool true) rfl (by kernel_rfl) (by kernel_rfl) (by kernel_rfl) (fun _ _ _ h => h) (Or.inl ⟨by rfl, fun w0 hC => by simp [execOp, Act.eval, Act.put, go_sem]⟩) hHeld ?_
  try simp only [Act.put, List.setIfInBounds_toArray, List.set_cons_zero, List.set_cons_succ, List.getElem_toArray, List.getElem_cons_zero, List.getElem_cons_succ]
  refine wpAnyH_take (i := 8) (v := .bool true) rfl (by kernel_rfl) (by kernel_rfl) (by kernel_rfl) (fun _ _ _ h => h) (Or.inl ⟨by rfl, fun w0 hC => by simp [execOp, Act.eval, Act.put, go_sem]⟩) hHeld ?_
  try simp only [Act.put, List.setIfInBounds_toArray, List.set_cons_zero, List.set_cons_succ, List.getElem_toArray, List.getElem_cons_zero, List.getElem_cons_succ]
  refine wpAnyH_take (i := 9) (v := .int .i64 (er : Int)) rfl (by kernel_rfl) (by kernel_rfl) (by kernel_rfl) (fun _ _ _ h => h) (Or.inl ⟨by rfl, fun w0 hC => by simp [execOp, Act.eval, Act.put, go_sem]⟩) hHeld ?_
  try simp only [Act.put, List.setIfInBounds_toArray, List.set_cons_zero, List.set_cons_succ, List.getElem_toArray, List.getElem_cons_zero, List.getElem_cons_succ]
  refine wpAnyH_take (i := 10) (v := .int .i64 (er : Int)) rfl (by kernel_rfl) (by kernel_rfl) (by kernel_rfl) (fun _ _ _ h => h) (Or.inl ⟨by rfl, fun w0 hC => by simp [execOp, Act.eval, Act.put, go_sem]⟩) hHeld ?_
  try simp only [Act.put, List.setIfInBounds_toArray, List.set_cons_zero, List.set_cons_succ, List.getElem_toArray, List.getElem_cons_zero, List.getElem_cons_succ]
  refine wpAnyH_take (i := 11) (v := .bool true) rfl (by kernel_rfl) (by kernel_rfl) (by kernel_rfl) (fun _ _ _ h => h) (Or.inl ⟨by rfl, fun w0 hC => by simp [execOp, Act.eval, Act.put, go_sem]⟩) hHeld ?_
  try simp only [Act.put, List.setIfInBounds_toArray, List.set_cons_zero, List.set_cons_succ, List.getElem_toArray, List.getElem_cons_zero, List.getElem_cons_succ]
  refine wpAnyH_take (i := 12) (v := .bool true) rfl (by kernel_rfl) (by kernel_rfl) (by kernel_rfl) (fun _ _ _ h => h) (Or.inl ⟨by rfl, fun w0 hC => by simp [execOp, Act.eval, Act.put, go_sem]⟩) hHeld ?_
  try simp only [Act.put, List.setIfInBounds_toArray, List.set_cons_zero, List.set_cons_succ, List.getElem_toArray, List.getElem_cons_zero, List.getElem_cons_succ]
  refine wpAnyH_take (i := 13) (v := .bool true) rfl (by kernel_rfl) (by kernel_rfl) (by kernel_rfl) (fun _ _ _ h => h) (Or.inl ⟨by rfl, fun w0 hC => by simp [execOp, Act.eval, Act.put, go_sem]⟩) hHeld ?_
  try simp only [Act.put, List.setIfInBounds_toArray, List.set_cons_zero, List.set_cons_succ, List.getElem_toArray, List.getElem_cons_zero, List.getElem_cons_succ]
  refine wpAnyH_take (i := 14) (v := .agg (chC c)) rfl (by kernel_rfl) (by kernel_rfl) (by kernel_rfl) (fun _ _ _ h => h) (Or.inl ⟨by rfl, fun w0 hC => exec_load rfl rfl hC.1.1.range Tryz.underlying24 rfl (info_ch' HC.out)⟩) hHeld ?_
  try simp only [Act.put, List.setIfInBounds_toArray, List.set_cons_zero, List.set_cons_succ, List.getElem_toArray, List.getElem_cons_zero, List.getElem_cons_succ]
  refine wpAnyH_take (i := 16) (v := .agg (chC c)) rfl (by kernel_rfl) (by kernel_rfl) (by kernel_rfl) (fun _ _ _ h => h) (Or.inl ⟨by rfl, fun w0 hC => exec_load rfl rfl hC.1.1.range Tryz.underlying24 rfl (info_ch' HC.out)⟩) hHeld ?_
  try simp only [Act.put, List.setIfInBounds_toArray, List.set_cons_zero, List.set_cons_succ, List.getElem_toArray, List.getElem_cons_zero, List.getElem_cons_succ]
  refine wpAnyH_ready (rs := [15]) (by kernel_rfl) (by simp) (AllReadyH.cons rfl (fun K hK => ?_) AllReadyH.nil)
  rw [if_pos (by rfl)]
  go_wp2_with fail
  refine (rcRight_any c V0 HC.out).mono ?_
  rintro e V1 ⟨rfl, hb⟩
  have hS := And.intro (hHeld.1.next hb) (And.intro (hHeld.2.1.below hb hHeld.2.1.lt) (hHeld.2.2.below hb hHeld.2.2.lt))
  clear hHeld hb
  refine hK.out _ _ hS (fun hHeld => ?_)
  clear hK K
  try simp only [Act.put, List.setIfInBounds_toArray, List.set_cons_zero, List.set_cons_succ, List.getElem_toArray, List.getElem_cons_zero, List.getElem_cons_succ]
  clear hS
  refine wpAnyH_ready (rs := [17]) (by kernel_rfl) (by simp) (AllReadyH.cons rfl (fun K hK => ?_) AllReadyH.nil)
  rw [if_pos (by rfl)]
  go_wp2_with fail
  refine (xrRight_any c V1 HC.out).mono ?_
  rintro e V2 ⟨rfl, hb⟩
  have hS := And.intro (hHeld.1.next hb) (And.intro (hHeld.2.1.below hb hHeld.2.1.lt) (hHeld.2.2.below hb hHeld.2.2.lt))
  clear hHeld hb
  refine hK.out _ _ hS (fun hHeld => ?_)
  clear hK K
  try simp only [Act.put, List.setIfInBounds_toArray, List.set_cons_zero, List.set_cons_succ, List.getElem_toArray, List.getElem_cons_zero, List.getElem_cons_succ]
  clear hS
  refine wpAnyH_take (i := 18) (v := .bool true) rfl (by kernel_rfl) (by kernel_rfl) (by kernel_rfl) (fun _ _ _ h => h) (Or.inl ⟨by rfl, fun w0 hC => by simp [execOp, Act.eval, Act.put, go_sem]⟩) hHeld ?_
  try simp only [Act.put, List.setIfInBounds_toArray, List.set_cons_zero, List.set_cons_succ, List.getElem_toArray, List.getElem_cons_zero, List.getElem_cons_succ]
  refine wpAnyH_take (i := 19) (v := .bool true) rfl (by kernel_rfl) (by kernel_rfl) (by kernel_rfl) (fun _ _ _ h => h) (Or.inl ⟨by rfl, fun w0 hC => by simp [execOp, Act.eval, Act.put, go_sem]⟩) hHeld ?_
  try simp only [Act.put, List.setIfInBounds_toArray, List.set_cons_zero, List.set_cons_succ, List.getElem_toArray, List.getElem_cons_zero, List.getElem_cons_succ]
  refine wpAnyH_ready (rs := [20]) (by kernel_rfl) (by simp) (AllReadyH.cons rfl (fun K hK => ?_) AllReadyH.nil)
  rw [if_pos (by rfl)]
  go_wp2_with fail
  have hS := hHeld
  clear hHeld
  refine hK.out _ _ hS (fun hHeld => ?_)
  clear hK K
  try simp only [Act.put, List.setIfInBounds_toArray, List.set_cons_zero, List.set_cons_succ, List.getElem_toArray, List.getElem_cons_zero, List.getElem_cons_succ]
  clear hS
  refine wpAnyH_done (by kernel_rfl) ?_ _
  go_wp2_with fail
  go_ret
  exact ⟨rfl, hHeld.1.2.2⟩
end Go.Proofs.YtoiffchhfnbooaaGreatDoor
