/-
  The law Asks of layer 12, as a walk.
-/
import Derived.Test.YtcajmigkpcjbcaaDoorQEventP
import Derived.Deep.RegionHeld3
namespace Go.Proofs.YtcajmigkpcjbcaaDoor
set_option linter.unusedVariables false
set_option linter.unusedSimpArgs false
open Go.RowKit
set_option linter.unusedVariables false
set_option linter.unusedSimpArgs false

theorem ev_load {o : Oper} {a : Act} {w0 : World} {x : Operand} {b : Nat} {h : Eh} (ho : o.op = .load 26 x) (hx : a.eval x = .pointer (some ⟨b, 0, none⟩)) (hk : Bk w0 b 26 (evC h)) : (execOp a.eval o).run Tryd.prog w0 = .ok (.value (.agg (evC h))) w0 := by
  unfold execOp
  simp only [ho, hx, Instr.loadAt, Instr.sureAddr, Sem.run_bind, Sem.run_pure, Result.andThen_ok, hk.ev]
set_option maxRecDepth 20000 in
set_option maxHeartbeats 8000000 in
theorem eventAsks_walk (h g : Eh) (k : Int) (w : World) (Hh : EvIn w w.heap.size h) (Hg : EvIn w w.heap.size g) (hK : Kinds w) :
    Calls Tryd.prog 3 #[.agg (evC h), .agg (evC g), .int .i64 k] w fun e w' => e = .returned (.bool true) ∧ Below w.heap.size w w' := by
  have HK := Lib.hid hK
  have HH := Lib.hid Hh
  have HG := Lib.hid Hg
  clear hK Hh Hg
  go_enter Tryd.func3, Tryd.ntmps3
  go_wp2_with fail
  obtain ⟨b3, hb3⟩ : ∃ b, b = w.heap.size := ⟨_, rfl⟩
  obtain ⟨b4, hb4⟩ : ∃ b, b = w.heap.size + 1 := ⟨_, rfl⟩
  refine calls_overE (fun W => Bk W b3 26 (evC h) ∧ Bk W b4 26 (evC g) ∧ Below w.heap.size w W) ⟨by rw [hb3]; exact (Bk.new _ _ _).alloc _, by rw [hb4]; exact Bk.new2 _ _ _ _, ((Below.refl _ _).alloc (Nat.le_refl _) _).alloc (by simp) _⟩ ?_
  have N3 := Lib.hid hb3
  rw [← hb4, ← hb3]
  clear hb3 hb4
  rintro W ⟨k3, k4, kb⟩
  have K3 := Lib.hid k3
  have K4 := Lib.hid k4
  have KB := Lib.hid (show Below w.heap.size w W by rw [← N3.out]; exact kb)
  clear k3 k4 kb
  refine (alive12_any W (HK.out.below KB.out)).mono ?_
  rintro e w1 ⟨rfl, hb1⟩
  have J3 := Lib.hid (K3.out.below hb1 K3.out.lt)
  have J4 := Lib.hid (K4.out.below hb1 K4.out.lt)
  have JB := Lib.hid (KB.out.trans (hb1.mono KB.out.size))
  clear hb1 K3 K4 KB
  go_wp2_with ((with_reducible show wpList _ _ _ (⟨some 13, _, _, _, _, _⟩ :: _) _ _); refine hold ?_)
  refine held (wpList_load_mid rfl 26 (.tmp 3) rfl b3 0 rfl _ _ J3.out.range Tryd.underlying26 rfl (by kernel_rfl) ?_)
  go_wp2_with fail
  refine (xeGreat_any h w1).mono ?_
  rintro e w2 ⟨gr, rfl, hsm, hb2⟩
  have L3 := Lib.hid (J3.out.below hb2 J3.out.lt)
  have L4 := Lib.hid (J4.out.below hb2 J4.out.lt)
  have LB := Lib.hid (JB.out.trans (hb2.mono JB.out.size))
  clear hb2 hsm J3 J4 JB
  cases gr
  case true =>
    go_wp2_with fail
    go_ret
    exact ⟨rfl, LB.out⟩
  go_wp2_with ((with_reducible show wpList _ _ _ (⟨some 16, _, _, _, _, _⟩ :: _) _ _); refine hold ?_)
  refine held (wpList_load_wanted (by rfl) 26 (.tmp 4) rfl b4 0 rfl _ _ L4.out.range Tryd.underlying26 rfl (by kernel_rfl) ?_)
  go_wp2_with fail
  refine (xeGreat_any g w2).mono ?_
  rintro e w3 ⟨gr, rfl, hsm, hb2⟩
  have M3 := Lib.hid (L3.out.below hb2 L3.out.lt)
  have M4 := Lib.hid (L4.out.below hb2 L4.out.lt)
  have MB := Lib.hid (LB.out.trans (hb2.mono LB.out.size))
  clear hb2 hsm L3 L4 LB
  cases gr
  case true =>
    go_wp2_with fail
    go_ret
    exact ⟨rfl, MB.out⟩
  go_wp2_with ((with_reducible show wpList _ _ _ (⟨some 20, _, _, _, _, _⟩ :: _) _ _); refine hold ?_)
  refine held (wpList_load_mid rfl 26 (.tmp 3) rfl b3 0 rfl _ _ M3.out.range Tryd.underlying26 rfl (by kernel_rfl) ?_)
  go_wp2_with fail
  refine (evEncode_any h w3 (HH.out.later MB.out) (HK.out.below MB.out)).mono ?_
  rintro e w4 ⟨A1, N1, c1, rfl, ho, hb5⟩
  have P3 := Lib.hid (M3.out.below hb5 M3.out.lt)
  have P4 := Lib.hid (M4.out.below hb5 M4.out.lt)
  have PB := Lib.hid (MB.out.trans (hb5.mono MB.out.size))
  have PO := Lib.hid ho
  clear hb5 ho M3 M4 MB
  go_wp2_with ((with_reducible show wpList _ _ _ (⟨some 25, _, _, _, _, _⟩ :: _) _ _); refine hold ?_)
  refine held (wpList_load_mid rfl 26 (.tmp 3) rfl b3 0 rfl _ _ P3.out.range Tryd.underlying26 rfl (by kernel_rfl) ?_)
  go_wp2_with fail
  refine (xeEncode_any h w4 (HH.out.later PB.out)).mono ?_
  rintro e w5 ⟨A2, N2', c2, rfl, ho, hb5⟩
  have Q3 := Lib.hid (P3.out.below hb5 P3.out.lt)
  have Q4 := Lib.hid (P4.out.below hb5 P4.out.lt)
  have QB := Lib.hid (PB.out.trans (hb5.mono PB.out.size))
  have Q1 := Lib.hid (PO.out.below hb5)
  have Q2 := Lib.hid ho
  clear hb5 ho P3 P4 PB PO
  obtain ⟨ez, hez⟩ : ∃ ez : Nat, encE h.e = ez := ⟨_, rfl⟩
  rw [hez]
  clear hez
  go_wp2_with fail
  refine wp_region_held_drew (S := fun W' => Bk W' b3 26 (evC h) ∧ Bk W' b4 26 (evC g)) (by kernel_rfl) ⟨Q3.out.drew, Q4.out.drew⟩ (fun hHeld => ?_)
  simp only [List.size_toArray, List.length_cons, List.length_nil, Nat.reduceAdd]
  obtain ⟨V0, hV0⟩ : ∃ V, V = w5.drew := ⟨_, rfl⟩
  have E0 : Hid (Below w.heap.size w V0 ∧ OwnB V0 w3.heap.size 5 A1 N1 c1 (encV h.e) ∧ OwnB V0 w4.heap.size 5 A2 N2' c2 (encV h.e)) := Lib.hid (by
    rw [hV0]
    exact ⟨QB.out.drew, Q1.out.below (Below.refl _ _).drew, Q2.out.below (Below.refl _ _).drew⟩)
  rw [← hV0] at hHeld ⊢
  clear hV0 Q1 Q2 QB Q3 Q4
  refine wpAnyH_take (i := 0) (v := .slice A1 N1 c1) rfl (by kernel_rfl) (by kernel_rfl) (by kernel_rfl) (fun _ _ _ h => h) (Or.inl ⟨by rfl, fun w0 hC => by simp [execOp, Act.eval, Act.put, go_sem]⟩) hHeld ?_
  try simp only [Act.put, List.setIfInBounds_toArray, List.set_cons_zero, List.set_cons_succ, List.getElem_toArray, List.getElem_cons_zero, List.getElem_cons_succ]
  refine wpAnyH_take (i := 1) (v := .slice A2 N2' c2) rfl (by kernel_rfl) (by kernel_rfl) (by kernel_rfl) (fun _ _ _ h => h) (Or.inl ⟨by rfl, fun w0 hC => by simp [execOp, Act.eval, Act.put, go_sem]⟩) hHeld ?_
  try simp only [Act.put, List.setIfInBounds_toArray, List.set_cons_zero, List.set_cons_succ, List.getElem_toArray, List.getElem_cons_zero, List.getElem_cons_succ]
  refine wpAnyH_ready (rs := [2]) (by kernel_rfl) (by simp) (AllReadyH.cons rfl (fun K hK => ?_) AllReadyH.nil)
  rw [if_pos (by rfl)]
  go_wp2_with fail
  have CS := Lib.hid (evx3Same_any A1 N1 c1 _ _ A2 N2' c2 _ _ V0 E0.out.2.1.bytes E0.out.2.2.bytes)
  rw [decide_eq_true rfl] at CS
  refine CS.out.mono ?_
  rintro e w' ⟨rfl, rfl⟩
  clear CS
  have hSa := hHeld
  clear hHeld
  refine hK.out _ _ hSa (fun hHeld => ?_)
  clear hK K
  try simp only [Act.put, List.setIfInBounds_toArray, List.set_cons_zero, List.set_cons_succ, List.getElem_toArray, List.getElem_cons_zero, List.getElem_cons_succ]
  clear hSa
  have EB := Lib.hid E0.out.1
  clear E0
  refine wpAnyH_take (i := 3) (v := .bool true) rfl (by kernel_rfl) (by kernel_rfl) (by kernel_rfl) (fun _ _ _ h => h) (Or.inl ⟨by rfl, fun w0 hC => by simp [execOp, Act.eval, Act.put, go_sem]⟩) hHeld ?_
  try simp only [Act.put, List.setIfInBounds_toArray, List.set_cons_zero, List.set_cons_succ, List.getElem_toArray, List.getElem_cons_zero, List.getElem_cons_succ]
  refine wpAnyH_take (i := 4) (v := .int .i64 (ez : Int)) rfl (by kernel_rfl) (by kernel_rfl) (by kernel_rfl) (fun _ _ _ h => h) (Or.inl ⟨by rfl, fun w0 hC => by simp [execOp, Act.eval, Act.put, go_sem]⟩) hHeld ?_
  try simp only [Act.put, List.setIfInBounds_toArray, List.set_cons_zero, List.set_cons_succ, List.getElem_toArray, List.getElem_cons_zero, List.getElem_cons_succ]
  refine wpAnyH_take (i := 5) (v := .int .i64 (ez : Int)) rfl (by kernel_rfl) (by kernel_rfl) (by kernel_rfl) (fun _ _ _ h => h) (Or.inl ⟨by rfl, fun w0 hC => by simp [execOp, Act.eval, Act.put, go_sem]⟩) hHeld ?_
  try simp only [Act.put, List.setIfInBounds_toArray, List.set_cons_zero, List.set_cons_succ, List.getElem_toArray, List.getElem_cons_zero, List.getElem_cons_succ]
  refine wpAnyH_take (i := 6) (v := .bool true) rfl (by kernel_rfl) (by kernel_rfl) (by kernel_rfl) (fun _ _ _ h => h) (Or.inl ⟨by rfl, fun w0 hC => by simp [execOp, Act.eval, Act.put, go_sem]⟩) hHeld ?_
  try simp only [Act.put, List.setIfInBounds_toArray, List.set_cons_zero, List.set_cons_succ, List.getElem_toArray, List.getElem_cons_zero, List.getElem_cons_succ]
  refine wpAnyH_take (i := 7) (v := .bool true) rfl (by kernel_rfl) (by kernel_rfl) (by kernel_rfl) (fun _ _ _ h => h) (Or.inl ⟨by rfl, fun w0 hC => by simp [execOp, Act.eval, Act.put, go_sem]⟩) hHeld ?_
  try simp only [Act.put, List.setIfInBounds_toArray, List.set_cons_zero, List.set_cons_succ, List.getElem_toArray, List.getElem_cons_zero, List.getElem_cons_succ]
  refine wpAnyH_take (i := 8) (v := .bool true) rfl (by kernel_rfl) (by kernel_rfl) (by kernel_rfl) (fun _ _ _ h => h) (Or.inl ⟨by rfl, fun w0 hC => by simp [execOp, Act.eval, Act.put, go_sem]⟩) hHeld ?_
  try simp only [Act.put, List.setIfInBounds_toArray, List.set_cons_zero, List.set_cons_succ, List.getElem_toArray, List.getElem_cons_zero, List.getElem_cons_succ]
  refine wpAnyH_take (i := 9) (v := .agg (evC h)) rfl (by kernel_rfl) (by kernel_rfl) (by kernel_rfl) (fun _ _ _ h => h) (Or.inl ⟨by rfl, fun w0 hC => ev_load rfl rfl hC.1⟩) hHeld ?_
  try simp only [Act.put, List.setIfInBounds_toArray, List.set_cons_zero, List.set_cons_succ, List.getElem_toArray, List.getElem_cons_zero, List.getElem_cons_succ]
  refine wpAnyH_take (i := 11) (v := .agg (evC h)) rfl (by kernel_rfl) (by kernel_rfl) (by kernel_rfl) (fun _ _ _ h => h) (Or.inl ⟨by rfl, fun w0 hC => ev_load rfl rfl hC.1⟩) hHeld ?_
  try simp only [Act.put, List.setIfInBounds_toArray, List.set_cons_zero, List.set_cons_succ, List.getElem_toArray, List.getElem_cons_zero, List.getElem_cons_succ]
  refine wpAnyH_ready (rs := [10]) (by kernel_rfl) (by simp) (AllReadyH.cons rfl (fun K hK => ?_) AllReadyH.nil)
  rw [if_pos (by rfl)]
  go_wp2_with fail
  refine (evRight_any h V0 (HH.out.later EB.out) (HK.out.below EB.out)).mono ?_
  rintro e V1 ⟨rfl, hbz⟩
  have hSa := And.intro (hHeld.1.below hbz hHeld.1.lt) (hHeld.2.below hbz hHeld.2.lt)
  have EB2 := Lib.hid (EB.out.trans (hbz.mono EB.out.size))
  clear hHeld hbz EB
  have EB := EB2
  clear EB2
  refine hK.out _ _ hSa (fun hHeld => ?_)
  clear hK K
  try simp only [Act.put, List.setIfInBounds_toArray, List.set_cons_zero, List.set_cons_succ, List.getElem_toArray, List.getElem_cons_zero, List.getElem_cons_succ]
  clear hSa
  refine wpAnyH_ready (rs := [12]) (by kernel_rfl) (by simp) (AllReadyH.cons rfl (fun K hK => ?_) AllReadyH.nil)
  rw [if_pos (by rfl)]
  go_wp2_with fail
  refine (xeRight_any h V1 (HH.out.later EB.out)).mono ?_
  rintro e V2 ⟨rfl, hbz⟩
  have hSa := And.intro (hHeld.1.below hbz hHeld.1.lt) (hHeld.2.below hbz hHeld.2.lt)
  have EB2 := Lib.hid (EB.out.trans (hbz.mono EB.out.size))
  clear hHeld hbz EB
  have EB := EB2
  clear EB2
  refine hK.out _ _ hSa (fun hHeld => ?_)
  clear hK K
  try simp only [Act.put, List.setIfInBounds_toArray, List.set_cons_zero, List.set_cons_succ, List.getElem_toArray, List.getElem_cons_zero, List.getElem_cons_succ]
  clear hSa
  refine wpAnyH_take (i := 13) (v := .bool true) rfl (by kernel_rfl) (by kernel_rfl) (by kernel_rfl) (fun _ _ _ h => h) (Or.inl ⟨by rfl, fun w0 hC => by simp [execOp, Act.eval, Act.put, go_sem]⟩) hHeld ?_
  try simp only [Act.put, List.setIfInBounds_toArray, List.set_cons_zero, List.set_cons_succ, List.getElem_toArray, List.getElem_cons_zero, List.getElem_cons_succ]
  refine wpAnyH_take (i := 14) (v := .bool true) rfl (by kernel_rfl) (by kernel_rfl) (by kernel_rfl) (fun _ _ _ h => h) (Or.inl ⟨by rfl, fun w0 hC => by simp [execOp, Act.eval, Act.put, go_sem]⟩) hHeld ?_
  try simp only [Act.put, List.setIfInBounds_toArray, List.set_cons_zero, List.set_cons_succ, List.getElem_toArray, List.getElem_cons_zero, List.getElem_cons_succ]
  refine wpAnyH_take (i := 15) (v := .bool true) rfl (by kernel_rfl) (by kernel_rfl) (by kernel_rfl) (fun _ _ _ h => h) (Or.inl ⟨by rfl, fun w0 hC => by simp [execOp, Act.eval, Act.put, go_sem]⟩) hHeld ?_
  try simp only [Act.put, List.setIfInBounds_toArray, List.set_cons_zero, List.set_cons_succ, List.getElem_toArray, List.getElem_cons_zero, List.getElem_cons_succ]
  refine wpAnyH_take (i := 16) (v := .int .i64 k) rfl (by kernel_rfl) (by kernel_rfl) (by kernel_rfl) (fun _ _ _ h => h) (Or.inl ⟨by rfl, fun w0 hC => by simp [execOp, Act.eval, Act.put, go_sem]⟩) hHeld ?_
  try simp only [Act.put, List.setIfInBounds_toArray, List.set_cons_zero, List.set_cons_succ, List.getElem_toArray, List.getElem_cons_zero, List.getElem_cons_succ]
  refine wpAnyH_take (i := 18) (v := .int .i64 k) rfl (by kernel_rfl) (by kernel_rfl) (by kernel_rfl) (fun _ _ _ h => h) (Or.inl ⟨by rfl, fun w0 hC => by simp [execOp, Act.eval, Act.put, go_sem]⟩) hHeld ?_
  try simp only [Act.put, List.setIfInBounds_toArray, List.set_cons_zero, List.set_cons_succ, List.getElem_toArray, List.getElem_cons_zero, List.getElem_cons_succ]
  refine wpAnyH_ready (rs := [17]) (by kernel_rfl) (by simp) (AllReadyH.cons rfl (fun K hK => ?_) AllReadyH.nil)
  rw [if_pos (by rfl)]
  go_wp2_with fail
  refine (evParts_any k V2 (HK.out.below EB.out)).mono ?_
  rintro e V3 ⟨rfl, hbz⟩
  have hSa := And.intro (hHeld.1.below hbz hHeld.1.lt) (hHeld.2.below hbz hHeld.2.lt)
  have EB2 := Lib.hid (EB.out.trans (hbz.mono EB.out.size))
  clear hHeld hbz EB
  have EB := EB2
  clear EB2
  refine hK.out _ _ hSa (fun hHeld => ?_)
  clear hK K
  try simp only [Act.put, List.setIfInBounds_toArray, List.set_cons_zero, List.set_cons_succ, List.getElem_toArray, List.getElem_cons_zero, List.getElem_cons_succ]
  clear hSa
  refine wpAnyH_ready (rs := [19]) (by kernel_rfl) (by simp) (AllReadyH.cons rfl (fun K hK => ?_) AllReadyH.nil)
  rw [if_pos (by rfl)]
  go_wp2_with fail
  refine (xeParts_any k V3).mono ?_
  rintro e w' ⟨rfl, rfl⟩
  have hSa := hHeld
  clear hHeld
  refine hK.out _ _ hSa (fun hHeld => ?_)
  clear hK K
  try simp only [Act.put, List.setIfInBounds_toArray, List.set_cons_zero, List.set_cons_succ, List.getElem_toArray, List.getElem_cons_zero, List.getElem_cons_succ]
  clear hSa
  refine wpAnyH_take (i := 20) (v := .bool true) rfl (by kernel_rfl) (by kernel_rfl) (by kernel_rfl) (fun _ _ _ h => h) (Or.inl ⟨by rfl, fun w0 hC => by simp [execOp, Act.eval, Act.put, go_sem]⟩) hHeld ?_
  try simp only [Act.put, List.setIfInBounds_toArray, List.set_cons_zero, List.set_cons_succ, List.getElem_toArray, List.getElem_cons_zero, List.getElem_cons_succ]
  refine wpAnyH_take (i := 21) (v := .bool true) rfl (by kernel_rfl) (by kernel_rfl) (by kernel_rfl) (fun _ _ _ h => h) (Or.inl ⟨by rfl, fun w0 hC => by simp [execOp, Act.eval, Act.put, go_sem]⟩) hHeld ?_
  try simp only [Act.put, List.setIfInBounds_toArray, List.set_cons_zero, List.set_cons_succ, List.getElem_toArray, List.getElem_cons_zero, List.getElem_cons_succ]
  refine wpAnyH_take (i := 22) (v := .bool true) rfl (by kernel_rfl) (by kernel_rfl) (by kernel_rfl) (fun _ _ _ h => h) (Or.inl ⟨by rfl, fun w0 hC => by simp [execOp, Act.eval, Act.put, go_sem]⟩) hHeld ?_
  try simp only [Act.put, List.setIfInBounds_toArray, List.set_cons_zero, List.set_cons_succ, List.getElem_toArray, List.getElem_cons_zero, List.getElem_cons_succ]
  refine wpAnyH_take (i := 23) (v := .agg (evC h)) rfl (by kernel_rfl) (by kernel_rfl) (by kernel_rfl) (fun _ _ _ h => h) (Or.inl ⟨by rfl, fun w0 hC => ev_load rfl rfl hC.1⟩) hHeld ?_
  try simp only [Act.put, List.setIfInBounds_toArray, List.set_cons_zero, List.set_cons_succ, List.getElem_toArray, List.getElem_cons_zero, List.getElem_cons_succ]
  refine wpAnyH_take (i := 24) (v := .agg (evC g)) rfl (by kernel_rfl) (by kernel_rfl) (by kernel_rfl) (fun _ _ _ h => h) (Or.inl ⟨by rfl, fun w0 hC => ev_load rfl rfl hC.2⟩) hHeld ?_
  try simp only [Act.put, List.setIfInBounds_toArray, List.set_cons_zero, List.set_cons_succ, List.getElem_toArray, List.getElem_cons_zero, List.getElem_cons_succ]
  refine wpAnyH_take (i := 26) (v := .agg (evC h)) rfl (by kernel_rfl) (by kernel_rfl) (by kernel_rfl) (fun _ _ _ h => h) (Or.inl ⟨by rfl, fun w0 hC => ev_load rfl rfl hC.1⟩) hHeld ?_
  try simp only [Act.put, List.setIfInBounds_toArray, List.set_cons_zero, List.set_cons_succ, List.getElem_toArray, List.getElem_cons_zero, List.getElem_cons_succ]
  refine wpAnyH_take (i := 27) (v := .agg (evC g)) rfl (by kernel_rfl) (by kernel_rfl) (by kernel_rfl) (fun _ _ _ h => h) (Or.inl ⟨by rfl, fun w0 hC => ev_load rfl rfl hC.2⟩) hHeld ?_
  try simp only [Act.put, List.setIfInBounds_toArray, List.set_cons_zero, List.set_cons_succ, List.getElem_toArray, List.getElem_cons_zero, List.getElem_cons_succ]
  refine wpAnyH_ready (rs := [25]) (by kernel_rfl) (by simp) (AllReadyH.cons rfl (fun K hK => ?_) AllReadyH.nil)
  rw [if_pos (by rfl)]
  go_wp2_with fail
  refine (evSame_any h g V3 (HH.out.later EB.out) (HG.out.later EB.out)).mono ?_
  rintro e V5 ⟨rfl, hbz⟩
  have hSa := And.intro (hHeld.1.below hbz hHeld.1.lt) (hHeld.2.below hbz hHeld.2.lt)
  have EB2 := Lib.hid (EB.out.trans (hbz.mono EB.out.size))
  clear hHeld hbz EB
  have EB := EB2
  clear EB2
  refine hK.out _ _ hSa (fun hHeld => ?_)
  clear hK K
  try simp only [Act.put, List.setIfInBounds_toArray, List.set_cons_zero, List.set_cons_succ, List.getElem_toArray, List.getElem_cons_zero, List.getElem_cons_succ]
  clear hSa
  refine wpAnyH_ready (rs := [28]) (by kernel_rfl) (by simp) (AllReadyH.cons rfl (fun K hK => ?_) AllReadyH.nil)
  rw [if_pos (by rfl)]
  go_wp2_with fail
  refine (xeSame_any h g V5 (HH.out.later EB.out) (HG.out.later EB.out)).mono ?_
  rintro e V6 ⟨rfl, hbz⟩
  have hSa := And.intro (hHeld.1.below hbz hHeld.1.lt) (hHeld.2.below hbz hHeld.2.lt)
  have EB2 := Lib.hid (EB.out.trans (hbz.mono EB.out.size))
  clear hHeld hbz EB
  have EB := EB2
  clear EB2
  refine hK.out _ _ hSa (fun hHeld => ?_)
  clear hK K
  try simp only [Act.put, List.setIfInBounds_toArray, List.set_cons_zero, List.set_cons_succ, List.getElem_toArray, List.getElem_cons_zero, List.getElem_cons_succ]
  clear hSa
  refine wpAnyH_take (i := 29) (v := .bool true) rfl (by kernel_rfl) (by kernel_rfl) (by kernel_rfl) (fun _ _ _ h => h) (Or.inl ⟨by rfl, fun w0 hC => by simp [execOp, Act.eval, Act.put, go_sem]⟩) hHeld ?_
  try simp only [Act.put, List.setIfInBounds_toArray, List.set_cons_zero, List.set_cons_succ, List.getElem_toArray, List.getElem_cons_zero, List.getElem_cons_succ]
  refine wpAnyH_take (i := 30) (v := .bool true) rfl (by kernel_rfl) (by kernel_rfl) (by kernel_rfl) (fun _ _ _ h => h) (Or.inl ⟨by rfl, fun w0 hC => by simp [execOp, Act.eval, Act.put, go_sem]⟩) hHeld ?_
  try simp only [Act.put, List.setIfInBounds_toArray, List.set_cons_zero, List.set_cons_succ, List.getElem_toArray, List.getElem_cons_zero, List.getElem_cons_succ]
  refine wpAnyH_take (i := 31) (v := .bool true) rfl (by kernel_rfl) (by kernel_rfl) (by kernel_rfl) (fun _ _ _ h => h) (Or.inl ⟨by rfl, fun w0 hC => by simp [execOp, Act.eval, Act.put, go_sem]⟩) hHeld ?_
  try simp only [Act.put, List.setIfInBounds_toArray, List.set_cons_zero, List.set_cons_succ, List.getElem_toArray, List.getElem_cons_zero, List.getElem_cons_succ]
  refine wpAnyH_take (i := 32) (v := .agg (evC h)) rfl (by kernel_rfl) (by kernel_rfl) (by kernel_rfl) (fun _ _ _ h => h) (Or.inl ⟨by rfl, fun w0 hC => ev_load rfl rfl hC.1⟩) hHeld ?_
  try simp only [Act.put, List.setIfInBounds_toArray, List.set_cons_zero, List.set_cons_succ, List.getElem_toArray, List.getElem_cons_zero, List.getElem_cons_succ]
  refine wpAnyH_take (i := 33) (v := .agg (evC h)) rfl (by kernel_rfl) (by kernel_rfl) (by kernel_rfl) (fun _ _ _ h => h) (Or.inl ⟨by rfl, fun w0 hC => ev_load rfl rfl hC.1⟩) hHeld ?_
  try simp only [Act.put, List.setIfInBounds_toArray, List.set_cons_zero, List.set_cons_succ, List.getElem_toArray, List.getElem_cons_zero, List.getElem_cons_succ]
  refine wpAnyH_ready (rs := [34]) (by kernel_rfl) (by simp) (AllReadyH.cons rfl (fun K hK => ?_) AllReadyH.nil)
  rw [if_pos (by rfl)]
  go_wp2_with fail
  refine (evSame_any h h V6 (HH.out.later EB.out) (HH.out.later EB.out)).mono ?_
  rintro e V7 ⟨rfl, hbz⟩
  have hSa := And.intro (hHeld.1.below hbz hHeld.1.lt) (hHeld.2.below hbz hHeld.2.lt)
  have EB2 := Lib.hid (EB.out.trans (hbz.mono EB.out.size))
  clear hHeld hbz EB
  have EB := EB2
  clear EB2
  refine hK.out _ _ hSa (fun hHeld => ?_)
  clear hK K
  try simp only [Act.put, List.setIfInBounds_toArray, List.set_cons_zero, List.set_cons_succ, List.getElem_toArray, List.getElem_cons_zero, List.getElem_cons_succ]
  clear hSa
  refine wpAnyH_take (i := 35) (v := .bool true) rfl (by kernel_rfl) (by kernel_rfl) (by kernel_rfl) (fun _ _ _ h => h) (Or.inl ⟨by rfl, fun w0 hC => by simp [execOp, Act.eval, Act.put, go_sem, evEq_self]⟩) hHeld ?_
  try simp only [Act.put, List.setIfInBounds_toArray, List.set_cons_zero, List.set_cons_succ, List.getElem_toArray, List.getElem_cons_zero, List.getElem_cons_succ]
  refine wpAnyH_ready (rs := [36]) (by kernel_rfl) (by simp) (AllReadyH.cons rfl (fun K hK => ?_) AllReadyH.nil)
  rw [if_pos (by rfl)]
  go_wp2_with fail
  refine hK.out _ _ hHeld (fun hHeld => ?_)
  clear hK K
  try simp only [Act.put, List.setIfInBounds_toArray, List.set_cons_zero, List.set_cons_succ, List.getElem_toArray, List.getElem_cons_zero, List.getElem_cons_succ]
  refine wpAnyH_done (by kernel_rfl) ?_ _
  go_wp2_with fail
  go_ret
  exact ⟨rfl, EB.out⟩
end Go.Proofs.YtcajmigkpcjbcaaDoor
