/-
  The law Reads of layer 15, as a walk.
-/
import Derived.Test.YtoiffchhfnbooaaGreatDoorQRecH
import Derived.Test.YtoiffchhfnbooaaGreatDoorQRecG
import Derived.Test.YtoiffchhfnbooaaGreatDoorQEventD
import Derived.Deep.DeepCutAuto
import Derived.Deep.QuietTactic
import Derived.BigQuiet
import Derived.IntWalk
namespace Go.Proofs.YtoiffchhfnbooaaGreatDoor
set_option linter.unusedVariables false
set_option linter.unusedSimpArgs false
open Go.RowKit
set_option linter.unusedVariables false
set_option linter.unusedSimpArgs false
theorem xeSame_yes (h g : Eh) (w : World) (Hh : EvIn w w.heap.size h) (Hg : EvIn w w.heap.size g) (he : h.e = g.e) : Calls Tryz.prog 17 #[.agg (evC h), .agg (evC g)] w fun e w' => e = .returned (.bool true) ∧ Below w.heap.size w w' := by
  refine (xeSame_any h g w Hh Hg).mono ?_
  rintro e w' ⟨h1, h2⟩
  exact ⟨by rw [h1, he, evEq_self], h2⟩
set_option maxRecDepth 100000 in
set_option maxHeartbeats 8000000 in
theorem recordReads_walk (A : Option Addr) (n k : Nat) (l : List Nat) (c : Ch) (w : World) (hl : Bytes w w.heap.size A n l) (hn : n ≤ 140737488355328) (hnk : n ≤ k) (hk : k ≤ maxLen) (hc : c.Ok) (hK : Kinds w) (ht : Tabs w) :
    Calls Tryz.prog 4 #[.slice A n k, .agg (chC c)] w fun e w' => e = .returned (.bool true) ∧ Below w.heap.size w w' := by
  have HC := Lib.hid hc
  have HL := Lib.hid hl
  have HNK := Lib.hid hnk
  have HKM := Lib.hid hk
  have HK := Lib.hid hK
  have HT := Lib.hid ht
  have HXO := Lib.hid (readC_ok hl.2.1)
  have HYO : Hid (linkC c l).Ok := Lib.hid (by unfold linkC; split; exact grownC_ok _ _; exact ch0_ok)
  clear hc hl hnk hk hK ht hn
  go_enter Tryz.func4, Tryz.ntmps4
  go_wp2_with fail
  refine calls_overE (fun W => Bk W w.heap.size 24 (chC c) ∧ Below w.heap.size w W) ⟨Bk.new _ _ _, (Below.refl _ _).alloc (Nat.le_refl _) _⟩ ?_
  rintro W ⟨q1, q2⟩
  have K3 := Lib.hid q1
  have B := Lib.hid q2
  clear q1 q2
  refine (alive15_any W (HK.out.below B.out) (Tabs.later15 HT.out B.out)).mono ?_
  rintro e W1 ⟨rfl, hb⟩
  have K3b := Lib.hid (K3.out.below hb K3.out.lt)
  have B1 := Lib.hid (B.out.trans (hb.mono B.out.size))
  clear hb K3 B
  by_cases h6 : (6000 : Int) < (n : Int)
  · go_wp2_with fail
    go_ret
    exact ⟨rfl, B1.out⟩
  have HN : Hid (n ≤ 1000000 ∧ n ≤ 140737488355328) := Lib.hid ⟨by omega, by omega⟩
  obtain ⟨X, hX⟩ : ∃ X, readC l = X := ⟨_, rfl⟩
  have HX := Lib.hid hX
  rw [hX] at HXO
  clear hX
  obtain ⟨er, her⟩ : ∃ er, readE l = er := ⟨_, rfl⟩
  have HER := Lib.hid her
  clear her
  obtain ⟨Y, hY⟩ : ∃ Y, linkC c l = Y := ⟨_, rfl⟩
  have HY := Lib.hid hY
  rw [hY] at HYO
  clear hY
  obtain ⟨lr, hlr⟩ : ∃ lr, linkE c l = lr := ⟨_, rfl⟩
  have HLR := Lib.hid hlr
  clear hlr
  go_wp2_with fail
  refine (rcRead_any A n k l W1 (HL.out.later B1.out) HN.out.2 HNK.out HKM.out (HK.out.below B1.out)).mono ?_
  rintro e V1 ⟨H1, rfl, hv, hin, hb⟩
  rw [HX.out, HER.out]
  have I0 := Lib.hid hin.inn
  have HV1 := Lib.hid hv
  have K3b_ := Lib.hid (K3b.out.below hb K3b.out.lt)
  have B1_ := Lib.hid (B1.out.trans (hb.mono B1.out.size))
  clear hv hin hb K3b B1
  go_wp2_with ((with_reducible show wpList _ _ _ (⟨none, _, _, _, _, _⟩ :: _) _ _); refine hold ?_)
  refine held (wpList_store_wide rfl 24 (.tmp 5) (.tmp 25) rfl V1.heap.size 0 (chC X) rfl rfl 24 (chC ch0) ((Bk.new V1 24 (chC ch0)).alloc _) (by rw [chC_size HXO.out]; exact Nat.le_refl _) (info_ch' HXO.out) (chC_one _) ?_)
  intro w4 hw4
  have hk4 : Bk w4 (V1.heap.size + 1) 29 (evC (bareH 0 0)) := by rw [ch_setRow hw4 ch0_ok HXO.out]; exact (Bk.new2 _ _ _ _).setRow_other (by omega) _
  go_wp2_with ((with_reducible show wpList _ _ _ (⟨none, _, _, _, _, _⟩ :: _) _ _); refine hold ?_)
  refine held (wpList_store_wide rfl 29 (.tmp 6) (.tmp 26) rfl (V1.heap.size + 1) 0 (evC H1) rfl rfl 29 _ hk4 (by rw [evC_size, evC_size]; decide) (by rw [evC_size]; exact info_ev) (evC_one _) ?_)
  intro U1 hw5
  obtain ⟨k4, k5, k6, hb⟩ := che_new HXO.out rfl I0.out hw4 hw5
  have C1 := Lib.hid k4
  have D1 := Lib.hid k5
  have I1 := Lib.hid k6
  have K3b := Lib.hid (K3b_.out.below hb K3b_.out.lt)
  have B1 := Lib.hid (B1_.out.trans (hb.mono B1_.out.size))
  obtain ⟨b1, hbe⟩ : ∃ b, V1.heap.size = b := ⟨_, rfl⟩
  rw [hbe] at C1 D1 ⊢
  clear k4 k5 k6 hb hw4 hw5 hk4 hbe I0 K3b_ B1_
  go_wp2_with fail
  refine (xrRead_any A n k l U1 (HL.out.later B1.out) HN.out.2 HNK.out HKM.out).mono ?_
  rintro e V2 ⟨H2, rfl, hv, hin, hb⟩
  rw [HX.out, HER.out]
  have I0 := Lib.hid hin.inn
  have HV2 := Lib.hid hv
  have C1_ := Lib.hid (C1.out.below hb C1.out.lt)
  have D1_ := Lib.hid (D1.out.below hb D1.out.lt)
  have I1_ := Lib.hid (I1.out.later hb)
  have K3b_ := Lib.hid (K3b.out.below hb K3b.out.lt)
  have B1_ := Lib.hid (B1.out.trans (hb.mono B1.out.size))
  clear hv hin hb C1 D1 I1 K3b B1
  go_wp2_with ((with_reducible show wpList _ _ _ (⟨none, _, _, _, _, _⟩ :: _) _ _); refine hold ?_)
  refine held (wpList_store_wide rfl 24 (.tmp 8) (.tmp 31) rfl V2.heap.size 0 (chC X) rfl rfl 24 (chC ch0) ((Bk.new V2 24 (chC ch0)).alloc _) (by rw [chC_size HXO.out]; exact Nat.le_refl _) (info_ch' HXO.out) (chC_one _) ?_)
  intro w4 hw4
  have hk4 : Bk w4 (V2.heap.size + 1) 29 (evC (bareH 0 0)) := by rw [ch_setRow hw4 ch0_ok HXO.out]; exact (Bk.new2 _ _ _ _).setRow_other (by omega) _
  go_wp2_with ((with_reducible show wpList _ _ _ (⟨none, _, _, _, _, _⟩ :: _) _ _); refine hold ?_)
  refine held (wpList_store_wide rfl 29 (.tmp 9) (.tmp 32) rfl (V2.heap.size + 1) 0 (evC H2) rfl rfl 29 _ hk4 (by rw [evC_size, evC_size]; decide) (by rw [evC_size]; exact info_ev) (evC_one _) ?_)
  intro U2 hw5
  obtain ⟨k4, k5, k6, hb⟩ := che_new HXO.out rfl I0.out hw4 hw5
  have C2 := Lib.hid k4
  have D2 := Lib.hid k5
  have I2 := Lib.hid k6
  have C1 := Lib.hid (C1_.out.below hb C1_.out.lt)
  have D1 := Lib.hid (D1_.out.below hb D1_.out.lt)
  have I1 := Lib.hid (I1_.out.later hb)
  have K3b := Lib.hid (K3b_.out.below hb K3b_.out.lt)
  have B1 := Lib.hid (B1_.out.trans (hb.mono B1_.out.size))
  obtain ⟨b2, hbe⟩ : ∃ b, V2.heap.size = b := ⟨_, rfl⟩
  rw [hbe] at C2 D2 ⊢
  clear k4 k5 k6 hb hw4 hw5 hk4 hbe I0 C1_ D1_ I1_ K3b_ B1_
  go_wp2_with ((with_reducible show wpList _ _ _ (⟨some 35, _, _, _, _, _⟩ :: _) _ _); refine hold ?_)
  refine held (wpList_load_mid rfl 24 (.tmp 3) rfl w.heap.size 0 rfl _ _ K3b.out.range Tryz.underlying24 rfl (info_chl HC.out) ?_)
  go_wp2_with fail
  refine (rcLink_any c A n k l U2 HC.out (HL.out.later B1.out) HN.out.1 HNK.out HKM.out (HK.out.below B1.out) (Tabs.later15 HT.out B1.out)).mono ?_
  rintro e V3 ⟨H3, rfl, hv, hin, hb⟩
  rw [HY.out, HLR.out]
  have I0 := Lib.hid hin.inn
  have HV3 := Lib.hid hv
  have C1_ := Lib.hid (C1.out.below hb C1.out.lt)
  have D1_ := Lib.hid (D1.out.below hb D1.out.lt)
  have I1_ := Lib.hid (I1.out.later hb)
  have C2_ := Lib.hid (C2.out.below hb C2.out.lt)
  have D2_ := Lib.hid (D2.out.below hb D2.out.lt)
  have I2_ := Lib.hid (I2.out.later hb)
  have K3b_ := Lib.hid (K3b.out.below hb K3b.out.lt)
  have B1_ := Lib.hid (B1.out.trans (hb.mono B1.out.size))
  clear hv hin hb C1 D1 I1 C2 D2 I2 K3b B1
  go_wp2_with ((with_reducible show wpList _ _ _ (⟨none, _, _, _, _, _⟩ :: _) _ _); refine hold ?_)
  refine held (wpList_store_wide rfl 24 (.tmp 11) (.tmp 38) rfl V3.heap.size 0 (chC Y) rfl rfl 24 (chC ch0) ((Bk.new V3 24 (chC ch0)).alloc _) (by rw [chC_size HYO.out]; exact Nat.le_refl _) (info_ch' HYO.out) (chC_one _) ?_)
  intro w4 hw4
  have hk4 : Bk w4 (V3.heap.size + 1) 29 (evC (bareH 0 0)) := by rw [ch_setRow hw4 ch0_ok HYO.out]; exact (Bk.new2 _ _ _ _).setRow_other (by omega) _
  go_wp2_with ((with_reducible show wpList _ _ _ (⟨none, _, _, _, _, _⟩ :: _) _ _); refine hold ?_)
  refine held (wpList_store_wide rfl 29 (.tmp 12) (.tmp 39) rfl (V3.heap.size + 1) 0 (evC H3) rfl rfl 29 _ hk4 (by rw [evC_size, evC_size]; decide) (by rw [evC_size]; exact info_ev) (evC_one _) ?_)
  intro U3 hw5
  obtain ⟨k4, k5, k6, hb⟩ := che_new HYO.out rfl I0.out hw4 hw5
  have C3 := Lib.hid k4
  have D3 := Lib.hid k5
  have I3 := Lib.hid k6
  have C1 := Lib.hid (C1_.out.below hb C1_.out.lt)
  have D1 := Lib.hid (D1_.out.below hb D1_.out.lt)
  have I1 := Lib.hid (I1_.out.later hb)
  have C2 := Lib.hid (C2_.out.below hb C2_.out.lt)
  have D2 := Lib.hid (D2_.out.below hb D2_.out.lt)
  have I2 := Lib.hid (I2_.out.later hb)
  have K3b := Lib.hid (K3b_.out.below hb K3b_.out.lt)
  have B1 := Lib.hid (B1_.out.trans (hb.mono B1_.out.size))
  obtain ⟨b3, hbe⟩ : ∃ b, V3.heap.size = b := ⟨_, rfl⟩
  rw [hbe] at C3 D3 ⊢
  clear k4 k5 k6 hb hw4 hw5 hk4 hbe I0 C1_ D1_ I1_ C2_ D2_ I2_ K3b_ B1_
  go_wp2_with ((with_reducible show wpList _ _ _ (⟨some 42, _, _, _, _, _⟩ :: _) _ _); refine hold ?_)
  refine held (wpList_load_mid rfl 24 (.tmp 3) rfl w.heap.size 0 rfl _ _ K3b.out.range Tryz.underlying24 rfl (info_chl HC.out) ?_)
  go_wp2_with fail
  refine (xrLink_any c A n k l U3 HC.out (HL.out.later B1.out) HN.out.1 HNK.out HKM.out (HK.out.below B1.out) (Tabs.later15 HT.out B1.out)).mono ?_
  rintro e V4 ⟨H4, rfl, hv, hin, hb⟩
  rw [HY.out, HLR.out]
  have I0 := Lib.hid hin.inn
  have HV4 := Lib.hid hv
  have C1_ := Lib.hid (C1.out.below hb C1.out.lt)
  have D1_ := Lib.hid (D1.out.below hb D1.out.lt)
  have I1_ := Lib.hid (I1.out.later hb)
  have C2_ := Lib.hid (C2.out.below hb C2.out.lt)
  have D2_ := Lib.hid (D2.out.below hb D2.out.lt)
  have I2_ := Lib.hid (I2.out.later hb)
  have C3_ := Lib.hid (C3.out.below hb C3.out.lt)
  have D3_ := Lib.hid (D3.out.below hb D3.out.lt)
  have I3_ := Lib.hid (I3.out.later hb)
  have K3b_ := Lib.hid (K3b.out.below hb K3b.out.lt)
  have B1_ := Lib.hid (B1.out.trans (hb.mono B1.out.size))
  clear hv hin hb C1 D1 I1 C2 D2 I2 C3 D3 I3 K3b B1
  go_wp2_with ((with_reducible show wpList _ _ _ (⟨none, _, _, _, _, _⟩ :: _) _ _); refine hold ?_)
  refine held (wpList_store_wide rfl 24 (.tmp 14) (.tmp 45) rfl V4.heap.size 0 (chC Y) rfl rfl 24 (chC ch0) ((Bk.new V4 24 (chC ch0)).alloc _) (by rw [chC_size HYO.out]; exact Nat.le_refl _) (info_ch' HYO.out) (chC_one _) ?_)
  intro w4 hw4
  have hk4 : Bk w4 (V4.heap.size + 1) 29 (evC (bareH 0 0)) := by rw [ch_setRow hw4 ch0_ok HYO.out]; exact (Bk.new2 _ _ _ _).setRow_other (by omega) _
  go_wp2_with ((with_reducible show wpList _ _ _ (⟨none, _, _, _, _, _⟩ :: _) _ _); refine hold ?_)
  refine held (wpList_store_wide rfl 29 (.tmp 15) (.tmp 46) rfl (V4.heap.size + 1) 0 (evC H4) rfl rfl 29 _ hk4 (by rw [evC_size, evC_size]; decide) (by rw [evC_size]; exact info_ev) (evC_one _) ?_)
  intro U4 hw5
  obtain ⟨k4, k5, k6, hb⟩ := che_new HYO.out rfl I0.out hw4 hw5
  have C4 := Lib.hid k4
  have D4 := Lib.hid k5
  have I4 := Lib.hid k6
  have C1 := Lib.hid (C1_.out.below hb C1_.out.lt)
  have D1 := Lib.hid (D1_.out.below hb D1_.out.lt)
  have I1 := Lib.hid (I1_.out.later hb)
  have C2 := Lib.hid (C2_.out.below hb C2_.out.lt)
  have D2 := Lib.hid (D2_.out.below hb D2_.out.lt)
  have I2 := Lib.hid (I2_.out.later hb)
  have C3 := Lib.hid (C3_.out.below hb C3_.out.lt)
  have D3 := Lib.hid (D3_.out.below hb D3_.out.lt)
  have I3 := Lib.hid (I3_.out.later hb)
  have K3b := Lib.hid (K3b_.out.below hb K3b_.out.lt)
  have B1 := Lib.hid (B1_.out.trans (hb.mono B1_.out.size))
  obtain ⟨b4, hbe⟩ : ∃ b, V4.heap.size = b := ⟨_, rfl⟩
  rw [hbe] at C4 D4 ⊢
  clear k4 k5 k6 hb hw4 hw5 hk4 hbe I0 C1_ D1_ I1_ C2_ D2_ I2_ C3_ D3_ I3_ K3b_ B1_
  have heX : ∀ W, (binOp .eql 24 (.agg (chC X)) (.agg (chC X))).run Tryz.prog W = .ok (.bool true) W := fun W => by rw [run_eql_ch W X X HXO.out HXO.out, decide_eq_true rfl]
  have heY : ∀ W, (binOp .eql 24 (.agg (chC Y)) (.agg (chC Y))).run Tryz.prog W = .ok (.bool true) W := fun W => by rw [run_eql_ch W Y Y HYO.out HYO.out, decide_eq_true rfl]
  go_wp2_with ((with_reducible show wpList _ _ _ (⟨some 48, _, _, _, _, _⟩ :: _) _ _); refine hold ?_)
  refine held (wpList_load_mid rfl 24 (.tmp 5) rfl b1 0 rfl _ _ C1.out.range Tryz.underlying24 rfl (info_chl HXO.out) ?_)
  refine wpList_load_mid rfl 24 (.tmp 8) rfl b2 0 rfl _ _ C2.out.range Tryz.underlying24 rfl (info_chl HXO.out) ?_
  go_wp2_with ((with_reducible show wpList _ _ _ (⟨some 52, _, _, _, _, _⟩ :: _) _ _); refine hold ?_)
  refine held (wpList_load_wanted (by rfl) 29 (.tmp 6) rfl (b1 + 1) 0 rfl _ _ D1.out.range Tryz.underlying29 rfl (by kernel_rfl) ?_)
  refine wpList_load_wanted (by rfl) 29 (.tmp 9) rfl (b2 + 1) 0 rfl _ _ D2.out.range Tryz.underlying29 rfl (by kernel_rfl) ?_
  go_wp2_with fail
  refine (xeSame_yes H1 H2 U4 I1.out I2.out (HV1.out.trans HV2.out.symm)).mono ?_
  rintro e U5 ⟨rfl, hb⟩
  have C3b := Lib.hid (C3.out.below hb C3.out.lt)
  have C4b := Lib.hid (C4.out.below hb C4.out.lt)
  have D3b := Lib.hid (D3.out.below hb D3.out.lt)
  have D4b := Lib.hid (D4.out.below hb D4.out.lt)
  have I3b := Lib.hid (I3.out.later hb)
  have I4b := Lib.hid (I4.out.later hb)
  have BB := Lib.hid (B1.out.trans (hb.mono B1.out.size))
  clear hb C1 C2 C3 C4 D1 D2 D3 D4 I1 I2 I3 I4 B1 K3b
  go_wp2_with ((with_reducible show wpList _ _ _ (⟨some 62, _, _, _, _, _⟩ :: _) _ _); refine hold ?_)
  refine held (wpList_load_wanted (by rfl) 24 (.tmp 11) rfl b3 0 rfl _ _ C3b.out.range Tryz.underlying24 rfl (info_chl HYO.out) ?_)
  refine wpList_load_wanted (by rfl) 24 (.tmp 14) rfl b4 0 rfl _ _ C4b.out.range Tryz.underlying24 rfl (info_chl HYO.out) ?_
  go_wp2_with ((with_reducible show wpList _ _ _ (⟨some 67, _, _, _, _, _⟩ :: _) _ _); refine hold ?_)
  refine held (wpList_load_wanted (by rfl) 29 (.tmp 12) rfl (b3 + 1) 0 rfl _ _ D3b.out.range Tryz.underlying29 rfl (by kernel_rfl) ?_)
  refine wpList_load_wanted (by rfl) 29 (.tmp 15) rfl (b4 + 1) 0 rfl _ _ D4b.out.range Tryz.underlying29 rfl (by kernel_rfl) ?_
  go_wp2_with fail
  refine (xeSame_yes H3 H4 U5 I3b.out I4b.out (HV3.out.trans HV4.out.symm)).mono ?_
  rintro e U6 ⟨rfl, hb⟩
  have BC := Lib.hid (BB.out.trans (hb.mono BB.out.size))
  clear hb BB
  go_wp2_with fail
  go_ret
  exact ⟨rfl, BC.out⟩
end Go.Proofs.YtoiffchhfnbooaaGreatDoor
