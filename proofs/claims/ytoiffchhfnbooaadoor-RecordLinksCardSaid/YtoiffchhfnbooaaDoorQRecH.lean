/-
  The fixed fact of layer 15's statements.
-/
import Derived.Test.YtoiffchhfnbooaaDoorQRecF
import Derived.Test.YtoiffchhfnbooaaDoorQEventP
namespace Go.Proofs.YtoiffchhfnbooaaDoor
set_option linter.unusedVariables false
set_option linter.unusedSimpArgs false
open Go.RowKit
set_option linter.unusedVariables false
set_option linter.unusedSimpArgs false

theorem alR_next : nextE ch0 relE = 0 := by decide +kernel
theorem alR_len : (recB ch0 relE).length = 64 := by decide +kernel
theorem alR_39 : byteAt (recB ch0 relE) 39 = 1 := by decide +kernel
set_option maxRecDepth 100000 in
set_option maxHeartbeats 8000000 in
theorem alive15_any (w : World) (hK : Kinds w) (ht : Tabs w) : Calls Tryd.prog 4 #[] w fun e w' => e = .returned (.bool true) ∧ Below w.heap.size w w' := by
  have HK := Lib.hid hK
  have HT := Lib.hid ht
  clear hK ht
  obtain ⟨r, hr⟩ : ∃ r, recB ch0 relE = r := ⟨_, rfl⟩
  obtain ⟨y, hy⟩ : ∃ y, grownC ch0 r = y := ⟨_, rfl⟩
  have HYO : Hid y.Ok := Lib.hid (by rw [← hy]; exact grownC_ok _ _)
  have HYC : Hid (y.count = 1) := Lib.hid (by rw [← hy]; rfl)
  have HE : Hid (nextE ch0 relH.e = 0) := Lib.hid alR_next
  have HB : Hid (nextB ch0 relH.e = r) := Lib.hid (by rw [← hr]; exact if_pos alR_next)
  have HCC : Hid (nextC ch0 relH.e = y) := Lib.hid (by rw [← hy, ← hr]; exact if_pos alR_next)
  have HR64 : Hid (r.length = 64) := Lib.hid (by rw [← hr]; exact alR_len)
  have HR39 : Hid (byteAt r 39 = 1) := Lib.hid (by rw [← hr]; exact alR_39)
  have HBK := Lib.hid (link_back (c := ch0) (e := relE) ch0_ok alR_next (fun y hy => by cases hy))
  have HRB := Lib.hid (read_back (c := ch0) (e := relE) ch0_ok alR_next (fun y hy => by cases hy))
  rw [hr] at HBK HRB
  have HL1 : Hid (linkE ch0 r = 0 ∧ linkC ch0 r = y ∧ linkV ch0 r = relE) := Lib.hid ⟨HBK.out.1, by rw [HBK.out.2.1]; exact HCC.out, HBK.out.2.2⟩
  have HL2 := Lib.hid (linkE_ne (c := y) (l := r) HRB.out.1 (by rw [HRB.out.2.1]; intro h; have := congrArg Ch.count h; rw [HYC.out] at this; exact absurd this (by decide)))
  clear hr hy HBK HRB
  have CE := Lib.hid (show Calls Tryd.prog 6 #[.agg (chC ch0), .agg #[.int .i64 13, .int .i64 7, .string ⟨#[]⟩, .string ⟨#[]⟩, .slice none 0 0, .slice none 0 0, .int .i64 0, .int .i64 0, .int .i64 0, .int .i64 3, .slice none 0 0]] w (NextIs ch0 relH w) from rcNext_any ch0 relH w ch0_ok (relH_in _ _) HK.out HT.out)
  go_enter Tryd.func4, Tryd.ntmps4
  go_wp2_with ((with_reducible show wpList _ _ _ (⟨some 11, _, _, _, _, _⟩ :: _) _ _); refine hold ?_)
  refine held (wpList_build_to rfl 26 #[] rfl [] rfl (chC ch0) built_ch0 ?_)
  go_wp2_with fail
  refine CE.out.mono ?_
  rintro e w1 ⟨A, N, k, rfl, ho, hb⟩
  rw [HE.out, HCC.out]
  rw [HB.out] at ho
  have hN : N = 64 := by rw [← ho.len, HR64.out]
  subst hN
  have HO := Lib.hid ho
  have B1 := Lib.hid hb
  clear ho hb CE HE HB HCC
  go_wp2_with ((with_reducible show wpList _ _ _ (⟨none, _, _, _, _, _⟩ :: _) _ _); refine hold ?_)
  refine held (wpList_store_wide rfl 26 (.tmp 2) (.tmp 15) rfl w1.heap.size 0 (chC y) rfl rfl 26 (chC ch0) (Bk.new w1 26 (chC ch0)) (by rw [chC_size HYO.out]; exact Nat.le_refl _) (info_ch' HYO.out) (chC_one _) ?_)
  intro w2 hw2
  obtain ⟨k2, hb2⟩ := ch_new HYO.out hw2
  have K2 := Lib.hid k2
  have O2 := Lib.hid (HO.out.below hb2)
  have B2 := Lib.hid (B1.out.trans (hb2.mono B1.out.size))
  obtain ⟨b2, hb2e⟩ : ∃ b, w1.heap.size = b := ⟨_, rfl⟩
  rw [hb2e] at K2 ⊢
  clear k2 hb2 hw2 hb2e HO B1
  go_wp2_with ((with_reducible show wpList _ _ _ (⟨some 18, _, _, _, _, _⟩ :: _) _ _); refine hold ?_)
  refine held (wpList_build_to rfl 26 #[] rfl [] rfl (chC ch0) built_ch0 ?_)
  go_wp2_with fail
  refine (rcLink_any ch0 A 64 k r w2 ch0_ok O2.out.bytes (by omega) O2.out.cap.1 O2.out.cap.2 (HK.out.below B2.out) (Tabs.later15 HT.out B2.out)).mono ?_
  rintro e w3 ⟨H, rfl, hv, hin, hb⟩
  rw [HL1.out.1, HL1.out.2.1]
  rw [HL1.out.2.2] at hv
  have K3 := Lib.hid (K2.out.below hb K2.out.lt)
  have O3 := Lib.hid (O2.out.below hb)
  have B3 := Lib.hid (B2.out.trans (hb.mono B2.out.size))
  have HV := Lib.hid hv
  have HI := Lib.hid hin.inn
  clear hv hin hb K2 O2 B2 HL1
  go_wp2_with ((with_reducible show wpList _ _ _ (⟨none, _, _, _, _, _⟩ :: _) _ _); refine hold ?_)
  refine held (wpList_store_wide rfl 26 (.tmp 4) (.tmp 21) rfl w3.heap.size 0 (chC y) rfl rfl 26 (chC ch0) ((Bk.new w3 26 (chC ch0)).alloc _) (by rw [chC_size HYO.out]; exact Nat.le_refl _) (info_ch' HYO.out) (chC_one _) ?_)
  intro w4 hw4
  have hk4 : Bk w4 (w3.heap.size + 1) 34 (evC (bareH 0 0)) := by rw [ch_setRow hw4 ch0_ok HYO.out]; exact (Bk.new2 _ _ _ _).setRow_other (by omega) _
  go_wp2_with ((with_reducible show wpList _ _ _ (⟨none, _, _, _, _, _⟩ :: _) _ _); refine hold ?_)
  refine held (wpList_store_wide rfl 34 (.tmp 5) (.tmp 22) rfl (w3.heap.size + 1) 0 (evC H) rfl rfl 34 _ hk4 (by rw [evC_size, evC_size]; decide) (by rw [evC_size]; exact info_ev) (evC_one _) ?_)
  intro w5 hw5
  obtain ⟨k4, k5, -, hb⟩ := che_new HYO.out rfl HI.out hw4 hw5
  have K4 := Lib.hid k4
  have K5 := Lib.hid k5
  have K2 := Lib.hid (K3.out.below hb K3.out.lt)
  have O5 := Lib.hid (O3.out.below hb)
  have B5 := Lib.hid (B3.out.trans (hb.mono B3.out.size))
  obtain ⟨b4, hb4⟩ : ∃ b, w3.heap.size = b := ⟨_, rfl⟩
  rw [hb4] at K4 K5 ⊢
  clear k4 k5 hb hw4 hw5 hk4 hb4 K3 O3 B3 HI
  go_wp2_with ((with_reducible show wpList _ _ _ (⟨some 25, _, _, _, _, _⟩ :: _) _ _); refine hold ?_)
  refine held (wpList_load_mid rfl 26 (.tmp 2) rfl b2 0 rfl _ _ K2.out.range Tryd.underlying26 rfl (info_chl HYO.out) ?_)
  go_wp2_with fail
  refine (rcLink_any y A 64 k r w5 HYO.out O5.out.bytes (by omega) O5.out.cap.1 O5.out.cap.2 (HK.out.below B5.out) (Tabs.later15 HT.out B5.out)).mono ?_
  rintro e w6 ⟨H2, rfl, hv, hin, hb⟩
  rw [HL2.out.1, HL2.out.2.1]
  have M4 := Lib.hid (K4.out.below hb K4.out.lt)
  have M5 := Lib.hid (K5.out.below hb K5.out.lt)
  have M2 := Lib.hid (K2.out.below hb K2.out.lt)
  have O6 := Lib.hid (O5.out.below hb)
  have B6 := Lib.hid (B5.out.trans (hb.mono B5.out.size))
  have HI := Lib.hid hin.inn
  clear hv hin hb K4 K5 K2 O5 B5 HL2
  go_wp2_with ((with_reducible show wpList _ _ _ (⟨none, _, _, _, _, _⟩ :: _) _ _); refine hold ?_)
  refine held (wpList_store_wide rfl 26 (.tmp 7) (.tmp 28) rfl w6.heap.size 0 (chC ch0) rfl rfl 26 (chC ch0) ((Bk.new w6 26 (chC ch0)).alloc _) (by rw [chC_size ch0_ok]; exact Nat.le_refl _) (info_ch' ch0_ok) (chC_one _) ?_)
  intro w7 hw7
  have hk7 : Bk w7 (w6.heap.size + 1) 34 (evC (bareH 0 0)) := by rw [ch_setRow hw7 ch0_ok ch0_ok]; exact (Bk.new2 _ _ _ _).setRow_other (by omega) _
  go_wp2_with ((with_reducible show wpList _ _ _ (⟨none, _, _, _, _, _⟩ :: _) _ _); refine hold ?_)
  refine held (wpList_store_wide rfl 34 (.tmp 8) (.tmp 29) rfl (w6.heap.size + 1) 0 (evC H2) rfl rfl 34 _ hk7 (by rw [evC_size, evC_size]; decide) (by rw [evC_size]; exact info_ev) (evC_one _) ?_)
  intro w8 hw8
  obtain ⟨-, -, -, hb⟩ := che_new ch0_ok rfl HI.out hw7 hw8
  have N4 := Lib.hid (M4.out.below hb M4.out.lt)
  have N5 := Lib.hid (M5.out.below hb M5.out.lt)
  have N2 := Lib.hid (M2.out.below hb M2.out.lt)
  have O8 := Lib.hid (O6.out.below hb)
  have B8 := Lib.hid (B6.out.trans (hb.mono B6.out.size))
  clear hb hw7 hw8 hk7 M4 M5 M2 O6 B6 HI
  obtain ⟨ab, hA, _, _, _, hcell⟩ := O8.out.cells (by omega)
  subst hA
  have c39 : w8.cell? ⟨ab, 39, none⟩ = some (.int .u8 1) := by rw [hcell 39 (by omega), HR39.out]; rfl
  have c32 : w8.cell? ⟨b2, 32, none⟩ = some (.int .i64 1) := by rw [N2.out.count HYO.out, HYC.out]
  have c9 : w8.cell? ⟨b4 + 1, 9, none⟩ = some (.int .i64 3) := by
    rw [N5.out.cell 9]
    show some (Value.int .i64 H.e.n) = _
    rw [HV.out]
    rfl
  have heql : ∀ W, (binOp .eql 26 (.agg (chC y)) (.agg (chC y))).run Tryd.prog W = .ok (.bool true) W := fun W => by rw [run_eql_ch W y y HYO.out HYO.out, decide_eq_true rfl]
  clear hcell HV
  go_wp2_with ((with_reducible show wpList _ _ _ (⟨some 58, _, _, _, _, _⟩ :: _) _ _); refine hold ?_)
  refine held (wpList_load_wanted (by rfl) 26 (.tmp 4) rfl b4 0 rfl _ _ N4.out.range Tryd.underlying26 rfl (info_chl HYO.out) ?_)
  refine wpList_load_wanted (by rfl) 26 (.tmp 2) rfl b2 0 rfl _ _ N2.out.range Tryd.underlying26 rfl (info_chl HYO.out) ?_
  go_wp2_with fail
  go_ret
  exact ⟨rfl, B8.out⟩
end Go.Proofs.YtoiffchhfnbooaaDoor
