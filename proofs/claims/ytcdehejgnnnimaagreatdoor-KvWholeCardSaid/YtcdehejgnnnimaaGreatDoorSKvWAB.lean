/-
 A part of the proof: see the last text.
-/
import Derived.Test.YtcdehejgnnnimaaGreatDoorSKvWD0
import Derived.Test.YtcdehejgnnnimaaGreatDoorSKvWhA
import Derived.Deep.DeepCutAuto
import Derived.Deep.CutBlock
import Derived.Deep.QuietTactic
import Derived.Deep.RegionHeld3
import Derived.Test.YtcdehejgnnnimaaGreatDoorSKvWF16
namespace Go.Proofs.YtcdehejgnnnimaaGreatDoor
set_option linter.unusedVariables false
set_option linter.unusedSimpArgs false
open Go.RowKit
set_option maxRecDepth 100000 in
set_option maxHeartbeats 80000000 in
theorem tAB : cutSW.1.1 := by
 intro n c TL w hn HT zR_1 w1 h20 hn20 h20b zR_2 d0 w2 A1 n1 c1 A1' n1' c1' b3 hw3 W5 W6 d1 A6 n6 c6 A6' n6' c6' W7 b5 hw6 hne6 zR_3 zR_4 wr zSW_1 u9 u10 u11 u12 zSW_2 zSW_3 zSW_4 zSW_5 zSW_6 zSW_7 zSW_8 zSW_9 zSW_10 zSW_11 zSW_12 zSW_13 zSW_14 zSW_15 zSW_16 zSW_17 zSW_18 zSW_19 zSW_20 zSW_21 zSW_22 zSW_23 zSW_24 zSW_25 zSW_26 zSW_27 zSW_28 zSW_29 zSW_30 zSW_31 zSW_32 zSW_33 zSW_34 zSW_35 zSW_36 zSW_37 u69 u70 zSW_38 zSW_39 zSW_40 zSW_41 zSW_42 zSW_43 zSW_44 zSW_45 u79 zSW_46 zSW_47 zSW_48 zSW_49 zSW_50 zSW_51 zSW_52 u87 zSW_53 zSW_54 zSW_55 zSW_56 zSW_57 zSW_58 zSW_59 zSW_60 zSW_61 zSW_62 zSW_63 zSW_64 zSW_65 zSW_66 zSW_67 zSW_68 zSW_69 zSW_70 zSW_71 zSW_72 zSW_73 zSW_74 zSW_75 zSW_76 zSW_77 zSW_78 zSW_79 zSW_80 zSW_81 zSW_82 zSW_83 zSW_84 zSW_85 zSW_86 zSW_87 zSW_88 zSW_89 zSW_90 zSW_91 zSW_92 zSW_93 zSW_94 zSW_95 zSW_96 zSW_97 zSW_98 zSW_99 zSW_100 zSW_101 zSW_102 zSW_103 zSW_104 zSW_105 zSW_106 k d L Aw nw cw hk Ad nd cd Ad' nd' cd' As ns cs_ hlt bT oT HLL hbT cs fz Ac nc cc HFZ mkn HTN HMK hk0 hkn zR15_5 zR15_6 zR15_7 q9 w9 HGR hfm fu HFU HFO V0 hHeld V1 Ae ne ce Ae' ne' ce' W1 wc u33 u34 u35 u36 u37 u38 u39 u40 u41 u42 u43 u44 u45 u46 u47 u48 u49 u50 u51 u52 u53 u54 u55 u56 u57 u58 u59 u60 u61 u62 u63 u64 u65 u66 u67 u68 u71 u72 u73 u74 u75 u76 u77 u78 u80 u81 u82 u83 u84 u85 u86 u88 u89 u90 u91 u92 u93 u94 u95 u96 u97 u98 u99 u100 u101 u102 u103 u104 u105 u106 u107 u108 u109 u110 u111 u112 u113 u114 u115 u116 u117 u118 u119 u120 u121 u122 u123 u124 u125 u126 u127 u128 u129 u130 u131 u132 u133 u134 u135 u136 u137 u138 u139 u140 u141 b9 b10 x er h2 g2 Ax Ax' At nx cx nx' cx' nt ct mm W2 _ _ _ _ _ HLN he HR2 HR _ CF H5
 have HNT : Hid (nt ≤ 140737488355328) := Lib.hid (by have h1 := H5.out.k10s.1; have h3 := HR.out.small; omega)
 rcases he with rfl | rfl | rfl
 all_goals
  go_wp2_with ((with_reducible show wpList _ _ _ (⟨some 83, _, _, _, _, _⟩ :: _) _ _); refine hold ?_)
  refine held (wpList_load_mid rfl 35 (.tmp 5) rfl b5 0 rfl _ _ (Bk.rangeK H5.out.kx.k5) Tryz.underlying35 rfl (by kernel_rfl) ?_)
  rw [Array.toArray_toList]
  go_wp2_with ((with_reducible show wpList _ _ _ (⟨some 84, _, _, _, _, _⟩ :: _) _ _); refine hold ?_)
  refine held (wpList_load_mid rfl 35 (.tmp 10) rfl b10 0 rfl _ _ (Bk.rangeK H5.out.k10) Tryz.underlying35 rfl (by kernel_rfl) ?_)
  rw [Array.toArray_toList]
  go_wp2_with fail
  have CS := Lib.hid (x6same_any h2 g2 (sumT L : Nat) (L.length : Nat) As At ns cs_ nt ct mm mm W2 H5.out.kx.ks H5.out.k10s HLN.out.1 HNT.out)
  rw [decide_eq_true rfl] at CS
  refine CS.out.mono ?_
  rintro e W3 ⟨rfl, hb⟩
  have H6 := Lib.hid (H5.out.below hb)
  clear hb CS H5
  go_wp2_with fail
  go_meet
  exact ⟨x, h2, g2, L, mm, Aw, Ax, Ax', At, nw, cw, nx, cx, nx', cx', nt, ct, rfl, Lib.hid ⟨HR2.out.1, HR2.out.2, HR.out.play, by have := HR.out.gen; omega⟩, H6.out⟩
end Go.Proofs.YtcdehejgnnnimaaGreatDoor
namespace Go.Proofs.YtcdehejgnnnimaaGreatDoor
set_option linter.unusedVariables false
set_option linter.unusedSimpArgs false
open Go.RowKit
set_option maxRecDepth 100000 in
set_option maxHeartbeats 80000000 in
theorem tAA : cutSW.1.2.1 := by
 intro n c TL w hn HT zR_1 w1 h20 hn20 h20b zR_2 d0 w2 A1 n1 c1 A1' n1' c1' b3 hw3 W5 W6 d1 A6 n6 c6 A6' n6' c6' W7 b5 hw6 hne6 zR_3 zR_4 wr zSW_1 u9 u10 u11 u12 zSW_2 zSW_3 zSW_4 zSW_5 zSW_6 zSW_7 zSW_8 zSW_9 zSW_10 zSW_11 zSW_12 zSW_13 zSW_14 zSW_15 zSW_16 zSW_17 zSW_18 zSW_19 zSW_20 zSW_21 zSW_22 zSW_23 zSW_24 zSW_25 zSW_26 zSW_27 zSW_28 zSW_29 zSW_30 zSW_31 zSW_32 zSW_33 zSW_34 zSW_35 zSW_36 zSW_37 u69 u70 zSW_38 zSW_39 zSW_40 zSW_41 zSW_42 zSW_43 zSW_44 zSW_45 u79 zSW_46 zSW_47 zSW_48 zSW_49 zSW_50 zSW_51 zSW_52 u87 zSW_53 zSW_54 zSW_55 zSW_56 zSW_57 zSW_58 zSW_59 zSW_60 zSW_61 zSW_62 zSW_63 zSW_64 zSW_65 zSW_66 zSW_67 zSW_68 zSW_69 zSW_70 zSW_71 zSW_72 zSW_73 zSW_74 zSW_75 zSW_76 zSW_77 zSW_78 zSW_79 zSW_80 zSW_81 zSW_82 zSW_83 zSW_84 zSW_85 zSW_86 zSW_87 zSW_88 zSW_89 zSW_90 zSW_91 zSW_92 zSW_93 zSW_94 zSW_95 zSW_96 zSW_97 zSW_98 zSW_99 zSW_100 zSW_101 zSW_102 zSW_103 zSW_104 zSW_105 zSW_106 k d h g L l Aw nw cw hk HR Ad nd cd Ad' nd' cd' As ns cs_ hlt bT oT HLL hbT cs fz Ac nc cc HFZ mkn HTN HMK hk0 hkn zR15_5 zR15_6 zR15_7 q9 w9 HGR hfm fu HFU HFO V0 hHeld d2 HR2 V1 Ae ne ce Ae' ne' ce' W1 wc u33 u34 u35 u36 u37 u38 u39 u40 u41 u42 u43 u44 u45 u46 u47 u48 u49 u50 u51 u52 u53 u54 u55 u56 u57 u58 u59 u60 u61 u62 u63 u64 u65 u66 u67 u68 u71 u72 u73 u74 u75 u76 u77 u78 u80 u81 u82 u83 u84 u85 u86 u88 u89 u90 u91 u92 u93 u94 u95 u96 u97 u98 u99 u100 u101 u102 u103 u104 u105 u106 u107 u108 u109 u110 u111 u112 u113 u114 u115 u116 u117 u118 u119 u120 u121 u122 u123 u124 u125 u126 u127 u128 u129 u130 u131 u132 u133 u134 u135 u136 u137 u138 u139 u140 u141 b9 b10 x h2 g2 Ax Ax' At nx cx nx' cx' nt ct mm W2 _ _ _ _ _ HLN _ L2 hr2 hz2 hg2 H5 CF hp2 hl2
 have ML := Lib.hid hl2
 have MT : Hid (Mt k x h2 g2 L2 mm) := Lib.hid ⟨hr2, hz2, hp2, by have := HR.out.gen; omega⟩
 have c0 := HTN.out.c0 H5.out.kx.kb
 clear hr2 hz2 hg2 hp2 hl2 CF
 go_wp2_with fail
 refine (x6do_any Aw nw cw l Ac nc cc cs W2 H5.out.kx.kw (HTN.out.cs H5.out.kx.kb) HR.out.play.ok.2.2 (by have := HLN.out.2; omega) (by have := HGR.out; omega)).mono ?_
 rintro e W3 ⟨Aq, nq, cq, lq, rfl, hoq, hlq, hb⟩
 have H6 := Lib.hid (H5.out.below hb)
 obtain rfl : lq = mm := do_lists HR.out.play.ok ML.out hlq
 have HQ := Lib.hid (show PrsIn W3 Aq nq lq from hoq.col)
 clear hb hoq hlq H5 c0
 go_wp2_with fail
 go_meet
 exact ⟨x, h2, g2, L2, lq, Aq, Ax, Ax', At, nq, cq, nx, cx, nx', cx', nt, ct, rfl, MT, H6.out.want HQ.out⟩
end Go.Proofs.YtcdehejgnnnimaaGreatDoor
namespace Go.Proofs.YtcdehejgnnnimaaGreatDoor
set_option linter.unusedVariables false
set_option linter.unusedSimpArgs false
open Go.RowKit
set_option maxRecDepth 100000 in
set_option maxHeartbeats 80000000 in
theorem tAD : cutAC.1 := by
 intro n c TL w hn HT zR_1 w1 h20 hn20 h20b zR_2 d0 w2 A1 n1 c1 A1' n1' c1' b3 hw3 W5 W6 d1 A6 n6 c6 A6' n6' c6' W7 b5 hw6 hne6 zR_3 zR_4 wr zSW_1 u9 u10 u11 u12 zSW_2 zSW_3 zSW_4 zSW_5 zSW_6 zSW_7 zSW_8 zSW_9 zSW_10 zSW_11 zSW_12 zSW_13 zSW_14 zSW_15 zSW_16 zSW_17 zSW_18 zSW_19 zSW_20 zSW_21 zSW_22 zSW_23 zSW_24 zSW_25 zSW_26 zSW_27 zSW_28 zSW_29 zSW_30 zSW_31 zSW_32 zSW_33 zSW_34 zSW_35 zSW_36 zSW_37 u69 u70 zSW_38 zSW_39 zSW_40 zSW_41 zSW_42 zSW_43 zSW_44 zSW_45 u79 zSW_46 zSW_47 zSW_48 zSW_49 zSW_50 zSW_51 zSW_52 u87 zSW_53 zSW_54 zSW_55 zSW_56 zSW_57 zSW_58 zSW_59 zSW_60 zSW_61 zSW_62 zSW_63 zSW_64 zSW_65 zSW_66 zSW_67 zSW_68 zSW_69 zSW_70 zSW_71 zSW_72 zSW_73 zSW_74 zSW_75 zSW_76 zSW_77 zSW_78 zSW_79 zSW_80 zSW_81 zSW_82 zSW_83 zSW_84 zSW_85 zSW_86 zSW_87 zSW_88 zSW_89 zSW_90 zSW_91 zSW_92 zSW_93 zSW_94 zSW_95 zSW_96 zSW_97 zSW_98 zSW_99 zSW_100 zSW_101 zSW_102 zSW_103 zSW_104 zSW_105 zSW_106 k d h g L l Aw nw cw hk HR Ad nd cd Ad' nd' cd' As ns cs_ hlt bT oT HLL hbT cs fz Ac nc cc HFZ mkn HTN HMK hk0 hkn zR15_5 zR15_6 zR15_7 q9 w9 HGR hfm fu HFU HFO V0 hHeld d2 HR2 V1 Ae ne ce Ae' ne' ce' W1 wc u33 u34 u35 u36 u37 u38 u39 u40 u41 u42 u43 u44 u45 u46 u47 u48 u49 u50 u51 u52 u53 u54 u55 u56 u57 u58 u59 u60 u61 u62 u63 u64 u65 u66 u67 u68 u71 u72 u73 u74 u75 u76 u77 u78 u80 u81 u82 u83 u84 u85 u86 u88 u89 u90 u91 u92 u93 u94 u95 u96 u97 u98 u99 u100 u101 u102 u103 u104 u105 u106 u107 u108 u109 u110 u111 u112 u113 u114 u115 u116 u117 u118 u119 u120 u121 u122 u123 u124 u125 u126 u127 u128 u129 u130 u131 u132 u133 u134 u135 u136 u137 u138 u139 u140 u141 b9 b10 x h2 g2 u2 k2 Ax Ax' At nx cx nx' cx' nt ct mm W2 zAC_107 zAC_108 zAC_109 zAC_110 zAC_111 HLN zAC_112 m ML h3 g3 L3 HG3 HP3 y0 HH3 HS0 _ _ Q0 hHeld Q1 Az nz cz Az' nz' cz' W3 H8
 go_wp2_with ((with_reducible show wpList _ _ _ (⟨some 100, _, _, _, _, _⟩ :: _) _ _); refine hold ?_)
 refine held (wpList_load_mid rfl 27 (.tmp 9) rfl b9 0 rfl _ _ (Bk.rangeK H8.out.k9) Tryz.underlying27 rfl (by kernel_rfl) ?_)
 rw [Array.toArray_toList]
 go_wp2_with fail
 obtain ⟨mL, HPL, HML⟩ : ∃ mL, Hid (PlayOk L3 mL) ∧ Hid (mL = l ∨ mL = m) := by
  rcases HP3.out with hp | hp
  ·exact ⟨l, Lib.hid hp, Lib.hid (.inl rfl)⟩
  ·exact ⟨m, Lib.hid hp, Lib.hid (.inr rfl)⟩
 refine (kopen_any (n := 90) _ y0 h3 g3 L3 mL W3 H8.out.k9d HS0.out.2.rest HH3.out (by have := HR.out.gen; have := HG3.out; omega) (HT.out.below H8.out.kx.kb HT.out.pos) HPL.out (HH3.out.len HS0.out.2.2.1 HS0.out.2.1)).mono ?_
 rintro e W4 how
 rcases how with ⟨y, Az, nz2, cz2, hry, hfy, hzy, hcy, v9, rfl, hd9, hb9⟩ | ⟨hne9, _⟩
 rotate_left
 ·exact absurd HS0.out.2.2.2.2.1 hne9
 obtain ⟨Ay, ny, cy, Ay', ny', cy', rfl, hxx⟩ := hd9
 have DY := Lib.hid (show DkAt W4 W4.heap.size (.agg (dkV Ay ny cy Ay' ny' cy' y)) y from ⟨Ay, ny, cy, Ay', ny', cy', rfl, hxx⟩)
 have PY := Lib.hid (show PrsIn W4 Az nz2 mL from hcy)
 have H9 := Lib.hid (H8.out.below hb9)
 have MT : Hid (Mt k y (1 - h3) (g3 + 1) L3 mL) := Lib.hid ⟨hry, hzy, HPL.out, by have := HR.out.gen; have := HG3.out; omega⟩
 clear hxx hcy hb9 hry hfy hzy H8 HH3 HS0
 obtain ⟨h4, hh4⟩ : ∃ z, z = 1 - h3 := ⟨_, rfl⟩
 obtain ⟨g4, hg4⟩ : ∃ z, z = g3 + 1 := ⟨_, rfl⟩
 rw [← hh4, ← hg4] at MT ⊢
 clear hh4 hg4
 go_wp2_with ((with_reducible show wpList _ _ _ (⟨none, _, _, _, _, _⟩ :: _) _ _); refine hold ?_)
 refine held (wpList_store_box rfl 27 (.tmp 9) (.tmp 102) rfl b9 (dkV Ay ny cy Ay' ny' cy' y) rfl rfl H9.out.k9 rfl (by kernel_rfl) (Plain.dk _ _ _ _ _ _ _).one ?_)
 have H10 := Lib.hid (H9.out.disk9 (Plain.dk _ _ _ _ _ _ _) DY.out)
 have PY2 := Lib.hid (PY.out.turn H9.out.k9 (Plain.dk _ _ _ _ _ _ _) (dkV Ay ny cy Ay' ny' cy' y))
 clear H9 PY DY
 go_wp2_with ((with_reducible show wpList _ _ _ (⟨none, _, _, _, _, _⟩ :: _) _ _); refine hold ?_)
 refine held (wpList_store_box rfl 35 (.tmp 10) (.tmp 103) rfl b10 (stV h4 g4 (sumT L3 : Nat) (L3.length : Nat) Az nz2 cz2) rfl rfl H10.out.k10 rfl (by kernel_rfl) (Plain.st _ _ _ _ _ _ _).one ?_)
 have H11 := Lib.hid (H10.out.store10 (Plain.st _ _ _ _ _ _ _) PY2.out (stV h4 g4 (sumT L3 : Nat) (L3.length : Nat) Az nz2 cz2))
 clear H10 PY2
 refine list_overV (fun W => KY w b3 b5 b9 b10 (dkV Ae ne ce Ae' ne' ce' d2) d2 (stV h g (sumT L : Nat) (L.length : Nat) As ns cs_) As ns l Aw nw l (dkV Ay ny cy Ay' ny' cy' y) y (stV h4 g4 (sumT L3 : Nat) (L3.length : Nat) Az nz2 cz2) Az nz2 mL W) H11.out ?_
 clear H11
 intro W5 h12
 have H12 := Lib.hid h12
 have c0 := HTN.out.c0 H12.out.kx.kb
 clear h12
 go_wp2_with fail
 refine (x6do_any Aw nw cw l Ac nc cc cs W5 H12.out.kx.kw (HTN.out.cs H12.out.kx.kb) HR.out.play.ok.2.2 (by have := HLN.out.2; omega) (by have := HGR.out; omega)).mono ?_
 rintro e W6 ⟨Aq, nq, cq, lq, rfl, hoq, hlq, hb⟩
 have H13 := Lib.hid (H12.out.below hb)
 obtain rfl : lq = m := do_lists HR.out.play.ok ML.out hlq
 have HQ := Lib.hid (show PrsIn W6 Aq nq lq from hoq.col)
 have HQN : Hid (nq ≤ 140737488355328 ∧ nz2 ≤ 140737488355328) := Lib.hid (by
  have h1 := HQ.out.1
  have h2 := H13.out.k10s.1
  have h3 := HPL.out.ok.1
  have h4 : lq.length ≤ l.length + cs.length := lists_len ML.out
  have h5 := HR.out.small
  have h6 := HGR.out
  have h7 := (HTN.out.2.1).1
  omega)
 clear hb hoq hlq H12 c0
 have k4 : W6.cell? ⟨b10, 4, none⟩ = some (.slice Az nz2 cz2) := H13.out.k10.cell 4
 go_wp2_with fail
 have CS := Lib.hid (x6samePairsS_any Az Aw nz2 cz2 nw cw mL l W6 H13.out.k10s H13.out.kx.kw HQN.out.2 (by have := HLN.out.2; omega))
 by_cases hml : mL = l
 ·rw [decide_eq_true hml] at CS
  clear hml
  refine CS.out.mono ?_
  rintro e W7 ⟨rfl, q7, rfl⟩
  have H14 := Lib.hid (H13.out.below (belowK_drewN (Below.refl _ _) q7))
  obtain ⟨W7, hW7⟩ : ∃ W, W = W6.drewN q7 := ⟨_, rfl⟩
  rw [← hW7] at H14 ⊢
  clear hW7 CS H13 k4
  have k4 : W7.cell? ⟨b10, 4, none⟩ = some (.slice Az nz2 cz2) := H14.out.k10.cell 4
  go_wp2_with fail
  go_meet
  exact ⟨y, h4, g4, L3, mL, Az, Ay, Ay', Az, nz2, cz2, ny, cy, ny', cy', nz2, cz2, rfl, MT, H14.out.want H14.out.k10s⟩
 ·have hm2 : mL = lq := by
   rcases HML.out with h | h
   ·exact absurd h hml
   ·exact h
  rw [decide_eq_false hml] at CS
  clear hml
  refine CS.out.mono ?_
  rintro e W7 ⟨rfl, q7, rfl⟩
  have H14 := Lib.hid (H13.out.below (belowK_drewN (Below.refl _ _) q7))
  have HQ2 := Lib.hid (HQ.out.later (belowK_drewN (Below.refl _ _) q7))
  obtain ⟨W7, hW7⟩ : ∃ W, W = W6.drewN q7 := ⟨_, rfl⟩
  rw [← hW7] at H14 HQ2 ⊢
  clear hW7 CS H13 HQ k4
  have k4 : W7.cell? ⟨b10, 4, none⟩ = some (.slice Az nz2 cz2) := H14.out.k10.cell 4
  go_wp2_with fail
  have CS := Lib.hid (x6samePairsS_any Az Aq nz2 cz2 nq cq mL lq W7 H14.out.k10s HQ2.out HQN.out.2 HQN.out.1)
  rw [decide_eq_true hm2] at CS
  clear hm2
  refine CS.out.mono ?_
  rintro e W8 ⟨rfl, q8, rfl⟩
  have H15 := Lib.hid (H14.out.below (belowK_drewN (Below.refl _ _) q8))
  obtain ⟨W8, hW8⟩ : ∃ W, W = W7.drewN q8 := ⟨_, rfl⟩
  rw [← hW8] at H15 ⊢
  clear hW8 CS H14 HQ2 k4
  have k4 : W8.cell? ⟨b10, 4, none⟩ = some (.slice Az nz2 cz2) := H15.out.k10.cell 4
  go_wp2_with fail
  go_meet
  exact ⟨y, h4, g4, L3, mL, Az, Ay, Ay', Az, nz2, cz2, ny, cy, ny', cy', nz2, cz2, rfl, MT, H15.out.want H15.out.k10s⟩
end Go.Proofs.YtcdehejgnnnimaaGreatDoor
namespace Go.Proofs.YtcdehejgnnnimaaGreatDoor
set_option linter.unusedVariables false
set_option linter.unusedSimpArgs false
open Go.RowKit
set_option maxRecDepth 100000 in
set_option maxHeartbeats 80000000 in
theorem tRD : cutSW.1.2.2.2 := by
 intro n c TL w hn HT zR_1 w1 h20 hn20 h20b zR_2 d0 w2 A1 n1 c1 A1' n1' c1' b3 hw3 W5 W6 d1 A6 n6 c6 A6' n6' c6' W7 b5 hw6 hne6 zR_3 zR_4 wr zSW_1 u9 u10 _ _ zSW_2 zSW_3 zSW_4 zSW_5 zSW_6 zSW_7 zSW_8 zSW_9 zSW_10 zSW_11 zSW_12 zSW_13 zSW_14 zSW_15 zSW_16 zSW_17 zSW_18 zSW_19 zSW_20 zSW_21 zSW_22 zSW_23 zSW_24 zSW_25 zSW_26 zSW_27 zSW_28 zSW_29 zSW_30 zSW_31 zSW_32 zSW_33 zSW_34 zSW_35 zSW_36 zSW_37 u69 _ zSW_38 zSW_39 zSW_40 zSW_41 zSW_42 zSW_43 zSW_44 zSW_45 _ zSW_46 zSW_47 zSW_48 zSW_49 zSW_50 zSW_51 zSW_52 _ zSW_53 zSW_54 zSW_55 zSW_56 zSW_57 zSW_58 zSW_59 zSW_60 zSW_61 zSW_62 zSW_63 zSW_64 zSW_65 zSW_66 zSW_67 zSW_68 zSW_69 zSW_70 zSW_71 zSW_72 zSW_73 zSW_74 zSW_75 zSW_76 zSW_77 zSW_78 zSW_79 zSW_80 zSW_81 zSW_82 zSW_83 zSW_84 zSW_85 zSW_86 zSW_87 zSW_88 zSW_89 zSW_90 zSW_91 zSW_92 zSW_93 zSW_94 zSW_95 zSW_96 zSW_97 zSW_98 zSW_99 zSW_100 zSW_101 zSW_102 zSW_103 zSW_104 zSW_105 zSW_106 k d h g L l Aw nw cw hk HR Ad nd cd Ad' nd' cd' As ns cs_ hlt bT oT HLL hbT cs fz Ac nc cc HFZ mkn HTN HMK hk0 hkn zR15_5 zR15_6 zR15_7 q9 w9 HGR hfm fu HFU HFO V0 hHeld d2 HR2 V1 Ae ne ce Ae' ne' ce' W1 wc _ _ _ _ _ _ _ _ _ _ _ _ _ _ _ _ _ _ _ _ _ _ _ _ _ _ _ _ _ _ _ _ _ _ _ _ _ _ _ _ _ _ _ _ _ _ _ _ _ _ _ _ _ _ _ _ _ _ _ _ _ _ _ _ _ _ _ _ _ _ _ _ _ _ _ _ _ _ _ _ _ _ _ _ _ _ _ _ _ _ _ _ _ _ _ _ _ _ _ _ _ _ _ _ _ b9 b10 x er h2 g2 _ k2 Ax Ax' At nx cx nx' cx' nt ct mm W2 _ _ wc u2 u11 u12 u33 u34 u35 u36 u37 u38 u39 u40 u41 u42 u43 u44 u45 u46 u47 u48 u49 u50 u51 u52 u53 u54 u55 u56 u57 u58 u59 u60 u61 u62 u63 u64 u65 u66 u67 u68 u70 u71 u72 u73 u74 u75 u76 u77 u78 u79 u80 u81 u82 u83 u84 u85 u86 u87 u88 u89 u90 u91 u92 u93 u94 u95 u96 u97 u98 u99 u100 u101 u102 u103 u104 u105 u106 u107 u108 u109 u110 u111 u112 u113 u114 u115 u116 u117 u118 u119 u120 u121 u122 u123 u124 u125 u126 u127 u128 u129 u130 u131 u132 u133 u134 u135 u136 u137 u138 u139 u140 u141 y h' g' L' mm' Aw' Ay Ay' At' nw' cw' ny cy ny' cy' nt' ct' MT W3 H6
 have HNN : Hid (nt' ≤ 140737488355328 ∧ nw' ≤ 140737488355328) := Lib.hid (by have h1 := H6.out.k10s.1; have h2 := H6.out.kx.kw.1; have h3 := MT.out.2.2.1.ok.1; omega)
 go_wp2_with fail
 refine wp_region_held_drew (S := fun W' => Bk W' b9 27 (dkV Ay ny cy Ay' ny' cy' y) ∧ Bk W' b10 35 (stV h' g' (sumT L' : Nat) (L'.length : Nat) At' nt' ct')) hfm ⟨H6.out.k9.drew, H6.out.k10.drew⟩ (fun hHeld => ?_)
 simp only [List.size_toArray, List.length_cons, List.length_nil, Nat.reduceAdd]
 obtain ⟨Q0, hQ0⟩ : ∃ V, V = W3.drew := ⟨_, rfl⟩
 have H7 := Lib.hid (H6.out.below (W' := Q0) (by rw [hQ0]; exact (Below.refl _ _).drew))
 rw [← hQ0] at hHeld ⊢
 clear hQ0 H6
 refine wpAnyH_take (i := 0) (v := .agg (dkV Ay ny cy Ay' ny' cy' y)) rfl (by kernel_rfl) (by kernel_rfl) (by kernel_rfl) (fun _ _ _ h => h) (Or.inl ⟨by rfl, fun w0 hC => dk_load rfl rfl hC.1⟩) hHeld ?_
 try simp only [Act.put, List.setIfInBounds_toArray, List.set_cons_zero, List.set_cons_succ, List.getElem_toArray, List.getElem_cons_zero, List.getElem_cons_succ]
 refine wpAnyH_take (i := 1) (v := .agg (stV h' g' (sumT L' : Nat) (L'.length : Nat) At' nt' ct')) rfl (by kernel_rfl) (by kernel_rfl) (by kernel_rfl) (fun _ _ _ h => h) (Or.inl ⟨by rfl, fun w0 hC => st_load rfl rfl hC.2⟩) hHeld ?_
 try simp only [Act.put, List.setIfInBounds_toArray, List.set_cons_zero, List.set_cons_succ, List.getElem_toArray, List.getElem_cons_zero, List.getElem_cons_succ]
 refine wpAnyH_ready (rs := [2]) (by kernel_rfl) (by simp) (AllReadyH.cons rfl (fun K hK => ?_) AllReadyH.nil)
 rw [if_pos (by rfl)]
 refine wp_store_box 27 (.tmp 3) (.tmp 130) rfl b3 (dkV Ay ny cy Ay' ny' cy' y) rfl rfl H7.out.kx.k3 rfl (by kernel_rfl) (Plain.dk _ _ _ _ _ _ _).one ?_
 have H8 := Lib.hid (H7.out.disk3 (Plain.dk _ _ _ _ _ _ _) hw3 hne6 H7.out.k9d)
 have hSa := And.intro H8.out.k9 H8.out.k10
 clear hHeld H7
 refine hK.out _ _ hSa (fun hHeld => ?_)
 clear hK K
 try simp only [Act.put, List.setIfInBounds_toArray, List.set_cons_zero, List.set_cons_succ, List.getElem_toArray, List.getElem_cons_zero, List.getElem_cons_succ]
 clear hSa
 refine wpAnyH_ready (rs := [3]) (by kernel_rfl) (by simp) (AllReadyH.cons rfl (fun K hK => ?_) AllReadyH.nil)
 rw [if_pos (by rfl)]
 refine wp_store_box 35 (.tmp 5) (.tmp 131) rfl b5 (stV h' g' (sumT L' : Nat) (L'.length : Nat) At' nt' ct') rfl rfl H8.out.kx.k5 rfl (by kernel_rfl) (Plain.st _ _ _ _ _ _ _).one ?_
 have H9 := Lib.hid (H8.out.store5 (Plain.st _ _ _ _ _ _ _) hw6 hne6 (stV h' g' (sumT L' : Nat) (L'.length : Nat) At' nt' ct'))
 have hSa := And.intro H9.out.k9 H9.out.k10
 clear hHeld H8
 refine hK.out _ _ hSa (fun hHeld => ?_)
 clear hK K
 try simp only [Act.put, List.setIfInBounds_toArray, List.set_cons_zero, List.set_cons_succ, List.getElem_toArray, List.getElem_cons_zero, List.getElem_cons_succ]
 clear hSa
 refine wpAnyH_done (by kernel_rfl) ?_ _
 refine list_overW (fun W => KX w b3 b5 (dkV Ay ny cy Ay' ny' cy' y) y (stV h' g' (sumT L' : Nat) (L'.length : Nat) At' nt' ct') At' nt' mm' Aw' nw' mm' W) H9.out.kx ?_
 clear H9 hHeld
 intro W4 h10
 have H10 := Lib.hid h10
 have k4 : W4.cell? ⟨b5, 4, none⟩ = some (.slice At' nt' ct') := H10.out.k5.cell 4
 clear h10
 go_wp2_with fail
 have CS := Lib.hid (x6samePairsS_any At' Aw' nt' ct' nw' cw' mm' mm' W4 H10.out.ks H10.out.kw HNN.out.1 HNN.out.2)
 rw [decide_eq_true rfl] at CS
 refine CS.out.mono ?_
 rintro e W5 ⟨rfl, q5, rfl⟩
 have H11 := Lib.hid (H10.out.below (belowK_drewN (Below.refl _ _) q5))
 obtain ⟨W5, hW5⟩ : ∃ W, W = W4.drewN q5 := ⟨_, rfl⟩
 rw [← hW5] at H11 ⊢
 clear hW5 CS H10 k4
 go_wp2_with ((with_reducible show wpList _ _ _ (⟨some 138, _, _, _, _, _⟩ :: _) _ _); refine hold ?_)
 refine held (wpList_load_mid rfl 27 (.tmp 3) rfl b3 0 rfl _ _ (Bk.rangeK H11.out.k3) Tryz.underlying27 rfl (by kernel_rfl) ?_)
 rw [Array.toArray_toList]
 go_wp2_with fail
 have CA := Lib.hid (rarm_any (.agg (dkV Ay ny cy Ay' ny' cy' y)) y (-1) W5 H11.out.kd)
 rw [(MT.out.1.arm (f := -1) (by decide)).1] at CA
 obtain ⟨y2, hy2⟩ : ∃ y2 : Dk, y2 = { y with fuse := -1 } := ⟨_, rfl⟩
 have RN : Hid (Rnd (k + 1) y2 h' g' L' mm') := Lib.hid (by rw [hy2]; exact ⟨(MT.out.1.arm (f := -1) (by decide)).2, rfl, MT.out.2.1.fuse (-1), MT.out.2.2.1, MT.out.2.2.2⟩)
 rw [← hy2] at CA
 clear hy2
 refine CA.out.mono ?_
 rintro e W6 ⟨v1, rfl, hdv, hbv⟩
 obtain ⟨Az, nz, cz, Az', nz', cz', rfl, hxe⟩ := hdv
 have DZ := Lib.hid (show DkAt W6 W6.heap.size (.agg (dkV Az nz cz Az' nz' cz' y2)) y2 from ⟨Az, nz, cz, Az', nz', cz', rfl, hxe⟩)
 have H12 := Lib.hid (H11.out.below hbv)
 clear hxe hbv CA H11
 go_wp2_with ((with_reducible show wpList _ _ _ (⟨none, _, _, _, _, _⟩ :: _) _ _); refine hold ?_)
 refine held (wpList_store_box rfl 27 (.tmp 3) (.tmp 140) rfl b3 (dkV Az nz cz Az' nz' cz' y2) rfl rfl H12.out.k3 rfl (by kernel_rfl) (Plain.dk _ _ _ _ _ _ _).one ?_)
 have H13 := Lib.hid (H12.out.disk (Plain.dk _ _ _ _ _ _ _) hw3 hne6 DZ.out)
 refine list_overV (fun W => KSt w b3 b5 y2 h' g' L' mm' Aw' nw' W) ⟨Az, nz, cz, Az', nz', cz', At', nt', ct', H13.out.k3, H13.out.kd, H13.out.k5, H13.out.ks, H13.out.kw, H13.out.kb⟩ ?_
 clear H12 H13 DZ
 intro W7 h14
 have H14 := Lib.hid h14
 clear h14
 go_wp2_with fail
 go_roundw
 case rel => exact ⟨k + 1, y2, h', g', L', mm', Aw', nw', cw', by omega, by go_num, rfl, RN.out, H14.out⟩
 case measure => simp [intOf]; omega
end Go.Proofs.YtcdehejgnnnimaaGreatDoor
namespace Go.Proofs.YtcdehejgnnnimaaGreatDoor
set_option linter.unusedVariables false
set_option linter.unusedSimpArgs false
open Go.RowKit
set_option maxRecDepth 100000 in
set_option maxHeartbeats 80000000 in
theorem tE : cutD0.1.2 := by
 intro A n c TL w hn HT HLL _ w1 h20 hn20 h20b _ d0 w2 A1 n1 c1 A1' n1' c1' b3 hw3 W5 W6 d1 A6 n6 c6 A6' n6' c6' W7 b5 hw6 hne6 _ _ wr u2 u9 u10 u11 u12 u33 u34 u35 u36 u37 u38 u39 u40 u41 u42 u43 u44 u45 u46 u47 u48 u49 u50 u51 u52 u53 u54 u55 u56 u57 u58 u59 u60 u61 u62 u63 u64 u65 u66 u67 u68 u69 u70 u71 u72 u73 u74 u75 u76 u77 u78 u79 u80 u81 u82 u83 u84 u85 u86 u87 u88 u89 u90 u91 u92 u93 u94 u95 u96 u97 u98 u99 u100 u101 u102 u103 u104 u105 u106 u107 u108 u109 u110 u111 u112 u113 u114 u115 u116 u117 u118 u119 u120 u121 u122 u123 u124 u125 u126 u127 u128 u129 u130 u131 u132 u133 u134 u135 u136 u137 u138 u139 u140 u141 k d h g L l Aw nw cw hk HR Ad nd cd Ad' nd' cd' As ns cs_ H0 hlt
 obtain rfl : k = n := by omega
 have hkn : ¬ (k : Int) < (k : Int) := by omega
 have HNN : Hid (ns ≤ 140737488355328 ∧ nw ≤ 140737488355328) := Lib.hid (by have h1 := H0.out.ks.1; have h2 := H0.out.kw.1; have h3 := HR.out.small; omega)
 go_wp2_with ((with_reducible show wpList _ _ _ (⟨some 143, _, _, _, _, _⟩ :: _) _ _); refine hold ?_)
 refine held (wpList_load_mid rfl 27 (.tmp 3) rfl b3 0 rfl _ _ (Bk.rangeK H0.out.k3) Tryz.underlying27 rfl (by kernel_rfl) ?_)
 rw [Array.toArray_toList]
 go_wp2_with fail
 refine (kopen_any (n := 90) _ d h g L l wr H0.out.kd HR.out.rest HR.out.hz.holds (by have := HR.out.gen; omega) (HT.out.below H0.out.kb HT.out.pos) HR.out.play (HR.out.hz.holds.len HR.out.rest.2.1 HR.out.rest.1)).mono ?_
 rintro e W4 how
 rcases how with ⟨y, Az, nz2, cz2, hry, hfy, hzy, hcy, v9, rfl, hd9, hb9⟩ | ⟨hne9, _⟩
 rotate_left
 ·exact absurd HR.out.fine hne9
 obtain ⟨Ay, ny, cy, Ay', ny', cy', rfl, hxx⟩ := hd9
 have PY := Lib.hid (show PrsIn W4 Az nz2 l from hcy)
 have PW := Lib.hid (H0.out.kw.later hb9)
 have KB := Lib.hid (H0.out.kb.trans (hb9.mono H0.out.kb.size))
 have NZ : Hid (nz2 ≤ 140737488355328) := Lib.hid (by have h1 := PY.out.1; have h3 := HR.out.small; omega)
 clear hxx hcy hb9 hry hfy hzy H0
 obtain ⟨h4, hh4⟩ : ∃ z, z = 1 - h := ⟨_, rfl⟩
 obtain ⟨g4, hg4⟩ : ∃ z, z = g + 1 := ⟨_, rfl⟩
 rw [← hh4, ← hg4]
 clear hh4 hg4
 go_wp2_with fail
 refine calls_over (fun W => Below W4.heap.size W4 W) (((Below.refl _ _).alloc (Nat.le_refl _) _).alloc (by simp) _) ?_
 rintro W5 hb5
 have P5 := Lib.hid (PY.out.later hb5)
 have Q5 := Lib.hid (PW.out.later hb5)
 have B5 := Lib.hid (KB.out.trans (hb5.mono KB.out.size))
 clear hb5 PY PW KB
 have CS := Lib.hid (x6samePairsS_any Az Aw nz2 cz2 nw cw l l W5 P5.out Q5.out NZ.out HNN.out.2)
 rw [decide_eq_true rfl] at CS
 refine CS.out.mono ?_
 rintro e W6 ⟨rfl, q6, rfl⟩
 have B6 := Lib.hid (belowK_drewN B5.out q6)
 obtain ⟨W6, hW6⟩ : ∃ W, W = W5.drewN q6 := ⟨_, rfl⟩
 rw [← hW6] at B6 ⊢
 clear hW6 CS P5 Q5 B5
 go_wp2_with fail
 go_ret
 exact ⟨rfl, B6.out⟩
end Go.Proofs.YtcdehejgnnnimaaGreatDoor
namespace Go.Proofs.YtcdehejgnnnimaaGreatDoor
set_option linter.unusedVariables false
set_option linter.unusedSimpArgs false
open Go.RowKit
theorem kvwhole_any (A : Option Addr) (n c : Nat) (TL : List TurnM) (w : World) (ht : Tab w) (hl : TurnsAt w w.heap.size A n TL) (hn : n ≤ 140737488355328) : Calls Tryz.prog 3 #[.slice A n c] w fun e w' => e = .returned (.bool true) ∧ Below w.heap.size w w' :=
 cutD0.2 ⟨cutR.2 ⟨cutR15.2 ⟨cutR16.2 ⟨tF16⟩ ⟨cutSW.2 ⟨tAB⟩ ⟨tAA⟩ ⟨cutAC.2 ⟨tAD⟩⟩ ⟨tRD⟩⟩⟩⟩⟩ ⟨tE⟩ A n c TL w ht hl hn
end Go.Proofs.YtcdehejgnnnimaaGreatDoor
