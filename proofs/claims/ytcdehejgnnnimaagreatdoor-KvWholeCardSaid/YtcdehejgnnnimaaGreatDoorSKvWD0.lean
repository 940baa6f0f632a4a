/-
 A part of the proof: see the last text.
-/
import Derived.Test.YtcdehejgnnnimaaGreatDoorSKvWhA
import Derived.Deep.DeepCutAuto
import Derived.Deep.CutBlock
import Derived.Deep.QuietTactic
import Derived.Deep.RegionHeld3
namespace Go.Proofs.YtcdehejgnnnimaaGreatDoor
open List renaming setIfInBounds_toArray → jA, set_cons_zero → jB, set_cons_succ → jC, getElem_toArray → jD, getElem_cons_zero → jE, getElem_cons_succ → jF
set_option linter.unusedVariables false
set_option linter.unusedSimpArgs false
open Go.RowKit
theorem fresh90 : newM 90 = (freshD 90, 0) := newM_fresh (n := 90) (by omega)
structure CutBox (p : Prop) : Prop where
 out : p
set_option maxRecDepth 100000 in
set_option maxHeartbeats 80000000 in
def cutD0 : { P : Prop × Prop // CutBox P.1 → CutBox P.2 → ∀ (A : Option Addr) (n c : Nat) (TL : List TurnM) (w : World) (ht : Tab w) (hl : TurnsAt w w.heap.size A n TL) (hn : n ≤ 140737488355328), Calls Tryz.prog 3 #[.slice A n c] w fun e w' => e = .returned (.bool true) ∧ Below w.heap.size w w' } := ⟨(_, _), fun aR aE => by
 intro A n c TL w ht hl hn
 have HT := Lib.hid ht
 have HLL := Lib.hid hl
 clear hl ht
 go_enter Tryz.func3, Tryz.ntmps3
 go_wp2_with fail
 refine (alive06_any _ HT.out).mono ?_
 rintro e w1 ⟨rfl, hb1⟩
 have HB1 := Lib.hid hb1
 clear hb1
 by_cases h20 : 20 < n
 ·have h20b : decide ((20 : Int) < (n : Int)) = true := by simp; omega
  have h20i : (20 : Int) < (n : Int) := by omega
  go_wp2_with fail
  go_ret
  exact ⟨rfl, HB1.out⟩
 have h20b : ¬ ((20 : Int) < (n : Int)) := by omega
 have hn20 : n ≤ 20 := by omega
 go_wp2_with fail
 have hnew := rnew_any 90 w1
 rw [fresh90] at hnew
 have HF := Lib.hid (fresh_fine (n := 90) (by omega))
 generalize freshD 90 = d0 at *
 refine hnew.mono ?_
 clear hnew
 rintro e w2 hres
 obtain ⟨A1, n1, c1, A1', n1', c1', rfl, hd1, hb2⟩ := hres.zero
 have HD1 := Lib.hid hd1
 have HB2 := Lib.hid (HB1.out.trans (hb2.mono HB1.out.size))
 clear hres hd1 hb2 HB1
 go_wp2_with fail
 refine calls_over (fun W => Bk W w2.heap.size 27 (dkV A1 n1 c1 A1' n1' c1' d0) ∧ DkAt W W.heap.size (.agg (dkV A1 n1 c1 A1' n1' c1' d0)) d0 ∧ Below w.heap.size w W) ⟨Bk.new w2 _ _, HD1.out.later ((Below.refl _ _).alloc (Nat.le_refl _) _), HB2.out.alloc HB2.out.size _⟩ ?_
 have hw3 : w.heap.size ≤ w2.heap.size := HB2.out.size
 clear HD1 HB2
 generalize w2.heap.size = b3 at *
 rintro W5 ⟨k3, kd, kb⟩
 have K3 := Lib.hid k3
 have KB := Lib.hid kb
 refine (kformat_fine (n := 90) _ d0 W5 kd HF.out (by omega) (HT.out.below kb HT.out.pos)).mono ?_
 clear k3 kd kb
 rintro e W6 ⟨d1, hF1, hz1, v6, rfl, hd6, hb6⟩
 obtain ⟨A6, n6, c6, A6', n6', c6', rfl, hx6⟩ := hd6
 have hd6 : DkAt W6 W6.heap.size (.agg (dkV A6 n6 c6 A6' n6' c6' d1)) d1 := ⟨A6, n6, c6, A6', n6', c6', rfl, hx6⟩
 have D6 := Lib.hid hd6
 have K6 := Lib.hid (K3.out.below hb6 K3.out.lt)
 have B6 := Lib.hid (KB.out.trans (hb6.mono KB.out.size))
 have F6 := Lib.hid hF1
 have Z6 := Lib.hid hz1
 clear hd6 hx6 hb6 hF1 hz1 K3 KB HF
 go_wp2_with ((with_reducible show wpList _ _ _ (⟨none, _, _, _, _, _⟩ :: _) _ _); refine hold ?_)
 have hne6 : W6.heap.size ≠ b3 := by have := K6.out.lt; omega
 refine held (wpList_store_box rfl 27 (.tmp 3) (.tmp 28) rfl b3 (dkV A6 n6 c6 A6' n6' c6' d1) rfl rfl (K6.out.alloc _) rfl (by kernel_rfl) (Plain.dk _ _ _ _ _ _ _).one ?_)
 have z6 : Bk (W6.alloc (.cells (stV 0 0 0 0 none 0 0) 35)) W6.heap.size 35 (stV 0 0 0 0 none 0 0) := Bk.new W6 35 _
 go_wp2_with ((with_reducible show wpList _ _ _ (⟨none, _, _, _, _, _⟩ :: _) _ _); refine hold ?_)
 refine held (wpList_store_box rfl 35 (.tmp 5) (.tmp 29) rfl W6.heap.size (stV 0 1 2 1 none 0 0) rfl rfl (z6.setRow_other hne6 _) rfl (by kernel_rfl) (Plain.st _ _ _ _ _ _ _).one ?_)
 refine list_overV (fun W => ∃ b5, b5 = W6.heap.size ∧ KSt w b3 b5 d1 0 1 (snapL []) [] none 0 W) ⟨_, rfl, ?_⟩ ?_
 ·have a1 : Below W6.heap.size W6 (W6.alloc (.cells (stV 0 0 0 0 none 0 0) 35)) := (Below.refl _ _).alloc (Nat.le_refl _) _
  have a2 := dk_turn (D6.out.later a1) (K6.out.alloc _) (Plain.dk A1 n1 c1 A1' n1' c1' d0) (dkV A6 n6 c6 A6' n6' c6' d1)
  have a3 := dk_turn a2 (z6.setRow_other hne6 _) (Plain.st 0 0 0 0 none 0 0) (stV 0 1 2 1 none 0 0)
  refine ⟨A6, n6, c6, A6', n6', c6', none, 0, 0, ?_, a3, ?_, ColK.nil, ColK.nil, ?_⟩
  ·exact ((K6.out.alloc _).setRow_same _).setRow_other (Ne.symm hne6) _
  ·rw [snap_sum, snap_len]
   exact (z6.setRow_other hne6 _).setRow_same _
  ·exact YtcdehejgnnnimaaGreatDoor.below_setRow (YtcdehejgnnnimaaGreatDoor.below_setRow (B6.out.alloc B6.out.size _) hw3 _) B6.out.size _
 have hw6 : w.heap.size ≤ W6.heap.size := B6.out.size
 rintro W7 ⟨b5, hb5, hk7⟩
 rw [← hb5] at hne6 hw6 ⊢
 have H7 := Lib.hid hk7
 clear z6 hb5 hk7 K6 D6 B6
 go_wp2_with fail
 go_loopw [7, 8] (fun x7 x8 wr => ∃ (k : Nat) (d : Dk) (h g : Nat) (L : List (List Nat)) (l : List Pr) (Aw : Option Addr) (nw cw : Nat), k ≤ n ∧ x8 = .int .i64 (k : Int) ∧ x7 = .slice Aw nw cw ∧ Rnd k d h g L l ∧ KSt w b3 b5 d h g L l Aw nw wr) (fun _ x _ => n - (intOf x).toNat)
 case atStart => exact ⟨0, d1, 0, 1, snapL [], [], none, 0, 0, Nat.zero_le _, rfl, rfl, ⟨F6.out.rest, F6.out.2.2.2.1, Z6.out, PlayOk.snap pairs_nil, by omega⟩, H7.out⟩
 case round =>
  clear H7 F6 Z6
  obtain ⟨k, d, h, g, L, l, Aw, nw, cw, hk, rfl, rfl, hrn, hst⟩ := hrel
  have HR := Lib.hid hrn
  obtain ⟨Ad, nd, cd, Ad', nd', cd', As, ns, cs_, k3, kd, k5, ks, kw, kb⟩ := hst
  have H0 := Lib.hid (show KX w b3 b5 (dkV Ad nd cd Ad' nd' cd' d) d (stV h g (sumT L : Nat) (L.length : Nat) As ns cs_) As ns l Aw nw l wr from ⟨k3, kd, k5, ks, kw, kb⟩)
  clear hrn k3 kd k5 ks kw kb
  by_cases hlt : k < n
  ·skip
   rename_i zR_1 zR_2 zR_3 zR_4
   revert A n c TL w hn HT HLL zR_1 w1 h20 hn20 h20b zR_2 d0 w2 A1 n1 c1 A1' n1' c1' b3 hw3 W5 W6 d1 A6 n6 c6 A6' n6' c6' W7 b5 hw6 hne6 zR_3 zR_4 wr u2 u9 u10 u11 u12 u33 u34 u35 u36 u37 u38 u39 u40 u41 u42 u43 u44 u45 u46 u47 u48 u49 u50 u51 u52 u53 u54 u55 u56 u57 u58 u59 u60 u61 u62 u63 u64 u65 u66 u67 u68 u69 u70 u71 u72 u73 u74 u75 u76 u77 u78 u79 u80 u81 u82 u83 u84 u85 u86 u87 u88 u89 u90 u91 u92 u93 u94 u95 u96 u97 u98 u99 u100 u101 u102 u103 u104 u105 u106 u107 u108 u109 u110 u111 u112 u113 u114 u115 u116 u117 u118 u119 u120 u121 u122 u123 u124 u125 u126 u127 u128 u129 u130 u131 u132 u133 u134 u135 u136 u137 u138 u139 u140 u141 k d h g L l Aw nw cw hk HR Ad nd cd Ad' nd' cd' As ns cs_ H0 hlt
   exact aR.out
  ·skip
   rename_i zE_1 zE_2 zE_3 zE_4
   revert A n c TL w hn HT HLL zE_1 w1 h20 hn20 h20b zE_2 d0 w2 A1 n1 c1 A1' n1' c1' b3 hw3 W5 W6 d1 A6 n6 c6 A6' n6' c6' W7 b5 hw6 hne6 zE_3 zE_4 wr u2 u9 u10 u11 u12 u33 u34 u35 u36 u37 u38 u39 u40 u41 u42 u43 u44 u45 u46 u47 u48 u49 u50 u51 u52 u53 u54 u55 u56 u57 u58 u59 u60 u61 u62 u63 u64 u65 u66 u67 u68 u69 u70 u71 u72 u73 u74 u75 u76 u77 u78 u79 u80 u81 u82 u83 u84 u85 u86 u87 u88 u89 u90 u91 u92 u93 u94 u95 u96 u97 u98 u99 u100 u101 u102 u103 u104 u105 u106 u107 u108 u109 u110 u111 u112 u113 u114 u115 u116 u117 u118 u119 u120 u121 u122 u123 u124 u125 u126 u127 u128 u129 u130 u131 u132 u133 u134 u135 u136 u137 u138 u139 u140 u141 k d h g L l Aw nw cw hk HR Ad nd cd Ad' nd' cd' As ns cs_ H0 hlt
   exact aE.out
 ⟩
end Go.Proofs.YtcdehejgnnnimaaGreatDoor
namespace Go.Proofs.YtcdehejgnnnimaaGreatDoor
open List renaming setIfInBounds_toArray → jA, set_cons_zero → jB, set_cons_succ → jC, getElem_toArray → jD, getElem_cons_zero → jE, getElem_cons_succ → jF
set_option linter.unusedVariables false
set_option linter.unusedSimpArgs false
open Go.RowKit
set_option maxRecDepth 100000 in
set_option maxHeartbeats 80000000 in
def cutR : { P : Prop // CutBox P → cutD0.1.1 } := ⟨_, fun aR15 => by
 intro A n c TL w hn HT HLL _ w1 h20 hn20 h20b _ d0 w2 A1 n1 c1 A1' n1' c1' b3 hw3 W5 W6 d1 A6 n6 c6 A6' n6' c6' W7 b5 hw6 hne6 _ _ wr u2 u9 u10 u11 u12 u33 u34 u35 u36 u37 u38 u39 u40 u41 u42 u43 u44 u45 u46 u47 u48 u49 u50 u51 u52 u53 u54 u55 u56 u57 u58 u59 u60 u61 u62 u63 u64 u65 u66 u67 u68 u69 u70 u71 u72 u73 u74 u75 u76 u77 u78 u79 u80 u81 u82 u83 u84 u85 u86 u87 u88 u89 u90 u91 u92 u93 u94 u95 u96 u97 u98 u99 u100 u101 u102 u103 u104 u105 u106 u107 u108 u109 u110 u111 u112 u113 u114 u115 u116 u117 u118 u119 u120 u121 u122 u123 u124 u125 u126 u127 u128 u129 u130 u131 u132 u133 u134 u135 u136 u137 u138 u139 u140 u141 k d h g L l Aw nw cw hk HR Ad nd cd Ad' nd' cd' As ns cs_ H0 hlt
 obtain ⟨bT, oT, rfl, hbT, hrT⟩ := HLL.out.2 (by omega)
 obtain ⟨⟨cs, fz, mk⟩, hT⟩ : ∃ t, TL[k]? = some t := ⟨_, List.getElem?_eq_getElem (by rw [HLL.out.1]; exact hlt)⟩
 obtain ⟨⟨hf1, hf2, hm1, hm2⟩, Ac, nc, cc, hcs, hsz, hnc, hrow⟩ := hrT k _ hT
 simp only at hf1 hf2 hm1 hm2 hcs hsz hrow
 have HTN := Lib.hid (show TurnIn w bT (oT + k * 3) Ac nc cc cs fz mk from ⟨hbT, hcs, hsz, hnc, hrow⟩)
 have HFZ := Lib.hid (And.intro hf1 hf2)
 obtain ⟨mkn, rfl⟩ := Int.eq_ofNat_of_zero_le hm1
 have HMK : Hid (mkn < 18446744073709551616) := Lib.hid (by omega)
 have hk0 : (0 : Int) ≤ (k : Int) := by omega
 have hkn : (k : Int) < (n : Int) := by omega
 clear hrT hT hf1 hf2 hm1 hm2 hcs hsz hnc hrow
 have c0 := HTN.out.c0 H0.out.kb
 go_wp2_with fail
 refine (great06_any none Ac 0 0 nc cc [] cs wr ColK.nil (HTN.out.cs H0.out.kb) (Nat.zero_le _) HTN.out.2.2.2.1 (fun x hx => by cases hx) HTN.out.2.2.1).mono ?_
 rintro e w9 ⟨rfl, q9, rfl⟩
 have H1 := Lib.hid (H0.out.below (belowK_drewN (Below.refl _ _) q9))
 obtain ⟨w9, hw9⟩ : ∃ W, W = wr.drewN q9 := ⟨_, rfl⟩
 rw [← hw9] at H1 ⊢
 clear hw9 H0 c0
 cases hgr : great6B [] cs
 case true =>
  clear hgr
  go_wp2_with fail
  go_ret
  exact ⟨rfl, H1.out.kb⟩
 have HGR := Lib.hid (great_len hgr HTN.out.2.1.1)
 clear hgr
 have hfm : Tryz.prog.follows .mixedOrders = true := by kernel_rfl
 obtain ⟨fu, hfu⟩ : ∃ z, z = max (-1) fz := ⟨_, rfl⟩
 have HFU := Lib.hid hfu
 have HFO : Hid (fuseB fu = true) := Lib.hid (by rw [hfu]; exact fuse_ok HFZ.out.1 HFZ.out.2)
 clear hfu
 go_wp2_with fail
 rename_i zR15_1 zR15_2 zR15_3 zR15_4 zR15_5 zR15_6 zR15_7 zR15_8 zR15_9
 revert n c TL w hn HT zR15_1 w1 h20 hn20 h20b zR15_2 d0 w2 A1 n1 c1 A1' n1' c1' b3 hw3 W5 W6 d1 A6 n6 c6 A6' n6' c6' W7 b5 hw6 hne6 zR15_3 zR15_4 wr u2 u9 u10 u11 u12 u33 u34 u35 u36 u37 u38 u39 u40 u41 u42 u43 u44 u45 u46 u47 u48 u49 u50 u51 u52 u53 u54 u55 u56 u57 u58 u59 u60 u61 u62 u63 u64 u65 u66 u67 u68 u69 u70 u71 u72 u73 u74 u75 u76 u77 u78 u79 u80 u81 u82 u83 u84 u85 u86 u87 u88 u89 u90 u91 u92 u93 u94 u95 u96 u97 u98 u99 u100 u101 u102 u103 u104 u105 u106 u107 u108 u109 u110 u111 u112 u113 u114 u115 u116 u117 u118 u119 u120 u121 u122 u123 u124 u125 u126 u127 u128 u129 u130 u131 u132 u133 u134 u135 u136 u137 u138 u139 u140 u141 k d h g L l Aw nw cw hk HR Ad nd cd Ad' nd' cd' As ns cs_ hlt bT oT HLL hbT cs fz Ac nc cc HFZ mkn HTN HMK hk0 hkn zR15_5 zR15_6 zR15_7 q9 w9 H1 HGR hfm fu HFU HFO zR15_8 zR15_9
 exact aR15.out
 ⟩
end Go.Proofs.YtcdehejgnnnimaaGreatDoor
namespace Go.Proofs.YtcdehejgnnnimaaGreatDoor
open List renaming setIfInBounds_toArray → jA, set_cons_zero → jB, set_cons_succ → jC, getElem_toArray → jD, getElem_cons_zero → jE, getElem_cons_succ → jF
set_option linter.unusedVariables false
set_option linter.unusedSimpArgs false
open Go.RowKit
set_option maxRecDepth 100000 in
set_option maxHeartbeats 80000000 in
def cutR15 : { P : Prop // CutBox P → cutR.1 } := ⟨_, fun aR16 => by
 intro n c TL w hn HT zR_1 w1 h20 hn20 h20b zR_2 d0 w2 A1 n1 c1 A1' n1' c1' b3 hw3 W5 W6 d1 A6 n6 c6 A6' n6' c6' W7 b5 hw6 hne6 zR_3 zR_4 wr u2 u9 u10 u11 u12 u33 u34 u35 u36 u37 u38 u39 u40 u41 u42 u43 u44 u45 u46 u47 u48 u49 u50 u51 u52 u53 u54 u55 u56 u57 u58 u59 u60 u61 u62 u63 u64 u65 u66 u67 u68 u69 u70 u71 u72 u73 u74 u75 u76 u77 u78 u79 u80 u81 u82 u83 u84 u85 u86 u87 u88 u89 u90 u91 u92 u93 u94 u95 u96 u97 u98 u99 u100 u101 u102 u103 u104 u105 u106 u107 u108 u109 u110 u111 u112 u113 u114 u115 u116 u117 u118 u119 u120 u121 u122 u123 u124 u125 u126 u127 u128 u129 u130 u131 u132 u133 u134 u135 u136 u137 u138 u139 u140 u141 k d h g L l Aw nw cw hk HR Ad nd cd Ad' nd' cd' As ns cs_ hlt bT oT HLL hbT cs fz Ac nc cc HFZ mkn HTN HMK hk0 hkn _ _ _ q9 w9 H1 HGR hfm fu HFU HFO _ _
 refine wp_region_held_drew (S := fun W' => Below w.heap.size w W') hfm H1.out.kb.drew (fun hHeld => ?_)
 simp only [List.size_toArray, List.length_cons, List.length_nil, Nat.reduceAdd]
 obtain ⟨V0, hV0⟩ : ∃ V, V = w9.drew := ⟨_, rfl⟩
 have H2 := Lib.hid (H1.out.below (W' := V0) (by rw [hV0]; exact (Below.refl _ _).drew))
 rw [← hV0] at hHeld ⊢
 clear hV0 H1
 refine wpAnyH_take (i := 1) (v := .slice (some ⟨bT, oT, none⟩) n c) rfl (by kernel_rfl) (by kernel_rfl) (by kernel_rfl) (fun _ _ _ h => h) (Or.inl ⟨by rfl, fun w0 hC => by simp [execOp, Act.eval, Act.put, go_sem]⟩) hHeld ?_
 try simp only [Act.put, jA, jB, jC, jD, jE, jF]
 refine wpAnyH_take (i := 2) (v := .int .i64 (k : Int)) rfl (by kernel_rfl) (by kernel_rfl) (by kernel_rfl) (fun _ _ _ h => h) (Or.inl ⟨by rfl, fun w0 hC => by simp [execOp, Act.eval, Act.put, go_sem]⟩) hHeld ?_
 try simp only [Act.put, jA, jB, jC, jD, jE, jF]
 refine wpAnyH_take (i := 3) (v := .pointer (some ⟨bT, oT + k * 3, none⟩)) rfl (by kernel_rfl) (by kernel_rfl) (by kernel_rfl) (fun _ _ _ h => h) (Or.inl ⟨by rfl, fun w0 hC => by simp [execOp, Act.eval, Act.put, go_sem, hk0, hkn, hlt]⟩) hHeld ?_
 try simp only [Act.put, jA, jB, jC, jD, jE, jF]
 refine wpAnyH_take (i := 4) (v := .pointer (some ⟨bT, oT + k * 3 + 1, none⟩)) rfl (by kernel_rfl) (by kernel_rfl) (by kernel_rfl) (fun _ _ _ h => h) (Or.inl ⟨by rfl, fun w0 hC => by simp [execOp, Act.eval, Act.put, go_sem]⟩) hHeld ?_
 try simp only [Act.put, jA, jB, jC, jD, jE, jF]
 refine wpAnyH_take (i := 5) (v := .int .i8 fz) rfl (by kernel_rfl) (by kernel_rfl) (by kernel_rfl) (fun _ _ _ h => h) (Or.inl ⟨by rfl, fun w0 hC => by simp [execOp, Act.eval, Act.put, go_sem, HTN.out.c1 hC]⟩) hHeld ?_
 try simp only [Act.put, jA, jB, jC, jD, jE, jF]
 refine wpAnyH_take (i := 6) (v := .int .i64 fz) rfl (by kernel_rfl) (by kernel_rfl) (by kernel_rfl) (fun _ _ _ h => h) (Or.inl ⟨by rfl, fun w0 hC => exec_conv rfl rfl HFZ.out.1 HFZ.out.2⟩) hHeld ?_
 try simp only [Act.put, jA, jB, jC, jD, jE, jF]
 refine wpAnyH_take (i := 7) (v := .int .i64 fu) rfl (by kernel_rfl) (by kernel_rfl) (by kernel_rfl) (fun _ _ _ h => h) (Or.inl ⟨by rfl, fun w0 hC => by rw [HFU.out]; exact exec_maxW rfl rfl rfl⟩) hHeld ?_
 try simp only [Act.put, jA, jB, jC, jD, jE, jF]
 refine wpAnyH_ready (rs := [0]) (by kernel_rfl) (by simp) (AllReadyH.cons rfl (fun K hK => ?_) AllReadyH.nil)
 rw [if_pos (by rfl)]
 refine wp_load_mid 27 (.tmp 3) rfl b3 0 rfl _ _ (Bk.rangeK H2.out.k3) Tryz.underlying27 rfl (by kernel_rfl) ?_
 rw [Array.toArray_toList]
 refine hK.out _ _ hHeld (fun hHeld => ?_)
 clear hK K
 try simp only [Act.put, jA, jB, jC, jD, jE, jF]
 refine wpAnyH_ready (rs := [8]) (by kernel_rfl) (by simp) (AllReadyH.cons rfl (fun K hK => ?_) AllReadyH.nil)
 rw [if_pos (by rfl)]
 go_wp2_with fail
 have CA := Lib.hid (rarm_any (.agg (dkV Ad nd cd Ad' nd' cd' d)) d fu V0 H2.out.kd)
 rw [(HR.out.rest.arm HFO.out).1] at CA
 obtain ⟨d2, hd2⟩ : ∃ d2 : Dk, d2 = { d with fuse := fu } := ⟨_, rfl⟩
 have HR2 : Hid (Rest 90 d2 ∧ HoldsZ 90 d2 h g L) := Lib.hid (by rw [hd2]; exact ⟨(HR.out.rest.arm HFO.out).2, HR.out.hz.fuse fu⟩)
 rw [← hd2] at CA
 clear hd2
 refine CA.out.mono ?_
 rintro e V1 ⟨v1, rfl, hdv, hbv⟩
 obtain ⟨Ae, ne, ce, Ae', ne', ce', rfl, hxe⟩ := hdv
 have DE := Lib.hid (show DkAt V1 V1.heap.size (.agg (dkV Ae ne ce Ae' ne' ce' d2)) d2 from ⟨Ae, ne, ce, Ae', ne', ce', rfl, hxe⟩)
 have H3 := Lib.hid (H2.out.below hbv)
 have hSa := H3.out.kb
 clear hxe hbv hHeld CA H2
 refine hK.out _ _ hSa (fun hHeld => ?_)
 clear hK K
 try simp only [Act.put, jA, jB, jC, jD, jE, jF]
 clear hSa
 refine wpAnyH_take (i := 9) (v := .tuple #[.agg (dkV Ae ne ce Ae' ne' ce' d2), .int .i64 0]) rfl (by kernel_rfl) (by kernel_rfl) (by kernel_rfl) (fun _ _ _ h => h) (Or.inl ⟨by rfl, fun w0 hC => by simp [execOp, Act.eval, Act.put, go_sem, dkV, stV]⟩) hHeld ?_
 try simp only [Act.put, jA, jB, jC, jD, jE, jF]
 refine wpAnyH_take (i := 10) (v := .agg (dkV Ae ne ce Ae' ne' ce' d2)) rfl (by kernel_rfl) (by kernel_rfl) (by kernel_rfl) (fun _ _ _ h => h) (Or.inl ⟨by rfl, fun w0 hC => by simp [execOp, Act.eval, Act.put, go_sem, dkV, stV]⟩) hHeld ?_
 try simp only [Act.put, jA, jB, jC, jD, jE, jF]
 refine wpAnyH_take (i := 11) (v := .int .i64 0) rfl (by kernel_rfl) (by kernel_rfl) (by kernel_rfl) (fun _ _ _ h => h) (Or.inl ⟨by rfl, fun w0 hC => by simp [execOp, Act.eval, Act.put, go_sem]⟩) hHeld ?_
 try simp only [Act.put, jA, jB, jC, jD, jE, jF]
 refine wpAnyH_ready (rs := [12]) (by kernel_rfl) (by simp) (AllReadyH.cons rfl (fun K hK => ?_) AllReadyH.nil)
 rw [if_pos (by rfl)]
 refine wp_store_box 27 (.tmp 3) (.tmp 55) rfl b3 (dkV Ae ne ce Ae' ne' ce' d2) rfl rfl H3.out.k3 rfl (by kernel_rfl) (Plain.dk _ _ _ _ _ _ _).one ?_
 have H4 := Lib.hid (H3.out.disk (Plain.dk _ _ _ _ _ _ _) hw3 hne6 DE.out)
 have hSa := H4.out.kb
 clear hHeld
 refine hK.out _ _ hSa (fun hHeld => ?_)
 clear hK K
 try simp only [Act.put, jA, jB, jC, jD, jE, jF]
 clear hSa
 refine wpAnyH_done (by kernel_rfl) ?_ _
 obtain ⟨W1, hW1⟩ : ∃ W, W = V1.setRow b3 (dkV Ae ne ce Ae' ne' ce' d2) := ⟨_, rfl⟩
 rw [← hW1] at H4 ⊢
 clear hW1 H3 DE hHeld
 have HT1 := Lib.hid (HT.out.below H4.out.kb HT.out.pos)
 rename_i zR16_1 zR16_2 zR16_3 zR16_4 zR16_5
 revert n c TL w hn HT zR_1 w1 h20 hn20 h20b zR_2 d0 w2 A1 n1 c1 A1' n1' c1' b3 hw3 W5 W6 d1 A6 n6 c6 A6' n6' c6' W7 b5 hw6 hne6 zR_3 zR_4 wr u2 u9 u10 u11 u12 u33 u34 u35 u36 u37 u38 u39 u40 u41 u42 u43 u44 u45 u46 u47 u48 u49 u50 u51 u52 u53 u54 u55 u56 u57 u58 u59 u60 u61 u62 u63 u64 u65 u66 u67 u68 u69 u70 u71 u72 u73 u74 u75 u76 u77 u78 u79 u80 u81 u82 u83 u84 u85 u86 u87 u88 u89 u90 u91 u92 u93 u94 u95 u96 u97 u98 u99 u100 u101 u102 u103 u104 u105 u106 u107 u108 u109 u110 u111 u112 u113 u114 u115 u116 u117 u118 u119 u120 u121 u122 u123 u124 u125 u126 u127 u128 u129 u130 u131 u132 u133 u134 u135 u136 u137 u138 u139 u140 u141 k d h g L l Aw nw cw hk HR Ad nd cd Ad' nd' cd' As ns cs_ hlt bT oT HLL hbT cs fz Ac nc cc HFZ mkn HTN HMK hk0 hkn zR16_1 zR16_2 zR16_3 q9 w9 HGR hfm fu HFU HFO zR16_4 zR16_5 V0 hHeld d2 HR2 V1 Ae ne ce Ae' ne' ce' W1 H4 HT1
 exact aR16.out
 ⟩
end Go.Proofs.YtcdehejgnnnimaaGreatDoor
namespace Go.Proofs.YtcdehejgnnnimaaGreatDoor
open List renaming setIfInBounds_toArray → jA, set_cons_zero → jB, set_cons_succ → jC, getElem_toArray → jD, getElem_cons_zero → jE, getElem_cons_succ → jF
set_option linter.unusedVariables false
set_option linter.unusedSimpArgs false
open Go.RowKit
set_option maxRecDepth 100000 in
set_option maxHeartbeats 80000000 in
def cutR16 : { P : Prop × Prop // CutBox P.1 → CutBox P.2 → cutR15.1 } := ⟨(_, _), fun aF16 aSW => by
 intro n c TL w hn HT zR_1 w1 h20 hn20 h20b zR_2 d0 w2 A1 n1 c1 A1' n1' c1' b3 hw3 W5 W6 d1 A6 n6 c6 A6' n6' c6' W7 b5 hw6 hne6 zR_3 zR_4 wr u2 u9 u10 u11 u12 u33 u34 u35 u36 u37 u38 u39 u40 u41 u42 u43 u44 u45 u46 u47 u48 u49 u50 u51 u52 u53 u54 u55 u56 u57 u58 u59 u60 u61 u62 u63 u64 u65 u66 u67 u68 u69 u70 u71 u72 u73 u74 u75 u76 u77 u78 u79 u80 u81 u82 u83 u84 u85 u86 u87 u88 u89 u90 u91 u92 u93 u94 u95 u96 u97 u98 u99 u100 u101 u102 u103 u104 u105 u106 u107 u108 u109 u110 u111 u112 u113 u114 u115 u116 u117 u118 u119 u120 u121 u122 u123 u124 u125 u126 u127 u128 u129 u130 u131 u132 u133 u134 u135 u136 u137 u138 u139 u140 u141 k d h g L l Aw nw cw hk HR Ad nd cd Ad' nd' cd' As ns cs_ hlt bT oT HLL hbT cs fz Ac nc cc HFZ mkn HTN HMK hk0 hkn zR15_5 zR15_6 zR15_7 q9 w9 HGR hfm fu HFU HFO zR15_8 zR15_9 V0 hHeld d2 HR2 V1 Ae ne ce Ae' ne' ce' W1 H4 HT1
 go_upto_region 16 with (fail)
 go_cut [9, 10, 11] (fun x9 x10 x11 wx => ∃ (b9 b10 : Nat) (x : Dk) (er : Int) (h2 g2 u2 k2 : Nat) (Ax Ax' At : Option Addr) (nx cx nx' cx' nt ct : Nat) (mm : List Pr), x9 = .pointer (some ⟨b9, 0, none⟩) ∧ x10 = .pointer (some ⟨b10, 0, none⟩) ∧ x11 = .int .i64 er ∧ Hid (ComF d2 h g L l cs x er h2 g2 u2 k2 mm) ∧
  KY w b3 b5 b9 b10 (dkV Ae ne ce Ae' ne' ce' d2) d2 (stV h g (sumT L : Nat) (L.length : Nat) As ns cs_) As ns l Aw nw l (dkV Ax nx cx Ax' nx' cx' x) x (stV h2 g2 u2 k2 At nt ct) At nt mm wx)
 case first =>
  rename_i zF16_1 zF16_2 zF16_3 zF16_4 zF16_5 zF16_6
  revert n c TL w hn HT zR_1 w1 h20 hn20 h20b zR_2 d0 w2 A1 n1 c1 A1' n1' c1' b3 hw3 W5 W6 d1 A6 n6 c6 A6' n6' c6' W7 b5 hw6 hne6 zR_3 zR_4 wr u2 u9 u10 u11 u12 u33 u34 u35 u36 u37 u38 u39 u40 u41 u42 u43 u44 u45 u46 u47 u48 u49 u50 u51 u52 u53 u54 u55 u56 u57 u58 u59 u60 u61 u62 u63 u64 u65 u66 u67 u68 u69 u70 u71 u72 u73 u74 u75 u76 u77 u78 u79 u80 u81 u82 u83 u84 u85 u86 u87 u88 u89 u90 u91 u92 u93 u94 u95 u96 u97 u98 u99 u100 u101 u102 u103 u104 u105 u106 u107 u108 u109 u110 u111 u112 u113 u114 u115 u116 u117 u118 u119 u120 u121 u122 u123 u124 u125 u126 u127 u128 u129 u130 u131 u132 u133 u134 u135 u136 u137 u138 u139 u140 u141 k d h g L l Aw nw cw hk HR Ad nd cd Ad' nd' cd' As ns cs_ hlt bT oT HLL hbT cs fz Ac nc cc HFZ mkn HTN HMK hk0 hkn zR15_5 zR15_6 zR15_7 q9 w9 HGR hfm fu HFU HFO V0 hHeld d2 HR2 V1 Ae ne ce Ae' ne' ce' W1 H4 HT1 zF16_1 zF16_2 zF16_3 zF16_4 zF16_5 zF16_6
  exact aF16.out
 case rest =>
  obtain ⟨b9, b10, x, er, h2, g2, u2, k2, Ax, Ax', At, nx, cx, nx', cx', nt, ct, mm, rfl, rfl, rfl, CF, hky⟩ := hcut
  generalize wc = W2 at *
  have H5 := Lib.hid hky
  clear hky H4 HT1
  rename_i zSW_1 zSW_2 zSW_3 zSW_4 zSW_5 zSW_6 zSW_7 zSW_8 zSW_9 zSW_10 zSW_11 zSW_12 zSW_13 zSW_14 zSW_15 zSW_16 zSW_17 zSW_18 zSW_19 zSW_20 zSW_21 zSW_22 zSW_23 zSW_24 zSW_25 zSW_26 zSW_27 zSW_28 zSW_29 zSW_30 zSW_31 zSW_32 zSW_33 zSW_34 zSW_35 zSW_36 zSW_37 zSW_38 zSW_39 zSW_40 zSW_41 zSW_42 zSW_43 zSW_44 zSW_45 zSW_46 zSW_47 zSW_48 zSW_49 zSW_50 zSW_51 zSW_52 zSW_53 zSW_54 zSW_55 zSW_56 zSW_57 zSW_58 zSW_59 zSW_60 zSW_61 zSW_62 zSW_63 zSW_64 zSW_65 zSW_66 zSW_67 zSW_68 zSW_69 zSW_70 zSW_71 zSW_72 zSW_73 zSW_74 zSW_75 zSW_76 zSW_77 zSW_78 zSW_79 zSW_80 zSW_81 zSW_82 zSW_83 zSW_84 zSW_85 zSW_86 zSW_87 zSW_88 zSW_89 zSW_90 zSW_91 zSW_92 zSW_93 zSW_94 zSW_95 zSW_96 zSW_97 zSW_98 zSW_99 zSW_100 zSW_101 zSW_102 zSW_103 zSW_104 zSW_105 zSW_106 zSW_107 zSW_108
  revert n c TL w hn HT zR_1 w1 h20 hn20 h20b zR_2 d0 w2 A1 n1 c1 A1' n1' c1' b3 hw3 W5 W6 d1 A6 n6 c6 A6' n6' c6' W7 b5 hw6 hne6 zR_3 zR_4 wr zSW_1 u9 u10 u11 u12 zSW_2 zSW_3 zSW_4 zSW_5 zSW_6 zSW_7 zSW_8 zSW_9 zSW_10 zSW_11 zSW_12 zSW_13 zSW_14 zSW_15 zSW_16 zSW_17 zSW_18 zSW_19 zSW_20 zSW_21 zSW_22 zSW_23 zSW_24 zSW_25 zSW_26 zSW_27 zSW_28 zSW_29 zSW_30 zSW_31 zSW_32 zSW_33 zSW_34 zSW_35 zSW_36 zSW_37 u69 u70 zSW_38 zSW_39 zSW_40 zSW_41 zSW_42 zSW_43 zSW_44 zSW_45 u79 zSW_46 zSW_47 zSW_48 zSW_49 zSW_50 zSW_51 zSW_52 u87 zSW_53 zSW_54 zSW_55 zSW_56 zSW_57 zSW_58 zSW_59 zSW_60 zSW_61 zSW_62 zSW_63 zSW_64 zSW_65 zSW_66 zSW_67 zSW_68 zSW_69 zSW_70 zSW_71 zSW_72 zSW_73 zSW_74 zSW_75 zSW_76 zSW_77 zSW_78 zSW_79 zSW_80 zSW_81 zSW_82 zSW_83 zSW_84 zSW_85 zSW_86 zSW_87 zSW_88 zSW_89 zSW_90 zSW_91 zSW_92 zSW_93 zSW_94 zSW_95 zSW_96 zSW_97 zSW_98 zSW_99 zSW_100 zSW_101 zSW_102 zSW_103 zSW_104 zSW_105 zSW_106 k d h g L l Aw nw cw hk HR Ad nd cd Ad' nd' cd' As ns cs_ hlt bT oT HLL hbT cs fz Ac nc cc HFZ mkn HTN HMK hk0 hkn zR15_5 zR15_6 zR15_7 q9 w9 HGR hfm fu HFU HFO V0 hHeld d2 HR2 V1 Ae ne ce Ae' ne' ce' W1 zSW_107 zSW_108 wc u33 u34 u35 u36 u37 u38 u39 u40 u41 u42 u43 u44 u45 u46 u47 u48 u49 u50 u51 u52 u53 u54 u55 u56 u57 u58 u59 u60 u61 u62 u63 u64 u65 u66 u67 u68 u71 u72 u73 u74 u75 u76 u77 u78 u80 u81 u82 u83 u84 u85 u86 u88 u89 u90 u91 u92 u93 u94 u95 u96 u97 u98 u99 u100 u101 u102 u103 u104 u105 u106 u107 u108 u109 u110 u111 u112 u113 u114 u115 u116 u117 u118 u119 u120 u121 u122 u123 u124 u125 u126 u127 u128 u129 u130 u131 u132 u133 u134 u135 u136 u137 u138 u139 u140 u141 b9 b10 x er h2 g2 u2 k2 Ax Ax' At nx cx nx' cx' nt ct mm CF W2 H5
  exact aSW.out
 ⟩
end Go.Proofs.YtcdehejgnnnimaaGreatDoor
namespace Go.Proofs.YtcdehejgnnnimaaGreatDoor
open List renaming setIfInBounds_toArray → jA, set_cons_zero → jB, set_cons_succ → jC, getElem_toArray → jD, getElem_cons_zero → jE, getElem_cons_succ → jF
set_option linter.unusedVariables false
set_option linter.unusedSimpArgs false
open Go.RowKit
set_option maxRecDepth 100000 in
set_option maxHeartbeats 80000000 in
def cutSW : { P : Prop × Prop × Prop × Prop // CutBox P.1 → CutBox P.2.1 → CutBox P.2.2.1 → CutBox P.2.2.2 → cutR16.1.2 } := ⟨(_, _, _, _), fun aAB aAA aAC aRD => by
 intro n c TL w hn HT zR_1 w1 h20 hn20 h20b zR_2 d0 w2 A1 n1 c1 A1' n1' c1' b3 hw3 W5 W6 d1 A6 n6 c6 A6' n6' c6' W7 b5 hw6 hne6 zR_3 zR_4 wr _ u9 u10 u11 u12 _ _ _ _ _ _ _ _ _ _ _ _ _ _ _ _ _ _ _ _ _ _ _ _ _ _ _ _ _ _ _ _ _ _ _ _ u69 u70 _ _ _ _ _ _ _ _ u79 _ _ _ _ _ _ _ u87 _ _ _ _ _ _ _ _ _ _ _ _ _ _ _ _ _ _ _ _ _ _ _ _ _ _ _ _ _ _ _ _ _ _ _ _ _ _ _ _ _ _ _ _ _ _ _ _ _ _ _ _ _ _ k d h g L l Aw nw cw hk HR Ad nd cd Ad' nd' cd' As ns cs_ hlt bT oT HLL hbT cs fz Ac nc cc HFZ mkn HTN HMK hk0 hkn zR15_5 zR15_6 zR15_7 q9 w9 HGR hfm fu HFU HFO V0 hHeld d2 HR2 V1 Ae ne ce Ae' ne' ce' W1 _ _ wc u33 u34 u35 u36 u37 u38 u39 u40 u41 u42 u43 u44 u45 u46 u47 u48 u49 u50 u51 u52 u53 u54 u55 u56 u57 u58 u59 u60 u61 u62 u63 u64 u65 u66 u67 u68 u71 u72 u73 u74 u75 u76 u77 u78 u80 u81 u82 u83 u84 u85 u86 u88 u89 u90 u91 u92 u93 u94 u95 u96 u97 u98 u99 u100 u101 u102 u103 u104 u105 u106 u107 u108 u109 u110 u111 u112 u113 u114 u115 u116 u117 u118 u119 u120 u121 u122 u123 u124 u125 u126 u127 u128 u129 u130 u131 u132 u133 u134 u135 u136 u137 u138 u139 u140 u141 b9 b10 x er h2 g2 u2 k2 Ax Ax' At nx cx nx' cx' nt ct mm CF W2 H5
 go_upto_block 2 with (fail)
 go_cut [7] (fun x7 wx => ∃ (y : Dk) (h' g' : Nat) (L' : List (List Nat)) (mm' : List Pr) (Aw' Ay Ay' At' : Option Addr) (nw' cw' ny cy ny' cy' nt' ct' : Nat), x7 = .slice Aw' nw' cw' ∧ Hid (Mt k y h' g' L' mm') ∧
  KY w b3 b5 b9 b10 (dkV Ae ne ce Ae' ne' ce' d2) d2 (stV h g (sumT L : Nat) (L.length : Nat) As ns cs_) As ns l Aw' nw' mm' (dkV Ay ny cy Ay' ny' cy' y) y (stV h' g' (sumT L' : Nat) (L'.length : Nat) At' nt' ct') At' nt' mm' wx)
 case first =>
  have HLN : Hid (ns ≤ 140737488355328 ∧ nw ≤ 400) := Lib.hid (by have h1 := H5.out.kx.ks.1; have h2 := H5.out.kx.kw.1; have h3 := HR.out.small; omega)
  rcases CF.out with ⟨he, rfl, rfl, rfl, rfl, rfl, rfl⟩ | ⟨rfl, L2, hr2, hz2, hg2, rfl, rfl, hp2, hl2⟩ | ⟨rfl, m, hrx, hlx, hlm, hall⟩
  ·skip
   rename_i zAB_1 zAB_2 zAB_3 zAB_4 zAB_5 zAB_6 zAB_7 zAB_8 zAB_9 zAB_10 zAB_11 zAB_12 zAB_13 zAB_14 zAB_15 zAB_16 zAB_17 zAB_18 zAB_19 zAB_20 zAB_21 zAB_22 zAB_23 zAB_24 zAB_25 zAB_26 zAB_27 zAB_28 zAB_29 zAB_30 zAB_31 zAB_32 zAB_33 zAB_34 zAB_35 zAB_36 zAB_37 zAB_38 zAB_39 zAB_40 zAB_41 zAB_42 zAB_43 zAB_44 zAB_45 zAB_46 zAB_47 zAB_48 zAB_49 zAB_50 zAB_51 zAB_52 zAB_53 zAB_54 zAB_55 zAB_56 zAB_57 zAB_58 zAB_59 zAB_60 zAB_61 zAB_62 zAB_63 zAB_64 zAB_65 zAB_66 zAB_67 zAB_68 zAB_69 zAB_70 zAB_71 zAB_72 zAB_73 zAB_74 zAB_75 zAB_76 zAB_77 zAB_78 zAB_79 zAB_80 zAB_81 zAB_82 zAB_83 zAB_84 zAB_85 zAB_86 zAB_87 zAB_88 zAB_89 zAB_90 zAB_91 zAB_92 zAB_93 zAB_94 zAB_95 zAB_96 zAB_97 zAB_98 zAB_99 zAB_100 zAB_101 zAB_102 zAB_103 zAB_104 zAB_105 zAB_106 zAB_107 zAB_108 zAB_109 zAB_110 zAB_111 zAB_112
   revert n c TL w hn HT zR_1 w1 h20 hn20 h20b zR_2 d0 w2 A1 n1 c1 A1' n1' c1' b3 hw3 W5 W6 d1 A6 n6 c6 A6' n6' c6' W7 b5 hw6 hne6 zR_3 zR_4 wr zAB_1 u9 u10 u11 u12 zAB_2 zAB_3 zAB_4 zAB_5 zAB_6 zAB_7 zAB_8 zAB_9 zAB_10 zAB_11 zAB_12 zAB_13 zAB_14 zAB_15 zAB_16 zAB_17 zAB_18 zAB_19 zAB_20 zAB_21 zAB_22 zAB_23 zAB_24 zAB_25 zAB_26 zAB_27 zAB_28 zAB_29 zAB_30 zAB_31 zAB_32 zAB_33 zAB_34 zAB_35 zAB_36 zAB_37 u69 u70 zAB_38 zAB_39 zAB_40 zAB_41 zAB_42 zAB_43 zAB_44 zAB_45 u79 zAB_46 zAB_47 zAB_48 zAB_49 zAB_50 zAB_51 zAB_52 u87 zAB_53 zAB_54 zAB_55 zAB_56 zAB_57 zAB_58 zAB_59 zAB_60 zAB_61 zAB_62 zAB_63 zAB_64 zAB_65 zAB_66 zAB_67 zAB_68 zAB_69 zAB_70 zAB_71 zAB_72 zAB_73 zAB_74 zAB_75 zAB_76 zAB_77 zAB_78 zAB_79 zAB_80 zAB_81 zAB_82 zAB_83 zAB_84 zAB_85 zAB_86 zAB_87 zAB_88 zAB_89 zAB_90 zAB_91 zAB_92 zAB_93 zAB_94 zAB_95 zAB_96 zAB_97 zAB_98 zAB_99 zAB_100 zAB_101 zAB_102 zAB_103 zAB_104 zAB_105 zAB_106 k d L Aw nw cw hk Ad nd cd Ad' nd' cd' As ns cs_ hlt bT oT HLL hbT cs fz Ac nc cc HFZ mkn HTN HMK hk0 hkn zR15_5 zR15_6 zR15_7 q9 w9 HGR hfm fu HFU HFO V0 hHeld V1 Ae ne ce Ae' ne' ce' W1 wc u33 u34 u35 u36 u37 u38 u39 u40 u41 u42 u43 u44 u45 u46 u47 u48 u49 u50 u51 u52 u53 u54 u55 u56 u57 u58 u59 u60 u61 u62 u63 u64 u65 u66 u67 u68 u71 u72 u73 u74 u75 u76 u77 u78 u80 u81 u82 u83 u84 u85 u86 u88 u89 u90 u91 u92 u93 u94 u95 u96 u97 u98 u99 u100 u101 u102 u103 u104 u105 u106 u107 u108 u109 u110 u111 u112 u113 u114 u115 u116 u117 u118 u119 u120 u121 u122 u123 u124 u125 u126 u127 u128 u129 u130 u131 u132 u133 u134 u135 u136 u137 u138 u139 u140 u141 b9 b10 x er h2 g2 Ax Ax' At nx cx nx' cx' nt ct mm W2 zAB_107 zAB_108 zAB_109 zAB_110 zAB_111 HLN he HR2 HR zAB_112 CF H5
   exact aAB.out
  ·skip
   rename_i zAA_1 zAA_2 zAA_3 zAA_4 zAA_5 zAA_6 zAA_7 zAA_8 zAA_9 zAA_10 zAA_11 zAA_12 zAA_13 zAA_14 zAA_15 zAA_16 zAA_17 zAA_18 zAA_19 zAA_20 zAA_21 zAA_22 zAA_23 zAA_24 zAA_25 zAA_26 zAA_27 zAA_28 zAA_29 zAA_30 zAA_31 zAA_32 zAA_33 zAA_34 zAA_35 zAA_36 zAA_37 zAA_38 zAA_39 zAA_40 zAA_41 zAA_42 zAA_43 zAA_44 zAA_45 zAA_46 zAA_47 zAA_48 zAA_49 zAA_50 zAA_51 zAA_52 zAA_53 zAA_54 zAA_55 zAA_56 zAA_57 zAA_58 zAA_59 zAA_60 zAA_61 zAA_62 zAA_63 zAA_64 zAA_65 zAA_66 zAA_67 zAA_68 zAA_69 zAA_70 zAA_71 zAA_72 zAA_73 zAA_74 zAA_75 zAA_76 zAA_77 zAA_78 zAA_79 zAA_80 zAA_81 zAA_82 zAA_83 zAA_84 zAA_85 zAA_86 zAA_87 zAA_88 zAA_89 zAA_90 zAA_91 zAA_92 zAA_93 zAA_94 zAA_95 zAA_96 zAA_97 zAA_98 zAA_99 zAA_100 zAA_101 zAA_102 zAA_103 zAA_104 zAA_105 zAA_106 zAA_107 zAA_108 zAA_109 zAA_110 zAA_111 zAA_112
   revert n c TL w hn HT zR_1 w1 h20 hn20 h20b zR_2 d0 w2 A1 n1 c1 A1' n1' c1' b3 hw3 W5 W6 d1 A6 n6 c6 A6' n6' c6' W7 b5 hw6 hne6 zR_3 zR_4 wr zAA_1 u9 u10 u11 u12 zAA_2 zAA_3 zAA_4 zAA_5 zAA_6 zAA_7 zAA_8 zAA_9 zAA_10 zAA_11 zAA_12 zAA_13 zAA_14 zAA_15 zAA_16 zAA_17 zAA_18 zAA_19 zAA_20 zAA_21 zAA_22 zAA_23 zAA_24 zAA_25 zAA_26 zAA_27 zAA_28 zAA_29 zAA_30 zAA_31 zAA_32 zAA_33 zAA_34 zAA_35 zAA_36 zAA_37 u69 u70 zAA_38 zAA_39 zAA_40 zAA_41 zAA_42 zAA_43 zAA_44 zAA_45 u79 zAA_46 zAA_47 zAA_48 zAA_49 zAA_50 zAA_51 zAA_52 u87 zAA_53 zAA_54 zAA_55 zAA_56 zAA_57 zAA_58 zAA_59 zAA_60 zAA_61 zAA_62 zAA_63 zAA_64 zAA_65 zAA_66 zAA_67 zAA_68 zAA_69 zAA_70 zAA_71 zAA_72 zAA_73 zAA_74 zAA_75 zAA_76 zAA_77 zAA_78 zAA_79 zAA_80 zAA_81 zAA_82 zAA_83 zAA_84 zAA_85 zAA_86 zAA_87 zAA_88 zAA_89 zAA_90 zAA_91 zAA_92 zAA_93 zAA_94 zAA_95 zAA_96 zAA_97 zAA_98 zAA_99 zAA_100 zAA_101 zAA_102 zAA_103 zAA_104 zAA_105 zAA_106 k d h g L l Aw nw cw hk HR Ad nd cd Ad' nd' cd' As ns cs_ hlt bT oT HLL hbT cs fz Ac nc cc HFZ mkn HTN HMK hk0 hkn zR15_5 zR15_6 zR15_7 q9 w9 HGR hfm fu HFU HFO V0 hHeld d2 HR2 V1 Ae ne ce Ae' ne' ce' W1 wc u33 u34 u35 u36 u37 u38 u39 u40 u41 u42 u43 u44 u45 u46 u47 u48 u49 u50 u51 u52 u53 u54 u55 u56 u57 u58 u59 u60 u61 u62 u63 u64 u65 u66 u67 u68 u71 u72 u73 u74 u75 u76 u77 u78 u80 u81 u82 u83 u84 u85 u86 u88 u89 u90 u91 u92 u93 u94 u95 u96 u97 u98 u99 u100 u101 u102 u103 u104 u105 u106 u107 u108 u109 u110 u111 u112 u113 u114 u115 u116 u117 u118 u119 u120 u121 u122 u123 u124 u125 u126 u127 u128 u129 u130 u131 u132 u133 u134 u135 u136 u137 u138 u139 u140 u141 b9 b10 x h2 g2 Ax Ax' At nx cx nx' cx' nt ct mm W2 zAA_107 zAA_108 zAA_109 zAA_110 zAA_111 HLN zAA_112 L2 hr2 hz2 hg2 H5 CF hp2 hl2
   exact aAA.out
  ·skip
   rename_i zAC_1 zAC_2 zAC_3 zAC_4 zAC_5 zAC_6 zAC_7 zAC_8 zAC_9 zAC_10 zAC_11 zAC_12 zAC_13 zAC_14 zAC_15 zAC_16 zAC_17 zAC_18 zAC_19 zAC_20 zAC_21 zAC_22 zAC_23 zAC_24 zAC_25 zAC_26 zAC_27 zAC_28 zAC_29 zAC_30 zAC_31 zAC_32 zAC_33 zAC_34 zAC_35 zAC_36 zAC_37 zAC_38 zAC_39 zAC_40 zAC_41 zAC_42 zAC_43 zAC_44 zAC_45 zAC_46 zAC_47 zAC_48 zAC_49 zAC_50 zAC_51 zAC_52 zAC_53 zAC_54 zAC_55 zAC_56 zAC_57 zAC_58 zAC_59 zAC_60 zAC_61 zAC_62 zAC_63 zAC_64 zAC_65 zAC_66 zAC_67 zAC_68 zAC_69 zAC_70 zAC_71 zAC_72 zAC_73 zAC_74 zAC_75 zAC_76 zAC_77 zAC_78 zAC_79 zAC_80 zAC_81 zAC_82 zAC_83 zAC_84 zAC_85 zAC_86 zAC_87 zAC_88 zAC_89 zAC_90 zAC_91 zAC_92 zAC_93 zAC_94 zAC_95 zAC_96 zAC_97 zAC_98 zAC_99 zAC_100 zAC_101 zAC_102 zAC_103 zAC_104 zAC_105 zAC_106 zAC_107 zAC_108 zAC_109 zAC_110 zAC_111 zAC_112
   revert n c TL w hn HT zR_1 w1 h20 hn20 h20b zR_2 d0 w2 A1 n1 c1 A1' n1' c1' b3 hw3 W5 W6 d1 A6 n6 c6 A6' n6' c6' W7 b5 hw6 hne6 zR_3 zR_4 wr zAC_1 u9 u10 u11 u12 zAC_2 zAC_3 zAC_4 zAC_5 zAC_6 zAC_7 zAC_8 zAC_9 zAC_10 zAC_11 zAC_12 zAC_13 zAC_14 zAC_15 zAC_16 zAC_17 zAC_18 zAC_19 zAC_20 zAC_21 zAC_22 zAC_23 zAC_24 zAC_25 zAC_26 zAC_27 zAC_28 zAC_29 zAC_30 zAC_31 zAC_32 zAC_33 zAC_34 zAC_35 zAC_36 zAC_37 u69 u70 zAC_38 zAC_39 zAC_40 zAC_41 zAC_42 zAC_43 zAC_44 zAC_45 u79 zAC_46 zAC_47 zAC_48 zAC_49 zAC_50 zAC_51 zAC_52 u87 zAC_53 zAC_54 zAC_55 zAC_56 zAC_57 zAC_58 zAC_59 zAC_60 zAC_61 zAC_62 zAC_63 zAC_64 zAC_65 zAC_66 zAC_67 zAC_68 zAC_69 zAC_70 zAC_71 zAC_72 zAC_73 zAC_74 zAC_75 zAC_76 zAC_77 zAC_78 zAC_79 zAC_80 zAC_81 zAC_82 zAC_83 zAC_84 zAC_85 zAC_86 zAC_87 zAC_88 zAC_89 zAC_90 zAC_91 zAC_92 zAC_93 zAC_94 zAC_95 zAC_96 zAC_97 zAC_98 zAC_99 zAC_100 zAC_101 zAC_102 zAC_103 zAC_104 zAC_105 zAC_106 k d h g L l Aw nw cw hk HR Ad nd cd Ad' nd' cd' As ns cs_ hlt bT oT HLL hbT cs fz Ac nc cc HFZ mkn HTN HMK hk0 hkn zR15_5 zR15_6 zR15_7 q9 w9 HGR hfm fu HFU HFO V0 hHeld d2 HR2 V1 Ae ne ce Ae' ne' ce' W1 wc u33 u34 u35 u36 u37 u38 u39 u40 u41 u42 u43 u44 u45 u46 u47 u48 u49 u50 u51 u52 u53 u54 u55 u56 u57 u58 u59 u60 u61 u62 u63 u64 u65 u66 u67 u68 u71 u72 u73 u74 u75 u76 u77 u78 u80 u81 u82 u83 u84 u85 u86 u88 u89 u90 u91 u92 u93 u94 u95 u96 u97 u98 u99 u100 u101 u102 u103 u104 u105 u106 u107 u108 u109 u110 u111 u112 u113 u114 u115 u116 u117 u118 u119 u120 u121 u122 u123 u124 u125 u126 u127 u128 u129 u130 u131 u132 u133 u134 u135 u136 u137 u138 u139 u140 u141 b9 b10 x h2 g2 u2 k2 Ax Ax' At nx cx nx' cx' nt ct mm W2 H5 zAC_107 zAC_108 zAC_109 zAC_110 zAC_111 HLN CF zAC_112 m hrx hlx hlm hall
   exact aAC.out
 case rest =>
  obtain ⟨y, h', g', L', mm', Aw', Ay, Ay', At', nw', cw', ny, cy, ny', cy', nt', ct', rfl, MT, hky⟩ := hcut
  generalize wc = W3 at *
  have H6 := Lib.hid hky
  clear hky H5 CF
  rename_i zRD_1 zRD_2 zRD_3 zRD_4 zRD_5 zRD_6 zRD_7 zRD_8 zRD_9 zRD_10 zRD_11 zRD_12 zRD_13 zRD_14 zRD_15 zRD_16 zRD_17 zRD_18 zRD_19 zRD_20 zRD_21 zRD_22 zRD_23 zRD_24 zRD_25 zRD_26 zRD_27 zRD_28 zRD_29 zRD_30 zRD_31 zRD_32 zRD_33 zRD_34 zRD_35 zRD_36 zRD_37 zRD_38 zRD_39 zRD_40 zRD_41 zRD_42 zRD_43 zRD_44 zRD_45 zRD_46 zRD_47 zRD_48 zRD_49 zRD_50 zRD_51 zRD_52 zRD_53 zRD_54 zRD_55 zRD_56 zRD_57 zRD_58 zRD_59 zRD_60 zRD_61 zRD_62 zRD_63 zRD_64 zRD_65 zRD_66 zRD_67 zRD_68 zRD_69 zRD_70 zRD_71 zRD_72 zRD_73 zRD_74 zRD_75 zRD_76 zRD_77 zRD_78 zRD_79 zRD_80 zRD_81 zRD_82 zRD_83 zRD_84 zRD_85 zRD_86 zRD_87 zRD_88 zRD_89 zRD_90 zRD_91 zRD_92 zRD_93 zRD_94 zRD_95 zRD_96 zRD_97 zRD_98 zRD_99 zRD_100 zRD_101 zRD_102 zRD_103 zRD_104 zRD_105 zRD_106 zRD_107 zRD_108 zRD_109 zRD_110 zRD_111 zRD_112 zRD_113 zRD_114 zRD_115 zRD_116 zRD_117 zRD_118 zRD_119 zRD_120 zRD_121 zRD_122 zRD_123 zRD_124 zRD_125 zRD_126 zRD_127 zRD_128 zRD_129 zRD_130 zRD_131 zRD_132 zRD_133 zRD_134 zRD_135 zRD_136 zRD_137 zRD_138 zRD_139 zRD_140 zRD_141 zRD_142 zRD_143 zRD_144 zRD_145 zRD_146 zRD_147 zRD_148 zRD_149 zRD_150 zRD_151 zRD_152 zRD_153 zRD_154 zRD_155 zRD_156 zRD_157 zRD_158 zRD_159 zRD_160 zRD_161 zRD_162 zRD_163 zRD_164 zRD_165 zRD_166 zRD_167 zRD_168 zRD_169 zRD_170 zRD_171 zRD_172 zRD_173 zRD_174 zRD_175 zRD_176 zRD_177 zRD_178 zRD_179 zRD_180 zRD_181 zRD_182 zRD_183 zRD_184 zRD_185 zRD_186 zRD_187 zRD_188 zRD_189 zRD_190 zRD_191 zRD_192 zRD_193 zRD_194 zRD_195 zRD_196 zRD_197 zRD_198 zRD_199 zRD_200 zRD_201 zRD_202 zRD_203 zRD_204 zRD_205 zRD_206 zRD_207 zRD_208 zRD_209 zRD_210 zRD_211 zRD_212 zRD_213 zRD_214 zRD_215 zRD_216 zRD_217 zRD_218 zRD_219 zRD_220
  revert n c TL w hn HT zR_1 w1 h20 hn20 h20b zR_2 d0 w2 A1 n1 c1 A1' n1' c1' b3 hw3 W5 W6 d1 A6 n6 c6 A6' n6' c6' W7 b5 hw6 hne6 zR_3 zR_4 wr zRD_1 u9 u10 zRD_2 zRD_3 zRD_4 zRD_5 zRD_6 zRD_7 zRD_8 zRD_9 zRD_10 zRD_11 zRD_12 zRD_13 zRD_14 zRD_15 zRD_16 zRD_17 zRD_18 zRD_19 zRD_20 zRD_21 zRD_22 zRD_23 zRD_24 zRD_25 zRD_26 zRD_27 zRD_28 zRD_29 zRD_30 zRD_31 zRD_32 zRD_33 zRD_34 zRD_35 zRD_36 zRD_37 zRD_38 zRD_39 u69 zRD_40 zRD_41 zRD_42 zRD_43 zRD_44 zRD_45 zRD_46 zRD_47 zRD_48 zRD_49 zRD_50 zRD_51 zRD_52 zRD_53 zRD_54 zRD_55 zRD_56 zRD_57 zRD_58 zRD_59 zRD_60 zRD_61 zRD_62 zRD_63 zRD_64 zRD_65 zRD_66 zRD_67 zRD_68 zRD_69 zRD_70 zRD_71 zRD_72 zRD_73 zRD_74 zRD_75 zRD_76 zRD_77 zRD_78 zRD_79 zRD_80 zRD_81 zRD_82 zRD_83 zRD_84 zRD_85 zRD_86 zRD_87 zRD_88 zRD_89 zRD_90 zRD_91 zRD_92 zRD_93 zRD_94 zRD_95 zRD_96 zRD_97 zRD_98 zRD_99 zRD_100 zRD_101 zRD_102 zRD_103 zRD_104 zRD_105 zRD_106 zRD_107 zRD_108 zRD_109 zRD_110 zRD_111 k d h g L l Aw nw cw hk HR Ad nd cd Ad' nd' cd' As ns cs_ hlt bT oT HLL hbT cs fz Ac nc cc HFZ mkn HTN HMK hk0 hkn zR15_5 zR15_6 zR15_7 q9 w9 HGR hfm fu HFU HFO V0 hHeld d2 HR2 V1 Ae ne ce Ae' ne' ce' W1 zRD_112 zRD_113 zRD_114 zRD_115 zRD_116 zRD_117 zRD_118 zRD_119 zRD_120 zRD_121 zRD_122 zRD_123 zRD_124 zRD_125 zRD_126 zRD_127 zRD_128 zRD_129 zRD_130 zRD_131 zRD_132 zRD_133 zRD_134 zRD_135 zRD_136 zRD_137 zRD_138 zRD_139 zRD_140 zRD_141 zRD_142 zRD_143 zRD_144 zRD_145 zRD_146 zRD_147 zRD_148 zRD_149 zRD_150 zRD_151 zRD_152 zRD_153 zRD_154 zRD_155 zRD_156 zRD_157 zRD_158 zRD_159 zRD_160 zRD_161 zRD_162 zRD_163 zRD_164 zRD_165 zRD_166 zRD_167 zRD_168 zRD_169 zRD_170 zRD_171 zRD_172 zRD_173 zRD_174 zRD_175 zRD_176 zRD_177 zRD_178 zRD_179 zRD_180 zRD_181 zRD_182 zRD_183 zRD_184 zRD_185 zRD_186 zRD_187 zRD_188 zRD_189 zRD_190 zRD_191 zRD_192 zRD_193 zRD_194 zRD_195 zRD_196 zRD_197 zRD_198 zRD_199 zRD_200 zRD_201 zRD_202 zRD_203 zRD_204 zRD_205 zRD_206 zRD_207 zRD_208 zRD_209 zRD_210 zRD_211 zRD_212 zRD_213 zRD_214 zRD_215 zRD_216 zRD_217 b9 b10 x er h2 g2 zRD_218 k2 Ax Ax' At nx cx nx' cx' nt ct mm W2 zRD_219 zRD_220 wc u2 u11 u12 u33 u34 u35 u36 u37 u38 u39 u40 u41 u42 u43 u44 u45 u46 u47 u48 u49 u50 u51 u52 u53 u54 u55 u56 u57 u58 u59 u60 u61 u62 u63 u64 u65 u66 u67 u68 u70 u71 u72 u73 u74 u75 u76 u77 u78 u79 u80 u81 u82 u83 u84 u85 u86 u87 u88 u89 u90 u91 u92 u93 u94 u95 u96 u97 u98 u99 u100 u101 u102 u103 u104 u105 u106 u107 u108 u109 u110 u111 u112 u113 u114 u115 u116 u117 u118 u119 u120 u121 u122 u123 u124 u125 u126 u127 u128 u129 u130 u131 u132 u133 u134 u135 u136 u137 u138 u139 u140 u141 y h' g' L' mm' Aw' Ay Ay' At' nw' cw' ny cy ny' cy' nt' ct' MT W3 H6
  exact aRD.out
 ⟩
end Go.Proofs.YtcdehejgnnnimaaGreatDoor
namespace Go.Proofs.YtcdehejgnnnimaaGreatDoor
open List renaming setIfInBounds_toArray → jA, set_cons_zero → jB, set_cons_succ → jC, getElem_toArray → jD, getElem_cons_zero → jE, getElem_cons_succ → jF
set_option linter.unusedVariables false
set_option linter.unusedSimpArgs false
open Go.RowKit
set_option maxRecDepth 100000 in
set_option maxHeartbeats 80000000 in
def cutAC : { P : Prop // CutBox P → cutSW.1.2.2.1 } := ⟨_, fun aAD => by
 intro n c TL w hn HT zR_1 w1 h20 hn20 h20b zR_2 d0 w2 A1 n1 c1 A1' n1' c1' b3 hw3 W5 W6 d1 A6 n6 c6 A6' n6' c6' W7 b5 hw6 hne6 zR_3 zR_4 wr zSW_1 u9 u10 u11 u12 zSW_2 zSW_3 zSW_4 zSW_5 zSW_6 zSW_7 zSW_8 zSW_9 zSW_10 zSW_11 zSW_12 zSW_13 zSW_14 zSW_15 zSW_16 zSW_17 zSW_18 zSW_19 zSW_20 zSW_21 zSW_22 zSW_23 zSW_24 zSW_25 zSW_26 zSW_27 zSW_28 zSW_29 zSW_30 zSW_31 zSW_32 zSW_33 zSW_34 zSW_35 zSW_36 zSW_37 u69 u70 zSW_38 zSW_39 zSW_40 zSW_41 zSW_42 zSW_43 zSW_44 zSW_45 u79 zSW_46 zSW_47 zSW_48 zSW_49 zSW_50 zSW_51 zSW_52 u87 zSW_53 zSW_54 zSW_55 zSW_56 zSW_57 zSW_58 zSW_59 zSW_60 zSW_61 zSW_62 zSW_63 zSW_64 zSW_65 zSW_66 zSW_67 zSW_68 zSW_69 zSW_70 zSW_71 zSW_72 zSW_73 zSW_74 zSW_75 zSW_76 zSW_77 zSW_78 zSW_79 zSW_80 zSW_81 zSW_82 zSW_83 zSW_84 zSW_85 zSW_86 zSW_87 zSW_88 zSW_89 zSW_90 zSW_91 zSW_92 zSW_93 zSW_94 zSW_95 zSW_96 zSW_97 zSW_98 zSW_99 zSW_100 zSW_101 zSW_102 zSW_103 zSW_104 zSW_105 zSW_106 k d h g L l Aw nw cw hk HR Ad nd cd Ad' nd' cd' As ns cs_ hlt bT oT HLL hbT cs fz Ac nc cc HFZ mkn HTN HMK hk0 hkn zR15_5 zR15_6 zR15_7 q9 w9 HGR hfm fu HFU HFO V0 hHeld d2 HR2 V1 Ae ne ce Ae' ne' ce' W1 wc u33 u34 u35 u36 u37 u38 u39 u40 u41 u42 u43 u44 u45 u46 u47 u48 u49 u50 u51 u52 u53 u54 u55 u56 u57 u58 u59 u60 u61 u62 u63 u64 u65 u66 u67 u68 u71 u72 u73 u74 u75 u76 u77 u78 u80 u81 u82 u83 u84 u85 u86 u88 u89 u90 u91 u92 u93 u94 u95 u96 u97 u98 u99 u100 u101 u102 u103 u104 u105 u106 u107 u108 u109 u110 u111 u112 u113 u114 u115 u116 u117 u118 u119 u120 u121 u122 u123 u124 u125 u126 u127 u128 u129 u130 u131 u132 u133 u134 u135 u136 u137 u138 u139 u140 u141 b9 b10 x h2 g2 u2 k2 Ax Ax' At nx cx nx' cx' nt ct mm W2 H5 _ _ _ _ _ HLN CF _ m hrx hlx hlm hall
 have ML := Lib.hid hlm
 obtain ⟨h3, g3, L3, hh3, hg3, hp3⟩ := hall mkn
 have HH3 := Lib.hid hh3
 have HG3 := Lib.hid hg3
 have HP3 := Lib.hid hp3
 have hst := start_rest hrx hlx mkn
 obtain ⟨y0, hy0⟩ : ∃ y, y = (startM x mkn).1 := ⟨_, rfl⟩
 have HS0 : Hid (startM x mkn = (y0, 0) ∧ Fine 90 y0) := Lib.hid (by rw [hy0, hst.1]; exact ⟨rfl, hst.2⟩)
 rw [← hy0] at HH3
 clear hlm hall hh3 hg3 hp3 hst hy0 hrx hlx CF
 go_wp2_with fail
 refine wp_region_held_drew (S := KX w b3 b5 (dkV Ae ne ce Ae' ne' ce' d2) d2 (stV h g (sumT L : Nat) (L.length : Nat) As ns cs_) As ns l Aw nw l) hfm (H5.out.kx.below (Below.refl _ _).drew) (fun hHeld => ?_)
 simp only [List.size_toArray, List.length_cons, List.length_nil, Nat.reduceAdd]
 obtain ⟨Q0, hQ0⟩ : ∃ V, V = W2.drew := ⟨_, rfl⟩
 have H6 := Lib.hid (H5.out.below (W' := Q0) (by rw [hQ0]; exact (Below.refl _ _).drew))
 rw [← hQ0] at hHeld ⊢
 clear hQ0 H5
 refine wpAnyH_take (i := 1) (v := .slice (some ⟨bT, oT, none⟩) n c) rfl (by kernel_rfl) (by kernel_rfl) (by kernel_rfl) (fun _ _ _ h => h) (Or.inl ⟨by rfl, fun w0 hC => by simp [execOp, Act.eval, Act.put, go_sem]⟩) hHeld ?_
 try simp only [Act.put, jA, jB, jC, jD, jE, jF]
 refine wpAnyH_take (i := 2) (v := .int .i64 (k : Int)) rfl (by kernel_rfl) (by kernel_rfl) (by kernel_rfl) (fun _ _ _ h => h) (Or.inl ⟨by rfl, fun w0 hC => by simp [execOp, Act.eval, Act.put, go_sem]⟩) hHeld ?_
 try simp only [Act.put, jA, jB, jC, jD, jE, jF]
 refine wpAnyH_take (i := 3) (v := .pointer (some ⟨bT, oT + k * 3, none⟩)) rfl (by kernel_rfl) (by kernel_rfl) (by kernel_rfl) (fun _ _ _ h => h) (Or.inl ⟨by rfl, fun w0 hC => by simp [execOp, Act.eval, Act.put, go_sem, hk0, hkn, hlt]⟩) hHeld ?_
 try simp only [Act.put, jA, jB, jC, jD, jE, jF]
 refine wpAnyH_take (i := 4) (v := .pointer (some ⟨bT, oT + k * 3 + 2, none⟩)) rfl (by kernel_rfl) (by kernel_rfl) (by kernel_rfl) (fun _ _ _ h => h) (Or.inl ⟨by rfl, fun w0 hC => by simp [execOp, Act.eval, Act.put, go_sem]⟩) hHeld ?_
 try simp only [Act.put, jA, jB, jC, jD, jE, jF]
 refine wpAnyH_take (i := 5) (v := .int .u64 (mkn : Int)) rfl (by kernel_rfl) (by kernel_rfl) (by kernel_rfl) (fun _ _ _ h => h) (Or.inl ⟨by rfl, fun w0 hC => by simp [execOp, Act.eval, Act.put, go_sem, HTN.out.c2 hC.kb]⟩) hHeld ?_
 try simp only [Act.put, jA, jB, jC, jD, jE, jF]
 refine wpAnyH_ready (rs := [0]) (by kernel_rfl) (by simp) (AllReadyH.cons rfl (fun K hK => ?_) AllReadyH.nil)
 rw [if_pos (by rfl)]
 refine wp_load_mid 27 (.tmp 9) rfl b9 0 rfl _ _ (Bk.rangeK H6.out.k9) Tryz.underlying27 rfl (by kernel_rfl) ?_
 rw [Array.toArray_toList]
 refine hK.out _ _ hHeld (fun hHeld => ?_)
 clear hK K
 try simp only [Act.put, jA, jB, jC, jD, jE, jF]
 refine wpAnyH_ready (rs := [6]) (by kernel_rfl) (by simp) (AllReadyH.cons rfl (fun K hK => ?_) AllReadyH.nil)
 rw [if_pos (by rfl)]
 go_wp2_with fail
 have CA := Lib.hid (rstart_any (.agg (dkV Ax nx cx Ax' nx' cx' x)) x mkn HMK.out Q0 H6.out.k9d)
 rw [HS0.out.1] at CA
 refine CA.out.mono ?_
 rintro e Q1 ⟨v1, rfl, hdv, hbv⟩
 obtain ⟨Az, nz, cz, Az', nz', cz', rfl, hxe⟩ := hdv
 have DZ := Lib.hid (show DkAt Q1 Q1.heap.size (.agg (dkV Az nz cz Az' nz' cz' y0)) y0 from ⟨Az, nz, cz, Az', nz', cz', rfl, hxe⟩)
 have H7 := Lib.hid (H6.out.below hbv)
 have hSa := H7.out.kx
 clear hxe hbv hHeld CA H6
 refine hK.out _ _ hSa (fun hHeld => ?_)
 clear hK K
 try simp only [Act.put, jA, jB, jC, jD, jE, jF]
 clear hSa
 refine wpAnyH_take (i := 7) (v := .tuple #[.agg (dkV Az nz cz Az' nz' cz' y0), .int .i64 0]) rfl (by kernel_rfl) (by kernel_rfl) (by kernel_rfl) (fun _ _ _ h => h) (Or.inl ⟨by rfl, fun w0 hC => by simp [execOp, Act.eval, Act.put, go_sem, dkV, stV]⟩) hHeld ?_
 try simp only [Act.put, jA, jB, jC, jD, jE, jF]
 refine wpAnyH_take (i := 8) (v := .agg (dkV Az nz cz Az' nz' cz' y0)) rfl (by kernel_rfl) (by kernel_rfl) (by kernel_rfl) (fun _ _ _ h => h) (Or.inl ⟨by rfl, fun w0 hC => by simp [execOp, Act.eval, Act.put, go_sem, dkV, stV]⟩) hHeld ?_
 try simp only [Act.put, jA, jB, jC, jD, jE, jF]
 refine wpAnyH_take (i := 9) (v := .int .i64 0) rfl (by kernel_rfl) (by kernel_rfl) (by kernel_rfl) (fun _ _ _ h => h) (Or.inl ⟨by rfl, fun w0 hC => by simp [execOp, Act.eval, Act.put, go_sem]⟩) hHeld ?_
 try simp only [Act.put, jA, jB, jC, jD, jE, jF]
 refine wpAnyH_ready (rs := [10]) (by kernel_rfl) (by simp) (AllReadyH.cons rfl (fun K hK => ?_) AllReadyH.nil)
 rw [if_pos (by rfl)]
 refine wp_store_box 27 (.tmp 9) (.tmp 97) rfl b9 (dkV Az nz cz Az' nz' cz' y0) rfl rfl H7.out.k9 rfl (by kernel_rfl) (Plain.dk _ _ _ _ _ _ _).one ?_
 have H8 := Lib.hid (H7.out.disk9 (Plain.dk _ _ _ _ _ _ _) DZ.out)
 have hSa := H8.out.kx
 clear hHeld
 refine hK.out _ _ hSa (fun hHeld => ?_)
 clear hK K
 try simp only [Act.put, jA, jB, jC, jD, jE, jF]
 clear hSa
 refine wpAnyH_done (by kernel_rfl) ?_ _
 obtain ⟨W3, hW3⟩ : ∃ W, W = Q1.setRow b9 (dkV Az nz cz Az' nz' cz' y0) := ⟨_, rfl⟩
 rw [← hW3] at H8 ⊢
 clear hW3 H7 DZ hHeld
 rename_i zAD_1 zAD_2 zAD_3 zAD_4 zAD_5 zAD_6 zAD_7 zAD_8 zAD_9
 revert n c TL w hn HT zR_1 w1 h20 hn20 h20b zR_2 d0 w2 A1 n1 c1 A1' n1' c1' b3 hw3 W5 W6 d1 A6 n6 c6 A6' n6' c6' W7 b5 hw6 hne6 zR_3 zR_4 wr zSW_1 u9 u10 u11 u12 zSW_2 zSW_3 zSW_4 zSW_5 zSW_6 zSW_7 zSW_8 zSW_9 zSW_10 zSW_11 zSW_12 zSW_13 zSW_14 zSW_15 zSW_16 zSW_17 zSW_18 zSW_19 zSW_20 zSW_21 zSW_22 zSW_23 zSW_24 zSW_25 zSW_26 zSW_27 zSW_28 zSW_29 zSW_30 zSW_31 zSW_32 zSW_33 zSW_34 zSW_35 zSW_36 zSW_37 u69 u70 zSW_38 zSW_39 zSW_40 zSW_41 zSW_42 zSW_43 zSW_44 zSW_45 u79 zSW_46 zSW_47 zSW_48 zSW_49 zSW_50 zSW_51 zSW_52 u87 zSW_53 zSW_54 zSW_55 zSW_56 zSW_57 zSW_58 zSW_59 zSW_60 zSW_61 zSW_62 zSW_63 zSW_64 zSW_65 zSW_66 zSW_67 zSW_68 zSW_69 zSW_70 zSW_71 zSW_72 zSW_73 zSW_74 zSW_75 zSW_76 zSW_77 zSW_78 zSW_79 zSW_80 zSW_81 zSW_82 zSW_83 zSW_84 zSW_85 zSW_86 zSW_87 zSW_88 zSW_89 zSW_90 zSW_91 zSW_92 zSW_93 zSW_94 zSW_95 zSW_96 zSW_97 zSW_98 zSW_99 zSW_100 zSW_101 zSW_102 zSW_103 zSW_104 zSW_105 zSW_106 k d h g L l Aw nw cw hk HR Ad nd cd Ad' nd' cd' As ns cs_ hlt bT oT HLL hbT cs fz Ac nc cc HFZ mkn HTN HMK hk0 hkn zR15_5 zR15_6 zR15_7 q9 w9 HGR hfm fu HFU HFO V0 zAD_1 d2 HR2 V1 Ae ne ce Ae' ne' ce' W1 wc u33 u34 u35 u36 u37 u38 u39 u40 u41 u42 u43 u44 u45 u46 u47 u48 u49 u50 u51 u52 u53 u54 u55 u56 u57 u58 u59 u60 u61 u62 u63 u64 u65 u66 u67 u68 u71 u72 u73 u74 u75 u76 u77 u78 u80 u81 u82 u83 u84 u85 u86 u88 u89 u90 u91 u92 u93 u94 u95 u96 u97 u98 u99 u100 u101 u102 u103 u104 u105 u106 u107 u108 u109 u110 u111 u112 u113 u114 u115 u116 u117 u118 u119 u120 u121 u122 u123 u124 u125 u126 u127 u128 u129 u130 u131 u132 u133 u134 u135 u136 u137 u138 u139 u140 u141 b9 b10 x h2 g2 u2 k2 Ax Ax' At nx cx nx' cx' nt ct mm W2 zAD_2 zAD_3 zAD_4 zAD_5 zAD_6 HLN zAD_7 m ML h3 g3 L3 HG3 HP3 y0 HH3 HS0 zAD_8 zAD_9 Q0 hHeld Q1 Az nz cz Az' nz' cz' W3 H8
 exact aAD.out
 ⟩
end Go.Proofs.YtcdehejgnnnimaaGreatDoor
