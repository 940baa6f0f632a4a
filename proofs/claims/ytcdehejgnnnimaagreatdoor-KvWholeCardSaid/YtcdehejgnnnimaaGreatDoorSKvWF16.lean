/-
 A part of the proof: see the last text.
-/
import Derived.Test.YtcdehejgnnnimaaGreatDoorSKvWD0
import Derived.Test.YtcdehejgnnnimaaGreatDoorSKvWhA
import Derived.Deep.DeepCutAuto
import Derived.Deep.CutBlock
import Derived.Deep.QuietTactic
import Derived.Deep.RegionHeld3
namespace Go.Proofs.YtcdehejgnnnimaaGreatDoor
open List renaming setIfInBounds_toArray → jA, set_cons_zero → jB, set_cons_succ → jC, getElem_toArray → jD, getElem_cons_zero → jE, getElem_cons_succ → jF
set_option linter.unusedVariables false
set_option linter.unusedSimpArgs false
open Go.RowKit
set_option maxRecDepth 100000 in
set_option maxHeartbeats 80000000 in
theorem tF16 : cutR16.1.1 := by
 intro n c TL w hn HT zR_1 w1 h20 hn20 h20b zR_2 d0 w2 A1 n1 c1 A1' n1' c1' b3 hw3 W5 W6 d1 A6 n6 c6 A6' n6' c6' W7 b5 hw6 hne6 zR_3 zR_4 wr u2 u9 u10 u11 u12 u33 u34 u35 u36 u37 u38 u39 u40 u41 u42 u43 u44 u45 u46 u47 u48 u49 u50 u51 u52 u53 u54 u55 u56 u57 u58 u59 u60 u61 u62 u63 u64 u65 u66 u67 u68 u69 u70 u71 u72 u73 u74 u75 u76 u77 u78 u79 u80 u81 u82 u83 u84 u85 u86 u87 u88 u89 u90 u91 u92 u93 u94 u95 u96 u97 u98 u99 u100 u101 u102 u103 u104 u105 u106 u107 u108 u109 u110 u111 u112 u113 u114 u115 u116 u117 u118 u119 u120 u121 u122 u123 u124 u125 u126 u127 u128 u129 u130 u131 u132 u133 u134 u135 u136 u137 u138 u139 u140 u141 k d h g L l Aw nw cw hk HR Ad nd cd Ad' nd' cd' As ns cs_ hlt bT oT HLL hbT cs fz Ac nc cc HFZ mkn HTN HMK hk0 hkn zR15_5 zR15_6 zR15_7 q9 w9 HGR hfm fu HFU HFO V0 hHeld d2 HR2 V1 Ae ne ce Ae' ne' ce' W1 H4 HT1 _ _ _ _ _ _
 go_wp2_with fail
 refine wp_region_held_drew (S := KX w b3 b5 (dkV Ae ne ce Ae' ne' ce' d2) d2 (stV h g (sumT L : Nat) (L.length : Nat) As ns cs_) As ns l Aw nw l) hfm (H4.out.below (Below.refl _ _).drew) (fun hHeld => ?_)
 simp only [List.size_toArray, List.length_cons, List.length_nil, Nat.reduceAdd]
 obtain ⟨U0, hU0⟩ : ∃ V, V = W1.drew := ⟨_, rfl⟩
 rw [← hU0] at hHeld ⊢
 clear hU0 H4
 refine wpAnyH_take (i := 0) (v := .agg (dkV Ae ne ce Ae' ne' ce' d2)) rfl (by kernel_rfl) (by kernel_rfl) (by kernel_rfl) (fun _ _ _ h => h) (Or.inl ⟨by rfl, fun w0 hC => dk_load rfl rfl hC.k3⟩) hHeld ?_
 try simp only [Act.put, jA, jB, jC, jD, jE, jF]
 refine wpAnyH_take (i := 1) (v := .agg (stV h g (sumT L : Nat) (L.length : Nat) As ns cs_)) rfl (by kernel_rfl) (by kernel_rfl) (by kernel_rfl) (fun _ _ _ h => h) (Or.inl ⟨by rfl, fun w0 hC => st_load rfl rfl hC.k5⟩) hHeld ?_
 try simp only [Act.put, jA, jB, jC, jD, jE, jF]
 refine wpAnyH_take (i := 2) (v := .slice (some ⟨bT, oT, none⟩) n c) rfl (by kernel_rfl) (by kernel_rfl) (by kernel_rfl) (fun _ _ _ h => h) (Or.inl ⟨by rfl, fun w0 hC => by simp [execOp, Act.eval, Act.put, go_sem]⟩) hHeld ?_
 try simp only [Act.put, jA, jB, jC, jD, jE, jF]
 refine wpAnyH_take (i := 3) (v := .int .i64 (k : Int)) rfl (by kernel_rfl) (by kernel_rfl) (by kernel_rfl) (fun _ _ _ h => h) (Or.inl ⟨by rfl, fun w0 hC => by simp [execOp, Act.eval, Act.put, go_sem]⟩) hHeld ?_
 try simp only [Act.put, jA, jB, jC, jD, jE, jF]
 refine wpAnyH_take (i := 4) (v := .pointer (some ⟨bT, oT + k * 3, none⟩)) rfl (by kernel_rfl) (by kernel_rfl) (by kernel_rfl) (fun _ _ _ h => h) (Or.inl ⟨by rfl, fun w0 hC => by simp [execOp, Act.eval, Act.put, go_sem, hk0, hkn, hlt]⟩) hHeld ?_
 try simp only [Act.put, jA, jB, jC, jD, jE, jF]
 refine wpAnyH_take (i := 5) (v := .pointer (some ⟨bT, oT + k * 3, none⟩)) rfl (by kernel_rfl) (by kernel_rfl) (by kernel_rfl) (fun _ _ _ h => h) (Or.inl ⟨by rfl, fun w0 hC => by simp [execOp, Act.eval, Act.put, go_sem]⟩) hHeld ?_
 try simp only [Act.put, jA, jB, jC, jD, jE, jF]
 refine wpAnyH_take (i := 6) (v := .slice Ac nc cc) rfl (by kernel_rfl) (by kernel_rfl) (by kernel_rfl) (fun _ _ _ h => h) (Or.inl ⟨by rfl, fun w0 hC => by simp [execOp, Act.eval, Act.put, go_sem, HTN.out.c0 hC.kb]⟩) hHeld ?_
 try simp only [Act.put, jA, jB, jC, jD, jE, jF]
 refine wpAnyH_ready (rs := [7, 12, 13]) (by kernel_rfl) (by simp) (AllReadyH.cons rfl (fun K hK => ?_) (AllReadyH.cons rfl (fun K hK => ?_) (AllReadyH.cons rfl (fun K hK => ?_) AllReadyH.nil)))
 ·rw [if_pos (by rfl)]
  go_wp2_with fail
  refine (com_out _ d2 h g L As ns cs_ l Ac nc cc cs U0 hHeld.kd HR2.out.1 HR2.out.2 (by have := HR.out.gen; omega) (HT.out.below hHeld.kb HT.out.pos) hHeld.ks HR.out.play (HTN.out.cs hHeld.kb) HTN.out.2.2.2.1 HTN.out.2.2.1).mono ?_
  rintro e U1 ⟨x, er, h2, g2, u2, k2, At, nt, ct, mm, CF, hpt, v8, rfl, hd8, hb8⟩
  obtain ⟨Ax, nx, cx, Ax', nx', cx', rfl, hxx⟩ := hd8
  have DX := Lib.hid (show DkAt U1 U1.heap.size (.agg (dkV Ax nx cx Ax' nx' cx' x)) x from ⟨Ax, nx, cx, Ax', nx', cx', rfl, hxx⟩)
  have PT := Lib.hid hpt
  have hSa := hHeld.below hb8
  clear hHeld hxx hpt hb8
  refine hK.out _ _ hSa (fun hHeld => ?_)
  clear hK K
  try simp only [Act.put, jA, jB, jC, jD, jE, jF]
  clear hSa
  refine wpAnyH_take (i := 8) (v := .tuple #[.agg (dkV Ax nx cx Ax' nx' cx' x), .agg (stV h2 g2 u2 k2 At nt ct), .int .i64 er]) rfl (by kernel_rfl) (by kernel_rfl) (by kernel_rfl) (fun _ _ _ h => h) (Or.inl ⟨by rfl, fun w0 hC => by simp [execOp, Act.eval, Act.put, go_sem, dkV, stV]⟩) hHeld ?_
  try simp only [Act.put, jA, jB, jC, jD, jE, jF]
  refine wpAnyH_take (i := 9) (v := .agg (dkV Ax nx cx Ax' nx' cx' x)) rfl (by kernel_rfl) (by kernel_rfl) (by kernel_rfl) (fun _ _ _ h => h) (Or.inl ⟨by rfl, fun w0 hC => by simp [execOp, Act.eval, Act.put, go_sem, dkV, stV]⟩) hHeld ?_
  try simp only [Act.put, jA, jB, jC, jD, jE, jF]
  refine wpAnyH_take (i := 10) (v := .agg (stV h2 g2 u2 k2 At nt ct)) rfl (by kernel_rfl) (by kernel_rfl) (by kernel_rfl) (fun _ _ _ h => h) (Or.inl ⟨by rfl, fun w0 hC => by simp [execOp, Act.eval, Act.put, go_sem, dkV, stV]⟩) hHeld ?_
  try simp only [Act.put, jA, jB, jC, jD, jE, jF]
  refine wpAnyH_take (i := 11) (v := .int .i64 er) rfl (by kernel_rfl) (by kernel_rfl) (by kernel_rfl) (fun _ _ _ h => h) (Or.inl ⟨by rfl, fun w0 hC => by simp [execOp, Act.eval, Act.put, go_sem]⟩) hHeld ?_
  try simp only [Act.put, jA, jB, jC, jD, jE, jF]
  refine wpAnyH_ready (rs := [12, 13]) (by kernel_rfl) (by simp) (AllReadyH.cons rfl (fun K hK => ?_) (AllReadyH.cons rfl (fun K hK => ?_) AllReadyH.nil))
  ·rw [if_pos (by rfl)]
   go_wp2_with fail
   have hba : Below U1.heap.size U1 (U1.alloc (.cells #[.slice none 0 0, .slice none 0 0, .int .i64 0, .bool false] 27)) := (Below.refl _ _).alloc (Nat.le_refl _) _
   have K9 : Hid (Bk (U1.alloc (.cells #[.slice none 0 0, .slice none 0 0, .int .i64 0, .bool false] 27)) U1.heap.size 27 #[.slice none 0 0, .slice none 0 0, .int .i64 0, .bool false]) := Lib.hid (Bk.new _ _ _)
   have Nb9 : Hid (b3 < U1.heap.size ∧ b5 < U1.heap.size ∧ w.heap.size ≤ U1.heap.size) := Lib.hid ⟨hHeld.k3.lt, hHeld.k5.lt, hHeld.kb.size⟩
   have DX := Lib.hid (DX.out.later hba)
   have PT := Lib.hid (PT.out.later hba)
   have hSa := hHeld.below hba
   obtain ⟨b9, hb_⟩ : ∃ b, U1.heap.size = b := ⟨_, rfl⟩
   rw [hb_] at K9 Nb9 ⊢
   obtain ⟨U2, hV_⟩ : ∃ V, V = U1.alloc (.cells #[.slice none 0 0, .slice none 0 0, .int .i64 0, .bool false] 27) := ⟨_, rfl⟩
   rw [← hV_] at hSa K9 DX PT ⊢
   clear hb_ hV_ hba hHeld
   refine hK.out _ _ hSa (fun hHeld => ?_)
   clear hK K
   try simp only [Act.put, jA, jB, jC, jD, jE, jF]
   clear hSa
   refine wpAnyH_ready (rs := [13]) (by kernel_rfl) (by simp) (AllReadyH.cons rfl (fun K hK => ?_) AllReadyH.nil)
   rw [if_pos (by rfl)]
   go_wp2_with fail
   have hba : Below U2.heap.size U2 (U2.alloc (.cells #[.int .i64 0, .int .i64 0, .int .i64 0, .int .i64 0, .slice none 0 0] 35)) := (Below.refl _ _).alloc (Nat.le_refl _) _
   have K10 : Hid (Bk (U2.alloc (.cells #[.int .i64 0, .int .i64 0, .int .i64 0, .int .i64 0, .slice none 0 0] 35)) U2.heap.size 35 #[.int .i64 0, .int .i64 0, .int .i64 0, .int .i64 0, .slice none 0 0]) := Lib.hid (Bk.new _ _ _)
   have Nb10 : Hid (b3 < U2.heap.size ∧ b5 < U2.heap.size ∧ w.heap.size ≤ U2.heap.size) := Lib.hid ⟨hHeld.k3.lt, hHeld.k5.lt, hHeld.kb.size⟩
   have NN : Hid (b9 < U2.heap.size) := Lib.hid K9.out.lt
   have K9 := Lib.hid (K9.out.below hba K9.out.lt)
   have DX := Lib.hid (DX.out.later hba)
   have PT := Lib.hid (PT.out.later hba)
   have hSa := hHeld.below hba
   obtain ⟨b10, hb_⟩ : ∃ b, U2.heap.size = b := ⟨_, rfl⟩
   rw [hb_] at K10 Nb10 NN ⊢
   obtain ⟨U3, hV_⟩ : ∃ V, V = U2.alloc (.cells #[.int .i64 0, .int .i64 0, .int .i64 0, .int .i64 0, .slice none 0 0] 35) := ⟨_, rfl⟩
   rw [← hV_] at hSa K10 K9 DX PT ⊢
   clear hb_ hV_ hba hHeld
   refine hK.out _ _ hSa (fun hHeld => ?_)
   clear hK K
   try simp only [Act.put, jA, jB, jC, jD, jE, jF]
   clear hSa
   have NE : Hid (b9 ≠ b10 ∧ b3 ≠ b9 ∧ b5 ≠ b9 ∧ b3 ≠ b10 ∧ b5 ≠ b10 ∧ w.heap.size ≤ b9 ∧ w.heap.size ≤ b10) := Lib.hid (by have h1 := Nb9.out; have h2 := Nb10.out; have h3 := NN.out; omega)
   clear Nb9 Nb10 NN
   refine wpAnyH_ready (rs := [14]) (by kernel_rfl) (by simp) (AllReadyH.cons rfl (fun K hK => ?_) AllReadyH.nil)
   rw [if_pos (by rfl)]
   refine wp_store_box 27 (.tmp 9) (.tmp 66) rfl b9 (dkV Ax nx cx Ax' nx' cx' x) rfl rfl K9.out rfl (by kernel_rfl) (Plain.dk _ _ _ _ _ _ _).one ?_
   have hp9 : Plain #[.slice none 0 0, .slice none 0 0, .int .i64 0, .bool false] := Plain.dk none 0 0 none 0 0 ⟨[], [], 0, false⟩
   have hSa := hHeld.other K9.out hp9 NE.out.2.2.2.2.2.1 NE.out.2.1 NE.out.2.2.1 (dkV Ax nx cx Ax' nx' cx' x)
   have DX := Lib.hid (dk_turn DX.out K9.out hp9 (dkV Ax nx cx Ax' nx' cx' x))
   have PT := Lib.hid (PT.out.turn K9.out hp9 (dkV Ax nx cx Ax' nx' cx' x))
   have K10 := Lib.hid (K10.out.setRow_other (Ne.symm NE.out.1) (dkV Ax nx cx Ax' nx' cx' x))
   have K9 := Lib.hid (K9.out.setRow_same (dkV Ax nx cx Ax' nx' cx' x))
   obtain ⟨Y1, hY1⟩ : ∃ V, V = U3.setRow b9 (dkV Ax nx cx Ax' nx' cx' x) := ⟨_, rfl⟩
   rw [← hY1] at hSa DX PT K10 K9 ⊢
   clear hY1 hHeld hp9
   refine hK.out _ _ hSa (fun hHeld => ?_)
   clear hK K
   try simp only [Act.put, jA, jB, jC, jD, jE, jF]
   clear hSa
   refine wpAnyH_ready (rs := [15]) (by kernel_rfl) (by simp) (AllReadyH.cons rfl (fun K hK => ?_) AllReadyH.nil)
   rw [if_pos (by rfl)]
   refine wp_store_box 35 (.tmp 10) (.tmp 67) rfl b10 (stV h2 g2 u2 k2 At nt ct) rfl rfl K10.out rfl (by kernel_rfl) (Plain.st _ _ _ _ _ _ _).one ?_
   have hp9 : Plain #[.int .i64 0, .int .i64 0, .int .i64 0, .int .i64 0, .slice none 0 0] := Plain.st 0 0 0 0 none 0 0
   have hSa := hHeld.other K10.out hp9 NE.out.2.2.2.2.2.2 NE.out.2.2.2.1 NE.out.2.2.2.2.1 (stV h2 g2 u2 k2 At nt ct)
   have DX := Lib.hid (dk_turn DX.out K10.out hp9 (stV h2 g2 u2 k2 At nt ct))
   have PT := Lib.hid (PT.out.turn K10.out hp9 (stV h2 g2 u2 k2 At nt ct))
   have K9 := Lib.hid (K9.out.setRow_other NE.out.1 (stV h2 g2 u2 k2 At nt ct))
   have K10 := Lib.hid (K10.out.setRow_same (stV h2 g2 u2 k2 At nt ct))
   obtain ⟨Y2, hY2⟩ : ∃ V, V = Y1.setRow b10 (stV h2 g2 u2 k2 At nt ct) := ⟨_, rfl⟩
   rw [← hY2] at hSa DX PT K10 K9 ⊢
   clear hY2 hHeld hp9
   refine hK.out _ _ hSa (fun hHeld => ?_)
   clear hK K
   try simp only [Act.put, jA, jB, jC, jD, jE, jF]
   clear hSa
   have HX := Lib.hid hHeld
   refine wpAnyH_ready (rs := [16]) (by kernel_rfl) (by simp) (AllReadyH.cons rfl (fun K hK => ?_) AllReadyH.nil)
   rw [if_pos (by rfl)]
   go_wp2_with fail
   refine hK.out _ _ hHeld (fun hHeld => ?_)
   clear hK K
   try simp only [Act.put, jA, jB, jC, jD, jE, jF]
   refine wpAnyH_done (by kernel_rfl) ?_ _
   go_wp2_with fail
   go_meet
   exact ⟨b9, b10, x, er, h2, g2, u2, k2, Ax, Ax', At, nx, cx, nx', cx', nt, ct, mm, rfl, rfl, rfl, CF, ⟨HX.out, K9.out, DX.out, K10.out, PT.out, NE.out⟩⟩
  ·rw [if_pos (by rfl)]
   go_wp2_with fail
   have hba : Below U1.heap.size U1 (U1.alloc (.cells #[.int .i64 0, .int .i64 0, .int .i64 0, .int .i64 0, .slice none 0 0] 35)) := (Below.refl _ _).alloc (Nat.le_refl _) _
   have K10 : Hid (Bk (U1.alloc (.cells #[.int .i64 0, .int .i64 0, .int .i64 0, .int .i64 0, .slice none 0 0] 35)) U1.heap.size 35 #[.int .i64 0, .int .i64 0, .int .i64 0, .int .i64 0, .slice none 0 0]) := Lib.hid (Bk.new _ _ _)
   have Nb10 : Hid (b3 < U1.heap.size ∧ b5 < U1.heap.size ∧ w.heap.size ≤ U1.heap.size) := Lib.hid ⟨hHeld.k3.lt, hHeld.k5.lt, hHeld.kb.size⟩
   have DX := Lib.hid (DX.out.later hba)
   have PT := Lib.hid (PT.out.later hba)
   have hSa := hHeld.below hba
   obtain ⟨b10, hb_⟩ : ∃ b, U1.heap.size = b := ⟨_, rfl⟩
   rw [hb_] at K10 Nb10 ⊢
   obtain ⟨U4, hV_⟩ : ∃ V, V = U1.alloc (.cells #[.int .i64 0, .int .i64 0, .int .i64 0, .int .i64 0, .slice none 0 0] 35) := ⟨_, rfl⟩
   rw [← hV_] at hSa K10 DX PT ⊢
   clear hb_ hV_ hba hHeld
   refine hK.out _ _ hSa (fun hHeld => ?_)
   clear hK K
   try simp only [Act.put, jA, jB, jC, jD, jE, jF]
   clear hSa
   refine wpAnyH_ready (rs := [12]) (by kernel_rfl) (by simp) (AllReadyH.cons rfl (fun K hK => ?_) AllReadyH.nil)
   rw [if_pos (by rfl)]
   go_wp2_with fail
   have hba : Below U4.heap.size U4 (U4.alloc (.cells #[.slice none 0 0, .slice none 0 0, .int .i64 0, .bool false] 27)) := (Below.refl _ _).alloc (Nat.le_refl _) _
   have K9 : Hid (Bk (U4.alloc (.cells #[.slice none 0 0, .slice none 0 0, .int .i64 0, .bool false] 27)) U4.heap.size 27 #[.slice none 0 0, .slice none 0 0, .int .i64 0, .bool false]) := Lib.hid (Bk.new _ _ _)
   have Nb9 : Hid (b3 < U4.heap.size ∧ b5 < U4.heap.size ∧ w.heap.size ≤ U4.heap.size) := Lib.hid ⟨hHeld.k3.lt, hHeld.k5.lt, hHeld.kb.size⟩
   have NN : Hid (b10 < U4.heap.size) := Lib.hid K10.out.lt
   have K10 := Lib.hid (K10.out.below hba K10.out.lt)
   have DX := Lib.hid (DX.out.later hba)
   have PT := Lib.hid (PT.out.later hba)
   have hSa := hHeld.below hba
   obtain ⟨b9, hb_⟩ : ∃ b, U4.heap.size = b := ⟨_, rfl⟩
   rw [hb_] at K9 Nb9 NN ⊢
   obtain ⟨U5, hV_⟩ : ∃ V, V = U4.alloc (.cells #[.slice none 0 0, .slice none 0 0, .int .i64 0, .bool false] 27) := ⟨_, rfl⟩
   rw [← hV_] at hSa K9 K10 DX PT ⊢
   clear hb_ hV_ hba hHeld
   refine hK.out _ _ hSa (fun hHeld => ?_)
   clear hK K
   try simp only [Act.put, jA, jB, jC, jD, jE, jF]
   clear hSa
   have NE : Hid (b9 ≠ b10 ∧ b3 ≠ b9 ∧ b5 ≠ b9 ∧ b3 ≠ b10 ∧ b5 ≠ b10 ∧ w.heap.size ≤ b9 ∧ w.heap.size ≤ b10) := Lib.hid (by have h1 := Nb9.out; have h2 := Nb10.out; have h3 := NN.out; omega)
   clear Nb9 Nb10 NN
   refine wpAnyH_ready (rs := [14]) (by kernel_rfl) (by simp) (AllReadyH.cons rfl (fun K hK => ?_) AllReadyH.nil)
   rw [if_pos (by rfl)]
   refine wp_store_box 27 (.tmp 9) (.tmp 66) rfl b9 (dkV Ax nx cx Ax' nx' cx' x) rfl rfl K9.out rfl (by kernel_rfl) (Plain.dk _ _ _ _ _ _ _).one ?_
   have hp9 : Plain #[.slice none 0 0, .slice none 0 0, .int .i64 0, .bool false] := Plain.dk none 0 0 none 0 0 ⟨[], [], 0, false⟩
   have hSa := hHeld.other K9.out hp9 NE.out.2.2.2.2.2.1 NE.out.2.1 NE.out.2.2.1 (dkV Ax nx cx Ax' nx' cx' x)
   have DX := Lib.hid (dk_turn DX.out K9.out hp9 (dkV Ax nx cx Ax' nx' cx' x))
   have PT := Lib.hid (PT.out.turn K9.out hp9 (dkV Ax nx cx Ax' nx' cx' x))
   have K10 := Lib.hid (K10.out.setRow_other (Ne.symm NE.out.1) (dkV Ax nx cx Ax' nx' cx' x))
   have K9 := Lib.hid (K9.out.setRow_same (dkV Ax nx cx Ax' nx' cx' x))
   obtain ⟨Y1, hY1⟩ : ∃ V, V = U5.setRow b9 (dkV Ax nx cx Ax' nx' cx' x) := ⟨_, rfl⟩
   rw [← hY1] at hSa DX PT K10 K9 ⊢
   clear hY1 hHeld hp9
   refine hK.out _ _ hSa (fun hHeld => ?_)
   clear hK K
   try simp only [Act.put, jA, jB, jC, jD, jE, jF]
   clear hSa
   refine wpAnyH_ready (rs := [15]) (by kernel_rfl) (by simp) (AllReadyH.cons rfl (fun K hK => ?_) AllReadyH.nil)
   rw [if_pos (by rfl)]
   refine wp_store_box 35 (.tmp 10) (.tmp 67) rfl b10 (stV h2 g2 u2 k2 At nt ct) rfl rfl K10.out rfl (by kernel_rfl) (Plain.st _ _ _ _ _ _ _).one ?_
   have hp9 : Plain #[.int .i64 0, .int .i64 0, .int .i64 0, .int .i64 0, .slice none 0 0] := Plain.st 0 0 0 0 none 0 0
   have hSa := hHeld.other K10.out hp9 NE.out.2.2.2.2.2.2 NE.out.2.2.2.1 NE.out.2.2.2.2.1 (stV h2 g2 u2 k2 At nt ct)
   have DX := Lib.hid (dk_turn DX.out K10.out hp9 (stV h2 g2 u2 k2 At nt ct))
   have PT := Lib.hid (PT.out.turn K10.out hp9 (stV h2 g2 u2 k2 At nt ct))
   have K9 := Lib.hid (K9.out.setRow_other NE.out.1 (stV h2 g2 u2 k2 At nt ct))
   have K10 := Lib.hid (K10.out.setRow_same (stV h2 g2 u2 k2 At nt ct))
   obtain ⟨Y2, hY2⟩ : ∃ V, V = Y1.setRow b10 (stV h2 g2 u2 k2 At nt ct) := ⟨_, rfl⟩
   rw [← hY2] at hSa DX PT K10 K9 ⊢
   clear hY2 hHeld hp9
   refine hK.out _ _ hSa (fun hHeld => ?_)
   clear hK K
   try simp only [Act.put, jA, jB, jC, jD, jE, jF]
   clear hSa
   have HX := Lib.hid hHeld
   refine wpAnyH_ready (rs := [16]) (by kernel_rfl) (by simp) (AllReadyH.cons rfl (fun K hK => ?_) AllReadyH.nil)
   rw [if_pos (by rfl)]
   go_wp2_with fail
   refine hK.out _ _ hHeld (fun hHeld => ?_)
   clear hK K
   try simp only [Act.put, jA, jB, jC, jD, jE, jF]
   refine wpAnyH_done (by kernel_rfl) ?_ _
   go_wp2_with fail
   go_meet
   exact ⟨b9, b10, x, er, h2, g2, u2, k2, Ax, Ax', At, nx, cx, nx', cx', nt, ct, mm, rfl, rfl, rfl, CF, ⟨HX.out, K9.out, DX.out, K10.out, PT.out, NE.out⟩⟩
 ·rw [if_pos (by rfl)]
  go_wp2_with fail
  have hba : Below U0.heap.size U0 (U0.alloc (.cells #[.slice none 0 0, .slice none 0 0, .int .i64 0, .bool false] 27)) := (Below.refl _ _).alloc (Nat.le_refl _) _
  have K9 : Hid (Bk (U0.alloc (.cells #[.slice none 0 0, .slice none 0 0, .int .i64 0, .bool false] 27)) U0.heap.size 27 #[.slice none 0 0, .slice none 0 0, .int .i64 0, .bool false]) := Lib.hid (Bk.new _ _ _)
  have Nb9 : Hid (b3 < U0.heap.size ∧ b5 < U0.heap.size ∧ w.heap.size ≤ U0.heap.size) := Lib.hid ⟨hHeld.k3.lt, hHeld.k5.lt, hHeld.kb.size⟩
  have hSa := hHeld.below hba
  obtain ⟨b9, hb_⟩ : ∃ b, U0.heap.size = b := ⟨_, rfl⟩
  rw [hb_] at K9 Nb9 ⊢
  obtain ⟨U6, hV_⟩ : ∃ V, V = U0.alloc (.cells #[.slice none 0 0, .slice none 0 0, .int .i64 0, .bool false] 27) := ⟨_, rfl⟩
  rw [← hV_] at hSa K9 ⊢
  clear hb_ hV_ hba hHeld
  refine hK.out _ _ hSa (fun hHeld => ?_)
  clear hK K
  try simp only [Act.put, jA, jB, jC, jD, jE, jF]
  clear hSa
  refine wpAnyH_ready (rs := [7, 13]) (by kernel_rfl) (by simp) (AllReadyH.cons rfl (fun K hK => ?_) (AllReadyH.cons rfl (fun K hK => ?_) AllReadyH.nil))
  ·rw [if_pos (by rfl)]
   go_wp2_with fail
   refine (com_out _ d2 h g L As ns cs_ l Ac nc cc cs U6 hHeld.kd HR2.out.1 HR2.out.2 (by have := HR.out.gen; omega) (HT.out.below hHeld.kb HT.out.pos) hHeld.ks HR.out.play (HTN.out.cs hHeld.kb) HTN.out.2.2.2.1 HTN.out.2.2.1).mono ?_
   rintro e U7 ⟨x, er, h2, g2, u2, k2, At, nt, ct, mm, CF, hpt, v8, rfl, hd8, hb8⟩
   obtain ⟨Ax, nx, cx, Ax', nx', cx', rfl, hxx⟩ := hd8
   have DX := Lib.hid (show DkAt U7 U7.heap.size (.agg (dkV Ax nx cx Ax' nx' cx' x)) x from ⟨Ax, nx, cx, Ax', nx', cx', rfl, hxx⟩)
   have PT := Lib.hid hpt
   have K9 := Lib.hid (K9.out.below hb8 K9.out.lt)
   have hSa := hHeld.below hb8
   clear hHeld hxx hpt hb8
   refine hK.out _ _ hSa (fun hHeld => ?_)
   clear hK K
   try simp only [Act.put, jA, jB, jC, jD, jE, jF]
   clear hSa
   refine wpAnyH_take (i := 8) (v := .tuple #[.agg (dkV Ax nx cx Ax' nx' cx' x), .agg (stV h2 g2 u2 k2 At nt ct), .int .i64 er]) rfl (by kernel_rfl) (by kernel_rfl) (by kernel_rfl) (fun _ _ _ h => h) (Or.inl ⟨by rfl, fun w0 hC => by simp [execOp, Act.eval, Act.put, go_sem, dkV, stV]⟩) hHeld ?_
   try simp only [Act.put, jA, jB, jC, jD, jE, jF]
   refine wpAnyH_take (i := 9) (v := .agg (dkV Ax nx cx Ax' nx' cx' x)) rfl (by kernel_rfl) (by kernel_rfl) (by kernel_rfl) (fun _ _ _ h => h) (Or.inl ⟨by rfl, fun w0 hC => by simp [execOp, Act.eval, Act.put, go_sem, dkV, stV]⟩) hHeld ?_
   try simp only [Act.put, jA, jB, jC, jD, jE, jF]
   refine wpAnyH_take (i := 10) (v := .agg (stV h2 g2 u2 k2 At nt ct)) rfl (by kernel_rfl) (by kernel_rfl) (by kernel_rfl) (fun _ _ _ h => h) (Or.inl ⟨by rfl, fun w0 hC => by simp [execOp, Act.eval, Act.put, go_sem, dkV, stV]⟩) hHeld ?_
   try simp only [Act.put, jA, jB, jC, jD, jE, jF]
   refine wpAnyH_take (i := 11) (v := .int .i64 er) rfl (by kernel_rfl) (by kernel_rfl) (by kernel_rfl) (fun _ _ _ h => h) (Or.inl ⟨by rfl, fun w0 hC => by simp [execOp, Act.eval, Act.put, go_sem]⟩) hHeld ?_
   try simp only [Act.put, jA, jB, jC, jD, jE, jF]
   refine wpAnyH_ready (rs := [13]) (by kernel_rfl) (by simp) (AllReadyH.cons rfl (fun K hK => ?_) AllReadyH.nil)
   rw [if_pos (by rfl)]
   go_wp2_with fail
   have hba : Below U7.heap.size U7 (U7.alloc (.cells #[.int .i64 0, .int .i64 0, .int .i64 0, .int .i64 0, .slice none 0 0] 35)) := (Below.refl _ _).alloc (Nat.le_refl _) _
   have K10 : Hid (Bk (U7.alloc (.cells #[.int .i64 0, .int .i64 0, .int .i64 0, .int .i64 0, .slice none 0 0] 35)) U7.heap.size 35 #[.int .i64 0, .int .i64 0, .int .i64 0, .int .i64 0, .slice none 0 0]) := Lib.hid (Bk.new _ _ _)
   have Nb10 : Hid (b3 < U7.heap.size ∧ b5 < U7.heap.size ∧ w.heap.size ≤ U7.heap.size) := Lib.hid ⟨hHeld.k3.lt, hHeld.k5.lt, hHeld.kb.size⟩
   have NN : Hid (b9 < U7.heap.size) := Lib.hid K9.out.lt
   have K9 := Lib.hid (K9.out.below hba K9.out.lt)
   have DX := Lib.hid (DX.out.later hba)
   have PT := Lib.hid (PT.out.later hba)
   have hSa := hHeld.below hba
   obtain ⟨b10, hb_⟩ : ∃ b, U7.heap.size = b := ⟨_, rfl⟩
   rw [hb_] at K10 Nb10 NN ⊢
   obtain ⟨U8, hV_⟩ : ∃ V, V = U7.alloc (.cells #[.int .i64 0, .int .i64 0, .int .i64 0, .int .i64 0, .slice none 0 0] 35) := ⟨_, rfl⟩
   rw [← hV_] at hSa K10 K9 DX PT ⊢
   clear hb_ hV_ hba hHeld
   refine hK.out _ _ hSa (fun hHeld => ?_)
   clear hK K
   try simp only [Act.put, jA, jB, jC, jD, jE, jF]
   clear hSa
   have NE : Hid (b9 ≠ b10 ∧ b3 ≠ b9 ∧ b5 ≠ b9 ∧ b3 ≠ b10 ∧ b5 ≠ b10 ∧ w.heap.size ≤ b9 ∧ w.heap.size ≤ b10) := Lib.hid (by have h1 := Nb9.out; have h2 := Nb10.out; have h3 := NN.out; omega)
   clear Nb9 Nb10 NN
   refine wpAnyH_ready (rs := [14]) (by kernel_rfl) (by simp) (AllReadyH.cons rfl (fun K hK => ?_) AllReadyH.nil)
   rw [if_pos (by rfl)]
   refine wp_store_box 27 (.tmp 9) (.tmp 66) rfl b9 (dkV Ax nx cx Ax' nx' cx' x) rfl rfl K9.out rfl (by kernel_rfl) (Plain.dk _ _ _ _ _ _ _).one ?_
   have hp9 : Plain #[.slice none 0 0, .slice none 0 0, .int .i64 0, .bool false] := Plain.dk none 0 0 none 0 0 ⟨[], [], 0, false⟩
   have hSa := hHeld.other K9.out hp9 NE.out.2.2.2.2.2.1 NE.out.2.1 NE.out.2.2.1 (dkV Ax nx cx Ax' nx' cx' x)
   have DX := Lib.hid (dk_turn DX.out K9.out hp9 (dkV Ax nx cx Ax' nx' cx' x))
   have PT := Lib.hid (PT.out.turn K9.out hp9 (dkV Ax nx cx Ax' nx' cx' x))
   have K10 := Lib.hid (K10.out.setRow_other (Ne.symm NE.out.1) (dkV Ax nx cx Ax' nx' cx' x))
   have K9 := Lib.hid (K9.out.setRow_same (dkV Ax nx cx Ax' nx' cx' x))
   obtain ⟨Y1, hY1⟩ : ∃ V, V = U8.setRow b9 (dkV Ax nx cx Ax' nx' cx' x) := ⟨_, rfl⟩
   rw [← hY1] at hSa DX PT K10 K9 ⊢
   clear hY1 hHeld hp9
   refine hK.out _ _ hSa (fun hHeld => ?_)
   clear hK K
   try simp only [Act.put, jA, jB, jC, jD, jE, jF]
   clear hSa
   refine wpAnyH_ready (rs := [15]) (by kernel_rfl) (by simp) (AllReadyH.cons rfl (fun K hK => ?_) AllReadyH.nil)
   rw [if_pos (by rfl)]
   refine wp_store_box 35 (.tmp 10) (.tmp 67) rfl b10 (stV h2 g2 u2 k2 At nt ct) rfl rfl K10.out rfl (by kernel_rfl) (Plain.st _ _ _ _ _ _ _).one ?_
   have hp9 : Plain #[.int .i64 0, .int .i64 0, .int .i64 0, .int .i64 0, .slice none 0 0] := Plain.st 0 0 0 0 none 0 0
   have hSa := hHeld.other K10.out hp9 NE.out.2.2.2.2.2.2 NE.out.2.2.2.1 NE.out.2.2.2.2.1 (stV h2 g2 u2 k2 At nt ct)
   have DX := Lib.hid (dk_turn DX.out K10.out hp9 (stV h2 g2 u2 k2 At nt ct))
   have PT := Lib.hid (PT.out.turn K10.out hp9 (stV h2 g2 u2 k2 At nt ct))
   have K9 := Lib.hid (K9.out.setRow_other NE.out.1 (stV h2 g2 u2 k2 At nt ct))
   have K10 := Lib.hid (K10.out.setRow_same (stV h2 g2 u2 k2 At nt ct))
   obtain ⟨Y2, hY2⟩ : ∃ V, V = Y1.setRow b10 (stV h2 g2 u2 k2 At nt ct) := ⟨_, rfl⟩
   rw [← hY2] at hSa DX PT K10 K9 ⊢
   clear hY2 hHeld hp9
   refine hK.out _ _ hSa (fun hHeld => ?_)
   clear hK K
   try simp only [Act.put, jA, jB, jC, jD, jE, jF]
   clear hSa
   have HX := Lib.hid hHeld
   refine wpAnyH_ready (rs := [16]) (by kernel_rfl) (by simp) (AllReadyH.cons rfl (fun K hK => ?_) AllReadyH.nil)
   rw [if_pos (by rfl)]
   go_wp2_with fail
   refine hK.out _ _ hHeld (fun hHeld => ?_)
   clear hK K
   try simp only [Act.put, jA, jB, jC, jD, jE, jF]
   refine wpAnyH_done (by kernel_rfl) ?_ _
   go_wp2_with fail
   go_meet
   exact ⟨b9, b10, x, er, h2, g2, u2, k2, Ax, Ax', At, nx, cx, nx', cx', nt, ct, mm, rfl, rfl, rfl, CF, ⟨HX.out, K9.out, DX.out, K10.out, PT.out, NE.out⟩⟩
  ·rw [if_pos (by rfl)]
   go_wp2_with fail
   have hba : Below U6.heap.size U6 (U6.alloc (.cells #[.int .i64 0, .int .i64 0, .int .i64 0, .int .i64 0, .slice none 0 0] 35)) := (Below.refl _ _).alloc (Nat.le_refl _) _
   have K10 : Hid (Bk (U6.alloc (.cells #[.int .i64 0, .int .i64 0, .int .i64 0, .int .i64 0, .slice none 0 0] 35)) U6.heap.size 35 #[.int .i64 0, .int .i64 0, .int .i64 0, .int .i64 0, .slice none 0 0]) := Lib.hid (Bk.new _ _ _)
   have Nb10 : Hid (b3 < U6.heap.size ∧ b5 < U6.heap.size ∧ w.heap.size ≤ U6.heap.size) := Lib.hid ⟨hHeld.k3.lt, hHeld.k5.lt, hHeld.kb.size⟩
   have NN : Hid (b9 < U6.heap.size) := Lib.hid K9.out.lt
   have K9 := Lib.hid (K9.out.below hba K9.out.lt)
   have hSa := hHeld.below hba
   obtain ⟨b10, hb_⟩ : ∃ b, U6.heap.size = b := ⟨_, rfl⟩
   rw [hb_] at K10 Nb10 NN ⊢
   obtain ⟨U9, hV_⟩ : ∃ V, V = U6.alloc (.cells #[.int .i64 0, .int .i64 0, .int .i64 0, .int .i64 0, .slice none 0 0] 35) := ⟨_, rfl⟩
   rw [← hV_] at hSa K10 K9 ⊢
   clear hb_ hV_ hba hHeld
   refine hK.out _ _ hSa (fun hHeld => ?_)
   clear hK K
   try simp only [Act.put, jA, jB, jC, jD, jE, jF]
   clear hSa
   refine wpAnyH_ready (rs := [7]) (by kernel_rfl) (by simp) (AllReadyH.cons rfl (fun K hK => ?_) AllReadyH.nil)
   rw [if_pos (by rfl)]
   go_wp2_with fail
   refine (com_out _ d2 h g L As ns cs_ l Ac nc cc cs U9 hHeld.kd HR2.out.1 HR2.out.2 (by have := HR.out.gen; omega) (HT.out.below hHeld.kb HT.out.pos) hHeld.ks HR.out.play (HTN.out.cs hHeld.kb) HTN.out.2.2.2.1 HTN.out.2.2.1).mono ?_
   rintro e U10 ⟨x, er, h2, g2, u2, k2, At, nt, ct, mm, CF, hpt, v8, rfl, hd8, hb8⟩
   obtain ⟨Ax, nx, cx, Ax', nx', cx', rfl, hxx⟩ := hd8
   have DX := Lib.hid (show DkAt U10 U10.heap.size (.agg (dkV Ax nx cx Ax' nx' cx' x)) x from ⟨Ax, nx, cx, Ax', nx', cx', rfl, hxx⟩)
   have PT := Lib.hid hpt
   have K9 := Lib.hid (K9.out.below hb8 K9.out.lt)
   have K10 := Lib.hid (K10.out.below hb8 K10.out.lt)
   have hSa := hHeld.below hb8
   clear hHeld hxx hpt hb8
   refine hK.out _ _ hSa (fun hHeld => ?_)
   clear hK K
   try simp only [Act.put, jA, jB, jC, jD, jE, jF]
   clear hSa
   refine wpAnyH_take (i := 8) (v := .tuple #[.agg (dkV Ax nx cx Ax' nx' cx' x), .agg (stV h2 g2 u2 k2 At nt ct), .int .i64 er]) rfl (by kernel_rfl) (by kernel_rfl) (by kernel_rfl) (fun _ _ _ h => h) (Or.inl ⟨by rfl, fun w0 hC => by simp [execOp, Act.eval, Act.put, go_sem, dkV, stV]⟩) hHeld ?_
   try simp only [Act.put, jA, jB, jC, jD, jE, jF]
   refine wpAnyH_take (i := 9) (v := .agg (dkV Ax nx cx Ax' nx' cx' x)) rfl (by kernel_rfl) (by kernel_rfl) (by kernel_rfl) (fun _ _ _ h => h) (Or.inl ⟨by rfl, fun w0 hC => by simp [execOp, Act.eval, Act.put, go_sem, dkV, stV]⟩) hHeld ?_
   try simp only [Act.put, jA, jB, jC, jD, jE, jF]
   refine wpAnyH_take (i := 10) (v := .agg (stV h2 g2 u2 k2 At nt ct)) rfl (by kernel_rfl) (by kernel_rfl) (by kernel_rfl) (fun _ _ _ h => h) (Or.inl ⟨by rfl, fun w0 hC => by simp [execOp, Act.eval, Act.put, go_sem, dkV, stV]⟩) hHeld ?_
   try simp only [Act.put, jA, jB, jC, jD, jE, jF]
   refine wpAnyH_take (i := 11) (v := .int .i64 er) rfl (by kernel_rfl) (by kernel_rfl) (by kernel_rfl) (fun _ _ _ h => h) (Or.inl ⟨by rfl, fun w0 hC => by simp [execOp, Act.eval, Act.put, go_sem]⟩) hHeld ?_
   try simp only [Act.put, jA, jB, jC, jD, jE, jF]
   have NE : Hid (b9 ≠ b10 ∧ b3 ≠ b9 ∧ b5 ≠ b9 ∧ b3 ≠ b10 ∧ b5 ≠ b10 ∧ w.heap.size ≤ b9 ∧ w.heap.size ≤ b10) := Lib.hid (by have h1 := Nb9.out; have h2 := Nb10.out; have h3 := NN.out; omega)
   clear Nb9 Nb10 NN
   refine wpAnyH_ready (rs := [14]) (by kernel_rfl) (by simp) (AllReadyH.cons rfl (fun K hK => ?_) AllReadyH.nil)
   rw [if_pos (by rfl)]
   refine wp_store_box 27 (.tmp 9) (.tmp 66) rfl b9 (dkV Ax nx cx Ax' nx' cx' x) rfl rfl K9.out rfl (by kernel_rfl) (Plain.dk _ _ _ _ _ _ _).one ?_
   have hp9 : Plain #[.slice none 0 0, .slice none 0 0, .int .i64 0, .bool false] := Plain.dk none 0 0 none 0 0 ⟨[], [], 0, false⟩
   have hSa := hHeld.other K9.out hp9 NE.out.2.2.2.2.2.1 NE.out.2.1 NE.out.2.2.1 (dkV Ax nx cx Ax' nx' cx' x)
   have DX := Lib.hid (dk_turn DX.out K9.out hp9 (dkV Ax nx cx Ax' nx' cx' x))
   have PT := Lib.hid (PT.out.turn K9.out hp9 (dkV Ax nx cx Ax' nx' cx' x))
   have K10 := Lib.hid (K10.out.setRow_other (Ne.symm NE.out.1) (dkV Ax nx cx Ax' nx' cx' x))
   have K9 := Lib.hid (K9.out.setRow_same (dkV Ax nx cx Ax' nx' cx' x))
   obtain ⟨Y1, hY1⟩ : ∃ V, V = U10.setRow b9 (dkV Ax nx cx Ax' nx' cx' x) := ⟨_, rfl⟩
   rw [← hY1] at hSa DX PT K10 K9 ⊢
   clear hY1 hHeld hp9
   refine hK.out _ _ hSa (fun hHeld => ?_)
   clear hK K
   try simp only [Act.put, jA, jB, jC, jD, jE, jF]
   clear hSa
   refine wpAnyH_ready (rs := [15]) (by kernel_rfl) (by simp) (AllReadyH.cons rfl (fun K hK => ?_) AllReadyH.nil)
   rw [if_pos (by rfl)]
   refine wp_store_box 35 (.tmp 10) (.tmp 67) rfl b10 (stV h2 g2 u2 k2 At nt ct) rfl rfl K10.out rfl (by kernel_rfl) (Plain.st _ _ _ _ _ _ _).one ?_
   have hp9 : Plain #[.int .i64 0, .int .i64 0, .int .i64 0, .int .i64 0, .slice none 0 0] := Plain.st 0 0 0 0 none 0 0
   have hSa := hHeld.other K10.out hp9 NE.out.2.2.2.2.2.2 NE.out.2.2.2.1 NE.out.2.2.2.2.1 (stV h2 g2 u2 k2 At nt ct)
   have DX := Lib.hid (dk_turn DX.out K10.out hp9 (stV h2 g2 u2 k2 At nt ct))
   have PT := Lib.hid (PT.out.turn K10.out hp9 (stV h2 g2 u2 k2 At nt ct))
   have K9 := Lib.hid (K9.out.setRow_other NE.out.1 (stV h2 g2 u2 k2 At nt ct))
   have K10 := Lib.hid (K10.out.setRow_same (stV h2 g2 u2 k2 At nt ct))
   obtain ⟨Y2, hY2⟩ : ∃ V, V = Y1.setRow b10 (stV h2 g2 u2 k2 At nt ct) := ⟨_, rfl⟩
   rw [← hY2] at hSa DX PT K10 K9 ⊢
   clear hY2 hHeld hp9
   refine hK.out _ _ hSa (fun hHeld => ?_)
   clear hK K
   try simp only [Act.put, jA, jB, jC, jD, jE, jF]
   clear hSa
   have HX := Lib.hid hHeld
   refine wpAnyH_ready (rs := [16]) (by kernel_rfl) (by simp) (AllReadyH.cons rfl (fun K hK => ?_) AllReadyH.nil)
   rw [if_pos (by rfl)]
   go_wp2_with fail
   refine hK.out _ _ hHeld (fun hHeld => ?_)
   clear hK K
   try simp only [Act.put, jA, jB, jC, jD, jE, jF]
   refine wpAnyH_done (by kernel_rfl) ?_ _
   go_wp2_with fail
   go_meet
   exact ⟨b9, b10, x, er, h2, g2, u2, k2, Ax, Ax', At, nx, cx, nx', cx', nt, ct, mm, rfl, rfl, rfl, CF, ⟨HX.out, K9.out, DX.out, K10.out, PT.out, NE.out⟩⟩
 ·rw [if_pos (by rfl)]
  go_wp2_with fail
  have hba : Below U0.heap.size U0 (U0.alloc (.cells #[.int .i64 0, .int .i64 0, .int .i64 0, .int .i64 0, .slice none 0 0] 35)) := (Below.refl _ _).alloc (Nat.le_refl _) _
  have K10 : Hid (Bk (U0.alloc (.cells #[.int .i64 0, .int .i64 0, .int .i64 0, .int .i64 0, .slice none 0 0] 35)) U0.heap.size 35 #[.int .i64 0, .int .i64 0, .int .i64 0, .int .i64 0, .slice none 0 0]) := Lib.hid (Bk.new _ _ _)
  have Nb10 : Hid (b3 < U0.heap.size ∧ b5 < U0.heap.size ∧ w.heap.size ≤ U0.heap.size) := Lib.hid ⟨hHeld.k3.lt, hHeld.k5.lt, hHeld.kb.size⟩
  have hSa := hHeld.below hba
  obtain ⟨b10, hb_⟩ : ∃ b, U0.heap.size = b := ⟨_, rfl⟩
  rw [hb_] at K10 Nb10 ⊢
  obtain ⟨U11, hV_⟩ : ∃ V, V = U0.alloc (.cells #[.int .i64 0, .int .i64 0, .int .i64 0, .int .i64 0, .slice none 0 0] 35) := ⟨_, rfl⟩
  rw [← hV_] at hSa K10 ⊢
  clear hb_ hV_ hba hHeld
  refine hK.out _ _ hSa (fun hHeld => ?_)
  clear hK K
  try simp only [Act.put, jA, jB, jC, jD, jE, jF]
  clear hSa
  refine wpAnyH_ready (rs := [7, 12]) (by kernel_rfl) (by simp) (AllReadyH.cons rfl (fun K hK => ?_) (AllReadyH.cons rfl (fun K hK => ?_) AllReadyH.nil))
  ·rw [if_pos (by rfl)]
   go_wp2_with fail
   refine (com_out _ d2 h g L As ns cs_ l Ac nc cc cs U11 hHeld.kd HR2.out.1 HR2.out.2 (by have := HR.out.gen; omega) (HT.out.below hHeld.kb HT.out.pos) hHeld.ks HR.out.play (HTN.out.cs hHeld.kb) HTN.out.2.2.2.1 HTN.out.2.2.1).mono ?_
   rintro e U12 ⟨x, er, h2, g2, u2, k2, At, nt, ct, mm, CF, hpt, v8, rfl, hd8, hb8⟩
   obtain ⟨Ax, nx, cx, Ax', nx', cx', rfl, hxx⟩ := hd8
   have DX := Lib.hid (show DkAt U12 U12.heap.size (.agg (dkV Ax nx cx Ax' nx' cx' x)) x from ⟨Ax, nx, cx, Ax', nx', cx', rfl, hxx⟩)
   have PT := Lib.hid hpt
   have K10 := Lib.hid (K10.out.below hb8 K10.out.lt)
   have hSa := hHeld.below hb8
   clear hHeld hxx hpt hb8
   refine hK.out _ _ hSa (fun hHeld => ?_)
   clear hK K
   try simp only [Act.put, jA, jB, jC, jD, jE, jF]
   clear hSa
   refine wpAnyH_take (i := 8) (v := .tuple #[.agg (dkV Ax nx cx Ax' nx' cx' x), .agg (stV h2 g2 u2 k2 At nt ct), .int .i64 er]) rfl (by kernel_rfl) (by kernel_rfl) (by kernel_rfl) (fun _ _ _ h => h) (Or.inl ⟨by rfl, fun w0 hC => by simp [execOp, Act.eval, Act.put, go_sem, dkV, stV]⟩) hHeld ?_
   try simp only [Act.put, jA, jB, jC, jD, jE, jF]
   refine wpAnyH_take (i := 9) (v := .agg (dkV Ax nx cx Ax' nx' cx' x)) rfl (by kernel_rfl) (by kernel_rfl) (by kernel_rfl) (fun _ _ _ h => h) (Or.inl ⟨by rfl, fun w0 hC => by simp [execOp, Act.eval, Act.put, go_sem, dkV, stV]⟩) hHeld ?_
   try simp only [Act.put, jA, jB, jC, jD, jE, jF]
   refine wpAnyH_take (i := 10) (v := .agg (stV h2 g2 u2 k2 At nt ct)) rfl (by kernel_rfl) (by kernel_rfl) (by kernel_rfl) (fun _ _ _ h => h) (Or.inl ⟨by rfl, fun w0 hC => by simp [execOp, Act.eval, Act.put, go_sem, dkV, stV]⟩) hHeld ?_
   try simp only [Act.put, jA, jB, jC, jD, jE, jF]
   refine wpAnyH_take (i := 11) (v := .int .i64 er) rfl (by kernel_rfl) (by kernel_rfl) (by kernel_rfl) (fun _ _ _ h => h) (Or.inl ⟨by rfl, fun w0 hC => by simp [execOp, Act.eval, Act.put, go_sem]⟩) hHeld ?_
   try simp only [Act.put, jA, jB, jC, jD, jE, jF]
   refine wpAnyH_ready (rs := [12]) (by kernel_rfl) (by simp) (AllReadyH.cons rfl (fun K hK => ?_) AllReadyH.nil)
   rw [if_pos (by rfl)]
   go_wp2_with fail
   have hba : Below U12.heap.size U12 (U12.alloc (.cells #[.slice none 0 0, .slice none 0 0, .int .i64 0, .bool false] 27)) := (Below.refl _ _).alloc (Nat.le_refl _) _
   have K9 : Hid (Bk (U12.alloc (.cells #[.slice none 0 0, .slice none 0 0, .int .i64 0, .bool false] 27)) U12.heap.size 27 #[.slice none 0 0, .slice none 0 0, .int .i64 0, .bool false]) := Lib.hid (Bk.new _ _ _)
   have Nb9 : Hid (b3 < U12.heap.size ∧ b5 < U12.heap.size ∧ w.heap.size ≤ U12.heap.size) := Lib.hid ⟨hHeld.k3.lt, hHeld.k5.lt, hHeld.kb.size⟩
   have NN : Hid (b10 < U12.heap.size) := Lib.hid K10.out.lt
   have K10 := Lib.hid (K10.out.below hba K10.out.lt)
   have DX := Lib.hid (DX.out.later hba)
   have PT := Lib.hid (PT.out.later hba)
   have hSa := hHeld.below hba
   obtain ⟨b9, hb_⟩ : ∃ b, U12.heap.size = b := ⟨_, rfl⟩
   rw [hb_] at K9 Nb9 NN ⊢
   obtain ⟨U13, hV_⟩ : ∃ V, V = U12.alloc (.cells #[.slice none 0 0, .slice none 0 0, .int .i64 0, .bool false] 27) := ⟨_, rfl⟩
   rw [← hV_] at hSa K9 K10 DX PT ⊢
   clear hb_ hV_ hba hHeld
   refine hK.out _ _ hSa (fun hHeld => ?_)
   clear hK K
   try simp only [Act.put, jA, jB, jC, jD, jE, jF]
   clear hSa
   have NE : Hid (b9 ≠ b10 ∧ b3 ≠ b9 ∧ b5 ≠ b9 ∧ b3 ≠ b10 ∧ b5 ≠ b10 ∧ w.heap.size ≤ b9 ∧ w.heap.size ≤ b10) := Lib.hid (by have h1 := Nb9.out; have h2 := Nb10.out; have h3 := NN.out; omega)
   clear Nb9 Nb10 NN
   refine wpAnyH_ready (rs := [14]) (by kernel_rfl) (by simp) (AllReadyH.cons rfl (fun K hK => ?_) AllReadyH.nil)
   rw [if_pos (by rfl)]
   refine wp_store_box 27 (.tmp 9) (.tmp 66) rfl b9 (dkV Ax nx cx Ax' nx' cx' x) rfl rfl K9.out rfl (by kernel_rfl) (Plain.dk _ _ _ _ _ _ _).one ?_
   have hp9 : Plain #[.slice none 0 0, .slice none 0 0, .int .i64 0, .bool false] := Plain.dk none 0 0 none 0 0 ⟨[], [], 0, false⟩
   have hSa := hHeld.other K9.out hp9 NE.out.2.2.2.2.2.1 NE.out.2.1 NE.out.2.2.1 (dkV Ax nx cx Ax' nx' cx' x)
   have DX := Lib.hid (dk_turn DX.out K9.out hp9 (dkV Ax nx cx Ax' nx' cx' x))
   have PT := Lib.hid (PT.out.turn K9.out hp9 (dkV Ax nx cx Ax' nx' cx' x))
   have K10 := Lib.hid (K10.out.setRow_other (Ne.symm NE.out.1) (dkV Ax nx cx Ax' nx' cx' x))
   have K9 := Lib.hid (K9.out.setRow_same (dkV Ax nx cx Ax' nx' cx' x))
   obtain ⟨Y1, hY1⟩ : ∃ V, V = U13.setRow b9 (dkV Ax nx cx Ax' nx' cx' x) := ⟨_, rfl⟩
   rw [← hY1] at hSa DX PT K10 K9 ⊢
   clear hY1 hHeld hp9
   refine hK.out _ _ hSa (fun hHeld => ?_)
   clear hK K
   try simp only [Act.put, jA, jB, jC, jD, jE, jF]
   clear hSa
   refine wpAnyH_ready (rs := [15]) (by kernel_rfl) (by simp) (AllReadyH.cons rfl (fun K hK => ?_) AllReadyH.nil)
   rw [if_pos (by rfl)]
   refine wp_store_box 35 (.tmp 10) (.tmp 67) rfl b10 (stV h2 g2 u2 k2 At nt ct) rfl rfl K10.out rfl (by kernel_rfl) (Plain.st _ _ _ _ _ _ _).one ?_
   have hp9 : Plain #[.int .i64 0, .int .i64 0, .int .i64 0, .int .i64 0, .slice none 0 0] := Plain.st 0 0 0 0 none 0 0
   have hSa := hHeld.other K10.out hp9 NE.out.2.2.2.2.2.2 NE.out.2.2.2.1 NE.out.2.2.2.2.1 (stV h2 g2 u2 k2 At nt ct)
   have DX := Lib.hid (dk_turn DX.out K10.out hp9 (stV h2 g2 u2 k2 At nt ct))
   have PT := Lib.hid (PT.out.turn K10.out hp9 (stV h2 g2 u2 k2 At nt ct))
   have K9 := Lib.hid (K9.out.setRow_other NE.out.1 (stV h2 g2 u2 k2 At nt ct))
   have K10 := Lib.hid (K10.out.setRow_same (stV h2 g2 u2 k2 At nt ct))
   obtain ⟨Y2, hY2⟩ : ∃ V, V = Y1.setRow b10 (stV h2 g2 u2 k2 At nt ct) := ⟨_, rfl⟩
   rw [← hY2] at hSa DX PT K10 K9 ⊢
   clear hY2 hHeld hp9
   refine hK.out _ _ hSa (fun hHeld => ?_)
   clear hK K
   try simp only [Act.put, jA, jB, jC, jD, jE, jF]
   clear hSa
   have HX := Lib.hid hHeld
   refine wpAnyH_ready (rs := [16]) (by kernel_rfl) (by simp) (AllReadyH.cons rfl (fun K hK => ?_) AllReadyH.nil)
   rw [if_pos (by rfl)]
   go_wp2_with fail
   refine hK.out _ _ hHeld (fun hHeld => ?_)
   clear hK K
   try simp only [Act.put, jA, jB, jC, jD, jE, jF]
   refine wpAnyH_done (by kernel_rfl) ?_ _
   go_wp2_with fail
   go_meet
   exact ⟨b9, b10, x, er, h2, g2, u2, k2, Ax, Ax', At, nx, cx, nx', cx', nt, ct, mm, rfl, rfl, rfl, CF, ⟨HX.out, K9.out, DX.out, K10.out, PT.out, NE.out⟩⟩
  ·rw [if_pos (by rfl)]
   go_wp2_with fail
   have hba : Below U11.heap.size U11 (U11.alloc (.cells #[.slice none 0 0, .slice none 0 0, .int .i64 0, .bool false] 27)) := (Below.refl _ _).alloc (Nat.le_refl _) _
   have K9 : Hid (Bk (U11.alloc (.cells #[.slice none 0 0, .slice none 0 0, .int .i64 0, .bool false] 27)) U11.heap.size 27 #[.slice none 0 0, .slice none 0 0, .int .i64 0, .bool false]) := Lib.hid (Bk.new _ _ _)
   have Nb9 : Hid (b3 < U11.heap.size ∧ b5 < U11.heap.size ∧ w.heap.size ≤ U11.heap.size) := Lib.hid ⟨hHeld.k3.lt, hHeld.k5.lt, hHeld.kb.size⟩
   have NN : Hid (b10 < U11.heap.size) := Lib.hid K10.out.lt
   have K10 := Lib.hid (K10.out.below hba K10.out.lt)
   have hSa := hHeld.below hba
   obtain ⟨b9, hb_⟩ : ∃ b, U11.heap.size = b := ⟨_, rfl⟩
   rw [hb_] at K9 Nb9 NN ⊢
   obtain ⟨U14, hV_⟩ : ∃ V, V = U11.alloc (.cells #[.slice none 0 0, .slice none 0 0, .int .i64 0, .bool false] 27) := ⟨_, rfl⟩
   rw [← hV_] at hSa K9 K10 ⊢
   clear hb_ hV_ hba hHeld
   refine hK.out _ _ hSa (fun hHeld => ?_)
   clear hK K
   try simp only [Act.put, jA, jB, jC, jD, jE, jF]
   clear hSa
   refine wpAnyH_ready (rs := [7]) (by kernel_rfl) (by simp) (AllReadyH.cons rfl (fun K hK => ?_) AllReadyH.nil)
   rw [if_pos (by rfl)]
   go_wp2_with fail
   refine (com_out _ d2 h g L As ns cs_ l Ac nc cc cs U14 hHeld.kd HR2.out.1 HR2.out.2 (by have := HR.out.gen; omega) (HT.out.below hHeld.kb HT.out.pos) hHeld.ks HR.out.play (HTN.out.cs hHeld.kb) HTN.out.2.2.2.1 HTN.out.2.2.1).mono ?_
   rintro e U15 ⟨x, er, h2, g2, u2, k2, At, nt, ct, mm, CF, hpt, v8, rfl, hd8, hb8⟩
   obtain ⟨Ax, nx, cx, Ax', nx', cx', rfl, hxx⟩ := hd8
   have DX := Lib.hid (show DkAt U15 U15.heap.size (.agg (dkV Ax nx cx Ax' nx' cx' x)) x from ⟨Ax, nx, cx, Ax', nx', cx', rfl, hxx⟩)
   have PT := Lib.hid hpt
   have K9 := Lib.hid (K9.out.below hb8 K9.out.lt)
   have K10 := Lib.hid (K10.out.below hb8 K10.out.lt)
   have hSa := hHeld.below hb8
   clear hHeld hxx hpt hb8
   refine hK.out _ _ hSa (fun hHeld => ?_)
   clear hK K
   try simp only [Act.put, jA, jB, jC, jD, jE, jF]
   clear hSa
   refine wpAnyH_take (i := 8) (v := .tuple #[.agg (dkV Ax nx cx Ax' nx' cx' x), .agg (stV h2 g2 u2 k2 At nt ct), .int .i64 er]) rfl (by kernel_rfl) (by kernel_rfl) (by kernel_rfl) (fun _ _ _ h => h) (Or.inl ⟨by rfl, fun w0 hC => by simp [execOp, Act.eval, Act.put, go_sem, dkV, stV]⟩) hHeld ?_
   try simp only [Act.put, jA, jB, jC, jD, jE, jF]
   refine wpAnyH_take (i := 9) (v := .agg (dkV Ax nx cx Ax' nx' cx' x)) rfl (by kernel_rfl) (by kernel_rfl) (by kernel_rfl) (fun _ _ _ h => h) (Or.inl ⟨by rfl, fun w0 hC => by simp [execOp, Act.eval, Act.put, go_sem, dkV, stV]⟩) hHeld ?_
   try simp only [Act.put, jA, jB, jC, jD, jE, jF]
   refine wpAnyH_take (i := 10) (v := .agg (stV h2 g2 u2 k2 At nt ct)) rfl (by kernel_rfl) (by kernel_rfl) (by kernel_rfl) (fun _ _ _ h => h) (Or.inl ⟨by rfl, fun w0 hC => by simp [execOp, Act.eval, Act.put, go_sem, dkV, stV]⟩) hHeld ?_
   try simp only [Act.put, jA, jB, jC, jD, jE, jF]
   refine wpAnyH_take (i := 11) (v := .int .i64 er) rfl (by kernel_rfl) (by kernel_rfl) (by kernel_rfl) (fun _ _ _ h => h) (Or.inl ⟨by rfl, fun w0 hC => by simp [execOp, Act.eval, Act.put, go_sem]⟩) hHeld ?_
   try simp only [Act.put, jA, jB, jC, jD, jE, jF]
   have NE : Hid (b9 ≠ b10 ∧ b3 ≠ b9 ∧ b5 ≠ b9 ∧ b3 ≠ b10 ∧ b5 ≠ b10 ∧ w.heap.size ≤ b9 ∧ w.heap.size ≤ b10) := Lib.hid (by have h1 := Nb9.out; have h2 := Nb10.out; have h3 := NN.out; omega)
   clear Nb9 Nb10 NN
   refine wpAnyH_ready (rs := [14]) (by kernel_rfl) (by simp) (AllReadyH.cons rfl (fun K hK => ?_) AllReadyH.nil)
   rw [if_pos (by rfl)]
   refine wp_store_box 27 (.tmp 9) (.tmp 66) rfl b9 (dkV Ax nx cx Ax' nx' cx' x) rfl rfl K9.out rfl (by kernel_rfl) (Plain.dk _ _ _ _ _ _ _).one ?_
   have hp9 : Plain #[.slice none 0 0, .slice none 0 0, .int .i64 0, .bool false] := Plain.dk none 0 0 none 0 0 ⟨[], [], 0, false⟩
   have hSa := hHeld.other K9.out hp9 NE.out.2.2.2.2.2.1 NE.out.2.1 NE.out.2.2.1 (dkV Ax nx cx Ax' nx' cx' x)
   have DX := Lib.hid (dk_turn DX.out K9.out hp9 (dkV Ax nx cx Ax' nx' cx' x))
   have PT := Lib.hid (PT.out.turn K9.out hp9 (dkV Ax nx cx Ax' nx' cx' x))
   have K10 := Lib.hid (K10.out.setRow_other (Ne.symm NE.out.1) (dkV Ax nx cx Ax' nx' cx' x))
   have K9 := Lib.hid (K9.out.setRow_same (dkV Ax nx cx Ax' nx' cx' x))
   obtain ⟨Y1, hY1⟩ : ∃ V, V = U15.setRow b9 (dkV Ax nx cx Ax' nx' cx' x) := ⟨_, rfl⟩
   rw [← hY1] at hSa DX PT K10 K9 ⊢
   clear hY1 hHeld hp9
   refine hK.out _ _ hSa (fun hHeld => ?_)
   clear hK K
   try simp only [Act.put, jA, jB, jC, jD, jE, jF]
   clear hSa
   refine wpAnyH_ready (rs := [15]) (by kernel_rfl) (by simp) (AllReadyH.cons rfl (fun K hK => ?_) AllReadyH.nil)
   rw [if_pos (by rfl)]
   refine wp_store_box 35 (.tmp 10) (.tmp 67) rfl b10 (stV h2 g2 u2 k2 At nt ct) rfl rfl K10.out rfl (by kernel_rfl) (Plain.st _ _ _ _ _ _ _).one ?_
   have hp9 : Plain #[.int .i64 0, .int .i64 0, .int .i64 0, .int .i64 0, .slice none 0 0] := Plain.st 0 0 0 0 none 0 0
   have hSa := hHeld.other K10.out hp9 NE.out.2.2.2.2.2.2 NE.out.2.2.2.1 NE.out.2.2.2.2.1 (stV h2 g2 u2 k2 At nt ct)
   have DX := Lib.hid (dk_turn DX.out K10.out hp9 (stV h2 g2 u2 k2 At nt ct))
   have PT := Lib.hid (PT.out.turn K10.out hp9 (stV h2 g2 u2 k2 At nt ct))
   have K9 := Lib.hid (K9.out.setRow_other NE.out.1 (stV h2 g2 u2 k2 At nt ct))
   have K10 := Lib.hid (K10.out.setRow_same (stV h2 g2 u2 k2 At nt ct))
   obtain ⟨Y2, hY2⟩ : ∃ V, V = Y1.setRow b10 (stV h2 g2 u2 k2 At nt ct) := ⟨_, rfl⟩
   rw [← hY2] at hSa DX PT K10 K9 ⊢
   clear hY2 hHeld hp9
   refine hK.out _ _ hSa (fun hHeld => ?_)
   clear hK K
   try simp only [Act.put, jA, jB, jC, jD, jE, jF]
   clear hSa
   have HX := Lib.hid hHeld
   refine wpAnyH_ready (rs := [16]) (by kernel_rfl) (by simp) (AllReadyH.cons rfl (fun K hK => ?_) AllReadyH.nil)
   rw [if_pos (by rfl)]
   go_wp2_with fail
   refine hK.out _ _ hHeld (fun hHeld => ?_)
   clear hK K
   try simp only [Act.put, jA, jB, jC, jD, jE, jF]
   refine wpAnyH_done (by kernel_rfl) ?_ _
   go_wp2_with fail
   go_meet
   exact ⟨b9, b10, x, er, h2, g2, u2, k2, Ax, Ax', At, nx, cx, nx', cx', nt, ct, mm, rfl, rfl, rfl, CF, ⟨HX.out, K9.out, DX.out, K10.out, PT.out, NE.out⟩⟩
end Go.Proofs.YtcdehejgnnnimaaGreatDoor
