/-
  The law RuleTime, as a walk.
-/
import Derived.Test.YtkalnaidccgbiaaRuleM
import Derived.Deep.DeepCutAuto
namespace Go.Proofs.Ytkalnaidccgbiaa
open Go.RowKit
set_option linter.unusedVariables false
set_option linter.unusedSimpArgs false

/-- the boxes: the law, the tomb, the three numbers -/
def TimeIn (w : World) (b3 b4 b5 : Nat) (A B : Option Addr) (n c m d : Nat) (t : Tm) (x0 x1 x2 : Int) (W : World) : Prop :=
  Bk W b3 25 #[.slice A n c, .slice B m d] ∧ Bk W b4 33 (tmA t) ∧ Bk W b5 46 #[.int .i64 x0, .int .i64 x1, .int .i64 x2] ∧ Below w.heap.size w W
section
variable {w W W' : World} {b3 b4 b5 : Nat} {A B : Option Addr} {n c m d : Nat} {t : Tm} {x0 x1 x2 : Int}
theorem TimeIn.next (h : TimeIn w b3 b4 b5 A B n c m d t x0 x1 x2 W) (hb : Below W.heap.size W W') : TimeIn w b3 b4 b5 A B n c m d t x0 x1 x2 W' :=
  ⟨h.1.below hb h.1.lt, h.2.1.below hb h.2.1.lt, h.2.2.1.below hb h.2.2.1.lt, h.2.2.2.trans (hb.mono h.2.2.2.size)⟩
/-- .. behind what turns only memory from B on, where they lie below it -/
theorem TimeIn.nextB (h : TimeIn w b3 b4 b5 A B n c m d t x0 x1 x2 W) {Z : Nat} (hb : Below Z W W') (h3 : b3 < Z) (h4 : b4 < Z) (h5 : b5 < Z) (hz : w.heap.size ≤ Z) : TimeIn w b3 b4 b5 A B n c m d t x0 x1 x2 W' :=
  ⟨h.1.below hb h3, h.2.1.below hb h4, h.2.2.1.below hb h5, h.2.2.2.trans (hb.mono hz)⟩
end
def nHold (t : Tm) (br : Nat) (mx : Int) : Hh := ⟨0, t.box, some ⟨br, 0, none⟩, 1, 1, [(t.uid, mx)]⟩
def aHold (t : Tm) : Hh := ⟨0, t.box, none, 0, 0, []⟩
set_option maxRecDepth 20000 in
set_option maxHeartbeats 16000000 in
theorem ruleTime_walk (A B : Option Addr) (n c m d : Nat) (rs : List Rul) (hs : List Hh) (t : Tm) (x0 x1 x2 : Int) (w : World) (hr : ColK 2 rulC w w.heap.size A n rs) (hn : n ≤ 140737488355328) (hh : HoldsIn w w.heap.size B m hs) (hm : m ≤ 140737488355328)
    (hat : t.at_ < 9223372036854775808) (hks : ∀ r ∈ rs, r.2 < 9223372036854775808) :
    Calls Try.prog 5 #[.agg #[.slice A n c, .slice B m d], .agg (tmA t), .agg #[.int .i64 x0, .int .i64 x1, .int .i64 x2]] w fun e w' => e = .returned (.bool true) ∧ Below w.heap.size w w' := by
  have HR := Lib.hid hr
  have HH := Lib.hid hh
  have HKS := Lib.hid hks
  have HAT := Lib.hid hat
  clear hr hh hks hat
  go_enter Try.func5, Try.ntmps5
  go_wp2_with fail
  obtain ⟨b3, hb3⟩ : ∃ b, b = w.heap.size := ⟨_, rfl⟩
  obtain ⟨b4, hb4⟩ : ∃ b, b = w.heap.size + 1 := ⟨_, rfl⟩
  obtain ⟨b5, hb5⟩ : ∃ b, b = w.heap.size + 1 + 1 := ⟨_, rfl⟩
  refine calls_over13 (fun W => TimeIn w b3 b4 b5 A B n c m d t x0 x1 x2 W) ⟨by rw [hb3]; exact ((Bk.new _ _ _).alloc _).alloc _, by rw [hb4]; exact (Bk.new2 _ _ _ _).alloc _, by rw [hb5]; exact Bk.new3 _ _ _ _ _, (((Below.refl _ _).alloc (Nat.le_refl _) _).alloc (by simp) _).alloc (by simp; omega) _⟩ ?_
  rw [← hb5, ← hb4]
  have NB := Lib.hid hb3
  rw [← hb3]
  clear hb3 hb4 hb5
  intro W0 hw0
  have H0 := Lib.hid (show TimeIn w b3 b4 b5 A B n c m d t x0 x1 x2 W0 by unfold TimeIn at hw0 ⊢; rw [NB.out] at hw0 ⊢; exact hw0)
  clear hw0
  refine (alive13_any W0).mono ?_
  rintro e W1 ⟨rfl, hb⟩
  have H1 := Lib.hid (H0.out.next hb)
  clear hb H0
  go_wp2_with ((with_reducible show wpList _ _ _ (⟨some 16, _, _, _, _, _⟩ :: _) _ _); refine hold ?_)
  refine held (wpList_load_mid rfl 25 (.tmp 3) rfl b3 0 rfl _ _ H1.out.1.range Try.underlying25 rfl (by kernel_rfl) ?_)
  go_wp2_with fail
  refine (great13_any A B none n c m d 0 0 hs W1 (HH.out.later H1.out.2.2.2) hn hm (Nat.zero_le _)).mono ?_
  rintro e W2 ⟨gr, rfl, hsm, hb⟩
  have H2 := Lib.hid (H1.out.next hb)
  have HSM0 := Lib.hid hsm
  clear hb H1 hsm
  cases gr
  case true =>
    go_wp2_with fail
    go_ret
    exact ⟨rfl, by first | exact H2.out.2.2.2 | (rw [NB.out]; exact H2.out.2.2.2)⟩
  have HSM := Lib.hid (HSM0.out rfl)
  clear HSM0
  have hfm : Try.prog.follows .mixedOrders = true := by kernel_rfl
  go_wp2_with fail
  refine wp_region_held_drew (S := TimeIn w b3 b4 b5 A B n c m d t x0 x1 x2) hfm (H2.out.next (Below.refl _ _).drew) (fun hHeld => ?_)
  simp only [List.size_toArray, List.length_cons, List.length_nil, Nat.reduceAdd]
  obtain ⟨V0, hV0⟩ : ∃ V, V = W2.drew := ⟨_, rfl⟩
  rw [← hV0] at hHeld ⊢
  clear hV0 H2
  obtain ⟨nw, hnw⟩ : ∃ z, z = min x0 x1 := ⟨_, rfl⟩
  obtain ⟨lt_, hlt⟩ : ∃ z, z = max x0 x1 := ⟨_, rfl⟩
  have NW := Lib.hid hnw
  have LT := Lib.hid hlt
  have NL : Hid (nw ≤ lt_) := Lib.hid (by omega)
  clear hnw hlt
  refine wpAnyH_take (i := 0) (v := .pointer (some ⟨b5, 0, none⟩)) rfl (by kernel_rfl) (by kernel_rfl) (by kernel_rfl) (fun _ _ _ h => h) (Or.inl ⟨by rfl, fun w0 hC => by simp [execOp, Act.eval, Act.put, go_sem]⟩) hHeld ?_
  try simp only [Act.put, List.setIfInBounds_toArray, List.set_cons_zero, List.set_cons_succ, List.getElem_toArray, List.getElem_cons_zero, List.getElem_cons_succ]
  refine wpAnyH_take (i := 1) (v := .int .i64 x0) rfl (by kernel_rfl) (by kernel_rfl) (by kernel_rfl) (fun _ _ _ h => h) (Or.inl ⟨by rfl, fun w0 hC => by simp [execOp, Act.eval, Act.put, go_sem, hC.2.2.1.cell 0]⟩) hHeld ?_
  try simp only [Act.put, List.setIfInBounds_toArray, List.set_cons_zero, List.set_cons_succ, List.getElem_toArray, List.getElem_cons_zero, List.getElem_cons_succ]
  refine wpAnyH_take (i := 2) (v := .pointer (some ⟨b5, 1, none⟩)) rfl (by kernel_rfl) (by kernel_rfl) (by kernel_rfl) (fun _ _ _ h => h) (Or.inl ⟨by rfl, fun w0 hC => by simp [execOp, Act.eval, Act.put, go_sem]⟩) hHeld ?_
  try simp only [Act.put, List.setIfInBounds_toArray, List.set_cons_zero, List.set_cons_succ, List.getElem_toArray, List.getElem_cons_zero, List.getElem_cons_succ]
  refine wpAnyH_take (i := 3) (v := .int .i64 x1) rfl (by kernel_rfl) (by kernel_rfl) (by kernel_rfl) (fun _ _ _ h => h) (Or.inl ⟨by rfl, fun w0 hC => by simp [execOp, Act.eval, Act.put, go_sem, hC.2.2.1.cell 1]⟩) hHeld ?_
  try simp only [Act.put, List.setIfInBounds_toArray, List.set_cons_zero, List.set_cons_succ, List.getElem_toArray, List.getElem_cons_zero, List.getElem_cons_succ]
  refine wpAnyH_take (i := 4) (v := .int .i64 nw) rfl (by kernel_rfl) (by kernel_rfl) (by kernel_rfl) (fun _ _ _ h => h) (Or.inl ⟨by rfl, fun w0 hC => by rw [NW.out]; exact exec_min13 rfl rfl rfl⟩) hHeld ?_
  try simp only [Act.put, List.setIfInBounds_toArray, List.set_cons_zero, List.set_cons_succ, List.getElem_toArray, List.getElem_cons_zero, List.getElem_cons_succ]
  refine wpAnyH_take (i := 5) (v := .pointer (some ⟨b5, 0, none⟩)) rfl (by kernel_rfl) (by kernel_rfl) (by kernel_rfl) (fun _ _ _ h => h) (Or.inl ⟨by rfl, fun w0 hC => by simp [execOp, Act.eval, Act.put, go_sem]⟩) hHeld ?_
  try simp only [Act.put, List.setIfInBounds_toArray, List.set_cons_zero, List.set_cons_succ, List.getElem_toArray, List.getElem_cons_zero, List.getElem_cons_succ]
  refine wpAnyH_take (i := 6) (v := .int .i64 x0) rfl (by kernel_rfl) (by kernel_rfl) (by kernel_rfl) (fun _ _ _ h => h) (Or.inl ⟨by rfl, fun w0 hC => by simp [execOp, Act.eval, Act.put, go_sem, hC.2.2.1.cell 0]⟩) hHeld ?_
  try simp only [Act.put, List.setIfInBounds_toArray, List.set_cons_zero, List.set_cons_succ, List.getElem_toArray, List.getElem_cons_zero, List.getElem_cons_succ]
  refine wpAnyH_take (i := 7) (v := .pointer (some ⟨b5, 1, none⟩)) rfl (by kernel_rfl) (by kernel_rfl) (by kernel_rfl) (fun _ _ _ h => h) (Or.inl ⟨by rfl, fun w0 hC => by simp [execOp, Act.eval, Act.put, go_sem]⟩) hHeld ?_
  try simp only [Act.put, List.setIfInBounds_toArray, List.set_cons_zero, List.set_cons_succ, List.getElem_toArray, List.getElem_cons_zero, List.getElem_cons_succ]
  refine wpAnyH_take (i := 8) (v := .int .i64 x1) rfl (by kernel_rfl) (by kernel_rfl) (by kernel_rfl) (fun _ _ _ h => h) (Or.inl ⟨by rfl, fun w0 hC => by simp [execOp, Act.eval, Act.put, go_sem, hC.2.2.1.cell 1]⟩) hHeld ?_
  try simp only [Act.put, List.setIfInBounds_toArray, List.set_cons_zero, List.set_cons_succ, List.getElem_toArray, List.getElem_cons_zero, List.getElem_cons_succ]
  refine wpAnyH_take (i := 9) (v := .int .i64 lt_) rfl (by kernel_rfl) (by kernel_rfl) (by kernel_rfl) (fun _ _ _ h => h) (Or.inl ⟨by rfl, fun w0 hC => by rw [LT.out]; exact exec_max13 rfl rfl rfl⟩) hHeld ?_
  try simp only [Act.put, List.setIfInBounds_toArray, List.set_cons_zero, List.set_cons_succ, List.getElem_toArray, List.getElem_cons_zero, List.getElem_cons_succ]
  have H3 := Lib.hid hHeld
  refine wpAnyH_ready (rs := [10]) (by kernel_rfl) (by simp) (AllReadyH.cons rfl (fun K hK => ?_) AllReadyH.nil)
  rw [if_pos (by rfl)]
  go_wp2_with fail
  refine hK.out _ _ hHeld (fun hHeld => ?_)
  clear hK K
  try simp only [Act.put, List.setIfInBounds_toArray, List.set_cons_zero, List.set_cons_succ, List.getElem_toArray, List.getElem_cons_zero, List.getElem_cons_succ]
  refine wpAnyH_ready (rs := [11]) (by kernel_rfl) (by simp) (AllReadyH.cons rfl (fun K hK => ?_) AllReadyH.nil)
  rw [if_pos (by rfl)]
  go_wp2_with fail
  refine hK.out _ _ hHeld (fun hHeld => ?_)
  clear hK K
  try simp only [Act.put, List.setIfInBounds_toArray, List.set_cons_zero, List.set_cons_succ, List.getElem_toArray, List.getElem_cons_zero, List.getElem_cons_succ]
  refine wpAnyH_done (by kernel_rfl) ?_ _
  clear hHeld
  obtain ⟨a, ha⟩ : ∃ a, goesB rs hs nw t = a := ⟨_, rfl⟩
  obtain ⟨b, hbb⟩ : ∃ b, goesB rs hs lt_ t = b := ⟨_, rfl⟩
  have GA := Lib.hid ha
  have GB := Lib.hid hbb
  clear ha hbb
  go_wp2_with ((with_reducible show wpList _ _ _ (⟨some 28, _, _, _, _, _⟩ :: _) _ _); refine hold ?_)
  refine held (wpList_load_mid rfl 33 (.tmp 4) rfl b4 0 rfl _ _ H3.out.2.1.range Try.underlying33 rfl (by kernel_rfl) ?_)
  have k0 := H3.out.1.cell 0
  have k1 := H3.out.1.cell 1
  go_wp2_with fail
  have CG := Lib.hid (rlGoes_any A B n c m d rs hs t nw V0 (HR.out.later H3.out.2.2.2) hn (HH.out.later H3.out.2.2.2) hm HSM.out.2.2.2 HAT.out HKS.out)
  rw [GA.out] at CG
  refine CG.out.mono ?_
  rintro e W4 ⟨rfl, hb⟩
  have H4 := Lib.hid (H3.out.next hb)
  clear hb CG H3 k0 k1
  go_wp2_with ((with_reducible show wpList _ _ _ (⟨some 35, _, _, _, _, _⟩ :: _) _ _); refine hold ?_)
  refine held (wpList_load_mid rfl 33 (.tmp 4) rfl b4 0 rfl _ _ H4.out.2.1.range Try.underlying33 rfl (by kernel_rfl) ?_)
  have k0 := H4.out.1.cell 0
  have k1 := H4.out.1.cell 1
  go_wp2_with fail
  have CG := Lib.hid (rlGoes_any A B n c m d rs hs t lt_ W4 (HR.out.later H4.out.2.2.2) hn (HH.out.later H4.out.2.2.2) hm HSM.out.2.2.2 HAT.out HKS.out)
  rw [GB.out] at CG
  refine CG.out.mono ?_
  rintro e W5 ⟨rfl, hb⟩
  have H5 := Lib.hid (H4.out.next hb)
  clear hb CG H4 k0 k1

  obtain ⟨mx, hmx⟩ : ∃ z, z = max x2 1 := ⟨_, rfl⟩
  have MX := Lib.hid hmx
  clear hmx
  go_upto_region 8 with (fail)
  go_cut [11] (fun x11 wx => ∃ A9 c9 br, x11 = .slice A9 (m + 1) c9 ∧ HoldsIn wx wx.heap.size A9 (m + 1) (hs ++ [nHold t br mx]) ∧ TimeIn w b3 b4 b5 A B n c m d t x0 x1 x2 wx)
  case first =>
    go_wp2_with fail
    refine wp_region_held_drew (S := TimeIn w b3 b4 b5 A B n c m d t x0 x1 x2) hfm (H5.out.next (Below.refl _ _).drew) (fun hHeld => ?_)
    simp only [List.size_toArray, List.length_cons, List.length_nil, Nat.reduceAdd]
    obtain ⟨U0, hU0⟩ : ∃ V, V = W5.drew := ⟨_, rfl⟩
    obtain ⟨bz, hz0⟩ : ∃ z, z = U0.heap.size := ⟨_, rfl⟩
    have Z : Hid (b3 < bz ∧ b4 < bz ∧ b5 < bz ∧ w.heap.size ≤ bz) := Lib.hid (by rw [hz0, hU0]; exact ⟨H5.out.1.lt, H5.out.2.1.lt, H5.out.2.2.1.lt, H5.out.2.2.2.size⟩)
    rw [← hU0] at hHeld ⊢
    clear hU0 H5
    have HP : Hid (Own8 bz 0 none 0 0 [] false false 0 0 #[.int .i64 t.uid, .int .i64 mx] #[] U0) := Lib.hid (Own8.zero (by omega))
    clear hz0
    refine wpAnyH_take (i := 1) (v := .pointer (some ⟨b3, 1, none⟩)) rfl (by kernel_rfl) (by kernel_rfl) (by kernel_rfl) (fun _ _ _ h => h) (Or.inl ⟨by rfl, fun w0 hC => by simp [execOp, Act.eval, Act.put, go_sem]⟩) hHeld ?_
    try simp only [Act.put, List.setIfInBounds_toArray, List.set_cons_zero, List.set_cons_succ, List.getElem_toArray, List.getElem_cons_zero, List.getElem_cons_succ]
    refine wpAnyH_take (i := 2) (v := .slice B m d) rfl (by kernel_rfl) (by kernel_rfl) (by kernel_rfl) (fun _ _ _ h => h) (Or.inl ⟨by rfl, fun w0 hC => by simp [execOp, Act.eval, Act.put, go_sem, hC.1.cell 1]⟩) hHeld ?_
    try simp only [Act.put, List.setIfInBounds_toArray, List.set_cons_zero, List.set_cons_succ, List.getElem_toArray, List.getElem_cons_zero, List.getElem_cons_succ]
    refine wpAnyH_take (i := 4) (v := .pointer (some ⟨b4, 1, none⟩)) rfl (by kernel_rfl) (by kernel_rfl) (by kernel_rfl) (fun _ _ _ h => h) (Or.inl ⟨by rfl, fun w0 hC => by simp [execOp, Act.eval, Act.put, go_sem]⟩) hHeld ?_
    try simp only [Act.put, List.setIfInBounds_toArray, List.set_cons_zero, List.set_cons_succ, List.getElem_toArray, List.getElem_cons_zero, List.getElem_cons_succ]
    refine wpAnyH_take (i := 5) (v := .string t.box) rfl (by kernel_rfl) (by kernel_rfl) (by kernel_rfl) (fun _ _ _ h => h) (Or.inl ⟨by rfl, fun w0 hC => by simp [execOp, Act.eval, Act.put, go_sem, hC.2.1.tm.2.1]⟩) hHeld ?_
    try simp only [Act.put, List.setIfInBounds_toArray, List.set_cons_zero, List.set_cons_succ, List.getElem_toArray, List.getElem_cons_zero, List.getElem_cons_succ]
    refine wpAnyH_take (i := 6) (v := .pointer (some ⟨b4, 3, none⟩)) rfl (by kernel_rfl) (by kernel_rfl) (by kernel_rfl) (fun _ _ _ h => h) (Or.inl ⟨by rfl, fun w0 hC => by simp [execOp, Act.eval, Act.put, go_sem]⟩) hHeld ?_
    try simp only [Act.put, List.setIfInBounds_toArray, List.set_cons_zero, List.set_cons_succ, List.getElem_toArray, List.getElem_cons_zero, List.getElem_cons_succ]
    refine wpAnyH_take (i := 7) (v := .pointer (some ⟨b4, 3, none⟩)) rfl (by kernel_rfl) (by kernel_rfl) (by kernel_rfl) (fun _ _ _ h => h) (Or.inl ⟨by rfl, fun w0 hC => by simp [execOp, Act.eval, Act.put, go_sem]⟩) hHeld ?_
    try simp only [Act.put, List.setIfInBounds_toArray, List.set_cons_zero, List.set_cons_succ, List.getElem_toArray, List.getElem_cons_zero, List.getElem_cons_succ]
    refine wpAnyH_take (i := 8) (v := .int .i64 t.uid) rfl (by kernel_rfl) (by kernel_rfl) (by kernel_rfl) (fun _ _ _ h => h) (Or.inl ⟨by rfl, fun w0 hC => by simp [execOp, Act.eval, Act.put, go_sem, hC.2.1.tm.2.2.2.1]⟩) hHeld ?_
    try simp only [Act.put, List.setIfInBounds_toArray, List.set_cons_zero, List.set_cons_succ, List.getElem_toArray, List.getElem_cons_zero, List.getElem_cons_succ]
    refine wpAnyH_take (i := 9) (v := .pointer (some ⟨b5, 2, none⟩)) rfl (by kernel_rfl) (by kernel_rfl) (by kernel_rfl) (fun _ _ _ h => h) (Or.inl ⟨by rfl, fun w0 hC => by simp [execOp, Act.eval, Act.put, go_sem]⟩) hHeld ?_
    try simp only [Act.put, List.setIfInBounds_toArray, List.set_cons_zero, List.set_cons_succ, List.getElem_toArray, List.getElem_cons_zero, List.getElem_cons_succ]
    refine wpAnyH_take (i := 10) (v := .int .i64 x2) rfl (by kernel_rfl) (by kernel_rfl) (by kernel_rfl) (fun _ _ _ h => h) (Or.inl ⟨by rfl, fun w0 hC => by simp [execOp, Act.eval, Act.put, go_sem, hC.2.2.1.cell 2]⟩) hHeld ?_
    try simp only [Act.put, List.setIfInBounds_toArray, List.set_cons_zero, List.set_cons_succ, List.getElem_toArray, List.getElem_cons_zero, List.getElem_cons_succ]
    refine wpAnyH_take (i := 11) (v := .int .i64 mx) rfl (by kernel_rfl) (by kernel_rfl) (by kernel_rfl) (fun _ _ _ h => h) (Or.inl ⟨by rfl, fun w0 hC => by rw [MX.out]; exact exec_max13 rfl rfl rfl⟩) hHeld ?_
    try simp only [Act.put, List.setIfInBounds_toArray, List.set_cons_zero, List.set_cons_succ, List.getElem_toArray, List.getElem_cons_zero, List.getElem_cons_succ]
    refine wpAnyH_take (i := 12) (v := .agg #[.int .i64 t.uid, .int .i64 mx]) rfl (by kernel_rfl) (by kernel_rfl) (by kernel_rfl) (fun _ _ _ h => h) (Or.inl ⟨by rfl, fun w0 hC => by simp [execOp, Act.eval, Act.put, go_sem]⟩) hHeld ?_
    try simp only [Act.put, List.setIfInBounds_toArray, List.set_cons_zero, List.set_cons_succ, List.getElem_toArray, List.getElem_cons_zero, List.getElem_cons_succ]
    refine wpAnyH_ready (rs := [0, 13]) (by kernel_rfl) (by simp) (AllReadyH.cons rfl (fun K hK => ?_) (AllReadyH.cons rfl (fun K hK => ?_) AllReadyH.nil))
    · rw [if_pos (by rfl)]
      go_wp2_with fail
      have HP2 := Lib.hid HP.out.op0
      have hS := hHeld.next ((Below.refl _ _).alloc (Nat.le_refl _) (.cells #[] 51))
      obtain ⟨g1, hg⟩ : ∃ g, U0.heap.size = g := ⟨_, rfl⟩
      rw [hg] at HP2 ⊢
      clear hHeld HP hg
      have HP := HP2
      clear HP2
      obtain ⟨V1, hV2⟩ : ∃ V, V = U0.alloc (.cells #[] 51) := ⟨_, rfl⟩
      rw [← hV2] at hS HP ⊢
      clear hV2
      refine hK.out _ _ hS (fun hHeld => ?_)
      clear hK K
      try simp only [Act.put, List.setIfInBounds_toArray, List.set_cons_zero, List.set_cons_succ, List.getElem_toArray, List.getElem_cons_zero, List.getElem_cons_succ]
      clear hS
      refine wpAnyH_ready (rs := [3, 13]) (by kernel_rfl) (by simp) (AllReadyH.cons rfl (fun K hK => ?_) (AllReadyH.cons rfl (fun K hK => ?_) AllReadyH.nil))
      · rw [if_pos (by rfl)]
        obtain ⟨A9, c9, V2, hrun, hp, hbz⟩ := HP.out.op3 (d := d) (HH.out.later hHeld.2.2.2).1 HSM.out.2.1
        have HP2 := Lib.hid hp
        have hS := hHeld.nextB hbz Z.out.1 Z.out.2.1 Z.out.2.2.1 Z.out.2.2.2
        refine wp_append_ks (s := .tmp 42) (x := .tmp 44) rfl rfl rfl hrun ?_
        clear hHeld HP hp hbz hrun
        have HP := HP2
        clear HP2
        refine hK.out _ _ hS (fun hHeld => ?_)
        clear hK K
        try simp only [Act.put, List.setIfInBounds_toArray, List.set_cons_zero, List.set_cons_succ, List.getElem_toArray, List.getElem_cons_zero, List.getElem_cons_succ]
        clear hS
        refine wpAnyH_ready (rs := [13]) (by kernel_rfl) (by simp) (AllReadyH.cons rfl (fun K hK => ?_) AllReadyH.nil)
        rw [if_pos (by rfl)]
        go_wp2_with fail
        have HP2 := Lib.hid HP.out.op13
        have hS := hHeld.next ((Below.refl _ _).alloc (Nat.le_refl _) (.cells #[.int .i64 t.uid, .int .i64 mx] 48))
        obtain ⟨br3, hg⟩ : ∃ g, V2.heap.size = g := ⟨_, rfl⟩
        rw [hg] at HP2 ⊢
        clear hHeld HP hg
        have HP := HP2
        clear HP2
        obtain ⟨V3, hV2⟩ : ∃ V, V = V2.alloc (.cells #[.int .i64 t.uid, .int .i64 mx] 48) := ⟨_, rfl⟩
        rw [← hV2] at hS HP ⊢
        clear hV2
        refine hK.out _ _ hS (fun hHeld => ?_)
        clear hK K
        try simp only [Act.put, List.setIfInBounds_toArray, List.set_cons_zero, List.set_cons_succ, List.getElem_toArray, List.getElem_cons_zero, List.getElem_cons_succ]
        clear hS
        refine wpAnyH_take (i := 14) (v := .agg #[.int .i64 0, .string t.box, .slice (some ⟨br3, 0, none⟩) 1 1]) rfl (by kernel_rfl) (by kernel_rfl) (by kernel_rfl) (fun _ _ _ h => h) (Or.inl ⟨by rfl, fun w0 hC => by simp [execOp, Act.eval, Act.put, go_sem]⟩) hHeld ?_
        try simp only [Act.put, List.setIfInBounds_toArray, List.set_cons_zero, List.set_cons_succ, List.getElem_toArray, List.getElem_cons_zero, List.getElem_cons_succ]
        refine wpAnyH_ready (rs := [15]) (by kernel_rfl) (by simp) (AllReadyH.cons rfl (fun K hK => ?_) AllReadyH.nil)
        rw [if_pos (by rfl)]
        go_wp2_with fail
        have HP2 := Lib.hid ((HP.out.with (hhA (nHold t br3 mx))).op15)
        show K _ (V3.alloc (.cells (hhA (nHold t br3 mx)) 51))
        have hS := hHeld.next ((Below.refl _ _).alloc (Nat.le_refl _) (.cells (hhA (nHold t br3 mx)) 51))
        obtain ⟨bh4, hg⟩ : ∃ g, V3.heap.size = g := ⟨_, rfl⟩
        rw [hg] at HP2 ⊢
        clear hHeld HP hg
        have HP := HP2
        clear HP2
        obtain ⟨V4, hV2⟩ : ∃ V, V = V3.alloc (.cells (hhA (nHold t br3 mx)) 51) := ⟨_, rfl⟩
        rw [← hV2] at hS HP ⊢
        clear hV2
        refine hK.out _ _ hS (fun hHeld => ?_)
        clear hK K
        try simp only [Act.put, List.setIfInBounds_toArray, List.set_cons_zero, List.set_cons_succ, List.getElem_toArray, List.getElem_cons_zero, List.getElem_cons_succ]
        clear hS
        refine wpAnyH_ready (rs := [16]) (by kernel_rfl) (by simp) (AllReadyH.cons rfl (fun K hK => ?_) AllReadyH.nil)
        rw [if_pos (by rfl)]
        obtain ⟨A10, c10, V5, hrun, ho, hrg, hbz⟩ := HP.out.op16 HSM.out.2.1
        have HO := Lib.hid ho
        have HRG := Lib.hid (hrg rfl)
        have hS := hHeld.nextB hbz Z.out.1 Z.out.2.1 Z.out.2.2.1 Z.out.2.2.2
        refine wp_append_ks (s := .tmp 45) (x := .tmp 57) rfl rfl rfl hrun ?_
        clear hHeld HP ho hrg hbz hrun
        refine hK.out _ _ hS (fun hHeld => ?_)
        clear hK K
        try simp only [Act.put, List.setIfInBounds_toArray, List.set_cons_zero, List.set_cons_succ, List.getElem_toArray, List.getElem_cons_zero, List.getElem_cons_succ]
        clear hS
        have HT := Lib.hid hHeld
        refine wpAnyH_ready (rs := [17]) (by kernel_rfl) (by simp) (AllReadyH.cons rfl (fun K hK => ?_) AllReadyH.nil)
        rw [if_pos (by rfl)]
        go_wp2_with fail
        refine hK.out _ _ hHeld (fun hHeld => ?_)
        clear hK K
        try simp only [Act.put, List.setIfInBounds_toArray, List.set_cons_zero, List.set_cons_succ, List.getElem_toArray, List.getElem_cons_zero, List.getElem_cons_succ]
        refine wpAnyH_done (by kernel_rfl) ?_ _
        go_wp2_with fail
        go_meet
        exact ⟨A10, c10, br3, rfl, holds_more HO.out (HH.out.later HT.out.2.2.2).2 ⟨col_one (k := 2) (f := rgC) HRG.out _ HRG.out.lt, by show (1 : Nat) ≤ _; omega⟩, HT.out⟩
      · rw [if_pos (by rfl)]
        go_wp2_with fail
        have HP2 := Lib.hid HP.out.op13
        have hS := hHeld.next ((Below.refl _ _).alloc (Nat.le_refl _) (.cells #[.int .i64 t.uid, .int .i64 mx] 48))
        obtain ⟨br6, hg⟩ : ∃ g, V1.heap.size = g := ⟨_, rfl⟩
        rw [hg] at HP2 ⊢
        clear hHeld HP hg
        have HP := HP2
        clear HP2
        obtain ⟨V6, hV2⟩ : ∃ V, V = V1.alloc (.cells #[.int .i64 t.uid, .int .i64 mx] 48) := ⟨_, rfl⟩
        rw [← hV2] at hS HP ⊢
        clear hV2
        refine hK.out _ _ hS (fun hHeld => ?_)
        clear hK K
        try simp only [Act.put, List.setIfInBounds_toArray, List.set_cons_zero, List.set_cons_succ, List.getElem_toArray, List.getElem_cons_zero, List.getElem_cons_succ]
        clear hS
        refine wpAnyH_take (i := 14) (v := .agg #[.int .i64 0, .string t.box, .slice (some ⟨br6, 0, none⟩) 1 1]) rfl (by kernel_rfl) (by kernel_rfl) (by kernel_rfl) (fun _ _ _ h => h) (Or.inl ⟨by rfl, fun w0 hC => by simp [execOp, Act.eval, Act.put, go_sem]⟩) hHeld ?_
        try simp only [Act.put, List.setIfInBounds_toArray, List.set_cons_zero, List.set_cons_succ, List.getElem_toArray, List.getElem_cons_zero, List.getElem_cons_succ]
        refine wpAnyH_ready (rs := [3, 15]) (by kernel_rfl) (by simp) (AllReadyH.cons rfl (fun K hK => ?_) (AllReadyH.cons rfl (fun K hK => ?_) AllReadyH.nil))
        · rw [if_pos (by rfl)]
          obtain ⟨A9, c9, V7, hrun, hp, hbz⟩ := HP.out.op3 (d := d) (HH.out.later hHeld.2.2.2).1 HSM.out.2.1
          have HP2 := Lib.hid hp
          have hS := hHeld.nextB hbz Z.out.1 Z.out.2.1 Z.out.2.2.1 Z.out.2.2.2
          refine wp_append_ks (s := .tmp 42) (x := .tmp 44) rfl rfl rfl hrun ?_
          clear hHeld HP hp hbz hrun
          have HP := HP2
          clear HP2
          refine hK.out _ _ hS (fun hHeld => ?_)
          clear hK K
          try simp only [Act.put, List.setIfInBounds_toArray, List.set_cons_zero, List.set_cons_succ, List.getElem_toArray, List.getElem_cons_zero, List.getElem_cons_succ]
          clear hS
          refine wpAnyH_ready (rs := [15]) (by kernel_rfl) (by simp) (AllReadyH.cons rfl (fun K hK => ?_) AllReadyH.nil)
          rw [if_pos (by rfl)]
          go_wp2_with fail
          have HP2 := Lib.hid ((HP.out.with (hhA (nHold t br6 mx))).op15)
          show K _ (V7.alloc (.cells (hhA (nHold t br6 mx)) 51))
          have hS := hHeld.next ((Below.refl _ _).alloc (Nat.le_refl _) (.cells (hhA (nHold t br6 mx)) 51))
          obtain ⟨bh8, hg⟩ : ∃ g, V7.heap.size = g := ⟨_, rfl⟩
          rw [hg] at HP2 ⊢
          clear hHeld HP hg
          have HP := HP2
          clear HP2
          obtain ⟨V8, hV2⟩ : ∃ V, V = V7.alloc (.cells (hhA (nHold t br6 mx)) 51) := ⟨_, rfl⟩
          rw [← hV2] at hS HP ⊢
          clear hV2
          refine hK.out _ _ hS (fun hHeld => ?_)
          clear hK K
          try simp only [Act.put, List.setIfInBounds_toArray, List.set_cons_zero, List.set_cons_succ, List.getElem_toArray, List.getElem_cons_zero, List.getElem_cons_succ]
          clear hS
          refine wpAnyH_ready (rs := [16]) (by kernel_rfl) (by simp) (AllReadyH.cons rfl (fun K hK => ?_) AllReadyH.nil)
          rw [if_pos (by rfl)]
          obtain ⟨A10, c10, V9, hrun, ho, hrg, hbz⟩ := HP.out.op16 HSM.out.2.1
          have HO := Lib.hid ho
          have HRG := Lib.hid (hrg rfl)
          have hS := hHeld.nextB hbz Z.out.1 Z.out.2.1 Z.out.2.2.1 Z.out.2.2.2
          refine wp_append_ks (s := .tmp 45) (x := .tmp 57) rfl rfl rfl hrun ?_
          clear hHeld HP ho hrg hbz hrun
          refine hK.out _ _ hS (fun hHeld => ?_)
          clear hK K
          try simp only [Act.put, List.setIfInBounds_toArray, List.set_cons_zero, List.set_cons_succ, List.getElem_toArray, List.getElem_cons_zero, List.getElem_cons_succ]
          clear hS
          have HT := Lib.hid hHeld
          refine wpAnyH_ready (rs := [17]) (by kernel_rfl) (by simp) (AllReadyH.cons rfl (fun K hK => ?_) AllReadyH.nil)
          rw [if_pos (by rfl)]
          go_wp2_with fail
          refine hK.out _ _ hHeld (fun hHeld => ?_)
          clear hK K
          try simp only [Act.put, List.setIfInBounds_toArray, List.set_cons_zero, List.set_cons_succ, List.getElem_toArray, List.getElem_cons_zero, List.getElem_cons_succ]
          refine wpAnyH_done (by kernel_rfl) ?_ _
          go_wp2_with fail
          go_meet
          exact ⟨A10, c10, br6, rfl, holds_more HO.out (HH.out.later HT.out.2.2.2).2 ⟨col_one (k := 2) (f := rgC) HRG.out _ HRG.out.lt, by show (1 : Nat) ≤ _; omega⟩, HT.out⟩
        · rw [if_pos (by rfl)]
          go_wp2_with fail
          have HP2 := Lib.hid ((HP.out.with (hhA (nHold t br6 mx))).op15)
          show K _ (V6.alloc (.cells (hhA (nHold t br6 mx)) 51))
          have hS := hHeld.next ((Below.refl _ _).alloc (Nat.le_refl _) (.cells (hhA (nHold t br6 mx)) 51))
          obtain ⟨bh10, hg⟩ : ∃ g, V6.heap.size = g := ⟨_, rfl⟩
          rw [hg] at HP2 ⊢
          clear hHeld HP hg
          have HP := HP2
          clear HP2
          obtain ⟨V10, hV2⟩ : ∃ V, V = V6.alloc (.cells (hhA (nHold t br6 mx)) 51) := ⟨_, rfl⟩
          rw [← hV2] at hS HP ⊢
          clear hV2
          refine hK.out _ _ hS (fun hHeld => ?_)
          clear hK K
          try simp only [Act.put, List.setIfInBounds_toArray, List.set_cons_zero, List.set_cons_succ, List.getElem_toArray, List.getElem_cons_zero, List.getElem_cons_succ]
          clear hS
          refine wpAnyH_ready (rs := [3]) (by kernel_rfl) (by simp) (AllReadyH.cons rfl (fun K hK => ?_) AllReadyH.nil)
          rw [if_pos (by rfl)]
          obtain ⟨A9, c9, V11, hrun, hp, hbz⟩ := HP.out.op3 (d := d) (HH.out.later hHeld.2.2.2).1 HSM.out.2.1
          have HP2 := Lib.hid hp
          have hS := hHeld.nextB hbz Z.out.1 Z.out.2.1 Z.out.2.2.1 Z.out.2.2.2
          refine wp_append_ks (s := .tmp 42) (x := .tmp 44) rfl rfl rfl hrun ?_
          clear hHeld HP hp hbz hrun
          have HP := HP2
          clear HP2
          refine hK.out _ _ hS (fun hHeld => ?_)
          clear hK K
          try simp only [Act.put, List.setIfInBounds_toArray, List.set_cons_zero, List.set_cons_succ, List.getElem_toArray, List.getElem_cons_zero, List.getElem_cons_succ]
          clear hS
          refine wpAnyH_ready (rs := [16]) (by kernel_rfl) (by simp) (AllReadyH.cons rfl (fun K hK => ?_) AllReadyH.nil)
          rw [if_pos (by rfl)]
          obtain ⟨A10, c10, V12, hrun, ho, hrg, hbz⟩ := HP.out.op16 HSM.out.2.1
          have HO := Lib.hid ho
          have HRG := Lib.hid (hrg rfl)
          have hS := hHeld.nextB hbz Z.out.1 Z.out.2.1 Z.out.2.2.1 Z.out.2.2.2
          refine wp_append_ks (s := .tmp 45) (x := .tmp 57) rfl rfl rfl hrun ?_
          clear hHeld HP ho hrg hbz hrun
          refine hK.out _ _ hS (fun hHeld => ?_)
          clear hK K
          try simp only [Act.put, List.setIfInBounds_toArray, List.set_cons_zero, List.set_cons_succ, List.getElem_toArray, List.getElem_cons_zero, List.getElem_cons_succ]
          clear hS
          have HT := Lib.hid hHeld
          refine wpAnyH_ready (rs := [17]) (by kernel_rfl) (by simp) (AllReadyH.cons rfl (fun K hK => ?_) AllReadyH.nil)
          rw [if_pos (by rfl)]
          go_wp2_with fail
          refine hK.out _ _ hHeld (fun hHeld => ?_)
          clear hK K
          try simp only [Act.put, List.setIfInBounds_toArray, List.set_cons_zero, List.set_cons_succ, List.getElem_toArray, List.getElem_cons_zero, List.getElem_cons_succ]
          refine wpAnyH_done (by kernel_rfl) ?_ _
          go_wp2_with fail
          go_meet
          exact ⟨A10, c10, br6, rfl, holds_more HO.out (HH.out.later HT.out.2.2.2).2 ⟨col_one (k := 2) (f := rgC) HRG.out _ HRG.out.lt, by show (1 : Nat) ≤ _; omega⟩, HT.out⟩
    · rw [if_pos (by rfl)]
      go_wp2_with fail
      have HP2 := Lib.hid HP.out.op13
      have hS := hHeld.next ((Below.refl _ _).alloc (Nat.le_refl _) (.cells #[.int .i64 t.uid, .int .i64 mx] 48))
      obtain ⟨br13, hg⟩ : ∃ g, U0.heap.size = g := ⟨_, rfl⟩
      rw [hg] at HP2 ⊢
      clear hHeld HP hg
      have HP := HP2
      clear HP2
      obtain ⟨V13, hV2⟩ : ∃ V, V = U0.alloc (.cells #[.int .i64 t.uid, .int .i64 mx] 48) := ⟨_, rfl⟩
      rw [← hV2] at hS HP ⊢
      clear hV2
      refine hK.out _ _ hS (fun hHeld => ?_)
      clear hK K
      try simp only [Act.put, List.setIfInBounds_toArray, List.set_cons_zero, List.set_cons_succ, List.getElem_toArray, List.getElem_cons_zero, List.getElem_cons_succ]
      clear hS
      refine wpAnyH_take (i := 14) (v := .agg #[.int .i64 0, .string t.box, .slice (some ⟨br13, 0, none⟩) 1 1]) rfl (by kernel_rfl) (by kernel_rfl) (by kernel_rfl) (fun _ _ _ h => h) (Or.inl ⟨by rfl, fun w0 hC => by simp [execOp, Act.eval, Act.put, go_sem]⟩) hHeld ?_
      try simp only [Act.put, List.setIfInBounds_toArray, List.set_cons_zero, List.set_cons_succ, List.getElem_toArray, List.getElem_cons_zero, List.getElem_cons_succ]
      refine wpAnyH_ready (rs := [0, 15]) (by kernel_rfl) (by simp) (AllReadyH.cons rfl (fun K hK => ?_) (AllReadyH.cons rfl (fun K hK => ?_) AllReadyH.nil))
      · rw [if_pos (by rfl)]
        go_wp2_with fail
        have HP2 := Lib.hid HP.out.op0
        have hS := hHeld.next ((Below.refl _ _).alloc (Nat.le_refl _) (.cells #[] 51))
        obtain ⟨g14, hg⟩ : ∃ g, V13.heap.size = g := ⟨_, rfl⟩
        rw [hg] at HP2 ⊢
        clear hHeld HP hg
        have HP := HP2
        clear HP2
        obtain ⟨V14, hV2⟩ : ∃ V, V = V13.alloc (.cells #[] 51) := ⟨_, rfl⟩
        rw [← hV2] at hS HP ⊢
        clear hV2
        refine hK.out _ _ hS (fun hHeld => ?_)
        clear hK K
        try simp only [Act.put, List.setIfInBounds_toArray, List.set_cons_zero, List.set_cons_succ, List.getElem_toArray, List.getElem_cons_zero, List.getElem_cons_succ]
        clear hS
        refine wpAnyH_ready (rs := [3, 15]) (by kernel_rfl) (by simp) (AllReadyH.cons rfl (fun K hK => ?_) (AllReadyH.cons rfl (fun K hK => ?_) AllReadyH.nil))
        · rw [if_pos (by rfl)]
          obtain ⟨A9, c9, V15, hrun, hp, hbz⟩ := HP.out.op3 (d := d) (HH.out.later hHeld.2.2.2).1 HSM.out.2.1
          have HP2 := Lib.hid hp
          have hS := hHeld.nextB hbz Z.out.1 Z.out.2.1 Z.out.2.2.1 Z.out.2.2.2
          refine wp_append_ks (s := .tmp 42) (x := .tmp 44) rfl rfl rfl hrun ?_
          clear hHeld HP hp hbz hrun
          have HP := HP2
          clear HP2
          refine hK.out _ _ hS (fun hHeld => ?_)
          clear hK K
          try simp only [Act.put, List.setIfInBounds_toArray, List.set_cons_zero, List.set_cons_succ, List.getElem_toArray, List.getElem_cons_zero, List.getElem_cons_succ]
          clear hS
          refine wpAnyH_ready (rs := [15]) (by kernel_rfl) (by simp) (AllReadyH.cons rfl (fun K hK => ?_) AllReadyH.nil)
          rw [if_pos (by rfl)]
          go_wp2_with fail
          have HP2 := Lib.hid ((HP.out.with (hhA (nHold t br13 mx))).op15)
          show K _ (V15.alloc (.cells (hhA (nHold t br13 mx)) 51))
          have hS := hHeld.next ((Below.refl _ _).alloc (Nat.le_refl _) (.cells (hhA (nHold t br13 mx)) 51))
          obtain ⟨bh16, hg⟩ : ∃ g, V15.heap.size = g := ⟨_, rfl⟩
          rw [hg] at HP2 ⊢
          clear hHeld HP hg
          have HP := HP2
          clear HP2
          obtain ⟨V16, hV2⟩ : ∃ V, V = V15.alloc (.cells (hhA (nHold t br13 mx)) 51) := ⟨_, rfl⟩
          rw [← hV2] at hS HP ⊢
          clear hV2
          refine hK.out _ _ hS (fun hHeld => ?_)
          clear hK K
          try simp only [Act.put, List.setIfInBounds_toArray, List.set_cons_zero, List.set_cons_succ, List.getElem_toArray, List.getElem_cons_zero, List.getElem_cons_succ]
          clear hS
          refine wpAnyH_ready (rs := [16]) (by kernel_rfl) (by simp) (AllReadyH.cons rfl (fun K hK => ?_) AllReadyH.nil)
          rw [if_pos (by rfl)]
          obtain ⟨A10, c10, V17, hrun, ho, hrg, hbz⟩ := HP.out.op16 HSM.out.2.1
          have HO := Lib.hid ho
          have HRG := Lib.hid (hrg rfl)
          have hS := hHeld.nextB hbz Z.out.1 Z.out.2.1 Z.out.2.2.1 Z.out.2.2.2
          refine wp_append_ks (s := .tmp 45) (x := .tmp 57) rfl rfl rfl hrun ?_
          clear hHeld HP ho hrg hbz hrun
          refine hK.out _ _ hS (fun hHeld => ?_)
          clear hK K
          try simp only [Act.put, List.setIfInBounds_toArray, List.set_cons_zero, List.set_cons_succ, List.getElem_toArray, List.getElem_cons_zero, List.getElem_cons_succ]
          clear hS
          have HT := Lib.hid hHeld
          refine wpAnyH_ready (rs := [17]) (by kernel_rfl) (by simp) (AllReadyH.cons rfl (fun K hK => ?_) AllReadyH.nil)
          rw [if_pos (by rfl)]
          go_wp2_with fail
          refine hK.out _ _ hHeld (fun hHeld => ?_)
          clear hK K
          try simp only [Act.put, List.setIfInBounds_toArray, List.set_cons_zero, List.set_cons_succ, List.getElem_toArray, List.getElem_cons_zero, List.getElem_cons_succ]
          refine wpAnyH_done (by kernel_rfl) ?_ _
          go_wp2_with fail
          go_meet
          exact ⟨A10, c10, br13, rfl, holds_more HO.out (HH.out.later HT.out.2.2.2).2 ⟨col_one (k := 2) (f := rgC) HRG.out _ HRG.out.lt, by show (1 : Nat) ≤ _; omega⟩, HT.out⟩
        · rw [if_pos (by rfl)]
          go_wp2_with fail
          have HP2 := Lib.hid ((HP.out.with (hhA (nHold t br13 mx))).op15)
          show K _ (V14.alloc (.cells (hhA (nHold t br13 mx)) 51))
          have hS := hHeld.next ((Below.refl _ _).alloc (Nat.le_refl _) (.cells (hhA (nHold t br13 mx)) 51))
          obtain ⟨bh18, hg⟩ : ∃ g, V14.heap.size = g := ⟨_, rfl⟩
          rw [hg] at HP2 ⊢
          clear hHeld HP hg
          have HP := HP2
          clear HP2
          obtain ⟨V18, hV2⟩ : ∃ V, V = V14.alloc (.cells (hhA (nHold t br13 mx)) 51) := ⟨_, rfl⟩
          rw [← hV2] at hS HP ⊢
          clear hV2
          refine hK.out _ _ hS (fun hHeld => ?_)
          clear hK K
          try simp only [Act.put, List.setIfInBounds_toArray, List.set_cons_zero, List.set_cons_succ, List.getElem_toArray, List.getElem_cons_zero, List.getElem_cons_succ]
          clear hS
          refine wpAnyH_ready (rs := [3]) (by kernel_rfl) (by simp) (AllReadyH.cons rfl (fun K hK => ?_) AllReadyH.nil)
          rw [if_pos (by rfl)]
          obtain ⟨A9, c9, V19, hrun, hp, hbz⟩ := HP.out.op3 (d := d) (HH.out.later hHeld.2.2.2).1 HSM.out.2.1
          have HP2 := Lib.hid hp
          have hS := hHeld.nextB hbz Z.out.1 Z.out.2.1 Z.out.2.2.1 Z.out.2.2.2
          refine wp_append_ks (s := .tmp 42) (x := .tmp 44) rfl rfl rfl hrun ?_
          clear hHeld HP hp hbz hrun
          have HP := HP2
          clear HP2
          refine hK.out _ _ hS (fun hHeld => ?_)
          clear hK K
          try simp only [Act.put, List.setIfInBounds_toArray, List.set_cons_zero, List.set_cons_succ, List.getElem_toArray, List.getElem_cons_zero, List.getElem_cons_succ]
          clear hS
          refine wpAnyH_ready (rs := [16]) (by kernel_rfl) (by simp) (AllReadyH.cons rfl (fun K hK => ?_) AllReadyH.nil)
          rw [if_pos (by rfl)]
          obtain ⟨A10, c10, V20, hrun, ho, hrg, hbz⟩ := HP.out.op16 HSM.out.2.1
          have HO := Lib.hid ho
          have HRG := Lib.hid (hrg rfl)
          have hS := hHeld.nextB hbz Z.out.1 Z.out.2.1 Z.out.2.2.1 Z.out.2.2.2
          refine wp_append_ks (s := .tmp 45) (x := .tmp 57) rfl rfl rfl hrun ?_
          clear hHeld HP ho hrg hbz hrun
          refine hK.out _ _ hS (fun hHeld => ?_)
          clear hK K
          try simp only [Act.put, List.setIfInBounds_toArray, List.set_cons_zero, List.set_cons_succ, List.getElem_toArray, List.getElem_cons_zero, List.getElem_cons_succ]
          clear hS
          have HT := Lib.hid hHeld
          refine wpAnyH_ready (rs := [17]) (by kernel_rfl) (by simp) (AllReadyH.cons rfl (fun K hK => ?_) AllReadyH.nil)
          rw [if_pos (by rfl)]
          go_wp2_with fail
          refine hK.out _ _ hHeld (fun hHeld => ?_)
          clear hK K
          try simp only [Act.put, List.setIfInBounds_toArray, List.set_cons_zero, List.set_cons_succ, List.getElem_toArray, List.getElem_cons_zero, List.getElem_cons_succ]
          refine wpAnyH_done (by kernel_rfl) ?_ _
          go_wp2_with fail
          go_meet
          exact ⟨A10, c10, br13, rfl, holds_more HO.out (HH.out.later HT.out.2.2.2).2 ⟨col_one (k := 2) (f := rgC) HRG.out _ HRG.out.lt, by show (1 : Nat) ≤ _; omega⟩, HT.out⟩
      · rw [if_pos (by rfl)]
        go_wp2_with fail
        have HP2 := Lib.hid ((HP.out.with (hhA (nHold t br13 mx))).op15)
        show K _ (V13.alloc (.cells (hhA (nHold t br13 mx)) 51))
        have hS := hHeld.next ((Below.refl _ _).alloc (Nat.le_refl _) (.cells (hhA (nHold t br13 mx)) 51))
        obtain ⟨bh21, hg⟩ : ∃ g, V13.heap.size = g := ⟨_, rfl⟩
        rw [hg] at HP2 ⊢
        clear hHeld HP hg
        have HP := HP2
        clear HP2
        obtain ⟨V21, hV2⟩ : ∃ V, V = V13.alloc (.cells (hhA (nHold t br13 mx)) 51) := ⟨_, rfl⟩
        rw [← hV2] at hS HP ⊢
        clear hV2
        refine hK.out _ _ hS (fun hHeld => ?_)
        clear hK K
        try simp only [Act.put, List.setIfInBounds_toArray, List.set_cons_zero, List.set_cons_succ, List.getElem_toArray, List.getElem_cons_zero, List.getElem_cons_succ]
        clear hS
        refine wpAnyH_ready (rs := [0]) (by kernel_rfl) (by simp) (AllReadyH.cons rfl (fun K hK => ?_) AllReadyH.nil)
        rw [if_pos (by rfl)]
        go_wp2_with fail
        have HP2 := Lib.hid HP.out.op0
        have hS := hHeld.next ((Below.refl _ _).alloc (Nat.le_refl _) (.cells #[] 51))
        obtain ⟨g22, hg⟩ : ∃ g, V21.heap.size = g := ⟨_, rfl⟩
        rw [hg] at HP2 ⊢
        clear hHeld HP hg
        have HP := HP2
        clear HP2
        obtain ⟨V22, hV2⟩ : ∃ V, V = V21.alloc (.cells #[] 51) := ⟨_, rfl⟩
        rw [← hV2] at hS HP ⊢
        clear hV2
        refine hK.out _ _ hS (fun hHeld => ?_)
        clear hK K
        try simp only [Act.put, List.setIfInBounds_toArray, List.set_cons_zero, List.set_cons_succ, List.getElem_toArray, List.getElem_cons_zero, List.getElem_cons_succ]
        clear hS
        refine wpAnyH_ready (rs := [3]) (by kernel_rfl) (by simp) (AllReadyH.cons rfl (fun K hK => ?_) AllReadyH.nil)
        rw [if_pos (by rfl)]
        obtain ⟨A9, c9, V23, hrun, hp, hbz⟩ := HP.out.op3 (d := d) (HH.out.later hHeld.2.2.2).1 HSM.out.2.1
        have HP2 := Lib.hid hp
        have hS := hHeld.nextB hbz Z.out.1 Z.out.2.1 Z.out.2.2.1 Z.out.2.2.2
        refine wp_append_ks (s := .tmp 42) (x := .tmp 44) rfl rfl rfl hrun ?_
        clear hHeld HP hp hbz hrun
        have HP := HP2
        clear HP2
        refine hK.out _ _ hS (fun hHeld => ?_)
        clear hK K
        try simp only [Act.put, List.setIfInBounds_toArray, List.set_cons_zero, List.set_cons_succ, List.getElem_toArray, List.getElem_cons_zero, List.getElem_cons_succ]
        clear hS
        refine wpAnyH_ready (rs := [16]) (by kernel_rfl) (by simp) (AllReadyH.cons rfl (fun K hK => ?_) AllReadyH.nil)
        rw [if_pos (by rfl)]
        obtain ⟨A10, c10, V24, hrun, ho, hrg, hbz⟩ := HP.out.op16 HSM.out.2.1
        have HO := Lib.hid ho
        have HRG := Lib.hid (hrg rfl)
        have hS := hHeld.nextB hbz Z.out.1 Z.out.2.1 Z.out.2.2.1 Z.out.2.2.2
        refine wp_append_ks (s := .tmp 45) (x := .tmp 57) rfl rfl rfl hrun ?_
        clear hHeld HP ho hrg hbz hrun
        refine hK.out _ _ hS (fun hHeld => ?_)
        clear hK K
        try simp only [Act.put, List.setIfInBounds_toArray, List.set_cons_zero, List.set_cons_succ, List.getElem_toArray, List.getElem_cons_zero, List.getElem_cons_succ]
        clear hS
        have HT := Lib.hid hHeld
        refine wpAnyH_ready (rs := [17]) (by kernel_rfl) (by simp) (AllReadyH.cons rfl (fun K hK => ?_) AllReadyH.nil)
        rw [if_pos (by rfl)]
        go_wp2_with fail
        refine hK.out _ _ hHeld (fun hHeld => ?_)
        clear hK K
        try simp only [Act.put, List.setIfInBounds_toArray, List.set_cons_zero, List.set_cons_succ, List.getElem_toArray, List.getElem_cons_zero, List.getElem_cons_succ]
        refine wpAnyH_done (by kernel_rfl) ?_ _
        go_wp2_with fail
        go_meet
        exact ⟨A10, c10, br13, rfl, holds_more HO.out (HH.out.later HT.out.2.2.2).2 ⟨col_one (k := 2) (f := rgC) HRG.out _ HRG.out.lt, by show (1 : Nat) ≤ _; omega⟩, HT.out⟩
  case rest =>
    obtain ⟨A9, c9, br, rfl, hm9, ht9⟩ := hcut
    generalize wc = W7 at *
    have M9 := Lib.hid hm9
    have H7 := Lib.hid ht9
    clear hm9 ht9 H5
    obtain ⟨cc, hcc⟩ : ∃ z, goesB rs (hs ++ [nHold t br mx]) nw t = z := ⟨_, rfl⟩
    have GC := Lib.hid hcc
    clear hcc
    have SM1 : Hid (∀ h ∈ hs ++ [nHold t br mx], h.n ≤ 1000000) := Lib.hid (fun h hh => by
      rcases List.mem_append.1 hh with h1 | h1
      · exact HSM.out.2.2.2 h h1
      · rw [List.mem_singleton.1 h1]; show (1 : Nat) ≤ _; omega)
    go_wp2_with ((with_reducible show wpList _ _ _ (⟨some 59, _, _, _, _, _⟩ :: _) _ _); refine hold ?_)
    refine held (wpList_load_mid rfl 33 (.tmp 4) rfl b4 0 rfl _ _ H7.out.2.1.range Try.underlying33 rfl (by kernel_rfl) ?_)
    have k0 := H7.out.1.cell 0
    go_wp2_with fail
    have CG := Lib.hid (rlGoes_any A A9 n c (m + 1) c9 rs (hs ++ [nHold t br mx]) t nw W7 (HR.out.later H7.out.2.2.2) hn M9.out (by have := HSM.out.2.1; omega) SM1.out HAT.out HKS.out)
    rw [GC.out] at CG
    refine CG.out.mono ?_
    rintro e W8 ⟨rfl, hb⟩
    have H8 := Lib.hid (H7.out.next hb)
    clear hb CG H7 k0 M9 SM1
    go_upto_region 10 with (fail)
    go_cut [13] (fun x13 wx => ∃ A9 c9, x13 = .slice A9 (m + 1) c9 ∧ HoldsIn wx wx.heap.size A9 (m + 1) (hs ++ [aHold t]) ∧ TimeIn w b3 b4 b5 A B n c m d t x0 x1 x2 wx)
    case first =>
      go_wp2_with fail
      refine wp_region_held_drew (S := TimeIn w b3 b4 b5 A B n c m d t x0 x1 x2) hfm (H8.out.next (Below.refl _ _).drew) (fun hHeld => ?_)
      simp only [List.size_toArray, List.length_cons, List.length_nil, Nat.reduceAdd]
      obtain ⟨U0, hU0⟩ : ∃ V, V = W8.drew := ⟨_, rfl⟩
      obtain ⟨bz, hz0⟩ : ∃ z, z = U0.heap.size := ⟨_, rfl⟩
      have Z : Hid (b3 < bz ∧ b4 < bz ∧ b5 < bz ∧ w.heap.size ≤ bz) := Lib.hid (by rw [hz0, hU0]; exact ⟨H8.out.1.lt, H8.out.2.1.lt, H8.out.2.2.1.lt, H8.out.2.2.2.size⟩)
      rw [← hU0] at hHeld ⊢
      clear hU0 H8
      have HP : Hid (Own8 bz 0 none 0 0 [] false false 0 0 #[] #[] U0) := Lib.hid (Own8.zero (by omega))
      clear hz0
      refine wpAnyH_take (i := 1) (v := .pointer (some ⟨b3, 1, none⟩)) rfl (by kernel_rfl) (by kernel_rfl) (by kernel_rfl) (fun _ _ _ h => h) (Or.inl ⟨by rfl, fun w0 hC => by simp [execOp, Act.eval, Act.put, go_sem]⟩) hHeld ?_
      try simp only [Act.put, List.setIfInBounds_toArray, List.set_cons_zero, List.set_cons_succ, List.getElem_toArray, List.getElem_cons_zero, List.getElem_cons_succ]
      refine wpAnyH_take (i := 2) (v := .slice B m d) rfl (by kernel_rfl) (by kernel_rfl) (by kernel_rfl) (fun _ _ _ h => h) (Or.inl ⟨by rfl, fun w0 hC => by simp [execOp, Act.eval, Act.put, go_sem, hC.1.cell 1]⟩) hHeld ?_
      try simp only [Act.put, List.setIfInBounds_toArray, List.set_cons_zero, List.set_cons_succ, List.getElem_toArray, List.getElem_cons_zero, List.getElem_cons_succ]
      refine wpAnyH_take (i := 4) (v := .pointer (some ⟨b4, 1, none⟩)) rfl (by kernel_rfl) (by kernel_rfl) (by kernel_rfl) (fun _ _ _ h => h) (Or.inl ⟨by rfl, fun w0 hC => by simp [execOp, Act.eval, Act.put, go_sem]⟩) hHeld ?_
      try simp only [Act.put, List.setIfInBounds_toArray, List.set_cons_zero, List.set_cons_succ, List.getElem_toArray, List.getElem_cons_zero, List.getElem_cons_succ]
      refine wpAnyH_take (i := 5) (v := .string t.box) rfl (by kernel_rfl) (by kernel_rfl) (by kernel_rfl) (fun _ _ _ h => h) (Or.inl ⟨by rfl, fun w0 hC => by simp [execOp, Act.eval, Act.put, go_sem, hC.2.1.tm.2.1]⟩) hHeld ?_
      try simp only [Act.put, List.setIfInBounds_toArray, List.set_cons_zero, List.set_cons_succ, List.getElem_toArray, List.getElem_cons_zero, List.getElem_cons_succ]
      refine wpAnyH_take (i := 6) (v := .agg #[.int .i64 0, .string t.box, .slice none 0 0]) rfl (by kernel_rfl) (by kernel_rfl) (by kernel_rfl) (fun _ _ _ h => h) (Or.inl ⟨by rfl, fun w0 hC => by simp [execOp, Act.eval, Act.put, go_sem]⟩) hHeld ?_
      try simp only [Act.put, List.setIfInBounds_toArray, List.set_cons_zero, List.set_cons_succ, List.getElem_toArray, List.getElem_cons_zero, List.getElem_cons_succ]
      refine wpAnyH_ready (rs := [0, 7]) (by kernel_rfl) (by simp) (AllReadyH.cons rfl (fun K hK => ?_) (AllReadyH.cons rfl (fun K hK => ?_) AllReadyH.nil))
      · rw [if_pos (by rfl)]
        go_wp2_with fail
        have HP2 := Lib.hid HP.out.op0
        have hS := hHeld.next ((Below.refl _ _).alloc (Nat.le_refl _) (.cells #[] 51))
        obtain ⟨g25, hg⟩ : ∃ g, U0.heap.size = g := ⟨_, rfl⟩
        rw [hg] at HP2 ⊢
        clear hHeld HP hg
        have HP := HP2
        clear HP2
        obtain ⟨V25, hV2⟩ : ∃ V, V = U0.alloc (.cells #[] 51) := ⟨_, rfl⟩
        rw [← hV2] at hS HP ⊢
        clear hV2
        refine hK.out _ _ hS (fun hHeld => ?_)
        clear hK K
        try simp only [Act.put, List.setIfInBounds_toArray, List.set_cons_zero, List.set_cons_succ, List.getElem_toArray, List.getElem_cons_zero, List.getElem_cons_succ]
        clear hS
        refine wpAnyH_ready (rs := [3, 7]) (by kernel_rfl) (by simp) (AllReadyH.cons rfl (fun K hK => ?_) (AllReadyH.cons rfl (fun K hK => ?_) AllReadyH.nil))
        · rw [if_pos (by rfl)]
          obtain ⟨A9, c9, V26, hrun, hp, hbz⟩ := HP.out.op3 (d := d) (HH.out.later hHeld.2.2.2).1 HSM.out.2.1
          have HP2 := Lib.hid hp
          have hS := hHeld.nextB hbz Z.out.1 Z.out.2.1 Z.out.2.2.1 Z.out.2.2.2
          refine wp_append_ks (s := .tmp 65) (x := .tmp 67) rfl rfl rfl hrun ?_
          clear hHeld HP hp hbz hrun
          have HP := HP2
          clear HP2
          refine hK.out _ _ hS (fun hHeld => ?_)
          clear hK K
          try simp only [Act.put, List.setIfInBounds_toArray, List.set_cons_zero, List.set_cons_succ, List.getElem_toArray, List.getElem_cons_zero, List.getElem_cons_succ]
          clear hS
          refine wpAnyH_ready (rs := [7]) (by kernel_rfl) (by simp) (AllReadyH.cons rfl (fun K hK => ?_) AllReadyH.nil)
          rw [if_pos (by rfl)]
          go_wp2_with fail
          have HP2 := Lib.hid ((HP.out.with (hhA (aHold t))).op15)
          show K _ (V26.alloc (.cells (hhA (aHold t)) 51))
          have hS := hHeld.next ((Below.refl _ _).alloc (Nat.le_refl _) (.cells (hhA (aHold t)) 51))
          obtain ⟨bh27, hg⟩ : ∃ g, V26.heap.size = g := ⟨_, rfl⟩
          rw [hg] at HP2 ⊢
          clear hHeld HP hg
          have HP := HP2
          clear HP2
          obtain ⟨V27, hV2⟩ : ∃ V, V = V26.alloc (.cells (hhA (aHold t)) 51) := ⟨_, rfl⟩
          rw [← hV2] at hS HP ⊢
          clear hV2
          refine hK.out _ _ hS (fun hHeld => ?_)
          clear hK K
          try simp only [Act.put, List.setIfInBounds_toArray, List.set_cons_zero, List.set_cons_succ, List.getElem_toArray, List.getElem_cons_zero, List.getElem_cons_succ]
          clear hS
          refine wpAnyH_ready (rs := [8]) (by kernel_rfl) (by simp) (AllReadyH.cons rfl (fun K hK => ?_) AllReadyH.nil)
          rw [if_pos (by rfl)]
          obtain ⟨A10, c10, V28, hrun, ho, hrg, hbz⟩ := HP.out.op16 HSM.out.2.1
          have HO := Lib.hid ho
          have hS := hHeld.nextB hbz Z.out.1 Z.out.2.1 Z.out.2.2.1 Z.out.2.2.2
          refine wp_append_ks (s := .tmp 68) (x := .tmp 72) rfl rfl rfl hrun ?_
          clear hHeld HP ho hrg hbz hrun
          refine hK.out _ _ hS (fun hHeld => ?_)
          clear hK K
          try simp only [Act.put, List.setIfInBounds_toArray, List.set_cons_zero, List.set_cons_succ, List.getElem_toArray, List.getElem_cons_zero, List.getElem_cons_succ]
          clear hS
          have HT := Lib.hid hHeld
          refine wpAnyH_ready (rs := [9]) (by kernel_rfl) (by simp) (AllReadyH.cons rfl (fun K hK => ?_) AllReadyH.nil)
          rw [if_pos (by rfl)]
          go_wp2_with fail
          refine hK.out _ _ hHeld (fun hHeld => ?_)
          clear hK K
          try simp only [Act.put, List.setIfInBounds_toArray, List.set_cons_zero, List.set_cons_succ, List.getElem_toArray, List.getElem_cons_zero, List.getElem_cons_succ]
          refine wpAnyH_done (by kernel_rfl) ?_ _
          go_wp2_with fail
          go_meet
          exact ⟨A10, c10, rfl, holds_more HO.out (HH.out.later HT.out.2.2.2).2 ⟨ColK.nil, Nat.zero_le _⟩, HT.out⟩
        · rw [if_pos (by rfl)]
          go_wp2_with fail
          have HP2 := Lib.hid ((HP.out.with (hhA (aHold t))).op15)
          show K _ (V25.alloc (.cells (hhA (aHold t)) 51))
          have hS := hHeld.next ((Below.refl _ _).alloc (Nat.le_refl _) (.cells (hhA (aHold t)) 51))
          obtain ⟨bh29, hg⟩ : ∃ g, V25.heap.size = g := ⟨_, rfl⟩
          rw [hg] at HP2 ⊢
          clear hHeld HP hg
          have HP := HP2
          clear HP2
          obtain ⟨V29, hV2⟩ : ∃ V, V = V25.alloc (.cells (hhA (aHold t)) 51) := ⟨_, rfl⟩
          rw [← hV2] at hS HP ⊢
          clear hV2
          refine hK.out _ _ hS (fun hHeld => ?_)
          clear hK K
          try simp only [Act.put, List.setIfInBounds_toArray, List.set_cons_zero, List.set_cons_succ, List.getElem_toArray, List.getElem_cons_zero, List.getElem_cons_succ]
          clear hS
          refine wpAnyH_ready (rs := [3]) (by kernel_rfl) (by simp) (AllReadyH.cons rfl (fun K hK => ?_) AllReadyH.nil)
          rw [if_pos (by rfl)]
          obtain ⟨A9, c9, V30, hrun, hp, hbz⟩ := HP.out.op3 (d := d) (HH.out.later hHeld.2.2.2).1 HSM.out.2.1
          have HP2 := Lib.hid hp
          have hS := hHeld.nextB hbz Z.out.1 Z.out.2.1 Z.out.2.2.1 Z.out.2.2.2
          refine wp_append_ks (s := .tmp 65) (x := .tmp 67) rfl rfl rfl hrun ?_
          clear hHeld HP hp hbz hrun
          have HP := HP2
          clear HP2
          refine hK.out _ _ hS (fun hHeld => ?_)
          clear hK K
          try simp only [Act.put, List.setIfInBounds_toArray, List.set_cons_zero, List.set_cons_succ, List.getElem_toArray, List.getElem_cons_zero, List.getElem_cons_succ]
          clear hS
          refine wpAnyH_ready (rs := [8]) (by kernel_rfl) (by simp) (AllReadyH.cons rfl (fun K hK => ?_) AllReadyH.nil)
          rw [if_pos (by rfl)]
          obtain ⟨A10, c10, V31, hrun, ho, hrg, hbz⟩ := HP.out.op16 HSM.out.2.1
          have HO := Lib.hid ho
          have hS := hHeld.nextB hbz Z.out.1 Z.out.2.1 Z.out.2.2.1 Z.out.2.2.2
          refine wp_append_ks (s := .tmp 68) (x := .tmp 72) rfl rfl rfl hrun ?_
          clear hHeld HP ho hrg hbz hrun
          refine hK.out _ _ hS (fun hHeld => ?_)
          clear hK K
          try simp only [Act.put, List.setIfInBounds_toArray, List.set_cons_zero, List.set_cons_succ, List.getElem_toArray, List.getElem_cons_zero, List.getElem_cons_succ]
          clear hS
          have HT := Lib.hid hHeld
          refine wpAnyH_ready (rs := [9]) (by kernel_rfl) (by simp) (AllReadyH.cons rfl (fun K hK => ?_) AllReadyH.nil)
          rw [if_pos (by rfl)]
          go_wp2_with fail
          refine hK.out _ _ hHeld (fun hHeld => ?_)
          clear hK K
          try simp only [Act.put, List.setIfInBounds_toArray, List.set_cons_zero, List.set_cons_succ, List.getElem_toArray, List.getElem_cons_zero, List.getElem_cons_succ]
          refine wpAnyH_done (by kernel_rfl) ?_ _
          go_wp2_with fail
          go_meet
          exact ⟨A10, c10, rfl, holds_more HO.out (HH.out.later HT.out.2.2.2).2 ⟨ColK.nil, Nat.zero_le _⟩, HT.out⟩
      · rw [if_pos (by rfl)]
        go_wp2_with fail
        have HP2 := Lib.hid ((HP.out.with (hhA (aHold t))).op15)
        show K _ (U0.alloc (.cells (hhA (aHold t)) 51))
        have hS := hHeld.next ((Below.refl _ _).alloc (Nat.le_refl _) (.cells (hhA (aHold t)) 51))
        obtain ⟨bh32, hg⟩ : ∃ g, U0.heap.size = g := ⟨_, rfl⟩
        rw [hg] at HP2 ⊢
        clear hHeld HP hg
        have HP := HP2
        clear HP2
        obtain ⟨V32, hV2⟩ : ∃ V, V = U0.alloc (.cells (hhA (aHold t)) 51) := ⟨_, rfl⟩
        rw [← hV2] at hS HP ⊢
        clear hV2
        refine hK.out _ _ hS (fun hHeld => ?_)
        clear hK K
        try simp only [Act.put, List.setIfInBounds_toArray, List.set_cons_zero, List.set_cons_succ, List.getElem_toArray, List.getElem_cons_zero, List.getElem_cons_succ]
        clear hS
        refine wpAnyH_ready (rs := [0]) (by kernel_rfl) (by simp) (AllReadyH.cons rfl (fun K hK => ?_) AllReadyH.nil)
        rw [if_pos (by rfl)]
        go_wp2_with fail
        have HP2 := Lib.hid HP.out.op0
        have hS := hHeld.next ((Below.refl _ _).alloc (Nat.le_refl _) (.cells #[] 51))
        obtain ⟨g33, hg⟩ : ∃ g, V32.heap.size = g := ⟨_, rfl⟩
        rw [hg] at HP2 ⊢
        clear hHeld HP hg
        have HP := HP2
        clear HP2
        obtain ⟨V33, hV2⟩ : ∃ V, V = V32.alloc (.cells #[] 51) := ⟨_, rfl⟩
        rw [← hV2] at hS HP ⊢
        clear hV2
        refine hK.out _ _ hS (fun hHeld => ?_)
        clear hK K
        try simp only [Act.put, List.setIfInBounds_toArray, List.set_cons_zero, List.set_cons_succ, List.getElem_toArray, List.getElem_cons_zero, List.getElem_cons_succ]
        clear hS
        refine wpAnyH_ready (rs := [3]) (by kernel_rfl) (by simp) (AllReadyH.cons rfl (fun K hK => ?_) AllReadyH.nil)
        rw [if_pos (by rfl)]
        obtain ⟨A9, c9, V34, hrun, hp, hbz⟩ := HP.out.op3 (d := d) (HH.out.later hHeld.2.2.2).1 HSM.out.2.1
        have HP2 := Lib.hid hp
        have hS := hHeld.nextB hbz Z.out.1 Z.out.2.1 Z.out.2.2.1 Z.out.2.2.2
        refine wp_append_ks (s := .tmp 65) (x := .tmp 67) rfl rfl rfl hrun ?_
        clear hHeld HP hp hbz hrun
        have HP := HP2
        clear HP2
        refine hK.out _ _ hS (fun hHeld => ?_)
        clear hK K
        try simp only [Act.put, List.setIfInBounds_toArray, List.set_cons_zero, List.set_cons_succ, List.getElem_toArray, List.getElem_cons_zero, List.getElem_cons_succ]
        clear hS
        refine wpAnyH_ready (rs := [8]) (by kernel_rfl) (by simp) (AllReadyH.cons rfl (fun K hK => ?_) AllReadyH.nil)
        rw [if_pos (by rfl)]
        obtain ⟨A10, c10, V35, hrun, ho, hrg, hbz⟩ := HP.out.op16 HSM.out.2.1
        have HO := Lib.hid ho
        have hS := hHeld.nextB hbz Z.out.1 Z.out.2.1 Z.out.2.2.1 Z.out.2.2.2
        refine wp_append_ks (s := .tmp 68) (x := .tmp 72) rfl rfl rfl hrun ?_
        clear hHeld HP ho hrg hbz hrun
        refine hK.out _ _ hS (fun hHeld => ?_)
        clear hK K
        try simp only [Act.put, List.setIfInBounds_toArray, List.set_cons_zero, List.set_cons_succ, List.getElem_toArray, List.getElem_cons_zero, List.getElem_cons_succ]
        clear hS
        have HT := Lib.hid hHeld
        refine wpAnyH_ready (rs := [9]) (by kernel_rfl) (by simp) (AllReadyH.cons rfl (fun K hK => ?_) AllReadyH.nil)
        rw [if_pos (by rfl)]
        go_wp2_with fail
        refine hK.out _ _ hHeld (fun hHeld => ?_)
        clear hK K
        try simp only [Act.put, List.setIfInBounds_toArray, List.set_cons_zero, List.set_cons_succ, List.getElem_toArray, List.getElem_cons_zero, List.getElem_cons_succ]
        refine wpAnyH_done (by kernel_rfl) ?_ _
        go_wp2_with fail
        go_meet
        exact ⟨A10, c10, rfl, holds_more HO.out (HH.out.later HT.out.2.2.2).2 ⟨ColK.nil, Nat.zero_le _⟩, HT.out⟩
    case rest =>
      obtain ⟨A10, c10, rfl, hm9, ht9⟩ := hcut
      generalize wc = W9 at *
      have M9 := Lib.hid hm9
      have H9 := Lib.hid ht9
      clear hm9 ht9 H8
      have SM2 : Hid (∀ h ∈ hs ++ [aHold t], h.n ≤ 1000000) := Lib.hid (fun h hh => by
        rcases List.mem_append.1 hh with h1 | h1
        · exact HSM.out.2.2.2 h h1
        · rw [List.mem_singleton.1 h1]; show (0 : Nat) ≤ _; omega)
      have GZ : Hid (goesB rs (hs ++ [aHold t]) lt_ t = false) := Lib.hid (goes_all rfl rfl)
      have AB : Hid (a = true → b = true) := Lib.hid (fun h => by rw [← GB.out]; exact goes_later (by rw [GA.out]; exact h) NL.out)
      have CA : Hid (cc = true → a = true) := Lib.hid (fun h => by rw [← GA.out]; exact goes_more (by rw [GC.out]; exact h))
      have AH : Hid (a = true → heldR hs t.box t.uid = false) := Lib.hid (fun h => goes_held (by rw [GA.out]; exact h))
      clear GA GB GC
      cases a
      case false =>
        obtain rfl : cc = false := by
          cases cc
          · rfl
          · exact absurd (CA.out rfl) Bool.false_ne_true
        clear AB CA AH
        cases b
        all_goals
          go_wp2_with ((with_reducible show wpList _ _ _ (⟨some 103, _, _, _, _, _⟩ :: _) _ _); refine hold ?_)
          refine held (wpList_load_wanted (by rfl) 33 (.tmp 4) rfl b4 0 rfl _ _ H9.out.2.1.range Try.underlying33 rfl (by kernel_rfl) ?_)
          have k0 := H9.out.1.cell 0
          go_wp2_with fail
          have CG := Lib.hid (rlGoes_any A A10 n c (m + 1) c10 rs (hs ++ [aHold t]) t lt_ W9 (HR.out.later H9.out.2.2.2) hn M9.out (by have := HSM.out.2.1; omega) SM2.out HAT.out HKS.out)
          rw [GZ.out] at CG
          refine CG.out.mono ?_
          rintro e W10 ⟨rfl, hb⟩
          have HX := Lib.hid (H9.out.next hb)
          clear hb CG k0
          go_wp2_with fail
          go_ret
          exact ⟨rfl, HX.out.2.2.2⟩
      case true =>
        obtain rfl : b = true := AB.out rfl
        have HF := Lib.hid (AH.out rfl)
        clear AB CA AH
        cases cc
        all_goals
          have k1 := H9.out.1.cell 1
          have j1 := H9.out.2.1.tm.2.1
          have j3 := H9.out.2.1.tm.2.2.2.1
          go_wp2_with fail
          have CH := Lib.hid (rlHeld_any B m d t.box t.uid hs W9 (HH.out.later H9.out.2.2.2) hm HSM.out.2.2.2)
          rw [HF.out] at CH
          refine CH.out.mono ?_
          rintro e W10 ⟨rfl, hb⟩
          have HX := Lib.hid (H9.out.next hb)
          have MX2 := Lib.hid (M9.out.later hb)
          clear hb CH k1 j1 j3
          go_wp2_with ((with_reducible show wpList _ _ _ (⟨some 103, _, _, _, _, _⟩ :: _) _ _); refine hold ?_)
          refine held (wpList_load_wanted (by rfl) 33 (.tmp 4) rfl b4 0 rfl _ _ HX.out.2.1.range Try.underlying33 rfl (by kernel_rfl) ?_)
          have k0 := HX.out.1.cell 0
          go_wp2_with fail
          have CG := Lib.hid (rlGoes_any A A10 n c (m + 1) c10 rs (hs ++ [aHold t]) t lt_ W10 (HR.out.later HX.out.2.2.2) hn MX2.out (by have := HSM.out.2.1; omega) SM2.out HAT.out HKS.out)
          rw [GZ.out] at CG
          refine CG.out.mono ?_
          rintro e W11 ⟨rfl, hb⟩
          have HY := Lib.hid (HX.out.next hb)
          clear hb CG k0
          go_wp2_with fail
          go_ret
          exact ⟨rfl, HY.out.2.2.2⟩
end Go.Proofs.Ytkalnaidccgbiaa
