/-
 A part of the proof: see the last text.
-/
import Derived.Test.YtcdehejgnnnimaaGreatDoorSKvRight
import Derived.Deep.DeepCutAuto
namespace Go.Proofs.YtcdehejgnnnimaaGreatDoor
open List renaming setIfInBounds_toArray → jA, set_cons_zero → jB, set_cons_succ → jC
set_option linter.unusedVariables false
set_option linter.unusedSimpArgs false
open Go.RowKit
set_option linter.unusedVariables false
set_option linter.unusedSimpArgs false
structure FmtK (w : World) (n : Nat) (x : Dk) (b1 b2 b3 b7 : Nat) (W : World) : Prop where
 bx : Boxed w b1 b7 x 0 1 2 1 W
 k2 : Bk W b2 27 #[.slice none 0 0, .slice none 0 0, .int .i64 0, .bool false]
 k3 : Bk W b3 35 #[.int .i64 0, .int .i64 0, .int .i64 0, .int .i64 0, .slice none 0 0]
theorem format_snap {n : Nat} (v : Value) (d : Dk) (A5 : Option Addr) (n5 c5 : Nat) (W : World) (hd : DkAt W W.heap.size v d) (hF : Fine n d) (hL : Rss W W.heap.size A5 n5 (snapL [])) (hn : 4 ≤ n) (ht : Tab W) :
 Calls Tryz.prog 16 #[v, .slice A5 n5 c5] W fun e w' => ∃ x, Fine n x ∧ HoldsZ n x 0 1 (snapL []) ∧ LogRes W (x, 0) (logN 0 1 2 1) e w' := by
 have hl : (snapL []).length = n5 := hL.1
 have h1 : (snapL []).length = 1 := rfl
 have := format_fine v d A5 n5 c5 (snapL []) W hd hF hL (by omega) (snapL_ok (fun p hp => by cases hp)) (snapL_ne []) (by rw [sum_nil]; omega) ht
 rw [sum_nil, h1] at this
 exact this
set_option maxRecDepth 20000 in
set_option maxHeartbeats 4000000 in
theorem kformat_fine {n : Nat} (v : Value) (d : Dk) (w : World) (hd : DkAt w w.heap.size v d) (hF : Fine n d) (hn : 4 ≤ n) (ht : Tab w) :
 Calls Tryz.prog 6 #[v] w fun e w' => ∃ x, Fine n x ∧ HoldsZ n x 0 1 (snapL []) ∧ StoRes w (x, 0) 0 1 2 1 none 0 0 e w' := by
 obtain ⟨A1, n1, c1, A1', n1', c1', rfl, hx⟩ := hd
 have HD := Lib.hid (show DkAt w w.heap.size (.agg #[.slice A1 n1 c1, .slice A1' n1' c1', .int .i64 d.fuse, .bool d.down]) d from ⟨A1, n1, c1, A1', n1', c1', rfl, hx⟩)
 have HF := Lib.hid hF
 have HT := Lib.hid ht
 clear hF ht hx
 go_enter Tryz.func6, Tryz.ntmps6
 go_upto_region 1 with (fail)
 refine code_over (fun W => Below w.heap.size w W ∧ Bk W w.heap.size 27 #[.slice A1 n1 c1, .slice A1' n1' c1', .int .i64 d.fuse, .bool d.down] ∧ Bk W (w.heap.size + 1) 27 #[.slice none 0 0, .slice none 0 0, .int .i64 0, .bool false] ∧ Bk W (w.heap.size + 1 + 1) 35 #[.int .i64 0, .int .i64 0, .int .i64 0, .int .i64 0, .slice none 0 0]) ⟨(((Below.refl _ _).alloc (Nat.le_refl _) _).alloc (by simp) _).alloc (by simp only [World.size_alloc]; omega) _, ((Bk.new w _ _).alloc _).alloc _, (Bk.new2 w _ _ _).alloc _, Bk.new3 w _ _ _ _⟩ ?_
 obtain ⟨b1, hb1⟩ : ∃ b, b = w.heap.size := ⟨_, rfl⟩
 obtain ⟨b2, hb2⟩ : ∃ b, b = w.heap.size + 1 := ⟨_, rfl⟩
 obtain ⟨b3, hb3⟩ : ∃ b, b = w.heap.size + 1 + 1 := ⟨_, rfl⟩
 rintro W0 ⟨hb0, k1, k2, k3⟩
 rw [← hb3] at k3
 rw [← hb2] at k2
 have hl1 : w.heap.size ≤ b1 := by omega
 have hl2 : w.heap.size ≤ b2 := by omega
 have hl3 : w.heap.size ≤ b3 := by omega
 have hn21 : b2 ≠ b1 := by omega
 have hn31 : b3 ≠ b1 := by omega
 have hn32 : b3 ≠ b2 := by omega
 rw [← hb3, ← hb2, ← hb1]
 rw [← hb1] at k1
 clear hb1 hb2 hb3
 go_cut [5, 6] (fun x5 x6 wx => ∃ x b7, Fine n x ∧ HoldsZ n x 0 1 (snapL []) ∧ x5 = .pointer (some ⟨b7, 0, none⟩) ∧ x6 = .int .i64 0 ∧ w.heap.size ≤ b7 ∧ b7 ≠ b1 ∧ b7 ≠ b2 ∧ b7 ≠ b3 ∧ FmtK w n x b1 b2 b3 b7 wx)
 case first =>
  go_wp2_with fail
  have hm : Tryz.prog.follows .mixedOrders = true := by kernel_rfl
  refine wp_region_held_drew (S := fun W' => Below w.heap.size w W') hm (hb0.drew) (fun hHeld => ?_)
  replace k1 := k1.drew
  replace k2 := k2.drew
  replace k3 := k3.drew
  obtain ⟨V0, hV0⟩ : ∃ V, V = W0.drew := ⟨_, rfl⟩
  rw [← hV0] at hHeld k1 k2 k3 ⊢
  clear hV0 hb0
  simp only [List.size_toArray, List.length_cons, List.length_nil, Nat.reduceAdd]
  refine wpAnyH_ready (rs := [0, 1, 7]) (by kernel_rfl) (by simp) (AllReadyH.cons rfl (fun K hK => ?_) (AllReadyH.cons rfl (fun K hK => ?_) (AllReadyH.cons rfl (fun K hK => ?_) AllReadyH.nil)))
  ·rw [if_pos (by rfl)]
   obtain ⟨⟨p0, p1, p2, p3⟩, q0, q1, q2, q3⟩ := k1.four
   go_wp2_with fail
   clear p0 p1 p2 p3 q0 q1 q2 q3
   have hSa := hHeld
   clear hHeld
   refine hK.out _ _ hSa (fun hHeld => ?_)
   clear hK K
   try simp only [Act.put, jA, jB, jC]
   clear hSa
   refine wpAnyH_ready (rs := [1, 7]) (by kernel_rfl) (by simp) (AllReadyH.cons rfl (fun K hK => ?_) (AllReadyH.cons rfl (fun K hK => ?_) AllReadyH.nil))
   ·rw [if_pos (by rfl)]
    go_wp2_with fail
    refine (snapshot_any none 0 0 [] V0 ColK.nil (fun x hx => by cases hx) (by omega)).mono ?_
    rintro e V1 ⟨A5, n5, c5, us5, rfl, ho5, hr5, hba⟩
    have hrs := ho5.rss hr5 (snapL_ok (l := []) (fun p hp => by cases hp))
    clear ho5 hr5
    have hSa := hHeld.trans (hba.mono hHeld.size)
    replace k1 := k1.below hba k1.lt
    replace k2 := k2.below hba k2.lt
    replace k3 := k3.below hba k3.lt
    clear hba hHeld
    refine hK.out _ _ hSa (fun hHeld => ?_)
    clear hK K
    try simp only [Act.put, jA, jB, jC]
    clear hSa
    refine wpAnyH_ready (rs := [2, 7]) (by kernel_rfl) (by simp) (AllReadyH.cons rfl (fun K hK => ?_) (AllReadyH.cons rfl (fun K hK => ?_) AllReadyH.nil))
    ·rw [if_pos (by rfl)]
     go_wp2_with fail
     refine (format_snap _ d A5 n5 c5 V1 (HD.out.later hHeld) HF.out hrs hn (HT.out.below hHeld HT.out.pos)).mono ?_
     rintro e V2 ⟨x, hFx, hZx, v9, rfl, hd9, hba⟩
     obtain ⟨A9, n9, c9, A9', n9', c9', rfl, hx9⟩ := hd9
     have hd9 : DkAt V2 V2.heap.size (.agg #[.slice A9 n9 c9, .slice A9' n9' c9', .int .i64 x.fuse, .bool x.down]) x := ⟨A9, n9, c9, A9', n9', c9', rfl, hx9⟩
     clear hx9 hrs
     unfold logN
     have hSa := hHeld.trans (hba.mono hHeld.size)
     replace k1 := k1.below hba k1.lt
     replace k2 := k2.below hba k2.lt
     replace k3 := k3.below hba k3.lt
     clear hba hHeld
     refine hK.out _ _ hSa (fun hHeld => ?_)
     clear hK K
     try simp only [Act.put, jA, jB, jC]
     clear hSa
     refine wpAnyH_take (i := 3) (v := .tuple #[.agg #[.slice A9 n9 c9, .slice A9' n9' c9', .int .i64 x.fuse, .bool x.down], .agg #[.int .i64 ((0 : Nat) : Int), .int .i64 ((1 : Nat) : Int), .int .i64 ((2 : Nat) : Int), .int .i64 ((1 : Nat) : Int)], .int .i64 0]) rfl (by kernel_rfl) (by kernel_rfl) (by kernel_rfl) (fun _ _ _ h => h) (Or.inl ⟨by rfl, fun w0 hC => by simp [execOp, Act.eval, Act.put, go_sem]⟩) hHeld ?_
     try simp only [Act.put, jA, jB, jC]
     refine wpAnyH_take (i := 4) (v := .agg #[.slice A9 n9 c9, .slice A9' n9' c9', .int .i64 x.fuse, .bool x.down]) rfl (by kernel_rfl) (by kernel_rfl) (by kernel_rfl) (fun _ _ _ h => h) (Or.inl ⟨by rfl, fun w0 hC => by simp [execOp, Act.eval, Act.put, go_sem]⟩) hHeld ?_
     try simp only [Act.put, jA, jB, jC]
     refine wpAnyH_take (i := 5) (v := .agg #[.int .i64 ((0 : Nat) : Int), .int .i64 ((1 : Nat) : Int), .int .i64 ((2 : Nat) : Int), .int .i64 ((1 : Nat) : Int)]) rfl (by kernel_rfl) (by kernel_rfl) (by kernel_rfl) (fun _ _ _ h => h) (Or.inl ⟨by rfl, fun w0 hC => by simp [execOp, Act.eval, Act.put, go_sem]⟩) hHeld ?_
     try simp only [Act.put, jA, jB, jC]
     refine wpAnyH_take (i := 6) (v := .int .i64 0) rfl (by kernel_rfl) (by kernel_rfl) (by kernel_rfl) (fun _ _ _ h => h) (Or.inl ⟨by rfl, fun w0 hC => by simp [execOp, Act.eval, Act.put, go_sem]⟩) hHeld ?_
     try simp only [Act.put, jA, jB, jC]
     refine wpAnyH_ready (rs := [7]) (by kernel_rfl) (by simp) (AllReadyH.cons rfl (fun K hK => ?_) AllReadyH.nil)
     rw [if_pos (by rfl)]
     go_wp2_with fail
     have hl7 : w.heap.size ≤ V2.heap.size := hHeld.size
     have hne : V2.heap.size ≠ b1 := by have := k1.lt; omega
     have hn72 : V2.heap.size ≠ b2 := by have := k2.lt; omega
     have hn73 : V2.heap.size ≠ b3 := by have := k3.lt; omega
     refine k_over (fun W' => Below V2.heap.size V2 W' ∧ Bk W' V2.heap.size 32 #[.int .i64 0, .int .i64 0, .int .i64 0, .int .i64 0]) ⟨(Below.refl _ _).alloc (Nat.le_refl _) _, Bk.new V2 _ _⟩ ?_
     rintro V3 ⟨hba, k7⟩
     obtain ⟨b7, hz⟩ : ∃ b, b = V2.heap.size := ⟨_, rfl⟩
     rw [← hz] at k7 hl7 hne hn72 hn73 ⊢
     clear hz
     have hSa := hHeld.trans (hba.mono hHeld.size)
     replace k1 := k1.below hba k1.lt
     replace k2 := k2.below hba k2.lt
     replace k3 := k3.below hba k3.lt
     replace hd9 := hd9.later hba
     clear hba hHeld
     refine hK.out _ _ hSa (fun hHeld => ?_)
     clear hK K
     try simp only [Act.put, jA, jB, jC]
     clear hSa
     have hf8 := stored4_facts k1 (.slice A9 n9 c9) (.slice A9' n9' c9') (.int .i64 x.fuse) (.bool x.down)
     have HS : Hid ((fun W' => Below w.heap.size w W' ∧ Bk W' b1 27 #[.slice A9 n9 c9, .slice A9' n9' c9', .int .i64 x.fuse, .bool x.down] ∧ Bk W' b7 32 #[.int .i64 0, .int .i64 0, .int .i64 0, .int .i64 0] ∧ DkAt W' W'.heap.size (.agg #[.slice A9 n9 c9, .slice A9' n9' c9', .int .i64 x.fuse, .bool x.down]) x ∧ Bk W' b2 27 #[.slice none 0 0, .slice none 0 0, .int .i64 0, .bool false] ∧ Bk W' b3 35 #[.int .i64 0, .int .i64 0, .int .i64 0, .int .i64 0, .slice none 0 0]) (stored4 V3 b1 (.slice A9 n9 c9) (.slice A9' n9' c9') (.int .i64 x.fuse) (.bool x.down))) := Lib.hid ⟨hf8.2.2.1 _ _ hHeld hl1, hf8.1, hf8.2.2.2 _ _ _ hne k7, hf8.2.1 _ _ hd9, hf8.2.2.2 _ _ _ hn21 k2, hf8.2.2.2 _ _ _ hn31 k3⟩
     unfold stored4 at HS
     obtain ⟨⟨p0, p1, p2, p3⟩, q0, q1, q2, q3⟩ := k1.four
     clear hf8 k7 k2 k3 hd9
     refine wpAnyH_ready (rs := [8]) (by kernel_rfl) (by simp) (AllReadyH.cons rfl (fun K hK => ?_) AllReadyH.nil)
     rw [if_pos (by rfl)]
     go_wp2_with fail
     refine k_over (fun W' => Below w.heap.size w W' ∧ Bk W' b1 27 #[.slice A9 n9 c9, .slice A9' n9' c9', .int .i64 x.fuse, .bool x.down] ∧ Bk W' b7 32 #[.int .i64 0, .int .i64 0, .int .i64 0, .int .i64 0] ∧ DkAt W' W'.heap.size (.agg #[.slice A9 n9 c9, .slice A9' n9' c9', .int .i64 x.fuse, .bool x.down]) x ∧ Bk W' b2 27 #[.slice none 0 0, .slice none 0 0, .int .i64 0, .bool false] ∧ Bk W' b3 35 #[.int .i64 0, .int .i64 0, .int .i64 0, .int .i64 0, .slice none 0 0]) HS.out ?_
     clear HS k1 p0 p1 p2 p3 q0 q1 q2 q3 hHeld
     rintro U1 ⟨hSa, k1, k7, hd9, k2, k3⟩
     refine hK.out _ _ hSa (fun hHeld => ?_)
     clear hK K
     try simp only [Act.put, jA, jB, jC]
     clear hSa
     have hf9 := stored4_facts k7 (.int .i64 ((0 : Nat) : Int)) (.int .i64 ((1 : Nat) : Int)) (.int .i64 ((2 : Nat) : Int)) (.int .i64 ((1 : Nat) : Int))
     have HS : Hid ((fun W' => FmtK w n x b1 b2 b3 b7 W') (stored4 U1 b7 (.int .i64 ((0 : Nat) : Int)) (.int .i64 ((1 : Nat) : Int)) (.int .i64 ((2 : Nat) : Int)) (.int .i64 ((1 : Nat) : Int)))) := Lib.hid ⟨⟨⟨A9, n9, c9, A9', n9', c9', hf9.2.2.2 _ _ _ (Ne.symm hne) k1, hf9.2.1 _ _ hd9⟩, hf9.1, hf9.2.2.1 _ _ hHeld hl7⟩, hf9.2.2.2 _ _ _ (Ne.symm hn72) k2, hf9.2.2.2 _ _ _ (Ne.symm hn73) k3⟩
     unfold stored4 at HS
     obtain ⟨⟨p0, p1, p2, p3⟩, q0, q1, q2, q3⟩ := k7.four
     clear hf9 k1 hd9 k2 k3
     refine wpAnyH_ready (rs := [9]) (by kernel_rfl) (by simp) (AllReadyH.cons rfl (fun K hK => ?_) AllReadyH.nil)
     rw [if_pos (by rfl)]
     go_wp2_with fail
     refine k_over (fun W' => FmtK w n x b1 b2 b3 b7 W') HS.out ?_
     clear HS k7 p0 p1 p2 p3 q0 q1 q2 q3 hHeld
     rintro U2 hU2
     refine hK.out _ _ hU2.bx.hb (fun hHeld => ?_)
     clear hK K
     try simp only [Act.put, jA, jB, jC]
     refine wpAnyH_ready (rs := [10]) (by kernel_rfl) (by simp) (AllReadyH.cons rfl (fun K hK => ?_) AllReadyH.nil)
     rw [if_pos (by rfl)]
     go_wp2_with fail
     refine hK.out _ _ hHeld (fun hHeld => ?_)
     clear hK K
     try simp only [Act.put, jA, jB, jC]
     refine wpAnyH_done (by kernel_rfl) ?_ _
     go_wp2_with fail
     go_meet
     exact ⟨x, b7, hFx, hZx, rfl, rfl, hl7, hne, hn72, hn73, hU2⟩
    ·rw [if_pos (by rfl)]
     go_wp2_with fail
     have hl7 : w.heap.size ≤ V1.heap.size := hHeld.size
     have hne : V1.heap.size ≠ b1 := by have := k1.lt; omega
     have hn72 : V1.heap.size ≠ b2 := by have := k2.lt; omega
     have hn73 : V1.heap.size ≠ b3 := by have := k3.lt; omega
     refine k_over (fun W' => Below V1.heap.size V1 W' ∧ Bk W' V1.heap.size 32 #[.int .i64 0, .int .i64 0, .int .i64 0, .int .i64 0]) ⟨(Below.refl _ _).alloc (Nat.le_refl _) _, Bk.new V1 _ _⟩ ?_
     rintro V4 ⟨hba, k7⟩
     obtain ⟨b7, hz⟩ : ∃ b, b = V1.heap.size := ⟨_, rfl⟩
     rw [← hz] at k7 hl7 hne hn72 hn73 ⊢
     clear hz
     have hSa := hHeld.trans (hba.mono hHeld.size)
     replace k1 := k1.below hba k1.lt
     replace k2 := k2.below hba k2.lt
     replace k3 := k3.below hba k3.lt
     replace hrs := hrs.later hba
     clear hba hHeld
     refine hK.out _ _ hSa (fun hHeld => ?_)
     clear hK K
     try simp only [Act.put, jA, jB, jC]
     clear hSa
     refine wpAnyH_ready (rs := [2]) (by kernel_rfl) (by simp) (AllReadyH.cons rfl (fun K hK => ?_) AllReadyH.nil)
     rw [if_pos (by rfl)]
     go_wp2_with fail
     refine (format_snap _ d A5 n5 c5 V4 (HD.out.later hHeld) HF.out hrs hn (HT.out.below hHeld HT.out.pos)).mono ?_
     rintro e V5 ⟨x, hFx, hZx, v9, rfl, hd9, hba⟩
     obtain ⟨A9, n9, c9, A9', n9', c9', rfl, hx9⟩ := hd9
     have hd9 : DkAt V5 V5.heap.size (.agg #[.slice A9 n9 c9, .slice A9' n9' c9', .int .i64 x.fuse, .bool x.down]) x := ⟨A9, n9, c9, A9', n9', c9', rfl, hx9⟩
     clear hx9 hrs
     unfold logN
     have hSa := hHeld.trans (hba.mono hHeld.size)
     replace k1 := k1.below hba k1.lt
     replace k2 := k2.below hba k2.lt
     replace k3 := k3.below hba k3.lt
     replace k7 := k7.below hba k7.lt
     clear hba hHeld
     refine hK.out _ _ hSa (fun hHeld => ?_)
     clear hK K
     try simp only [Act.put, jA, jB, jC]
     clear hSa
     refine wpAnyH_take (i := 3) (v := .tuple #[.agg #[.slice A9 n9 c9, .slice A9' n9' c9', .int .i64 x.fuse, .bool x.down], .agg #[.int .i64 ((0 : Nat) : Int), .int .i64 ((1 : Nat) : Int), .int .i64 ((2 : Nat) : Int), .int .i64 ((1 : Nat) : Int)], .int .i64 0]) rfl (by kernel_rfl) (by kernel_rfl) (by kernel_rfl) (fun _ _ _ h => h) (Or.inl ⟨by rfl, fun w0 hC => by simp [execOp, Act.eval, Act.put, go_sem]⟩) hHeld ?_
     try simp only [Act.put, jA, jB, jC]
     refine wpAnyH_take (i := 4) (v := .agg #[.slice A9 n9 c9, .slice A9' n9' c9', .int .i64 x.fuse, .bool x.down]) rfl (by kernel_rfl) (by kernel_rfl) (by kernel_rfl) (fun _ _ _ h => h) (Or.inl ⟨by rfl, fun w0 hC => by simp [execOp, Act.eval, Act.put, go_sem]⟩) hHeld ?_
     try simp only [Act.put, jA, jB, jC]
     refine wpAnyH_take (i := 5) (v := .agg #[.int .i64 ((0 : Nat) : Int), .int .i64 ((1 : Nat) : Int), .int .i64 ((2 : Nat) : Int), .int .i64 ((1 : Nat) : Int)]) rfl (by kernel_rfl) (by kernel_rfl) (by kernel_rfl) (fun _ _ _ h => h) (Or.inl ⟨by rfl, fun w0 hC => by simp [execOp, Act.eval, Act.put, go_sem]⟩) hHeld ?_
     try simp only [Act.put, jA, jB, jC]
     refine wpAnyH_take (i := 6) (v := .int .i64 0) rfl (by kernel_rfl) (by kernel_rfl) (by kernel_rfl) (fun _ _ _ h => h) (Or.inl ⟨by rfl, fun w0 hC => by simp [execOp, Act.eval, Act.put, go_sem]⟩) hHeld ?_
     try simp only [Act.put, jA, jB, jC]
     have hf8 := stored4_facts k1 (.slice A9 n9 c9) (.slice A9' n9' c9') (.int .i64 x.fuse) (.bool x.down)
     have HS : Hid ((fun W' => Below w.heap.size w W' ∧ Bk W' b1 27 #[.slice A9 n9 c9, .slice A9' n9' c9', .int .i64 x.fuse, .bool x.down] ∧ Bk W' b7 32 #[.int .i64 0, .int .i64 0, .int .i64 0, .int .i64 0] ∧ DkAt W' W'.heap.size (.agg #[.slice A9 n9 c9, .slice A9' n9' c9', .int .i64 x.fuse, .bool x.down]) x ∧ Bk W' b2 27 #[.slice none 0 0, .slice none 0 0, .int .i64 0, .bool false] ∧ Bk W' b3 35 #[.int .i64 0, .int .i64 0, .int .i64 0, .int .i64 0, .slice none 0 0]) (stored4 V5 b1 (.slice A9 n9 c9) (.slice A9' n9' c9') (.int .i64 x.fuse) (.bool x.down))) := Lib.hid ⟨hf8.2.2.1 _ _ hHeld hl1, hf8.1, hf8.2.2.2 _ _ _ hne k7, hf8.2.1 _ _ hd9, hf8.2.2.2 _ _ _ hn21 k2, hf8.2.2.2 _ _ _ hn31 k3⟩
     unfold stored4 at HS
     obtain ⟨⟨p0, p1, p2, p3⟩, q0, q1, q2, q3⟩ := k1.four
     clear hf8 k7 k2 k3 hd9
     refine wpAnyH_ready (rs := [8]) (by kernel_rfl) (by simp) (AllReadyH.cons rfl (fun K hK => ?_) AllReadyH.nil)
     rw [if_pos (by rfl)]
     go_wp2_with fail
     refine k_over (fun W' => Below w.heap.size w W' ∧ Bk W' b1 27 #[.slice A9 n9 c9, .slice A9' n9' c9', .int .i64 x.fuse, .bool x.down] ∧ Bk W' b7 32 #[.int .i64 0, .int .i64 0, .int .i64 0, .int .i64 0] ∧ DkAt W' W'.heap.size (.agg #[.slice A9 n9 c9, .slice A9' n9' c9', .int .i64 x.fuse, .bool x.down]) x ∧ Bk W' b2 27 #[.slice none 0 0, .slice none 0 0, .int .i64 0, .bool false] ∧ Bk W' b3 35 #[.int .i64 0, .int .i64 0, .int .i64 0, .int .i64 0, .slice none 0 0]) HS.out ?_
     clear HS k1 p0 p1 p2 p3 q0 q1 q2 q3 hHeld
     rintro U1 ⟨hSa, k1, k7, hd9, k2, k3⟩
     refine hK.out _ _ hSa (fun hHeld => ?_)
     clear hK K
     try simp only [Act.put, jA, jB, jC]
     clear hSa
     have hf9 := stored4_facts k7 (.int .i64 ((0 : Nat) : Int)) (.int .i64 ((1 : Nat) : Int)) (.int .i64 ((2 : Nat) : Int)) (.int .i64 ((1 : Nat) : Int))
     have HS : Hid ((fun W' => FmtK w n x b1 b2 b3 b7 W') (stored4 U1 b7 (.int .i64 ((0 : Nat) : Int)) (.int .i64 ((1 : Nat) : Int)) (.int .i64 ((2 : Nat) : Int)) (.int .i64 ((1 : Nat) : Int)))) := Lib.hid ⟨⟨⟨A9, n9, c9, A9', n9', c9', hf9.2.2.2 _ _ _ (Ne.symm hne) k1, hf9.2.1 _ _ hd9⟩, hf9.1, hf9.2.2.1 _ _ hHeld hl7⟩, hf9.2.2.2 _ _ _ (Ne.symm hn72) k2, hf9.2.2.2 _ _ _ (Ne.symm hn73) k3⟩
     unfold stored4 at HS
     obtain ⟨⟨p0, p1, p2, p3⟩, q0, q1, q2, q3⟩ := k7.four
     clear hf9 k1 hd9 k2 k3
     refine wpAnyH_ready (rs := [9]) (by kernel_rfl) (by simp) (AllReadyH.cons rfl (fun K hK => ?_) AllReadyH.nil)
     rw [if_pos (by rfl)]
     go_wp2_with fail
     refine k_over (fun W' => FmtK w n x b1 b2 b3 b7 W') HS.out ?_
     clear HS k7 p0 p1 p2 p3 q0 q1 q2 q3 hHeld
     rintro U2 hU2
     refine hK.out _ _ hU2.bx.hb (fun hHeld => ?_)
     clear hK K
     try simp only [Act.put, jA, jB, jC]
     refine wpAnyH_ready (rs := [10]) (by kernel_rfl) (by simp) (AllReadyH.cons rfl (fun K hK => ?_) AllReadyH.nil)
     rw [if_pos (by rfl)]
     go_wp2_with fail
     refine hK.out _ _ hHeld (fun hHeld => ?_)
     clear hK K
     try simp only [Act.put, jA, jB, jC]
     refine wpAnyH_done (by kernel_rfl) ?_ _
     go_wp2_with fail
     go_meet
     exact ⟨x, b7, hFx, hZx, rfl, rfl, hl7, hne, hn72, hn73, hU2⟩
   ·rw [if_pos (by rfl)]
    go_wp2_with fail
    have hl7 : w.heap.size ≤ V0.heap.size := hHeld.size
    have hne : V0.heap.size ≠ b1 := by have := k1.lt; omega
    have hn72 : V0.heap.size ≠ b2 := by have := k2.lt; omega
    have hn73 : V0.heap.size ≠ b3 := by have := k3.lt; omega
    refine k_over (fun W' => Below V0.heap.size V0 W' ∧ Bk W' V0.heap.size 32 #[.int .i64 0, .int .i64 0, .int .i64 0, .int .i64 0]) ⟨(Below.refl _ _).alloc (Nat.le_refl _) _, Bk.new V0 _ _⟩ ?_
    rintro V6 ⟨hba, k7⟩
    obtain ⟨b7, hz⟩ : ∃ b, b = V0.heap.size := ⟨_, rfl⟩
    rw [← hz] at k7 hl7 hne hn72 hn73 ⊢
    clear hz
    have hSa := hHeld.trans (hba.mono hHeld.size)
    replace k1 := k1.below hba k1.lt
    replace k2 := k2.below hba k2.lt
    replace k3 := k3.below hba k3.lt
    clear hba hHeld
    refine hK.out _ _ hSa (fun hHeld => ?_)
    clear hK K
    try simp only [Act.put, jA, jB, jC]
    clear hSa
    refine wpAnyH_ready (rs := [1]) (by kernel_rfl) (by simp) (AllReadyH.cons rfl (fun K hK => ?_) AllReadyH.nil)
    rw [if_pos (by rfl)]
    go_wp2_with fail
    refine (snapshot_any none 0 0 [] V6 ColK.nil (fun x hx => by cases hx) (by omega)).mono ?_
    rintro e V7 ⟨A5, n5, c5, us5, rfl, ho5, hr5, hba⟩
    have hrs := ho5.rss hr5 (snapL_ok (l := []) (fun p hp => by cases hp))
    clear ho5 hr5
    have hSa := hHeld.trans (hba.mono hHeld.size)
    replace k1 := k1.below hba k1.lt
    replace k2 := k2.below hba k2.lt
    replace k3 := k3.below hba k3.lt
    replace k7 := k7.below hba k7.lt
    clear hba hHeld
    refine hK.out _ _ hSa (fun hHeld => ?_)
    clear hK K
    try simp only [Act.put, jA, jB, jC]
    clear hSa
    refine wpAnyH_ready (rs := [2]) (by kernel_rfl) (by simp) (AllReadyH.cons rfl (fun K hK => ?_) AllReadyH.nil)
    rw [if_pos (by rfl)]
    go_wp2_with fail
    refine (format_snap _ d A5 n5 c5 V7 (HD.out.later hHeld) HF.out hrs hn (HT.out.below hHeld HT.out.pos)).mono ?_
    rintro e V8 ⟨x, hFx, hZx, v9, rfl, hd9, hba⟩
    obtain ⟨A9, n9, c9, A9', n9', c9', rfl, hx9⟩ := hd9
    have hd9 : DkAt V8 V8.heap.size (.agg #[.slice A9 n9 c9, .slice A9' n9' c9', .int .i64 x.fuse, .bool x.down]) x := ⟨A9, n9, c9, A9', n9', c9', rfl, hx9⟩
    clear hx9 hrs
    unfold logN
    have hSa := hHeld.trans (hba.mono hHeld.size)
    replace k1 := k1.below hba k1.lt
    replace k2 := k2.below hba k2.lt
    replace k3 := k3.below hba k3.lt
    replace k7 := k7.below hba k7.lt
    clear hba hHeld
    refine hK.out _ _ hSa (fun hHeld => ?_)
    clear hK K
    try simp only [Act.put, jA, jB, jC]
    clear hSa
    refine wpAnyH_take (i := 3) (v := .tuple #[.agg #[.slice A9 n9 c9, .slice A9' n9' c9', .int .i64 x.fuse, .bool x.down], .agg #[.int .i64 ((0 : Nat) : Int), .int .i64 ((1 : Nat) : Int), .int .i64 ((2 : Nat) : Int), .int .i64 ((1 : Nat) : Int)], .int .i64 0]) rfl (by kernel_rfl) (by kernel_rfl) (by kernel_rfl) (fun _ _ _ h => h) (Or.inl ⟨by rfl, fun w0 hC => by simp [execOp, Act.eval, Act.put, go_sem]⟩) hHeld ?_
    try simp only [Act.put, jA, jB, jC]
    refine wpAnyH_take (i := 4) (v := .agg #[.slice A9 n9 c9, .slice A9' n9' c9', .int .i64 x.fuse, .bool x.down]) rfl (by kernel_rfl) (by kernel_rfl) (by kernel_rfl) (fun _ _ _ h => h) (Or.inl ⟨by rfl, fun w0 hC => by simp [execOp, Act.eval, Act.put, go_sem]⟩) hHeld ?_
    try simp only [Act.put, jA, jB, jC]
    refine wpAnyH_take (i := 5) (v := .agg #[.int .i64 ((0 : Nat) : Int), .int .i64 ((1 : Nat) : Int), .int .i64 ((2 : Nat) : Int), .int .i64 ((1 : Nat) : Int)]) rfl (by kernel_rfl) (by kernel_rfl) (by kernel_rfl) (fun _ _ _ h => h) (Or.inl ⟨by rfl, fun w0 hC => by simp [execOp, Act.eval, Act.put, go_sem]⟩) hHeld ?_
    try simp only [Act.put, jA, jB, jC]
    refine wpAnyH_take (i := 6) (v := .int .i64 0) rfl (by kernel_rfl) (by kernel_rfl) (by kernel_rfl) (fun _ _ _ h => h) (Or.inl ⟨by rfl, fun w0 hC => by simp [execOp, Act.eval, Act.put, go_sem]⟩) hHeld ?_
    try simp only [Act.put, jA, jB, jC]
    have hf8 := stored4_facts k1 (.slice A9 n9 c9) (.slice A9' n9' c9') (.int .i64 x.fuse) (.bool x.down)
    have HS : Hid ((fun W' => Below w.heap.size w W' ∧ Bk W' b1 27 #[.slice A9 n9 c9, .slice A9' n9' c9', .int .i64 x.fuse, .bool x.down] ∧ Bk W' b7 32 #[.int .i64 0, .int .i64 0, .int .i64 0, .int .i64 0] ∧ DkAt W' W'.heap.size (.agg #[.slice A9 n9 c9, .slice A9' n9' c9', .int .i64 x.fuse, .bool x.down]) x ∧ Bk W' b2 27 #[.slice none 0 0, .slice none 0 0, .int .i64 0, .bool false] ∧ Bk W' b3 35 #[.int .i64 0, .int .i64 0, .int .i64 0, .int .i64 0, .slice none 0 0]) (stored4 V8 b1 (.slice A9 n9 c9) (.slice A9' n9' c9') (.int .i64 x.fuse) (.bool x.down))) := Lib.hid ⟨hf8.2.2.1 _ _ hHeld hl1, hf8.1, hf8.2.2.2 _ _ _ hne k7, hf8.2.1 _ _ hd9, hf8.2.2.2 _ _ _ hn21 k2, hf8.2.2.2 _ _ _ hn31 k3⟩
    unfold stored4 at HS
    obtain ⟨⟨p0, p1, p2, p3⟩, q0, q1, q2, q3⟩ := k1.four
    clear hf8 k7 k2 k3 hd9
    refine wpAnyH_ready (rs := [8]) (by kernel_rfl) (by simp) (AllReadyH.cons rfl (fun K hK => ?_) AllReadyH.nil)
    rw [if_pos (by rfl)]
    go_wp2_with fail
    refine k_over (fun W' => Below w.heap.size w W' ∧ Bk W' b1 27 #[.slice A9 n9 c9, .slice A9' n9' c9', .int .i64 x.fuse, .bool x.down] ∧ Bk W' b7 32 #[.int .i64 0, .int .i64 0, .int .i64 0, .int .i64 0] ∧ DkAt W' W'.heap.size (.agg #[.slice A9 n9 c9, .slice A9' n9' c9', .int .i64 x.fuse, .bool x.down]) x ∧ Bk W' b2 27 #[.slice none 0 0, .slice none 0 0, .int .i64 0, .bool false] ∧ Bk W' b3 35 #[.int .i64 0, .int .i64 0, .int .i64 0, .int .i64 0, .slice none 0 0]) HS.out ?_
    clear HS k1 p0 p1 p2 p3 q0 q1 q2 q3 hHeld
    rintro U1 ⟨hSa, k1, k7, hd9, k2, k3⟩
    refine hK.out _ _ hSa (fun hHeld => ?_)
    clear hK K
    try simp only [Act.put, jA, jB, jC]
    clear hSa
    have hf9 := stored4_facts k7 (.int .i64 ((0 : Nat) : Int)) (.int .i64 ((1 : Nat) : Int)) (.int .i64 ((2 : Nat) : Int)) (.int .i64 ((1 : Nat) : Int))
    have HS : Hid ((fun W' => FmtK w n x b1 b2 b3 b7 W') (stored4 U1 b7 (.int .i64 ((0 : Nat) : Int)) (.int .i64 ((1 : Nat) : Int)) (.int .i64 ((2 : Nat) : Int)) (.int .i64 ((1 : Nat) : Int)))) := Lib.hid ⟨⟨⟨A9, n9, c9, A9', n9', c9', hf9.2.2.2 _ _ _ (Ne.symm hne) k1, hf9.2.1 _ _ hd9⟩, hf9.1, hf9.2.2.1 _ _ hHeld hl7⟩, hf9.2.2.2 _ _ _ (Ne.symm hn72) k2, hf9.2.2.2 _ _ _ (Ne.symm hn73) k3⟩
    unfold stored4 at HS
    obtain ⟨⟨p0, p1, p2, p3⟩, q0, q1, q2, q3⟩ := k7.four
    clear hf9 k1 hd9 k2 k3
    refine wpAnyH_ready (rs := [9]) (by kernel_rfl) (by simp) (AllReadyH.cons rfl (fun K hK => ?_) AllReadyH.nil)
    rw [if_pos (by rfl)]
    go_wp2_with fail
    refine k_over (fun W' => FmtK w n x b1 b2 b3 b7 W') HS.out ?_
    clear HS k7 p0 p1 p2 p3 q0 q1 q2 q3 hHeld
    rintro U2 hU2
    refine hK.out _ _ hU2.bx.hb (fun hHeld => ?_)
    clear hK K
    try simp only [Act.put, jA, jB, jC]
    refine wpAnyH_ready (rs := [10]) (by kernel_rfl) (by simp) (AllReadyH.cons rfl (fun K hK => ?_) AllReadyH.nil)
    rw [if_pos (by rfl)]
    go_wp2_with fail
    refine hK.out _ _ hHeld (fun hHeld => ?_)
    clear hK K
    try simp only [Act.put, jA, jB, jC]
    refine wpAnyH_done (by kernel_rfl) ?_ _
    go_wp2_with fail
    go_meet
    exact ⟨x, b7, hFx, hZx, rfl, rfl, hl7, hne, hn72, hn73, hU2⟩
  ·rw [if_pos (by rfl)]
   go_wp2_with fail
   refine (snapshot_any none 0 0 [] V0 ColK.nil (fun x hx => by cases hx) (by omega)).mono ?_
   rintro e V9 ⟨A5, n5, c5, us5, rfl, ho5, hr5, hba⟩
   have hrs := ho5.rss hr5 (snapL_ok (l := []) (fun p hp => by cases hp))
   clear ho5 hr5
   have hSa := hHeld.trans (hba.mono hHeld.size)
   replace k1 := k1.below hba k1.lt
   replace k2 := k2.below hba k2.lt
   replace k3 := k3.below hba k3.lt
   clear hba hHeld
   refine hK.out _ _ hSa (fun hHeld => ?_)
   clear hK K
   try simp only [Act.put, jA, jB, jC]
   clear hSa
   refine wpAnyH_ready (rs := [0, 7]) (by kernel_rfl) (by simp) (AllReadyH.cons rfl (fun K hK => ?_) (AllReadyH.cons rfl (fun K hK => ?_) AllReadyH.nil))
   ·rw [if_pos (by rfl)]
    obtain ⟨⟨p0, p1, p2, p3⟩, q0, q1, q2, q3⟩ := k1.four
    go_wp2_with fail
    clear p0 p1 p2 p3 q0 q1 q2 q3
    have hSa := hHeld
    clear hHeld
    refine hK.out _ _ hSa (fun hHeld => ?_)
    clear hK K
    try simp only [Act.put, jA, jB, jC]
    clear hSa
    refine wpAnyH_ready (rs := [2, 7]) (by kernel_rfl) (by simp) (AllReadyH.cons rfl (fun K hK => ?_) (AllReadyH.cons rfl (fun K hK => ?_) AllReadyH.nil))
    ·rw [if_pos (by rfl)]
     go_wp2_with fail
     refine (format_snap _ d A5 n5 c5 V9 (HD.out.later hHeld) HF.out hrs hn (HT.out.below hHeld HT.out.pos)).mono ?_
     rintro e V10 ⟨x, hFx, hZx, v9, rfl, hd9, hba⟩
     obtain ⟨A9, n9, c9, A9', n9', c9', rfl, hx9⟩ := hd9
     have hd9 : DkAt V10 V10.heap.size (.agg #[.slice A9 n9 c9, .slice A9' n9' c9', .int .i64 x.fuse, .bool x.down]) x := ⟨A9, n9, c9, A9', n9', c9', rfl, hx9⟩
     clear hx9 hrs
     unfold logN
     have hSa := hHeld.trans (hba.mono hHeld.size)
     replace k1 := k1.below hba k1.lt
     replace k2 := k2.below hba k2.lt
     replace k3 := k3.below hba k3.lt
     clear hba hHeld
     refine hK.out _ _ hSa (fun hHeld => ?_)
     clear hK K
     try simp only [Act.put, jA, jB, jC]
     clear hSa
     refine wpAnyH_take (i := 3) (v := .tuple #[.agg #[.slice A9 n9 c9, .slice A9' n9' c9', .int .i64 x.fuse, .bool x.down], .agg #[.int .i64 ((0 : Nat) : Int), .int .i64 ((1 : Nat) : Int), .int .i64 ((2 : Nat) : Int), .int .i64 ((1 : Nat) : Int)], .int .i64 0]) rfl (by kernel_rfl) (by kernel_rfl) (by kernel_rfl) (fun _ _ _ h => h) (Or.inl ⟨by rfl, fun w0 hC => by simp [execOp, Act.eval, Act.put, go_sem]⟩) hHeld ?_
     try simp only [Act.put, jA, jB, jC]
     refine wpAnyH_take (i := 4) (v := .agg #[.slice A9 n9 c9, .slice A9' n9' c9', .int .i64 x.fuse, .bool x.down]) rfl (by kernel_rfl) (by kernel_rfl) (by kernel_rfl) (fun _ _ _ h => h) (Or.inl ⟨by rfl, fun w0 hC => by simp [execOp, Act.eval, Act.put, go_sem]⟩) hHeld ?_
     try simp only [Act.put, jA, jB, jC]
     refine wpAnyH_take (i := 5) (v := .agg #[.int .i64 ((0 : Nat) : Int), .int .i64 ((1 : Nat) : Int), .int .i64 ((2 : Nat) : Int), .int .i64 ((1 : Nat) : Int)]) rfl (by kernel_rfl) (by kernel_rfl) (by kernel_rfl) (fun _ _ _ h => h) (Or.inl ⟨by rfl, fun w0 hC => by simp [execOp, Act.eval, Act.put, go_sem]⟩) hHeld ?_
     try simp only [Act.put, jA, jB, jC]
     refine wpAnyH_take (i := 6) (v := .int .i64 0) rfl (by kernel_rfl) (by kernel_rfl) (by kernel_rfl) (fun _ _ _ h => h) (Or.inl ⟨by rfl, fun w0 hC => by simp [execOp, Act.eval, Act.put, go_sem]⟩) hHeld ?_
     try simp only [Act.put, jA, jB, jC]
     refine wpAnyH_ready (rs := [7]) (by kernel_rfl) (by simp) (AllReadyH.cons rfl (fun K hK => ?_) AllReadyH.nil)
     rw [if_pos (by rfl)]
     go_wp2_with fail
     have hl7 : w.heap.size ≤ V10.heap.size := hHeld.size
     have hne : V10.heap.size ≠ b1 := by have := k1.lt; omega
     have hn72 : V10.heap.size ≠ b2 := by have := k2.lt; omega
     have hn73 : V10.heap.size ≠ b3 := by have := k3.lt; omega
     refine k_over (fun W' => Below V10.heap.size V10 W' ∧ Bk W' V10.heap.size 32 #[.int .i64 0, .int .i64 0, .int .i64 0, .int .i64 0]) ⟨(Below.refl _ _).alloc (Nat.le_refl _) _, Bk.new V10 _ _⟩ ?_
     rintro V11 ⟨hba, k7⟩
     obtain ⟨b7, hz⟩ : ∃ b, b = V10.heap.size := ⟨_, rfl⟩
     rw [← hz] at k7 hl7 hne hn72 hn73 ⊢
     clear hz
     have hSa := hHeld.trans (hba.mono hHeld.size)
     replace k1 := k1.below hba k1.lt
     replace k2 := k2.below hba k2.lt
     replace k3 := k3.below hba k3.lt
     replace hd9 := hd9.later hba
     clear hba hHeld
     refine hK.out _ _ hSa (fun hHeld => ?_)
     clear hK K
     try simp only [Act.put, jA, jB, jC]
     clear hSa
     have hf8 := stored4_facts k1 (.slice A9 n9 c9) (.slice A9' n9' c9') (.int .i64 x.fuse) (.bool x.down)
     have HS : Hid ((fun W' => Below w.heap.size w W' ∧ Bk W' b1 27 #[.slice A9 n9 c9, .slice A9' n9' c9', .int .i64 x.fuse, .bool x.down] ∧ Bk W' b7 32 #[.int .i64 0, .int .i64 0, .int .i64 0, .int .i64 0] ∧ DkAt W' W'.heap.size (.agg #[.slice A9 n9 c9, .slice A9' n9' c9', .int .i64 x.fuse, .bool x.down]) x ∧ Bk W' b2 27 #[.slice none 0 0, .slice none 0 0, .int .i64 0, .bool false] ∧ Bk W' b3 35 #[.int .i64 0, .int .i64 0, .int .i64 0, .int .i64 0, .slice none 0 0]) (stored4 V11 b1 (.slice A9 n9 c9) (.slice A9' n9' c9') (.int .i64 x.fuse) (.bool x.down))) := Lib.hid ⟨hf8.2.2.1 _ _ hHeld hl1, hf8.1, hf8.2.2.2 _ _ _ hne k7, hf8.2.1 _ _ hd9, hf8.2.2.2 _ _ _ hn21 k2, hf8.2.2.2 _ _ _ hn31 k3⟩
     unfold stored4 at HS
     obtain ⟨⟨p0, p1, p2, p3⟩, q0, q1, q2, q3⟩ := k1.four
     clear hf8 k7 k2 k3 hd9
     refine wpAnyH_ready (rs := [8]) (by kernel_rfl) (by simp) (AllReadyH.cons rfl (fun K hK => ?_) AllReadyH.nil)
     rw [if_pos (by rfl)]
     go_wp2_with fail
     refine k_over (fun W' => Below w.heap.size w W' ∧ Bk W' b1 27 #[.slice A9 n9 c9, .slice A9' n9' c9', .int .i64 x.fuse, .bool x.down] ∧ Bk W' b7 32 #[.int .i64 0, .int .i64 0, .int .i64 0, .int .i64 0] ∧ DkAt W' W'.heap.size (.agg #[.slice A9 n9 c9, .slice A9' n9' c9', .int .i64 x.fuse, .bool x.down]) x ∧ Bk W' b2 27 #[.slice none 0 0, .slice none 0 0, .int .i64 0, .bool false] ∧ Bk W' b3 35 #[.int .i64 0, .int .i64 0, .int .i64 0, .int .i64 0, .slice none 0 0]) HS.out ?_
     clear HS k1 p0 p1 p2 p3 q0 q1 q2 q3 hHeld
     rintro U1 ⟨hSa, k1, k7, hd9, k2, k3⟩
     refine hK.out _ _ hSa (fun hHeld => ?_)
     clear hK K
     try simp only [Act.put, jA, jB, jC]
     clear hSa
     have hf9 := stored4_facts k7 (.int .i64 ((0 : Nat) : Int)) (.int .i64 ((1 : Nat) : Int)) (.int .i64 ((2 : Nat) : Int)) (.int .i64 ((1 : Nat) : Int))
     have HS : Hid ((fun W' => FmtK w n x b1 b2 b3 b7 W') (stored4 U1 b7 (.int .i64 ((0 : Nat) : Int)) (.int .i64 ((1 : Nat) : Int)) (.int .i64 ((2 : Nat) : Int)) (.int .i64 ((1 : Nat) : Int)))) := Lib.hid ⟨⟨⟨A9, n9, c9, A9', n9', c9', hf9.2.2.2 _ _ _ (Ne.symm hne) k1, hf9.2.1 _ _ hd9⟩, hf9.1, hf9.2.2.1 _ _ hHeld hl7⟩, hf9.2.2.2 _ _ _ (Ne.symm hn72) k2, hf9.2.2.2 _ _ _ (Ne.symm hn73) k3⟩
     unfold stored4 at HS
     obtain ⟨⟨p0, p1, p2, p3⟩, q0, q1, q2, q3⟩ := k7.four
     clear hf9 k1 hd9 k2 k3
     refine wpAnyH_ready (rs := [9]) (by kernel_rfl) (by simp) (AllReadyH.cons rfl (fun K hK => ?_) AllReadyH.nil)
     rw [if_pos (by rfl)]
     go_wp2_with fail
     refine k_over (fun W' => FmtK w n x b1 b2 b3 b7 W') HS.out ?_
     clear HS k7 p0 p1 p2 p3 q0 q1 q2 q3 hHeld
     rintro U2 hU2
     refine hK.out _ _ hU2.bx.hb (fun hHeld => ?_)
     clear hK K
     try simp only [Act.put, jA, jB, jC]
     refine wpAnyH_ready (rs := [10]) (by kernel_rfl) (by simp) (AllReadyH.cons rfl (fun K hK => ?_) AllReadyH.nil)
     rw [if_pos (by rfl)]
     go_wp2_with fail
     refine hK.out _ _ hHeld (fun hHeld => ?_)
     clear hK K
     try simp only [Act.put, jA, jB, jC]
     refine wpAnyH_done (by kernel_rfl) ?_ _
     go_wp2_with fail
     go_meet
     exact ⟨x, b7, hFx, hZx, rfl, rfl, hl7, hne, hn72, hn73, hU2⟩
    ·rw [if_pos (by rfl)]
     go_wp2_with fail
     have hl7 : w.heap.size ≤ V9.heap.size := hHeld.size
     have hne : V9.heap.size ≠ b1 := by have := k1.lt; omega
     have hn72 : V9.heap.size ≠ b2 := by have := k2.lt; omega
     have hn73 : V9.heap.size ≠ b3 := by have := k3.lt; omega
     refine k_over (fun W' => Below V9.heap.size V9 W' ∧ Bk W' V9.heap.size 32 #[.int .i64 0, .int .i64 0, .int .i64 0, .int .i64 0]) ⟨(Below.refl _ _).alloc (Nat.le_refl _) _, Bk.new V9 _ _⟩ ?_
     rintro V12 ⟨hba, k7⟩
     obtain ⟨b7, hz⟩ : ∃ b, b = V9.heap.size := ⟨_, rfl⟩
     rw [← hz] at k7 hl7 hne hn72 hn73 ⊢
     clear hz
     have hSa := hHeld.trans (hba.mono hHeld.size)
     replace k1 := k1.below hba k1.lt
     replace k2 := k2.below hba k2.lt
     replace k3 := k3.below hba k3.lt
     replace hrs := hrs.later hba
     clear hba hHeld
     refine hK.out _ _ hSa (fun hHeld => ?_)
     clear hK K
     try simp only [Act.put, jA, jB, jC]
     clear hSa
     refine wpAnyH_ready (rs := [2]) (by kernel_rfl) (by simp) (AllReadyH.cons rfl (fun K hK => ?_) AllReadyH.nil)
     rw [if_pos (by rfl)]
     go_wp2_with fail
     refine (format_snap _ d A5 n5 c5 V12 (HD.out.later hHeld) HF.out hrs hn (HT.out.below hHeld HT.out.pos)).mono ?_
     rintro e V13 ⟨x, hFx, hZx, v9, rfl, hd9, hba⟩
     obtain ⟨A9, n9, c9, A9', n9', c9', rfl, hx9⟩ := hd9
     have hd9 : DkAt V13 V13.heap.size (.agg #[.slice A9 n9 c9, .slice A9' n9' c9', .int .i64 x.fuse, .bool x.down]) x := ⟨A9, n9, c9, A9', n9', c9', rfl, hx9⟩
     clear hx9 hrs
     unfold logN
     have hSa := hHeld.trans (hba.mono hHeld.size)
     replace k1 := k1.below hba k1.lt
     replace k2 := k2.below hba k2.lt
     replace k3 := k3.below hba k3.lt
     replace k7 := k7.below hba k7.lt
     clear hba hHeld
     refine hK.out _ _ hSa (fun hHeld => ?_)
     clear hK K
     try simp only [Act.put, jA, jB, jC]
     clear hSa
     refine wpAnyH_take (i := 3) (v := .tuple #[.agg #[.slice A9 n9 c9, .slice A9' n9' c9', .int .i64 x.fuse, .bool x.down], .agg #[.int .i64 ((0 : Nat) : Int), .int .i64 ((1 : Nat) : Int), .int .i64 ((2 : Nat) : Int), .int .i64 ((1 : Nat) : Int)], .int .i64 0]) rfl (by kernel_rfl) (by kernel_rfl) (by kernel_rfl) (fun _ _ _ h => h) (Or.inl ⟨by rfl, fun w0 hC => by simp [execOp, Act.eval, Act.put, go_sem]⟩) hHeld ?_
     try simp only [Act.put, jA, jB, jC]
     refine wpAnyH_take (i := 4) (v := .agg #[.slice A9 n9 c9, .slice A9' n9' c9', .int .i64 x.fuse, .bool x.down]) rfl (by kernel_rfl) (by kernel_rfl) (by kernel_rfl) (fun _ _ _ h => h) (Or.inl ⟨by rfl, fun w0 hC => by simp [execOp, Act.eval, Act.put, go_sem]⟩) hHeld ?_
     try simp only [Act.put, jA, jB, jC]
     refine wpAnyH_take (i := 5) (v := .agg #[.int .i64 ((0 : Nat) : Int), .int .i64 ((1 : Nat) : Int), .int .i64 ((2 : Nat) : Int), .int .i64 ((1 : Nat) : Int)]) rfl (by kernel_rfl) (by kernel_rfl) (by kernel_rfl) (fun _ _ _ h => h) (Or.inl ⟨by rfl, fun w0 hC => by simp [execOp, Act.eval, Act.put, go_sem]⟩) hHeld ?_
     try simp only [Act.put, jA, jB, jC]
     refine wpAnyH_take (i := 6) (v := .int .i64 0) rfl (by kernel_rfl) (by kernel_rfl) (by kernel_rfl) (fun _ _ _ h => h) (Or.inl ⟨by rfl, fun w0 hC => by simp [execOp, Act.eval, Act.put, go_sem]⟩) hHeld ?_
     try simp only [Act.put, jA, jB, jC]
     have hf8 := stored4_facts k1 (.slice A9 n9 c9) (.slice A9' n9' c9') (.int .i64 x.fuse) (.bool x.down)
     have HS : Hid ((fun W' => Below w.heap.size w W' ∧ Bk W' b1 27 #[.slice A9 n9 c9, .slice A9' n9' c9', .int .i64 x.fuse, .bool x.down] ∧ Bk W' b7 32 #[.int .i64 0, .int .i64 0, .int .i64 0, .int .i64 0] ∧ DkAt W' W'.heap.size (.agg #[.slice A9 n9 c9, .slice A9' n9' c9', .int .i64 x.fuse, .bool x.down]) x ∧ Bk W' b2 27 #[.slice none 0 0, .slice none 0 0, .int .i64 0, .bool false] ∧ Bk W' b3 35 #[.int .i64 0, .int .i64 0, .int .i64 0, .int .i64 0, .slice none 0 0]) (stored4 V13 b1 (.slice A9 n9 c9) (.slice A9' n9' c9') (.int .i64 x.fuse) (.bool x.down))) := Lib.hid ⟨hf8.2.2.1 _ _ hHeld hl1, hf8.1, hf8.2.2.2 _ _ _ hne k7, hf8.2.1 _ _ hd9, hf8.2.2.2 _ _ _ hn21 k2, hf8.2.2.2 _ _ _ hn31 k3⟩
     unfold stored4 at HS
     obtain ⟨⟨p0, p1, p2, p3⟩, q0, q1, q2, q3⟩ := k1.four
     clear hf8 k7 k2 k3 hd9
     refine wpAnyH_ready (rs := [8]) (by kernel_rfl) (by simp) (AllReadyH.cons rfl (fun K hK => ?_) AllReadyH.nil)
     rw [if_pos (by rfl)]
     go_wp2_with fail
     refine k_over (fun W' => Below w.heap.size w W' ∧ Bk W' b1 27 #[.slice A9 n9 c9, .slice A9' n9' c9', .int .i64 x.fuse, .bool x.down] ∧ Bk W' b7 32 #[.int .i64 0, .int .i64 0, .int .i64 0, .int .i64 0] ∧ DkAt W' W'.heap.size (.agg #[.slice A9 n9 c9, .slice A9' n9' c9', .int .i64 x.fuse, .bool x.down]) x ∧ Bk W' b2 27 #[.slice none 0 0, .slice none 0 0, .int .i64 0, .bool false] ∧ Bk W' b3 35 #[.int .i64 0, .int .i64 0, .int .i64 0, .int .i64 0, .slice none 0 0]) HS.out ?_
     clear HS k1 p0 p1 p2 p3 q0 q1 q2 q3 hHeld
     rintro U1 ⟨hSa, k1, k7, hd9, k2, k3⟩
     refine hK.out _ _ hSa (fun hHeld => ?_)
     clear hK K
     try simp only [Act.put, jA, jB, jC]
     clear hSa
     have hf9 := stored4_facts k7 (.int .i64 ((0 : Nat) : Int)) (.int .i64 ((1 : Nat) : Int)) (.int .i64 ((2 : Nat) : Int)) (.int .i64 ((1 : Nat) : Int))
     have HS : Hid ((fun W' => FmtK w n x b1 b2 b3 b7 W') (stored4 U1 b7 (.int .i64 ((0 : Nat) : Int)) (.int .i64 ((1 : Nat) : Int)) (.int .i64 ((2 : Nat) : Int)) (.int .i64 ((1 : Nat) : Int)))) := Lib.hid ⟨⟨⟨A9, n9, c9, A9', n9', c9', hf9.2.2.2 _ _ _ (Ne.symm hne) k1, hf9.2.1 _ _ hd9⟩, hf9.1, hf9.2.2.1 _ _ hHeld hl7⟩, hf9.2.2.2 _ _ _ (Ne.symm hn72) k2, hf9.2.2.2 _ _ _ (Ne.symm hn73) k3⟩
     unfold stored4 at HS
     obtain ⟨⟨p0, p1, p2, p3⟩, q0, q1, q2, q3⟩ := k7.four
     clear hf9 k1 hd9 k2 k3
     refine wpAnyH_ready (rs := [9]) (by kernel_rfl) (by simp) (AllReadyH.cons rfl (fun K hK => ?_) AllReadyH.nil)
     rw [if_pos (by rfl)]
     go_wp2_with fail
     refine k_over (fun W' => FmtK w n x b1 b2 b3 b7 W') HS.out ?_
     clear HS k7 p0 p1 p2 p3 q0 q1 q2 q3 hHeld
     rintro U2 hU2
     refine hK.out _ _ hU2.bx.hb (fun hHeld => ?_)
     clear hK K
     try simp only [Act.put, jA, jB, jC]
     refine wpAnyH_ready (rs := [10]) (by kernel_rfl) (by simp) (AllReadyH.cons rfl (fun K hK => ?_) AllReadyH.nil)
     rw [if_pos (by rfl)]
     go_wp2_with fail
     refine hK.out _ _ hHeld (fun hHeld => ?_)
     clear hK K
     try simp only [Act.put, jA, jB, jC]
     refine wpAnyH_done (by kernel_rfl) ?_ _
     go_wp2_with fail
     go_meet
     exact ⟨x, b7, hFx, hZx, rfl, rfl, hl7, hne, hn72, hn73, hU2⟩
   ·rw [if_pos (by rfl)]
    go_wp2_with fail
    have hl7 : w.heap.size ≤ V9.heap.size := hHeld.size
    have hne : V9.heap.size ≠ b1 := by have := k1.lt; omega
    have hn72 : V9.heap.size ≠ b2 := by have := k2.lt; omega
    have hn73 : V9.heap.size ≠ b3 := by have := k3.lt; omega
    refine k_over (fun W' => Below V9.heap.size V9 W' ∧ Bk W' V9.heap.size 32 #[.int .i64 0, .int .i64 0, .int .i64 0, .int .i64 0]) ⟨(Below.refl _ _).alloc (Nat.le_refl _) _, Bk.new V9 _ _⟩ ?_
    rintro V14 ⟨hba, k7⟩
    obtain ⟨b7, hz⟩ : ∃ b, b = V9.heap.size := ⟨_, rfl⟩
    rw [← hz] at k7 hl7 hne hn72 hn73 ⊢
    clear hz
    have hSa := hHeld.trans (hba.mono hHeld.size)
    replace k1 := k1.below hba k1.lt
    replace k2 := k2.below hba k2.lt
    replace k3 := k3.below hba k3.lt
    replace hrs := hrs.later hba
    clear hba hHeld
    refine hK.out _ _ hSa (fun hHeld => ?_)
    clear hK K
    try simp only [Act.put, jA, jB, jC]
    clear hSa
    refine wpAnyH_ready (rs := [0]) (by kernel_rfl) (by simp) (AllReadyH.cons rfl (fun K hK => ?_) AllReadyH.nil)
    rw [if_pos (by rfl)]
    obtain ⟨⟨p0, p1, p2, p3⟩, q0, q1, q2, q3⟩ := k1.four
    go_wp2_with fail
    clear p0 p1 p2 p3 q0 q1 q2 q3
    have hSa := hHeld
    clear hHeld
    refine hK.out _ _ hSa (fun hHeld => ?_)
    clear hK K
    try simp only [Act.put, jA, jB, jC]
    clear hSa
    refine wpAnyH_ready (rs := [2]) (by kernel_rfl) (by simp) (AllReadyH.cons rfl (fun K hK => ?_) AllReadyH.nil)
    rw [if_pos (by rfl)]
    go_wp2_with fail
    refine (format_snap _ d A5 n5 c5 V14 (HD.out.later hHeld) HF.out hrs hn (HT.out.below hHeld HT.out.pos)).mono ?_
    rintro e V15 ⟨x, hFx, hZx, v9, rfl, hd9, hba⟩
    obtain ⟨A9, n9, c9, A9', n9', c9', rfl, hx9⟩ := hd9
    have hd9 : DkAt V15 V15.heap.size (.agg #[.slice A9 n9 c9, .slice A9' n9' c9', .int .i64 x.fuse, .bool x.down]) x := ⟨A9, n9, c9, A9', n9', c9', rfl, hx9⟩
    clear hx9 hrs
    unfold logN
    have hSa := hHeld.trans (hba.mono hHeld.size)
    replace k1 := k1.below hba k1.lt
    replace k2 := k2.below hba k2.lt
    replace k3 := k3.below hba k3.lt
    replace k7 := k7.below hba k7.lt
    clear hba hHeld
    refine hK.out _ _ hSa (fun hHeld => ?_)
    clear hK K
    try simp only [Act.put, jA, jB, jC]
    clear hSa
    refine wpAnyH_take (i := 3) (v := .tuple #[.agg #[.slice A9 n9 c9, .slice A9' n9' c9', .int .i64 x.fuse, .bool x.down], .agg #[.int .i64 ((0 : Nat) : Int), .int .i64 ((1 : Nat) : Int), .int .i64 ((2 : Nat) : Int), .int .i64 ((1 : Nat) : Int)], .int .i64 0]) rfl (by kernel_rfl) (by kernel_rfl) (by kernel_rfl) (fun _ _ _ h => h) (Or.inl ⟨by rfl, fun w0 hC => by simp [execOp, Act.eval, Act.put, go_sem]⟩) hHeld ?_
    try simp only [Act.put, jA, jB, jC]
    refine wpAnyH_take (i := 4) (v := .agg #[.slice A9 n9 c9, .slice A9' n9' c9', .int .i64 x.fuse, .bool x.down]) rfl (by kernel_rfl) (by kernel_rfl) (by kernel_rfl) (fun _ _ _ h => h) (Or.inl ⟨by rfl, fun w0 hC => by simp [execOp, Act.eval, Act.put, go_sem]⟩) hHeld ?_
    try simp only [Act.put, jA, jB, jC]
    refine wpAnyH_take (i := 5) (v := .agg #[.int .i64 ((0 : Nat) : Int), .int .i64 ((1 : Nat) : Int), .int .i64 ((2 : Nat) : Int), .int .i64 ((1 : Nat) : Int)]) rfl (by kernel_rfl) (by kernel_rfl) (by kernel_rfl) (fun _ _ _ h => h) (Or.inl ⟨by rfl, fun w0 hC => by simp [execOp, Act.eval, Act.put, go_sem]⟩) hHeld ?_
    try simp only [Act.put, jA, jB, jC]
    refine wpAnyH_take (i := 6) (v := .int .i64 0) rfl (by kernel_rfl) (by kernel_rfl) (by kernel_rfl) (fun _ _ _ h => h) (Or.inl ⟨by rfl, fun w0 hC => by simp [execOp, Act.eval, Act.put, go_sem]⟩) hHeld ?_
    try simp only [Act.put, jA, jB, jC]
    have hf8 := stored4_facts k1 (.slice A9 n9 c9) (.slice A9' n9' c9') (.int .i64 x.fuse) (.bool x.down)
    have HS : Hid ((fun W' => Below w.heap.size w W' ∧ Bk W' b1 27 #[.slice A9 n9 c9, .slice A9' n9' c9', .int .i64 x.fuse, .bool x.down] ∧ Bk W' b7 32 #[.int .i64 0, .int .i64 0, .int .i64 0, .int .i64 0] ∧ DkAt W' W'.heap.size (.agg #[.slice A9 n9 c9, .slice A9' n9' c9', .int .i64 x.fuse, .bool x.down]) x ∧ Bk W' b2 27 #[.slice none 0 0, .slice none 0 0, .int .i64 0, .bool false] ∧ Bk W' b3 35 #[.int .i64 0, .int .i64 0, .int .i64 0, .int .i64 0, .slice none 0 0]) (stored4 V15 b1 (.slice A9 n9 c9) (.slice A9' n9' c9') (.int .i64 x.fuse) (.bool x.down))) := Lib.hid ⟨hf8.2.2.1 _ _ hHeld hl1, hf8.1, hf8.2.2.2 _ _ _ hne k7, hf8.2.1 _ _ hd9, hf8.2.2.2 _ _ _ hn21 k2, hf8.2.2.2 _ _ _ hn31 k3⟩
    unfold stored4 at HS
    obtain ⟨⟨p0, p1, p2, p3⟩, q0, q1, q2, q3⟩ := k1.four
    clear hf8 k7 k2 k3 hd9
    refine wpAnyH_ready (rs := [8]) (by kernel_rfl) (by simp) (AllReadyH.cons rfl (fun K hK => ?_) AllReadyH.nil)
    rw [if_pos (by rfl)]
    go_wp2_with fail
    refine k_over (fun W' => Below w.heap.size w W' ∧ Bk W' b1 27 #[.slice A9 n9 c9, .slice A9' n9' c9', .int .i64 x.fuse, .bool x.down] ∧ Bk W' b7 32 #[.int .i64 0, .int .i64 0, .int .i64 0, .int .i64 0] ∧ DkAt W' W'.heap.size (.agg #[.slice A9 n9 c9, .slice A9' n9' c9', .int .i64 x.fuse, .bool x.down]) x ∧ Bk W' b2 27 #[.slice none 0 0, .slice none 0 0, .int .i64 0, .bool false] ∧ Bk W' b3 35 #[.int .i64 0, .int .i64 0, .int .i64 0, .int .i64 0, .slice none 0 0]) HS.out ?_
    clear HS k1 p0 p1 p2 p3 q0 q1 q2 q3 hHeld
    rintro U1 ⟨hSa, k1, k7, hd9, k2, k3⟩
    refine hK.out _ _ hSa (fun hHeld => ?_)
    clear hK K
    try simp only [Act.put, jA, jB, jC]
    clear hSa
    have hf9 := stored4_facts k7 (.int .i64 ((0 : Nat) : Int)) (.int .i64 ((1 : Nat) : Int)) (.int .i64 ((2 : Nat) : Int)) (.int .i64 ((1 : Nat) : Int))
    have HS : Hid ((fun W' => FmtK w n x b1 b2 b3 b7 W') (stored4 U1 b7 (.int .i64 ((0 : Nat) : Int)) (.int .i64 ((1 : Nat) : Int)) (.int .i64 ((2 : Nat) : Int)) (.int .i64 ((1 : Nat) : Int)))) := Lib.hid ⟨⟨⟨A9, n9, c9, A9', n9', c9', hf9.2.2.2 _ _ _ (Ne.symm hne) k1, hf9.2.1 _ _ hd9⟩, hf9.1, hf9.2.2.1 _ _ hHeld hl7⟩, hf9.2.2.2 _ _ _ (Ne.symm hn72) k2, hf9.2.2.2 _ _ _ (Ne.symm hn73) k3⟩
    unfold stored4 at HS
    obtain ⟨⟨p0, p1, p2, p3⟩, q0, q1, q2, q3⟩ := k7.four
    clear hf9 k1 hd9 k2 k3
    refine wpAnyH_ready (rs := [9]) (by kernel_rfl) (by simp) (AllReadyH.cons rfl (fun K hK => ?_) AllReadyH.nil)
    rw [if_pos (by rfl)]
    go_wp2_with fail
    refine k_over (fun W' => FmtK w n x b1 b2 b3 b7 W') HS.out ?_
    clear HS k7 p0 p1 p2 p3 q0 q1 q2 q3 hHeld
    rintro U2 hU2
    refine hK.out _ _ hU2.bx.hb (fun hHeld => ?_)
    clear hK K
    try simp only [Act.put, jA, jB, jC]
    refine wpAnyH_ready (rs := [10]) (by kernel_rfl) (by simp) (AllReadyH.cons rfl (fun K hK => ?_) AllReadyH.nil)
    rw [if_pos (by rfl)]
    go_wp2_with fail
    refine hK.out _ _ hHeld (fun hHeld => ?_)
    clear hK K
    try simp only [Act.put, jA, jB, jC]
    refine wpAnyH_done (by kernel_rfl) ?_ _
    go_wp2_with fail
    go_meet
    exact ⟨x, b7, hFx, hZx, rfl, rfl, hl7, hne, hn72, hn73, hU2⟩
  ·rw [if_pos (by rfl)]
   go_wp2_with fail
   have hl7 : w.heap.size ≤ V0.heap.size := hHeld.size
   have hne : V0.heap.size ≠ b1 := by have := k1.lt; omega
   have hn72 : V0.heap.size ≠ b2 := by have := k2.lt; omega
   have hn73 : V0.heap.size ≠ b3 := by have := k3.lt; omega
   refine k_over (fun W' => Below V0.heap.size V0 W' ∧ Bk W' V0.heap.size 32 #[.int .i64 0, .int .i64 0, .int .i64 0, .int .i64 0]) ⟨(Below.refl _ _).alloc (Nat.le_refl _) _, Bk.new V0 _ _⟩ ?_
   rintro V16 ⟨hba, k7⟩
   obtain ⟨b7, hz⟩ : ∃ b, b = V0.heap.size := ⟨_, rfl⟩
   rw [← hz] at k7 hl7 hne hn72 hn73 ⊢
   clear hz
   have hSa := hHeld.trans (hba.mono hHeld.size)
   replace k1 := k1.below hba k1.lt
   replace k2 := k2.below hba k2.lt
   replace k3 := k3.below hba k3.lt
   clear hba hHeld
   refine hK.out _ _ hSa (fun hHeld => ?_)
   clear hK K
   try simp only [Act.put, jA, jB, jC]
   clear hSa
   refine wpAnyH_ready (rs := [0, 1]) (by kernel_rfl) (by simp) (AllReadyH.cons rfl (fun K hK => ?_) (AllReadyH.cons rfl (fun K hK => ?_) AllReadyH.nil))
   ·rw [if_pos (by rfl)]
    obtain ⟨⟨p0, p1, p2, p3⟩, q0, q1, q2, q3⟩ := k1.four
    go_wp2_with fail
    clear p0 p1 p2 p3 q0 q1 q2 q3
    have hSa := hHeld
    clear hHeld
    refine hK.out _ _ hSa (fun hHeld => ?_)
    clear hK K
    try simp only [Act.put, jA, jB, jC]
    clear hSa
    refine wpAnyH_ready (rs := [1]) (by kernel_rfl) (by simp) (AllReadyH.cons rfl (fun K hK => ?_) AllReadyH.nil)
    rw [if_pos (by rfl)]
    go_wp2_with fail
    refine (snapshot_any none 0 0 [] V16 ColK.nil (fun x hx => by cases hx) (by omega)).mono ?_
    rintro e V17 ⟨A5, n5, c5, us5, rfl, ho5, hr5, hba⟩
    have hrs := ho5.rss hr5 (snapL_ok (l := []) (fun p hp => by cases hp))
    clear ho5 hr5
    have hSa := hHeld.trans (hba.mono hHeld.size)
    replace k1 := k1.below hba k1.lt
    replace k2 := k2.below hba k2.lt
    replace k3 := k3.below hba k3.lt
    replace k7 := k7.below hba k7.lt
    clear hba hHeld
    refine hK.out _ _ hSa (fun hHeld => ?_)
    clear hK K
    try simp only [Act.put, jA, jB, jC]
    clear hSa
    refine wpAnyH_ready (rs := [2]) (by kernel_rfl) (by simp) (AllReadyH.cons rfl (fun K hK => ?_) AllReadyH.nil)
    rw [if_pos (by rfl)]
    go_wp2_with fail
    refine (format_snap _ d A5 n5 c5 V17 (HD.out.later hHeld) HF.out hrs hn (HT.out.below hHeld HT.out.pos)).mono ?_
    rintro e V18 ⟨x, hFx, hZx, v9, rfl, hd9, hba⟩
    obtain ⟨A9, n9, c9, A9', n9', c9', rfl, hx9⟩ := hd9
    have hd9 : DkAt V18 V18.heap.size (.agg #[.slice A9 n9 c9, .slice A9' n9' c9', .int .i64 x.fuse, .bool x.down]) x := ⟨A9, n9, c9, A9', n9', c9', rfl, hx9⟩
    clear hx9 hrs
    unfold logN
    have hSa := hHeld.trans (hba.mono hHeld.size)
    replace k1 := k1.below hba k1.lt
    replace k2 := k2.below hba k2.lt
    replace k3 := k3.below hba k3.lt
    replace k7 := k7.below hba k7.lt
    clear hba hHeld
    refine hK.out _ _ hSa (fun hHeld => ?_)
    clear hK K
    try simp only [Act.put, jA, jB, jC]
    clear hSa
    refine wpAnyH_take (i := 3) (v := .tuple #[.agg #[.slice A9 n9 c9, .slice A9' n9' c9', .int .i64 x.fuse, .bool x.down], .agg #[.int .i64 ((0 : Nat) : Int), .int .i64 ((1 : Nat) : Int), .int .i64 ((2 : Nat) : Int), .int .i64 ((1 : Nat) : Int)], .int .i64 0]) rfl (by kernel_rfl) (by kernel_rfl) (by kernel_rfl) (fun _ _ _ h => h) (Or.inl ⟨by rfl, fun w0 hC => by simp [execOp, Act.eval, Act.put, go_sem]⟩) hHeld ?_
    try simp only [Act.put, jA, jB, jC]
    refine wpAnyH_take (i := 4) (v := .agg #[.slice A9 n9 c9, .slice A9' n9' c9', .int .i64 x.fuse, .bool x.down]) rfl (by kernel_rfl) (by kernel_rfl) (by kernel_rfl) (fun _ _ _ h => h) (Or.inl ⟨by rfl, fun w0 hC => by simp [execOp, Act.eval, Act.put, go_sem]⟩) hHeld ?_
    try simp only [Act.put, jA, jB, jC]
    refine wpAnyH_take (i := 5) (v := .agg #[.int .i64 ((0 : Nat) : Int), .int .i64 ((1 : Nat) : Int), .int .i64 ((2 : Nat) : Int), .int .i64 ((1 : Nat) : Int)]) rfl (by kernel_rfl) (by kernel_rfl) (by kernel_rfl) (fun _ _ _ h => h) (Or.inl ⟨by rfl, fun w0 hC => by simp [execOp, Act.eval, Act.put, go_sem]⟩) hHeld ?_
    try simp only [Act.put, jA, jB, jC]
    refine wpAnyH_take (i := 6) (v := .int .i64 0) rfl (by kernel_rfl) (by kernel_rfl) (by kernel_rfl) (fun _ _ _ h => h) (Or.inl ⟨by rfl, fun w0 hC => by simp [execOp, Act.eval, Act.put, go_sem]⟩) hHeld ?_
    try simp only [Act.put, jA, jB, jC]
    have hf8 := stored4_facts k1 (.slice A9 n9 c9) (.slice A9' n9' c9') (.int .i64 x.fuse) (.bool x.down)
    have HS : Hid ((fun W' => Below w.heap.size w W' ∧ Bk W' b1 27 #[.slice A9 n9 c9, .slice A9' n9' c9', .int .i64 x.fuse, .bool x.down] ∧ Bk W' b7 32 #[.int .i64 0, .int .i64 0, .int .i64 0, .int .i64 0] ∧ DkAt W' W'.heap.size (.agg #[.slice A9 n9 c9, .slice A9' n9' c9', .int .i64 x.fuse, .bool x.down]) x ∧ Bk W' b2 27 #[.slice none 0 0, .slice none 0 0, .int .i64 0, .bool false] ∧ Bk W' b3 35 #[.int .i64 0, .int .i64 0, .int .i64 0, .int .i64 0, .slice none 0 0]) (stored4 V18 b1 (.slice A9 n9 c9) (.slice A9' n9' c9') (.int .i64 x.fuse) (.bool x.down))) := Lib.hid ⟨hf8.2.2.1 _ _ hHeld hl1, hf8.1, hf8.2.2.2 _ _ _ hne k7, hf8.2.1 _ _ hd9, hf8.2.2.2 _ _ _ hn21 k2, hf8.2.2.2 _ _ _ hn31 k3⟩
    unfold stored4 at HS
    obtain ⟨⟨p0, p1, p2, p3⟩, q0, q1, q2, q3⟩ := k1.four
    clear hf8 k7 k2 k3 hd9
    refine wpAnyH_ready (rs := [8]) (by kernel_rfl) (by simp) (AllReadyH.cons rfl (fun K hK => ?_) AllReadyH.nil)
    rw [if_pos (by rfl)]
    go_wp2_with fail
    refine k_over (fun W' => Below w.heap.size w W' ∧ Bk W' b1 27 #[.slice A9 n9 c9, .slice A9' n9' c9', .int .i64 x.fuse, .bool x.down] ∧ Bk W' b7 32 #[.int .i64 0, .int .i64 0, .int .i64 0, .int .i64 0] ∧ DkAt W' W'.heap.size (.agg #[.slice A9 n9 c9, .slice A9' n9' c9', .int .i64 x.fuse, .bool x.down]) x ∧ Bk W' b2 27 #[.slice none 0 0, .slice none 0 0, .int .i64 0, .bool false] ∧ Bk W' b3 35 #[.int .i64 0, .int .i64 0, .int .i64 0, .int .i64 0, .slice none 0 0]) HS.out ?_
    clear HS k1 p0 p1 p2 p3 q0 q1 q2 q3 hHeld
    rintro U1 ⟨hSa, k1, k7, hd9, k2, k3⟩
    refine hK.out _ _ hSa (fun hHeld => ?_)
    clear hK K
    try simp only [Act.put, jA, jB, jC]
    clear hSa
    have hf9 := stored4_facts k7 (.int .i64 ((0 : Nat) : Int)) (.int .i64 ((1 : Nat) : Int)) (.int .i64 ((2 : Nat) : Int)) (.int .i64 ((1 : Nat) : Int))
    have HS : Hid ((fun W' => FmtK w n x b1 b2 b3 b7 W') (stored4 U1 b7 (.int .i64 ((0 : Nat) : Int)) (.int .i64 ((1 : Nat) : Int)) (.int .i64 ((2 : Nat) : Int)) (.int .i64 ((1 : Nat) : Int)))) := Lib.hid ⟨⟨⟨A9, n9, c9, A9', n9', c9', hf9.2.2.2 _ _ _ (Ne.symm hne) k1, hf9.2.1 _ _ hd9⟩, hf9.1, hf9.2.2.1 _ _ hHeld hl7⟩, hf9.2.2.2 _ _ _ (Ne.symm hn72) k2, hf9.2.2.2 _ _ _ (Ne.symm hn73) k3⟩
    unfold stored4 at HS
    obtain ⟨⟨p0, p1, p2, p3⟩, q0, q1, q2, q3⟩ := k7.four
    clear hf9 k1 hd9 k2 k3
    refine wpAnyH_ready (rs := [9]) (by kernel_rfl) (by simp) (AllReadyH.cons rfl (fun K hK => ?_) AllReadyH.nil)
    rw [if_pos (by rfl)]
    go_wp2_with fail
    refine k_over (fun W' => FmtK w n x b1 b2 b3 b7 W') HS.out ?_
    clear HS k7 p0 p1 p2 p3 q0 q1 q2 q3 hHeld
    rintro U2 hU2
    refine hK.out _ _ hU2.bx.hb (fun hHeld => ?_)
    clear hK K
    try simp only [Act.put, jA, jB, jC]
    refine wpAnyH_ready (rs := [10]) (by kernel_rfl) (by simp) (AllReadyH.cons rfl (fun K hK => ?_) AllReadyH.nil)
    rw [if_pos (by rfl)]
    go_wp2_with fail
    refine hK.out _ _ hHeld (fun hHeld => ?_)
    clear hK K
    try simp only [Act.put, jA, jB, jC]
    refine wpAnyH_done (by kernel_rfl) ?_ _
    go_wp2_with fail
    go_meet
    exact ⟨x, b7, hFx, hZx, rfl, rfl, hl7, hne, hn72, hn73, hU2⟩
   ·rw [if_pos (by rfl)]
    go_wp2_with fail
    refine (snapshot_any none 0 0 [] V16 ColK.nil (fun x hx => by cases hx) (by omega)).mono ?_
    rintro e V19 ⟨A5, n5, c5, us5, rfl, ho5, hr5, hba⟩
    have hrs := ho5.rss hr5 (snapL_ok (l := []) (fun p hp => by cases hp))
    clear ho5 hr5
    have hSa := hHeld.trans (hba.mono hHeld.size)
    replace k1 := k1.below hba k1.lt
    replace k2 := k2.below hba k2.lt
    replace k3 := k3.below hba k3.lt
    replace k7 := k7.below hba k7.lt
    clear hba hHeld
    refine hK.out _ _ hSa (fun hHeld => ?_)
    clear hK K
    try simp only [Act.put, jA, jB, jC]
    clear hSa
    refine wpAnyH_ready (rs := [0]) (by kernel_rfl) (by simp) (AllReadyH.cons rfl (fun K hK => ?_) AllReadyH.nil)
    rw [if_pos (by rfl)]
    obtain ⟨⟨p0, p1, p2, p3⟩, q0, q1, q2, q3⟩ := k1.four
    go_wp2_with fail
    clear p0 p1 p2 p3 q0 q1 q2 q3
    have hSa := hHeld
    clear hHeld
    refine hK.out _ _ hSa (fun hHeld => ?_)
    clear hK K
    try simp only [Act.put, jA, jB, jC]
    clear hSa
    refine wpAnyH_ready (rs := [2]) (by kernel_rfl) (by simp) (AllReadyH.cons rfl (fun K hK => ?_) AllReadyH.nil)
    rw [if_pos (by rfl)]
    go_wp2_with fail
    refine (format_snap _ d A5 n5 c5 V19 (HD.out.later hHeld) HF.out hrs hn (HT.out.below hHeld HT.out.pos)).mono ?_
    rintro e V20 ⟨x, hFx, hZx, v9, rfl, hd9, hba⟩
    obtain ⟨A9, n9, c9, A9', n9', c9', rfl, hx9⟩ := hd9
    have hd9 : DkAt V20 V20.heap.size (.agg #[.slice A9 n9 c9, .slice A9' n9' c9', .int .i64 x.fuse, .bool x.down]) x := ⟨A9, n9, c9, A9', n9', c9', rfl, hx9⟩
    clear hx9 hrs
    unfold logN
    have hSa := hHeld.trans (hba.mono hHeld.size)
    replace k1 := k1.below hba k1.lt
    replace k2 := k2.below hba k2.lt
    replace k3 := k3.below hba k3.lt
    replace k7 := k7.below hba k7.lt
    clear hba hHeld
    refine hK.out _ _ hSa (fun hHeld => ?_)
    clear hK K
    try simp only [Act.put, jA, jB, jC]
    clear hSa
    refine wpAnyH_take (i := 3) (v := .tuple #[.agg #[.slice A9 n9 c9, .slice A9' n9' c9', .int .i64 x.fuse, .bool x.down], .agg #[.int .i64 ((0 : Nat) : Int), .int .i64 ((1 : Nat) : Int), .int .i64 ((2 : Nat) : Int), .int .i64 ((1 : Nat) : Int)], .int .i64 0]) rfl (by kernel_rfl) (by kernel_rfl) (by kernel_rfl) (fun _ _ _ h => h) (Or.inl ⟨by rfl, fun w0 hC => by simp [execOp, Act.eval, Act.put, go_sem]⟩) hHeld ?_
    try simp only [Act.put, jA, jB, jC]
    refine wpAnyH_take (i := 4) (v := .agg #[.slice A9 n9 c9, .slice A9' n9' c9', .int .i64 x.fuse, .bool x.down]) rfl (by kernel_rfl) (by kernel_rfl) (by kernel_rfl) (fun _ _ _ h => h) (Or.inl ⟨by rfl, fun w0 hC => by simp [execOp, Act.eval, Act.put, go_sem]⟩) hHeld ?_
    try simp only [Act.put, jA, jB, jC]
    refine wpAnyH_take (i := 5) (v := .agg #[.int .i64 ((0 : Nat) : Int), .int .i64 ((1 : Nat) : Int), .int .i64 ((2 : Nat) : Int), .int .i64 ((1 : Nat) : Int)]) rfl (by kernel_rfl) (by kernel_rfl) (by kernel_rfl) (fun _ _ _ h => h) (Or.inl ⟨by rfl, fun w0 hC => by simp [execOp, Act.eval, Act.put, go_sem]⟩) hHeld ?_
    try simp only [Act.put, jA, jB, jC]
    refine wpAnyH_take (i := 6) (v := .int .i64 0) rfl (by kernel_rfl) (by kernel_rfl) (by kernel_rfl) (fun _ _ _ h => h) (Or.inl ⟨by rfl, fun w0 hC => by simp [execOp, Act.eval, Act.put, go_sem]⟩) hHeld ?_
    try simp only [Act.put, jA, jB, jC]
    have hf8 := stored4_facts k1 (.slice A9 n9 c9) (.slice A9' n9' c9') (.int .i64 x.fuse) (.bool x.down)
    have HS : Hid ((fun W' => Below w.heap.size w W' ∧ Bk W' b1 27 #[.slice A9 n9 c9, .slice A9' n9' c9', .int .i64 x.fuse, .bool x.down] ∧ Bk W' b7 32 #[.int .i64 0, .int .i64 0, .int .i64 0, .int .i64 0] ∧ DkAt W' W'.heap.size (.agg #[.slice A9 n9 c9, .slice A9' n9' c9', .int .i64 x.fuse, .bool x.down]) x ∧ Bk W' b2 27 #[.slice none 0 0, .slice none 0 0, .int .i64 0, .bool false] ∧ Bk W' b3 35 #[.int .i64 0, .int .i64 0, .int .i64 0, .int .i64 0, .slice none 0 0]) (stored4 V20 b1 (.slice A9 n9 c9) (.slice A9' n9' c9') (.int .i64 x.fuse) (.bool x.down))) := Lib.hid ⟨hf8.2.2.1 _ _ hHeld hl1, hf8.1, hf8.2.2.2 _ _ _ hne k7, hf8.2.1 _ _ hd9, hf8.2.2.2 _ _ _ hn21 k2, hf8.2.2.2 _ _ _ hn31 k3⟩
    unfold stored4 at HS
    obtain ⟨⟨p0, p1, p2, p3⟩, q0, q1, q2, q3⟩ := k1.four
    clear hf8 k7 k2 k3 hd9
    refine wpAnyH_ready (rs := [8]) (by kernel_rfl) (by simp) (AllReadyH.cons rfl (fun K hK => ?_) AllReadyH.nil)
    rw [if_pos (by rfl)]
    go_wp2_with fail
    refine k_over (fun W' => Below w.heap.size w W' ∧ Bk W' b1 27 #[.slice A9 n9 c9, .slice A9' n9' c9', .int .i64 x.fuse, .bool x.down] ∧ Bk W' b7 32 #[.int .i64 0, .int .i64 0, .int .i64 0, .int .i64 0] ∧ DkAt W' W'.heap.size (.agg #[.slice A9 n9 c9, .slice A9' n9' c9', .int .i64 x.fuse, .bool x.down]) x ∧ Bk W' b2 27 #[.slice none 0 0, .slice none 0 0, .int .i64 0, .bool false] ∧ Bk W' b3 35 #[.int .i64 0, .int .i64 0, .int .i64 0, .int .i64 0, .slice none 0 0]) HS.out ?_
    clear HS k1 p0 p1 p2 p3 q0 q1 q2 q3 hHeld
    rintro U1 ⟨hSa, k1, k7, hd9, k2, k3⟩
    refine hK.out _ _ hSa (fun hHeld => ?_)
    clear hK K
    try simp only [Act.put, jA, jB, jC]
    clear hSa
    have hf9 := stored4_facts k7 (.int .i64 ((0 : Nat) : Int)) (.int .i64 ((1 : Nat) : Int)) (.int .i64 ((2 : Nat) : Int)) (.int .i64 ((1 : Nat) : Int))
    have HS : Hid ((fun W' => FmtK w n x b1 b2 b3 b7 W') (stored4 U1 b7 (.int .i64 ((0 : Nat) : Int)) (.int .i64 ((1 : Nat) : Int)) (.int .i64 ((2 : Nat) : Int)) (.int .i64 ((1 : Nat) : Int)))) := Lib.hid ⟨⟨⟨A9, n9, c9, A9', n9', c9', hf9.2.2.2 _ _ _ (Ne.symm hne) k1, hf9.2.1 _ _ hd9⟩, hf9.1, hf9.2.2.1 _ _ hHeld hl7⟩, hf9.2.2.2 _ _ _ (Ne.symm hn72) k2, hf9.2.2.2 _ _ _ (Ne.symm hn73) k3⟩
    unfold stored4 at HS
    obtain ⟨⟨p0, p1, p2, p3⟩, q0, q1, q2, q3⟩ := k7.four
    clear hf9 k1 hd9 k2 k3
    refine wpAnyH_ready (rs := [9]) (by kernel_rfl) (by simp) (AllReadyH.cons rfl (fun K hK => ?_) AllReadyH.nil)
    rw [if_pos (by rfl)]
    go_wp2_with fail
    refine k_over (fun W' => FmtK w n x b1 b2 b3 b7 W') HS.out ?_
    clear HS k7 p0 p1 p2 p3 q0 q1 q2 q3 hHeld
    rintro U2 hU2
    refine hK.out _ _ hU2.bx.hb (fun hHeld => ?_)
    clear hK K
    try simp only [Act.put, jA, jB, jC]
    refine wpAnyH_ready (rs := [10]) (by kernel_rfl) (by simp) (AllReadyH.cons rfl (fun K hK => ?_) AllReadyH.nil)
    rw [if_pos (by rfl)]
    go_wp2_with fail
    refine hK.out _ _ hHeld (fun hHeld => ?_)
    clear hK K
    try simp only [Act.put, jA, jB, jC]
    refine wpAnyH_done (by kernel_rfl) ?_ _
    go_wp2_with fail
    go_meet
    exact ⟨x, b7, hFx, hZx, rfl, rfl, hl7, hne, hn72, hn73, hU2⟩
 case rest =>
  obtain ⟨x, b7, hFx, hZx, rfl, rfl, hl7, hne, hn72, hn73, hU⟩ := hcut
  have HFX := Lib.hid hFx; have HZX := Lib.hid hZx; have HU := Lib.hid hU
  clear hFx hZx hU
  obtain ⟨⟨A9, n9, c9, A9', n9', c9', kd, hd9⟩, kl, hb⟩ := HU.out.bx
  have k2 := HU.out.k2
  have k3 := HU.out.k3
  obtain ⟨⟨p0, p1, p2, p3⟩, q0, q1, q2, q3⟩ := kd.four
  obtain ⟨⟨s0, s1, s2, s3⟩, _⟩ := kl.four
  obtain ⟨⟨t0, t1, t2, t3⟩, u0, u1, u2, u3⟩ := k2.four
  obtain ⟨⟨v0, v1, v2, v3, v4⟩, y0, y1, y2, y3, y4⟩ := k3.five
  have HTB := two_boxesS (x := x) ((0 : Nat) : Int) ((1 : Nat) : Int) ((2 : Nat) : Int) ((1 : Nat) : Int) none 0 0 k2 k3 hn32 hd9 hb hl2 hl3
  unfold stored5 stored4 at HTB
  clear kd kl hb hd9 HU k2 k3 HD HF HT
  go_wp2_with fail
  go_region
  refine post_over (LiesS w b2 b3 A9 A9' n9 c9 n9' c9' x ((0 : Nat) : Int) ((1 : Nat) : Int) ((2 : Nat) : Int) ((1 : Nat) : Int) none 0 0) HTB.out.drew ?_
  intro W' HW
  clear p0 p1 p2 p3 q0 q1 q2 q3 s0 s1 s2 s3 t0 t1 t2 t3 u0 u1 u2 u3 v0 v1 v2 v3 v4 y0 y1 y2 y3 y4 HTB
  have HW' := Lib.hid HW
  clear HW
  go_wp2
  refine bodyPost_ret (v := .tuple #[.agg #[.slice A9 n9 c9, .slice A9' n9' c9', .int .i64 x.fuse, .bool x.down], .agg #[.int .i64 ((0 : Nat) : Int), .int .i64 ((1 : Nat) : Int), .int .i64 ((2 : Nat) : Int), .int .i64 ((1 : Nat) : Int), .slice none 0 0], .int .i64 0]) ?_ rfl ⟨x, HFX.out, HZX.out, _, rfl, HW'.out.2.2.1, HW'.out.2.2.2⟩
  exact results_cct (fn := Tryz.f6) (a1 := ⟨b2, 0, none⟩) (a2 := ⟨b3, 0, none⟩) rfl rfl rfl rfl (load_box4 HW'.out.1) (load_store5 HW'.out.2.1)
end Go.Proofs.YtcdehejgnnnimaaGreatDoor
