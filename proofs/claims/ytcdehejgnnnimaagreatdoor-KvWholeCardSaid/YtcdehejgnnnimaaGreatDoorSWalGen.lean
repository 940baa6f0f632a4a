/-
 A part of the proof: see the last text.
-/
import Derived.Test.YtcdehejgnnnimaaGreatDoorSWalMarkIn
namespace Go.Proofs.YtcdehejgnnnimaaGreatDoor
open List renaming setIfInBounds_toArray → jA, set_cons_zero → jB, set_cons_succ → jC
set_option linter.unusedVariables false
set_option linter.unusedSimpArgs false
open Go.RowKit
def HeadYes (d : Dk) (o size g : Nat) : Prop := ∃ n s, 1 ≤ g ∧ g ≤ 1099511627776 ∧ 1 ≤ n ∧ n ≤ 6000 ∧ s < 4294967296 ∧ takesN n ≤ size ∧ seen d o = secN (markN g 0 n s)
def HeadNo (d : Dk) (o : Nat) : Prop := seen d o = zsec
set_option maxRecDepth 20000 in
set_option maxHeartbeats 4000000 in
theorem generation_yes (v : Value) (d : Dk) (h : Nat) (g : Nat) (w : World) (hd : DkAt w w.heap.size v d) (hr : rightB d = true) (hdn : d.down = false) (hh : h ≤ 1) (hy : HeadYes d (h * (d.secs.length / 2)) (d.secs.length / 2) g) :
 Calls Tryz.prog 51 #[v, .int .i64 (h : Int)] w fun e w' => e = .returned (.int .i64 (g : Int)) ∧ Below w.heap.size w w' := by
 obtain ⟨n, s, hg1, hg2, hn1, hn6, hs, hfit, hsee⟩ := hy
 obtain ⟨k, hk0⟩ : ∃ k : Nat, k = 0 := ⟨_, rfl⟩
 rw [← hk0] at hsee
 have hz : 0 < d.secs.length / 2 := by have := takesN_pos.2 ⟨hn1, hn6⟩; omega
 have HSEE := Lib.hid hsee
 have hki : ((k : Int) != 0) = false := by simp [hk0]
 have HK0 := Lib.hid hk0
 clear hsee hk0
 have hin : h * (d.secs.length / 2) + 0 < d.secs.length := by
  have : h = 0 ∨ h = 1 := by omega
  rcases this with rfl | rfl <;> omega
 obtain ⟨A, n0, c, A', n', c', rfl, hx⟩ := hd
 have HD := Lib.hid (show DkAt w w.heap.size (.agg #[.slice A n0 c, .slice A' n' c', .int .i64 d.fuse, .bool d.down]) d from ⟨A, n0, c, A', n', c', rfl, hx⟩)
 have HR := Lib.hid hr; have HDN := Lib.hid hdn
 have hsl : d.secs.length ≤ 4096 := (rightB_of.1 hr).1
 clear hx hr hdn
 have HIN := Lib.hid hin
 clear hin
 go_enter Tryz.func51, Tryz.ntmps51
 go_wp2_with fail
 have hm : Tryz.prog.follows .mixedOrders = true := by kernel_rfl
 refine wp_region_held_drew (S := fun W' => Bk W' w.heap.size 27 #[.slice A n0 c, .slice A' n' c', .int .i64 d.fuse, .bool d.down] ∧ Below w.heap.size w W') hm ⟨(Bk.new w _ _).drew, ((Below.refl _ _).alloc (Nat.le_refl _) _).drew⟩ (fun hHeld => ?_)
 generalize (w.alloc (.cells #[.slice A n0 c, .slice A' n' c', .int .i64 d.fuse, .bool d.down] 27)).drew = W at *
 simp only [List.size_toArray, List.length_cons, List.length_nil, Nat.reduceAdd]
 refine wpAnyH_take (i := 0) (v := .agg #[.slice A n0 c, .slice A' n' c', .int .i64 d.fuse, .bool d.down]) rfl (by kernel_rfl) (by kernel_rfl) (by kernel_rfl) (fun _ _ _ h => h) (Or.inl ⟨by rfl, fun w0 hC => by have := hC.1.four.1; simp [execOp, Act.eval, Act.put, go_sem, this.1, this.2.1, this.2.2.1, this.2.2.2]⟩) hHeld ?_
 try simp only [Act.put, jA, jB, jC]
 refine wpAnyH_take (i := 1) (v := .agg #[.slice A n0 c, .slice A' n' c', .int .i64 d.fuse, .bool d.down]) rfl (by kernel_rfl) (by kernel_rfl) (by kernel_rfl) (fun _ _ _ h => h) (Or.inl ⟨by rfl, fun w0 hC => by have := hC.1.four.1; simp [execOp, Act.eval, Act.put, go_sem, this.1, this.2.1, this.2.2.1, this.2.2.2]⟩) hHeld ?_
 try simp only [Act.put, jA, jB, jC]
 refine wpAnyH_take (i := 2) (v := .int .i64 (h : Int)) rfl (by kernel_rfl) (by kernel_rfl) (by kernel_rfl) (fun _ _ _ h => h) (Or.inl ⟨by rfl, fun w0 hC => by simp [execOp, Act.eval, Act.put, go_sem]⟩) hHeld ?_
 try simp only [Act.put, jA, jB, jC]
 refine wpAnyH_ready (rs := [3, 8]) (by kernel_rfl) (by simp) (AllReadyH.cons rfl (fun K hK => ?_) (AllReadyH.cons rfl (fun K hK => ?_) AllReadyH.nil))
 ·rw [if_pos (by rfl)]
  go_wp2_with fail
  refine (halfOf_any _ d h W (HD.out.later hHeld.2) hh hsl).mono ?_
  rintro e V1 ⟨rfl, hbn⟩
  have hS := And.intro (hHeld.1.below hbn hHeld.1.lt) (hHeld.2.trans (hbn.mono hHeld.2.size))
  clear hbn
  refine hK.out _ _ hS (fun hHeld => ?_)
  clear hK K
  try simp only [Act.put, jA, jB, jC]
  clear hS
  refine wpAnyH_ready (rs := [4, 8]) (by kernel_rfl) (by simp) (AllReadyH.cons rfl (fun K hK => ?_) (AllReadyH.cons rfl (fun K hK => ?_) AllReadyH.nil))
  ·rw [if_pos (by rfl)]
   go_wp2_with fail
   have hin := HIN.out
   have hc : Calls Tryz.prog 72 #[.agg #[.slice A n0 c, .slice A' n' c', .int .i64 d.fuse, .bool d.down], halfV (h * (d.secs.length / 2)) (d.secs.length / 2), .int .i64 0] V1 _ := markAt_yes _ d (h * (d.secs.length / 2)) (d.secs.length / 2) 0 V1 (HD.out.later hHeld.2) HR.out HDN.out (by omega) (by omega) g k n s hg1 hg2 hn1 hn6 hs (by have := HK0.out; omega) (by rw [Nat.zero_add]; exact hfit) (by rw [Nat.add_zero]; exact HSEE.out)
   refine hc.mono ?_
   clear hc hin
   unfold markV
   rintro e V2 ⟨rfl, hbn⟩
   have hS := And.intro (hHeld.1.below hbn hHeld.1.lt) (hHeld.2.trans (hbn.mono hHeld.2.size))
   clear hbn
   refine hK.out _ _ hS (fun hHeld => ?_)
   clear hK K
   try simp only [Act.put, jA, jB, jC]
   clear hS
   refine wpAnyH_take (i := 5) (v := .tuple #[.agg #[.int .i64 (g : Int), .int .i64 (k : Int), .int .i64 (n : Int), .int .i64 (s : Int)], .bool true]) rfl (by kernel_rfl) (by kernel_rfl) (by kernel_rfl) (fun _ _ _ h => h) (Or.inl ⟨by rfl, fun w0 hC => by simp [execOp, Act.eval, Act.put, go_sem]⟩) hHeld ?_
   try simp only [Act.put, jA, jB, jC]
   refine wpAnyH_take (i := 6) (v := .agg #[.int .i64 (g : Int), .int .i64 (k : Int), .int .i64 (n : Int), .int .i64 (s : Int)]) rfl (by kernel_rfl) (by kernel_rfl) (by kernel_rfl) (fun _ _ _ h => h) (Or.inl ⟨by rfl, fun w0 hC => by simp [execOp, Act.eval, Act.put, go_sem]⟩) hHeld ?_
   try simp only [Act.put, jA, jB, jC]
   refine wpAnyH_take (i := 7) (v := .bool true) rfl (by kernel_rfl) (by kernel_rfl) (by kernel_rfl) (fun _ _ _ h => h) (Or.inl ⟨by rfl, fun w0 hC => by simp [execOp, Act.eval, Act.put, go_sem]⟩) hHeld ?_
   try simp only [Act.put, jA, jB, jC]
   refine wpAnyH_ready (rs := [8]) (by kernel_rfl) (by simp) (AllReadyH.cons rfl (fun K hK => ?_) AllReadyH.nil)
   rw [if_pos (by rfl)]
   go_wp2_with fail
   have hbn : Below V2.heap.size V2 (V2.alloc (.cells #[.int .i64 0, .int .i64 0, .int .i64 0, .int .i64 0] 98)) := (Below.refl _ _).alloc (Nat.le_refl _) _
   have HB5 := Lib.hid (Bk.new V2 98 #[.int .i64 0, .int .i64 0, .int .i64 0, .int .i64 0])
   have hge5 : w.heap.size < V2.heap.size := hHeld.1.lt
   have hS := And.intro (hHeld.1.below hbn hHeld.1.lt) (hHeld.2.trans (hbn.mono hHeld.2.size))
   clear hbn
   refine hK.out _ _ hS (fun hHeld => ?_)
   clear hK K
   try simp only [Act.put, jA, jB, jC]
   clear hS
   generalize V2.alloc (.cells #[.int .i64 0, .int .i64 0, .int .i64 0, .int .i64 0] 98) = V3 at *
   generalize V2.heap.size = b5 at *
   refine wpAnyH_ready (rs := [9]) (by kernel_rfl) (by simp) (AllReadyH.cons rfl (fun K hK => ?_) AllReadyH.nil)
   rw [if_pos (by rfl)]
   obtain ⟨⟨v0, v1, v2, v3⟩, x0, x1, x2, x3⟩ := HB5.out.four
   have hst := stored4_facts HB5.out (.int .i64 (g : Int)) (.int .i64 (k : Int)) (.int .i64 (n : Int)) (.int .i64 (s : Int))
   have hS : Hid ((Bk (stored4 V3 b5 (.int .i64 (g : Int)) (.int .i64 (k : Int)) (.int .i64 (n : Int)) (.int .i64 (s : Int))) w.heap.size 27 #[.slice A n0 c, .slice A' n' c', .int .i64 d.fuse, .bool d.down] ∧ Below w.heap.size w (stored4 V3 b5 (.int .i64 (g : Int)) (.int .i64 (k : Int)) (.int .i64 (n : Int)) (.int .i64 (s : Int)))) ∧ Bk (stored4 V3 b5 (.int .i64 (g : Int)) (.int .i64 (k : Int)) (.int .i64 (n : Int)) (.int .i64 (s : Int))) b5 98 #[.int .i64 (g : Int), .int .i64 (k : Int), .int .i64 (n : Int), .int .i64 (s : Int)]) := Lib.hid ⟨⟨hst.2.2.2 _ _ _ (by omega) hHeld.1, hst.2.2.1 _ _ hHeld.2 (by omega)⟩, hst.1⟩
   unfold stored4 at hS
   clear hst HB5
   go_wp2_with fail
   refine hK.out _ _ hS.out.1 (fun hHeld => ?_)
   clear hK K
   try simp only [Act.put, jA, jB, jC]
   clear v0 v1 v2 v3 x0 x1 x2 x3
   refine wpAnyH_ready (rs := [10]) (by kernel_rfl) (by simp) (AllReadyH.cons rfl (fun K hK => ?_) AllReadyH.nil)
   rw [if_pos (by rfl)]
   go_wp2_with fail
   refine hK.out _ _ hHeld (fun hHeld => ?_)
   clear hK K
   try simp only [Act.put, jA, jB, jC]
   refine wpAnyH_done (by kernel_rfl) ?_ _
   clear hHeld
   refine post_over (fun W' => Below w.heap.size w W' ∧ Bk W' b5 98 #[.int .i64 (g : Int), .int .i64 (k : Int), .int .i64 (n : Int), .int .i64 (s : Int)]) ⟨hS.out.1.2, hS.out.2⟩ ?_
   clear hS
   rintro W' ⟨hb9, h5⟩
   obtain ⟨⟨v0, v1, v2, v3⟩, _⟩ := h5.four
   have HB9 := Lib.hid hb9
   clear hb9 h5
   go_wp2
   go_ret
   exact ⟨rfl, HB9.out⟩
  ·rw [if_pos (by rfl)]
   go_wp2_with fail
   have hbn : Below V1.heap.size V1 (V1.alloc (.cells #[.int .i64 0, .int .i64 0, .int .i64 0, .int .i64 0] 98)) := (Below.refl _ _).alloc (Nat.le_refl _) _
   have HB5 := Lib.hid (Bk.new V1 98 #[.int .i64 0, .int .i64 0, .int .i64 0, .int .i64 0])
   have hge5 : w.heap.size < V1.heap.size := hHeld.1.lt
   have hS := And.intro (hHeld.1.below hbn hHeld.1.lt) (hHeld.2.trans (hbn.mono hHeld.2.size))
   clear hbn
   refine hK.out _ _ hS (fun hHeld => ?_)
   clear hK K
   try simp only [Act.put, jA, jB, jC]
   clear hS
   generalize V1.alloc (.cells #[.int .i64 0, .int .i64 0, .int .i64 0, .int .i64 0] 98) = V2 at *
   generalize V1.heap.size = b5 at *
   refine wpAnyH_ready (rs := [4]) (by kernel_rfl) (by simp) (AllReadyH.cons rfl (fun K hK => ?_) AllReadyH.nil)
   rw [if_pos (by rfl)]
   go_wp2_with fail
   have hin := HIN.out
   have hc : Calls Tryz.prog 72 #[.agg #[.slice A n0 c, .slice A' n' c', .int .i64 d.fuse, .bool d.down], halfV (h * (d.secs.length / 2)) (d.secs.length / 2), .int .i64 0] V2 _ := markAt_yes _ d (h * (d.secs.length / 2)) (d.secs.length / 2) 0 V2 (HD.out.later hHeld.2) HR.out HDN.out (by omega) (by omega) g k n s hg1 hg2 hn1 hn6 hs (by have := HK0.out; omega) (by rw [Nat.zero_add]; exact hfit) (by rw [Nat.add_zero]; exact HSEE.out)
   refine hc.mono ?_
   clear hc hin
   unfold markV
   rintro e V3 ⟨rfl, hbn⟩
   have hS := And.intro (hHeld.1.below hbn hHeld.1.lt) (hHeld.2.trans (hbn.mono hHeld.2.size))
   replace HB5 := Lib.hid (HB5.out.below hbn HB5.out.lt)
   clear hbn
   refine hK.out _ _ hS (fun hHeld => ?_)
   clear hK K
   try simp only [Act.put, jA, jB, jC]
   clear hS
   refine wpAnyH_take (i := 5) (v := .tuple #[.agg #[.int .i64 (g : Int), .int .i64 (k : Int), .int .i64 (n : Int), .int .i64 (s : Int)], .bool true]) rfl (by kernel_rfl) (by kernel_rfl) (by kernel_rfl) (fun _ _ _ h => h) (Or.inl ⟨by rfl, fun w0 hC => by simp [execOp, Act.eval, Act.put, go_sem]⟩) hHeld ?_
   try simp only [Act.put, jA, jB, jC]
   refine wpAnyH_take (i := 6) (v := .agg #[.int .i64 (g : Int), .int .i64 (k : Int), .int .i64 (n : Int), .int .i64 (s : Int)]) rfl (by kernel_rfl) (by kernel_rfl) (by kernel_rfl) (fun _ _ _ h => h) (Or.inl ⟨by rfl, fun w0 hC => by simp [execOp, Act.eval, Act.put, go_sem]⟩) hHeld ?_
   try simp only [Act.put, jA, jB, jC]
   refine wpAnyH_take (i := 7) (v := .bool true) rfl (by kernel_rfl) (by kernel_rfl) (by kernel_rfl) (fun _ _ _ h => h) (Or.inl ⟨by rfl, fun w0 hC => by simp [execOp, Act.eval, Act.put, go_sem]⟩) hHeld ?_
   try simp only [Act.put, jA, jB, jC]
   refine wpAnyH_ready (rs := [9]) (by kernel_rfl) (by simp) (AllReadyH.cons rfl (fun K hK => ?_) AllReadyH.nil)
   rw [if_pos (by rfl)]
   obtain ⟨⟨v0, v1, v2, v3⟩, x0, x1, x2, x3⟩ := HB5.out.four
   have hst := stored4_facts HB5.out (.int .i64 (g : Int)) (.int .i64 (k : Int)) (.int .i64 (n : Int)) (.int .i64 (s : Int))
   have hS : Hid ((Bk (stored4 V3 b5 (.int .i64 (g : Int)) (.int .i64 (k : Int)) (.int .i64 (n : Int)) (.int .i64 (s : Int))) w.heap.size 27 #[.slice A n0 c, .slice A' n' c', .int .i64 d.fuse, .bool d.down] ∧ Below w.heap.size w (stored4 V3 b5 (.int .i64 (g : Int)) (.int .i64 (k : Int)) (.int .i64 (n : Int)) (.int .i64 (s : Int)))) ∧ Bk (stored4 V3 b5 (.int .i64 (g : Int)) (.int .i64 (k : Int)) (.int .i64 (n : Int)) (.int .i64 (s : Int))) b5 98 #[.int .i64 (g : Int), .int .i64 (k : Int), .int .i64 (n : Int), .int .i64 (s : Int)]) := Lib.hid ⟨⟨hst.2.2.2 _ _ _ (by omega) hHeld.1, hst.2.2.1 _ _ hHeld.2 (by omega)⟩, hst.1⟩
   unfold stored4 at hS
   clear hst HB5
   go_wp2_with fail
   refine hK.out _ _ hS.out.1 (fun hHeld => ?_)
   clear hK K
   try simp only [Act.put, jA, jB, jC]
   clear v0 v1 v2 v3 x0 x1 x2 x3
   refine wpAnyH_ready (rs := [10]) (by kernel_rfl) (by simp) (AllReadyH.cons rfl (fun K hK => ?_) AllReadyH.nil)
   rw [if_pos (by rfl)]
   go_wp2_with fail
   refine hK.out _ _ hHeld (fun hHeld => ?_)
   clear hK K
   try simp only [Act.put, jA, jB, jC]
   refine wpAnyH_done (by kernel_rfl) ?_ _
   clear hHeld
   refine post_over (fun W' => Below w.heap.size w W' ∧ Bk W' b5 98 #[.int .i64 (g : Int), .int .i64 (k : Int), .int .i64 (n : Int), .int .i64 (s : Int)]) ⟨hS.out.1.2, hS.out.2⟩ ?_
   clear hS
   rintro W' ⟨hb9, h5⟩
   obtain ⟨⟨v0, v1, v2, v3⟩, _⟩ := h5.four
   have HB9 := Lib.hid hb9
   clear hb9 h5
   go_wp2
   go_ret
   exact ⟨rfl, HB9.out⟩
 ·rw [if_pos (by rfl)]
  go_wp2_with fail
  have hbn : Below W.heap.size W (W.alloc (.cells #[.int .i64 0, .int .i64 0, .int .i64 0, .int .i64 0] 98)) := (Below.refl _ _).alloc (Nat.le_refl _) _
  have HB5 := Lib.hid (Bk.new W 98 #[.int .i64 0, .int .i64 0, .int .i64 0, .int .i64 0])
  have hge5 : w.heap.size < W.heap.size := hHeld.1.lt
  have hS := And.intro (hHeld.1.below hbn hHeld.1.lt) (hHeld.2.trans (hbn.mono hHeld.2.size))
  clear hbn
  refine hK.out _ _ hS (fun hHeld => ?_)
  clear hK K
  try simp only [Act.put, jA, jB, jC]
  clear hS
  generalize W.alloc (.cells #[.int .i64 0, .int .i64 0, .int .i64 0, .int .i64 0] 98) = V1 at *
  generalize W.heap.size = b5 at *
  refine wpAnyH_ready (rs := [3]) (by kernel_rfl) (by simp) (AllReadyH.cons rfl (fun K hK => ?_) AllReadyH.nil)
  rw [if_pos (by rfl)]
  go_wp2_with fail
  refine (halfOf_any _ d h V1 (HD.out.later hHeld.2) hh hsl).mono ?_
  rintro e V2 ⟨rfl, hbn⟩
  have hS := And.intro (hHeld.1.below hbn hHeld.1.lt) (hHeld.2.trans (hbn.mono hHeld.2.size))
  replace HB5 := Lib.hid (HB5.out.below hbn HB5.out.lt)
  clear hbn
  refine hK.out _ _ hS (fun hHeld => ?_)
  clear hK K
  try simp only [Act.put, jA, jB, jC]
  clear hS
  refine wpAnyH_ready (rs := [4]) (by kernel_rfl) (by simp) (AllReadyH.cons rfl (fun K hK => ?_) AllReadyH.nil)
  rw [if_pos (by rfl)]
  go_wp2_with fail
  have hin := HIN.out
  have hc : Calls Tryz.prog 72 #[.agg #[.slice A n0 c, .slice A' n' c', .int .i64 d.fuse, .bool d.down], halfV (h * (d.secs.length / 2)) (d.secs.length / 2), .int .i64 0] V2 _ := markAt_yes _ d (h * (d.secs.length / 2)) (d.secs.length / 2) 0 V2 (HD.out.later hHeld.2) HR.out HDN.out (by omega) (by omega) g k n s hg1 hg2 hn1 hn6 hs (by have := HK0.out; omega) (by rw [Nat.zero_add]; exact hfit) (by rw [Nat.add_zero]; exact HSEE.out)
  refine hc.mono ?_
  clear hc hin
  unfold markV
  rintro e V3 ⟨rfl, hbn⟩
  have hS := And.intro (hHeld.1.below hbn hHeld.1.lt) (hHeld.2.trans (hbn.mono hHeld.2.size))
  replace HB5 := Lib.hid (HB5.out.below hbn HB5.out.lt)
  clear hbn
  refine hK.out _ _ hS (fun hHeld => ?_)
  clear hK K
  try simp only [Act.put, jA, jB, jC]
  clear hS
  refine wpAnyH_take (i := 5) (v := .tuple #[.agg #[.int .i64 (g : Int), .int .i64 (k : Int), .int .i64 (n : Int), .int .i64 (s : Int)], .bool true]) rfl (by kernel_rfl) (by kernel_rfl) (by kernel_rfl) (fun _ _ _ h => h) (Or.inl ⟨by rfl, fun w0 hC => by simp [execOp, Act.eval, Act.put, go_sem]⟩) hHeld ?_
  try simp only [Act.put, jA, jB, jC]
  refine wpAnyH_take (i := 6) (v := .agg #[.int .i64 (g : Int), .int .i64 (k : Int), .int .i64 (n : Int), .int .i64 (s : Int)]) rfl (by kernel_rfl) (by kernel_rfl) (by kernel_rfl) (fun _ _ _ h => h) (Or.inl ⟨by rfl, fun w0 hC => by simp [execOp, Act.eval, Act.put, go_sem]⟩) hHeld ?_
  try simp only [Act.put, jA, jB, jC]
  refine wpAnyH_take (i := 7) (v := .bool true) rfl (by kernel_rfl) (by kernel_rfl) (by kernel_rfl) (fun _ _ _ h => h) (Or.inl ⟨by rfl, fun w0 hC => by simp [execOp, Act.eval, Act.put, go_sem]⟩) hHeld ?_
  try simp only [Act.put, jA, jB, jC]
  refine wpAnyH_ready (rs := [9]) (by kernel_rfl) (by simp) (AllReadyH.cons rfl (fun K hK => ?_) AllReadyH.nil)
  rw [if_pos (by rfl)]
  obtain ⟨⟨v0, v1, v2, v3⟩, x0, x1, x2, x3⟩ := HB5.out.four
  have hst := stored4_facts HB5.out (.int .i64 (g : Int)) (.int .i64 (k : Int)) (.int .i64 (n : Int)) (.int .i64 (s : Int))
  have hS : Hid ((Bk (stored4 V3 b5 (.int .i64 (g : Int)) (.int .i64 (k : Int)) (.int .i64 (n : Int)) (.int .i64 (s : Int))) w.heap.size 27 #[.slice A n0 c, .slice A' n' c', .int .i64 d.fuse, .bool d.down] ∧ Below w.heap.size w (stored4 V3 b5 (.int .i64 (g : Int)) (.int .i64 (k : Int)) (.int .i64 (n : Int)) (.int .i64 (s : Int)))) ∧ Bk (stored4 V3 b5 (.int .i64 (g : Int)) (.int .i64 (k : Int)) (.int .i64 (n : Int)) (.int .i64 (s : Int))) b5 98 #[.int .i64 (g : Int), .int .i64 (k : Int), .int .i64 (n : Int), .int .i64 (s : Int)]) := Lib.hid ⟨⟨hst.2.2.2 _ _ _ (by omega) hHeld.1, hst.2.2.1 _ _ hHeld.2 (by omega)⟩, hst.1⟩
  unfold stored4 at hS
  clear hst HB5
  go_wp2_with fail
  refine hK.out _ _ hS.out.1 (fun hHeld => ?_)
  clear hK K
  try simp only [Act.put, jA, jB, jC]
  clear v0 v1 v2 v3 x0 x1 x2 x3
  refine wpAnyH_ready (rs := [10]) (by kernel_rfl) (by simp) (AllReadyH.cons rfl (fun K hK => ?_) AllReadyH.nil)
  rw [if_pos (by rfl)]
  go_wp2_with fail
  refine hK.out _ _ hHeld (fun hHeld => ?_)
  clear hK K
  try simp only [Act.put, jA, jB, jC]
  refine wpAnyH_done (by kernel_rfl) ?_ _
  clear hHeld
  refine post_over (fun W' => Below w.heap.size w W' ∧ Bk W' b5 98 #[.int .i64 (g : Int), .int .i64 (k : Int), .int .i64 (n : Int), .int .i64 (s : Int)]) ⟨hS.out.1.2, hS.out.2⟩ ?_
  clear hS
  rintro W' ⟨hb9, h5⟩
  obtain ⟨⟨v0, v1, v2, v3⟩, _⟩ := h5.four
  have HB9 := Lib.hid hb9
  clear hb9 h5
  go_wp2
  go_ret
  exact ⟨rfl, HB9.out⟩
set_option maxRecDepth 20000 in
set_option maxHeartbeats 4000000 in
theorem generation_no (v : Value) (d : Dk) (h : Nat) (w : World) (hd : DkAt w w.heap.size v d) (hr : rightB d = true) (hdn : d.down = false) (hh : h ≤ 1) (hz : 0 < d.secs.length / 2) (hy : HeadNo d (h * (d.secs.length / 2))) :
 Calls Tryz.prog 51 #[v, .int .i64 (h : Int)] w fun e w' => e = .returned (.int .i64 0) ∧ Below w.heap.size w w' := by
 obtain ⟨g, hg⟩ : ∃ g : Nat, g = 0 := ⟨_, rfl⟩
 obtain ⟨k, hk0⟩ : ∃ k : Nat, k = 0 := ⟨_, rfl⟩
 obtain ⟨n, hn0⟩ : ∃ n : Nat, n = 0 := ⟨_, rfl⟩
 obtain ⟨s, hs0⟩ : ∃ s : Nat, s = 0 := ⟨_, rfl⟩
 have HMK : Hid (markV 0 0 0 0 = markV g k n s) := Lib.hid (by rw [hg, hk0, hn0, hs0])
 have HSEE : Hid (seen d (h * (d.secs.length / 2)) = zsec) := Lib.hid hy
 clear hg hk0 hn0 hs0 hy
 have hin : h * (d.secs.length / 2) + 0 < d.secs.length := by
  have : h = 0 ∨ h = 1 := by omega
  rcases this with rfl | rfl <;> omega
 obtain ⟨A, n0, c, A', n', c', rfl, hx⟩ := hd
 have HD := Lib.hid (show DkAt w w.heap.size (.agg #[.slice A n0 c, .slice A' n' c', .int .i64 d.fuse, .bool d.down]) d from ⟨A, n0, c, A', n', c', rfl, hx⟩)
 have HR := Lib.hid hr; have HDN := Lib.hid hdn
 have hsl : d.secs.length ≤ 4096 := (rightB_of.1 hr).1
 clear hx hr hdn
 have HIN := Lib.hid hin
 clear hin
 go_enter Tryz.func51, Tryz.ntmps51
 go_wp2_with fail
 have hm : Tryz.prog.follows .mixedOrders = true := by kernel_rfl
 refine wp_region_held_drew (S := fun W' => Bk W' w.heap.size 27 #[.slice A n0 c, .slice A' n' c', .int .i64 d.fuse, .bool d.down] ∧ Below w.heap.size w W') hm ⟨(Bk.new w _ _).drew, ((Below.refl _ _).alloc (Nat.le_refl _) _).drew⟩ (fun hHeld => ?_)
 generalize (w.alloc (.cells #[.slice A n0 c, .slice A' n' c', .int .i64 d.fuse, .bool d.down] 27)).drew = W at *
 simp only [List.size_toArray, List.length_cons, List.length_nil, Nat.reduceAdd]
 refine wpAnyH_take (i := 0) (v := .agg #[.slice A n0 c, .slice A' n' c', .int .i64 d.fuse, .bool d.down]) rfl (by kernel_rfl) (by kernel_rfl) (by kernel_rfl) (fun _ _ _ h => h) (Or.inl ⟨by rfl, fun w0 hC => by have := hC.1.four.1; simp [execOp, Act.eval, Act.put, go_sem, this.1, this.2.1, this.2.2.1, this.2.2.2]⟩) hHeld ?_
 try simp only [Act.put, jA, jB, jC]
 refine wpAnyH_take (i := 1) (v := .agg #[.slice A n0 c, .slice A' n' c', .int .i64 d.fuse, .bool d.down]) rfl (by kernel_rfl) (by kernel_rfl) (by kernel_rfl) (fun _ _ _ h => h) (Or.inl ⟨by rfl, fun w0 hC => by have := hC.1.four.1; simp [execOp, Act.eval, Act.put, go_sem, this.1, this.2.1, this.2.2.1, this.2.2.2]⟩) hHeld ?_
 try simp only [Act.put, jA, jB, jC]
 refine wpAnyH_take (i := 2) (v := .int .i64 (h : Int)) rfl (by kernel_rfl) (by kernel_rfl) (by kernel_rfl) (fun _ _ _ h => h) (Or.inl ⟨by rfl, fun w0 hC => by simp [execOp, Act.eval, Act.put, go_sem]⟩) hHeld ?_
 try simp only [Act.put, jA, jB, jC]
 refine wpAnyH_ready (rs := [3, 8]) (by kernel_rfl) (by simp) (AllReadyH.cons rfl (fun K hK => ?_) (AllReadyH.cons rfl (fun K hK => ?_) AllReadyH.nil))
 ·rw [if_pos (by rfl)]
  go_wp2_with fail
  refine (halfOf_any _ d h W (HD.out.later hHeld.2) hh hsl).mono ?_
  rintro e V1 ⟨rfl, hbn⟩
  have hS := And.intro (hHeld.1.below hbn hHeld.1.lt) (hHeld.2.trans (hbn.mono hHeld.2.size))
  clear hbn
  refine hK.out _ _ hS (fun hHeld => ?_)
  clear hK K
  try simp only [Act.put, jA, jB, jC]
  clear hS
  refine wpAnyH_ready (rs := [4, 8]) (by kernel_rfl) (by simp) (AllReadyH.cons rfl (fun K hK => ?_) (AllReadyH.cons rfl (fun K hK => ?_) AllReadyH.nil))
  ·rw [if_pos (by rfl)]
   go_wp2_with fail
   have hin := HIN.out
   have hc : Calls Tryz.prog 72 #[.agg #[.slice A n0 c, .slice A' n' c', .int .i64 d.fuse, .bool d.down], halfV (h * (d.secs.length / 2)) (d.secs.length / 2), .int .i64 0] V1 _ := markAt_zero _ d (h * (d.secs.length / 2)) (d.secs.length / 2) 0 V1 (HD.out.later hHeld.2) HR.out HDN.out (by omega) (by omega) (by rw [Nat.add_zero]; exact HSEE.out)
   refine hc.mono ?_
   clear hc hin
   rw [HMK.out]
   unfold markV
   rintro e V2 ⟨rfl, hbn⟩
   have hS := And.intro (hHeld.1.below hbn hHeld.1.lt) (hHeld.2.trans (hbn.mono hHeld.2.size))
   clear hbn
   refine hK.out _ _ hS (fun hHeld => ?_)
   clear hK K
   try simp only [Act.put, jA, jB, jC]
   clear hS
   refine wpAnyH_take (i := 5) (v := .tuple #[.agg #[.int .i64 (g : Int), .int .i64 (k : Int), .int .i64 (n : Int), .int .i64 (s : Int)], .bool false]) rfl (by kernel_rfl) (by kernel_rfl) (by kernel_rfl) (fun _ _ _ h => h) (Or.inl ⟨by rfl, fun w0 hC => by simp [execOp, Act.eval, Act.put, go_sem]⟩) hHeld ?_
   try simp only [Act.put, jA, jB, jC]
   refine wpAnyH_take (i := 6) (v := .agg #[.int .i64 (g : Int), .int .i64 (k : Int), .int .i64 (n : Int), .int .i64 (s : Int)]) rfl (by kernel_rfl) (by kernel_rfl) (by kernel_rfl) (fun _ _ _ h => h) (Or.inl ⟨by rfl, fun w0 hC => by simp [execOp, Act.eval, Act.put, go_sem]⟩) hHeld ?_
   try simp only [Act.put, jA, jB, jC]
   refine wpAnyH_take (i := 7) (v := .bool false) rfl (by kernel_rfl) (by kernel_rfl) (by kernel_rfl) (fun _ _ _ h => h) (Or.inl ⟨by rfl, fun w0 hC => by simp [execOp, Act.eval, Act.put, go_sem]⟩) hHeld ?_
   try simp only [Act.put, jA, jB, jC]
   refine wpAnyH_ready (rs := [8]) (by kernel_rfl) (by simp) (AllReadyH.cons rfl (fun K hK => ?_) AllReadyH.nil)
   rw [if_pos (by rfl)]
   go_wp2_with fail
   have hbn : Below V2.heap.size V2 (V2.alloc (.cells #[.int .i64 0, .int .i64 0, .int .i64 0, .int .i64 0] 98)) := (Below.refl _ _).alloc (Nat.le_refl _) _
   have HB5 := Lib.hid (Bk.new V2 98 #[.int .i64 0, .int .i64 0, .int .i64 0, .int .i64 0])
   have hge5 : w.heap.size < V2.heap.size := hHeld.1.lt
   have hS := And.intro (hHeld.1.below hbn hHeld.1.lt) (hHeld.2.trans (hbn.mono hHeld.2.size))
   clear hbn
   refine hK.out _ _ hS (fun hHeld => ?_)
   clear hK K
   try simp only [Act.put, jA, jB, jC]
   clear hS
   generalize V2.alloc (.cells #[.int .i64 0, .int .i64 0, .int .i64 0, .int .i64 0] 98) = V3 at *
   generalize V2.heap.size = b5 at *
   refine wpAnyH_ready (rs := [9]) (by kernel_rfl) (by simp) (AllReadyH.cons rfl (fun K hK => ?_) AllReadyH.nil)
   rw [if_pos (by rfl)]
   obtain ⟨⟨v0, v1, v2, v3⟩, x0, x1, x2, x3⟩ := HB5.out.four
   have hst := stored4_facts HB5.out (.int .i64 (g : Int)) (.int .i64 (k : Int)) (.int .i64 (n : Int)) (.int .i64 (s : Int))
   have hS : Hid ((Bk (stored4 V3 b5 (.int .i64 (g : Int)) (.int .i64 (k : Int)) (.int .i64 (n : Int)) (.int .i64 (s : Int))) w.heap.size 27 #[.slice A n0 c, .slice A' n' c', .int .i64 d.fuse, .bool d.down] ∧ Below w.heap.size w (stored4 V3 b5 (.int .i64 (g : Int)) (.int .i64 (k : Int)) (.int .i64 (n : Int)) (.int .i64 (s : Int)))) ∧ Bk (stored4 V3 b5 (.int .i64 (g : Int)) (.int .i64 (k : Int)) (.int .i64 (n : Int)) (.int .i64 (s : Int))) b5 98 #[.int .i64 (g : Int), .int .i64 (k : Int), .int .i64 (n : Int), .int .i64 (s : Int)]) := Lib.hid ⟨⟨hst.2.2.2 _ _ _ (by omega) hHeld.1, hst.2.2.1 _ _ hHeld.2 (by omega)⟩, hst.1⟩
   unfold stored4 at hS
   clear hst HB5
   go_wp2_with fail
   refine hK.out _ _ hS.out.1 (fun hHeld => ?_)
   clear hK K
   try simp only [Act.put, jA, jB, jC]
   clear v0 v1 v2 v3 x0 x1 x2 x3
   refine wpAnyH_ready (rs := [10]) (by kernel_rfl) (by simp) (AllReadyH.cons rfl (fun K hK => ?_) AllReadyH.nil)
   rw [if_pos (by rfl)]
   go_wp2_with fail
   refine hK.out _ _ hHeld (fun hHeld => ?_)
   clear hK K
   try simp only [Act.put, jA, jB, jC]
   refine wpAnyH_done (by kernel_rfl) ?_ _
   clear hHeld
   refine post_over (fun W' => Below w.heap.size w W' ∧ Bk W' b5 98 #[.int .i64 (g : Int), .int .i64 (k : Int), .int .i64 (n : Int), .int .i64 (s : Int)]) ⟨hS.out.1.2, hS.out.2⟩ ?_
   clear hS
   rintro W' ⟨hb9, h5⟩
   obtain ⟨⟨v0, v1, v2, v3⟩, _⟩ := h5.four
   have HB9 := Lib.hid hb9
   clear hb9 h5
   go_wp2
   go_ret
   exact ⟨rfl, HB9.out⟩
  ·rw [if_pos (by rfl)]
   go_wp2_with fail
   have hbn : Below V1.heap.size V1 (V1.alloc (.cells #[.int .i64 0, .int .i64 0, .int .i64 0, .int .i64 0] 98)) := (Below.refl _ _).alloc (Nat.le_refl _) _
   have HB5 := Lib.hid (Bk.new V1 98 #[.int .i64 0, .int .i64 0, .int .i64 0, .int .i64 0])
   have hge5 : w.heap.size < V1.heap.size := hHeld.1.lt
   have hS := And.intro (hHeld.1.below hbn hHeld.1.lt) (hHeld.2.trans (hbn.mono hHeld.2.size))
   clear hbn
   refine hK.out _ _ hS (fun hHeld => ?_)
   clear hK K
   try simp only [Act.put, jA, jB, jC]
   clear hS
   generalize V1.alloc (.cells #[.int .i64 0, .int .i64 0, .int .i64 0, .int .i64 0] 98) = V2 at *
   generalize V1.heap.size = b5 at *
   refine wpAnyH_ready (rs := [4]) (by kernel_rfl) (by simp) (AllReadyH.cons rfl (fun K hK => ?_) AllReadyH.nil)
   rw [if_pos (by rfl)]
   go_wp2_with fail
   have hin := HIN.out
   have hc : Calls Tryz.prog 72 #[.agg #[.slice A n0 c, .slice A' n' c', .int .i64 d.fuse, .bool d.down], halfV (h * (d.secs.length / 2)) (d.secs.length / 2), .int .i64 0] V2 _ := markAt_zero _ d (h * (d.secs.length / 2)) (d.secs.length / 2) 0 V2 (HD.out.later hHeld.2) HR.out HDN.out (by omega) (by omega) (by rw [Nat.add_zero]; exact HSEE.out)
   refine hc.mono ?_
   clear hc hin
   rw [HMK.out]
   unfold markV
   rintro e V3 ⟨rfl, hbn⟩
   have hS := And.intro (hHeld.1.below hbn hHeld.1.lt) (hHeld.2.trans (hbn.mono hHeld.2.size))
   replace HB5 := Lib.hid (HB5.out.below hbn HB5.out.lt)
   clear hbn
   refine hK.out _ _ hS (fun hHeld => ?_)
   clear hK K
   try simp only [Act.put, jA, jB, jC]
   clear hS
   refine wpAnyH_take (i := 5) (v := .tuple #[.agg #[.int .i64 (g : Int), .int .i64 (k : Int), .int .i64 (n : Int), .int .i64 (s : Int)], .bool false]) rfl (by kernel_rfl) (by kernel_rfl) (by kernel_rfl) (fun _ _ _ h => h) (Or.inl ⟨by rfl, fun w0 hC => by simp [execOp, Act.eval, Act.put, go_sem]⟩) hHeld ?_
   try simp only [Act.put, jA, jB, jC]
   refine wpAnyH_take (i := 6) (v := .agg #[.int .i64 (g : Int), .int .i64 (k : Int), .int .i64 (n : Int), .int .i64 (s : Int)]) rfl (by kernel_rfl) (by kernel_rfl) (by kernel_rfl) (fun _ _ _ h => h) (Or.inl ⟨by rfl, fun w0 hC => by simp [execOp, Act.eval, Act.put, go_sem]⟩) hHeld ?_
   try simp only [Act.put, jA, jB, jC]
   refine wpAnyH_take (i := 7) (v := .bool false) rfl (by kernel_rfl) (by kernel_rfl) (by kernel_rfl) (fun _ _ _ h => h) (Or.inl ⟨by rfl, fun w0 hC => by simp [execOp, Act.eval, Act.put, go_sem]⟩) hHeld ?_
   try simp only [Act.put, jA, jB, jC]
   refine wpAnyH_ready (rs := [9]) (by kernel_rfl) (by simp) (AllReadyH.cons rfl (fun K hK => ?_) AllReadyH.nil)
   rw [if_pos (by rfl)]
   obtain ⟨⟨v0, v1, v2, v3⟩, x0, x1, x2, x3⟩ := HB5.out.four
   have hst := stored4_facts HB5.out (.int .i64 (g : Int)) (.int .i64 (k : Int)) (.int .i64 (n : Int)) (.int .i64 (s : Int))
   have hS : Hid ((Bk (stored4 V3 b5 (.int .i64 (g : Int)) (.int .i64 (k : Int)) (.int .i64 (n : Int)) (.int .i64 (s : Int))) w.heap.size 27 #[.slice A n0 c, .slice A' n' c', .int .i64 d.fuse, .bool d.down] ∧ Below w.heap.size w (stored4 V3 b5 (.int .i64 (g : Int)) (.int .i64 (k : Int)) (.int .i64 (n : Int)) (.int .i64 (s : Int)))) ∧ Bk (stored4 V3 b5 (.int .i64 (g : Int)) (.int .i64 (k : Int)) (.int .i64 (n : Int)) (.int .i64 (s : Int))) b5 98 #[.int .i64 (g : Int), .int .i64 (k : Int), .int .i64 (n : Int), .int .i64 (s : Int)]) := Lib.hid ⟨⟨hst.2.2.2 _ _ _ (by omega) hHeld.1, hst.2.2.1 _ _ hHeld.2 (by omega)⟩, hst.1⟩
   unfold stored4 at hS
   clear hst HB5
   go_wp2_with fail
   refine hK.out _ _ hS.out.1 (fun hHeld => ?_)
   clear hK K
   try simp only [Act.put, jA, jB, jC]
   clear v0 v1 v2 v3 x0 x1 x2 x3
   refine wpAnyH_ready (rs := [10]) (by kernel_rfl) (by simp) (AllReadyH.cons rfl (fun K hK => ?_) AllReadyH.nil)
   rw [if_pos (by rfl)]
   go_wp2_with fail
   refine hK.out _ _ hHeld (fun hHeld => ?_)
   clear hK K
   try simp only [Act.put, jA, jB, jC]
   refine wpAnyH_done (by kernel_rfl) ?_ _
   clear hHeld
   refine post_over (fun W' => Below w.heap.size w W' ∧ Bk W' b5 98 #[.int .i64 (g : Int), .int .i64 (k : Int), .int .i64 (n : Int), .int .i64 (s : Int)]) ⟨hS.out.1.2, hS.out.2⟩ ?_
   clear hS
   rintro W' ⟨hb9, h5⟩
   obtain ⟨⟨v0, v1, v2, v3⟩, _⟩ := h5.four
   have HB9 := Lib.hid hb9
   clear hb9 h5
   go_wp2
   go_ret
   exact ⟨rfl, HB9.out⟩
 ·rw [if_pos (by rfl)]
  go_wp2_with fail
  have hbn : Below W.heap.size W (W.alloc (.cells #[.int .i64 0, .int .i64 0, .int .i64 0, .int .i64 0] 98)) := (Below.refl _ _).alloc (Nat.le_refl _) _
  have HB5 := Lib.hid (Bk.new W 98 #[.int .i64 0, .int .i64 0, .int .i64 0, .int .i64 0])
  have hge5 : w.heap.size < W.heap.size := hHeld.1.lt
  have hS := And.intro (hHeld.1.below hbn hHeld.1.lt) (hHeld.2.trans (hbn.mono hHeld.2.size))
  clear hbn
  refine hK.out _ _ hS (fun hHeld => ?_)
  clear hK K
  try simp only [Act.put, jA, jB, jC]
  clear hS
  generalize W.alloc (.cells #[.int .i64 0, .int .i64 0, .int .i64 0, .int .i64 0] 98) = V1 at *
  generalize W.heap.size = b5 at *
  refine wpAnyH_ready (rs := [3]) (by kernel_rfl) (by simp) (AllReadyH.cons rfl (fun K hK => ?_) AllReadyH.nil)
  rw [if_pos (by rfl)]
  go_wp2_with fail
  refine (halfOf_any _ d h V1 (HD.out.later hHeld.2) hh hsl).mono ?_
  rintro e V2 ⟨rfl, hbn⟩
  have hS := And.intro (hHeld.1.below hbn hHeld.1.lt) (hHeld.2.trans (hbn.mono hHeld.2.size))
  replace HB5 := Lib.hid (HB5.out.below hbn HB5.out.lt)
  clear hbn
  refine hK.out _ _ hS (fun hHeld => ?_)
  clear hK K
  try simp only [Act.put, jA, jB, jC]
  clear hS
  refine wpAnyH_ready (rs := [4]) (by kernel_rfl) (by simp) (AllReadyH.cons rfl (fun K hK => ?_) AllReadyH.nil)
  rw [if_pos (by rfl)]
  go_wp2_with fail
  have hin := HIN.out
  have hc : Calls Tryz.prog 72 #[.agg #[.slice A n0 c, .slice A' n' c', .int .i64 d.fuse, .bool d.down], halfV (h * (d.secs.length / 2)) (d.secs.length / 2), .int .i64 0] V2 _ := markAt_zero _ d (h * (d.secs.length / 2)) (d.secs.length / 2) 0 V2 (HD.out.later hHeld.2) HR.out HDN.out (by omega) (by omega) (by rw [Nat.add_zero]; exact HSEE.out)
  refine hc.mono ?_
  clear hc hin
  rw [HMK.out]
  unfold markV
  rintro e V3 ⟨rfl, hbn⟩
  have hS := And.intro (hHeld.1.below hbn hHeld.1.lt) (hHeld.2.trans (hbn.mono hHeld.2.size))
  replace HB5 := Lib.hid (HB5.out.below hbn HB5.out.lt)
  clear hbn
  refine hK.out _ _ hS (fun hHeld => ?_)
  clear hK K
  try simp only [Act.put, jA, jB, jC]
  clear hS
  refine wpAnyH_take (i := 5) (v := .tuple #[.agg #[.int .i64 (g : Int), .int .i64 (k : Int), .int .i64 (n : Int), .int .i64 (s : Int)], .bool false]) rfl (by kernel_rfl) (by kernel_rfl) (by kernel_rfl) (fun _ _ _ h => h) (Or.inl ⟨by rfl, fun w0 hC => by simp [execOp, Act.eval, Act.put, go_sem]⟩) hHeld ?_
  try simp only [Act.put, jA, jB, jC]
  refine wpAnyH_take (i := 6) (v := .agg #[.int .i64 (g : Int), .int .i64 (k : Int), .int .i64 (n : Int), .int .i64 (s : Int)]) rfl (by kernel_rfl) (by kernel_rfl) (by kernel_rfl) (fun _ _ _ h => h) (Or.inl ⟨by rfl, fun w0 hC => by simp [execOp, Act.eval, Act.put, go_sem]⟩) hHeld ?_
  try simp only [Act.put, jA, jB, jC]
  refine wpAnyH_take (i := 7) (v := .bool false) rfl (by kernel_rfl) (by kernel_rfl) (by kernel_rfl) (fun _ _ _ h => h) (Or.inl ⟨by rfl, fun w0 hC => by simp [execOp, Act.eval, Act.put, go_sem]⟩) hHeld ?_
  try simp only [Act.put, jA, jB, jC]
  refine wpAnyH_ready (rs := [9]) (by kernel_rfl) (by simp) (AllReadyH.cons rfl (fun K hK => ?_) AllReadyH.nil)
  rw [if_pos (by rfl)]
  obtain ⟨⟨v0, v1, v2, v3⟩, x0, x1, x2, x3⟩ := HB5.out.four
  have hst := stored4_facts HB5.out (.int .i64 (g : Int)) (.int .i64 (k : Int)) (.int .i64 (n : Int)) (.int .i64 (s : Int))
  have hS : Hid ((Bk (stored4 V3 b5 (.int .i64 (g : Int)) (.int .i64 (k : Int)) (.int .i64 (n : Int)) (.int .i64 (s : Int))) w.heap.size 27 #[.slice A n0 c, .slice A' n' c', .int .i64 d.fuse, .bool d.down] ∧ Below w.heap.size w (stored4 V3 b5 (.int .i64 (g : Int)) (.int .i64 (k : Int)) (.int .i64 (n : Int)) (.int .i64 (s : Int)))) ∧ Bk (stored4 V3 b5 (.int .i64 (g : Int)) (.int .i64 (k : Int)) (.int .i64 (n : Int)) (.int .i64 (s : Int))) b5 98 #[.int .i64 (g : Int), .int .i64 (k : Int), .int .i64 (n : Int), .int .i64 (s : Int)]) := Lib.hid ⟨⟨hst.2.2.2 _ _ _ (by omega) hHeld.1, hst.2.2.1 _ _ hHeld.2 (by omega)⟩, hst.1⟩
  unfold stored4 at hS
  clear hst HB5
  go_wp2_with fail
  refine hK.out _ _ hS.out.1 (fun hHeld => ?_)
  clear hK K
  try simp only [Act.put, jA, jB, jC]
  clear v0 v1 v2 v3 x0 x1 x2 x3
  refine wpAnyH_ready (rs := [10]) (by kernel_rfl) (by simp) (AllReadyH.cons rfl (fun K hK => ?_) AllReadyH.nil)
  rw [if_pos (by rfl)]
  go_wp2_with fail
  refine hK.out _ _ hHeld (fun hHeld => ?_)
  clear hK K
  try simp only [Act.put, jA, jB, jC]
  refine wpAnyH_done (by kernel_rfl) ?_ _
  clear hHeld
  refine post_over (fun W' => Below w.heap.size w W' ∧ Bk W' b5 98 #[.int .i64 (g : Int), .int .i64 (k : Int), .int .i64 (n : Int), .int .i64 (s : Int)]) ⟨hS.out.1.2, hS.out.2⟩ ?_
  clear hS
  rintro W' ⟨hb9, h5⟩
  obtain ⟨⟨v0, v1, v2, v3⟩, _⟩ := h5.four
  have HB9 := Lib.hid hb9
  clear hb9 h5
  go_wp2
  go_ret
  exact ⟨rfl, HB9.out⟩
end Go.Proofs.YtcdehejgnnnimaaGreatDoor
