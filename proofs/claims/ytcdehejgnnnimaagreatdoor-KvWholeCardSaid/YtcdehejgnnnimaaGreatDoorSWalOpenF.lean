/-
 A part of the proof: see the last text.
-/
import Derived.Test.YtcdehejgnnnimaaGreatDoorSWalAlive
namespace Go.Proofs.YtcdehejgnnnimaaGreatDoor
open List renaming setIfInBounds_toArray → jA, set_cons_zero → jB, set_cons_succ → jC
set_option linter.unusedVariables false
set_option linter.unusedSimpArgs false
open Go.RowKit
set_option maxRecDepth 20000 in
set_option maxHeartbeats 8000000 in
theorem open_fall0 (v : Value) (d : Dk) (G0 G1 : Nat) (L : List (List Nat)) (w : World) (hd : DkAt w w.heap.size v d) (hr : rightB d = true) (hdn : d.down = false) (hg0 : GenIs d (0 * (d.secs.length / 2)) (d.secs.length / 2) G0) (hg1 : GenIs d (1 * (d.secs.length / 2)) (d.secs.length / 2) G1) (hcmp : G1 ≤ G0)
 (hlog : Log d (0 * (d.secs.length / 2)) (d.secs.length / 2) G0 L) (hne : L ≠ []) (hgm : G0 < 1099511627776) (ht : Tab w) (hx : (runM d (layD (d.secs.length / 2) (d.secs.length / 2) (G0 + 1) L)).2 = 9) :
 Calls Tryz.prog 26 #[v] w (OpFall w (runM d (layD (d.secs.length / 2) (d.secs.length / 2) (G0 + 1) L))) := by
 have hz : 0 < d.secs.length / 2 := by
  have h1 := hlog.2.2.1
  have h2 := sumT_ge hlog.1
  have h3 : 0 < L.length := List.length_pos_iff.2 hne
  omega
 have hgp : 1 ≤ G0 := hlog.2.2.2.1
 have hlf : L.length ≤ 1000000 := by
  have h1 := hlog.2.2.1
  have h2 := sumT_ge hlog.1
  have h3 := (rightB_of.1 hr).1
  omega
 generalize hX : runM d (layD (d.secs.length / 2) (d.secs.length / 2) (G0 + 1) L) = x at *
 have HX := Lib.hid hX; have HX0 := Lib.hid hx
 have hxi : (x.2 != 0) = true := by rw [hx]; rfl
 obtain ⟨A, n0, c, A', n', c', rfl, hxx⟩ := hd
 have HD := Lib.hid (show DkAt w w.heap.size (.agg #[.slice A n0 c, .slice A' n' c', .int .i64 d.fuse, .bool false]) d from ⟨A, n0, c, A', n', c', by rw [hdn], hxx⟩)
 have HR := Lib.hid hr; have HDN := Lib.hid hdn; have HG0 := Lib.hid hg0; have HG1 := Lib.hid hg1; have HLOG := Lib.hid hlog; have HNE := Lib.hid hne; have HTAB := Lib.hid ht
 have HOB : Hid (OpnB w #[.slice A n0 c, .slice A' n' c', .int .i64 d.fuse, .bool false] (((w.alloc (.cells #[.slice A n0 c, .slice A' n' c', .int .i64 d.fuse, .bool false] 27)).alloc (.cells #[.slice none 0 0, .slice none 0 0, .int .i64 0, .bool false] 27)).alloc (.cells #[.int .i64 0, .int .i64 0, .int .i64 0, .int .i64 0] 32))) := Lib.hid ⟨((Bk.new w _ _).alloc _).alloc _, (Bk.new2 w _ _ _).alloc _, Bk.new3 w _ _ _ _, (((Below.refl _ _).alloc (Nat.le_refl _) _).alloc (by simp) _).alloc (by simp only [World.size_alloc]; omega) _⟩
 clear hxx hr hg0 hg1 hlog hne ht hX hx
 rw [hdn]
 clear hdn
 go_enter Tryz.func26, Tryz.ntmps26
 go_wp2_with fail
 generalize ((w.alloc (.cells #[.slice A n0 c, .slice A' n' c', .int .i64 d.fuse, .bool false] 27)).alloc (.cells #[.slice none 0 0, .slice none 0 0, .int .i64 0, .bool false] 27)).alloc (.cells #[.int .i64 0, .int .i64 0, .int .i64 0, .int .i64 0] 32) = W0 at *
 refine (right_any _ d W0 (HD.out.later HOB.out.hb)).mono ?_
 rw [HR.out]
 rintro e W ⟨rfl, hbR⟩
 have HB := Lib.hid (HOB.out.below hbR)
 clear HOB hbR
 obtain ⟨⟨p0, p1, p2, p3⟩, _⟩ := HB.out.b1.four
 have hl1 := HB.out.b1.lt
 go_wp2_with fail
 have hm : Tryz.prog.follows .mixedOrders = true := by kernel_rfl
 have e32 : ∀ args w, (callFunc 51 args).run Tryz.prog w = .ok (.enter 51 args) w := enters_of Tryz.func51 (by kernel_rfl) rfl
 refine wp_region_quiet (C := fun W' => Below W.heap.size W W') hm (by kernel_rfl) (show Below W.heap.size W W.drew from (Below.refl _ _).drew) ?_
 refine quiet_val (v := .agg #[.slice A n0 c, .slice A' n' c', .int .i64 d.fuse, .bool false]) (by rfl) (fun W' hC => by have := (HB.out.b1.below hC hl1).four.1; simp [execOp, Act.eval, Act.put, go_sem, this.1, this.2.1, this.2.2.1, this.2.2.2]) ?_
 simp only [Act.put, jA, jB, jC]
 refine quiet_call (v := .int .i64 (G1 : Int)) (f := 51) (args := #[.agg #[.slice A n0 c, .slice A' n' c', .int .i64 d.fuse, .bool false], .int .i64 1]) (by rfl) (fun W' hC => exec_fn rfl rfl (by simp [Act.eval]) (e32 _ _)) (fun W' hC => (gen_any _ d 1 G1 W' (HD.out.later (HB.out.hb.trans (hC.mono HB.out.hb.size))) HR.out HDN.out (by omega) hz HG1.out).mono (fun _ _ hh => ⟨hh.1, hC.trans (hh.2.mono hC.size)⟩)) ?_
 simp only [Act.put, jA, jB, jC]
 refine quiet_val (v := .agg #[.slice A n0 c, .slice A' n' c', .int .i64 d.fuse, .bool false]) (by rfl) (fun W' hC => by have := (HB.out.b1.below hC hl1).four.1; simp [execOp, Act.eval, Act.put, go_sem, this.1, this.2.1, this.2.2.1, this.2.2.2]) ?_
 simp only [Act.put, jA, jB, jC]
 refine quiet_call (v := .int .i64 (G0 : Int)) (f := 51) (args := #[.agg #[.slice A n0 c, .slice A' n' c', .int .i64 d.fuse, .bool false], .int .i64 0]) (by rfl) (fun W' hC => exec_fn rfl rfl (by simp [Act.eval]) (e32 _ _)) (fun W' hC => (gen_any _ d 0 G0 W' (HD.out.later (HB.out.hb.trans (hC.mono HB.out.hb.size))) HR.out HDN.out (by omega) hz HG0.out).mono (fun _ _ hh => ⟨hh.1, hC.trans (hh.2.mono hC.size)⟩)) ?_
 simp only [Act.put, jA, jB, jC]
 refine quiet_val (v := .bool false) (by rfl) (fun W' hC => by simp [execOp, Act.eval, Act.put, go_sem]; omega) ?_
 simp only [Act.put, jA, jB, jC]
 refine wpQuiet_nil ?_
 intro W2 hC
 have HB2 := Lib.hid (HB.out.below hC)
 clear hC HB p0 p1 p2 p3 hl1 e32
 obtain ⟨⟨p0, p1, p2, p3⟩, _⟩ := HB2.out.b1.four
 go_wp2_with fail
 refine (gen_any _ d 0 G0 W2 (HD.out.later HB2.out.hb) HR.out HDN.out (by omega) hz HG0.out).mono ?_
 rintro e W3 ⟨rfl, hb3⟩
 have HB3 := Lib.hid (HB2.out.below hb3)
 have hb33 : w.heap.size ≤ W3.heap.size := HB3.out.hb.size
 clear hb3 HB2 p0 p1 p2 p3
 obtain ⟨⟨p0, p1, p2, p3⟩, _⟩ := HB3.out.b1.four
 have hgi : ((G0 : Int) == 0) = false := by simp; omega
 go_wp2_with fail
 refine (records_any _ d 0 G0 L W3 (HD.out.later HB3.out.hb) HR.out HDN.out (by omega) HLOG.out (HTAB.out.below HB3.out.hb HTAB.out.pos)).mono ?_
 rintro e W4 ⟨AL, cL, vs, rfl, hown, hrec, hrss, hb4⟩
 unfold logN
 have HB4 := Lib.hid (HB3.out.below hb4)
 have HOWN := Lib.hid hown; have HREC := Lib.hid hrec; have HRSS := Lib.hid hrss
 clear hown hrec hrss hb4 HB3 p0 p1 p2 p3
 obtain ⟨⟨p0, p1, p2, p3⟩, _⟩ := HB4.out.b1.four
 have hl1 := HB4.out.b1.lt
 have hl2 := HB4.out.b2.lt
 have hl3 := HB4.out.b3.lt
 have hb8n : W4.heap.size ≠ w.heap.size ∧ W4.heap.size ≠ w.heap.size + 1 ∧ W4.heap.size ≠ w.heap.size + 1 + 1 := by omega
 go_wp2_with fail
 refine calls_over (fun W' => OpnB w #[.slice A n0 c, .slice A' n' c', .int .i64 d.fuse, .bool false] W' ∧ Bk W' W4.heap.size 32 #[.int .i64 0, .int .i64 (G0 : Int), .int .i64 ((sumT L : Nat) : Int), .int .i64 (L.length : Int)] ∧ OwnV W' W3.heap.size 63 AL L.length cL vs ∧ RecsIn W' W3.heap.size vs L L.length) ⟨HB4.out.below ((Below.refl _ _).alloc (Nat.le_refl _) _), Bk.new _ _ _, HOWN.out.alloc _, HREC.out.keep (fun b cs hb => hb.alloc _)⟩ ?_
 have hb8g : w.heap.size ≤ W4.heap.size := Nat.le_of_lt hl1
 clear p0 p1 p2 p3 hl1 hl2 hl3 HB4 HOWN HREC HRSS
 generalize W4.heap.size = b8 at *
 rintro W5 ⟨HB5, h8, hown, hrec⟩
 have hok := HLOG.out.1
 have hbb := HLOG.out.2.1
 have hcl : x.2 = 9 → cmpLog x 0 G0 (sumT L) L.length L = .agg #[.int .i64 0, .int .i64 (G0 : Int), .int .i64 ((sumT L : Nat) : Int), .int .i64 (L.length : Int)] := fun h0 => by unfold cmpLog logN; rw [if_neg (by omega)]; rfl
 have hc := compact_run0 _ d G0 (sumT L) L.length AL L.length cL L W5 (HD.out.later HB5.hb) HR.out (HLOG.out.fits HNE.out (by omega)) (hrec.rss hown hok hbb) hlf hok HNE.out HLOG.out.2.2.1 hgm (HTAB.out.below HB5.hb HTAB.out.pos) (.inr (by rw [HX.out]; exact HX0.out))
 rw [HX.out, hcl HX0.out] at hc
 unfold logN at hc
 refine hc.mono ?_
 clear hc hcl
 rintro e W6 ⟨v6, rfl, hd6, hb6⟩
 obtain ⟨A2, n2, c2, A2', n2', c2', rfl, hx6⟩ := hd6
 have hd6 : DkAt W6 W6.heap.size (.agg #[.slice A2 n2 c2, .slice A2' n2' c2', .int .i64 x.1.fuse, .bool x.1.down]) x.1 := ⟨A2, n2, c2, A2', n2', c2', rfl, hx6⟩
 have HB6 := HB5.below hb6
 replace h8 := h8.below hb6 h8.lt
 replace hown := hown.below hb6
 replace hrec := hrec.keep (fun b cs hb => hb.below hb6 hb.lt)
 clear hx6 hb6 HB5 hok hbb
 have hf1 := stored4_facts HB6.b1 (.slice A2 n2 c2) (.slice A2' n2' c2') (.int .i64 x.1.fuse) (.bool x.1.down)
 have h8' := hf1.2.2.2 _ _ _ hb8n.1 h8
 have hf8 := stored4_facts h8' (.int .i64 0) (.int .i64 (G0 : Int)) (.int .i64 ((sumT L : Nat) : Int)) (.int .i64 (L.length : Int))
 have HG : Hid ((fun W' => (Bk W' w.heap.size 27 #[.slice A2 n2 c2, .slice A2' n2' c2', .int .i64 x.1.fuse, .bool x.1.down] ∧ Bk W' b8 32 #[.int .i64 0, .int .i64 (G0 : Int), .int .i64 ((sumT L : Nat) : Int), .int .i64 (L.length : Int)] ∧ Bk W' (w.heap.size + 1) 27 #[.slice none 0 0, .slice none 0 0, .int .i64 0, .bool false] ∧ Bk W' (w.heap.size + 1 + 1) 32 #[.int .i64 0, .int .i64 0, .int .i64 0, .int .i64 0]) ∧ DkAt W' W'.heap.size (.agg #[.slice A2 n2 c2, .slice A2' n2' c2', .int .i64 x.1.fuse, .bool x.1.down]) x.1 ∧ Below w.heap.size w W' ∧ OwnV W' W3.heap.size 63 AL L.length cL vs ∧ RecsIn W' W3.heap.size vs L L.length) (stored4 (stored4 W6 w.heap.size (.slice A2 n2 c2) (.slice A2' n2' c2') (.int .i64 x.1.fuse) (.bool x.1.down)) b8 (.int .i64 0) (.int .i64 (G0 : Int)) (.int .i64 ((sumT L : Nat) : Int)) (.int .i64 (L.length : Int)))) := Lib.hid ⟨⟨hf8.2.2.2 _ _ _ hb8n.1.symm hf1.1, hf8.1, hf8.2.2.2 _ _ _ hb8n.2.1.symm (hf1.2.2.2 _ _ _ (by omega) HB6.b2), hf8.2.2.2 _ _ _ hb8n.2.2.symm (hf1.2.2.2 _ _ _ (by omega) HB6.b3)⟩, hf8.2.1 _ _ (hf1.2.1 _ _ hd6), hf8.2.2.1 _ _ (hf1.2.2.1 _ _ HB6.hb (Nat.le_refl _)) (by omega), (hown.st4 HB6.b1 (by decide) _ _ _ _).st4 h8' (by decide) _ _ _ _, (hrec.st4 HB6.b1 (by decide) _ _ _ _).st4 h8' (by decide) _ _ _ _⟩
 unfold stored4 at HG
 have HH6 := Lib.hid HB6
 obtain ⟨⟨p0, p1, p2, p3⟩, q0, q1, q2, q3⟩ := HB6.b1.four
 obtain ⟨⟨r0, r1, r2, r3⟩, s0, s1, s2, s3⟩ := h8.four
 clear hf1 h8' hf8 HB6 h8 hown hrec hd6
 go_wp2_with ((with_reducible show wpList _ _ _ (⟨some 55, _, _, _, _, _⟩ :: _) _ _); refine hold ?_)
 refine list_over (fun W' => (Bk W' w.heap.size 27 #[.slice A2 n2 c2, .slice A2' n2' c2', .int .i64 x.1.fuse, .bool x.1.down] ∧ Bk W' (w.heap.size + 1) 27 #[.slice none 0 0, .slice none 0 0, .int .i64 0, .bool false] ∧ Bk W' (w.heap.size + 1 + 1) 32 #[.int .i64 0, .int .i64 0, .int .i64 0, .int .i64 0]) ∧ DkAt W' W'.heap.size (.agg #[.slice A2 n2 c2, .slice A2' n2' c2', .int .i64 x.1.fuse, .bool x.1.down]) x.1 ∧ Below w.heap.size w W') ⟨⟨HG.out.1.1, HG.out.1.2.2.1, HG.out.1.2.2.2⟩, HG.out.2.1, HG.out.2.2.1⟩ ?_
 clear p0 p1 p2 p3 q0 q1 q2 q3 r0 r1 r2 r3 s0 s1 s2 s3 HG HH6
 rintro W7 ⟨⟨k1, k2, k3⟩, hd7, hb7⟩
 have HT := two_boxes (x := x.1) 0 0 0 0 k2 k3 (by omega) hd7 hb7 (by omega) (by omega)
 unfold stored4 at HT
 obtain ⟨⟨p0, p1, p2, p3⟩, q0, q1, q2, q3⟩ := k1.four
 obtain ⟨⟨t0, t1, t2, t3⟩, u0, u1, u2, u3⟩ := k2.four
 obtain ⟨⟨v0, v1, v2, v3⟩, x0, x1, x2, x3⟩ := k3.four
 clear k1 k2 k3 hd7 hb7 hb8n hb8g hlf hcmp hgm hgp hz hgi
 refine held ?_
 go_wp2_with fail
 refine post_over (fun W' => Lies w (w.heap.size + 1) (w.heap.size + 1 + 1) A2 A2' n2 c2 n2' c2' x.1 0 0 0 0 W') HT.out ?_
 intro W' HL9
 refine bodyPost_ret (v := .tuple #[.agg #[.slice A2 n2 c2, .slice A2' n2' c2', .int .i64 x.1.fuse, .bool x.1.down], .agg #[.int .i64 0, .int .i64 0, .int .i64 0, .int .i64 0], .slice none 0 0, .int .i64 x.2]) ?_ rfl ⟨_, ?_, HL9.2.2.1, HL9.2.2.2⟩
 ·exact results_cctt (fn := Tryz.f26) (a1 := ⟨w.heap.size + 1, 0, none⟩) (a2 := ⟨w.heap.size + 1 + 1, 0, none⟩) rfl rfl rfl rfl rfl (load_box4 HL9.1) (load_log4 HL9.2.1)
 ·rw [HX0.out]
  rfl
set_option maxRecDepth 20000 in
set_option maxHeartbeats 8000000 in
theorem open_fall1 (v : Value) (d : Dk) (G0 G1 : Nat) (L : List (List Nat)) (w : World) (hd : DkAt w w.heap.size v d) (hr : rightB d = true) (hdn : d.down = false) (hg0 : GenIs d (0 * (d.secs.length / 2)) (d.secs.length / 2) G0) (hg1 : GenIs d (1 * (d.secs.length / 2)) (d.secs.length / 2) G1) (hcmp : G0 < G1)
 (hlog : Log d (1 * (d.secs.length / 2)) (d.secs.length / 2) G1 L) (hne : L ≠ []) (hgm : G1 < 1099511627776) (ht : Tab w) (hx : (runM d (layD 0 (d.secs.length / 2) (G1 + 1) L)).2 = 9) :
 Calls Tryz.prog 26 #[v] w (OpFall w (runM d (layD 0 (d.secs.length / 2) (G1 + 1) L))) := by
 have hz : 0 < d.secs.length / 2 := by
  have h1 := hlog.2.2.1
  have h2 := sumT_ge hlog.1
  have h3 : 0 < L.length := List.length_pos_iff.2 hne
  omega
 have hgp : 1 ≤ G1 := hlog.2.2.2.1
 have hlf : L.length ≤ 1000000 := by
  have h1 := hlog.2.2.1
  have h2 := sumT_ge hlog.1
  have h3 := (rightB_of.1 hr).1
  omega
 generalize hX : runM d (layD 0 (d.secs.length / 2) (G1 + 1) L) = x at *
 have HX := Lib.hid hX; have HX0 := Lib.hid hx
 have hxi : (x.2 != 0) = true := by rw [hx]; rfl
 obtain ⟨A, n0, c, A', n', c', rfl, hxx⟩ := hd
 have HD := Lib.hid (show DkAt w w.heap.size (.agg #[.slice A n0 c, .slice A' n' c', .int .i64 d.fuse, .bool false]) d from ⟨A, n0, c, A', n', c', by rw [hdn], hxx⟩)
 have HR := Lib.hid hr; have HDN := Lib.hid hdn; have HG0 := Lib.hid hg0; have HG1 := Lib.hid hg1; have HLOG := Lib.hid hlog; have HNE := Lib.hid hne; have HTAB := Lib.hid ht
 have HOB : Hid (OpnB w #[.slice A n0 c, .slice A' n' c', .int .i64 d.fuse, .bool false] (((w.alloc (.cells #[.slice A n0 c, .slice A' n' c', .int .i64 d.fuse, .bool false] 27)).alloc (.cells #[.slice none 0 0, .slice none 0 0, .int .i64 0, .bool false] 27)).alloc (.cells #[.int .i64 0, .int .i64 0, .int .i64 0, .int .i64 0] 32))) := Lib.hid ⟨((Bk.new w _ _).alloc _).alloc _, (Bk.new2 w _ _ _).alloc _, Bk.new3 w _ _ _ _, (((Below.refl _ _).alloc (Nat.le_refl _) _).alloc (by simp) _).alloc (by simp only [World.size_alloc]; omega) _⟩
 clear hxx hr hg0 hg1 hlog hne ht hX hx
 rw [hdn]
 clear hdn
 go_enter Tryz.func26, Tryz.ntmps26
 go_wp2_with fail
 generalize ((w.alloc (.cells #[.slice A n0 c, .slice A' n' c', .int .i64 d.fuse, .bool false] 27)).alloc (.cells #[.slice none 0 0, .slice none 0 0, .int .i64 0, .bool false] 27)).alloc (.cells #[.int .i64 0, .int .i64 0, .int .i64 0, .int .i64 0] 32) = W0 at *
 refine (right_any _ d W0 (HD.out.later HOB.out.hb)).mono ?_
 rw [HR.out]
 rintro e W ⟨rfl, hbR⟩
 have HB := Lib.hid (HOB.out.below hbR)
 clear HOB hbR
 obtain ⟨⟨p0, p1, p2, p3⟩, _⟩ := HB.out.b1.four
 have hl1 := HB.out.b1.lt
 go_wp2_with fail
 have hm : Tryz.prog.follows .mixedOrders = true := by kernel_rfl
 have e32 : ∀ args w, (callFunc 51 args).run Tryz.prog w = .ok (.enter 51 args) w := enters_of Tryz.func51 (by kernel_rfl) rfl
 refine wp_region_quiet (C := fun W' => Below W.heap.size W W') hm (by kernel_rfl) (show Below W.heap.size W W.drew from (Below.refl _ _).drew) ?_
 refine quiet_val (v := .agg #[.slice A n0 c, .slice A' n' c', .int .i64 d.fuse, .bool false]) (by rfl) (fun W' hC => by have := (HB.out.b1.below hC hl1).four.1; simp [execOp, Act.eval, Act.put, go_sem, this.1, this.2.1, this.2.2.1, this.2.2.2]) ?_
 simp only [Act.put, jA, jB, jC]
 refine quiet_call (v := .int .i64 (G1 : Int)) (f := 51) (args := #[.agg #[.slice A n0 c, .slice A' n' c', .int .i64 d.fuse, .bool false], .int .i64 1]) (by rfl) (fun W' hC => exec_fn rfl rfl (by simp [Act.eval]) (e32 _ _)) (fun W' hC => (gen_any _ d 1 G1 W' (HD.out.later (HB.out.hb.trans (hC.mono HB.out.hb.size))) HR.out HDN.out (by omega) hz HG1.out).mono (fun _ _ hh => ⟨hh.1, hC.trans (hh.2.mono hC.size)⟩)) ?_
 simp only [Act.put, jA, jB, jC]
 refine quiet_val (v := .agg #[.slice A n0 c, .slice A' n' c', .int .i64 d.fuse, .bool false]) (by rfl) (fun W' hC => by have := (HB.out.b1.below hC hl1).four.1; simp [execOp, Act.eval, Act.put, go_sem, this.1, this.2.1, this.2.2.1, this.2.2.2]) ?_
 simp only [Act.put, jA, jB, jC]
 refine quiet_call (v := .int .i64 (G0 : Int)) (f := 51) (args := #[.agg #[.slice A n0 c, .slice A' n' c', .int .i64 d.fuse, .bool false], .int .i64 0]) (by rfl) (fun W' hC => exec_fn rfl rfl (by simp [Act.eval]) (e32 _ _)) (fun W' hC => (gen_any _ d 0 G0 W' (HD.out.later (HB.out.hb.trans (hC.mono HB.out.hb.size))) HR.out HDN.out (by omega) hz HG0.out).mono (fun _ _ hh => ⟨hh.1, hC.trans (hh.2.mono hC.size)⟩)) ?_
 simp only [Act.put, jA, jB, jC]
 refine quiet_val (v := .bool true) (by rfl) (fun W' hC => by simp [execOp, Act.eval, Act.put, go_sem]; omega) ?_
 simp only [Act.put, jA, jB, jC]
 refine wpQuiet_nil ?_
 intro W2 hC
 have HB2 := Lib.hid (HB.out.below hC)
 clear hC HB p0 p1 p2 p3 hl1 e32
 obtain ⟨⟨p0, p1, p2, p3⟩, _⟩ := HB2.out.b1.four
 go_wp2_with fail
 refine (gen_any _ d 1 G1 W2 (HD.out.later HB2.out.hb) HR.out HDN.out (by omega) hz HG1.out).mono ?_
 rintro e W3 ⟨rfl, hb3⟩
 have HB3 := Lib.hid (HB2.out.below hb3)
 have hb33 : w.heap.size ≤ W3.heap.size := HB3.out.hb.size
 clear hb3 HB2 p0 p1 p2 p3
 obtain ⟨⟨p0, p1, p2, p3⟩, _⟩ := HB3.out.b1.four
 have hgi : ((G1 : Int) == 0) = false := by simp; omega
 go_wp2_with fail
 refine (records_any _ d 1 G1 L W3 (HD.out.later HB3.out.hb) HR.out HDN.out (by omega) HLOG.out (HTAB.out.below HB3.out.hb HTAB.out.pos)).mono ?_
 rintro e W4 ⟨AL, cL, vs, rfl, hown, hrec, hrss, hb4⟩
 unfold logN
 have HB4 := Lib.hid (HB3.out.below hb4)
 have HOWN := Lib.hid hown; have HREC := Lib.hid hrec; have HRSS := Lib.hid hrss
 clear hown hrec hrss hb4 HB3 p0 p1 p2 p3
 obtain ⟨⟨p0, p1, p2, p3⟩, _⟩ := HB4.out.b1.four
 have hl1 := HB4.out.b1.lt
 have hl2 := HB4.out.b2.lt
 have hl3 := HB4.out.b3.lt
 have hb8n : W4.heap.size ≠ w.heap.size ∧ W4.heap.size ≠ w.heap.size + 1 ∧ W4.heap.size ≠ w.heap.size + 1 + 1 := by omega
 go_wp2_with fail
 refine calls_over (fun W' => OpnB w #[.slice A n0 c, .slice A' n' c', .int .i64 d.fuse, .bool false] W' ∧ Bk W' W4.heap.size 32 #[.int .i64 1, .int .i64 (G1 : Int), .int .i64 ((sumT L : Nat) : Int), .int .i64 (L.length : Int)] ∧ OwnV W' W3.heap.size 63 AL L.length cL vs ∧ RecsIn W' W3.heap.size vs L L.length) ⟨HB4.out.below ((Below.refl _ _).alloc (Nat.le_refl _) _), Bk.new _ _ _, HOWN.out.alloc _, HREC.out.keep (fun b cs hb => hb.alloc _)⟩ ?_
 have hb8g : w.heap.size ≤ W4.heap.size := Nat.le_of_lt hl1
 clear p0 p1 p2 p3 hl1 hl2 hl3 HB4 HOWN HREC HRSS
 generalize W4.heap.size = b8 at *
 rintro W5 ⟨HB5, h8, hown, hrec⟩
 have hok := HLOG.out.1
 have hbb := HLOG.out.2.1
 have hcl : x.2 = 9 → cmpLog x 1 G1 (sumT L) L.length L = .agg #[.int .i64 1, .int .i64 (G1 : Int), .int .i64 ((sumT L : Nat) : Int), .int .i64 (L.length : Int)] := fun h0 => by unfold cmpLog logN; rw [if_neg (by omega)]; rfl
 have hc := compact_run1 _ d G1 (sumT L) L.length AL L.length cL L W5 (HD.out.later HB5.hb) HR.out (HLOG.out.fits HNE.out (by omega)) (hrec.rss hown hok hbb) hlf hok HNE.out HLOG.out.2.2.1 hgm (HTAB.out.below HB5.hb HTAB.out.pos) (.inr (by rw [HX.out]; exact HX0.out))
 rw [HX.out, hcl HX0.out] at hc
 unfold logN at hc
 refine hc.mono ?_
 clear hc hcl
 rintro e W6 ⟨v6, rfl, hd6, hb6⟩
 obtain ⟨A2, n2, c2, A2', n2', c2', rfl, hx6⟩ := hd6
 have hd6 : DkAt W6 W6.heap.size (.agg #[.slice A2 n2 c2, .slice A2' n2' c2', .int .i64 x.1.fuse, .bool x.1.down]) x.1 := ⟨A2, n2, c2, A2', n2', c2', rfl, hx6⟩
 have HB6 := HB5.below hb6
 replace h8 := h8.below hb6 h8.lt
 replace hown := hown.below hb6
 replace hrec := hrec.keep (fun b cs hb => hb.below hb6 hb.lt)
 clear hx6 hb6 HB5 hok hbb
 have hf1 := stored4_facts HB6.b1 (.slice A2 n2 c2) (.slice A2' n2' c2') (.int .i64 x.1.fuse) (.bool x.1.down)
 have h8' := hf1.2.2.2 _ _ _ hb8n.1 h8
 have hf8 := stored4_facts h8' (.int .i64 1) (.int .i64 (G1 : Int)) (.int .i64 ((sumT L : Nat) : Int)) (.int .i64 (L.length : Int))
 have HG : Hid ((fun W' => (Bk W' w.heap.size 27 #[.slice A2 n2 c2, .slice A2' n2' c2', .int .i64 x.1.fuse, .bool x.1.down] ∧ Bk W' b8 32 #[.int .i64 1, .int .i64 (G1 : Int), .int .i64 ((sumT L : Nat) : Int), .int .i64 (L.length : Int)] ∧ Bk W' (w.heap.size + 1) 27 #[.slice none 0 0, .slice none 0 0, .int .i64 0, .bool false] ∧ Bk W' (w.heap.size + 1 + 1) 32 #[.int .i64 0, .int .i64 0, .int .i64 0, .int .i64 0]) ∧ DkAt W' W'.heap.size (.agg #[.slice A2 n2 c2, .slice A2' n2' c2', .int .i64 x.1.fuse, .bool x.1.down]) x.1 ∧ Below w.heap.size w W' ∧ OwnV W' W3.heap.size 63 AL L.length cL vs ∧ RecsIn W' W3.heap.size vs L L.length) (stored4 (stored4 W6 w.heap.size (.slice A2 n2 c2) (.slice A2' n2' c2') (.int .i64 x.1.fuse) (.bool x.1.down)) b8 (.int .i64 1) (.int .i64 (G1 : Int)) (.int .i64 ((sumT L : Nat) : Int)) (.int .i64 (L.length : Int)))) := Lib.hid ⟨⟨hf8.2.2.2 _ _ _ hb8n.1.symm hf1.1, hf8.1, hf8.2.2.2 _ _ _ hb8n.2.1.symm (hf1.2.2.2 _ _ _ (by omega) HB6.b2), hf8.2.2.2 _ _ _ hb8n.2.2.symm (hf1.2.2.2 _ _ _ (by omega) HB6.b3)⟩, hf8.2.1 _ _ (hf1.2.1 _ _ hd6), hf8.2.2.1 _ _ (hf1.2.2.1 _ _ HB6.hb (Nat.le_refl _)) (by omega), (hown.st4 HB6.b1 (by decide) _ _ _ _).st4 h8' (by decide) _ _ _ _, (hrec.st4 HB6.b1 (by decide) _ _ _ _).st4 h8' (by decide) _ _ _ _⟩
 unfold stored4 at HG
 have HH6 := Lib.hid HB6
 obtain ⟨⟨p0, p1, p2, p3⟩, q0, q1, q2, q3⟩ := HB6.b1.four
 obtain ⟨⟨r0, r1, r2, r3⟩, s0, s1, s2, s3⟩ := h8.four
 clear hf1 h8' hf8 HB6 h8 hown hrec hd6
 go_wp2_with ((with_reducible show wpList _ _ _ (⟨some 55, _, _, _, _, _⟩ :: _) _ _); refine hold ?_)
 refine list_over (fun W' => (Bk W' w.heap.size 27 #[.slice A2 n2 c2, .slice A2' n2' c2', .int .i64 x.1.fuse, .bool x.1.down] ∧ Bk W' (w.heap.size + 1) 27 #[.slice none 0 0, .slice none 0 0, .int .i64 0, .bool false] ∧ Bk W' (w.heap.size + 1 + 1) 32 #[.int .i64 0, .int .i64 0, .int .i64 0, .int .i64 0]) ∧ DkAt W' W'.heap.size (.agg #[.slice A2 n2 c2, .slice A2' n2' c2', .int .i64 x.1.fuse, .bool x.1.down]) x.1 ∧ Below w.heap.size w W') ⟨⟨HG.out.1.1, HG.out.1.2.2.1, HG.out.1.2.2.2⟩, HG.out.2.1, HG.out.2.2.1⟩ ?_
 clear p0 p1 p2 p3 q0 q1 q2 q3 r0 r1 r2 r3 s0 s1 s2 s3 HG HH6
 rintro W7 ⟨⟨k1, k2, k3⟩, hd7, hb7⟩
 have HT := two_boxes (x := x.1) 0 0 0 0 k2 k3 (by omega) hd7 hb7 (by omega) (by omega)
 unfold stored4 at HT
 obtain ⟨⟨p0, p1, p2, p3⟩, q0, q1, q2, q3⟩ := k1.four
 obtain ⟨⟨t0, t1, t2, t3⟩, u0, u1, u2, u3⟩ := k2.four
 obtain ⟨⟨v0, v1, v2, v3⟩, x0, x1, x2, x3⟩ := k3.four
 clear k1 k2 k3 hd7 hb7 hb8n hb8g hlf hcmp hgm hgp hz hgi
 refine held ?_
 go_wp2_with fail
 refine post_over (fun W' => Lies w (w.heap.size + 1) (w.heap.size + 1 + 1) A2 A2' n2 c2 n2' c2' x.1 0 0 0 0 W') HT.out ?_
 intro W' HL9
 refine bodyPost_ret (v := .tuple #[.agg #[.slice A2 n2 c2, .slice A2' n2' c2', .int .i64 x.1.fuse, .bool x.1.down], .agg #[.int .i64 0, .int .i64 0, .int .i64 0, .int .i64 0], .slice none 0 0, .int .i64 x.2]) ?_ rfl ⟨_, ?_, HL9.2.2.1, HL9.2.2.2⟩
 ·exact results_cctt (fn := Tryz.f26) (a1 := ⟨w.heap.size + 1, 0, none⟩) (a2 := ⟨w.heap.size + 1 + 1, 0, none⟩) rfl rfl rfl rfl rfl (load_box4 HL9.1) (load_log4 HL9.2.1)
 ·rw [HX0.out]
  rfl
end Go.Proofs.YtcdehejgnnnimaaGreatDoor
