/-
 A part of the proof: see the last text.
-/
import Derived.Test.YtcdehejgnnnimaaGreatDoorSWalDoor
import Derived.BigRegion
namespace Go.Proofs.YtcdehejgnnnimaaGreatDoor
open List renaming setIfInBounds_toArray → jA, set_cons_zero → jB, set_cons_succ → jC
set_option linter.unusedVariables false
set_option linter.unusedSimpArgs false
open Go.RowKit
def LogFits (d : Dk) (h g u k : Nat) : Prop := h ≤ 1 ∧ 1 ≤ g ∧ g ≤ 1099511627776 ∧ 2 ≤ u ∧ u ≤ d.secs.length / 2 ∧ 1 ≤ k ∧ k ≤ u
def logN (h g u k : Nat) : Value := .agg #[.int .i64 (h : Int), .int .i64 (g : Int), .int .i64 (u : Int), .int .i64 (k : Int)]
theorem wright_any (v : Value) (d : Dk) (h g u k : Nat) (w : World) (hd : DkAt w w.heap.size v d) (hr : rightB d = true) (hl : LogFits d h g u k) :
 Calls Tryz.prog 39 #[v, logN h g u k] w fun e w' => e = .returned (.bool true) ∧ Below w.heap.size w w' := by
 obtain ⟨h1, h2, h3, h4, h5, h6, h7⟩ := hl
 have : h = 0 ∨ h = 1 := by omega
 rcases this with rfl | rfl
 ·exact right_0 v d g u k w hd hr (by omega) (by omega) (by omega) (by omega) (by omega) (by omega)
 ·exact right_1 v d g u k w hd hr (by omega) (by omega) (by omega) (by omega) (by omega) (by omega)
set_option maxRecDepth 20000 in
set_option maxHeartbeats 4000000 in
theorem room_any (v : Value) (d : Dk) (h g u k : Nat) (w : World) (hd : DkAt w w.heap.size v d) (hr : rightB d = true) (hl : LogFits d h g u k) :
 Calls Tryz.prog 43 #[v, logN h g u k] w fun e w' => e = .returned (.int .i64 ((d.secs.length / 2 - u : Nat) : Int)) ∧ Below w.heap.size w w' := by
 obtain ⟨A, n, c, A', n', c', rfl, hx⟩ := hd
 have HD := Lib.hid (show DkAt w w.heap.size (.agg #[.slice A n c, .slice A' n' c', .int .i64 d.fuse, .bool d.down]) d from ⟨A, n, c, A', n', c', rfl, hx⟩)
 have HL := Lib.hid hl
 have HR := Lib.hid hr
 have hsl : d.secs.length ≤ 4096 := (rightB_of.1 hr).1
 have hh1 : h ≤ 1 := hl.1
 have hus : u ≤ d.secs.length / 2 := hl.2.2.2.2.1
 clear hx hr hl
 unfold logN at *
 go_enter Tryz.func43, Tryz.ntmps43
 go_wp2_with fail
 have b0 : Bk ((w.alloc (.cells #[.slice A n c, .slice A' n' c', .int .i64 d.fuse, .bool d.down] 27)).alloc (.cells #[.int .i64 (h : Int), .int .i64 (g : Int), .int .i64 (u : Int), .int .i64 (k : Int)] 32)) w.heap.size 27 _ := (Bk.new w _ _).alloc _
 have b1 : Bk ((w.alloc (.cells #[.slice A n c, .slice A' n' c', .int .i64 d.fuse, .bool d.down] 27)).alloc (.cells #[.int .i64 (h : Int), .int .i64 (g : Int), .int .i64 (u : Int), .int .i64 (k : Int)] 32)) (w.heap.size + 1) 32 _ := Bk.new2 w _ _ _
 have HB0 : Hid (Below w.heap.size w ((w.alloc (.cells #[.slice A n c, .slice A' n' c', .int .i64 d.fuse, .bool d.down] 27)).alloc (.cells #[.int .i64 (h : Int), .int .i64 (g : Int), .int .i64 (u : Int), .int .i64 (k : Int)] 32))) := Lib.hid (((Below.refl _ _).alloc (Nat.le_refl _) _).alloc (by simp) _)
 generalize (w.alloc (.cells #[.slice A n c, .slice A' n' c', .int .i64 d.fuse, .bool d.down] 27)).alloc (.cells #[.int .i64 (h : Int), .int .i64 (g : Int), .int .i64 (u : Int), .int .i64 (k : Int)] 32) = W0 at *
 refine (wright_any _ d h g u k W0 (HD.out.later HB0.out) HR.out HL.out).mono ?_
 rintro e W ⟨rfl, hbR⟩
 have HB : Hid (Below w.heap.size w W) := Lib.hid (HB0.out.trans (hbR.mono HB0.out.size))
 have HBD := Lib.hid (b0.below hbR b0.lt)
 have HBL := Lib.hid (b1.below hbR b1.lt)
 have hld := HBD.out.lt
 have hll := HBL.out.lt
 clear b0 b1 hbR HB0
 go_wp2_with fail
 have hm : Tryz.prog.follows .mixedOrders = true := by kernel_rfl
 have e37 : ∀ args w, (callFunc 32 args).run Tryz.prog w = .ok (.enter 32 args) w := enters_of Tryz.func32 (by kernel_rfl) rfl
 refine wp_region_quiet (C := fun W' => Below W.heap.size W W') hm (by kernel_rfl) (show Below W.heap.size W W.drew from (Below.refl _ _).drew) ?_
 refine quiet_val (v := .agg #[.slice A n c, .slice A' n' c', .int .i64 d.fuse, .bool d.down]) (by rfl) (fun W' hC => by have := (HBD.out.below hC hld).four.1; simp [execOp, Act.eval, Act.put, go_sem, this.1, this.2.1, this.2.2.1, this.2.2.2]) ?_
 simp only [Act.put, jA, jB, jC]
 refine quiet_val (v := .pointer (some ⟨w.heap.size + 1, 0, none⟩)) (by rfl) (fun W' hC => by simp [execOp, Act.eval, Act.put, go_sem]) ?_
 simp only [Act.put, jA, jB, jC]
 refine quiet_val (v := .int .i64 (h : Int)) (by rfl) (fun W' hC => by have := (HBL.out.below hC hll).four.1; simp [execOp, Act.eval, Act.put, go_sem, this.1]) ?_
 simp only [Act.put, jA, jB, jC]
 refine quiet_call (v := halfV (h * (d.secs.length / 2)) (d.secs.length / 2)) (f := 32) (args := #[.agg #[.slice A n c, .slice A' n' c', .int .i64 d.fuse, .bool d.down], .int .i64 (h : Int)]) (by rfl) (fun W' hC => exec_fn rfl rfl (by simp [Act.eval]) (e37 _ _)) (fun W' hC => (halfOf_any _ d h W' (HD.out.later (HB.out.trans (hC.mono HB.out.size))) hh1 hsl).mono (fun _ _ hh => ⟨hh.1, hC.trans (hh.2.mono hC.size)⟩)) ?_
 simp only [Act.put, jA, jB, jC]
 refine quiet_val (v := .int .i64 ((d.secs.length / 2 : Nat) : Int)) (by rfl) (fun W' hC => exec_size rfl rfl _) ?_
 simp only [Act.put, jA, jB, jC]
 refine quiet_val (v := .pointer (some ⟨w.heap.size + 1, 2, none⟩)) (by rfl) (fun W' hC => by simp [execOp, Act.eval, Act.put, go_sem]) ?_
 simp only [Act.put, jA, jB, jC]
 refine quiet_val (v := .int .i64 (u : Int)) (by rfl) (fun W' hC => by have := (HBL.out.below hC hll).four.1; simp [execOp, Act.eval, Act.put, go_sem, this.2.2.1]) ?_
 simp only [Act.put, jA, jB, jC]
 have hsub : IntKind.i64.wrap (((d.secs.length / 2 : Nat) : Int) - (u : Int)) = ((d.secs.length / 2 - u : Nat) : Int) := by rw [IntWalk.i64_in _ (by omega)]; omega
 refine quiet_val (v := .int .i64 ((d.secs.length / 2 - u : Nat) : Int)) (by rfl) (fun W' hC => by rw [← hsub]; simp [execOp, Act.eval, Act.put, go_sem]) ?_
 simp only [Act.put, jA, jB, jC]
 refine quiet_val (v := .int .i64 ((d.secs.length / 2 - u : Nat) : Int)) (by rfl) (fun W' hC => by simp [execOp, Act.eval, Act.put, go_sem]) ?_
 simp only [Act.put, jA, jB, jC]
 refine wpQuiet_nil ?_
 intro W' hC
 have HF := Lib.hid (HB.out.trans (hC.mono HB.out.size))
 clear hC hsub
 go_wp2
 go_ret
 exact ⟨rfl, HF.out⟩
structure AppB (w : World) (d : Dk) (h g u k : Nat) (A A' A1 : Option Addr) (n c n' c' n1 c1 : Nat) (W : World) : Prop where
 b3 : Bk W w.heap.size 27 #[.slice A n c, .slice A' n' c', .int .i64 d.fuse, .bool d.down]
 b4 : Bk W (w.heap.size + 1) 32 #[.int .i64 (h : Int), .int .i64 (g : Int), .int .i64 (u : Int), .int .i64 (k : Int)]
 b5 : Bk W (w.heap.size + 1 + 1) 63 #[.slice A1 n1 c1]
 b6 : Bk W (w.heap.size + 1 + 1 + 1) 27 #[.slice none 0 0, .slice none 0 0, .int .i64 0, .bool false]
 b7 : Bk W (w.heap.size + 1 + 1 + 1 + 1) 32 #[.int .i64 0, .int .i64 0, .int .i64 0, .int .i64 0]
 hb : Below w.heap.size w W
theorem AppB.below {w W W' : World} {d : Dk} {h g u k : Nat} {A A' A1 : Option Addr} {n c n' c' n1 c1 : Nat} (H : AppB w d h g u k A A' A1 n c n' c' n1 c1 W) (hb : Below W.heap.size W W') : AppB w d h g u k A A' A1 n c n' c' n1 c1 W' :=
 ⟨H.b3.below hb H.b3.lt, H.b4.below hb H.b4.lt, H.b5.below hb H.b5.lt, H.b6.below hb H.b6.lt, H.b7.below hb H.b7.lt, H.hb.trans (hb.mono H.hb.size)⟩
theorem AppB.start (w : World) (d : Dk) (h g u k : Nat) (A A' A1 : Option Addr) (n c n' c' n1 c1 : Nat) : AppB w d h g u k A A' A1 n c n' c' n1 c1 (((((w.alloc (.cells #[.slice A n c, .slice A' n' c', .int .i64 d.fuse, .bool d.down] 27)).alloc (.cells #[.int .i64 (h : Int), .int .i64 (g : Int), .int .i64 (u : Int), .int .i64 (k : Int)] 32)).alloc (.cells #[.slice A1 n1 c1] 63)).alloc (.cells #[.slice none 0 0, .slice none 0 0, .int .i64 0, .bool false] 27)).alloc (.cells #[.int .i64 0, .int .i64 0, .int .i64 0, .int .i64 0] 32)) :=
 ⟨((((Bk.new w _ _).alloc _).alloc _).alloc _).alloc _, (((Bk.new2 w _ _ _).alloc _).alloc _).alloc _, ((Bk.new3 w _ _ _ _).alloc _).alloc _, (Bk.new4 w _ _ _ _ _).alloc _, Bk.new' _ _ _ _ (by simp),
   (((((Below.refl w.heap.size w).alloc (Nat.le_refl _) _).alloc (by simp) _).alloc (by simp only [World.size_alloc]; omega) _).alloc (by simp only [World.size_alloc]; omega) _).alloc (by simp only [World.size_alloc]; omega) _⟩
theorem results_cct {P : Program} {fn : Func} {p q r : Tmp} {t1 t2 : TypeId} (h : fn.results = #[.cell p t1, .cell q t2, .tmp r]) {tmps : Array Value} {w : World} {a1 a2 : Addr} {v1 v2 v3 : Value}
 (h1 : tmps.getD p undef = .pointer (some a1)) (h2 : tmps.getD q undef = .pointer (some a2)) (h3 : tmps.getD r undef = v3) (l1 : (loadVar t1 a1).run P w = .ok v1 w) (l2 : (loadVar t2 a2).run P w = .ok v2 w) : (results fn tmps).run P w = .ok (.tuple #[v1, v2, v3]) w := by
 have h1' : tmps[p]?.getD undef = .pointer (some a1) := by simpa using h1
 have h2' : tmps[q]?.getD undef = .pointer (some a2) := by simpa using h2
 have h3' : tmps[r]?.getD undef = v3 := by simpa using h3
 simp [results, h, h1', h2', h3', asAddr, l1, l2]
theorem load_log4 {w : World} {b : Nat} {z0 z1 z2 z3 : Int} (h : Bk w b 32 #[.int .i64 z0, .int .i64 z1, .int .i64 z2, .int .i64 z3]) :
 (loadVar 32 ⟨b, 0, none⟩).run Tryz.prog w = .ok (.agg #[.int .i64 z0, .int .i64 z1, .int .i64 z2, .int .i64 z3]) w := by
 obtain ⟨⟨g0, g1, g2, g3⟩, _⟩ := h.four
 simp [go_sem, g0, g1, g2, g3]
theorem post_over {Q : Exit → Act → World → Prop} {e : Exit} {a : Act} {W : World} (G : World → Prop) (hG : G W) (h : ∀ W', G W' → Q e a W') : Q e a W := h W hG
theorem DkAt.drew {w : World} {v : Value} {d : Dk} (h : DkAt w w.heap.size v d) : DkAt w.drew w.drew.heap.size v d := h.later ((Below.refl _ _).drew)
def Lies (w : World) (b6 b7 : Nat) (A A' : Option Addr) (n c n' c' : Nat) (x : Dk) (z0 z1 z2 z3 : Int) (W : World) : Prop :=
 Bk W b6 27 #[.slice A n c, .slice A' n' c', .int .i64 x.fuse, .bool x.down] ∧ Bk W b7 32 #[.int .i64 z0, .int .i64 z1, .int .i64 z2, .int .i64 z3] ∧ DkAt W W.heap.size (.agg #[.slice A n c, .slice A' n' c', .int .i64 x.fuse, .bool x.down]) x ∧ Below w.heap.size w W
theorem Lies.drew {w : World} {b6 b7 : Nat} {A A' : Option Addr} {n c n' c' : Nat} {x : Dk} {z0 z1 z2 z3 : Int} {W : World} (h : Lies w b6 b7 A A' n c n' c' x z0 z1 z2 z3 W) : Lies w b6 b7 A A' n c n' c' x z0 z1 z2 z3 W.drew := ⟨h.1.drew, h.2.1.drew, h.2.2.1.drew, h.2.2.2.drew⟩
theorem two_boxes {w W : World} {b6 b7 : Nat} {A A' : Option Addr} {n c n' c' : Nat} {x : Dk} {a0 a1 a2 a3 e0 e1 e2 e3 : Value} (z0 z1 z2 z3 : Int) (h6 : Bk W b6 27 #[a0, a1, a2, a3]) (h7 : Bk W b7 32 #[e0, e1, e2, e3]) (hne : b7 ≠ b6)
 (hd : DkAt W W.heap.size (.agg #[.slice A n c, .slice A' n' c', .int .i64 x.fuse, .bool x.down]) x) (hb : Below w.heap.size w W) (hw6 : w.heap.size ≤ b6) (hw7 : w.heap.size ≤ b7) :
 Hid (Lies w b6 b7 A A' n c n' c' x z0 z1 z2 z3 (stored4 (stored4 W b6 (.slice A n c) (.slice A' n' c') (.int .i64 x.fuse) (.bool x.down)) b7 (.int .i64 z0) (.int .i64 z1) (.int .i64 z2) (.int .i64 z3))) := by
 have hf6 := stored4_facts h6 (.slice A n c) (.slice A' n' c') (.int .i64 x.fuse) (.bool x.down)
 have hf7 := stored4_facts (hf6.2.2.2 _ _ _ hne h7) (.int .i64 z0) (.int .i64 z1) (.int .i64 z2) (.int .i64 z3)
 exact Lib.hid ⟨hf7.2.2.2 _ _ _ (Ne.symm hne) hf6.1, hf7.1, hf7.2.1 _ _ (hf6.2.1 _ _ hd), hf7.2.2.1 _ _ (hf6.2.2.1 _ _ hb hw6) hw7⟩
def LogRes (w : World) (x : Dk × Int) (lv : Value) (e : Ending) (w' : World) : Prop :=
 ∃ v, e = .returned (.tuple #[v, lv, .int .i64 x.2]) ∧ DkAt w' w'.heap.size v x.1 ∧ Below w.heap.size w w'
set_option maxRecDepth 20000 in
set_option maxHeartbeats 4000000 in
theorem append_arg (v : Value) (d : Dk) (h g u k : Nat) (A1 : Option Addr) (n1 c1 : Nat) (w : World) (hd : DkAt w w.heap.size v d) (hr : rightB d = true) (hl : LogFits d h g u k) (hn : n1 ≤ 140737488355328) (h0 : takesN n1 = 0) :
 Calls Tryz.prog 23 #[v, logN h g u k, .slice A1 n1 c1] w (LogRes w (d, 1) (logN h g u k)) := by
 obtain ⟨A, n, c, A', n', c', rfl, hx⟩ := hd
 have HD := Lib.hid (show DkAt w w.heap.size (.agg #[.slice A n c, .slice A' n' c', .int .i64 d.fuse, .bool d.down]) d from ⟨A, n, c, A', n', c', rfl, hx⟩)
 have HL := Lib.hid hl
 have HR := Lib.hid hr
 have h0i : (((takesN n1 : Nat) : Int) == 0) = true := by simp; omega
 clear hx hr hl
 unfold logN at *
 go_enter Tryz.func23, Tryz.ntmps23
 go_wp2_with fail
 refine (takes_int n1 _ hn).mono ?_
 rintro e w1 ⟨rfl, rfl⟩
 go_wp2_with fail
 refine calls_over (AppB w d h g u k A A' A1 n c n' c' n1 c1) (AppB.start _ _ _ _ _ _ _ _ _ _ _ _ _ _ _) ?_
 intro W0 H0
 refine (wright_any _ d h g u k W0 (HD.out.later H0.hb) HR.out HL.out).mono ?_
 rintro e W ⟨rfl, hbR⟩
 have H := H0.below hbR
 clear H0 hbR
 obtain ⟨⟨p0, p1, p2, p3⟩, q0, q1, q2, q3⟩ := H.b3.four
 obtain ⟨⟨r0, r1, r2, r3⟩, s0, s1, s2, s3⟩ := H.b4.four
 obtain ⟨⟨t0, t1, t2, t3⟩, u0, u1, u2, u3⟩ := H.b6.four
 obtain ⟨⟨v0, v1, v2, v3⟩, x0, x1, x2, x3⟩ := H.b7.four
 have HT := two_boxes (x := d) (h : Int) (g : Int) (u : Int) (k : Int) H.b6 H.b7 (by omega) (HD.out.later H.hb) H.hb (by omega) (by omega)
 unfold stored4 at HT
 clear H
 go_wp2_with fail
 go_region
 refine post_over (Lies w (w.heap.size + 1 + 1 + 1) (w.heap.size + 1 + 1 + 1 + 1) A A' n c n' c' d h g u k) HT.out.drew ?_
 intro W' HW
 clear p0 p1 p2 p3 q0 q1 q2 q3 r0 r1 r2 r3 s0 s1 s2 s3 t0 t1 t2 t3 u0 u1 u2 u3 v0 v1 v2 v3 x0 x1 x2 x3 HT
 have HW' := Lib.hid HW
 clear HW
 go_wp2
 refine bodyPost_ret (v := .tuple #[.agg #[.slice A n c, .slice A' n' c', .int .i64 d.fuse, .bool d.down], .agg #[.int .i64 (h : Int), .int .i64 (g : Int), .int .i64 (u : Int), .int .i64 (k : Int)], .int .i64 1]) ?_ rfl ⟨_, rfl, HW'.out.2.2.1, HW'.out.2.2.2⟩
 exact results_cct (fn := Tryz.f23) (a1 := ⟨w.heap.size + 1 + 1 + 1, 0, none⟩) (a2 := ⟨w.heap.size + 1 + 1 + 1 + 1, 0, none⟩) rfl rfl rfl rfl (load_box4 HW'.out.1) (load_log4 HW'.out.2.1)
set_option maxRecDepth 20000 in
set_option maxHeartbeats 4000000 in
theorem append_full (v : Value) (d : Dk) (h g u k : Nat) (A1 : Option Addr) (n1 c1 : Nat) (w : World) (hd : DkAt w w.heap.size v d) (hr : rightB d = true) (hl : LogFits d h g u k) (hn : n1 ≤ 140737488355328) (h0 : takesN n1 ≠ 0) (hfull : d.secs.length / 2 - u < takesN n1) :
 Calls Tryz.prog 23 #[v, logN h g u k, .slice A1 n1 c1] w (LogRes w (d, 8) (logN h g u k)) := by
 obtain ⟨A, n, c, A', n', c', rfl, hx⟩ := hd
 have HD := Lib.hid (show DkAt w w.heap.size (.agg #[.slice A n c, .slice A' n' c', .int .i64 d.fuse, .bool d.down]) d from ⟨A, n, c, A', n', c', rfl, hx⟩)
 have HL := Lib.hid hl
 have HR := Lib.hid hr
 have h0i : (((takesN n1 : Nat) : Int) == 0) = false := by simp; omega
 have ht95 := takesN_le n1
 have hsl : d.secs.length ≤ 4096 := (rightB_of.1 hr).1
 have hh1 : h ≤ 1 := hl.1
 have hus : u ≤ d.secs.length / 2 := hl.2.2.2.2.1
 clear hx hr hl
 unfold logN at *
 go_enter Tryz.func23, Tryz.ntmps23
 go_wp2_with fail
 refine (takes_int n1 _ hn).mono ?_
 rintro e w1 ⟨rfl, rfl⟩
 go_wp2_with fail
 refine calls_over (AppB w d h g u k A A' A1 n c n' c' n1 c1) (AppB.start _ _ _ _ _ _ _ _ _ _ _ _ _ _ _) ?_
 intro W0 H0
 refine (wright_any _ d h g u k W0 (HD.out.later H0.hb) HR.out HL.out).mono ?_
 rintro e W1 ⟨rfl, hbR⟩
 have H1 := H0.below hbR
 clear H0 hbR
 obtain ⟨⟨p0, p1, p2, p3⟩, _⟩ := H1.b3.four
 obtain ⟨⟨r0, r1, r2, r3⟩, _⟩ := H1.b4.four
 have HH1 := Lib.hid H1
 clear H1
 go_wp2_with fail
 refine (room_any _ d h g u k W1 (HD.out.later HH1.out.hb) HR.out HL.out).mono ?_
 rintro e W ⟨rfl, hbR⟩
 have H := HH1.out.below hbR
 clear HH1 hbR p0 p1 p2 p3 r0 r1 r2 r3
 obtain ⟨⟨p0, p1, p2, p3⟩, q0, q1, q2, q3⟩ := H.b3.four
 obtain ⟨⟨r0, r1, r2, r3⟩, s0, s1, s2, s3⟩ := H.b4.four
 obtain ⟨⟨t0, t1, t2, t3⟩, u0, u1, u2, u3⟩ := H.b6.four
 obtain ⟨⟨v0, v1, v2, v3⟩, x0, x1, x2, x3⟩ := H.b7.four
 have HT := two_boxes (x := d) (h : Int) (g : Int) (u : Int) (k : Int) H.b6 H.b7 (by omega) (HD.out.later H.hb) H.hb (by omega) (by omega)
 unfold stored4 at HT
 clear H
 have hfi : ((d.secs.length / 2 - u : Nat) : Int) < ((takesN n1 : Nat) : Int) := by omega
 generalize hz : d.secs.length / 2 - u = z at *
 generalize takesN n1 = tk at *
 have HZ := Lib.hid hz
 clear hz
 go_wp2_with fail
 go_region
 refine post_over (Lies w (w.heap.size + 1 + 1 + 1) (w.heap.size + 1 + 1 + 1 + 1) A A' n c n' c' d h g u k) HT.out.drew ?_
 intro W' HW
 clear p0 p1 p2 p3 q0 q1 q2 q3 r0 r1 r2 r3 s0 s1 s2 s3 t0 t1 t2 t3 u0 u1 u2 u3 v0 v1 v2 v3 x0 x1 x2 x3 HT
 have HW' := Lib.hid HW
 clear HW
 go_wp2
 refine bodyPost_ret (v := .tuple #[.agg #[.slice A n c, .slice A' n' c', .int .i64 d.fuse, .bool d.down], .agg #[.int .i64 (h : Int), .int .i64 (g : Int), .int .i64 (u : Int), .int .i64 (k : Int)], .int .i64 8]) ?_ rfl ⟨_, rfl, HW'.out.2.2.1, HW'.out.2.2.2⟩
 exact results_cct (fn := Tryz.f23) (a1 := ⟨w.heap.size + 1 + 1 + 1, 0, none⟩) (a2 := ⟨w.heap.size + 1 + 1 + 1 + 1, 0, none⟩) rfl rfl rfl rfl (load_box4 HW'.out.1) (load_log4 HW'.out.2.1)
theorem code_over {P : Program} {c : Code} {a : Act} {W : World} {Q : Exit → Act → World → Prop} (G : World → Prop) (hG : G W) (h : ∀ W', G W' → c.wp P Q a W') : c.wp P Q a W := h W hG
structure AppF (w : World) (x : Dk × Int) (A A' : Option Addr) (n c n' c' : Nat) (z0 z1 z2 z3 : Int) (W : World) : Prop where
 b3 : Bk W w.heap.size 27 #[.slice A n c, .slice A' n' c', .int .i64 x.1.fuse, .bool x.1.down]
 b4 : Bk W (w.heap.size + 1) 32 #[.int .i64 z0, .int .i64 z1, .int .i64 z2, .int .i64 z3]
 b6 : Bk W (w.heap.size + 1 + 1 + 1) 27 #[.slice none 0 0, .slice none 0 0, .int .i64 0, .bool false]
 b7 : Bk W (w.heap.size + 1 + 1 + 1 + 1) 32 #[.int .i64 0, .int .i64 0, .int .i64 0, .int .i64 0]
 hd : DkAt W W.heap.size (.agg #[.slice A n c, .slice A' n' c', .int .i64 x.1.fuse, .bool x.1.down]) x.1
 hb : Below w.heap.size w W
theorem exec_from {o : Oper} {ρ : Operand → Value} {x : Operand} (ho : o.op = .field 79 x 0) {a b : Nat} (hx : ρ x = halfV a b) (w : World) : (execOp ρ o).run Tryz.prog w = .ok (.value (.int .i64 (a : Int))) w := by
 unfold execOp
 simp only [ho, hx, halfV]
 have := field_from (a : Int) (b : Int) w
 simp [this]
def appLog (x : Dk × Int) (h g u k t : Nat) : Value := if x.2 = 0 then logN h g (u + t) (k + 1) else logN h g u k
set_option maxRecDepth 20000 in
set_option maxHeartbeats 8000000 in
theorem append_run (v : Value) (d : Dk) (h g u k : Nat) (A1 : Option Addr) (n1 c1 : Nat) (b : List Nat) (w : World) (hd : DkAt w w.heap.size v d) (hr : rightB d = true) (hl : LogFits d h g u k) (hby : Bytes w w.heap.size A1 n1 b) (hnc : n1 ≤ c1) (hc1 : c1 ≤ maxLen) (ht : Tab w)
 (hn : n1 ≤ 140737488355328) (h0 : takesN n1 ≠ 0) (hfit : takesN n1 ≤ d.secs.length / 2 - u) (hx09 : (runM d (appD (h * (d.secs.length / 2) + u) g k b)).2 = 0 ∨ (runM d (appD (h * (d.secs.length / 2) + u) g k b)).2 = 9) :
 Calls Tryz.prog 23 #[v, logN h g u k, .slice A1 n1 c1] w (LogRes w (runM d (appD (h * (d.secs.length / 2) + u) g k b)) (appLog (runM d (appD (h * (d.secs.length / 2) + u) g k b)) h g u k (takesN n1))) := by
 obtain ⟨o, hO⟩ : ∃ o, o = h * (d.secs.length / 2) := ⟨_, rfl⟩
 have ho4 : o ≤ 4096 := by
  have h1 : h ≤ 1 := hl.1
  have h2 : d.secs.length ≤ 4096 := (rightB_of.1 hr).1
  have : h = 0 ∨ h = 1 := by omega
  rcases this with rfl | rfl <;> simp at hO <;> omega
 rw [← hO] at hx09 ⊢
 have HO := Lib.hid hO
 clear hO
 generalize hX : runM d (appD (o + u) g k b) = x at *
 have HXX := Lib.hid hX
 clear hX
 have HX := Lib.hid hx09
 have HBY := Lib.hid hby
 have HTAB := Lib.hid ht
 obtain ⟨-, hg1, hg2, hu2, -, hk1, hku⟩ := id hl
 obtain ⟨hn1, hn6⟩ := takesN_pos.1 (Nat.pos_of_ne_zero h0)
 clear hx09 hby ht
 obtain ⟨A, n, c, A', n', c', rfl, hx⟩ := hd
 have HD := Lib.hid (show DkAt w w.heap.size (.agg #[.slice A n c, .slice A' n' c', .int .i64 d.fuse, .bool d.down]) d from ⟨A, n, c, A', n', c', rfl, hx⟩)
 have HL := Lib.hid hl
 have HR := Lib.hid hr
 have h0i : (((takesN n1 : Nat) : Int) == 0) = false := by simp; omega
 have ht95 := takesN_le n1
 have hsl : d.secs.length ≤ 4096 := (rightB_of.1 hr).1
 have hh1 : h ≤ 1 := hl.1
 have hus : u ≤ d.secs.length / 2 := hl.2.2.2.2.1
 clear hx hr hl
 unfold logN at *
 go_enter Tryz.func23, Tryz.ntmps23
 go_wp2_with fail
 refine (takes_int n1 _ hn).mono ?_
 rintro e w1 ⟨rfl, rfl⟩
 go_wp2_with fail
 refine calls_over (AppB w d h g u k A A' A1 n c n' c' n1 c1) (AppB.start _ _ _ _ _ _ _ _ _ _ _ _ _ _ _) ?_
 intro W0 H0
 refine (wright_any _ d h g u k W0 (HD.out.later H0.hb) HR.out HL.out).mono ?_
 rintro e W1 ⟨rfl, hbR⟩
 have H1 := H0.below hbR
 clear H0 hbR
 obtain ⟨⟨p0, p1, p2, p3⟩, _⟩ := H1.b3.four
 obtain ⟨⟨r0, r1, r2, r3⟩, _⟩ := H1.b4.four
 have HH1 := Lib.hid H1
 clear H1
 go_wp2_with fail
 refine (room_any _ d h g u k W1 (HD.out.later HH1.out.hb) HR.out HL.out).mono ?_
 rintro e W ⟨rfl, hbR⟩
 have H := HH1.out.below hbR
 clear HH1 hbR p0 p1 p2 p3 r0 r1 r2 r3
 obtain ⟨⟨p0, p1, p2, p3⟩, q0, q1, q2, q3⟩ := H.b3.four
 obtain ⟨⟨r0, r1, r2, r3⟩, s0, s1, s2, s3⟩ := H.b4.four
 obtain ⟨⟨t0, t1, t2, t3⟩, u0, u1, u2, u3⟩ := H.b6.four
 obtain ⟨⟨v0, v1, v2, v3⟩, x0, x1, x2, x3⟩ := H.b7.four
 have hfi : ¬ ((d.secs.length / 2 - u : Nat) : Int) < ((takesN n1 : Nat) : Int) := by omega
 have HH := Lib.hid H
 clear H
 generalize hz : d.secs.length / 2 - u = z at *
 have HZ := Lib.hid hz
 clear hz
 have hmf : ∀ (fn : Fn) (first cap : Array Value) (w : World), (Instr.makeFunc fn first cap).run Tryz.prog w = .ok (.func fn first cap) w := fun _ _ _ _ => rfl
 go_wp2_with fail
 have hm : Tryz.prog.follows .mixedOrders = true := by kernel_rfl
 refine wp_region_held_drew (S := fun W' => AppB w d h g u k A A' A1 n c n' c' n1 c1 W') hm (HH.out.below ((Below.refl _ _).drew)) (fun hHeld => ?_)
 generalize W.drew = W2 at *
 clear p0 p1 p2 p3 q0 q1 q2 q3 r0 r1 r2 r3 s0 s1 s2 s3 t0 t1 t2 t3 u0 u1 u2 u3 v0 v1 v2 v3 x0 x1 x2 x3
 simp only [List.size_toArray, List.length_cons, List.length_nil, Nat.reduceAdd]
 refine wpAnyH_take (i := 0) (v := .agg #[.slice A n c, .slice A' n' c', .int .i64 d.fuse, .bool d.down]) rfl (by kernel_rfl) (by kernel_rfl) (by kernel_rfl) (fun _ _ _ h => h) (Or.inl ⟨by rfl, fun w0 hC => by have := hC.b3.four.1; simp [execOp, Act.eval, Act.put, go_sem, this.1, this.2.1, this.2.2.1, this.2.2.2]⟩) hHeld ?_
 try simp only [Act.put, jA, jB, jC]
 refine wpAnyH_take (i := 1) (v := .pointer (some ⟨w.heap.size + 1, 0, none⟩)) rfl (by kernel_rfl) (by kernel_rfl) (by kernel_rfl) (fun _ _ _ h => h) (Or.inl ⟨by rfl, fun w0 hC => by simp [execOp, Act.eval, Act.put, go_sem]⟩) hHeld ?_
 try simp only [Act.put, jA, jB, jC]
 refine wpAnyH_take (i := 2) (v := .int .i64 (h : Int)) rfl (by kernel_rfl) (by kernel_rfl) (by kernel_rfl) (fun _ _ _ h => h) (Or.inl ⟨by rfl, fun w0 hC => by have := hC.b4.four.1; simp [execOp, Act.eval, Act.put, go_sem, this.1]⟩) hHeld ?_
 try simp only [Act.put, jA, jB, jC]
 refine wpAnyH_take (i := 5) (v := .pointer (some ⟨w.heap.size + 1, 2, none⟩)) rfl (by kernel_rfl) (by kernel_rfl) (by kernel_rfl) (fun _ _ _ h => h) (Or.inl ⟨by rfl, fun w0 hC => by simp [execOp, Act.eval, Act.put, go_sem]⟩) hHeld ?_
 try simp only [Act.put, jA, jB, jC]
 refine wpAnyH_take (i := 6) (v := .int .i64 (u : Int)) rfl (by kernel_rfl) (by kernel_rfl) (by kernel_rfl) (fun _ _ _ h => h) (Or.inl ⟨by rfl, fun w0 hC => by have := hC.b4.four.1; simp [execOp, Act.eval, Act.put, go_sem, this.2.2.1]⟩) hHeld ?_
 try simp only [Act.put, jA, jB, jC]
 have hsum : IntKind.i64.wrap ((o : Int) + (u : Int)) = ((o + u : Nat) : Int) := by rw [IntWalk.i64_in _ (by omega)]; omega
 refine wpAnyH_ready (rs := [3, 8]) (by kernel_rfl) (by simp) (AllReadyH.cons rfl (fun K hK => ?_) (AllReadyH.cons rfl (fun K hK => ?_) AllReadyH.nil))
 ·rw [if_pos (by rfl)]
  go_wp2_with fail
  refine (halfOf_any _ d h W2 (HD.out.later hHeld.hb) hh1 hsl).mono ?_
  rintro e Wa ⟨rfl, hba⟩
  rw [← HO.out]
  have hSa := hHeld.below hba
  have HA := Lib.hid hSa
  clear hba
  refine hK.out _ _ hSa (fun hHeld => ?_)
  clear hK K
  try simp only [Act.put, jA, jB, jC]
  clear hSa
  refine wpAnyH_take (i := 4) (v := .int .i64 (o : Int)) rfl (by kernel_rfl) (by kernel_rfl) (by kernel_rfl) (fun _ _ _ h => h) (Or.inl ⟨by rfl, fun w0 hC => exec_from rfl rfl _⟩) hHeld ?_
  try simp only [Act.put, jA, jB, jC]
  refine wpAnyH_take (i := 7) (v := .int .i64 ((o + u : Nat) : Int)) rfl (by kernel_rfl) (by kernel_rfl) (by kernel_rfl) (fun _ _ _ h => h) (Or.inl ⟨by rfl, fun w0 hC => by rw [← hsum]; simp [execOp, Act.eval, Act.put, go_sem]⟩) hHeld ?_
  try simp only [Act.put, jA, jB, jC]
  refine wpAnyH_ready (rs := [8]) (by kernel_rfl) (by simp) (AllReadyH.cons rfl (fun K hK => ?_) AllReadyH.nil)
  rw [if_pos (by rfl)]
  go_wp2_with fail
  have hba : Below Wa.heap.size Wa (Wa.alloc (.cells #[.int .i64 0] 3)) := (Below.refl _ _).alloc (Nat.le_refl _) _
  have hSa := hHeld.below hba
  clear hba
  refine hK.out _ _ hSa (fun hHeld => ?_)
  clear hK K
  try simp only [Act.put, jA, jB, jC]
  clear hSa
  refine wpAnyH_ready (rs := [9]) (by kernel_rfl) (by simp) (AllReadyH.cons rfl (fun K hK => ?_) AllReadyH.nil)
  rw [if_pos (by rfl)]
  go_wp2_with fail
  have hba : Below Wa.heap.size Wa (Wa.alloc (.cells #[.int .i64 ((o : Int) + (u : Int))] 3)) := (Below.refl _ _).alloc (Nat.le_refl _) _
  have hSa := HA.out.below hba
  have HH3 := Lib.hid hSa
  have HBa : Hid (Bk (Wa.alloc (.cells #[.int .i64 ((o : Int) + (u : Int))] 3)) Wa.heap.size 3 #[.int .i64 ((o + u : Nat) : Int)]) := Lib.hid (by rw [Int.natCast_add]; exact Bk.new _ _ _)
  refine hK.out _ _ hSa (fun hHeld => ?_)
  clear hK K
  try simp only [Act.put, jA, jB, jC]
  clear hSa hba HA
  refine wpAnyH_done (by kernel_rfl) ?_ _
  clear hHeld
  generalize Wa.alloc (.cells #[.int .i64 ((o : Int) + (u : Int))] 3) = W3 at *
  generalize Wa.heap.size = ba at *
  have hWr := writes_append W3 d ba (w.heap.size + 1 + 1) (w.heap.size + 1) (o + u) g k h u A1 n1 c1 b HBa.out HH3.out.b5 HH3.out.b4 (HBY.out.later HH3.out.hb) hnc hc1 (HTAB.out.below HH3.out.hb HTAB.out.pos) hn6 (by omega) (by omega) (by omega)
  rw [HXX.out] at hWr
  have HWR := Lib.hid hWr
  clear hWr
  obtain ⟨⟨p0, p1, p2, p3⟩, _⟩ := HH3.out.b3.four
  go_wp2_with fail
  refine (written_any _ d 44 _ x W3 (HD.out.later HH3.out.hb) HX.out HWR.out (enters_of Tryz.func44 (by kernel_rfl) rfl)).mono ?_
  intro e W4 hres
  obtain ⟨A2, n2, c2, A2', n2', c2', rfl, hd4, hb4⟩ := hres.zero
  have H4 := HH3.out.below hb4
  clear HH3 HBa HWR p0 p1 p2 p3 hb4 hres
  obtain ⟨⟨p0, p1, p2, p3⟩, q0, q1, q2, q3⟩ := H4.b3.four
  obtain ⟨⟨r0, r1, r2, r3⟩, s0, s1, s2, s3⟩ := H4.b4.four
  obtain ⟨⟨t0, t1, t2, t3⟩, u0, u1, u2, u3⟩ := H4.b6.four
  obtain ⟨⟨v0, v1, v2, v3⟩, x0, x1, x2, x3⟩ := H4.b7.four
  have hf3 := stored4_facts H4.b3 (.slice A2 n2 c2) (.slice A2' n2' c2') (.int .i64 x.1.fuse) (.bool x.1.down)
  have h4b := hf3.2.2.2 _ _ _ (by omega) H4.b4
  have h6b := hf3.2.2.2 _ _ _ (by omega) H4.b6
  have h7b := hf3.2.2.2 _ _ _ (by omega) H4.b7
  have hd5 := hf3.2.1 _ _ hd4
  have hb5 := hf3.2.2.1 _ _ H4.hb (Nat.le_refl _)
  have h3b := hf3.1
  by_cases hx0 : x.2 = 0
  ·have hxi : (x.2 != 0) = false := by simp [hx0]
   have HLOG : Hid (appLog x h g u k (takesN n1) = .agg #[.int .i64 (h : Int), .int .i64 (g : Int), .int .i64 ((u : Int) + ((takesN n1 : Nat) : Int)), .int .i64 ((k : Int) + 1)]) := Lib.hid (by unfold appLog logN; rw [if_pos hx0]; simp)
   have HX0 := Lib.hid hx0
   have h4c := (h4b.put 2 (.int .i64 ((u : Int) + ((takesN n1 : Nat) : Int)))).put 3 (.int .i64 ((k : Int) + 1))
   have h3c := (h3b.far (p := ⟨w.heap.size + 1, 2, none⟩) (by first | (simp; done) | (simp; omega)) (.int .i64 ((u : Int) + ((takesN n1 : Nat) : Int)))).far (p := ⟨w.heap.size + 1, 3, none⟩) (by first | (simp; done) | (simp; omega)) (.int .i64 ((k : Int) + 1))
   have h6c := (h6b.far (p := ⟨w.heap.size + 1, 2, none⟩) (by first | (simp; done) | (simp; omega)) (.int .i64 ((u : Int) + ((takesN n1 : Nat) : Int)))).far (p := ⟨w.heap.size + 1, 3, none⟩) (by first | (simp; done) | (simp; omega)) (.int .i64 ((k : Int) + 1))
   have h7c := (h7b.far (p := ⟨w.heap.size + 1, 2, none⟩) (by first | (simp; done) | (simp; omega)) (.int .i64 ((u : Int) + ((takesN n1 : Nat) : Int)))).far (p := ⟨w.heap.size + 1, 3, none⟩) (by first | (simp; done) | (simp; omega)) (.int .i64 ((k : Int) + 1))
   have hd6 := ((hd5.box h4b (by simp) 2 (.int .i64 ((u : Int) + ((takesN n1 : Nat) : Int)))).box (h4b.put 2 (.int .i64 ((u : Int) + ((takesN n1 : Nat) : Int)))) (by simp) 3 (.int .i64 ((k : Int) + 1))).more (B' := (((stored4 W4 w.heap.size (.slice A2 n2 c2) (.slice A2' n2' c2') (.int .i64 x.1.fuse) (.bool x.1.down)).setCell ⟨w.heap.size + 1, 2, none⟩ (.int .i64 ((u : Int) + ((takesN n1 : Nat) : Int)))).setCell ⟨w.heap.size + 1, 3, none⟩ (.int .i64 ((k : Int) + 1))).heap.size) (by simp)
   have hb6 := (hb5.setCell (p := ⟨w.heap.size + 1, 2, none⟩) (by first | (simp; done) | (simp; omega)) (.int .i64 ((u : Int) + ((takesN n1 : Nat) : Int)))).setCell (p := ⟨w.heap.size + 1, 3, none⟩) (by first | (simp; done) | (simp; omega)) (.int .i64 ((k : Int) + 1))
   have HG : Hid (AppF w x A2 A2' n2 c2 n2' c2' h g ((u : Int) + ((takesN n1 : Nat) : Int)) ((k : Int) + 1) _) := Lib.hid ⟨h3c, h4c, h6c, h7c, hd6, hb6⟩
   unfold stored4 at HG
   clear hf3 h4b h6b h7b hd5 hb5 h3b h4c h3c h6c h7c hd6 hb6 hx0 H4 hd4
   go_wp2_with fail
   refine code_over (AppF w x A2 A2' n2 c2 n2' c2' h g ((u : Int) + ((takesN n1 : Nat) : Int)) ((k : Int) + 1)) HG.out ?_
   clear p0 p1 p2 p3 q0 q1 q2 q3 r0 r1 r2 r3 s0 s1 s2 s3 t0 t1 t2 t3 u0 u1 u2 u3 v0 v1 v2 v3 x0 x1 x2 x3 HG
   intro W5 H5
   obtain ⟨⟨p0, p1, p2, p3⟩, q0, q1, q2, q3⟩ := H5.b3.four
   obtain ⟨⟨r0, r1, r2, r3⟩, s0, s1, s2, s3⟩ := H5.b4.four
   obtain ⟨⟨t0, t1, t2, t3⟩, u0, u1, u2, u3⟩ := H5.b6.four
   obtain ⟨⟨v0, v1, v2, v3⟩, x0, x1, x2, x3⟩ := H5.b7.four
   have HT := two_boxes (x := x.1) (h : Int) (g : Int) ((u : Int) + ((takesN n1 : Nat) : Int)) ((k : Int) + 1) H5.b6 H5.b7 (by omega) H5.hd H5.hb (by omega) (by omega)
   unfold stored4 at HT
   clear H5
   generalize (u : Int) + ((takesN n1 : Nat) : Int) = u9 at *
   generalize (k : Int) + 1 = k9 at *
   go_region
   refine post_over (Lies w (w.heap.size + 1 + 1 + 1) (w.heap.size + 1 + 1 + 1 + 1) A2 A2' n2 c2 n2' c2' x.1 h g u9 k9) HT.out.drew ?_
   intro W' HW
   clear p0 p1 p2 p3 q0 q1 q2 q3 r0 r1 r2 r3 s0 s1 s2 s3 t0 t1 t2 t3 u0 u1 u2 u3 v0 v1 v2 v3 x0 x1 x2 x3 HT
   have HW' := Lib.hid HW
   clear HW
   go_wp2
   rw [HLOG.out]
   refine bodyPost_ret (v := .tuple #[.agg #[.slice A2 n2 c2, .slice A2' n2' c2', .int .i64 x.1.fuse, .bool x.1.down], .agg #[.int .i64 (h : Int), .int .i64 (g : Int), .int .i64 u9, .int .i64 k9], .int .i64 0]) ?_ rfl ⟨_, by rw [HX0.out], HW'.out.2.2.1, HW'.out.2.2.2⟩
   exact results_cct (fn := Tryz.f23) (a1 := ⟨w.heap.size + 1 + 1 + 1, 0, none⟩) (a2 := ⟨w.heap.size + 1 + 1 + 1 + 1, 0, none⟩) rfl rfl rfl rfl (load_box4 HW'.out.1) (load_log4 HW'.out.2.1)
  ·have hxi : (x.2 != 0) = true := by simpa using hx0
   have HLOG : Hid (appLog x h g u k (takesN n1) = .agg #[.int .i64 (h : Int), .int .i64 (g : Int), .int .i64 (u : Int), .int .i64 (k : Int)]) := Lib.hid (by unfold appLog logN; rw [if_neg hx0])
   have HG : Hid (AppF w x A2 A2' n2 c2 n2' c2' h g u k _) := Lib.hid ⟨h3b, h4b, h6b, h7b, hd5, hb5⟩
   unfold stored4 at HG
   clear hf3 h4b h6b h7b hd5 hb5 h3b hx0 H4 hd4
   go_wp2_with fail
   refine code_over (AppF w x A2 A2' n2 c2 n2' c2' h g u k) HG.out ?_
   clear p0 p1 p2 p3 q0 q1 q2 q3 r0 r1 r2 r3 s0 s1 s2 s3 t0 t1 t2 t3 u0 u1 u2 u3 v0 v1 v2 v3 x0 x1 x2 x3 HG
   intro W5 H5
   obtain ⟨⟨p0, p1, p2, p3⟩, q0, q1, q2, q3⟩ := H5.b3.four
   obtain ⟨⟨r0, r1, r2, r3⟩, s0, s1, s2, s3⟩ := H5.b4.four
   obtain ⟨⟨t0, t1, t2, t3⟩, u0, u1, u2, u3⟩ := H5.b6.four
   obtain ⟨⟨v0, v1, v2, v3⟩, x0, x1, x2, x3⟩ := H5.b7.four
   have HT := two_boxes (x := x.1) (h : Int) (g : Int) (u : Int) (k : Int) H5.b6 H5.b7 (by omega) H5.hd H5.hb (by omega) (by omega)
   unfold stored4 at HT
   clear H5
   go_region
   refine post_over (Lies w (w.heap.size + 1 + 1 + 1) (w.heap.size + 1 + 1 + 1 + 1) A2 A2' n2 c2 n2' c2' x.1 h g u k) HT.out.drew ?_
   intro W' HW
   clear p0 p1 p2 p3 q0 q1 q2 q3 r0 r1 r2 r3 s0 s1 s2 s3 t0 t1 t2 t3 u0 u1 u2 u3 v0 v1 v2 v3 x0 x1 x2 x3 HT
   have HW' := Lib.hid HW
   clear HW
   go_wp2
   rw [HLOG.out]
   refine bodyPost_ret (v := .tuple #[.agg #[.slice A2 n2 c2, .slice A2' n2' c2', .int .i64 x.1.fuse, .bool x.1.down], .agg #[.int .i64 (h : Int), .int .i64 (g : Int), .int .i64 (u : Int), .int .i64 (k : Int)], .int .i64 x.2]) ?_ rfl ⟨_, rfl, HW'.out.2.2.1, HW'.out.2.2.2⟩
   exact results_cct (fn := Tryz.f23) (a1 := ⟨w.heap.size + 1 + 1 + 1, 0, none⟩) (a2 := ⟨w.heap.size + 1 + 1 + 1 + 1, 0, none⟩) rfl rfl rfl rfl (load_box4 HW'.out.1) (load_log4 HW'.out.2.1)
 ·rw [if_pos (by rfl)]
  go_wp2_with fail
  have hba : Below W2.heap.size W2 (W2.alloc (.cells #[.int .i64 0] 3)) := (Below.refl _ _).alloc (Nat.le_refl _) _
  have HA := Lib.hid hHeld
  have HBz := Lib.hid (Bk.new W2 3 #[.int .i64 0])
  have HBB := Lib.hid hba
  have hSa := hHeld.below hba
  clear hba
  refine hK.out _ _ hSa (fun hHeld => ?_)
  clear hK K
  try simp only [Act.put, jA, jB, jC]
  clear hSa
  refine wpAnyH_ready (rs := [3]) (by kernel_rfl) (by simp) (AllReadyH.cons rfl (fun K hK => ?_) AllReadyH.nil)
  rw [if_pos (by rfl)]
  go_wp2_with fail
  refine (halfOf_any _ d h _ (HD.out.later hHeld.hb) hh1 hsl).mono ?_
  rintro e Wa ⟨rfl, hba⟩
  rw [← HO.out]
  have hSa := hHeld.below hba
  replace HBz := Lib.hid (HBz.out.below hba HBz.out.lt)
  replace HBB := Lib.hid (HBB.out.trans (hba.mono HBB.out.size))
  clear hba
  refine hK.out _ _ hSa (fun hHeld => ?_)
  clear hK K
  try simp only [Act.put, jA, jB, jC]
  clear hSa
  refine wpAnyH_take (i := 4) (v := .int .i64 (o : Int)) rfl (by kernel_rfl) (by kernel_rfl) (by kernel_rfl) (fun _ _ _ h => h) (Or.inl ⟨by rfl, fun w0 hC => exec_from rfl rfl _⟩) hHeld ?_
  try simp only [Act.put, jA, jB, jC]
  refine wpAnyH_take (i := 7) (v := .int .i64 ((o + u : Nat) : Int)) rfl (by kernel_rfl) (by kernel_rfl) (by kernel_rfl) (fun _ _ _ h => h) (Or.inl ⟨by rfl, fun w0 hC => by rw [← hsum]; simp [execOp, Act.eval, Act.put, go_sem]⟩) hHeld ?_
  try simp only [Act.put, jA, jB, jC]
  have z0 : Wa.cell? ⟨W2.heap.size, 0, none⟩ = some (.int .i64 0) := HBz.out.cell 0
  have z1 := HBz.out.frozen 0
  refine wpAnyH_ready (rs := [9]) (by kernel_rfl) (by simp) (AllReadyH.cons rfl (fun K hK => ?_) AllReadyH.nil)
  rw [if_pos (by rfl)]
  go_wp2_with fail
  have hba : Below W2.heap.size W2 (Wa.setCell ⟨W2.heap.size, 0, none⟩ (.int .i64 ((o : Int) + (u : Int)))) := HBB.out.setCell (Nat.le_refl _) _
  have hSa := HA.out.below hba
  have HH3 := Lib.hid hSa
  have HBa : Hid (Bk (Wa.setCell ⟨W2.heap.size, 0, none⟩ (.int .i64 ((o : Int) + (u : Int)))) W2.heap.size 3 #[.int .i64 ((o + u : Nat) : Int)]) := Lib.hid (by rw [Int.natCast_add]; exact HBz.out.put 0 _)
  refine hK.out _ _ hSa (fun hHeld => ?_)
  clear hK K
  try simp only [Act.put, jA, jB, jC]
  clear hSa hba HA HBz HBB z0 z1
  refine wpAnyH_done (by kernel_rfl) ?_ _
  clear hHeld
  generalize Wa.setCell ⟨W2.heap.size, 0, none⟩ (.int .i64 ((o : Int) + (u : Int))) = W3 at *
  generalize W2.heap.size = ba at *
  have hWr := writes_append W3 d ba (w.heap.size + 1 + 1) (w.heap.size + 1) (o + u) g k h u A1 n1 c1 b HBa.out HH3.out.b5 HH3.out.b4 (HBY.out.later HH3.out.hb) hnc hc1 (HTAB.out.below HH3.out.hb HTAB.out.pos) hn6 (by omega) (by omega) (by omega)
  rw [HXX.out] at hWr
  have HWR := Lib.hid hWr
  clear hWr
  obtain ⟨⟨p0, p1, p2, p3⟩, _⟩ := HH3.out.b3.four
  go_wp2_with fail
  refine (written_any _ d 44 _ x W3 (HD.out.later HH3.out.hb) HX.out HWR.out (enters_of Tryz.func44 (by kernel_rfl) rfl)).mono ?_
  intro e W4 hres
  obtain ⟨A2, n2, c2, A2', n2', c2', rfl, hd4, hb4⟩ := hres.zero
  have H4 := HH3.out.below hb4
  clear HH3 HBa HWR p0 p1 p2 p3 hb4 hres
  obtain ⟨⟨p0, p1, p2, p3⟩, q0, q1, q2, q3⟩ := H4.b3.four
  obtain ⟨⟨r0, r1, r2, r3⟩, s0, s1, s2, s3⟩ := H4.b4.four
  obtain ⟨⟨t0, t1, t2, t3⟩, u0, u1, u2, u3⟩ := H4.b6.four
  obtain ⟨⟨v0, v1, v2, v3⟩, x0, x1, x2, x3⟩ := H4.b7.four
  have hf3 := stored4_facts H4.b3 (.slice A2 n2 c2) (.slice A2' n2' c2') (.int .i64 x.1.fuse) (.bool x.1.down)
  have h4b := hf3.2.2.2 _ _ _ (by omega) H4.b4
  have h6b := hf3.2.2.2 _ _ _ (by omega) H4.b6
  have h7b := hf3.2.2.2 _ _ _ (by omega) H4.b7
  have hd5 := hf3.2.1 _ _ hd4
  have hb5 := hf3.2.2.1 _ _ H4.hb (Nat.le_refl _)
  have h3b := hf3.1
  by_cases hx0 : x.2 = 0
  ·have hxi : (x.2 != 0) = false := by simp [hx0]
   have HLOG : Hid (appLog x h g u k (takesN n1) = .agg #[.int .i64 (h : Int), .int .i64 (g : Int), .int .i64 ((u : Int) + ((takesN n1 : Nat) : Int)), .int .i64 ((k : Int) + 1)]) := Lib.hid (by unfold appLog logN; rw [if_pos hx0]; simp)
   have HX0 := Lib.hid hx0
   have h4c := (h4b.put 2 (.int .i64 ((u : Int) + ((takesN n1 : Nat) : Int)))).put 3 (.int .i64 ((k : Int) + 1))
   have h3c := (h3b.far (p := ⟨w.heap.size + 1, 2, none⟩) (by first | (simp; done) | (simp; omega)) (.int .i64 ((u : Int) + ((takesN n1 : Nat) : Int)))).far (p := ⟨w.heap.size + 1, 3, none⟩) (by first | (simp; done) | (simp; omega)) (.int .i64 ((k : Int) + 1))
   have h6c := (h6b.far (p := ⟨w.heap.size + 1, 2, none⟩) (by first | (simp; done) | (simp; omega)) (.int .i64 ((u : Int) + ((takesN n1 : Nat) : Int)))).far (p := ⟨w.heap.size + 1, 3, none⟩) (by first | (simp; done) | (simp; omega)) (.int .i64 ((k : Int) + 1))
   have h7c := (h7b.far (p := ⟨w.heap.size + 1, 2, none⟩) (by first | (simp; done) | (simp; omega)) (.int .i64 ((u : Int) + ((takesN n1 : Nat) : Int)))).far (p := ⟨w.heap.size + 1, 3, none⟩) (by first | (simp; done) | (simp; omega)) (.int .i64 ((k : Int) + 1))
   have hd6 := ((hd5.box h4b (by simp) 2 (.int .i64 ((u : Int) + ((takesN n1 : Nat) : Int)))).box (h4b.put 2 (.int .i64 ((u : Int) + ((takesN n1 : Nat) : Int)))) (by simp) 3 (.int .i64 ((k : Int) + 1))).more (B' := (((stored4 W4 w.heap.size (.slice A2 n2 c2) (.slice A2' n2' c2') (.int .i64 x.1.fuse) (.bool x.1.down)).setCell ⟨w.heap.size + 1, 2, none⟩ (.int .i64 ((u : Int) + ((takesN n1 : Nat) : Int)))).setCell ⟨w.heap.size + 1, 3, none⟩ (.int .i64 ((k : Int) + 1))).heap.size) (by simp)
   have hb6 := (hb5.setCell (p := ⟨w.heap.size + 1, 2, none⟩) (by first | (simp; done) | (simp; omega)) (.int .i64 ((u : Int) + ((takesN n1 : Nat) : Int)))).setCell (p := ⟨w.heap.size + 1, 3, none⟩) (by first | (simp; done) | (simp; omega)) (.int .i64 ((k : Int) + 1))
   have HG : Hid (AppF w x A2 A2' n2 c2 n2' c2' h g ((u : Int) + ((takesN n1 : Nat) : Int)) ((k : Int) + 1) _) := Lib.hid ⟨h3c, h4c, h6c, h7c, hd6, hb6⟩
   unfold stored4 at HG
   clear hf3 h4b h6b h7b hd5 hb5 h3b h4c h3c h6c h7c hd6 hb6 hx0 H4 hd4
   go_wp2_with fail
   refine code_over (AppF w x A2 A2' n2 c2 n2' c2' h g ((u : Int) + ((takesN n1 : Nat) : Int)) ((k : Int) + 1)) HG.out ?_
   clear p0 p1 p2 p3 q0 q1 q2 q3 r0 r1 r2 r3 s0 s1 s2 s3 t0 t1 t2 t3 u0 u1 u2 u3 v0 v1 v2 v3 x0 x1 x2 x3 HG
   intro W5 H5
   obtain ⟨⟨p0, p1, p2, p3⟩, q0, q1, q2, q3⟩ := H5.b3.four
   obtain ⟨⟨r0, r1, r2, r3⟩, s0, s1, s2, s3⟩ := H5.b4.four
   obtain ⟨⟨t0, t1, t2, t3⟩, u0, u1, u2, u3⟩ := H5.b6.four
   obtain ⟨⟨v0, v1, v2, v3⟩, x0, x1, x2, x3⟩ := H5.b7.four
   have HT := two_boxes (x := x.1) (h : Int) (g : Int) ((u : Int) + ((takesN n1 : Nat) : Int)) ((k : Int) + 1) H5.b6 H5.b7 (by omega) H5.hd H5.hb (by omega) (by omega)
   unfold stored4 at HT
   clear H5
   generalize (u : Int) + ((takesN n1 : Nat) : Int) = u9 at *
   generalize (k : Int) + 1 = k9 at *
   go_region
   refine post_over (Lies w (w.heap.size + 1 + 1 + 1) (w.heap.size + 1 + 1 + 1 + 1) A2 A2' n2 c2 n2' c2' x.1 h g u9 k9) HT.out.drew ?_
   intro W' HW
   clear p0 p1 p2 p3 q0 q1 q2 q3 r0 r1 r2 r3 s0 s1 s2 s3 t0 t1 t2 t3 u0 u1 u2 u3 v0 v1 v2 v3 x0 x1 x2 x3 HT
   have HW' := Lib.hid HW
   clear HW
   go_wp2
   rw [HLOG.out]
   refine bodyPost_ret (v := .tuple #[.agg #[.slice A2 n2 c2, .slice A2' n2' c2', .int .i64 x.1.fuse, .bool x.1.down], .agg #[.int .i64 (h : Int), .int .i64 (g : Int), .int .i64 u9, .int .i64 k9], .int .i64 0]) ?_ rfl ⟨_, by rw [HX0.out], HW'.out.2.2.1, HW'.out.2.2.2⟩
   exact results_cct (fn := Tryz.f23) (a1 := ⟨w.heap.size + 1 + 1 + 1, 0, none⟩) (a2 := ⟨w.heap.size + 1 + 1 + 1 + 1, 0, none⟩) rfl rfl rfl rfl (load_box4 HW'.out.1) (load_log4 HW'.out.2.1)
  ·have hxi : (x.2 != 0) = true := by simpa using hx0
   have HLOG : Hid (appLog x h g u k (takesN n1) = .agg #[.int .i64 (h : Int), .int .i64 (g : Int), .int .i64 (u : Int), .int .i64 (k : Int)]) := Lib.hid (by unfold appLog logN; rw [if_neg hx0])
   have HG : Hid (AppF w x A2 A2' n2 c2 n2' c2' h g u k _) := Lib.hid ⟨h3b, h4b, h6b, h7b, hd5, hb5⟩
   unfold stored4 at HG
   clear hf3 h4b h6b h7b hd5 hb5 h3b hx0 H4 hd4
   go_wp2_with fail
   refine code_over (AppF w x A2 A2' n2 c2 n2' c2' h g u k) HG.out ?_
   clear p0 p1 p2 p3 q0 q1 q2 q3 r0 r1 r2 r3 s0 s1 s2 s3 t0 t1 t2 t3 u0 u1 u2 u3 v0 v1 v2 v3 x0 x1 x2 x3 HG
   intro W5 H5
   obtain ⟨⟨p0, p1, p2, p3⟩, q0, q1, q2, q3⟩ := H5.b3.four
   obtain ⟨⟨r0, r1, r2, r3⟩, s0, s1, s2, s3⟩ := H5.b4.four
   obtain ⟨⟨t0, t1, t2, t3⟩, u0, u1, u2, u3⟩ := H5.b6.four
   obtain ⟨⟨v0, v1, v2, v3⟩, x0, x1, x2, x3⟩ := H5.b7.four
   have HT := two_boxes (x := x.1) (h : Int) (g : Int) (u : Int) (k : Int) H5.b6 H5.b7 (by omega) H5.hd H5.hb (by omega) (by omega)
   unfold stored4 at HT
   clear H5
   go_region
   refine post_over (Lies w (w.heap.size + 1 + 1 + 1) (w.heap.size + 1 + 1 + 1 + 1) A2 A2' n2 c2 n2' c2' x.1 h g u k) HT.out.drew ?_
   intro W' HW
   clear p0 p1 p2 p3 q0 q1 q2 q3 r0 r1 r2 r3 s0 s1 s2 s3 t0 t1 t2 t3 u0 u1 u2 u3 v0 v1 v2 v3 x0 x1 x2 x3 HT
   have HW' := Lib.hid HW
   clear HW
   go_wp2
   rw [HLOG.out]
   refine bodyPost_ret (v := .tuple #[.agg #[.slice A2 n2 c2, .slice A2' n2' c2', .int .i64 x.1.fuse, .bool x.1.down], .agg #[.int .i64 (h : Int), .int .i64 (g : Int), .int .i64 (u : Int), .int .i64 (k : Int)], .int .i64 x.2]) ?_ rfl ⟨_, rfl, HW'.out.2.2.1, HW'.out.2.2.2⟩
   exact results_cct (fn := Tryz.f23) (a1 := ⟨w.heap.size + 1 + 1 + 1, 0, none⟩) (a2 := ⟨w.heap.size + 1 + 1 + 1 + 1, 0, none⟩) rfl rfl rfl rfl (load_box4 HW'.out.1) (load_log4 HW'.out.2.1)
end Go.Proofs.YtcdehejgnnnimaaGreatDoor
