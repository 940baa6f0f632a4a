/-
 A part of the proof: see the last text.
-/
import Derived.Test.YtcdehejgnnnimaaGreatDoorSWalMath
import Derived.Recover
import Derived.Test.YtcdehejgnnnimaaGreatDoorSSecFlush
import Derived.Test.YtcdehejgnnnimaaGreatDoorSSecStart
import Derived.Defers
import Derived.Test.YtcdehejgnnnimaaGreatDoorSWalLay
import Derived.Deep.QuietTactic
namespace Go.Proofs.YtcdehejgnnnimaaGreatDoor
open List renaming setIfInBounds_toArray → jA, set_cons_zero → jB, set_cons_succ → jC
set_option linter.unusedVariables false
set_option linter.unusedSimpArgs false
open Go.RowKit
theorem Code.wp_mono' {P : Program} {c : Code} {Q Q' : Exit → Act → World → Prop} {a : Act} {w : World} (hq : ∀ e a w, Q e a w → Q' e a w) (h : c.wp P Q a w) : c.wp P Q' a w := Code.wp_mono hq h
theorem door_end {c₀ : Frame} {cs : List Frame} {R : Ending → FrameMode → World → Prop} {W : World → Prop} {cs' : List Frame} {e : Exit} {a : Act} {w : World} (he : (e = .normal ∧ a.defers = []) ∧ W w)
 (h : ∃ u', cs' = { c₀ with mode := u' } :: cs ∧ ∀ w, W w → R (.returned (.tuple #[])) u' w) : bodyPostS Tryz.prog Tryz.f62 c₀ cs R e a cs' w := by
 obtain ⟨⟨rfl, hd⟩, hw⟩ := he
 obtain ⟨u', hc, hR⟩ := h
 exact ⟨hd, u', hc, .tuple #[], by simp [results, Tryz.results62], hR w hw⟩
set_option maxRecDepth 20000 in
set_option maxHeartbeats 1000000 in
theorem door_idle (p q r s : Addr) (w : World) :
 CallsD Tryz.prog 62 #[.pointer (some p), .pointer (some q), .pointer (some r), .pointer (some s)] .returning w fun e u' w' => e = .returned (.tuple #[]) ∧ u' = .returning ∧ w' = w := by
 refine callsD_of_wpS Tryz.func62 rfl fun c₀ cs hu => ?_
 apply wpS_seq
 apply wpS_region
 simp [wpOpsS, go_sem, recoverD, hu, Tryz.ntmps62, Exit.thenS]
 refine wpS_of_wp (Code.wp_mono' (fun e a' w' he => door_end (R := fun e u' w' => e = .returned (.tuple #[]) ∧ u' = FrameMode.returning ∧ w' = w) he ⟨FrameMode.returning, ?_, fun w2 hw => ⟨rfl, rfl, hw⟩⟩) (Q := fun e a' w' => (e = .normal ∧ a'.defers = []) ∧ w' = w) ?_)
 ·cases c₀; simp_all
 have hfr : (#[Value.pointer (some p), Value.pointer (some q), Value.pointer (some r), Value.pointer (some s)] ++ (Array.replicate 17 undef).setIfInBounds 3 Value.nilIface) = #[Value.pointer (some p), Value.pointer (some q), Value.pointer (some r), Value.pointer (some s), undef, undef, undef, Value.nilIface, undef, undef, undef, undef, undef, undef, undef, undef, undef, undef, undef, undef, undef] := rfl
 rw [hfr]
 go_wp2
theorem assert_errno (n : Int) (w : World) : (Instr.typeAssert (.iface 28 (.int .i64 n)) 20 28 true).run Tryz.prog w = .ok (.tuple #[.int .i64 n, .bool true]) w := by
 simp only [Instr.typeAssert, Sem.run_bind, run_underlying Tryz.underlying28, Result.andThen_ok]
 rfl
def DoorW (w : World) (b4 b5 : Nat) (d0 d1 d2 d3 e0 e1 e2 e3 : Value) (w' : World) : Prop := w' = stored4 ((stored4 w b4 d0 d1 d2 d3).setCell ⟨b5, 0, none⟩ (.int .i64 9)) b4 e0 e1 e2 e3
set_option maxRecDepth 20000 in
set_option maxHeartbeats 1000000 in
theorem door_fall (b2 b4 b5 b6 g : Nat) (w : World) (A A' A1 A1' : Option Addr) (n c n' c' n1 c1 n1' c1' : Nat) (f f1 : Int) (b b1 : Bool) (a0 a1 a2 a3 er : Value) (h2 : Bk w b2 27 #[.slice A n c, .slice A' n' c', .int .i64 f, .bool b]) (h4 : Bk w b4 27 #[a0, a1, a2, a3]) (h5 : Bk w b5 28 #[er])
 (h6 : Bk w b6 82 #[.pointer (some ⟨g, 0, none⟩)]) (hg : Bk w g 116 #[.slice A1 n1 c1, .slice A1' n1' c1', .int .i64 f1, .bool b1]) (h42 : b4 ≠ b2) (h45 : b4 ≠ b5) (h46 : b4 ≠ b6) (h4g : b4 ≠ g) (h56 : b5 ≠ b6) (h5g : b5 ≠ g) :
 CallsD Tryz.prog 62 #[.pointer (some ⟨b2, 0, none⟩), .pointer (some ⟨b4, 0, none⟩), .pointer (some ⟨b5, 0, none⟩), .pointer (some ⟨b6, 0, none⟩)] (.panicking [{ v := .iface 28 (.int .i64 9), recovered := false }]) w fun e u' w' =>
  e = .returned (.tuple #[]) ∧ u' = .panicking [{ v := .iface 28 (.int .i64 9), recovered := true }] ∧ DoorW w b4 b5 (.slice A n c) (.slice A' n' c') (.int .i64 f) (.bool b) (.slice A1 n1 c1) (.slice A1' n1' c1') (.int .i64 f1) (.bool b1) w' := by
 obtain ⟨⟨p0, p1, p2, p3⟩, q0, q1, q2, q3⟩ := h2.four
 obtain ⟨⟨r0, r1, r2, r3⟩, s0, s1, s2, s3⟩ := h4.four
 obtain ⟨⟨t0, t1, t2, t3⟩, _⟩ := hg.four
 have u0 : w.cell? ⟨b5, 0, none⟩ = some er := h5.cell 0
 have u1 := h5.frozen 0
 have v0 : w.cell? ⟨b6, 0, none⟩ = some (.pointer (some ⟨g, 0, none⟩)) := h6.cell 0
 refine callsD_of_wpS Tryz.func62 rfl fun c₀ cs hu => ?_
 apply wpS_seq
 apply wpS_region
 simp [wpOpsS, go_sem, recoverD, hu, Tryz.ntmps62, Exit.thenS]
 refine wpS_of_wp (Code.wp_mono' (fun e a' w' he => door_end (W := DoorW w b4 b5 (.slice A n c) (.slice A' n' c') (.int .i64 f) (.bool b) (.slice A1 n1 c1) (.slice A1' n1' c1') (.int .i64 f1) (.bool b1)) he ⟨.panicking [{ v := .iface 28 (.int .i64 9), recovered := true }], ?_, fun w2 hw => ⟨rfl, rfl, hw⟩⟩) (Q := fun e a' w' => (e = .normal ∧ a'.defers = []) ∧ DoorW w b4 b5 (.slice A n c) (.slice A' n' c') (.int .i64 f) (.bool b) (.slice A1 n1 c1) (.slice A1' n1' c1') (.int .i64 f1) (.bool b1) w') ?_)
 ·cases c₀; simp_all
 have hfr : (#[Value.pointer (some ⟨b2, 0, none⟩), Value.pointer (some ⟨b4, 0, none⟩), Value.pointer (some ⟨b5, 0, none⟩), Value.pointer (some ⟨b6, 0, none⟩)] ++ (Array.replicate 17 undef).setIfInBounds 3 (Value.iface 28 (.int .i64 9))) = #[Value.pointer (some ⟨b2, 0, none⟩), Value.pointer (some ⟨b4, 0, none⟩), Value.pointer (some ⟨b5, 0, none⟩), Value.pointer (some ⟨b6, 0, none⟩), undef, undef, undef, Value.iface 28 (.int .i64 9), undef, undef, undef, undef, undef, undef, undef, undef, undef, undef, undef, undef, undef] := rfl
 rw [hfr]
 clear hfr hu
 have kta := assert_errno 9
 go_wp2
 exact rfl
theorem load_box4 {w : World} {b : Nat} {A A' : Option Addr} {n c n' c' : Nat} {f : Int} {bb : Bool} (h : Bk w b 27 #[.slice A n c, .slice A' n' c', .int .i64 f, .bool bb]) :
 (loadVar 27 ⟨b, 0, none⟩).run Tryz.prog w = .ok (.agg #[.slice A n c, .slice A' n' c', .int .i64 f, .bool bb]) w := by
 obtain ⟨⟨g0, g1, g2, g3⟩, _⟩ := h.four
 simp [go_sem, g0, g1, g2, g3]
theorem load_box1 {w : World} {b : Nat} {v : Value} (h : Bk w b 28 #[v]) : (loadVar 28 ⟨b, 0, none⟩).run Tryz.prog w = .ok v w := by
 have g0 : w.cell? ⟨b, 0, none⟩ = some v := h.cell 0
 simp [go_sem, g0]
def Writes (w : World) (f : FuncId) (cap : Array Value) (d : Dk) (x : Dk × Int) : Prop :=
 ∀ (W : World) (g : Nat), Below w.heap.size w W → w.heap.size ≤ g → PenIs W g d → Calls Tryz.prog f (#[.pointer (some ⟨g, 0, none⟩)] ++ cap) W (PenRes g x W)
set_option maxRecDepth 20000 in
set_option maxHeartbeats 4000000 in
theorem written_ok (v : Value) (d : Dk) (f : FuncId) (cap : Array Value) (x : Dk × Int) (w : World) (hd : DkAt w w.heap.size v d) (hx : x.2 = 0) (hF : Writes w f cap d x) (hent : ∀ args w, (callFunc f args).run Tryz.prog w = .ok (.enter f args) w) :
 Calls Tryz.prog 33 #[v, .func (.func f) #[] cap] w (DkRes w x) := by
 have hmf : ∀ (fn : Fn) (first cap : Array Value) (w : World), (Instr.makeFunc fn first cap).run Tryz.prog w = .ok (.func fn first cap) w := fun _ _ _ _ => rfl
 obtain ⟨A, n, c, A', n', c', rfl, hr⟩ := hd
 have hd : DkAt w w.heap.size (.agg #[.slice A n c, .slice A' n' c', .int .i64 d.fuse, .bool d.down]) d := ⟨A, n, c, A', n', c', rfl, hr⟩
 clear hr
 have HF := Lib.hid hF
 have HD := Lib.hid hd
 clear hd hF
 go_enter_defers Tryz.func33, Tryz.ntmps33
 go_wp2
 refine calls_over (fun W => Bk W w.heap.size 27 #[.slice A n c, .slice A' n' c', .int .i64 d.fuse, .bool d.down] ∧ Bk W (w.heap.size + 1) 27 #[.slice none 0 0, .slice none 0 0, .int .i64 0, .bool false] ∧ Bk W (w.heap.size + 1 + 1) 28 #[.int .i64 0] ∧ Bk W (w.heap.size + 1 + 1 + 1) 116 #[.slice A n c, .slice A' n' c', .int .i64 d.fuse, .bool d.down] ∧ Bk W (w.heap.size + 1 + 1 + 1 + 1) 82 #[.pointer (some ⟨w.heap.size + 1 + 1 + 1, 0, none⟩)] ∧ Below w.heap.size w W) ⟨?_, ?_, ?_, ?_, ?_, ?_⟩ ?_
 ·exact ((((Bk.new w _ _).alloc _).alloc _).alloc _).alloc _
 ·exact (((Bk.new2 w _ _ _).alloc _).alloc _).alloc _
 ·exact ((Bk.new3 w _ _ _ _).alloc _).alloc _
 ·exact (Bk.new4 w _ _ _ _ _).alloc _
 ·exact Bk.new' _ _ _ _ (by simp)
 ·exact (((((Below.refl w.heap.size w).alloc (Nat.le_refl _) _).alloc (by simp) _).alloc (by simp only [World.size_alloc]; omega) _).alloc (by simp only [World.size_alloc]; omega) _).alloc (by simp only [World.size_alloc]; omega) _
 rintro W ⟨B2, B4, B5, Bg, B6, hb⟩
 refine (HF.out W (w.heap.size + 1 + 1 + 1) hb (by omega) ⟨A, n, c, A', n', c', Bg, HD.out.later hb⟩).mono ?_
 rintro e w1 ⟨he, hp1, hg1⟩
 replace B2 := B2.grown hg1 (fun e => by injection e with e; omega)
 replace B4 := B4.grown hg1 (fun e => by injection e with e; omega)
 replace B5 := B5.grown hg1 (fun e => by injection e with e; omega)
 replace B6 := B6.grown hg1 (fun e => by injection e with e; omega)
 have hb1 : Below w.heap.size w w1 := hb.trans (Below.of_grown hg1 (by omega) hb.size)
 obtain ⟨A1, n1, c1, A1', n1', c1', Bp, hd1⟩ := hp1
 clear hb hg1 Bg
 rw [penE_ok hx] at he
 subst he
 have hf := stored4_facts B4 (.slice A1 n1 c1) (.slice A1' n1' c1') (.int .i64 x.1.fuse) (.bool x.1.down)
 have B5' := hf.2.2.2 _ _ _ (by omega) B5
 have hd2 := hf.2.1 _ _ hd1
 have hd3 := hd2.box B5' (by simp) 0 (.int .i64 0)
 have HB4 := Lib.hid (hf.1.far (p := ⟨w.heap.size + 1 + 1, 0, none⟩) (by simp) (.int .i64 0))
 have HB5 := Lib.hid (B5'.put 0 (.int .i64 0))
 have HBW := Lib.hid ((hf.2.2.1 _ _ hb1 (by omega)).setCell (p := ⟨w.heap.size + 1 + 1, 0, none⟩) (by show w.heap.size ≤ w.heap.size + 1 + 1; omega) (.int .i64 0))
 have HD3 := Lib.hid hd3
 unfold stored4 at HB4 HB5 HBW HD3
 obtain ⟨⟨r0, r1, r2, r3⟩, s0, s1, s2, s3⟩ := B4.four
 obtain ⟨⟨t0, t1, t2, t3⟩, _⟩ := Bp.four
 have u0 : w1.cell? ⟨w.heap.size + 1 + 1, 0, none⟩ = some (.int .i64 0) := B5.cell 0
 have u1 := B5.frozen 0
 have v0 : w1.cell? ⟨w.heap.size + 1 + 1 + 1 + 1, 0, none⟩ = some (.pointer (some ⟨w.heap.size + 1 + 1 + 1, 0, none⟩)) := B6.cell 0
 have hz := B6.lt
 clear hf B5' hd2 hd3 hb1 B2 B4 B5 B6 Bp hd1 HF HD
 go_wp2
 refine leaves_cons (f := 62) (args := #[.pointer (some ⟨w.heap.size, 0, none⟩), .pointer (some ⟨w.heap.size + 1, 0, none⟩), .pointer (some ⟨w.heap.size + 1 + 1, 0, none⟩), .pointer (some ⟨w.heap.size + 1 + 1 + 1 + 1, 0, none⟩)]) (by simp) (by simp [go_sem]) ?_
 refine (door_idle _ _ _ _ _).mono ?_
 rintro e u' w'' ⟨rfl, rfl, rfl⟩
 obtain ⟨⟨g0, g1, g2, g3⟩, _⟩ := HB4.out.four
 refine ⟨.tuple #[.agg #[.slice A1 n1 c1, .slice A1' n1' c1', .int .i64 x.1.fuse, .bool x.1.down], .int .i64 0], ?_, ?_⟩
 ·simp only [results, Tryz.results33]
  have l4 : (loadVar 27 ⟨w.heap.size + 1, 0, none⟩).run Tryz.prog _ = .ok (.agg #[.slice A1 n1 c1, .slice A1' n1' c1', .int .i64 x.1.fuse, .bool x.1.down]) _ := load_box4 HB4.out
  have l5 : (loadVar 28 ⟨w.heap.size + 1 + 1, 0, none⟩).run Tryz.prog _ = .ok (.int .i64 0) _ := load_box1 HB5.out
  exact results_cells2 (fn := Tryz.f33) rfl _ _ ⟨w.heap.size + 1, 0, none⟩ ⟨w.heap.size + 1 + 1, 0, none⟩ _ _ rfl rfl l4 l5
 ·refine ⟨_, by rw [hx], HD3.out.more (by simp), HBW.out⟩
theorem written_fall (v : Value) (d : Dk) (f : FuncId) (cap : Array Value) (x : Dk × Int) (w : World) (hd : DkAt w w.heap.size v d) (hx : x.2 = 9) (hF : Writes w f cap d x) (hent : ∀ args w, (callFunc f args).run Tryz.prog w = .ok (.enter f args) w) :
 Calls Tryz.prog 33 #[v, .func (.func f) #[] cap] w (DkRes w x) := by
 have hmf : ∀ (fn : Fn) (first cap : Array Value) (w : World), (Instr.makeFunc fn first cap).run Tryz.prog w = .ok (.func fn first cap) w := fun _ _ _ _ => rfl
 obtain ⟨A, n, c, A', n', c', rfl, hr⟩ := hd
 have hd : DkAt w w.heap.size (.agg #[.slice A n c, .slice A' n' c', .int .i64 d.fuse, .bool d.down]) d := ⟨A, n, c, A', n', c', rfl, hr⟩
 clear hr
 have HF := Lib.hid hF
 have HD := Lib.hid hd
 clear hd hF
 go_enter_defers Tryz.func33, Tryz.ntmps33
 go_wp2
 refine calls_over (fun W => Bk W w.heap.size 27 #[.slice A n c, .slice A' n' c', .int .i64 d.fuse, .bool d.down] ∧ Bk W (w.heap.size + 1) 27 #[.slice none 0 0, .slice none 0 0, .int .i64 0, .bool false] ∧ Bk W (w.heap.size + 1 + 1) 28 #[.int .i64 0] ∧ Bk W (w.heap.size + 1 + 1 + 1) 116 #[.slice A n c, .slice A' n' c', .int .i64 d.fuse, .bool d.down] ∧ Bk W (w.heap.size + 1 + 1 + 1 + 1) 82 #[.pointer (some ⟨w.heap.size + 1 + 1 + 1, 0, none⟩)] ∧ Below w.heap.size w W) ⟨?_, ?_, ?_, ?_, ?_, ?_⟩ ?_
 ·exact ((((Bk.new w _ _).alloc _).alloc _).alloc _).alloc _
 ·exact (((Bk.new2 w _ _ _).alloc _).alloc _).alloc _
 ·exact ((Bk.new3 w _ _ _ _).alloc _).alloc _
 ·exact (Bk.new4 w _ _ _ _ _).alloc _
 ·exact Bk.new' _ _ _ _ (by simp)
 ·exact (((((Below.refl w.heap.size w).alloc (Nat.le_refl _) _).alloc (by simp) _).alloc (by simp only [World.size_alloc]; omega) _).alloc (by simp only [World.size_alloc]; omega) _).alloc (by simp only [World.size_alloc]; omega) _
 rintro W ⟨B2, B4, B5, Bg, B6, hb⟩
 refine (HF.out W (w.heap.size + 1 + 1 + 1) hb (by omega) ⟨A, n, c, A', n', c', Bg, HD.out.later hb⟩).mono ?_
 rintro e w1 ⟨he, hp1, hg1⟩
 replace B2 := B2.grown hg1 (fun e => by injection e with e; omega)
 replace B4 := B4.grown hg1 (fun e => by injection e with e; omega)
 replace B5 := B5.grown hg1 (fun e => by injection e with e; omega)
 replace B6 := B6.grown hg1 (fun e => by injection e with e; omega)
 have hb1 : Below w.heap.size w w1 := hb.trans (Below.of_grown hg1 (by omega) hb.size)
 obtain ⟨A1, n1, c1, A1', n1', c1', Bp, hd1⟩ := hp1
 clear hb hg1 Bg
 rw [penE_bad (by rw [hx]; decide), hx] at he
 subst he
 have hf := stored4_facts B4 (.slice A n c) (.slice A' n' c') (.int .i64 d.fuse) (.bool d.down)
 have B5' := (hf.2.2.2 _ _ _ (by omega) B5)
 have hd2 := (hf.2.1 _ _ hd1).box B5' (by simp) 0 (.int .i64 9)
 have B4' := hf.1.far (p := ⟨w.heap.size + 1 + 1, 0, none⟩) (by simp) (.int .i64 9)
 have B5'' := B5'.put 0 (.int .i64 9)
 have hbw := (hf.2.2.1 _ _ hb1 (by omega)).setCell (p := ⟨w.heap.size + 1 + 1, 0, none⟩) (by show w.heap.size ≤ w.heap.size + 1 + 1; omega) (.int .i64 9)
 have hsz : (((stored4 w1 (w.heap.size + 1) (.slice A n c) (.slice A' n' c') (.int .i64 d.fuse) (.bool d.down))).setCell ⟨w.heap.size + 1 + 1, 0, none⟩ (.int .i64 9)).heap.size = w1.heap.size := by unfold stored4; simp
 have hsz0 : (stored4 w1 (w.heap.size + 1) (.slice A n c) (.slice A' n' c') (.int .i64 d.fuse) (.bool d.down)).heap.size = w1.heap.size := by unfold stored4; simp
 rw [hsz0, ← hsz] at hd2
 have hf2 := stored4_facts B4' (.slice A1 n1 c1) (.slice A1' n1' c1') (.int .i64 x.1.fuse) (.bool x.1.down)
 have HB4 := Lib.hid hf2.1
 have HB5 := Lib.hid (hf2.2.2.2 _ _ _ (by omega) B5'')
 have HBW := Lib.hid (hf2.2.2.1 _ _ hbw (by omega))
 have HD3 := Lib.hid (hf2.2.1 _ _ hd2)
 have HDO := Lib.hid (door_fall (w.heap.size) (w.heap.size + 1) (w.heap.size + 1 + 1) (w.heap.size + 1 + 1 + 1 + 1) (w.heap.size + 1 + 1 + 1) w1 A A' A1 A1' n c n' c' n1 c1 n1' c1' d.fuse x.1.fuse d.down x.1.down _ _ _ _ _ B2 B4 B5 B6 Bp (by omega) (by omega) (by omega) (by omega) (by omega) (by omega))
 clear hf B5' hd2 B4' B5'' hbw hf2 hb1 B2 B4 B5 B6 Bp hd1 HF HD hsz hsz0
 go_wp2
 refine leaves_cons (f := 62) (args := #[.pointer (some ⟨w.heap.size, 0, none⟩), .pointer (some ⟨w.heap.size + 1, 0, none⟩), .pointer (some ⟨w.heap.size + 1 + 1, 0, none⟩), .pointer (some ⟨w.heap.size + 1 + 1 + 1 + 1, 0, none⟩)]) (by simp) (by simp [go_sem]) ?_
 refine HDO.out.mono ?_
 rintro e u' w'' ⟨rfl, rfl, hw⟩
 unfold DoorW at hw
 subst hw
 obtain ⟨⟨g0, g1, g2, g3⟩, _⟩ := HB4.out.four
 refine ⟨.tuple #[.agg #[.slice A1 n1 c1, .slice A1' n1' c1', .int .i64 x.1.fuse, .bool x.1.down], .int .i64 9], ?_, ?_⟩
 ·simp only [results, Tryz.results33]
  have l4 : (loadVar 27 ⟨w.heap.size + 1, 0, none⟩).run Tryz.prog _ = .ok (.agg #[.slice A1 n1 c1, .slice A1' n1' c1', .int .i64 x.1.fuse, .bool x.1.down]) _ := load_box4 HB4.out
  have l5 : (loadVar 28 ⟨w.heap.size + 1 + 1, 0, none⟩).run Tryz.prog _ = .ok (.int .i64 9) _ := load_box1 HB5.out
  exact results_cells2 (fn := Tryz.f33) rfl _ _ ⟨w.heap.size + 1, 0, none⟩ ⟨w.heap.size + 1 + 1, 0, none⟩ _ _ rfl rfl l4 l5
 ·refine ⟨_, by rw [hx], HD3.out, HBW.out⟩
theorem written_any (v : Value) (d : Dk) (f : FuncId) (cap : Array Value) (x : Dk × Int) (w : World) (hd : DkAt w w.heap.size v d) (hx : x.2 = 0 ∨ x.2 = 9) (hF : Writes w f cap d x) (hent : ∀ args w, (callFunc f args).run Tryz.prog w = .ok (.enter f args) w) :
 Calls Tryz.prog 33 #[v, .func (.func f) #[] cap] w (DkRes w x) := by
 rcases hx with hx | hx
 ·exact written_ok v d f cap x w hd hx hF hent
 ·exact written_fall v d f cap x w hd hx hF hent
end Go.Proofs.YtcdehejgnnnimaaGreatDoor
namespace Go.Proofs.YtcdehejgnnnimaaGreatDoor
open List renaming setIfInBounds_toArray → jA, set_cons_zero → jB, set_cons_succ → jC
set_option linter.unusedVariables false
set_option linter.unusedSimpArgs false
open Go.RowKit
theorem Bk.two {w : World} {b : Nat} {t : TypeId} {v0 v1 : Value} (h : Bk w b t #[v0, v1]) : w.cell? ⟨b, 0, none⟩ = some v0 ∧ w.cell? ⟨b, 1, none⟩ = some v1 := ⟨h.cell 0, h.cell 1⟩
theorem Bk.one {w : World} {b : Nat} {t : TypeId} {v0 : Value} (h : Bk w b t #[v0]) : w.cell? ⟨b, 0, none⟩ = some v0 := h.cell 0
def logV (h g u k : Int) : Array Value := #[.int .i64 h, .int .i64 g, .int .i64 u, .int .i64 k]
set_option maxRecDepth 20000 in
set_option maxHeartbeats 1000000 in
theorem writes_compact (w : World) (d : Dk) (bh bl bL o size gen : Nat) (h u k : Int) (A : Option Addr) (n c : Nat) (L : List (List Nat)) (hh : Bk w bh 79 #[.int .i64 (o : Int), .int .i64 (size : Int)]) (hl : Bk w bl 32 (logV h gen u k))
 (hbL : Bk w bL 57 #[.slice A n c]) (hL : Rss w w.heap.size A n L) (ht : Tab w) (hok : ∀ b ∈ L, okR b) (hne : 0 < n) (hn : n ≤ 4096) (ho : o ≤ 4096) (hsz : size ≤ 4096) (hgen : gen ≤ 4611686018427387904) :
 Writes w 49 #[.pointer (some ⟨bh, 0, none⟩), .pointer (some ⟨bl, 0, none⟩), .pointer (some ⟨bL, 0, none⟩)] d (runM d (layD o size gen L)) := by
 intro W g hb hg hp
 obtain ⟨p0, p1⟩ := (hh.below hb hh.lt).two
 obtain ⟨⟨q0, q1, q2, q3⟩, _⟩ := Bk.four (show Bk W bl 32 #[.int .i64 h, .int .i64 (gen : Int), .int .i64 u, .int .i64 k] from hl.below hb hl.lt)
 have r0 := (hbL.below hb hbL.lt).one
 have hL2 := (hL.below hb (Nat.le_refl _)).more hg
 have ht2 := ht.below hb ht.pos
 have hpos := ht.pos
 show Calls Tryz.prog 49 #[.pointer (some ⟨g, 0, none⟩), .pointer (some ⟨bh, 0, none⟩), .pointer (some ⟨bl, 0, none⟩), .pointer (some ⟨bL, 0, none⟩)] W _
 clear hh hl hbL hL ht hb
 go_enter Tryz.func49, Tryz.ntmps49
 go_wp2_with fail
 refine (penlay_any g d o size gen A n c L W hp hL2 ht2 (by omega) hok hne hn ho hsz hgen).mono ?_
 rintro e w1 hr
 generalize runM d (layD o size gen L) = x at *
 have HR := Lib.hid hr
 have he := hr.1
 by_cases h0 : x.2 = 0
 ·rw [penE_ok h0] at he
  subst he
  clear hr h0
  go_wp2
  go_end0
  exact HR.out
 ·rw [penE_bad h0] at he
  subst he
  clear hr h0
  go_wp2
  exact ⟨rfl, HR.out⟩
set_option maxRecDepth 20000 in
set_option maxHeartbeats 1000000 in
theorem writes_format (w : World) (d : Dk) (bh bL size : Nat) (A : Option Addr) (n c : Nat) (L : List (List Nat)) (hh : Bk w bh 79 #[.int .i64 0, .int .i64 (size : Int)])
 (hbL : Bk w bL 57 #[.slice A n c]) (hL : Rss w w.heap.size A n L) (ht : Tab w) (hok : ∀ b ∈ L, okR b) (hne : 0 < n) (hn : n ≤ 4096) (hsz : size ≤ 4096) :
 Writes w 34 #[.pointer (some ⟨bh, 0, none⟩), .pointer (some ⟨bL, 0, none⟩)] d (runM d (formD size L)) := by
 intro W g hb hg hp
 have hh2 := hh.below hb hh.lt
 have hb2 := hbL.below hb hbL.lt
 obtain ⟨p0, p1⟩ := hh2.two
 have r0 := hb2.one
 have hL2 := (hL.below hb (Nat.le_refl _)).more hg
 have ht2 := ht.below hb ht.pos
 have hpos := ht.pos
 have hbg : bh < g := by have := hh.lt; omega
 have hLg : bL < g := by have := hbL.lt; omega
 have hgW := hp.lt
 have hform : formD size L = [.put size zsec] ++ layD 0 size 1 L := rfl
 have HFORM := Lib.hid hform
 have HA := Lib.hid (At.start hp)
 have HH := Lib.hid hh2
 have HBL := Lib.hid hb2
 show Calls Tryz.prog 34 #[.pointer (some ⟨g, 0, none⟩), .pointer (some ⟨bh, 0, none⟩), .pointer (some ⟨bL, 0, none⟩)] W _
 clear hh hbL hL ht hb hform hh2 hb2 hp
 go_enter Tryz.func34, Tryz.ntmps34
 go_wp2_with ((with_reducible show wpList _ _ _ (⟨some 7, _, _, _, _, _⟩ :: _) _ _); refine hold ?_)
 refine held (wpList_build_to rfl 84 #[] rfl [] rfl (secv zsec).toArray built_zero ?_)
 go_wp2_with fail
 refine (pput_any g d (size : Int) zsec W HA.out.2.1 rfl).mono ?_
 rintro e w1 hr
 have hgr := hr.2.2
 have hr2 := HA.out.put hr
 rw [List.nil_append] at hr2
 have h1 := HH.out.grown hgr (fun e => by injection e with e; omega)
 have h2 := HBL.out.grown hgr (fun e => by injection e with e; omega)
 have hL3 := hL2.below (Below.of_grown (B := g) hgr (Nat.le_refl _) (Nat.le_of_lt hgW)) (Nat.le_refl _)
 have ht3 := ht2.grown hgr (by omega)
 clear p0 p1 r0 hr hgr HH HBL HA hL2 ht2
 obtain ⟨p0, p1⟩ := h1.two
 have r0 := h2.one
 by_cases h0 : (runM d [.put size zsec]).2 = 0
 ·obtain ⟨rfl, hat⟩ := At.of hr2 h0
  have HA := Lib.hid hat
  clear hr2 h0 hat h1 h2
  go_wp2_with fail
  refine (penlay_any g _ 0 size 1 A n c L w1 HA.out.2.1 hL3 ht3 (by omega) hok hne hn (by omega) hsz (by omega)).mono ?_
  rintro e w2 hr
  have hr2 := HA.out.more hr
  rw [← HFORM.out] at hr2
  clear HFORM
  generalize formD size L = D at *
  have HR := Lib.hid hr2
  have he := hr2.1
  generalize runM d D = x at *
  by_cases h0 : x.2 = 0
  ·rw [penE_ok h0] at he
   subst he
   clear hr hr2 h0
   go_wp2
   go_end0
   exact HR.out
  ·rw [penE_bad h0] at he
   subst he
   clear hr hr2 h0
   go_wp2
   exact ⟨rfl, HR.out⟩
 ·obtain ⟨he, hall⟩ := hr2.bad h0
  have HALL := Lib.hid hall
  generalize runM d [.put size zsec] = X at *
  subst he
  clear hr2 h0 hall h1 h2 hL3 ht3
  go_wp2
  refine ⟨rfl, ?_⟩
  rw [HFORM.out]
  exact HALL.out _
set_option maxRecDepth 20000 in
set_option maxHeartbeats 4000000 in
theorem writes_append (w : World) (d : Dk) (ba bb bl a gen k : Nat) (h u : Int) (A : Option Addr) (n c : Nat) (b : List Nat) (ha : Bk w ba 3 #[.int .i64 (a : Int)]) (hbb : Bk w bb 63 #[.slice A n c])
 (hl : Bk w bl 32 (logV h gen u k)) (hby : Bytes w w.heap.size A n b) (hnc : n ≤ c) (hc : c ≤ maxLen) (ht : Tab w) (hn : n ≤ 6000) (ha9 : a ≤ 900000) (hgen : gen ≤ 4611686018427387904) (hk : k ≤ 4611686018427387904) :
 Writes w 44 #[.pointer (some ⟨ba, 0, none⟩), .pointer (some ⟨bb, 0, none⟩), .pointer (some ⟨bl, 0, none⟩)] d (runM d (appD a gen k b)) := by
 intro W g hb hg hp
 have ha2 := ha.below hb ha.lt
 have hb2 := hbb.below hb hbb.lt
 have hl2 : Bk W bl 32 #[.int .i64 h, .int .i64 (gen : Int), .int .i64 u, .int .i64 (k : Int)] := hl.below hb hl.lt
 have hby2 := (hby.below hb (Nat.le_refl _)).more hg
 have ht2 := ht.below hb ht.pos
 have hpos := ht.pos
 have hag : ba < g := by have := ha.lt; omega
 have hbg : bb < g := by have := hbb.lt; omega
 have hlg : bl < g := by have := hl.lt; omega
 have hgW := hp.lt
 have hlen : b.length = n := hby.1
 have hms : moreC 0 b < 4294967296 := moreC_lt _ (by omega) hby.2.1
 have HML : Hid (secN (markN gen k n (moreC 0 b)) = markL gen k b) := Lib.hid (by rw [markL, hlen])
 have HD : Hid (appD a gen k b = putsD (a + 1) (bodyL b) ++ [.flush] ++ [.put a (markL gen k b)] ++ [.flush]) := Lib.hid (by unfold appD; simp)
 have HA := Lib.hid (At.start hp)
 have p0 := ha2.one
 have r0 := hb2.one
 show Calls Tryz.prog 44 #[.pointer (some ⟨g, 0, none⟩), .pointer (some ⟨ba, 0, none⟩), .pointer (some ⟨bb, 0, none⟩), .pointer (some ⟨bl, 0, none⟩)] W _
 have HA2 := Lib.hid ha2; have HB2 := Lib.hid hb2; have HL2 := Lib.hid hl2; have HBY := Lib.hid hby2; have HT := Lib.hid ht2
 clear ha hbb hl hby ht hb hp ha2 hb2 hl2 hby2 ht2 hlen
 go_enter Tryz.func44, Tryz.ntmps44
 go_wp2_with fail
 refine (putBytes_at g d (a + 1) ((a : Int) + 1) (by omega) A n c b W HA.out.2.1 HBY.out hnc hc hn (by omega)).mono ?_
 rintro e w1 hr
 have hgr := hr.2.2
 have hr2 := HA.out.more hr
 rw [List.nil_append] at hr2
 replace HA2 := Lib.hid (HA2.out.grown hgr (fun e => by injection e with e; omega))
 replace HB2 := Lib.hid (HB2.out.grown hgr (fun e => by injection e with e; omega))
 replace HL2 := Lib.hid (HL2.out.grown hgr (fun e => by injection e with e; omega))
 replace HBY := Lib.hid (HBY.out.below (Below.of_grown (B := g) hgr (Nat.le_refl _) (Nat.le_of_lt hgW)) (Nat.le_refl _))
 replace HT := Lib.hid (HT.out.grown hgr (by omega))
 clear p0 r0 hr hgr HA
 generalize hP1 : putsD (a + 1) (bodyL b) = P1 at *
 have HP1 := Lib.hid hP1
 clear hP1
 by_cases h0 : (runM d P1).2 = 0
 ·obtain ⟨rfl, hat⟩ := At.of hr2 h0
  have HA := Lib.hid hat
  have hgw1 := hat.lt
  clear hr2 h0 hat
  go_wp2_with fail
  refine (pflush_any g _ w1 HA.out.2.1).mono ?_
  rintro e w2 hr
  have hgr := hr.2.2
  have hr2 := HA.out.flush hr
  replace HA2 := Lib.hid (HA2.out.grown hgr (fun e => by injection e with e; omega))
  replace HB2 := Lib.hid (HB2.out.grown hgr (fun e => by injection e with e; omega))
  replace HL2 := Lib.hid (HL2.out.grown hgr (fun e => by injection e with e; omega))
  replace HBY := Lib.hid (HBY.out.below (Below.of_grown (B := g) hgr (Nat.le_refl _) (Nat.le_of_lt hgw1)) (Nat.le_refl _))
  replace HT := Lib.hid (HT.out.grown hgr (by omega))
  clear hr hgr HA
  generalize hP2 : P1 ++ [.flush] = P2 at *
  have HP2 := Lib.hid hP2
  clear hP2
  by_cases h0 : (runM d P2).2 = 0
  ·obtain ⟨rfl, hat⟩ := At.of hr2 h0
   have HA := Lib.hid hat
   have hgw2 := hat.lt
   clear hr2 h0 hat
   go_wp2_with fail
   have hm : Tryz.prog.follows .mixedOrders = true := by kernel_rfl
   refine wp_region_held_drew (S := fun W' => Bk W' ba 3 #[.int .i64 (a : Int)] ∧ Bk W' bb 63 #[.slice A n c] ∧ Bk W' bl 32 #[.int .i64 h, .int .i64 (gen : Int), .int .i64 u, .int .i64 (k : Int)]) hm ⟨HA2.out.drew, HB2.out.drew, HL2.out.drew⟩ (fun hHeld => ?_)
   have HA3 := Lib.hid (HA.out.below ((Below.refl _ _).drew))
   have HBY3 := Lib.hid (HBY.out.below ((Below.refl w2.heap.size w2).drew) (Nat.le_of_lt HA.out.lt))
   have HT3 := Lib.hid (HT.out.below ((Below.refl w2.heap.size w2).drew) HT.out.pos)
   generalize w2.drew = W3 at *
   clear HA2 HB2 HL2 HBY HT HA
   simp only [List.size_toArray, List.length_cons, List.length_nil, Nat.reduceAdd]
   refine wpAnyH_take (i := 0) (v := .pointer (some ⟨g, 0, none⟩)) rfl (by kernel_rfl) (by kernel_rfl) (by kernel_rfl) (fun _ _ _ h => h) (Or.inl ⟨by rfl, fun w0 hC => by simp [execOp, Act.eval, Act.put, go_sem]⟩) hHeld ?_
   try simp only [Act.put, jA, jB, jC]
   refine wpAnyH_take (i := 1) (v := .int .i64 (a : Int)) rfl (by kernel_rfl) (by kernel_rfl) (by kernel_rfl) (fun _ _ _ h => h) (Or.inl ⟨by rfl, fun w0 hC => by simp [execOp, Act.eval, Act.put, go_sem, hC.1.one]⟩) hHeld ?_
   try simp only [Act.put, jA, jB, jC]
   refine wpAnyH_take (i := 2) (v := .pointer (some ⟨bl, 1, none⟩)) rfl (by kernel_rfl) (by kernel_rfl) (by kernel_rfl) (fun _ _ _ h => h) (Or.inl ⟨by rfl, fun w0 hC => by simp [execOp, Act.eval, Act.put, go_sem]⟩) hHeld ?_
   try simp only [Act.put, jA, jB, jC]
   refine wpAnyH_take (i := 3) (v := .int .i64 (gen : Int)) rfl (by kernel_rfl) (by kernel_rfl) (by kernel_rfl) (fun _ _ _ h => h) (Or.inl ⟨by rfl, fun w0 hC => by simp [execOp, Act.eval, Act.put, go_sem, hC.2.2.four.1.2.1]⟩) hHeld ?_
   try simp only [Act.put, jA, jB, jC]
   refine wpAnyH_take (i := 4) (v := .pointer (some ⟨bl, 3, none⟩)) rfl (by kernel_rfl) (by kernel_rfl) (by kernel_rfl) (fun _ _ _ h => h) (Or.inl ⟨by rfl, fun w0 hC => by simp [execOp, Act.eval, Act.put, go_sem]⟩) hHeld ?_
   try simp only [Act.put, jA, jB, jC]
   refine wpAnyH_take (i := 5) (v := .int .i64 (k : Int)) rfl (by kernel_rfl) (by kernel_rfl) (by kernel_rfl) (fun _ _ _ h => h) (Or.inl ⟨by rfl, fun w0 hC => by simp [execOp, Act.eval, Act.put, go_sem, hC.2.2.four.1.2.2.2]⟩) hHeld ?_
   try simp only [Act.put, jA, jB, jC]
   refine wpAnyH_take (i := 6) (v := .slice A n c) rfl (by kernel_rfl) (by kernel_rfl) (by kernel_rfl) (fun _ _ _ h => h) (Or.inl ⟨by rfl, fun w0 hC => by simp [execOp, Act.eval, Act.put, go_sem, hC.2.1.one]⟩) hHeld ?_
   try simp only [Act.put, jA, jB, jC]
   refine wpAnyH_ready (rs := [7]) (by kernel_rfl) (by simp) (AllReadyH.cons rfl (fun K hK => ?_) AllReadyH.nil)
   rw [if_pos (by rfl)]
   go_wp2_with fail
   refine (markOf_any gen k A n c b W3 (HBY3.out.more (Nat.le_of_lt HA3.out.lt)) (by omega) HT3.out).mono ?_
   rintro e w4 ⟨rfl, hb4⟩
   have HA4 := Lib.hid (HA3.out.below hb4)
   have hS : _ ∧ _ ∧ _ := And.intro (hHeld.1.below hb4 hHeld.1.lt) (And.intro (hHeld.2.1.below hb4 hHeld.2.1.lt) (hHeld.2.2.below hb4 hHeld.2.2.lt))
   generalize moreC 0 b = sm at *
   clear hb4 HA3 HBY3 HT3
   refine hK.out _ _ hS (fun hHeld => ?_)
   clear hK K
   try simp only [Act.put, jA, jB, jC]
   clear hS
   refine wpAnyH_ready (rs := [8]) (by kernel_rfl) (by simp) (AllReadyH.cons rfl (fun K hK => ?_) AllReadyH.nil)
   rw [if_pos (by rfl)]
   go_wp2_with fail
   refine (sector_any gen k n sm w4 hgen hk (by omega) (by omega)).mono ?_
   rintro e w5 ⟨rfl, hb5⟩
   have HA5 := Lib.hid (HA4.out.below hb5)
   have hS : _ ∧ _ ∧ _ := And.intro (hHeld.1.below hb5 hHeld.1.lt) (And.intro (hHeld.2.1.below hb5 hHeld.2.1.lt) (hHeld.2.2.below hb5 hHeld.2.2.lt))
   rw [HML.out]
   clear hb5 HA4 HML
   refine hK.out _ _ hS (fun hHeld => ?_)
   clear hK K
   try simp only [Act.put, jA, jB, jC]
   clear hS
   refine wpAnyH_ready (rs := [9]) (by kernel_rfl) (by simp) (AllReadyH.cons rfl (fun K hK => ?_) AllReadyH.nil)
   rw [if_pos (by rfl)]
   go_wp2_with fail
   refine (pput_any g _ (a : Int) (markL gen k b) w5 HA5.out.2.1 (markL_length _ _ _)).mono ?_
   rintro e w6 hr
   have hgr := hr.2.2
   have hr2 := HA5.out.put hr
   have hS : _ ∧ _ ∧ _ := And.intro (hHeld.1.grown hgr (fun e => by injection e with e; omega)) (And.intro (hHeld.2.1.grown hgr (fun e => by injection e with e; omega)) (hHeld.2.2.grown hgr (fun e => by injection e with e; omega)))
   clear hr hgr HA5
   have HD3 : Hid (appD a gen k b = (P2 ++ [.put a (markL gen k b)]) ++ [.flush]) := Lib.hid HD.out
   clear HD HP1 HP2
   generalize P2 ++ [.put a (markL gen k b)] = P3 at *
   by_cases h3 : (runM d P3).2 = 0
   ·obtain ⟨rfl, hat3⟩ := At.of hr2 h3
    have HA6 := Lib.hid hat3
    clear hr2 h3 hat3
    refine hK.out _ _ hS (fun hHeld => ?_)
    clear hK K
    try simp only [Act.put, jA, jB, jC]
    clear hS
    refine wpAnyH_done (by kernel_rfl) ?_ _
    clear hHeld
    go_wp2_with fail
    refine (pflush_any g _ w6 HA6.out.2.1).mono ?_
    rintro e w7 hr
    have hr2 := HA6.out.flush hr
    rw [← HD3.out] at hr2
    clear hr HA6
    generalize appD a gen k b = PD at *
    have HR := Lib.hid hr2
    have he := hr2.1
    generalize runM d PD = X at *
    by_cases h4 : X.2 = 0
    ·rw [penE_ok h4] at he
     subst he
     clear hr2 h4
     go_wp2
     go_end0
     exact HR.out
    ·rw [penE_bad h4] at he
     subst he
     clear hr2 h4
     go_wp2
     exact ⟨rfl, HR.out⟩
   ·obtain ⟨he, hall⟩ := hr2.bad h3
    have HALL := Lib.hid hall
    generalize runM d P3 = X at *
    subst he
    clear hr2 h3 hall hS
    go_wp2
    refine ⟨rfl, ?_⟩
    rw [HD3.out]
    exact HALL.out _
  ·obtain ⟨he, hall⟩ := hr2.bad h0
   have HALL := Lib.hid hall
   have HD2 : Hid (appD a gen k b = P2 ++ ([.put a (markL gen k b)] ++ [.flush])) := Lib.hid (by rw [HD.out]; simp)
   clear HD
   generalize runM d P2 = X at *
   subst he
   clear hr2 h0 hall
   go_wp2
   refine ⟨rfl, ?_⟩
   rw [HD2.out]
   exact HALL.out _
 ·obtain ⟨he, hall⟩ := hr2.bad h0
  have HALL := Lib.hid hall
  have HD2 : Hid (appD a gen k b = P1 ++ ([.flush] ++ [.put a (markL gen k b)] ++ [.flush])) := Lib.hid (by rw [HD.out]; simp)
  clear HD
  generalize runM d P1 = X at *
  subst he
  clear hr2 h0 hall
  go_wp2
  refine ⟨rfl, ?_⟩
  rw [HD2.out]
  exact HALL.out _
end Go.Proofs.YtcdehejgnnnimaaGreatDoor
namespace Go.Proofs.YtcdehejgnnnimaaGreatDoor
open List renaming setIfInBounds_toArray → jA, set_cons_zero → jB, set_cons_succ → jC
set_option linter.unusedVariables false
set_option linter.unusedSimpArgs false
open Go.RowKit
section
variable {P : Program} {ops : Array Oper} {C : World → Prop} {Q : Act → Prop} {a : Act} {o : Oper} {rest : List Oper}
theorem quiet_val {v : Value} (hw : Region.wanted o (yielded ops a.tmps) = true) (h : ∀ w, C w → (execOp a.eval o).run P w = .ok (.value v) w) (hn : wpQuiet P ops C Q rest (a.put o.dst v)) : wpQuiet P ops C Q (o :: rest) a := by
 unfold wpQuiet
 rw [if_pos hw]
 exact ⟨v, fun w hC => by unfold Oper.quietAt; rw [h w hC]; exact ⟨rfl, rfl⟩, hn⟩
theorem quiet_skip (hw : Region.wanted o (yielded ops a.tmps) = false) (hn : wpQuiet P ops C Q rest (a.put o.dst undef)) : wpQuiet P ops C Q (o :: rest) a := by
 unfold wpQuiet
 rw [if_neg (by rw [hw]; decide)]
 exact hn
theorem quiet_call {v : Value} {f : FuncId} {args : Array Value} (hw : Region.wanted o (yielded ops a.tmps) = true) (h : ∀ w, C w → (execOp a.eval o).run P w = .ok (.enter f args) w)
 (hc : ∀ w, C w → Calls P f args w fun e w'' => e = .returned v ∧ C w'') (hn : wpQuiet P ops C Q rest (a.put o.dst v)) : wpQuiet P ops C Q (o :: rest) a := by
 unfold wpQuiet
 rw [if_pos hw]
 exact ⟨v, fun w hC => by unfold Oper.quietAt; rw [h w hC]; exact ⟨rfl, hc w hC⟩, hn⟩
theorem exec_fn {w : World} {ρ : Operand → Value} {f : FuncId} {xs : Array Operand} {ts : Array TypeId} {args : Array Value} (ho : o.op = .call { callee := .value (.func f), args := xs, argTypes := ts }) (hf : ρ (.func f) = .func (.func f) #[] #[]) (ha : xs.map ρ = args) (he : (callFunc f args).run P w = .ok (.enter f args) w) : (execOp ρ o).run P w = .ok (.enter f args) w := by
 subst ha
 unfold execOp
 simp [ho, hf, resolve, invoke, Deferred.ofValue, go_sem, he]
end
set_option maxRecDepth 20000 in
theorem field_size (a b : Int) (w : World) : (Instr.field 79 (.agg #[.int .i64 a, .int .i64 b]) 1).run Tryz.prog w = .ok (.int .i64 b) w := by rfl
set_option maxRecDepth 20000 in
theorem field_from (a b : Int) (w : World) : (Instr.field 79 (.agg #[.int .i64 a, .int .i64 b]) 0).run Tryz.prog w = .ok (.int .i64 a) w := by rfl
theorem exec_size {o : Oper} {ρ : Operand → Value} {x : Operand} (ho : o.op = .field 79 x 1) {a b : Nat} (hx : ρ x = halfV a b) (w : World) : (execOp ρ o).run Tryz.prog w = .ok (.value (.int .i64 (b : Int))) w := by
 unfold execOp
 simp only [ho, hx, halfV]
 have := field_size (a : Int) (b : Int) w
 simp [this]
set_option maxRecDepth 20000 in
set_option maxHeartbeats 4000000 in
theorem right_0 (v : Value) (d : Dk) (g u k : Int) (w : World) (hd : DkAt w w.heap.size v d) (hr : rightB d = true) (hg1 : 1 ≤ g) (hg2 : g ≤ 1099511627776) (hu2 : 2 ≤ u) (hus : u ≤ ((d.secs.length / 2 : Nat) : Int)) (hk1 : 1 ≤ k) (hku : k ≤ u) :
 Calls Tryz.prog 39 #[v, .agg #[.int .i64 0, .int .i64 g, .int .i64 u, .int .i64 k]] w fun e w' => e = .returned (.bool true) ∧ Below w.heap.size w w' := by
 obtain ⟨A, n, c, A', n', c', rfl, hx⟩ := hd
 have HD := Lib.hid (show DkAt w w.heap.size (.agg #[.slice A n c, .slice A' n' c', .int .i64 d.fuse, .bool d.down]) d from ⟨A, n, c, A', n', c', rfl, hx⟩)
 have hsl : d.secs.length ≤ 4096 := (rightB_of.1 hr).1
 have HR := Lib.hid hr
 have HG : Hid ((decide (1 ≤ g) && decide (g ≤ 1099511627776)) = true) := Lib.hid (by simp [hg1, hg2])
 clear hx hr hg1 hg2
 go_enter Tryz.func39, Tryz.ntmps39
 go_wp2_with fail
 have hm : Tryz.prog.follows .mixedOrders = true := by kernel_rfl
 have e31 : ∀ args w, (callFunc 31 args).run Tryz.prog w = .ok (.enter 31 args) w := enters_of Tryz.func31 (by kernel_rfl) rfl
 have e38 : ∀ args w, (callFunc 67 args).run Tryz.prog w = .ok (.enter 67 args) w := enters_of Tryz.func67 (by kernel_rfl) rfl
 have e37 : ∀ args w, (callFunc 32 args).run Tryz.prog w = .ok (.enter 32 args) w := enters_of Tryz.func32 (by kernel_rfl) rfl
 have b0 : Bk ((w.alloc (.cells #[.slice A n c, .slice A' n' c', .int .i64 d.fuse, .bool d.down] 27)).alloc (.cells #[.int .i64 0, .int .i64 g, .int .i64 u, .int .i64 k] 32)) w.heap.size 27 _ := (Bk.new w _ _).alloc _
 have b1 : Bk ((w.alloc (.cells #[.slice A n c, .slice A' n' c', .int .i64 d.fuse, .bool d.down] 27)).alloc (.cells #[.int .i64 0, .int .i64 g, .int .i64 u, .int .i64 k] 32)) (w.heap.size + 1) 32 _ := Bk.new2 w _ _ _
 have HB0 : Hid (Below w.heap.size w ((w.alloc (.cells #[.slice A n c, .slice A' n' c', .int .i64 d.fuse, .bool d.down] 27)).alloc (.cells #[.int .i64 0, .int .i64 g, .int .i64 u, .int .i64 k] 32))) := Lib.hid (((Below.refl _ _).alloc (Nat.le_refl _) _).alloc (by simp) _)
 generalize (w.alloc (.cells #[.slice A n c, .slice A' n' c', .int .i64 d.fuse, .bool d.down] 27)).alloc (.cells #[.int .i64 0, .int .i64 g, .int .i64 u, .int .i64 k] 32) = W at *
 have HBD := Lib.hid b0; have HBL := Lib.hid b1
 have hld := b0.lt; have hll := b1.lt
 clear b0 b1
 refine wp_region_quiet (C := fun W' => Below W.heap.size W W') hm (by kernel_rfl) (show Below W.heap.size W W.drew from (Below.refl _ _).drew) ?_
 refine quiet_val (v := (.agg #[.slice A n c, .slice A' n' c', .int .i64 d.fuse, .bool d.down])) (by rfl) (fun W' hC => by have := (HBD.out.below hC hld).four.1; simp [execOp, Act.eval, Act.put, go_sem, this.1, this.2.1, this.2.2.1, this.2.2.2]) ?_
 simp only [Act.put, jA, jB, jC]
 refine quiet_call (v := .bool true) (f := 31) (args := #[(.agg #[.slice A n c, .slice A' n' c', .int .i64 d.fuse, .bool d.down])]) (by rfl) (fun W' hC => exec_fn rfl rfl (by simp [Act.eval]) (e31 _ _)) (fun W' hC => (right_any _ d W' (HD.out.later (HB0.out.trans (hC.mono HB0.out.size)))).mono (fun _ _ hh => ⟨by rw [hh.1, HR.out], hC.trans (hh.2.mono hC.size)⟩)) ?_
 simp only [Act.put, jA, jB, jC]
 refine quiet_val (v := .bool true) (by rfl) (fun W' hC => by simp [execOp, Act.eval, Act.put, go_sem]) ?_
 simp only [Act.put, jA, jB, jC]
 refine quiet_val (v := .pointer (some ⟨w.heap.size + 1, 0, none⟩)) (by rfl) (fun W' hC => by simp [execOp, Act.eval, Act.put, go_sem]) ?_
 simp only [Act.put, jA, jB, jC]
 refine quiet_val (v := .int .i64 0) (by rfl) (fun W' hC => by have := (HBL.out.below hC hll).four.1; simp [execOp, Act.eval, Act.put, go_sem, this.1]) ?_
 simp only [Act.put, jA, jB, jC]
 refine quiet_val (v := .bool true) (by rfl) (fun W' hC => by simp [execOp, Act.eval, Act.put, go_sem]) ?_
 simp only [Act.put, jA, jB, jC]
 refine quiet_val (v := .bool true) (by rfl) (fun W' hC => by simp [execOp, Act.eval, Act.put, go_sem]) ?_
 simp only [Act.put, jA, jB, jC]
 refine quiet_skip (by rfl) ?_
 simp only [Act.put, jA, jB, jC]
 refine quiet_skip (by rfl) ?_
 simp only [Act.put, jA, jB, jC]
 refine quiet_skip (by rfl) ?_
 simp only [Act.put, jA, jB, jC]
 refine quiet_val (v := .bool true) (by rfl) (fun W' hC => by simp [execOp, Act.eval, Act.put, go_sem]) ?_
 simp only [Act.put, jA, jB, jC]
 refine quiet_val (v := .bool true) (by rfl) (fun W' hC => by simp [execOp, Act.eval, Act.put, go_sem]) ?_
 simp only [Act.put, jA, jB, jC]
 refine quiet_val (v := .bool true) (by rfl) (fun W' hC => by simp [execOp, Act.eval, Act.put, go_sem]) ?_
 simp only [Act.put, jA, jB, jC]
 refine quiet_val (v := .pointer (some ⟨w.heap.size + 1, 1, none⟩)) (by rfl) (fun W' hC => by simp [execOp, Act.eval, Act.put, go_sem]) ?_
 simp only [Act.put, jA, jB, jC]
 refine quiet_val (v := .int .i64 g) (by rfl) (fun W' hC => by have := (HBL.out.below hC hll).four.1; simp [execOp, Act.eval, Act.put, go_sem, this.2.1]) ?_
 simp only [Act.put, jA, jB, jC]
 refine quiet_call (v := .bool true) (f := 67) (args := #[.int .i64 g]) (by rfl) (fun W' hC => exec_fn rfl rfl (by simp [Act.eval]) (e38 _ _)) (fun W' hC => (genMay_any g W').mono (fun _ _ hh => ⟨by rw [hh.1, HG.out], hh.2 ▸ hC⟩)) ?_
 simp only [Act.put, jA, jB, jC]
 refine quiet_val (v := .bool true) (by rfl) (fun W' hC => by simp [execOp, Act.eval, Act.put, go_sem]) ?_
 simp only [Act.put, jA, jB, jC]
 refine quiet_val (v := .bool true) (by rfl) (fun W' hC => by simp [execOp, Act.eval, Act.put, go_sem]) ?_
 simp only [Act.put, jA, jB, jC]
 refine quiet_val (v := .pointer (some ⟨w.heap.size + 1, 2, none⟩)) (by rfl) (fun W' hC => by simp [execOp, Act.eval, Act.put, go_sem]) ?_
 simp only [Act.put, jA, jB, jC]
 refine quiet_val (v := .int .i64 u) (by rfl) (fun W' hC => by have := (HBL.out.below hC hll).four.1; simp [execOp, Act.eval, Act.put, go_sem, this.2.2.1]) ?_
 simp only [Act.put, jA, jB, jC]
 refine quiet_val (v := .bool true) (by rfl) (fun W' hC => by simp [execOp, Act.eval, Act.put, go_sem, hu2]) ?_
 simp only [Act.put, jA, jB, jC]
 refine quiet_val (v := .bool true) (by rfl) (fun W' hC => by simp [execOp, Act.eval, Act.put, go_sem]) ?_
 simp only [Act.put, jA, jB, jC]
 refine quiet_val (v := .bool true) (by rfl) (fun W' hC => by simp [execOp, Act.eval, Act.put, go_sem]) ?_
 simp only [Act.put, jA, jB, jC]
 refine quiet_val (v := .pointer (some ⟨w.heap.size + 1, 2, none⟩)) (by rfl) (fun W' hC => by simp [execOp, Act.eval, Act.put, go_sem]) ?_
 simp only [Act.put, jA, jB, jC]
 refine quiet_val (v := .int .i64 u) (by rfl) (fun W' hC => by have := (HBL.out.below hC hll).four.1; simp [execOp, Act.eval, Act.put, go_sem, this.2.2.1]) ?_
 simp only [Act.put, jA, jB, jC]
 refine quiet_val (v := (.agg #[.slice A n c, .slice A' n' c', .int .i64 d.fuse, .bool d.down])) (by rfl) (fun W' hC => by have := (HBD.out.below hC hld).four.1; simp [execOp, Act.eval, Act.put, go_sem, this.1, this.2.1, this.2.2.1, this.2.2.2]) ?_
 simp only [Act.put, jA, jB, jC]
 refine quiet_val (v := .pointer (some ⟨w.heap.size + 1, 0, none⟩)) (by rfl) (fun W' hC => by simp [execOp, Act.eval, Act.put, go_sem]) ?_
 simp only [Act.put, jA, jB, jC]
 refine quiet_val (v := .int .i64 0) (by rfl) (fun W' hC => by have := (HBL.out.below hC hll).four.1; simp [execOp, Act.eval, Act.put, go_sem, this.1]) ?_
 simp only [Act.put, jA, jB, jC]
 refine quiet_call (v := (halfV (0 * (d.secs.length / 2)) (d.secs.length / 2))) (f := 32) (args := #[(.agg #[.slice A n c, .slice A' n' c', .int .i64 d.fuse, .bool d.down]), .int .i64 0]) (by rfl) (fun W' hC => exec_fn rfl rfl (by simp [Act.eval]) (e37 _ _)) (fun W' hC => (halfOf_any _ d 0 W' (HD.out.later (HB0.out.trans (hC.mono HB0.out.size))) (by omega) hsl).mono (fun _ _ hh => ⟨hh.1, hC.trans (hh.2.mono hC.size)⟩)) ?_
 simp only [Act.put, jA, jB, jC]
 refine quiet_val (v := .int .i64 ((d.secs.length / 2 : Nat) : Int)) (by rfl) (fun W' hC => exec_size rfl rfl _) ?_
 simp only [Act.put, jA, jB, jC]
 refine quiet_val (v := .bool true) (by rfl) (fun W' hC => by simp [execOp, Act.eval, Act.put, go_sem]; omega) ?_
 simp only [Act.put, jA, jB, jC]
 refine quiet_val (v := .bool true) (by rfl) (fun W' hC => by simp [execOp, Act.eval, Act.put, go_sem]) ?_
 simp only [Act.put, jA, jB, jC]
 refine quiet_val (v := .bool true) (by rfl) (fun W' hC => by simp [execOp, Act.eval, Act.put, go_sem]) ?_
 simp only [Act.put, jA, jB, jC]
 refine quiet_val (v := .pointer (some ⟨w.heap.size + 1, 3, none⟩)) (by rfl) (fun W' hC => by simp [execOp, Act.eval, Act.put, go_sem]) ?_
 simp only [Act.put, jA, jB, jC]
 refine quiet_val (v := .int .i64 k) (by rfl) (fun W' hC => by have := (HBL.out.below hC hll).four.1; simp [execOp, Act.eval, Act.put, go_sem, this.2.2.2]) ?_
 simp only [Act.put, jA, jB, jC]
 refine quiet_val (v := .bool true) (by rfl) (fun W' hC => by simp [execOp, Act.eval, Act.put, go_sem, hk1]) ?_
 simp only [Act.put, jA, jB, jC]
 refine quiet_val (v := .bool true) (by rfl) (fun W' hC => by simp [execOp, Act.eval, Act.put, go_sem]) ?_
 simp only [Act.put, jA, jB, jC]
 refine quiet_val (v := .bool true) (by rfl) (fun W' hC => by simp [execOp, Act.eval, Act.put, go_sem]) ?_
 simp only [Act.put, jA, jB, jC]
 refine quiet_val (v := .pointer (some ⟨w.heap.size + 1, 3, none⟩)) (by rfl) (fun W' hC => by simp [execOp, Act.eval, Act.put, go_sem]) ?_
 simp only [Act.put, jA, jB, jC]
 refine quiet_val (v := .int .i64 k) (by rfl) (fun W' hC => by have := (HBL.out.below hC hll).four.1; simp [execOp, Act.eval, Act.put, go_sem, this.2.2.2]) ?_
 simp only [Act.put, jA, jB, jC]
 refine quiet_val (v := .pointer (some ⟨w.heap.size + 1, 2, none⟩)) (by rfl) (fun W' hC => by simp [execOp, Act.eval, Act.put, go_sem]) ?_
 simp only [Act.put, jA, jB, jC]
 refine quiet_val (v := .int .i64 u) (by rfl) (fun W' hC => by have := (HBL.out.below hC hll).four.1; simp [execOp, Act.eval, Act.put, go_sem, this.2.2.1]) ?_
 simp only [Act.put, jA, jB, jC]
 refine quiet_val (v := .bool true) (by rfl) (fun W' hC => by simp [execOp, Act.eval, Act.put, go_sem, hku]) ?_
 simp only [Act.put, jA, jB, jC]
 refine quiet_val (v := .bool true) (by rfl) (fun W' hC => by simp [execOp, Act.eval, Act.put, go_sem]) ?_
 simp only [Act.put, jA, jB, jC]
 refine quiet_val (v := .bool true) (by rfl) (fun W' hC => by simp [execOp, Act.eval, Act.put, go_sem]) ?_
 simp only [Act.put, jA, jB, jC]
 refine wpQuiet_nil ?_
 intro W' hC
 have HF := Lib.hid (HB0.out.trans (hC.mono HB0.out.size))
 clear hC
 go_wp2
 go_ret
 exact ⟨rfl, HF.out⟩
set_option maxRecDepth 20000 in
set_option maxHeartbeats 4000000 in
theorem right_1 (v : Value) (d : Dk) (g u k : Int) (w : World) (hd : DkAt w w.heap.size v d) (hr : rightB d = true) (hg1 : 1 ≤ g) (hg2 : g ≤ 1099511627776) (hu2 : 2 ≤ u) (hus : u ≤ ((d.secs.length / 2 : Nat) : Int)) (hk1 : 1 ≤ k) (hku : k ≤ u) :
 Calls Tryz.prog 39 #[v, .agg #[.int .i64 1, .int .i64 g, .int .i64 u, .int .i64 k]] w fun e w' => e = .returned (.bool true) ∧ Below w.heap.size w w' := by
 obtain ⟨A, n, c, A', n', c', rfl, hx⟩ := hd
 have HD := Lib.hid (show DkAt w w.heap.size (.agg #[.slice A n c, .slice A' n' c', .int .i64 d.fuse, .bool d.down]) d from ⟨A, n, c, A', n', c', rfl, hx⟩)
 have hsl : d.secs.length ≤ 4096 := (rightB_of.1 hr).1
 have HR := Lib.hid hr
 have HG : Hid ((decide (1 ≤ g) && decide (g ≤ 1099511627776)) = true) := Lib.hid (by simp [hg1, hg2])
 clear hx hr hg1 hg2
 go_enter Tryz.func39, Tryz.ntmps39
 go_wp2_with fail
 have hm : Tryz.prog.follows .mixedOrders = true := by kernel_rfl
 have e31 : ∀ args w, (callFunc 31 args).run Tryz.prog w = .ok (.enter 31 args) w := enters_of Tryz.func31 (by kernel_rfl) rfl
 have e38 : ∀ args w, (callFunc 67 args).run Tryz.prog w = .ok (.enter 67 args) w := enters_of Tryz.func67 (by kernel_rfl) rfl
 have e37 : ∀ args w, (callFunc 32 args).run Tryz.prog w = .ok (.enter 32 args) w := enters_of Tryz.func32 (by kernel_rfl) rfl
 have b0 : Bk ((w.alloc (.cells #[.slice A n c, .slice A' n' c', .int .i64 d.fuse, .bool d.down] 27)).alloc (.cells #[.int .i64 1, .int .i64 g, .int .i64 u, .int .i64 k] 32)) w.heap.size 27 _ := (Bk.new w _ _).alloc _
 have b1 : Bk ((w.alloc (.cells #[.slice A n c, .slice A' n' c', .int .i64 d.fuse, .bool d.down] 27)).alloc (.cells #[.int .i64 1, .int .i64 g, .int .i64 u, .int .i64 k] 32)) (w.heap.size + 1) 32 _ := Bk.new2 w _ _ _
 have HB0 : Hid (Below w.heap.size w ((w.alloc (.cells #[.slice A n c, .slice A' n' c', .int .i64 d.fuse, .bool d.down] 27)).alloc (.cells #[.int .i64 1, .int .i64 g, .int .i64 u, .int .i64 k] 32))) := Lib.hid (((Below.refl _ _).alloc (Nat.le_refl _) _).alloc (by simp) _)
 generalize (w.alloc (.cells #[.slice A n c, .slice A' n' c', .int .i64 d.fuse, .bool d.down] 27)).alloc (.cells #[.int .i64 1, .int .i64 g, .int .i64 u, .int .i64 k] 32) = W at *
 have HBD := Lib.hid b0; have HBL := Lib.hid b1
 have hld := b0.lt; have hll := b1.lt
 clear b0 b1
 refine wp_region_quiet (C := fun W' => Below W.heap.size W W') hm (by kernel_rfl) (show Below W.heap.size W W.drew from (Below.refl _ _).drew) ?_
 refine quiet_val (v := (.agg #[.slice A n c, .slice A' n' c', .int .i64 d.fuse, .bool d.down])) (by rfl) (fun W' hC => by have := (HBD.out.below hC hld).four.1; simp [execOp, Act.eval, Act.put, go_sem, this.1, this.2.1, this.2.2.1, this.2.2.2]) ?_
 simp only [Act.put, jA, jB, jC]
 refine quiet_call (v := .bool true) (f := 31) (args := #[(.agg #[.slice A n c, .slice A' n' c', .int .i64 d.fuse, .bool d.down])]) (by rfl) (fun W' hC => exec_fn rfl rfl (by simp [Act.eval]) (e31 _ _)) (fun W' hC => (right_any _ d W' (HD.out.later (HB0.out.trans (hC.mono HB0.out.size)))).mono (fun _ _ hh => ⟨by rw [hh.1, HR.out], hC.trans (hh.2.mono hC.size)⟩)) ?_
 simp only [Act.put, jA, jB, jC]
 refine quiet_val (v := .bool true) (by rfl) (fun W' hC => by simp [execOp, Act.eval, Act.put, go_sem]) ?_
 simp only [Act.put, jA, jB, jC]
 refine quiet_val (v := .pointer (some ⟨w.heap.size + 1, 0, none⟩)) (by rfl) (fun W' hC => by simp [execOp, Act.eval, Act.put, go_sem]) ?_
 simp only [Act.put, jA, jB, jC]
 refine quiet_val (v := .int .i64 1) (by rfl) (fun W' hC => by have := (HBL.out.below hC hll).four.1; simp [execOp, Act.eval, Act.put, go_sem, this.1]) ?_
 simp only [Act.put, jA, jB, jC]
 refine quiet_val (v := .bool false) (by rfl) (fun W' hC => by simp [execOp, Act.eval, Act.put, go_sem]) ?_
 simp only [Act.put, jA, jB, jC]
 refine quiet_val (v := .bool false) (by rfl) (fun W' hC => by simp [execOp, Act.eval, Act.put, go_sem]) ?_
 simp only [Act.put, jA, jB, jC]
 refine quiet_val (v := .pointer (some ⟨w.heap.size + 1, 0, none⟩)) (by rfl) (fun W' hC => by simp [execOp, Act.eval, Act.put, go_sem]) ?_
 simp only [Act.put, jA, jB, jC]
 refine quiet_val (v := .int .i64 1) (by rfl) (fun W' hC => by have := (HBL.out.below hC hll).four.1; simp [execOp, Act.eval, Act.put, go_sem, this.1]) ?_
 simp only [Act.put, jA, jB, jC]
 refine quiet_val (v := .bool true) (by rfl) (fun W' hC => by simp [execOp, Act.eval, Act.put, go_sem]) ?_
 simp only [Act.put, jA, jB, jC]
 refine quiet_val (v := .bool true) (by rfl) (fun W' hC => by simp [execOp, Act.eval, Act.put, go_sem]) ?_
 simp only [Act.put, jA, jB, jC]
 refine quiet_val (v := .bool true) (by rfl) (fun W' hC => by simp [execOp, Act.eval, Act.put, go_sem]) ?_
 simp only [Act.put, jA, jB, jC]
 refine quiet_val (v := .bool true) (by rfl) (fun W' hC => by simp [execOp, Act.eval, Act.put, go_sem]) ?_
 simp only [Act.put, jA, jB, jC]
 refine quiet_val (v := .pointer (some ⟨w.heap.size + 1, 1, none⟩)) (by rfl) (fun W' hC => by simp [execOp, Act.eval, Act.put, go_sem]) ?_
 simp only [Act.put, jA, jB, jC]
 refine quiet_val (v := .int .i64 g) (by rfl) (fun W' hC => by have := (HBL.out.below hC hll).four.1; simp [execOp, Act.eval, Act.put, go_sem, this.2.1]) ?_
 simp only [Act.put, jA, jB, jC]
 refine quiet_call (v := .bool true) (f := 67) (args := #[.int .i64 g]) (by rfl) (fun W' hC => exec_fn rfl rfl (by simp [Act.eval]) (e38 _ _)) (fun W' hC => (genMay_any g W').mono (fun _ _ hh => ⟨by rw [hh.1, HG.out], hh.2 ▸ hC⟩)) ?_
 simp only [Act.put, jA, jB, jC]
 refine quiet_val (v := .bool true) (by rfl) (fun W' hC => by simp [execOp, Act.eval, Act.put, go_sem]) ?_
 simp only [Act.put, jA, jB, jC]
 refine quiet_val (v := .bool true) (by rfl) (fun W' hC => by simp [execOp, Act.eval, Act.put, go_sem]) ?_
 simp only [Act.put, jA, jB, jC]
 refine quiet_val (v := .pointer (some ⟨w.heap.size + 1, 2, none⟩)) (by rfl) (fun W' hC => by simp [execOp, Act.eval, Act.put, go_sem]) ?_
 simp only [Act.put, jA, jB, jC]
 refine quiet_val (v := .int .i64 u) (by rfl) (fun W' hC => by have := (HBL.out.below hC hll).four.1; simp [execOp, Act.eval, Act.put, go_sem, this.2.2.1]) ?_
 simp only [Act.put, jA, jB, jC]
 refine quiet_val (v := .bool true) (by rfl) (fun W' hC => by simp [execOp, Act.eval, Act.put, go_sem, hu2]) ?_
 simp only [Act.put, jA, jB, jC]
 refine quiet_val (v := .bool true) (by rfl) (fun W' hC => by simp [execOp, Act.eval, Act.put, go_sem]) ?_
 simp only [Act.put, jA, jB, jC]
 refine quiet_val (v := .bool true) (by rfl) (fun W' hC => by simp [execOp, Act.eval, Act.put, go_sem]) ?_
 simp only [Act.put, jA, jB, jC]
 refine quiet_val (v := .pointer (some ⟨w.heap.size + 1, 2, none⟩)) (by rfl) (fun W' hC => by simp [execOp, Act.eval, Act.put, go_sem]) ?_
 simp only [Act.put, jA, jB, jC]
 refine quiet_val (v := .int .i64 u) (by rfl) (fun W' hC => by have := (HBL.out.below hC hll).four.1; simp [execOp, Act.eval, Act.put, go_sem, this.2.2.1]) ?_
 simp only [Act.put, jA, jB, jC]
 refine quiet_val (v := (.agg #[.slice A n c, .slice A' n' c', .int .i64 d.fuse, .bool d.down])) (by rfl) (fun W' hC => by have := (HBD.out.below hC hld).four.1; simp [execOp, Act.eval, Act.put, go_sem, this.1, this.2.1, this.2.2.1, this.2.2.2]) ?_
 simp only [Act.put, jA, jB, jC]
 refine quiet_val (v := .pointer (some ⟨w.heap.size + 1, 0, none⟩)) (by rfl) (fun W' hC => by simp [execOp, Act.eval, Act.put, go_sem]) ?_
 simp only [Act.put, jA, jB, jC]
 refine quiet_val (v := .int .i64 1) (by rfl) (fun W' hC => by have := (HBL.out.below hC hll).four.1; simp [execOp, Act.eval, Act.put, go_sem, this.1]) ?_
 simp only [Act.put, jA, jB, jC]
 refine quiet_call (v := (halfV (1 * (d.secs.length / 2)) (d.secs.length / 2))) (f := 32) (args := #[(.agg #[.slice A n c, .slice A' n' c', .int .i64 d.fuse, .bool d.down]), .int .i64 1]) (by rfl) (fun W' hC => exec_fn rfl rfl (by simp [Act.eval]) (e37 _ _)) (fun W' hC => (halfOf_any _ d 1 W' (HD.out.later (HB0.out.trans (hC.mono HB0.out.size))) (by omega) hsl).mono (fun _ _ hh => ⟨hh.1, hC.trans (hh.2.mono hC.size)⟩)) ?_
 simp only [Act.put, jA, jB, jC]
 refine quiet_val (v := .int .i64 ((d.secs.length / 2 : Nat) : Int)) (by rfl) (fun W' hC => exec_size rfl rfl _) ?_
 simp only [Act.put, jA, jB, jC]
 refine quiet_val (v := .bool true) (by rfl) (fun W' hC => by simp [execOp, Act.eval, Act.put, go_sem]; omega) ?_
 simp only [Act.put, jA, jB, jC]
 refine quiet_val (v := .bool true) (by rfl) (fun W' hC => by simp [execOp, Act.eval, Act.put, go_sem]) ?_
 simp only [Act.put, jA, jB, jC]
 refine quiet_val (v := .bool true) (by rfl) (fun W' hC => by simp [execOp, Act.eval, Act.put, go_sem]) ?_
 simp only [Act.put, jA, jB, jC]
 refine quiet_val (v := .pointer (some ⟨w.heap.size + 1, 3, none⟩)) (by rfl) (fun W' hC => by simp [execOp, Act.eval, Act.put, go_sem]) ?_
 simp only [Act.put, jA, jB, jC]
 refine quiet_val (v := .int .i64 k) (by rfl) (fun W' hC => by have := (HBL.out.below hC hll).four.1; simp [execOp, Act.eval, Act.put, go_sem, this.2.2.2]) ?_
 simp only [Act.put, jA, jB, jC]
 refine quiet_val (v := .bool true) (by rfl) (fun W' hC => by simp [execOp, Act.eval, Act.put, go_sem, hk1]) ?_
 simp only [Act.put, jA, jB, jC]
 refine quiet_val (v := .bool true) (by rfl) (fun W' hC => by simp [execOp, Act.eval, Act.put, go_sem]) ?_
 simp only [Act.put, jA, jB, jC]
 refine quiet_val (v := .bool true) (by rfl) (fun W' hC => by simp [execOp, Act.eval, Act.put, go_sem]) ?_
 simp only [Act.put, jA, jB, jC]
 refine quiet_val (v := .pointer (some ⟨w.heap.size + 1, 3, none⟩)) (by rfl) (fun W' hC => by simp [execOp, Act.eval, Act.put, go_sem]) ?_
 simp only [Act.put, jA, jB, jC]
 refine quiet_val (v := .int .i64 k) (by rfl) (fun W' hC => by have := (HBL.out.below hC hll).four.1; simp [execOp, Act.eval, Act.put, go_sem, this.2.2.2]) ?_
 simp only [Act.put, jA, jB, jC]
 refine quiet_val (v := .pointer (some ⟨w.heap.size + 1, 2, none⟩)) (by rfl) (fun W' hC => by simp [execOp, Act.eval, Act.put, go_sem]) ?_
 simp only [Act.put, jA, jB, jC]
 refine quiet_val (v := .int .i64 u) (by rfl) (fun W' hC => by have := (HBL.out.below hC hll).four.1; simp [execOp, Act.eval, Act.put, go_sem, this.2.2.1]) ?_
 simp only [Act.put, jA, jB, jC]
 refine quiet_val (v := .bool true) (by rfl) (fun W' hC => by simp [execOp, Act.eval, Act.put, go_sem, hku]) ?_
 simp only [Act.put, jA, jB, jC]
 refine quiet_val (v := .bool true) (by rfl) (fun W' hC => by simp [execOp, Act.eval, Act.put, go_sem]) ?_
 simp only [Act.put, jA, jB, jC]
 refine quiet_val (v := .bool true) (by rfl) (fun W' hC => by simp [execOp, Act.eval, Act.put, go_sem]) ?_
 simp only [Act.put, jA, jB, jC]
 refine wpQuiet_nil ?_
 intro W' hC
 have HF := Lib.hid (HB0.out.trans (hC.mono HB0.out.size))
 clear hC
 go_wp2
 go_ret
 exact ⟨rfl, HF.out⟩
end Go.Proofs.YtcdehejgnnnimaaGreatDoor
