/-
  Contracts over package wal: what writing does, a fall in its midst caught.
-/
import Derived.Test.YtofbpkaebngnlaaDoorQWalPen
import Derived.Recover
import Derived.Test.YtofbpkaebngnlaaDoorQSecFlush
import Derived.Test.YtofbpkaebngnlaaDoorQSecRead
import Derived.Defers
namespace Go.Proofs.YtofbpkaebngnlaaDoor
set_option linter.unusedVariables false
set_option linter.unusedSimpArgs false
set_option linter.unusedVariables false
set_option linter.unusedSimpArgs false
open Go.RowKit

theorem Code.wp_mono' {P : Program} {c : Code} {Q Q' : Exit → Act → World → Prop} {a : Act} {w : World} (hq : ∀ e a w, Q e a w → Q' e a w) (h : c.wp P Q a w) : c.wp P Q' a w := Code.wp_mono hq h
theorem door_end {c₀ : Frame} {cs : List Frame} {R : Ending → FrameMode → World → Prop} {W : World → Prop} {cs' : List Frame} {e : Exit} {a : Act} {w : World} (he : (e = .normal ∧ a.defers = []) ∧ W w)
    (h : ∃ u', cs' = { c₀ with mode := u' } :: cs ∧ ∀ w, W w → R (.returned (.tuple #[])) u' w) : bodyPostS Tryd.prog Tryd.f36 c₀ cs R e a cs' w := by
  obtain ⟨⟨rfl, hd⟩, hw⟩ := he
  obtain ⟨u', hc, hR⟩ := h
  exact ⟨hd, u', hc, .tuple #[], by simp [results, Tryd.results36], hR w hw⟩
set_option maxRecDepth 20000 in
set_option maxHeartbeats 1000000 in
theorem door_idle (p q r s : Addr) (w : World) :
    CallsD Tryd.prog 36 #[.pointer (some p), .pointer (some q), .pointer (some r), .pointer (some s)] .returning w fun e u' w' => e = .returned (.tuple #[]) ∧ u' = .returning ∧ w' = w := by
  refine callsD_of_wpS Tryd.func36 rfl fun c₀ cs hu => ?_
  apply wpS_seq
  apply wpS_region
  simp [wpOpsS, go_sem, recoverD, hu, Tryd.ntmps36, Exit.thenS]
  refine wpS_of_wp (Code.wp_mono' (fun e a' w' he => door_end (R := fun e u' w' => e = .returned (.tuple #[]) ∧ u' = FrameMode.returning ∧ w' = w) he ⟨FrameMode.returning, ?_, fun w2 hw => ⟨rfl, rfl, hw⟩⟩) (Q := fun e a' w' => (e = .normal ∧ a'.defers = []) ∧ w' = w) ?_)
  · cases c₀; simp_all
  have hfr : (#[Value.pointer (some p), Value.pointer (some q), Value.pointer (some r), Value.pointer (some s)] ++ (Array.replicate 17 undef).setIfInBounds 3 Value.nilIface) = #[Value.pointer (some p), Value.pointer (some q), Value.pointer (some r), Value.pointer (some s), undef, undef, undef, Value.nilIface, undef, undef, undef, undef, undef, undef, undef, undef, undef, undef, undef, undef, undef] := rfl
  rw [hfr]
  go_wp2
theorem assert_errno (n : Int) (w : World) : (Instr.typeAssert (.iface 29 (.int .i64 n)) 20 29 true).run Tryd.prog w = .ok (.tuple #[.int .i64 n, .bool true]) w := by
  simp only [Instr.typeAssert, Sem.run_bind, run_underlying Tryd.underlying29, Result.andThen_ok]
  rfl
def DoorW (w : World) (b4 b5 : Nat) (d0 d1 d2 d3 e0 e1 e2 e3 : Value) (w' : World) : Prop := w' = stored4 ((stored4 w b4 d0 d1 d2 d3).setCell ⟨b5, 0, none⟩ (.int .i64 9)) b4 e0 e1 e2 e3
set_option maxRecDepth 20000 in
set_option maxHeartbeats 1000000 in
/-- the closure behind a fall -/
theorem door_fall (b2 b4 b5 b6 g : Nat) (w : World) (A A' A1 A1' : Option Addr) (n c n' c' n1 c1 n1' c1' : Nat) (f f1 : Int) (b b1 : Bool) (a0 a1 a2 a3 er : Value) (h2 : Bk w b2 28 #[.slice A n c, .slice A' n' c', .int .i64 f, .bool b]) (h4 : Bk w b4 28 #[a0, a1, a2, a3]) (h5 : Bk w b5 29 #[er])
    (h6 : Bk w b6 56 #[.pointer (some ⟨g, 0, none⟩)]) (hg : Bk w g 79 #[.slice A1 n1 c1, .slice A1' n1' c1', .int .i64 f1, .bool b1]) (h42 : b4 ≠ b2) (h45 : b4 ≠ b5) (h46 : b4 ≠ b6) (h4g : b4 ≠ g) (h56 : b5 ≠ b6) (h5g : b5 ≠ g) :
    CallsD Tryd.prog 36 #[.pointer (some ⟨b2, 0, none⟩), .pointer (some ⟨b4, 0, none⟩), .pointer (some ⟨b5, 0, none⟩), .pointer (some ⟨b6, 0, none⟩)] (.panicking [{ v := .iface 29 (.int .i64 9), recovered := false }]) w fun e u' w' =>
      e = .returned (.tuple #[]) ∧ u' = .panicking [{ v := .iface 29 (.int .i64 9), recovered := true }] ∧ DoorW w b4 b5 (.slice A n c) (.slice A' n' c') (.int .i64 f) (.bool b) (.slice A1 n1 c1) (.slice A1' n1' c1') (.int .i64 f1) (.bool b1) w' := by
  obtain ⟨⟨p0, p1, p2, p3⟩, q0, q1, q2, q3⟩ := h2.four
  obtain ⟨⟨r0, r1, r2, r3⟩, s0, s1, s2, s3⟩ := h4.four
  obtain ⟨⟨t0, t1, t2, t3⟩, _⟩ := hg.four
  have u0 : w.cell? ⟨b5, 0, none⟩ = some er := h5.cell 0
  have u1 := h5.frozen 0
  have v0 : w.cell? ⟨b6, 0, none⟩ = some (.pointer (some ⟨g, 0, none⟩)) := h6.cell 0
  refine callsD_of_wpS Tryd.func36 rfl fun c₀ cs hu => ?_
  apply wpS_seq
  apply wpS_region
  simp [wpOpsS, go_sem, recoverD, hu, Tryd.ntmps36, Exit.thenS]
  refine wpS_of_wp (Code.wp_mono' (fun e a' w' he => door_end (W := DoorW w b4 b5 (.slice A n c) (.slice A' n' c') (.int .i64 f) (.bool b) (.slice A1 n1 c1) (.slice A1' n1' c1') (.int .i64 f1) (.bool b1)) he ⟨.panicking [{ v := .iface 29 (.int .i64 9), recovered := true }], ?_, fun w2 hw => ⟨rfl, rfl, hw⟩⟩) (Q := fun e a' w' => (e = .normal ∧ a'.defers = []) ∧ DoorW w b4 b5 (.slice A n c) (.slice A' n' c') (.int .i64 f) (.bool b) (.slice A1 n1 c1) (.slice A1' n1' c1') (.int .i64 f1) (.bool b1) w') ?_)
  · cases c₀; simp_all
  have hfr : (#[Value.pointer (some ⟨b2, 0, none⟩), Value.pointer (some ⟨b4, 0, none⟩), Value.pointer (some ⟨b5, 0, none⟩), Value.pointer (some ⟨b6, 0, none⟩)] ++ (Array.replicate 17 undef).setIfInBounds 3 (Value.iface 29 (.int .i64 9))) = #[Value.pointer (some ⟨b2, 0, none⟩), Value.pointer (some ⟨b4, 0, none⟩), Value.pointer (some ⟨b5, 0, none⟩), Value.pointer (some ⟨b6, 0, none⟩), undef, undef, undef, Value.iface 29 (.int .i64 9), undef, undef, undef, undef, undef, undef, undef, undef, undef, undef, undef, undef, undef] := rfl
  rw [hfr]
  clear hfr hu
  have kta := assert_errno 9
  go_wp2
  exact rfl

theorem load_box4 {w : World} {b : Nat} {A A' : Option Addr} {n c n' c' : Nat} {f : Int} {bb : Bool} (h : Bk w b 28 #[.slice A n c, .slice A' n' c', .int .i64 f, .bool bb]) :
    (loadVar 28 ⟨b, 0, none⟩).run Tryd.prog w = .ok (.agg #[.slice A n c, .slice A' n' c', .int .i64 f, .bool bb]) w := by
  obtain ⟨⟨g0, g1, g2, g3⟩, _⟩ := h.four
  simp [go_sem, g0, g1, g2, g3]
theorem load_box1 {w : World} {b : Nat} {v : Value} (h : Bk w b 29 #[v]) : (loadVar 29 ⟨b, 0, none⟩).run Tryd.prog w = .ok v w := by
  have g0 : w.cell? ⟨b, 0, none⟩ = some v := h.cell 0
  simp [go_sem, g0]
/-- a function that writes by the pen it is given -/
def Writes (w : World) (f : FuncId) (cap : Array Value) (d : Dk) (x : Dk × Int) : Prop :=
  ∀ (W : World) (g : Nat), Below w.heap.size w W → w.heap.size ≤ g → PenIs W g d → Calls Tryd.prog f (#[.pointer (some ⟨g, 0, none⟩)] ++ cap) W (PenRes g x W)
set_option maxRecDepth 20000 in
set_option maxHeartbeats 4000000 in
theorem written_ok (v : Value) (d : Dk) (f : FuncId) (cap : Array Value) (x : Dk × Int) (w : World) (hd : DkAt w w.heap.size v d) (hx : x.2 = 0) (hF : Writes w f cap d x) (hent : ∀ args w, (callFunc f args).run Tryd.prog w = .ok (.enter f args) w) :
    Calls Tryd.prog 16 #[v, .func (.func f) #[] cap] w (DkRes w x) := by
  have hmf : ∀ (fn : Fn) (first cap : Array Value) (w : World), (Instr.makeFunc fn first cap).run Tryd.prog w = .ok (.func fn first cap) w := fun _ _ _ _ => rfl
  obtain ⟨A, n, c, A', n', c', rfl, hr⟩ := hd
  have hd : DkAt w w.heap.size (.agg #[.slice A n c, .slice A' n' c', .int .i64 d.fuse, .bool d.down]) d := ⟨A, n, c, A', n', c', rfl, hr⟩
  clear hr
  have HF := Lib.hid hF
  have HD := Lib.hid hd
  clear hd hF
  go_enter_defers Tryd.func16, Tryd.ntmps16
  go_wp2
  refine calls_over (fun W => Bk W w.heap.size 28 #[.slice A n c, .slice A' n' c', .int .i64 d.fuse, .bool d.down] ∧ Bk W (w.heap.size + 1) 28 #[.slice none 0 0, .slice none 0 0, .int .i64 0, .bool false] ∧ Bk W (w.heap.size + 1 + 1) 29 #[.int .i64 0] ∧ Bk W (w.heap.size + 1 + 1 + 1) 79 #[.slice A n c, .slice A' n' c', .int .i64 d.fuse, .bool d.down] ∧ Bk W (w.heap.size + 1 + 1 + 1 + 1) 56 #[.pointer (some ⟨w.heap.size + 1 + 1 + 1, 0, none⟩)] ∧ Below w.heap.size w W) ⟨?_, ?_, ?_, ?_, ?_, ?_⟩ ?_
  · exact ((((Bk.new w _ _).alloc _).alloc _).alloc _).alloc _
  · exact (((Bk.new2 w _ _ _).alloc _).alloc _).alloc _
  · exact ((Bk.new3 w _ _ _ _).alloc _).alloc _
  · exact (Bk.new4 w _ _ _ _ _).alloc _
  · exact Bk.new' _ _ _ _ (by simp)
  · exact (((((Below.refl w.heap.size w).alloc (Nat.le_refl _) _).alloc (by simp) _).alloc (by simp only [World.size_alloc]; omega) _).alloc (by simp only [World.size_alloc]; omega) _).alloc (by simp only [World.size_alloc]; omega) _
  rintro W ⟨B2, B4, B5, Bg, B6, hb⟩
  refine (HF.out W (w.heap.size + 1 + 1 + 1) hb (by omega) ⟨A, n, c, A', n', c', Bg, HD.out.later hb⟩).mono ?_
  rintro e w1 ⟨he, hp1, hg1⟩
  replace B2 := B2.grown hg1 (fun e => by injection e with e; omega)
  replace B4 := B4.grown hg1 (fun e => by injection e with e; omega)
  replace B5 := B5.grown hg1 (fun e => by injection e with e; omega)
  replace B6 := B6.grown hg1 (fun e => by injection e with e; omega)
  have hb1 : Below w.heap.size w w1 := hb.trans (Below.of_grown hg1 (by omega) hb.size)
  obtain ⟨A1, n1, c1, A1', n1', c1', Bp, hd1⟩ := hp1
  clear hb hg1 Bg
  rw [penE_ok hx] at he
  subst he
  have hf := stored4_facts B4 (.slice A1 n1 c1) (.slice A1' n1' c1') (.int .i64 x.1.fuse) (.bool x.1.down)
  have B5' := hf.2.2.2 _ _ _ (by omega) B5
  have hd2 := hf.2.1 _ _ hd1
  have hd3 := hd2.box B5' (by simp) 0 (.int .i64 0)
  have HB4 := Lib.hid (hf.1.far (p := ⟨w.heap.size + 1 + 1, 0, none⟩) (by simp) (.int .i64 0))
  have HB5 := Lib.hid (B5'.put 0 (.int .i64 0))
  have HBW := Lib.hid ((hf.2.2.1 _ _ hb1 (by omega)).setCell (p := ⟨w.heap.size + 1 + 1, 0, none⟩) (by show w.heap.size ≤ w.heap.size + 1 + 1; omega) (.int .i64 0))
  have HD3 := Lib.hid hd3
  unfold stored4 at HB4 HB5 HBW HD3
  obtain ⟨⟨r0, r1, r2, r3⟩, s0, s1, s2, s3⟩ := B4.four
  obtain ⟨⟨t0, t1, t2, t3⟩, _⟩ := Bp.four
  have u0 : w1.cell? ⟨w.heap.size + 1 + 1, 0, none⟩ = some (.int .i64 0) := B5.cell 0
  have u1 := B5.frozen 0
  have v0 : w1.cell? ⟨w.heap.size + 1 + 1 + 1 + 1, 0, none⟩ = some (.pointer (some ⟨w.heap.size + 1 + 1 + 1, 0, none⟩)) := B6.cell 0
  have hz := B6.lt
  clear hf B5' hd2 hd3 hb1 B2 B4 B5 B6 Bp hd1 HF HD
  go_wp2
  refine leaves_cons (f := 36) (args := #[.pointer (some ⟨w.heap.size, 0, none⟩), .pointer (some ⟨w.heap.size + 1, 0, none⟩), .pointer (some ⟨w.heap.size + 1 + 1, 0, none⟩), .pointer (some ⟨w.heap.size + 1 + 1 + 1 + 1, 0, none⟩)]) (by simp) (by simp [go_sem]) ?_
  refine (door_idle _ _ _ _ _).mono ?_
  rintro e u' w'' ⟨rfl, rfl, rfl⟩
  obtain ⟨⟨g0, g1, g2, g3⟩, _⟩ := HB4.out.four
  refine ⟨.tuple #[.agg #[.slice A1 n1 c1, .slice A1' n1' c1', .int .i64 x.1.fuse, .bool x.1.down], .int .i64 0], ?_, ?_⟩
  · simp only [results, Tryd.results16]
    have l4 : (loadVar 28 ⟨w.heap.size + 1, 0, none⟩).run Tryd.prog _ = .ok (.agg #[.slice A1 n1 c1, .slice A1' n1' c1', .int .i64 x.1.fuse, .bool x.1.down]) _ := load_box4 HB4.out
    have l5 : (loadVar 29 ⟨w.heap.size + 1 + 1, 0, none⟩).run Tryd.prog _ = .ok (.int .i64 0) _ := load_box1 HB5.out
    exact results_cells2 (fn := Tryd.f16) rfl _ _ ⟨w.heap.size + 1, 0, none⟩ ⟨w.heap.size + 1 + 1, 0, none⟩ _ _ rfl rfl l4 l5
  · refine ⟨_, by rw [hx], HD3.out.more (by simp), HBW.out⟩

theorem written_fall (v : Value) (d : Dk) (f : FuncId) (cap : Array Value) (x : Dk × Int) (w : World) (hd : DkAt w w.heap.size v d) (hx : x.2 = 9) (hF : Writes w f cap d x) (hent : ∀ args w, (callFunc f args).run Tryd.prog w = .ok (.enter f args) w) :
    Calls Tryd.prog 16 #[v, .func (.func f) #[] cap] w (DkRes w x) := by
  have hmf : ∀ (fn : Fn) (first cap : Array Value) (w : World), (Instr.makeFunc fn first cap).run Tryd.prog w = .ok (.func fn first cap) w := fun _ _ _ _ => rfl
  obtain ⟨A, n, c, A', n', c', rfl, hr⟩ := hd
  have hd : DkAt w w.heap.size (.agg #[.slice A n c, .slice A' n' c', .int .i64 d.fuse, .bool d.down]) d := ⟨A, n, c, A', n', c', rfl, hr⟩
  clear hr
  have HF := Lib.hid hF
  have HD := Lib.hid hd
  clear hd hF
  go_enter_defers Tryd.func16, Tryd.ntmps16
  go_wp2
  refine calls_over (fun W => Bk W w.heap.size 28 #[.slice A n c, .slice A' n' c', .int .i64 d.fuse, .bool d.down] ∧ Bk W (w.heap.size + 1) 28 #[.slice none 0 0, .slice none 0 0, .int .i64 0, .bool false] ∧ Bk W (w.heap.size + 1 + 1) 29 #[.int .i64 0] ∧ Bk W (w.heap.size + 1 + 1 + 1) 79 #[.slice A n c, .slice A' n' c', .int .i64 d.fuse, .bool d.down] ∧ Bk W (w.heap.size + 1 + 1 + 1 + 1) 56 #[.pointer (some ⟨w.heap.size + 1 + 1 + 1, 0, none⟩)] ∧ Below w.heap.size w W) ⟨?_, ?_, ?_, ?_, ?_, ?_⟩ ?_
  · exact ((((Bk.new w _ _).alloc _).alloc _).alloc _).alloc _
  · exact (((Bk.new2 w _ _ _).alloc _).alloc _).alloc _
  · exact ((Bk.new3 w _ _ _ _).alloc _).alloc _
  · exact (Bk.new4 w _ _ _ _ _).alloc _
  · exact Bk.new' _ _ _ _ (by simp)
  · exact (((((Below.refl w.heap.size w).alloc (Nat.le_refl _) _).alloc (by simp) _).alloc (by simp only [World.size_alloc]; omega) _).alloc (by simp only [World.size_alloc]; omega) _).alloc (by simp only [World.size_alloc]; omega) _
  rintro W ⟨B2, B4, B5, Bg, B6, hb⟩
  refine (HF.out W (w.heap.size + 1 + 1 + 1) hb (by omega) ⟨A, n, c, A', n', c', Bg, HD.out.later hb⟩).mono ?_
  rintro e w1 ⟨he, hp1, hg1⟩
  replace B2 := B2.grown hg1 (fun e => by injection e with e; omega)
  replace B4 := B4.grown hg1 (fun e => by injection e with e; omega)
  replace B5 := B5.grown hg1 (fun e => by injection e with e; omega)
  replace B6 := B6.grown hg1 (fun e => by injection e with e; omega)
  have hb1 : Below w.heap.size w w1 := hb.trans (Below.of_grown hg1 (by omega) hb.size)
  obtain ⟨A1, n1, c1, A1', n1', c1', Bp, hd1⟩ := hp1
  clear hb hg1 Bg
  rw [penE_bad (by rw [hx]; decide), hx] at he
  subst he
  have hf := stored4_facts B4 (.slice A n c) (.slice A' n' c') (.int .i64 d.fuse) (.bool d.down)
  have B5' := (hf.2.2.2 _ _ _ (by omega) B5)
  have hd2 := (hf.2.1 _ _ hd1).box B5' (by simp) 0 (.int .i64 9)
  have B4' := hf.1.far (p := ⟨w.heap.size + 1 + 1, 0, none⟩) (by simp) (.int .i64 9)
  have B5'' := B5'.put 0 (.int .i64 9)
  have hbw := (hf.2.2.1 _ _ hb1 (by omega)).setCell (p := ⟨w.heap.size + 1 + 1, 0, none⟩) (by show w.heap.size ≤ w.heap.size + 1 + 1; omega) (.int .i64 9)
  have hsz : (((stored4 w1 (w.heap.size + 1) (.slice A n c) (.slice A' n' c') (.int .i64 d.fuse) (.bool d.down))).setCell ⟨w.heap.size + 1 + 1, 0, none⟩ (.int .i64 9)).heap.size = w1.heap.size := by unfold stored4; simp
  have hsz0 : (stored4 w1 (w.heap.size + 1) (.slice A n c) (.slice A' n' c') (.int .i64 d.fuse) (.bool d.down)).heap.size = w1.heap.size := by unfold stored4; simp
  rw [hsz0, ← hsz] at hd2
  have hf2 := stored4_facts B4' (.slice A1 n1 c1) (.slice A1' n1' c1') (.int .i64 x.1.fuse) (.bool x.1.down)
  have HB4 := Lib.hid hf2.1
  have HB5 := Lib.hid (hf2.2.2.2 _ _ _ (by omega) B5'')
  have HBW := Lib.hid (hf2.2.2.1 _ _ hbw (by omega))
  have HD3 := Lib.hid (hf2.2.1 _ _ hd2)
  have HDO := Lib.hid (door_fall (w.heap.size) (w.heap.size + 1) (w.heap.size + 1 + 1) (w.heap.size + 1 + 1 + 1 + 1) (w.heap.size + 1 + 1 + 1) w1 A A' A1 A1' n c n' c' n1 c1 n1' c1' d.fuse x.1.fuse d.down x.1.down _ _ _ _ _ B2 B4 B5 B6 Bp (by omega) (by omega) (by omega) (by omega) (by omega) (by omega))
  clear hf B5' hd2 B4' B5'' hbw hf2 hb1 B2 B4 B5 B6 Bp hd1 HF HD hsz hsz0
  go_wp2
  refine leaves_cons (f := 36) (args := #[.pointer (some ⟨w.heap.size, 0, none⟩), .pointer (some ⟨w.heap.size + 1, 0, none⟩), .pointer (some ⟨w.heap.size + 1 + 1, 0, none⟩), .pointer (some ⟨w.heap.size + 1 + 1 + 1 + 1, 0, none⟩)]) (by simp) (by simp [go_sem]) ?_
  refine HDO.out.mono ?_
  rintro e u' w'' ⟨rfl, rfl, hw⟩
  unfold DoorW at hw
  subst hw
  obtain ⟨⟨g0, g1, g2, g3⟩, _⟩ := HB4.out.four
  refine ⟨.tuple #[.agg #[.slice A1 n1 c1, .slice A1' n1' c1', .int .i64 x.1.fuse, .bool x.1.down], .int .i64 9], ?_, ?_⟩
  · simp only [results, Tryd.results16]
    have l4 : (loadVar 28 ⟨w.heap.size + 1, 0, none⟩).run Tryd.prog _ = .ok (.agg #[.slice A1 n1 c1, .slice A1' n1' c1', .int .i64 x.1.fuse, .bool x.1.down]) _ := load_box4 HB4.out
    have l5 : (loadVar 29 ⟨w.heap.size + 1 + 1, 0, none⟩).run Tryd.prog _ = .ok (.int .i64 9) _ := load_box1 HB5.out
    exact results_cells2 (fn := Tryd.f16) rfl _ _ ⟨w.heap.size + 1, 0, none⟩ ⟨w.heap.size + 1 + 1, 0, none⟩ _ _ rfl rfl l4 l5
  · refine ⟨_, by rw [hx], HD3.out, HBW.out⟩
theorem written_any (v : Value) (d : Dk) (f : FuncId) (cap : Array Value) (x : Dk × Int) (w : World) (hd : DkAt w w.heap.size v d) (hx : x.2 = 0 ∨ x.2 = 9) (hF : Writes w f cap d x) (hent : ∀ args w, (callFunc f args).run Tryd.prog w = .ok (.enter f args) w) :
    Calls Tryd.prog 16 #[v, .func (.func f) #[] cap] w (DkRes w x) := by
  rcases hx with hx | hx
  · exact written_ok v d f cap x w hd hx hF hent
  · exact written_fall v d f cap x w hd hx hF hent
end Go.Proofs.YtofbpkaebngnlaaDoor
