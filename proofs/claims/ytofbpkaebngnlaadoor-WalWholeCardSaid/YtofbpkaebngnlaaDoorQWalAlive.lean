/-
  The fixed fact of the statements on package wal.
-/
import Derived.Test.YtofbpkaebngnlaaDoorQWalModel
import Derived.Test.YtofbpkaebngnlaaDoorQSecEq
import Derived.Lib.SlBytesConst
namespace Go.Proofs.YtofbpkaebngnlaaDoor
set_option linter.unusedVariables false
set_option linter.unusedSimpArgs false
set_option linter.unusedVariables false
set_option linter.unusedSimpArgs false
open Go.RowKit

def freshD (n : Nat) : Dk := ⟨List.replicate n (List.replicate 64 0), [], -1, false⟩
theorem newM_fresh {n : Nat} (h : n ≤ 4096) : newM (n : Int) = (freshD n, 0) := by
  unfold newM freshD
  rw [if_pos ⟨by omega, by omega⟩]
  simp
theorem fresh_fine {n : Nat} (h : n ≤ 4096) : Fine n (freshD n) := by
  refine ⟨rightB_of.2 ⟨?_, ?_, (by decide : fuseB (-1) = true), rfl⟩, ?_, rfl, rfl, rfl⟩
  · simp [freshD, h]
  · simp [freshD]
  · simp [freshD]
theorem k_over {K : Act → World → Prop} {a : Act} {W : World} (G : World → Prop) (hG : G W) (h : ∀ W', G W' → K a W') : K a W := h W hG
theorem list_over {P : Program} {ops : Array Oper} {l : List Oper} {a : Act} {W : World} {Q : Exit → Act → World → Prop} (G : World → Prop) (hG : G W) (h : ∀ W', G W' → Hid (wpList P ops Q l a W')) : Hid (wpList P ops Q l a W) := h W hG
/-- a box of four cells that holds no byte and not the list itself -/
theorem stored4_cell (w : World) (b : Nat) (a0 a1 a2 a3 : Value) {p : Addr} (hp : p.block ≠ b) : (stored4 w b a0 a1 a2 a3).cell? p = w.cell? p := by
  unfold stored4
  rw [World.cell?_setCell_other _ ⟨b, 3, none⟩ p a3 (fun e => hp (by rw [← e])), World.cell?_setCell_other _ ⟨b, 2, none⟩ p a2 (fun e => hp (by rw [← e])), World.cell?_setCell_other _ ⟨b, 1, none⟩ p a1 (fun e => hp (by rw [← e])), World.cell?_setCell_other _ ⟨b, 0, none⟩ p a0 (fun e => hp (by rw [← e]))]
theorem rss_stored4 {w : World} {B n b : Nat} {A : Option Addr} {ls : List (List Nat)} (h : Rss w B A n ls)
    (hu : ∀ (o : Nat) (k : Int), w.cell? ⟨b, o, none⟩ ≠ some (.int .u8 k)) (hA : ∀ o, 0 < n → A ≠ some ⟨b, o, none⟩) (a0 a1 a2 a3 : Value) : Rss (stored4 w b a0 a1 a2 a3) B A n ls := by
  refine ⟨h.1, fun hn => ?_⟩
  obtain ⟨b', o, e, hb', hc⟩ := h.2 hn
  have hbb : b' ≠ b := by
    rintro rfl
    exact hA o hn e
  refine ⟨b', o, e, hb', fun i hi => ?_⟩
  obtain ⟨A', n', c', h1, h2, h3, h4, h5⟩ := hc i hi
  refine ⟨A', n', c', by rw [stored4_cell _ _ _ _ _ _ (by exact hbb)]; exact h1, h2, h3, h4, h5.1, h5.2.1, fun hn' => ?_⟩
  obtain ⟨b2, o2, e2, hb2, hc2⟩ := h5.2.2 hn'
  refine ⟨b2, o2, e2, hb2, fun j hj => ?_⟩
  have := hc2 j hj
  rw [stored4_cell _ _ _ _ _ _ (p := ⟨b2, o2 + j, none⟩) (fun hb => ?_)]
  · exact this
  · have hb : b2 = b := hb
    subst hb
    exact hu _ _ this
theorem four_cell {w : World} {b : Nat} {t : TypeId} {u0 u1 u2 u3 v : Value} (h : Bk w b t #[u0, u1, u2, u3]) {o : Nat} (hv : w.cell? ⟨b, o, none⟩ = some v) : (o = 0 ∧ v = u0) ∨ (o = 1 ∧ v = u1) ∨ (o = 2 ∧ v = u2) ∨ (o = 3 ∧ v = u3) := by
  rw [h.cell o] at hv
  rcases o with _ | _ | _ | _ | o
  · exact .inl ⟨rfl, by simpa using hv.symm⟩
  · exact .inr (.inl ⟨rfl, by simpa using hv.symm⟩)
  · exact .inr (.inr (.inl ⟨rfl, by simpa using hv.symm⟩))
  · exact .inr (.inr (.inr ⟨rfl, by simpa using hv.symm⟩))
  · simp at hv

/-- a disk and a log in their boxes -/
structure Boxed (w : World) (b1 b3 : Nat) (d : Dk) (h g u k : Nat) (W : World) : Prop where
  ex : ∃ A n c A' n' c', Bk W b1 28 #[.slice A n c, .slice A' n' c', .int .i64 d.fuse, .bool d.down] ∧ DkAt W W.heap.size (.agg #[.slice A n c, .slice A' n' c', .int .i64 d.fuse, .bool d.down]) d
  lg : Bk W b3 35 #[.int .i64 (h : Int), .int .i64 (g : Int), .int .i64 (u : Int), .int .i64 (k : Int)]
  hb : Below w.heap.size w W
theorem Boxed.below {w W W' : World} {b1 b3 : Nat} {d : Dk} {h g u k : Nat} (H : Boxed w b1 b3 d h g u k W) (hb : Below W.heap.size W W') : Boxed w b1 b3 d h g u k W' := by
  obtain ⟨A, n, c, A', n', c', h1, h2⟩ := H.ex
  exact ⟨⟨A, n, c, A', n', c', h1.below hb h1.lt, h2.later hb⟩, H.lg.below hb H.lg.lt, H.hb.trans (hb.mono H.hb.size)⟩
/-- both boxes stored anew -/
theorem Boxed.store {w W : World} {b1 b3 : Nat} {A A' : Option Addr} {n c n' c' : Nat} {x : Dk} {u0 u1 u2 u3 v0 v1 v2 v3 : Value} (h1 : Bk W b1 28 #[u0, u1, u2, u3]) (h3 : Bk W b3 35 #[v0, v1, v2, v3]) (hne : b3 ≠ b1)
    (hd : DkAt W W.heap.size (.agg #[.slice A n c, .slice A' n' c', .int .i64 x.fuse, .bool x.down]) x) (hb : Below w.heap.size w W) (hw1 : w.heap.size ≤ b1) (hw3 : w.heap.size ≤ b3) (h g u k : Nat) :
    Boxed w b1 b3 x h g u k (stored4 (stored4 W b1 (.slice A n c) (.slice A' n' c') (.int .i64 x.fuse) (.bool x.down)) b3 (.int .i64 (h : Int)) (.int .i64 (g : Int)) (.int .i64 (u : Int)) (.int .i64 (k : Int))) := by
  obtain ⟨k1, k2, k3, k4⟩ := (two_boxes (h : Int) (g : Int) (u : Int) (k : Int) h1 h3 hne hd hb hw1 hw3).out
  exact ⟨⟨A, n, c, A', n', c', k1, k3⟩, k2, k4⟩
theorem Fine.half {n : Nat} {d : Dk} (h : Fine n d) : d.secs.length / 2 = n / 2 := by rw [h.2.1]

theorem alive_model : ∃ (d0 : Dk) (x1 x2 x3 : Dk × Int), newM 20 = (d0, 0) ∧ Fine 20 d0 ∧ runM d0 (formD 10 [[1]]) = x1 ∧ x1.2 = 0 ∧ Fine 20 x1.1 ∧ runM x1.1 (appD 2 1 1 [116, 119, 111]) = x2 ∧ x2.2 = 0 ∧ Fine 20 x2.1 ∧ LogZ x2.1 0 10 1 [[1], [116, 119, 111]] ∧ HeadNo x2.1 10 ∧
    runM x2.1 (layD 10 10 2 [[1], [116, 119, 111]]) = x3 ∧ x3.2 = 0 ∧ Fine 20 x3.1 := by
  obtain ⟨f1, f2, f3, f4⟩ := form_log (n := 20) (d := freshD 20) (L := [[1]]) (fresh_fine (by omega)) (by decide) (by decide) (by decide) (by decide)
  obtain ⟨g1, g2, g3, g4⟩ := app_log (b := [116, 119, 111]) f2 f3 (by decide) (by decide) (by decide) (by omega)
  obtain ⟨h1, h2, _, _⟩ := lay_log (o := 10) (size := 10) (g := 2) (L := [[1], [116, 119, 111]]) g2 (by decide) (by decide) (by decide) (by decide) (by omega) (by omega) (by omega)
  exact ⟨freshD 20, _, _, _, newM_fresh (n := 20) (by omega), fresh_fine (by omega), rfl, f1, f2, rfl, g1, g2, g3, (g4 10 (by omega)).trans f4, rfl, h1, h2⟩

set_option maxRecDepth 20000 in
set_option maxHeartbeats 8000000 in
theorem alive05_any (w : World) (ht : Tab w) : Calls Tryd.prog 4 #[] w fun e w' => e = .returned (.bool true) ∧ Below w.heap.size w w' := by
  have HT := Lib.hid ht
  obtain ⟨wa0, x1, x2, x3, m0, m1, m2, m3, m4, m5, m6, m7, m8, m9, m10, m11, m12⟩ := alive_model
  have M0 := Lib.hid m0; have M1 := Lib.hid m1; have M2 := Lib.hid m2; have M3 := Lib.hid m3; have M4 := Lib.hid m4; have M5 := Lib.hid m5; have M6 := Lib.hid m6; have M7 := Lib.hid m7; have M8 := Lib.hid m8; have M9 := Lib.hid m9; have M10 := Lib.hid m10; have M11 := Lib.hid m11; have M12 := Lib.hid m12
  clear m0 m1 m2 m3 m4 m5 m6 m7 m8 m9 m10 m11 m12 ht
  go_enter Tryd.func4, Tryd.ntmps4
  go_wp2_with fail
  have hnew := rnew_any 20 w
  rw [M0.out] at hnew
  refine hnew.mono ?_
  clear hnew
  intro e w1 hres
  obtain ⟨A, n, c, A', n', c', rfl, hd1, hb1⟩ := hres.zero
  have HB1 := Lib.hid hb1
  have HD1 := Lib.hid hd1
  clear hres hb1 hd1
  go_wp2_with fail
  refine calls_over (fun W => Bk W w1.heap.size 28 #[.slice A n c, .slice A' n' c', .int .i64 wa0.fuse, .bool wa0.down] ∧ DkAt W W.heap.size (.agg #[.slice A n c, .slice A' n' c', .int .i64 wa0.fuse, .bool wa0.down]) wa0 ∧ Below w.heap.size w W ∧ Rss W W.heap.size (some ⟨w1.heap.size + 1 + 1, 0, none⟩) 1 [[1]]) ⟨((Bk.new w1 _ _).alloc _).alloc _, HD1.out.later ((((Below.refl _ _).alloc (Nat.le_refl _) _).alloc (by simp) _).alloc (by simp only [World.size_alloc]; omega) _), HB1.out.trans (((((Below.refl w1.heap.size w1).alloc (Nat.le_refl _) _).alloc (by simp) _).alloc (by simp only [World.size_alloc]; omega) _).mono HB1.out.size), ?_⟩ ?_
  · have hby := Bytes.one (w1.alloc (.cells #[.slice A n c, .slice A' n' c', .int .i64 wa0.fuse, .bool wa0.down] 28)) (b := 1) (by omega) 5
    have := Rss.one ((w1.alloc (.cells #[.slice A n c, .slice A' n' c', .int .i64 wa0.fuse, .bool wa0.down] 28)).alloc (.cells #[.int .u8 1] 5)) (c := 1) hby (by omega) (by omega) (by unfold maxLen; omega) (by simp) 32
    simpa using this
  have hw1 : w.heap.size ≤ w1.heap.size := HB1.out.size
  clear HB1 HD1
  generalize w1.heap.size = b1 at *
  rintro W2 ⟨k1, kd, kb, kr⟩
  have e10 : wa0.secs.length / 2 = 10 := by rw [M1.out.2.1]
  have hfr := format_run _ wa0 _ 1 1 [[1]] W2 kd M1.out.1 kr (by omega) (by decide) (by decide) (by rw [e10]; decide) (HT.out.below kb HT.out.pos) (by rw [e10, M2.out]; exact M3.out)
  rw [e10, M2.out, show sumT [[1]] = 2 from by decide, show ([[1]] : List (List Nat)).length = 1 from rfl] at hfr
  refine hfr.mono ?_
  clear hfr kd kr e10
  rintro e W3 ⟨v3, rfl, hd3, hb3⟩
  replace k1 := k1.below hb3 k1.lt
  replace kb := kb.trans (hb3.mono kb.size)
  obtain ⟨A3, n3, c3, A3', n3', c3', rfl, hx3⟩ := hd3
  have hd3 : DkAt W3 W3.heap.size (.agg #[.slice A3 n3 c3, .slice A3' n3' c3', .int .i64 x1.1.fuse, .bool x1.1.down]) x1.1 := ⟨A3, n3, c3, A3', n3', c3', rfl, hx3⟩
  rw [M3.out]
  clear hx3 hb3
  obtain ⟨⟨p0, p1, p2, p3⟩, q0, q1, q2, q3⟩ := k1.four
  have K1 := Lib.hid k1; have KB := Lib.hid kb; have HD3 := Lib.hid hd3
  have l1 := k1.lt
  clear k1 kb hd3
  unfold logN
  have kc := fun (w : World) (C : Array Value) (n c : Nat) => Lib.run_convert_bytes_const (P := Tryd.prog) w 32 5 C n c Tryd.underlying32 Tryd.underlying5
  go_wp2_with ((with_reducible show wpList _ _ _ (⟨some 26, _, _, _, _, _⟩ :: _) _ _); refine hold ?_)
  have hst := stored4_facts K1.out (.slice A3 n3 c3) (.slice A3' n3' c3') (.int .i64 x1.1.fuse) (.bool x1.1.down)
  have HS : Hid ((fun W => Bk W b1 28 #[.slice A3 n3 c3, .slice A3' n3' c3', .int .i64 x1.1.fuse, .bool x1.1.down] ∧ Bk W W3.heap.size 35 #[.int .i64 0, .int .i64 1, .int .i64 2, .int .i64 1] ∧ DkAt W W.heap.size (.agg #[.slice A3 n3 c3, .slice A3' n3' c3', .int .i64 x1.1.fuse, .bool x1.1.down]) x1.1 ∧ Below w.heap.size w W) ((stored4 W3 b1 (.slice A3 n3 c3) (.slice A3' n3' c3') (.int .i64 x1.1.fuse) (.bool x1.1.down)).alloc (.cells #[.int .i64 0, .int .i64 1, .int .i64 2, .int .i64 1] 35))) :=
    Lib.hid ⟨hst.1.alloc (.cells #[.int .i64 0, .int .i64 1, .int .i64 2, .int .i64 1] 35), Bk.new' _ _ _ _ (by unfold stored4; simp), (hst.2.1 _ _ HD3.out).later ((Below.refl _ _).alloc (Nat.le_refl _) (.cells #[.int .i64 0, .int .i64 1, .int .i64 2, .int .i64 1] 35)), (hst.2.2.1 _ _ KB.out hw1).alloc (hst.2.2.1 _ _ KB.out hw1).size _⟩
  unfold stored4 at HS
  have hb13 : b1 < W3.heap.size := l1
  have hw3 : w.heap.size ≤ W3.heap.size := Nat.le_trans hw1 (Nat.le_of_lt l1)
  refine list_over (fun W => Bk W b1 28 #[.slice A3 n3 c3, .slice A3' n3' c3', .int .i64 x1.1.fuse, .bool x1.1.down] ∧ Bk W W3.heap.size 35 #[.int .i64 0, .int .i64 1, .int .i64 2, .int .i64 1] ∧ DkAt W W.heap.size (.agg #[.slice A3 n3 c3, .slice A3' n3' c3', .int .i64 x1.1.fuse, .bool x1.1.down]) x1.1 ∧ Below w.heap.size w W) HS.out ?_
  clear hst HS p0 p1 p2 p3 q0 q1 q2 q3 K1 KB HD3 l1
  generalize W3.heap.size = b3 at *
  rintro W4 ⟨k1, k3, kd, kb⟩
  have K1 := Lib.hid k1; have K3 := Lib.hid k3; have KD := Lib.hid kd; have KB := Lib.hid kb
  clear k1 k3 kd kb
  refine held ?_
  go_wp2_with fail
  have hba : Below W4.heap.size W4 (W4.alloc (.cells #[.int .u8 116, .int .u8 119, .int .u8 111] 5 (3, 4))) := (Below.refl _ _).alloc (Nat.le_refl _) _
  have hby : Bytes (W4.alloc (.cells #[.int .u8 116, .int .u8 119, .int .u8 111] 5 (3, 4))) (W4.alloc (.cells #[.int .u8 116, .int .u8 119, .int .u8 111] 5 (3, 4))).heap.size (some ⟨W4.heap.size, 0, none⟩) 3 [116, 119, 111] := by
    refine ⟨rfl, by decide, fun _ => ⟨W4.heap.size, 0, rfl, by simp, fun i hi => ?_⟩⟩
    rw [cell_of_row _ _ _ _ _ _ (heap_alloc_new W4 _)]
    have : i = 0 ∨ i = 1 ∨ i = 2 := by omega
    rcases this with rfl | rfl | rfl <;> rfl
  have hfit0 : LogFits x1.1 0 1 2 1 := ⟨by omega, by omega, by omega, by omega, by rw [M4.out.2.1]; omega, by omega, by omega⟩
  have hap := append_run _ x1.1 0 1 2 1 _ 3 3 [116, 119, 111] (W4.alloc (.cells #[.int .u8 116, .int .u8 119, .int .u8 111] 5 (3, 4))) (KD.out.later hba) M4.out.1 hfit0 hby (by omega) (by unfold maxLen; omega) (HT.out.below (KB.out.trans (hba.mono KB.out.size)) HT.out.pos) (by omega) (by decide) (by rw [M4.out.2.1]; decide) (by rw [Nat.zero_mul, Nat.zero_add, M5.out]; exact .inl M6.out)
  rw [Nat.zero_mul, Nat.zero_add, M5.out] at hap
  unfold appLog at hap
  rw [if_pos M6.out] at hap
  unfold logN at hap
  refine hap.mono ?_
  clear hap hfit0 hby
  rintro e W5 ⟨v5, rfl, hd5, hb5⟩
  rw [M6.out]
  have hb45 := hba.trans (hb5.mono hba.size)
  obtain ⟨A6, n6, c6, A6', n6', c6', rfl, hx6⟩ := hd5
  have hd6 : DkAt W5 W5.heap.size (.agg #[.slice A6 n6 c6, .slice A6' n6' c6', .int .i64 x2.1.fuse, .bool x2.1.down]) x2.1 := ⟨A6, n6, c6, A6', n6', c6', rfl, hx6⟩
  have HN6 : Hid (n6 = 20) := Lib.hid (by have := hx6.2.2.2.2.1.1; rw [List.length_map, M7.out.2.1] at this; exact this.symm)
  have k1 := K1.out.below hb45 K1.out.lt
  have k3 := K3.out.below hb45 K3.out.lt
  have kb := KB.out.trans (hb45.mono KB.out.size)
  clear hx6 hb5 hba hb45 K1 K3 KB KD kc
  obtain ⟨⟨p0, p1, p2, p3⟩, q0, q1, q2, q3⟩ := k1.four
  obtain ⟨⟨r0, r1, r2, r3⟩, s0, s1, s2, s3⟩ := k3.four
  have hb31 : b3 ≠ b1 := by omega
  have hf1 := stored4_facts k1 (.slice A6 n6 c6) (.slice A6' n6' c6') (.int .i64 x2.1.fuse) (.bool x2.1.down)
  have hf3 := stored4_facts (hf1.2.2.2 _ _ _ hb31 k3) (.int .i64 0) (.int .i64 1) (.int .i64 4) (.int .i64 2)
  have HS : Hid ((fun W => Bk W b1 28 #[.slice A6 n6 c6, .slice A6' n6' c6', .int .i64 x2.1.fuse, .bool x2.1.down] ∧ Bk W b3 35 #[.int .i64 0, .int .i64 1, .int .i64 4, .int .i64 2] ∧ DkAt W W.heap.size (.agg #[.slice A6 n6 c6, .slice A6' n6' c6', .int .i64 x2.1.fuse, .bool x2.1.down]) x2.1 ∧ Below w.heap.size w W) (stored4 (stored4 W5 b1 (.slice A6 n6 c6) (.slice A6' n6' c6') (.int .i64 x2.1.fuse) (.bool x2.1.down)) b3 (.int .i64 0) (.int .i64 1) (.int .i64 4) (.int .i64 2))) := Lib.hid ⟨hf3.2.2.2 _ _ _ hb31.symm hf1.1, hf3.1, hf3.2.1 _ _ (hf1.2.1 _ _ hd6), hf3.2.2.1 _ _ (hf1.2.2.1 _ _ kb hw1) hw3⟩
  unfold stored4 at HS
  clear k1 k3 kb hf1 hf3 hd6
  simp only [show takesN 3 = 2 from by decide]
  go_wp2_with fail
  refine calls_over (fun W => Bk W b1 28 #[.slice A6 n6 c6, .slice A6' n6' c6', .int .i64 x2.1.fuse, .bool x2.1.down] ∧ Bk W b3 35 #[.int .i64 0, .int .i64 1, .int .i64 4, .int .i64 2] ∧ DkAt W W.heap.size (.agg #[.slice A6 n6 c6, .slice A6' n6' c6', .int .i64 x2.1.fuse, .bool x2.1.down]) x2.1 ∧ Below w.heap.size w W) HS.out ?_
  clear HS p0 p1 p2 p3 q0 q1 q2 q3 r0 r1 r2 r3 s0 s1 s2 s3
  rintro W6 ⟨k1, k3, kd, kb⟩
  have e20 : x2.1.secs.length / 2 = 10 := by rw [M7.out.2.1]
  have hop := open_ok0 _ x2.1 1 0 [[1], [116, 119, 111]] W6 kd M7.out.1 M7.out.2.2.2.2 (.inr (by rw [e20]; exact M8.out.1.head (by decide))) (.inl ⟨rfl, by rw [e20]; exact M9.out⟩) (by omega) (by rw [e20]; exact M8.out.1) (by decide) (by omega) (HT.out.below kb HT.out.pos) (by rw [e20, M10.out]; exact M11.out)
  rw [e20, M10.out] at hop
  refine hop.mono ?_
  clear hop e20 kd
  rintro e W7 ⟨v7, AL, cL, rfl, hd7, hcap, hcm, hrs, hb7, hat7⟩
  rw [M11.out]
  unfold logN
  simp only [show sumT [[1], [116, 119, 111]] = 4 from by decide, show ([[1], [116, 119, 111]] : List (List Nat)).length = 2 from rfl] at *
  obtain ⟨A7, n7, c7, A7', n7', c7', rfl, hx7⟩ := hd7
  have hd7 : DkAt W7 W7.heap.size (.agg #[.slice A7 n7 c7, .slice A7' n7' c7', .int .i64 x3.1.fuse, .bool x3.1.down]) x3.1 := ⟨A7, n7, c7, A7', n7', c7', rfl, hx7⟩
  replace k1 := k1.below hb7 k1.lt
  replace k3 := k3.below hb7 k3.lt
  replace kb := kb.trans (hb7.mono kb.size)
  obtain ⟨⟨p0, p1, p2, p3⟩, q0, q1, q2, q3⟩ := k1.four
  obtain ⟨⟨r0, r1, r2, r3⟩, s0, s1, s2, s3⟩ := k3.four
  have hAL : ∃ b o, AL = some ⟨b, o, none⟩ ∧ b ≠ b1 ∧ b ≠ b3 := by
    obtain ⟨b, o, e, hb, hc⟩ := hrs.2 (by omega)
    obtain ⟨Ax, nx, cx, e0, -, -, -, y0⟩ := hc 0 (by omega)
    obtain ⟨Ay, ny, cy, e1, -, -, -, y1⟩ := hc 1 (by omega)
    have z0 : nx = 1 := y0.1.symm
    have z1 : ny = 3 := y1.1.symm
    refine ⟨b, o, e, ?_, ?_⟩
    · rintro rfl
      rcases four_cell k1 e0 with ⟨o0, v0⟩ | ⟨o0, v0⟩ | ⟨o0, v0⟩ | ⟨o0, v0⟩
      · have := HN6.out
        simp only [Value.slice.injEq] at v0
        omega
      · rcases four_cell k1 e1 with ⟨o1, v1⟩ | ⟨o1, v1⟩ | ⟨o1, v1⟩ | ⟨o1, v1⟩
        · omega
        · omega
        · cases v1
        · cases v1
      · cases v0
      · cases v0
    · rintro rfl
      rcases four_cell k3 e0 with ⟨o0, v0⟩ | ⟨o0, v0⟩ | ⟨o0, v0⟩ | ⟨o0, v0⟩ <;> cases v0
  have hf1 := stored4_facts k1 (.slice A7 n7 c7) (.slice A7' n7' c7') (.int .i64 x3.1.fuse) (.bool x3.1.down)
  have hf3 := stored4_facts (hf1.2.2.2 _ _ _ hb31 k3) (.int .i64 1) (.int .i64 2) (.int .i64 4) (.int .i64 2)
  have hrs1 := rss_stored4 (b := b1) hrs (fun o k h => by rcases four_cell k1 h with ⟨_, h⟩ | ⟨_, h⟩ | ⟨_, h⟩ | ⟨_, h⟩ <;> cases h) (fun o _ e => by obtain ⟨b, o', e', h1, _⟩ := hAL; rw [e'] at e; exact h1 (by injection e with e; injection e)) (.slice A7 n7 c7) (.slice A7' n7' c7') (.int .i64 x3.1.fuse) (.bool x3.1.down)
  have hrs3 := rss_stored4 (b := b3) hrs1 (fun o k h => by rcases four_cell (hf1.2.2.2 _ _ _ hb31 k3) h with ⟨_, h⟩ | ⟨_, h⟩ | ⟨_, h⟩ | ⟨_, h⟩ <;> cases h) (fun o _ e => by obtain ⟨b, o', e', _, h1⟩ := hAL; rw [e'] at e; exact h1 (by injection e with e; injection e)) (.int .i64 1) (.int .i64 2) (.int .i64 4) (.int .i64 2)
  have HS : Hid ((fun W => Bk W b1 28 #[.slice A7 n7 c7, .slice A7' n7' c7', .int .i64 x3.1.fuse, .bool x3.1.down] ∧ Bk W b3 35 #[.int .i64 1, .int .i64 2, .int .i64 4, .int .i64 2] ∧ DkAt W W.heap.size (.agg #[.slice A7 n7 c7, .slice A7' n7' c7', .int .i64 x3.1.fuse, .bool x3.1.down]) x3.1 ∧ Rss W W.heap.size AL 2 [[1], [116, 119, 111]] ∧ Below w.heap.size w W) (stored4 (stored4 W7 b1 (.slice A7 n7 c7) (.slice A7' n7' c7') (.int .i64 x3.1.fuse) (.bool x3.1.down)) b3 (.int .i64 1) (.int .i64 2) (.int .i64 4) (.int .i64 2))) := Lib.hid ⟨hf3.2.2.2 _ _ _ hb31.symm hf1.1, hf3.1, hf3.2.1 _ _ (hf1.2.1 _ _ hd7), hrs3.more (by unfold stored4; simp), hf3.2.2.1 _ _ (hf1.2.2.1 _ _ kb hw1) hw3⟩
  unfold stored4 at HS
  clear k1 k3 kb hf1 hf3 hd7 hrs hrs1 hrs3 hAL hx7 hb7 HN6
  go_wp2_with fail
  refine code_over (fun W => Bk W b1 28 #[.slice A7 n7 c7, .slice A7' n7' c7', .int .i64 x3.1.fuse, .bool x3.1.down] ∧ Bk W b3 35 #[.int .i64 1, .int .i64 2, .int .i64 4, .int .i64 2] ∧ DkAt W W.heap.size (.agg #[.slice A7 n7 c7, .slice A7' n7' c7', .int .i64 x3.1.fuse, .bool x3.1.down]) x3.1 ∧ Rss W W.heap.size AL 2 [[1], [116, 119, 111]] ∧ Below w.heap.size w W) HS.out ?_
  clear HS p0 p1 p2 p3 q0 q1 q2 q3 r0 r1 r2 r3 s0 s1 s2 s3
  rintro W8 ⟨k1, k3, kd, kr, kb⟩
  have HK1 := Lib.hid k1; have HK3 := Lib.hid k3; have HKD := Lib.hid kd; have HKR := Lib.hid kr; have HKB := Lib.hid kb
  obtain ⟨⟨p0, p1, p2, p3⟩, q0, q1, q2, q3⟩ := k1.four
  have h20 : x3.1.secs.length = 20 := M12.out.2.1
  have hap : ∀ (W : World) (A : Option Addr), Below W8.heap.size W8 W → Calls Tryd.prog 9 #[.agg #[.slice A7 n7 c7, .slice A7' n7' c7', .int .i64 x3.1.fuse, .bool x3.1.down], .agg #[.int .i64 1, .int .i64 2, .int .i64 4, .int .i64 2], .slice A 500 500] W (LogRes W (x3.1, 8) (.agg #[.int .i64 1, .int .i64 2, .int .i64 4, .int .i64 2])) := fun W A hb => by
    have := append_full _ x3.1 1 2 4 2 A 500 500 W (HKD.out.later hb) M12.out.1 ⟨by omega, by omega, by omega, by omega, by rw [h20]; omega, by omega, by omega⟩ (by omega) (by decide) (by rw [h20]; decide)
    unfold logN at this
    exact this
  clear k1 k3 kd kr kb h20 p0 p1 p2 p3 q0 q1 q2 q3
  have hm : Tryd.prog.follows .mixedOrders = true := by kernel_rfl
  refine wp_region_held_drew (S := fun W' => Below W8.heap.size W8 W') hm ((Below.refl _ _).drew) (fun hHeld => ?_)
  generalize W8.drew = W9 at *
  simp only [List.size_toArray, List.length_cons, List.length_nil, Nat.reduceAdd]
  refine wpAnyH_take (i := 0) (v := .agg #[.slice A7 n7 c7, .slice A7' n7' c7', .int .i64 x3.1.fuse, .bool x3.1.down]) rfl (by kernel_rfl) (by kernel_rfl) (by kernel_rfl) (fun _ _ _ h => h) (Or.inl ⟨by rfl, fun w0 hC => by have := (HK1.out.below hC HK1.out.lt).four.1; simp [execOp, Act.eval, Act.put, go_sem, this.1, this.2.1, this.2.2.1, this.2.2.2]⟩) hHeld ?_
  try simp only [Act.put, List.setIfInBounds_toArray, List.set_cons_zero, List.set_cons_succ, List.getElem_toArray, List.getElem_cons_zero, List.getElem_cons_succ]
  refine wpAnyH_take (i := 1) (v := .agg #[.int .i64 1, .int .i64 2, .int .i64 4, .int .i64 2]) rfl (by kernel_rfl) (by kernel_rfl) (by kernel_rfl) (fun _ _ _ h => h) (Or.inl ⟨by rfl, fun w0 hC => by have := (HK3.out.below hC HK3.out.lt).four.1; simp [execOp, Act.eval, Act.put, go_sem, this.1, this.2.1, this.2.2.1, this.2.2.2]⟩) hHeld ?_
  try simp only [Act.put, List.setIfInBounds_toArray, List.set_cons_zero, List.set_cons_succ, List.getElem_toArray, List.getElem_cons_zero, List.getElem_cons_succ]
  refine wpAnyH_ready (rs := [2, 8, 9]) (by kernel_rfl) (by simp) (AllReadyH.cons rfl (fun K hK => ?_) (AllReadyH.cons rfl (fun K hK => ?_) (AllReadyH.cons rfl (fun K hK => ?_) AllReadyH.nil)))
  · rw [if_pos (by rfl)]
    go_wp2_with fail
    refine k_over (fun W' => Below W9.heap.size W9 W') ((Below.refl _ _).alloc (Nat.le_refl _) _) ?_
    intro V1 hba
    generalize hz42 : W9.heap.size = b42 at hba ⊢
    rw [← hz42] at hba
    clear hz42
    have hSa := hHeld.trans (hba.mono hHeld.size)
    clear hba hHeld
    refine hK.out _ _ hSa (fun hHeld => ?_)
    clear hK K
    try simp only [Act.put, List.setIfInBounds_toArray, List.set_cons_zero, List.set_cons_succ, List.getElem_toArray, List.getElem_cons_zero, List.getElem_cons_succ]
    clear hSa
    refine wpAnyH_ready (rs := [3, 8, 9]) (by kernel_rfl) (by simp) (AllReadyH.cons rfl (fun K hK => ?_) (AllReadyH.cons rfl (fun K hK => ?_) (AllReadyH.cons rfl (fun K hK => ?_) AllReadyH.nil)))
    · rw [if_pos (by rfl)]
      go_wp2_with fail
      refine (hap V1 _ hHeld).mono ?_
      rintro e V2 ⟨v9, rfl, hd9, hba⟩
      obtain ⟨A9, n9, c9, A9', n9', c9', rfl, -⟩ := hd9
      have hSa := hHeld.trans (hba.mono hHeld.size)
      clear hba hHeld
      refine hK.out _ _ hSa (fun hHeld => ?_)
      clear hK K
      try simp only [Act.put, List.setIfInBounds_toArray, List.set_cons_zero, List.set_cons_succ, List.getElem_toArray, List.getElem_cons_zero, List.getElem_cons_succ]
      clear hSa
      refine wpAnyH_take (i := 4) (v := .tuple #[.agg #[.slice A9 n9 c9, .slice A9' n9' c9', .int .i64 x3.1.fuse, .bool x3.1.down], .agg #[.int .i64 1, .int .i64 2, .int .i64 4, .int .i64 2], .int .i64 8]) rfl (by kernel_rfl) (by kernel_rfl) (by kernel_rfl) (fun _ _ _ h => h) (Or.inl ⟨by rfl, fun w0 hC => by simp [execOp, Act.eval, Act.put, go_sem]⟩) hHeld ?_
      try simp only [Act.put, List.setIfInBounds_toArray, List.set_cons_zero, List.set_cons_succ, List.getElem_toArray, List.getElem_cons_zero, List.getElem_cons_succ]
      refine wpAnyH_take (i := 5) (v := .agg #[.slice A9 n9 c9, .slice A9' n9' c9', .int .i64 x3.1.fuse, .bool x3.1.down]) rfl (by kernel_rfl) (by kernel_rfl) (by kernel_rfl) (fun _ _ _ h => h) (Or.inl ⟨by rfl, fun w0 hC => by simp [execOp, Act.eval, Act.put, go_sem]⟩) hHeld ?_
      try simp only [Act.put, List.setIfInBounds_toArray, List.set_cons_zero, List.set_cons_succ, List.getElem_toArray, List.getElem_cons_zero, List.getElem_cons_succ]
      refine wpAnyH_take (i := 6) (v := .agg #[.int .i64 1, .int .i64 2, .int .i64 4, .int .i64 2]) rfl (by kernel_rfl) (by kernel_rfl) (by kernel_rfl) (fun _ _ _ h => h) (Or.inl ⟨by rfl, fun w0 hC => by simp [execOp, Act.eval, Act.put, go_sem]⟩) hHeld ?_
      try simp only [Act.put, List.setIfInBounds_toArray, List.set_cons_zero, List.set_cons_succ, List.getElem_toArray, List.getElem_cons_zero, List.getElem_cons_succ]
      refine wpAnyH_take (i := 7) (v := .int .i64 8) rfl (by kernel_rfl) (by kernel_rfl) (by kernel_rfl) (fun _ _ _ h => h) (Or.inl ⟨by rfl, fun w0 hC => by simp [execOp, Act.eval, Act.put, go_sem]⟩) hHeld ?_
      try simp only [Act.put, List.setIfInBounds_toArray, List.set_cons_zero, List.set_cons_succ, List.getElem_toArray, List.getElem_cons_zero, List.getElem_cons_succ]
      refine wpAnyH_ready (rs := [8, 9]) (by kernel_rfl) (by simp) (AllReadyH.cons rfl (fun K hK => ?_) (AllReadyH.cons rfl (fun K hK => ?_) AllReadyH.nil))
      · rw [if_pos (by rfl)]
        go_wp2_with fail
        have hl8 : W8.heap.size ≤ V2.heap.size := hHeld.size
        refine k_over (fun W' => Below V2.heap.size V2 W' ∧ Bk W' V2.heap.size 28 #[.slice none 0 0, .slice none 0 0, .int .i64 0, .bool false]) ⟨(Below.refl _ _).alloc (Nat.le_refl _) _, Bk.new V2 _ _⟩ ?_
        rintro V3 ⟨hba, hk8⟩
        obtain ⟨b8, hz⟩ : ∃ b, b = V2.heap.size := ⟨_, rfl⟩
        rw [← hz] at hk8 hl8 ⊢
        clear hz
        have hSa := hHeld.trans (hba.mono hHeld.size)
        clear hba hHeld
        refine hK.out _ _ hSa (fun hHeld => ?_)
        clear hK K
        try simp only [Act.put, List.setIfInBounds_toArray, List.set_cons_zero, List.set_cons_succ, List.getElem_toArray, List.getElem_cons_zero, List.getElem_cons_succ]
        clear hSa
        refine wpAnyH_ready (rs := [9]) (by kernel_rfl) (by simp) (AllReadyH.cons rfl (fun K hK => ?_) AllReadyH.nil)
        rw [if_pos (by rfl)]
        go_wp2_with fail
        have hl9 : W8.heap.size ≤ V3.heap.size := hHeld.size
        have hne : V3.heap.size ≠ b8 := by have := hk8.lt; omega
        refine k_over (fun W' => Below V3.heap.size V3 W' ∧ Bk W' V3.heap.size 35 #[.int .i64 0, .int .i64 0, .int .i64 0, .int .i64 0]) ⟨(Below.refl _ _).alloc (Nat.le_refl _) _, Bk.new V3 _ _⟩ ?_
        rintro V4 ⟨hba, hk9⟩
        obtain ⟨b9, hz⟩ : ∃ b, b = V3.heap.size := ⟨_, rfl⟩
        rw [← hz] at hk9 hl9 ⊢
        rw [← hz] at hne
        clear hz
        have hSa := hHeld.trans (hba.mono hHeld.size)
        replace hk8 := hk8.below hba hk8.lt
        clear hba hHeld
        refine hK.out _ _ hSa (fun hHeld => ?_)
        clear hK K
        try simp only [Act.put, List.setIfInBounds_toArray, List.set_cons_zero, List.set_cons_succ, List.getElem_toArray, List.getElem_cons_zero, List.getElem_cons_succ]
        clear hSa
        have hf8 := stored4_facts hk8 (.slice A9 n9 c9) (.slice A9' n9' c9') (.int .i64 x3.1.fuse) (.bool x3.1.down)
        have HS : Hid ((fun W' => Below W8.heap.size W8 W' ∧ Bk W' b9 35 #[.int .i64 0, .int .i64 0, .int .i64 0, .int .i64 0]) (stored4 V4 b8 (.slice A9 n9 c9) (.slice A9' n9' c9') (.int .i64 x3.1.fuse) (.bool x3.1.down))) := Lib.hid ⟨hf8.2.2.1 _ _ hHeld hl8, hf8.2.2.2 _ _ _ hne hk9⟩
        unfold stored4 at HS
        obtain ⟨⟨p0, p1, p2, p3⟩, q0, q1, q2, q3⟩ := hk8.four
        clear hf8 hk9
        refine wpAnyH_ready (rs := [10]) (by kernel_rfl) (by simp) (AllReadyH.cons rfl (fun K hK => ?_) AllReadyH.nil)
        rw [if_pos (by rfl)]
        go_wp2_with fail
        refine k_over (fun W' => Below W8.heap.size W8 W' ∧ Bk W' b9 35 #[.int .i64 0, .int .i64 0, .int .i64 0, .int .i64 0]) HS.out ?_
        clear HS hk8 p0 p1 p2 p3 q0 q1 q2 q3 hHeld
        rintro U1 ⟨hSa, hk9⟩
        refine hK.out _ _ hSa (fun hHeld => ?_)
        clear hK K
        try simp only [Act.put, List.setIfInBounds_toArray, List.set_cons_zero, List.set_cons_succ, List.getElem_toArray, List.getElem_cons_zero, List.getElem_cons_succ]
        clear hSa
        have hf9 := stored4_facts hk9 (.int .i64 1) (.int .i64 2) (.int .i64 4) (.int .i64 2)
        have HS : Hid ((fun W' => Below W8.heap.size W8 W') (stored4 U1 b9 (.int .i64 1) (.int .i64 2) (.int .i64 4) (.int .i64 2))) := Lib.hid (hf9.2.2.1 _ _ hHeld hl9)
        unfold stored4 at HS
        obtain ⟨⟨p0, p1, p2, p3⟩, q0, q1, q2, q3⟩ := hk9.four
        clear hf9
        refine wpAnyH_ready (rs := [11]) (by kernel_rfl) (by simp) (AllReadyH.cons rfl (fun K hK => ?_) AllReadyH.nil)
        rw [if_pos (by rfl)]
        go_wp2_with fail
        refine k_over (fun W' => Below W8.heap.size W8 W') HS.out ?_
        clear HS hk9 p0 p1 p2 p3 q0 q1 q2 q3 hHeld
        rintro U2 hSa
        refine hK.out _ _ hSa (fun hHeld => ?_)
        clear hK K
        try simp only [Act.put, List.setIfInBounds_toArray, List.set_cons_zero, List.set_cons_succ, List.getElem_toArray, List.getElem_cons_zero, List.getElem_cons_succ]
        clear hSa
        refine wpAnyH_ready (rs := [12]) (by kernel_rfl) (by simp) (AllReadyH.cons rfl (fun K hK => ?_) AllReadyH.nil)
        rw [if_pos (by rfl)]
        go_wp2_with fail
        have hSa := hHeld
        refine hK.out _ _ hSa (fun hHeld => ?_)
        clear hK K
        try simp only [Act.put, List.setIfInBounds_toArray, List.set_cons_zero, List.set_cons_succ, List.getElem_toArray, List.getElem_cons_zero, List.getElem_cons_succ]
        clear hSa
        refine wpAnyH_done (by kernel_rfl) ?_ _
        have k3 := HK3.out.below hHeld HK3.out.lt
        have kr := HKR.out.below hHeld (Nat.le_refl _)
        have kb := HKB.out.trans (hHeld.mono HKB.out.size)
        obtain ⟨bl, ol, Al, nl, cl, hAL, hbl, hcl, -, -, -, hby⟩ := kr.at_ (k := 1) (by omega)
        obtain rfl := hAL
        have hnl : nl = 3 := hby.1.symm
        subst hnl
        have hstr := run_str_of_bytes (P := Tryd.prog) (n := 3) (c := cl) hby (src := 32) (dst := 9) (e := 5) Tryd.underlying32 Tryd.underlying5 Tryd.underlying9
        rw [show strOf (textAt [[1], [116, 119, 111]] 1) = ⟨#[116, 119, 111]⟩ from by decide] at hstr
        obtain ⟨⟨r0, r1, r2, r3⟩, s0, s1, s2, s3⟩ := k3.four
        have KB := Lib.hid kb
        clear kr kb hby k3 hHeld HK1 HK3 HKD HKR HKB hap
        go_wp2_with fail
        go_ret
        exact ⟨rfl, KB.out⟩
      · rw [if_pos (by rfl)]
        go_wp2_with fail
        have hl9 : W8.heap.size ≤ V2.heap.size := hHeld.size
        refine k_over (fun W' => Below V2.heap.size V2 W' ∧ Bk W' V2.heap.size 35 #[.int .i64 0, .int .i64 0, .int .i64 0, .int .i64 0]) ⟨(Below.refl _ _).alloc (Nat.le_refl _) _, Bk.new V2 _ _⟩ ?_
        rintro V5 ⟨hba, hk9⟩
        obtain ⟨b9, hz⟩ : ∃ b, b = V2.heap.size := ⟨_, rfl⟩
        rw [← hz] at hk9 hl9 ⊢
        clear hz
        have hSa := hHeld.trans (hba.mono hHeld.size)
        clear hba hHeld
        refine hK.out _ _ hSa (fun hHeld => ?_)
        clear hK K
        try simp only [Act.put, List.setIfInBounds_toArray, List.set_cons_zero, List.set_cons_succ, List.getElem_toArray, List.getElem_cons_zero, List.getElem_cons_succ]
        clear hSa
        refine wpAnyH_ready (rs := [8]) (by kernel_rfl) (by simp) (AllReadyH.cons rfl (fun K hK => ?_) AllReadyH.nil)
        rw [if_pos (by rfl)]
        go_wp2_with fail
        have hl8 : W8.heap.size ≤ V5.heap.size := hHeld.size
        have hne : b9 ≠ V5.heap.size := by have := hk9.lt; omega
        refine k_over (fun W' => Below V5.heap.size V5 W' ∧ Bk W' V5.heap.size 28 #[.slice none 0 0, .slice none 0 0, .int .i64 0, .bool false]) ⟨(Below.refl _ _).alloc (Nat.le_refl _) _, Bk.new V5 _ _⟩ ?_
        rintro V6 ⟨hba, hk8⟩
        obtain ⟨b8, hz⟩ : ∃ b, b = V5.heap.size := ⟨_, rfl⟩
        rw [← hz] at hk8 hl8 ⊢
        rw [← hz] at hne
        clear hz
        have hSa := hHeld.trans (hba.mono hHeld.size)
        replace hk9 := hk9.below hba hk9.lt
        clear hba hHeld
        refine hK.out _ _ hSa (fun hHeld => ?_)
        clear hK K
        try simp only [Act.put, List.setIfInBounds_toArray, List.set_cons_zero, List.set_cons_succ, List.getElem_toArray, List.getElem_cons_zero, List.getElem_cons_succ]
        clear hSa
        have hf8 := stored4_facts hk8 (.slice A9 n9 c9) (.slice A9' n9' c9') (.int .i64 x3.1.fuse) (.bool x3.1.down)
        have HS : Hid ((fun W' => Below W8.heap.size W8 W' ∧ Bk W' b9 35 #[.int .i64 0, .int .i64 0, .int .i64 0, .int .i64 0]) (stored4 V6 b8 (.slice A9 n9 c9) (.slice A9' n9' c9') (.int .i64 x3.1.fuse) (.bool x3.1.down))) := Lib.hid ⟨hf8.2.2.1 _ _ hHeld hl8, hf8.2.2.2 _ _ _ hne hk9⟩
        unfold stored4 at HS
        obtain ⟨⟨p0, p1, p2, p3⟩, q0, q1, q2, q3⟩ := hk8.four
        clear hf8 hk9
        refine wpAnyH_ready (rs := [10]) (by kernel_rfl) (by simp) (AllReadyH.cons rfl (fun K hK => ?_) AllReadyH.nil)
        rw [if_pos (by rfl)]
        go_wp2_with fail
        refine k_over (fun W' => Below W8.heap.size W8 W' ∧ Bk W' b9 35 #[.int .i64 0, .int .i64 0, .int .i64 0, .int .i64 0]) HS.out ?_
        clear HS hk8 p0 p1 p2 p3 q0 q1 q2 q3 hHeld
        rintro U1 ⟨hSa, hk9⟩
        refine hK.out _ _ hSa (fun hHeld => ?_)
        clear hK K
        try simp only [Act.put, List.setIfInBounds_toArray, List.set_cons_zero, List.set_cons_succ, List.getElem_toArray, List.getElem_cons_zero, List.getElem_cons_succ]
        clear hSa
        have hf9 := stored4_facts hk9 (.int .i64 1) (.int .i64 2) (.int .i64 4) (.int .i64 2)
        have HS : Hid ((fun W' => Below W8.heap.size W8 W') (stored4 U1 b9 (.int .i64 1) (.int .i64 2) (.int .i64 4) (.int .i64 2))) := Lib.hid (hf9.2.2.1 _ _ hHeld hl9)
        unfold stored4 at HS
        obtain ⟨⟨p0, p1, p2, p3⟩, q0, q1, q2, q3⟩ := hk9.four
        clear hf9
        refine wpAnyH_ready (rs := [11]) (by kernel_rfl) (by simp) (AllReadyH.cons rfl (fun K hK => ?_) AllReadyH.nil)
        rw [if_pos (by rfl)]
        go_wp2_with fail
        refine k_over (fun W' => Below W8.heap.size W8 W') HS.out ?_
        clear HS hk9 p0 p1 p2 p3 q0 q1 q2 q3 hHeld
        rintro U2 hSa
        refine hK.out _ _ hSa (fun hHeld => ?_)
        clear hK K
        try simp only [Act.put, List.setIfInBounds_toArray, List.set_cons_zero, List.set_cons_succ, List.getElem_toArray, List.getElem_cons_zero, List.getElem_cons_succ]
        clear hSa
        refine wpAnyH_ready (rs := [12]) (by kernel_rfl) (by simp) (AllReadyH.cons rfl (fun K hK => ?_) AllReadyH.nil)
        rw [if_pos (by rfl)]
        go_wp2_with fail
        have hSa := hHeld
        refine hK.out _ _ hSa (fun hHeld => ?_)
        clear hK K
        try simp only [Act.put, List.setIfInBounds_toArray, List.set_cons_zero, List.set_cons_succ, List.getElem_toArray, List.getElem_cons_zero, List.getElem_cons_succ]
        clear hSa
        refine wpAnyH_done (by kernel_rfl) ?_ _
        have k3 := HK3.out.below hHeld HK3.out.lt
        have kr := HKR.out.below hHeld (Nat.le_refl _)
        have kb := HKB.out.trans (hHeld.mono HKB.out.size)
        obtain ⟨bl, ol, Al, nl, cl, hAL, hbl, hcl, -, -, -, hby⟩ := kr.at_ (k := 1) (by omega)
        obtain rfl := hAL
        have hnl : nl = 3 := hby.1.symm
        subst hnl
        have hstr := run_str_of_bytes (P := Tryd.prog) (n := 3) (c := cl) hby (src := 32) (dst := 9) (e := 5) Tryd.underlying32 Tryd.underlying5 Tryd.underlying9
        rw [show strOf (textAt [[1], [116, 119, 111]] 1) = ⟨#[116, 119, 111]⟩ from by decide] at hstr
        obtain ⟨⟨r0, r1, r2, r3⟩, s0, s1, s2, s3⟩ := k3.four
        have KB := Lib.hid kb
        clear kr kb hby k3 hHeld HK1 HK3 HKD HKR HKB hap
        go_wp2_with fail
        go_ret
        exact ⟨rfl, KB.out⟩
    · rw [if_pos (by rfl)]
      go_wp2_with fail
      have hl8 : W8.heap.size ≤ V1.heap.size := hHeld.size
      refine k_over (fun W' => Below V1.heap.size V1 W' ∧ Bk W' V1.heap.size 28 #[.slice none 0 0, .slice none 0 0, .int .i64 0, .bool false]) ⟨(Below.refl _ _).alloc (Nat.le_refl _) _, Bk.new V1 _ _⟩ ?_
      rintro V7 ⟨hba, hk8⟩
      obtain ⟨b8, hz⟩ : ∃ b, b = V1.heap.size := ⟨_, rfl⟩
      rw [← hz] at hk8 hl8 ⊢
      clear hz
      have hSa := hHeld.trans (hba.mono hHeld.size)
      clear hba hHeld
      refine hK.out _ _ hSa (fun hHeld => ?_)
      clear hK K
      try simp only [Act.put, List.setIfInBounds_toArray, List.set_cons_zero, List.set_cons_succ, List.getElem_toArray, List.getElem_cons_zero, List.getElem_cons_succ]
      clear hSa
      refine wpAnyH_ready (rs := [3, 9]) (by kernel_rfl) (by simp) (AllReadyH.cons rfl (fun K hK => ?_) (AllReadyH.cons rfl (fun K hK => ?_) AllReadyH.nil))
      · rw [if_pos (by rfl)]
        go_wp2_with fail
        refine (hap V7 _ hHeld).mono ?_
        rintro e V8 ⟨v9, rfl, hd9, hba⟩
        obtain ⟨A9, n9, c9, A9', n9', c9', rfl, -⟩ := hd9
        have hSa := hHeld.trans (hba.mono hHeld.size)
        replace hk8 := hk8.below hba hk8.lt
        clear hba hHeld
        refine hK.out _ _ hSa (fun hHeld => ?_)
        clear hK K
        try simp only [Act.put, List.setIfInBounds_toArray, List.set_cons_zero, List.set_cons_succ, List.getElem_toArray, List.getElem_cons_zero, List.getElem_cons_succ]
        clear hSa
        refine wpAnyH_take (i := 4) (v := .tuple #[.agg #[.slice A9 n9 c9, .slice A9' n9' c9', .int .i64 x3.1.fuse, .bool x3.1.down], .agg #[.int .i64 1, .int .i64 2, .int .i64 4, .int .i64 2], .int .i64 8]) rfl (by kernel_rfl) (by kernel_rfl) (by kernel_rfl) (fun _ _ _ h => h) (Or.inl ⟨by rfl, fun w0 hC => by simp [execOp, Act.eval, Act.put, go_sem]⟩) hHeld ?_
        try simp only [Act.put, List.setIfInBounds_toArray, List.set_cons_zero, List.set_cons_succ, List.getElem_toArray, List.getElem_cons_zero, List.getElem_cons_succ]
        refine wpAnyH_take (i := 5) (v := .agg #[.slice A9 n9 c9, .slice A9' n9' c9', .int .i64 x3.1.fuse, .bool x3.1.down]) rfl (by kernel_rfl) (by kernel_rfl) (by kernel_rfl) (fun _ _ _ h => h) (Or.inl ⟨by rfl, fun w0 hC => by simp [execOp, Act.eval, Act.put, go_sem]⟩) hHeld ?_
        try simp only [Act.put, List.setIfInBounds_toArray, List.set_cons_zero, List.set_cons_succ, List.getElem_toArray, List.getElem_cons_zero, List.getElem_cons_succ]
        refine wpAnyH_take (i := 6) (v := .agg #[.int .i64 1, .int .i64 2, .int .i64 4, .int .i64 2]) rfl (by kernel_rfl) (by kernel_rfl) (by kernel_rfl) (fun _ _ _ h => h) (Or.inl ⟨by rfl, fun w0 hC => by simp [execOp, Act.eval, Act.put, go_sem]⟩) hHeld ?_
        try simp only [Act.put, List.setIfInBounds_toArray, List.set_cons_zero, List.set_cons_succ, List.getElem_toArray, List.getElem_cons_zero, List.getElem_cons_succ]
        refine wpAnyH_take (i := 7) (v := .int .i64 8) rfl (by kernel_rfl) (by kernel_rfl) (by kernel_rfl) (fun _ _ _ h => h) (Or.inl ⟨by rfl, fun w0 hC => by simp [execOp, Act.eval, Act.put, go_sem]⟩) hHeld ?_
        try simp only [Act.put, List.setIfInBounds_toArray, List.set_cons_zero, List.set_cons_succ, List.getElem_toArray, List.getElem_cons_zero, List.getElem_cons_succ]
        refine wpAnyH_ready (rs := [9]) (by kernel_rfl) (by simp) (AllReadyH.cons rfl (fun K hK => ?_) AllReadyH.nil)
        rw [if_pos (by rfl)]
        go_wp2_with fail
        have hl9 : W8.heap.size ≤ V8.heap.size := hHeld.size
        have hne : V8.heap.size ≠ b8 := by have := hk8.lt; omega
        refine k_over (fun W' => Below V8.heap.size V8 W' ∧ Bk W' V8.heap.size 35 #[.int .i64 0, .int .i64 0, .int .i64 0, .int .i64 0]) ⟨(Below.refl _ _).alloc (Nat.le_refl _) _, Bk.new V8 _ _⟩ ?_
        rintro V9 ⟨hba, hk9⟩
        obtain ⟨b9, hz⟩ : ∃ b, b = V8.heap.size := ⟨_, rfl⟩
        rw [← hz] at hk9 hl9 ⊢
        rw [← hz] at hne
        clear hz
        have hSa := hHeld.trans (hba.mono hHeld.size)
        replace hk8 := hk8.below hba hk8.lt
        clear hba hHeld
        refine hK.out _ _ hSa (fun hHeld => ?_)
        clear hK K
        try simp only [Act.put, List.setIfInBounds_toArray, List.set_cons_zero, List.set_cons_succ, List.getElem_toArray, List.getElem_cons_zero, List.getElem_cons_succ]
        clear hSa
        have hf8 := stored4_facts hk8 (.slice A9 n9 c9) (.slice A9' n9' c9') (.int .i64 x3.1.fuse) (.bool x3.1.down)
        have HS : Hid ((fun W' => Below W8.heap.size W8 W' ∧ Bk W' b9 35 #[.int .i64 0, .int .i64 0, .int .i64 0, .int .i64 0]) (stored4 V9 b8 (.slice A9 n9 c9) (.slice A9' n9' c9') (.int .i64 x3.1.fuse) (.bool x3.1.down))) := Lib.hid ⟨hf8.2.2.1 _ _ hHeld hl8, hf8.2.2.2 _ _ _ hne hk9⟩
        unfold stored4 at HS
        obtain ⟨⟨p0, p1, p2, p3⟩, q0, q1, q2, q3⟩ := hk8.four
        clear hf8 hk9
        refine wpAnyH_ready (rs := [10]) (by kernel_rfl) (by simp) (AllReadyH.cons rfl (fun K hK => ?_) AllReadyH.nil)
        rw [if_pos (by rfl)]
        go_wp2_with fail
        refine k_over (fun W' => Below W8.heap.size W8 W' ∧ Bk W' b9 35 #[.int .i64 0, .int .i64 0, .int .i64 0, .int .i64 0]) HS.out ?_
        clear HS hk8 p0 p1 p2 p3 q0 q1 q2 q3 hHeld
        rintro U1 ⟨hSa, hk9⟩
        refine hK.out _ _ hSa (fun hHeld => ?_)
        clear hK K
        try simp only [Act.put, List.setIfInBounds_toArray, List.set_cons_zero, List.set_cons_succ, List.getElem_toArray, List.getElem_cons_zero, List.getElem_cons_succ]
        clear hSa
        have hf9 := stored4_facts hk9 (.int .i64 1) (.int .i64 2) (.int .i64 4) (.int .i64 2)
        have HS : Hid ((fun W' => Below W8.heap.size W8 W') (stored4 U1 b9 (.int .i64 1) (.int .i64 2) (.int .i64 4) (.int .i64 2))) := Lib.hid (hf9.2.2.1 _ _ hHeld hl9)
        unfold stored4 at HS
        obtain ⟨⟨p0, p1, p2, p3⟩, q0, q1, q2, q3⟩ := hk9.four
        clear hf9
        refine wpAnyH_ready (rs := [11]) (by kernel_rfl) (by simp) (AllReadyH.cons rfl (fun K hK => ?_) AllReadyH.nil)
        rw [if_pos (by rfl)]
        go_wp2_with fail
        refine k_over (fun W' => Below W8.heap.size W8 W') HS.out ?_
        clear HS hk9 p0 p1 p2 p3 q0 q1 q2 q3 hHeld
        rintro U2 hSa
        refine hK.out _ _ hSa (fun hHeld => ?_)
        clear hK K
        try simp only [Act.put, List.setIfInBounds_toArray, List.set_cons_zero, List.set_cons_succ, List.getElem_toArray, List.getElem_cons_zero, List.getElem_cons_succ]
        clear hSa
        refine wpAnyH_ready (rs := [12]) (by kernel_rfl) (by simp) (AllReadyH.cons rfl (fun K hK => ?_) AllReadyH.nil)
        rw [if_pos (by rfl)]
        go_wp2_with fail
        have hSa := hHeld
        refine hK.out _ _ hSa (fun hHeld => ?_)
        clear hK K
        try simp only [Act.put, List.setIfInBounds_toArray, List.set_cons_zero, List.set_cons_succ, List.getElem_toArray, List.getElem_cons_zero, List.getElem_cons_succ]
        clear hSa
        refine wpAnyH_done (by kernel_rfl) ?_ _
        have k3 := HK3.out.below hHeld HK3.out.lt
        have kr := HKR.out.below hHeld (Nat.le_refl _)
        have kb := HKB.out.trans (hHeld.mono HKB.out.size)
        obtain ⟨bl, ol, Al, nl, cl, hAL, hbl, hcl, -, -, -, hby⟩ := kr.at_ (k := 1) (by omega)
        obtain rfl := hAL
        have hnl : nl = 3 := hby.1.symm
        subst hnl
        have hstr := run_str_of_bytes (P := Tryd.prog) (n := 3) (c := cl) hby (src := 32) (dst := 9) (e := 5) Tryd.underlying32 Tryd.underlying5 Tryd.underlying9
        rw [show strOf (textAt [[1], [116, 119, 111]] 1) = ⟨#[116, 119, 111]⟩ from by decide] at hstr
        obtain ⟨⟨r0, r1, r2, r3⟩, s0, s1, s2, s3⟩ := k3.four
        have KB := Lib.hid kb
        clear kr kb hby k3 hHeld HK1 HK3 HKD HKR HKB hap
        go_wp2_with fail
        go_ret
        exact ⟨rfl, KB.out⟩
      · rw [if_pos (by rfl)]
        go_wp2_with fail
        have hl9 : W8.heap.size ≤ V7.heap.size := hHeld.size
        have hne : V7.heap.size ≠ b8 := by have := hk8.lt; omega
        refine k_over (fun W' => Below V7.heap.size V7 W' ∧ Bk W' V7.heap.size 35 #[.int .i64 0, .int .i64 0, .int .i64 0, .int .i64 0]) ⟨(Below.refl _ _).alloc (Nat.le_refl _) _, Bk.new V7 _ _⟩ ?_
        rintro V10 ⟨hba, hk9⟩
        obtain ⟨b9, hz⟩ : ∃ b, b = V7.heap.size := ⟨_, rfl⟩
        rw [← hz] at hk9 hl9 ⊢
        rw [← hz] at hne
        clear hz
        have hSa := hHeld.trans (hba.mono hHeld.size)
        replace hk8 := hk8.below hba hk8.lt
        clear hba hHeld
        refine hK.out _ _ hSa (fun hHeld => ?_)
        clear hK K
        try simp only [Act.put, List.setIfInBounds_toArray, List.set_cons_zero, List.set_cons_succ, List.getElem_toArray, List.getElem_cons_zero, List.getElem_cons_succ]
        clear hSa
        refine wpAnyH_ready (rs := [3]) (by kernel_rfl) (by simp) (AllReadyH.cons rfl (fun K hK => ?_) AllReadyH.nil)
        rw [if_pos (by rfl)]
        go_wp2_with fail
        refine (hap V10 _ hHeld).mono ?_
        rintro e V11 ⟨v9, rfl, hd9, hba⟩
        obtain ⟨A9, n9, c9, A9', n9', c9', rfl, -⟩ := hd9
        have hSa := hHeld.trans (hba.mono hHeld.size)
        replace hk8 := hk8.below hba hk8.lt
        replace hk9 := hk9.below hba hk9.lt
        clear hba hHeld
        refine hK.out _ _ hSa (fun hHeld => ?_)
        clear hK K
        try simp only [Act.put, List.setIfInBounds_toArray, List.set_cons_zero, List.set_cons_succ, List.getElem_toArray, List.getElem_cons_zero, List.getElem_cons_succ]
        clear hSa
        refine wpAnyH_take (i := 4) (v := .tuple #[.agg #[.slice A9 n9 c9, .slice A9' n9' c9', .int .i64 x3.1.fuse, .bool x3.1.down], .agg #[.int .i64 1, .int .i64 2, .int .i64 4, .int .i64 2], .int .i64 8]) rfl (by kernel_rfl) (by kernel_rfl) (by kernel_rfl) (fun _ _ _ h => h) (Or.inl ⟨by rfl, fun w0 hC => by simp [execOp, Act.eval, Act.put, go_sem]⟩) hHeld ?_
        try simp only [Act.put, List.setIfInBounds_toArray, List.set_cons_zero, List.set_cons_succ, List.getElem_toArray, List.getElem_cons_zero, List.getElem_cons_succ]
        refine wpAnyH_take (i := 5) (v := .agg #[.slice A9 n9 c9, .slice A9' n9' c9', .int .i64 x3.1.fuse, .bool x3.1.down]) rfl (by kernel_rfl) (by kernel_rfl) (by kernel_rfl) (fun _ _ _ h => h) (Or.inl ⟨by rfl, fun w0 hC => by simp [execOp, Act.eval, Act.put, go_sem]⟩) hHeld ?_
        try simp only [Act.put, List.setIfInBounds_toArray, List.set_cons_zero, List.set_cons_succ, List.getElem_toArray, List.getElem_cons_zero, List.getElem_cons_succ]
        refine wpAnyH_take (i := 6) (v := .agg #[.int .i64 1, .int .i64 2, .int .i64 4, .int .i64 2]) rfl (by kernel_rfl) (by kernel_rfl) (by kernel_rfl) (fun _ _ _ h => h) (Or.inl ⟨by rfl, fun w0 hC => by simp [execOp, Act.eval, Act.put, go_sem]⟩) hHeld ?_
        try simp only [Act.put, List.setIfInBounds_toArray, List.set_cons_zero, List.set_cons_succ, List.getElem_toArray, List.getElem_cons_zero, List.getElem_cons_succ]
        refine wpAnyH_take (i := 7) (v := .int .i64 8) rfl (by kernel_rfl) (by kernel_rfl) (by kernel_rfl) (fun _ _ _ h => h) (Or.inl ⟨by rfl, fun w0 hC => by simp [execOp, Act.eval, Act.put, go_sem]⟩) hHeld ?_
        try simp only [Act.put, List.setIfInBounds_toArray, List.set_cons_zero, List.set_cons_succ, List.getElem_toArray, List.getElem_cons_zero, List.getElem_cons_succ]
        have hf8 := stored4_facts hk8 (.slice A9 n9 c9) (.slice A9' n9' c9') (.int .i64 x3.1.fuse) (.bool x3.1.down)
        have HS : Hid ((fun W' => Below W8.heap.size W8 W' ∧ Bk W' b9 35 #[.int .i64 0, .int .i64 0, .int .i64 0, .int .i64 0]) (stored4 V11 b8 (.slice A9 n9 c9) (.slice A9' n9' c9') (.int .i64 x3.1.fuse) (.bool x3.1.down))) := Lib.hid ⟨hf8.2.2.1 _ _ hHeld hl8, hf8.2.2.2 _ _ _ hne hk9⟩
        unfold stored4 at HS
        obtain ⟨⟨p0, p1, p2, p3⟩, q0, q1, q2, q3⟩ := hk8.four
        clear hf8 hk9
        refine wpAnyH_ready (rs := [10]) (by kernel_rfl) (by simp) (AllReadyH.cons rfl (fun K hK => ?_) AllReadyH.nil)
        rw [if_pos (by rfl)]
        go_wp2_with fail
        refine k_over (fun W' => Below W8.heap.size W8 W' ∧ Bk W' b9 35 #[.int .i64 0, .int .i64 0, .int .i64 0, .int .i64 0]) HS.out ?_
        clear HS hk8 p0 p1 p2 p3 q0 q1 q2 q3 hHeld
        rintro U1 ⟨hSa, hk9⟩
        refine hK.out _ _ hSa (fun hHeld => ?_)
        clear hK K
        try simp only [Act.put, List.setIfInBounds_toArray, List.set_cons_zero, List.set_cons_succ, List.getElem_toArray, List.getElem_cons_zero, List.getElem_cons_succ]
        clear hSa
        have hf9 := stored4_facts hk9 (.int .i64 1) (.int .i64 2) (.int .i64 4) (.int .i64 2)
        have HS : Hid ((fun W' => Below W8.heap.size W8 W') (stored4 U1 b9 (.int .i64 1) (.int .i64 2) (.int .i64 4) (.int .i64 2))) := Lib.hid (hf9.2.2.1 _ _ hHeld hl9)
        unfold stored4 at HS
        obtain ⟨⟨p0, p1, p2, p3⟩, q0, q1, q2, q3⟩ := hk9.four
        clear hf9
        refine wpAnyH_ready (rs := [11]) (by kernel_rfl) (by simp) (AllReadyH.cons rfl (fun K hK => ?_) AllReadyH.nil)
        rw [if_pos (by rfl)]
        go_wp2_with fail
        refine k_over (fun W' => Below W8.heap.size W8 W') HS.out ?_
        clear HS hk9 p0 p1 p2 p3 q0 q1 q2 q3 hHeld
        rintro U2 hSa
        refine hK.out _ _ hSa (fun hHeld => ?_)
        clear hK K
        try simp only [Act.put, List.setIfInBounds_toArray, List.set_cons_zero, List.set_cons_succ, List.getElem_toArray, List.getElem_cons_zero, List.getElem_cons_succ]
        clear hSa
        refine wpAnyH_ready (rs := [12]) (by kernel_rfl) (by simp) (AllReadyH.cons rfl (fun K hK => ?_) AllReadyH.nil)
        rw [if_pos (by rfl)]
        go_wp2_with fail
        have hSa := hHeld
        refine hK.out _ _ hSa (fun hHeld => ?_)
        clear hK K
        try simp only [Act.put, List.setIfInBounds_toArray, List.set_cons_zero, List.set_cons_succ, List.getElem_toArray, List.getElem_cons_zero, List.getElem_cons_succ]
        clear hSa
        refine wpAnyH_done (by kernel_rfl) ?_ _
        have k3 := HK3.out.below hHeld HK3.out.lt
        have kr := HKR.out.below hHeld (Nat.le_refl _)
        have kb := HKB.out.trans (hHeld.mono HKB.out.size)
        obtain ⟨bl, ol, Al, nl, cl, hAL, hbl, hcl, -, -, -, hby⟩ := kr.at_ (k := 1) (by omega)
        obtain rfl := hAL
        have hnl : nl = 3 := hby.1.symm
        subst hnl
        have hstr := run_str_of_bytes (P := Tryd.prog) (n := 3) (c := cl) hby (src := 32) (dst := 9) (e := 5) Tryd.underlying32 Tryd.underlying5 Tryd.underlying9
        rw [show strOf (textAt [[1], [116, 119, 111]] 1) = ⟨#[116, 119, 111]⟩ from by decide] at hstr
        obtain ⟨⟨r0, r1, r2, r3⟩, s0, s1, s2, s3⟩ := k3.four
        have KB := Lib.hid kb
        clear kr kb hby k3 hHeld HK1 HK3 HKD HKR HKB hap
        go_wp2_with fail
        go_ret
        exact ⟨rfl, KB.out⟩
    · rw [if_pos (by rfl)]
      go_wp2_with fail
      have hl9 : W8.heap.size ≤ V1.heap.size := hHeld.size
      refine k_over (fun W' => Below V1.heap.size V1 W' ∧ Bk W' V1.heap.size 35 #[.int .i64 0, .int .i64 0, .int .i64 0, .int .i64 0]) ⟨(Below.refl _ _).alloc (Nat.le_refl _) _, Bk.new V1 _ _⟩ ?_
      rintro V12 ⟨hba, hk9⟩
      obtain ⟨b9, hz⟩ : ∃ b, b = V1.heap.size := ⟨_, rfl⟩
      rw [← hz] at hk9 hl9 ⊢
      clear hz
      have hSa := hHeld.trans (hba.mono hHeld.size)
      clear hba hHeld
      refine hK.out _ _ hSa (fun hHeld => ?_)
      clear hK K
      try simp only [Act.put, List.setIfInBounds_toArray, List.set_cons_zero, List.set_cons_succ, List.getElem_toArray, List.getElem_cons_zero, List.getElem_cons_succ]
      clear hSa
      refine wpAnyH_ready (rs := [3, 8]) (by kernel_rfl) (by simp) (AllReadyH.cons rfl (fun K hK => ?_) (AllReadyH.cons rfl (fun K hK => ?_) AllReadyH.nil))
      · rw [if_pos (by rfl)]
        go_wp2_with fail
        refine (hap V12 _ hHeld).mono ?_
        rintro e V13 ⟨v9, rfl, hd9, hba⟩
        obtain ⟨A9, n9, c9, A9', n9', c9', rfl, -⟩ := hd9
        have hSa := hHeld.trans (hba.mono hHeld.size)
        replace hk9 := hk9.below hba hk9.lt
        clear hba hHeld
        refine hK.out _ _ hSa (fun hHeld => ?_)
        clear hK K
        try simp only [Act.put, List.setIfInBounds_toArray, List.set_cons_zero, List.set_cons_succ, List.getElem_toArray, List.getElem_cons_zero, List.getElem_cons_succ]
        clear hSa
        refine wpAnyH_take (i := 4) (v := .tuple #[.agg #[.slice A9 n9 c9, .slice A9' n9' c9', .int .i64 x3.1.fuse, .bool x3.1.down], .agg #[.int .i64 1, .int .i64 2, .int .i64 4, .int .i64 2], .int .i64 8]) rfl (by kernel_rfl) (by kernel_rfl) (by kernel_rfl) (fun _ _ _ h => h) (Or.inl ⟨by rfl, fun w0 hC => by simp [execOp, Act.eval, Act.put, go_sem]⟩) hHeld ?_
        try simp only [Act.put, List.setIfInBounds_toArray, List.set_cons_zero, List.set_cons_succ, List.getElem_toArray, List.getElem_cons_zero, List.getElem_cons_succ]
        refine wpAnyH_take (i := 5) (v := .agg #[.slice A9 n9 c9, .slice A9' n9' c9', .int .i64 x3.1.fuse, .bool x3.1.down]) rfl (by kernel_rfl) (by kernel_rfl) (by kernel_rfl) (fun _ _ _ h => h) (Or.inl ⟨by rfl, fun w0 hC => by simp [execOp, Act.eval, Act.put, go_sem]⟩) hHeld ?_
        try simp only [Act.put, List.setIfInBounds_toArray, List.set_cons_zero, List.set_cons_succ, List.getElem_toArray, List.getElem_cons_zero, List.getElem_cons_succ]
        refine wpAnyH_take (i := 6) (v := .agg #[.int .i64 1, .int .i64 2, .int .i64 4, .int .i64 2]) rfl (by kernel_rfl) (by kernel_rfl) (by kernel_rfl) (fun _ _ _ h => h) (Or.inl ⟨by rfl, fun w0 hC => by simp [execOp, Act.eval, Act.put, go_sem]⟩) hHeld ?_
        try simp only [Act.put, List.setIfInBounds_toArray, List.set_cons_zero, List.set_cons_succ, List.getElem_toArray, List.getElem_cons_zero, List.getElem_cons_succ]
        refine wpAnyH_take (i := 7) (v := .int .i64 8) rfl (by kernel_rfl) (by kernel_rfl) (by kernel_rfl) (fun _ _ _ h => h) (Or.inl ⟨by rfl, fun w0 hC => by simp [execOp, Act.eval, Act.put, go_sem]⟩) hHeld ?_
        try simp only [Act.put, List.setIfInBounds_toArray, List.set_cons_zero, List.set_cons_succ, List.getElem_toArray, List.getElem_cons_zero, List.getElem_cons_succ]
        refine wpAnyH_ready (rs := [8]) (by kernel_rfl) (by simp) (AllReadyH.cons rfl (fun K hK => ?_) AllReadyH.nil)
        rw [if_pos (by rfl)]
        go_wp2_with fail
        have hl8 : W8.heap.size ≤ V13.heap.size := hHeld.size
        have hne : b9 ≠ V13.heap.size := by have := hk9.lt; omega
        refine k_over (fun W' => Below V13.heap.size V13 W' ∧ Bk W' V13.heap.size 28 #[.slice none 0 0, .slice none 0 0, .int .i64 0, .bool false]) ⟨(Below.refl _ _).alloc (Nat.le_refl _) _, Bk.new V13 _ _⟩ ?_
        rintro V14 ⟨hba, hk8⟩
        obtain ⟨b8, hz⟩ : ∃ b, b = V13.heap.size := ⟨_, rfl⟩
        rw [← hz] at hk8 hl8 ⊢
        rw [← hz] at hne
        clear hz
        have hSa := hHeld.trans (hba.mono hHeld.size)
        replace hk9 := hk9.below hba hk9.lt
        clear hba hHeld
        refine hK.out _ _ hSa (fun hHeld => ?_)
        clear hK K
        try simp only [Act.put, List.setIfInBounds_toArray, List.set_cons_zero, List.set_cons_succ, List.getElem_toArray, List.getElem_cons_zero, List.getElem_cons_succ]
        clear hSa
        have hf8 := stored4_facts hk8 (.slice A9 n9 c9) (.slice A9' n9' c9') (.int .i64 x3.1.fuse) (.bool x3.1.down)
        have HS : Hid ((fun W' => Below W8.heap.size W8 W' ∧ Bk W' b9 35 #[.int .i64 0, .int .i64 0, .int .i64 0, .int .i64 0]) (stored4 V14 b8 (.slice A9 n9 c9) (.slice A9' n9' c9') (.int .i64 x3.1.fuse) (.bool x3.1.down))) := Lib.hid ⟨hf8.2.2.1 _ _ hHeld hl8, hf8.2.2.2 _ _ _ hne hk9⟩
        unfold stored4 at HS
        obtain ⟨⟨p0, p1, p2, p3⟩, q0, q1, q2, q3⟩ := hk8.four
        clear hf8 hk9
        refine wpAnyH_ready (rs := [10]) (by kernel_rfl) (by simp) (AllReadyH.cons rfl (fun K hK => ?_) AllReadyH.nil)
        rw [if_pos (by rfl)]
        go_wp2_with fail
        refine k_over (fun W' => Below W8.heap.size W8 W' ∧ Bk W' b9 35 #[.int .i64 0, .int .i64 0, .int .i64 0, .int .i64 0]) HS.out ?_
        clear HS hk8 p0 p1 p2 p3 q0 q1 q2 q3 hHeld
        rintro U1 ⟨hSa, hk9⟩
        refine hK.out _ _ hSa (fun hHeld => ?_)
        clear hK K
        try simp only [Act.put, List.setIfInBounds_toArray, List.set_cons_zero, List.set_cons_succ, List.getElem_toArray, List.getElem_cons_zero, List.getElem_cons_succ]
        clear hSa
        have hf9 := stored4_facts hk9 (.int .i64 1) (.int .i64 2) (.int .i64 4) (.int .i64 2)
        have HS : Hid ((fun W' => Below W8.heap.size W8 W') (stored4 U1 b9 (.int .i64 1) (.int .i64 2) (.int .i64 4) (.int .i64 2))) := Lib.hid (hf9.2.2.1 _ _ hHeld hl9)
        unfold stored4 at HS
        obtain ⟨⟨p0, p1, p2, p3⟩, q0, q1, q2, q3⟩ := hk9.four
        clear hf9
        refine wpAnyH_ready (rs := [11]) (by kernel_rfl) (by simp) (AllReadyH.cons rfl (fun K hK => ?_) AllReadyH.nil)
        rw [if_pos (by rfl)]
        go_wp2_with fail
        refine k_over (fun W' => Below W8.heap.size W8 W') HS.out ?_
        clear HS hk9 p0 p1 p2 p3 q0 q1 q2 q3 hHeld
        rintro U2 hSa
        refine hK.out _ _ hSa (fun hHeld => ?_)
        clear hK K
        try simp only [Act.put, List.setIfInBounds_toArray, List.set_cons_zero, List.set_cons_succ, List.getElem_toArray, List.getElem_cons_zero, List.getElem_cons_succ]
        clear hSa
        refine wpAnyH_ready (rs := [12]) (by kernel_rfl) (by simp) (AllReadyH.cons rfl (fun K hK => ?_) AllReadyH.nil)
        rw [if_pos (by rfl)]
        go_wp2_with fail
        have hSa := hHeld
        refine hK.out _ _ hSa (fun hHeld => ?_)
        clear hK K
        try simp only [Act.put, List.setIfInBounds_toArray, List.set_cons_zero, List.set_cons_succ, List.getElem_toArray, List.getElem_cons_zero, List.getElem_cons_succ]
        clear hSa
        refine wpAnyH_done (by kernel_rfl) ?_ _
        have k3 := HK3.out.below hHeld HK3.out.lt
        have kr := HKR.out.below hHeld (Nat.le_refl _)
        have kb := HKB.out.trans (hHeld.mono HKB.out.size)
        obtain ⟨bl, ol, Al, nl, cl, hAL, hbl, hcl, -, -, -, hby⟩ := kr.at_ (k := 1) (by omega)
        obtain rfl := hAL
        have hnl : nl = 3 := hby.1.symm
        subst hnl
        have hstr := run_str_of_bytes (P := Tryd.prog) (n := 3) (c := cl) hby (src := 32) (dst := 9) (e := 5) Tryd.underlying32 Tryd.underlying5 Tryd.underlying9
        rw [show strOf (textAt [[1], [116, 119, 111]] 1) = ⟨#[116, 119, 111]⟩ from by decide] at hstr
        obtain ⟨⟨r0, r1, r2, r3⟩, s0, s1, s2, s3⟩ := k3.four
        have KB := Lib.hid kb
        clear kr kb hby k3 hHeld HK1 HK3 HKD HKR HKB hap
        go_wp2_with fail
        go_ret
        exact ⟨rfl, KB.out⟩
      · rw [if_pos (by rfl)]
        go_wp2_with fail
        have hl8 : W8.heap.size ≤ V12.heap.size := hHeld.size
        have hne : b9 ≠ V12.heap.size := by have := hk9.lt; omega
        refine k_over (fun W' => Below V12.heap.size V12 W' ∧ Bk W' V12.heap.size 28 #[.slice none 0 0, .slice none 0 0, .int .i64 0, .bool false]) ⟨(Below.refl _ _).alloc (Nat.le_refl _) _, Bk.new V12 _ _⟩ ?_
        rintro V15 ⟨hba, hk8⟩
        obtain ⟨b8, hz⟩ : ∃ b, b = V12.heap.size := ⟨_, rfl⟩
        rw [← hz] at hk8 hl8 ⊢
        rw [← hz] at hne
        clear hz
        have hSa := hHeld.trans (hba.mono hHeld.size)
        replace hk9 := hk9.below hba hk9.lt
        clear hba hHeld
        refine hK.out _ _ hSa (fun hHeld => ?_)
        clear hK K
        try simp only [Act.put, List.setIfInBounds_toArray, List.set_cons_zero, List.set_cons_succ, List.getElem_toArray, List.getElem_cons_zero, List.getElem_cons_succ]
        clear hSa
        refine wpAnyH_ready (rs := [3]) (by kernel_rfl) (by simp) (AllReadyH.cons rfl (fun K hK => ?_) AllReadyH.nil)
        rw [if_pos (by rfl)]
        go_wp2_with fail
        refine (hap V15 _ hHeld).mono ?_
        rintro e V16 ⟨v9, rfl, hd9, hba⟩
        obtain ⟨A9, n9, c9, A9', n9', c9', rfl, -⟩ := hd9
        have hSa := hHeld.trans (hba.mono hHeld.size)
        replace hk8 := hk8.below hba hk8.lt
        replace hk9 := hk9.below hba hk9.lt
        clear hba hHeld
        refine hK.out _ _ hSa (fun hHeld => ?_)
        clear hK K
        try simp only [Act.put, List.setIfInBounds_toArray, List.set_cons_zero, List.set_cons_succ, List.getElem_toArray, List.getElem_cons_zero, List.getElem_cons_succ]
        clear hSa
        refine wpAnyH_take (i := 4) (v := .tuple #[.agg #[.slice A9 n9 c9, .slice A9' n9' c9', .int .i64 x3.1.fuse, .bool x3.1.down], .agg #[.int .i64 1, .int .i64 2, .int .i64 4, .int .i64 2], .int .i64 8]) rfl (by kernel_rfl) (by kernel_rfl) (by kernel_rfl) (fun _ _ _ h => h) (Or.inl ⟨by rfl, fun w0 hC => by simp [execOp, Act.eval, Act.put, go_sem]⟩) hHeld ?_
        try simp only [Act.put, List.setIfInBounds_toArray, List.set_cons_zero, List.set_cons_succ, List.getElem_toArray, List.getElem_cons_zero, List.getElem_cons_succ]
        refine wpAnyH_take (i := 5) (v := .agg #[.slice A9 n9 c9, .slice A9' n9' c9', .int .i64 x3.1.fuse, .bool x3.1.down]) rfl (by kernel_rfl) (by kernel_rfl) (by kernel_rfl) (fun _ _ _ h => h) (Or.inl ⟨by rfl, fun w0 hC => by simp [execOp, Act.eval, Act.put, go_sem]⟩) hHeld ?_
        try simp only [Act.put, List.setIfInBounds_toArray, List.set_cons_zero, List.set_cons_succ, List.getElem_toArray, List.getElem_cons_zero, List.getElem_cons_succ]
        refine wpAnyH_take (i := 6) (v := .agg #[.int .i64 1, .int .i64 2, .int .i64 4, .int .i64 2]) rfl (by kernel_rfl) (by kernel_rfl) (by kernel_rfl) (fun _ _ _ h => h) (Or.inl ⟨by rfl, fun w0 hC => by simp [execOp, Act.eval, Act.put, go_sem]⟩) hHeld ?_
        try simp only [Act.put, List.setIfInBounds_toArray, List.set_cons_zero, List.set_cons_succ, List.getElem_toArray, List.getElem_cons_zero, List.getElem_cons_succ]
        refine wpAnyH_take (i := 7) (v := .int .i64 8) rfl (by kernel_rfl) (by kernel_rfl) (by kernel_rfl) (fun _ _ _ h => h) (Or.inl ⟨by rfl, fun w0 hC => by simp [execOp, Act.eval, Act.put, go_sem]⟩) hHeld ?_
        try simp only [Act.put, List.setIfInBounds_toArray, List.set_cons_zero, List.set_cons_succ, List.getElem_toArray, List.getElem_cons_zero, List.getElem_cons_succ]
        have hf8 := stored4_facts hk8 (.slice A9 n9 c9) (.slice A9' n9' c9') (.int .i64 x3.1.fuse) (.bool x3.1.down)
        have HS : Hid ((fun W' => Below W8.heap.size W8 W' ∧ Bk W' b9 35 #[.int .i64 0, .int .i64 0, .int .i64 0, .int .i64 0]) (stored4 V16 b8 (.slice A9 n9 c9) (.slice A9' n9' c9') (.int .i64 x3.1.fuse) (.bool x3.1.down))) := Lib.hid ⟨hf8.2.2.1 _ _ hHeld hl8, hf8.2.2.2 _ _ _ hne hk9⟩
        unfold stored4 at HS
        obtain ⟨⟨p0, p1, p2, p3⟩, q0, q1, q2, q3⟩ := hk8.four
        clear hf8 hk9
        refine wpAnyH_ready (rs := [10]) (by kernel_rfl) (by simp) (AllReadyH.cons rfl (fun K hK => ?_) AllReadyH.nil)
        rw [if_pos (by rfl)]
        go_wp2_with fail
        refine k_over (fun W' => Below W8.heap.size W8 W' ∧ Bk W' b9 35 #[.int .i64 0, .int .i64 0, .int .i64 0, .int .i64 0]) HS.out ?_
        clear HS hk8 p0 p1 p2 p3 q0 q1 q2 q3 hHeld
        rintro U1 ⟨hSa, hk9⟩
        refine hK.out _ _ hSa (fun hHeld => ?_)
        clear hK K
        try simp only [Act.put, List.setIfInBounds_toArray, List.set_cons_zero, List.set_cons_succ, List.getElem_toArray, List.getElem_cons_zero, List.getElem_cons_succ]
        clear hSa
        have hf9 := stored4_facts hk9 (.int .i64 1) (.int .i64 2) (.int .i64 4) (.int .i64 2)
        have HS : Hid ((fun W' => Below W8.heap.size W8 W') (stored4 U1 b9 (.int .i64 1) (.int .i64 2) (.int .i64 4) (.int .i64 2))) := Lib.hid (hf9.2.2.1 _ _ hHeld hl9)
        unfold stored4 at HS
        obtain ⟨⟨p0, p1, p2, p3⟩, q0, q1, q2, q3⟩ := hk9.four
        clear hf9
        refine wpAnyH_ready (rs := [11]) (by kernel_rfl) (by simp) (AllReadyH.cons rfl (fun K hK => ?_) AllReadyH.nil)
        rw [if_pos (by rfl)]
        go_wp2_with fail
        refine k_over (fun W' => Below W8.heap.size W8 W') HS.out ?_
        clear HS hk9 p0 p1 p2 p3 q0 q1 q2 q3 hHeld
        rintro U2 hSa
        refine hK.out _ _ hSa (fun hHeld => ?_)
        clear hK K
        try simp only [Act.put, List.setIfInBounds_toArray, List.set_cons_zero, List.set_cons_succ, List.getElem_toArray, List.getElem_cons_zero, List.getElem_cons_succ]
        clear hSa
        refine wpAnyH_ready (rs := [12]) (by kernel_rfl) (by simp) (AllReadyH.cons rfl (fun K hK => ?_) AllReadyH.nil)
        rw [if_pos (by rfl)]
        go_wp2_with fail
        have hSa := hHeld
        refine hK.out _ _ hSa (fun hHeld => ?_)
        clear hK K
        try simp only [Act.put, List.setIfInBounds_toArray, List.set_cons_zero, List.set_cons_succ, List.getElem_toArray, List.getElem_cons_zero, List.getElem_cons_succ]
        clear hSa
        refine wpAnyH_done (by kernel_rfl) ?_ _
        have k3 := HK3.out.below hHeld HK3.out.lt
        have kr := HKR.out.below hHeld (Nat.le_refl _)
        have kb := HKB.out.trans (hHeld.mono HKB.out.size)
        obtain ⟨bl, ol, Al, nl, cl, hAL, hbl, hcl, -, -, -, hby⟩ := kr.at_ (k := 1) (by omega)
        obtain rfl := hAL
        have hnl : nl = 3 := hby.1.symm
        subst hnl
        have hstr := run_str_of_bytes (P := Tryd.prog) (n := 3) (c := cl) hby (src := 32) (dst := 9) (e := 5) Tryd.underlying32 Tryd.underlying5 Tryd.underlying9
        rw [show strOf (textAt [[1], [116, 119, 111]] 1) = ⟨#[116, 119, 111]⟩ from by decide] at hstr
        obtain ⟨⟨r0, r1, r2, r3⟩, s0, s1, s2, s3⟩ := k3.four
        have KB := Lib.hid kb
        clear kr kb hby k3 hHeld HK1 HK3 HKD HKR HKB hap
        go_wp2_with fail
        go_ret
        exact ⟨rfl, KB.out⟩
  · rw [if_pos (by rfl)]
    go_wp2_with fail
    have hl8 : W8.heap.size ≤ W9.heap.size := hHeld.size
    refine k_over (fun W' => Below W9.heap.size W9 W' ∧ Bk W' W9.heap.size 28 #[.slice none 0 0, .slice none 0 0, .int .i64 0, .bool false]) ⟨(Below.refl _ _).alloc (Nat.le_refl _) _, Bk.new W9 _ _⟩ ?_
    rintro V17 ⟨hba, hk8⟩
    obtain ⟨b8, hz⟩ : ∃ b, b = W9.heap.size := ⟨_, rfl⟩
    rw [← hz] at hk8 hl8 ⊢
    clear hz
    have hSa := hHeld.trans (hba.mono hHeld.size)
    clear hba hHeld
    refine hK.out _ _ hSa (fun hHeld => ?_)
    clear hK K
    try simp only [Act.put, List.setIfInBounds_toArray, List.set_cons_zero, List.set_cons_succ, List.getElem_toArray, List.getElem_cons_zero, List.getElem_cons_succ]
    clear hSa
    refine wpAnyH_ready (rs := [2, 9]) (by kernel_rfl) (by simp) (AllReadyH.cons rfl (fun K hK => ?_) (AllReadyH.cons rfl (fun K hK => ?_) AllReadyH.nil))
    · rw [if_pos (by rfl)]
      go_wp2_with fail
      refine k_over (fun W' => Below V17.heap.size V17 W') ((Below.refl _ _).alloc (Nat.le_refl _) _) ?_
      intro V18 hba
      generalize hz42 : V17.heap.size = b42 at hba ⊢
      rw [← hz42] at hba
      clear hz42
      have hSa := hHeld.trans (hba.mono hHeld.size)
      replace hk8 := hk8.below hba hk8.lt
      clear hba hHeld
      refine hK.out _ _ hSa (fun hHeld => ?_)
      clear hK K
      try simp only [Act.put, List.setIfInBounds_toArray, List.set_cons_zero, List.set_cons_succ, List.getElem_toArray, List.getElem_cons_zero, List.getElem_cons_succ]
      clear hSa
      refine wpAnyH_ready (rs := [3, 9]) (by kernel_rfl) (by simp) (AllReadyH.cons rfl (fun K hK => ?_) (AllReadyH.cons rfl (fun K hK => ?_) AllReadyH.nil))
      · rw [if_pos (by rfl)]
        go_wp2_with fail
        refine (hap V18 _ hHeld).mono ?_
        rintro e V19 ⟨v9, rfl, hd9, hba⟩
        obtain ⟨A9, n9, c9, A9', n9', c9', rfl, -⟩ := hd9
        have hSa := hHeld.trans (hba.mono hHeld.size)
        replace hk8 := hk8.below hba hk8.lt
        clear hba hHeld
        refine hK.out _ _ hSa (fun hHeld => ?_)
        clear hK K
        try simp only [Act.put, List.setIfInBounds_toArray, List.set_cons_zero, List.set_cons_succ, List.getElem_toArray, List.getElem_cons_zero, List.getElem_cons_succ]
        clear hSa
        refine wpAnyH_take (i := 4) (v := .tuple #[.agg #[.slice A9 n9 c9, .slice A9' n9' c9', .int .i64 x3.1.fuse, .bool x3.1.down], .agg #[.int .i64 1, .int .i64 2, .int .i64 4, .int .i64 2], .int .i64 8]) rfl (by kernel_rfl) (by kernel_rfl) (by kernel_rfl) (fun _ _ _ h => h) (Or.inl ⟨by rfl, fun w0 hC => by simp [execOp, Act.eval, Act.put, go_sem]⟩) hHeld ?_
        try simp only [Act.put, List.setIfInBounds_toArray, List.set_cons_zero, List.set_cons_succ, List.getElem_toArray, List.getElem_cons_zero, List.getElem_cons_succ]
        refine wpAnyH_take (i := 5) (v := .agg #[.slice A9 n9 c9, .slice A9' n9' c9', .int .i64 x3.1.fuse, .bool x3.1.down]) rfl (by kernel_rfl) (by kernel_rfl) (by kernel_rfl) (fun _ _ _ h => h) (Or.inl ⟨by rfl, fun w0 hC => by simp [execOp, Act.eval, Act.put, go_sem]⟩) hHeld ?_
        try simp only [Act.put, List.setIfInBounds_toArray, List.set_cons_zero, List.set_cons_succ, List.getElem_toArray, List.getElem_cons_zero, List.getElem_cons_succ]
        refine wpAnyH_take (i := 6) (v := .agg #[.int .i64 1, .int .i64 2, .int .i64 4, .int .i64 2]) rfl (by kernel_rfl) (by kernel_rfl) (by kernel_rfl) (fun _ _ _ h => h) (Or.inl ⟨by rfl, fun w0 hC => by simp [execOp, Act.eval, Act.put, go_sem]⟩) hHeld ?_
        try simp only [Act.put, List.setIfInBounds_toArray, List.set_cons_zero, List.set_cons_succ, List.getElem_toArray, List.getElem_cons_zero, List.getElem_cons_succ]
        refine wpAnyH_take (i := 7) (v := .int .i64 8) rfl (by kernel_rfl) (by kernel_rfl) (by kernel_rfl) (fun _ _ _ h => h) (Or.inl ⟨by rfl, fun w0 hC => by simp [execOp, Act.eval, Act.put, go_sem]⟩) hHeld ?_
        try simp only [Act.put, List.setIfInBounds_toArray, List.set_cons_zero, List.set_cons_succ, List.getElem_toArray, List.getElem_cons_zero, List.getElem_cons_succ]
        refine wpAnyH_ready (rs := [9]) (by kernel_rfl) (by simp) (AllReadyH.cons rfl (fun K hK => ?_) AllReadyH.nil)
        rw [if_pos (by rfl)]
        go_wp2_with fail
        have hl9 : W8.heap.size ≤ V19.heap.size := hHeld.size
        have hne : V19.heap.size ≠ b8 := by have := hk8.lt; omega
        refine k_over (fun W' => Below V19.heap.size V19 W' ∧ Bk W' V19.heap.size 35 #[.int .i64 0, .int .i64 0, .int .i64 0, .int .i64 0]) ⟨(Below.refl _ _).alloc (Nat.le_refl _) _, Bk.new V19 _ _⟩ ?_
        rintro V20 ⟨hba, hk9⟩
        obtain ⟨b9, hz⟩ : ∃ b, b = V19.heap.size := ⟨_, rfl⟩
        rw [← hz] at hk9 hl9 ⊢
        rw [← hz] at hne
        clear hz
        have hSa := hHeld.trans (hba.mono hHeld.size)
        replace hk8 := hk8.below hba hk8.lt
        clear hba hHeld
        refine hK.out _ _ hSa (fun hHeld => ?_)
        clear hK K
        try simp only [Act.put, List.setIfInBounds_toArray, List.set_cons_zero, List.set_cons_succ, List.getElem_toArray, List.getElem_cons_zero, List.getElem_cons_succ]
        clear hSa
        have hf8 := stored4_facts hk8 (.slice A9 n9 c9) (.slice A9' n9' c9') (.int .i64 x3.1.fuse) (.bool x3.1.down)
        have HS : Hid ((fun W' => Below W8.heap.size W8 W' ∧ Bk W' b9 35 #[.int .i64 0, .int .i64 0, .int .i64 0, .int .i64 0]) (stored4 V20 b8 (.slice A9 n9 c9) (.slice A9' n9' c9') (.int .i64 x3.1.fuse) (.bool x3.1.down))) := Lib.hid ⟨hf8.2.2.1 _ _ hHeld hl8, hf8.2.2.2 _ _ _ hne hk9⟩
        unfold stored4 at HS
        obtain ⟨⟨p0, p1, p2, p3⟩, q0, q1, q2, q3⟩ := hk8.four
        clear hf8 hk9
        refine wpAnyH_ready (rs := [10]) (by kernel_rfl) (by simp) (AllReadyH.cons rfl (fun K hK => ?_) AllReadyH.nil)
        rw [if_pos (by rfl)]
        go_wp2_with fail
        refine k_over (fun W' => Below W8.heap.size W8 W' ∧ Bk W' b9 35 #[.int .i64 0, .int .i64 0, .int .i64 0, .int .i64 0]) HS.out ?_
        clear HS hk8 p0 p1 p2 p3 q0 q1 q2 q3 hHeld
        rintro U1 ⟨hSa, hk9⟩
        refine hK.out _ _ hSa (fun hHeld => ?_)
        clear hK K
        try simp only [Act.put, List.setIfInBounds_toArray, List.set_cons_zero, List.set_cons_succ, List.getElem_toArray, List.getElem_cons_zero, List.getElem_cons_succ]
        clear hSa
        have hf9 := stored4_facts hk9 (.int .i64 1) (.int .i64 2) (.int .i64 4) (.int .i64 2)
        have HS : Hid ((fun W' => Below W8.heap.size W8 W') (stored4 U1 b9 (.int .i64 1) (.int .i64 2) (.int .i64 4) (.int .i64 2))) := Lib.hid (hf9.2.2.1 _ _ hHeld hl9)
        unfold stored4 at HS
        obtain ⟨⟨p0, p1, p2, p3⟩, q0, q1, q2, q3⟩ := hk9.four
        clear hf9
        refine wpAnyH_ready (rs := [11]) (by kernel_rfl) (by simp) (AllReadyH.cons rfl (fun K hK => ?_) AllReadyH.nil)
        rw [if_pos (by rfl)]
        go_wp2_with fail
        refine k_over (fun W' => Below W8.heap.size W8 W') HS.out ?_
        clear HS hk9 p0 p1 p2 p3 q0 q1 q2 q3 hHeld
        rintro U2 hSa
        refine hK.out _ _ hSa (fun hHeld => ?_)
        clear hK K
        try simp only [Act.put, List.setIfInBounds_toArray, List.set_cons_zero, List.set_cons_succ, List.getElem_toArray, List.getElem_cons_zero, List.getElem_cons_succ]
        clear hSa
        refine wpAnyH_ready (rs := [12]) (by kernel_rfl) (by simp) (AllReadyH.cons rfl (fun K hK => ?_) AllReadyH.nil)
        rw [if_pos (by rfl)]
        go_wp2_with fail
        have hSa := hHeld
        refine hK.out _ _ hSa (fun hHeld => ?_)
        clear hK K
        try simp only [Act.put, List.setIfInBounds_toArray, List.set_cons_zero, List.set_cons_succ, List.getElem_toArray, List.getElem_cons_zero, List.getElem_cons_succ]
        clear hSa
        refine wpAnyH_done (by kernel_rfl) ?_ _
        have k3 := HK3.out.below hHeld HK3.out.lt
        have kr := HKR.out.below hHeld (Nat.le_refl _)
        have kb := HKB.out.trans (hHeld.mono HKB.out.size)
        obtain ⟨bl, ol, Al, nl, cl, hAL, hbl, hcl, -, -, -, hby⟩ := kr.at_ (k := 1) (by omega)
        obtain rfl := hAL
        have hnl : nl = 3 := hby.1.symm
        subst hnl
        have hstr := run_str_of_bytes (P := Tryd.prog) (n := 3) (c := cl) hby (src := 32) (dst := 9) (e := 5) Tryd.underlying32 Tryd.underlying5 Tryd.underlying9
        rw [show strOf (textAt [[1], [116, 119, 111]] 1) = ⟨#[116, 119, 111]⟩ from by decide] at hstr
        obtain ⟨⟨r0, r1, r2, r3⟩, s0, s1, s2, s3⟩ := k3.four
        have KB := Lib.hid kb
        clear kr kb hby k3 hHeld HK1 HK3 HKD HKR HKB hap
        go_wp2_with fail
        go_ret
        exact ⟨rfl, KB.out⟩
      · rw [if_pos (by rfl)]
        go_wp2_with fail
        have hl9 : W8.heap.size ≤ V18.heap.size := hHeld.size
        have hne : V18.heap.size ≠ b8 := by have := hk8.lt; omega
        refine k_over (fun W' => Below V18.heap.size V18 W' ∧ Bk W' V18.heap.size 35 #[.int .i64 0, .int .i64 0, .int .i64 0, .int .i64 0]) ⟨(Below.refl _ _).alloc (Nat.le_refl _) _, Bk.new V18 _ _⟩ ?_
        rintro V21 ⟨hba, hk9⟩
        obtain ⟨b9, hz⟩ : ∃ b, b = V18.heap.size := ⟨_, rfl⟩
        rw [← hz] at hk9 hl9 ⊢
        rw [← hz] at hne
        clear hz
        have hSa := hHeld.trans (hba.mono hHeld.size)
        replace hk8 := hk8.below hba hk8.lt
        clear hba hHeld
        refine hK.out _ _ hSa (fun hHeld => ?_)
        clear hK K
        try simp only [Act.put, List.setIfInBounds_toArray, List.set_cons_zero, List.set_cons_succ, List.getElem_toArray, List.getElem_cons_zero, List.getElem_cons_succ]
        clear hSa
        refine wpAnyH_ready (rs := [3]) (by kernel_rfl) (by simp) (AllReadyH.cons rfl (fun K hK => ?_) AllReadyH.nil)
        rw [if_pos (by rfl)]
        go_wp2_with fail
        refine (hap V21 _ hHeld).mono ?_
        rintro e V22 ⟨v9, rfl, hd9, hba⟩
        obtain ⟨A9, n9, c9, A9', n9', c9', rfl, -⟩ := hd9
        have hSa := hHeld.trans (hba.mono hHeld.size)
        replace hk8 := hk8.below hba hk8.lt
        replace hk9 := hk9.below hba hk9.lt
        clear hba hHeld
        refine hK.out _ _ hSa (fun hHeld => ?_)
        clear hK K
        try simp only [Act.put, List.setIfInBounds_toArray, List.set_cons_zero, List.set_cons_succ, List.getElem_toArray, List.getElem_cons_zero, List.getElem_cons_succ]
        clear hSa
        refine wpAnyH_take (i := 4) (v := .tuple #[.agg #[.slice A9 n9 c9, .slice A9' n9' c9', .int .i64 x3.1.fuse, .bool x3.1.down], .agg #[.int .i64 1, .int .i64 2, .int .i64 4, .int .i64 2], .int .i64 8]) rfl (by kernel_rfl) (by kernel_rfl) (by kernel_rfl) (fun _ _ _ h => h) (Or.inl ⟨by rfl, fun w0 hC => by simp [execOp, Act.eval, Act.put, go_sem]⟩) hHeld ?_
        try simp only [Act.put, List.setIfInBounds_toArray, List.set_cons_zero, List.set_cons_succ, List.getElem_toArray, List.getElem_cons_zero, List.getElem_cons_succ]
        refine wpAnyH_take (i := 5) (v := .agg #[.slice A9 n9 c9, .slice A9' n9' c9', .int .i64 x3.1.fuse, .bool x3.1.down]) rfl (by kernel_rfl) (by kernel_rfl) (by kernel_rfl) (fun _ _ _ h => h) (Or.inl ⟨by rfl, fun w0 hC => by simp [execOp, Act.eval, Act.put, go_sem]⟩) hHeld ?_
        try simp only [Act.put, List.setIfInBounds_toArray, List.set_cons_zero, List.set_cons_succ, List.getElem_toArray, List.getElem_cons_zero, List.getElem_cons_succ]
        refine wpAnyH_take (i := 6) (v := .agg #[.int .i64 1, .int .i64 2, .int .i64 4, .int .i64 2]) rfl (by kernel_rfl) (by kernel_rfl) (by kernel_rfl) (fun _ _ _ h => h) (Or.inl ⟨by rfl, fun w0 hC => by simp [execOp, Act.eval, Act.put, go_sem]⟩) hHeld ?_
        try simp only [Act.put, List.setIfInBounds_toArray, List.set_cons_zero, List.set_cons_succ, List.getElem_toArray, List.getElem_cons_zero, List.getElem_cons_succ]
        refine wpAnyH_take (i := 7) (v := .int .i64 8) rfl (by kernel_rfl) (by kernel_rfl) (by kernel_rfl) (fun _ _ _ h => h) (Or.inl ⟨by rfl, fun w0 hC => by simp [execOp, Act.eval, Act.put, go_sem]⟩) hHeld ?_
        try simp only [Act.put, List.setIfInBounds_toArray, List.set_cons_zero, List.set_cons_succ, List.getElem_toArray, List.getElem_cons_zero, List.getElem_cons_succ]
        have hf8 := stored4_facts hk8 (.slice A9 n9 c9) (.slice A9' n9' c9') (.int .i64 x3.1.fuse) (.bool x3.1.down)
        have HS : Hid ((fun W' => Below W8.heap.size W8 W' ∧ Bk W' b9 35 #[.int .i64 0, .int .i64 0, .int .i64 0, .int .i64 0]) (stored4 V22 b8 (.slice A9 n9 c9) (.slice A9' n9' c9') (.int .i64 x3.1.fuse) (.bool x3.1.down))) := Lib.hid ⟨hf8.2.2.1 _ _ hHeld hl8, hf8.2.2.2 _ _ _ hne hk9⟩
        unfold stored4 at HS
        obtain ⟨⟨p0, p1, p2, p3⟩, q0, q1, q2, q3⟩ := hk8.four
        clear hf8 hk9
        refine wpAnyH_ready (rs := [10]) (by kernel_rfl) (by simp) (AllReadyH.cons rfl (fun K hK => ?_) AllReadyH.nil)
        rw [if_pos (by rfl)]
        go_wp2_with fail
        refine k_over (fun W' => Below W8.heap.size W8 W' ∧ Bk W' b9 35 #[.int .i64 0, .int .i64 0, .int .i64 0, .int .i64 0]) HS.out ?_
        clear HS hk8 p0 p1 p2 p3 q0 q1 q2 q3 hHeld
        rintro U1 ⟨hSa, hk9⟩
        refine hK.out _ _ hSa (fun hHeld => ?_)
        clear hK K
        try simp only [Act.put, List.setIfInBounds_toArray, List.set_cons_zero, List.set_cons_succ, List.getElem_toArray, List.getElem_cons_zero, List.getElem_cons_succ]
        clear hSa
        have hf9 := stored4_facts hk9 (.int .i64 1) (.int .i64 2) (.int .i64 4) (.int .i64 2)
        have HS : Hid ((fun W' => Below W8.heap.size W8 W') (stored4 U1 b9 (.int .i64 1) (.int .i64 2) (.int .i64 4) (.int .i64 2))) := Lib.hid (hf9.2.2.1 _ _ hHeld hl9)
        unfold stored4 at HS
        obtain ⟨⟨p0, p1, p2, p3⟩, q0, q1, q2, q3⟩ := hk9.four
        clear hf9
        refine wpAnyH_ready (rs := [11]) (by kernel_rfl) (by simp) (AllReadyH.cons rfl (fun K hK => ?_) AllReadyH.nil)
        rw [if_pos (by rfl)]
        go_wp2_with fail
        refine k_over (fun W' => Below W8.heap.size W8 W') HS.out ?_
        clear HS hk9 p0 p1 p2 p3 q0 q1 q2 q3 hHeld
        rintro U2 hSa
        refine hK.out _ _ hSa (fun hHeld => ?_)
        clear hK K
        try simp only [Act.put, List.setIfInBounds_toArray, List.set_cons_zero, List.set_cons_succ, List.getElem_toArray, List.getElem_cons_zero, List.getElem_cons_succ]
        clear hSa
        refine wpAnyH_ready (rs := [12]) (by kernel_rfl) (by simp) (AllReadyH.cons rfl (fun K hK => ?_) AllReadyH.nil)
        rw [if_pos (by rfl)]
        go_wp2_with fail
        have hSa := hHeld
        refine hK.out _ _ hSa (fun hHeld => ?_)
        clear hK K
        try simp only [Act.put, List.setIfInBounds_toArray, List.set_cons_zero, List.set_cons_succ, List.getElem_toArray, List.getElem_cons_zero, List.getElem_cons_succ]
        clear hSa
        refine wpAnyH_done (by kernel_rfl) ?_ _
        have k3 := HK3.out.below hHeld HK3.out.lt
        have kr := HKR.out.below hHeld (Nat.le_refl _)
        have kb := HKB.out.trans (hHeld.mono HKB.out.size)
        obtain ⟨bl, ol, Al, nl, cl, hAL, hbl, hcl, -, -, -, hby⟩ := kr.at_ (k := 1) (by omega)
        obtain rfl := hAL
        have hnl : nl = 3 := hby.1.symm
        subst hnl
        have hstr := run_str_of_bytes (P := Tryd.prog) (n := 3) (c := cl) hby (src := 32) (dst := 9) (e := 5) Tryd.underlying32 Tryd.underlying5 Tryd.underlying9
        rw [show strOf (textAt [[1], [116, 119, 111]] 1) = ⟨#[116, 119, 111]⟩ from by decide] at hstr
        obtain ⟨⟨r0, r1, r2, r3⟩, s0, s1, s2, s3⟩ := k3.four
        have KB := Lib.hid kb
        clear kr kb hby k3 hHeld HK1 HK3 HKD HKR HKB hap
        go_wp2_with fail
        go_ret
        exact ⟨rfl, KB.out⟩
    · rw [if_pos (by rfl)]
      go_wp2_with fail
      have hl9 : W8.heap.size ≤ V17.heap.size := hHeld.size
      have hne : V17.heap.size ≠ b8 := by have := hk8.lt; omega
      refine k_over (fun W' => Below V17.heap.size V17 W' ∧ Bk W' V17.heap.size 35 #[.int .i64 0, .int .i64 0, .int .i64 0, .int .i64 0]) ⟨(Below.refl _ _).alloc (Nat.le_refl _) _, Bk.new V17 _ _⟩ ?_
      rintro V23 ⟨hba, hk9⟩
      obtain ⟨b9, hz⟩ : ∃ b, b = V17.heap.size := ⟨_, rfl⟩
      rw [← hz] at hk9 hl9 ⊢
      rw [← hz] at hne
      clear hz
      have hSa := hHeld.trans (hba.mono hHeld.size)
      replace hk8 := hk8.below hba hk8.lt
      clear hba hHeld
      refine hK.out _ _ hSa (fun hHeld => ?_)
      clear hK K
      try simp only [Act.put, List.setIfInBounds_toArray, List.set_cons_zero, List.set_cons_succ, List.getElem_toArray, List.getElem_cons_zero, List.getElem_cons_succ]
      clear hSa
      refine wpAnyH_ready (rs := [2]) (by kernel_rfl) (by simp) (AllReadyH.cons rfl (fun K hK => ?_) AllReadyH.nil)
      rw [if_pos (by rfl)]
      go_wp2_with fail
      refine k_over (fun W' => Below V23.heap.size V23 W') ((Below.refl _ _).alloc (Nat.le_refl _) _) ?_
      intro V24 hba
      generalize hz42 : V23.heap.size = b42 at hba ⊢
      rw [← hz42] at hba
      clear hz42
      have hSa := hHeld.trans (hba.mono hHeld.size)
      replace hk8 := hk8.below hba hk8.lt
      replace hk9 := hk9.below hba hk9.lt
      clear hba hHeld
      refine hK.out _ _ hSa (fun hHeld => ?_)
      clear hK K
      try simp only [Act.put, List.setIfInBounds_toArray, List.set_cons_zero, List.set_cons_succ, List.getElem_toArray, List.getElem_cons_zero, List.getElem_cons_succ]
      clear hSa
      refine wpAnyH_ready (rs := [3]) (by kernel_rfl) (by simp) (AllReadyH.cons rfl (fun K hK => ?_) AllReadyH.nil)
      rw [if_pos (by rfl)]
      go_wp2_with fail
      refine (hap V24 _ hHeld).mono ?_
      rintro e V25 ⟨v9, rfl, hd9, hba⟩
      obtain ⟨A9, n9, c9, A9', n9', c9', rfl, -⟩ := hd9
      have hSa := hHeld.trans (hba.mono hHeld.size)
      replace hk8 := hk8.below hba hk8.lt
      replace hk9 := hk9.below hba hk9.lt
      clear hba hHeld
      refine hK.out _ _ hSa (fun hHeld => ?_)
      clear hK K
      try simp only [Act.put, List.setIfInBounds_toArray, List.set_cons_zero, List.set_cons_succ, List.getElem_toArray, List.getElem_cons_zero, List.getElem_cons_succ]
      clear hSa
      refine wpAnyH_take (i := 4) (v := .tuple #[.agg #[.slice A9 n9 c9, .slice A9' n9' c9', .int .i64 x3.1.fuse, .bool x3.1.down], .agg #[.int .i64 1, .int .i64 2, .int .i64 4, .int .i64 2], .int .i64 8]) rfl (by kernel_rfl) (by kernel_rfl) (by kernel_rfl) (fun _ _ _ h => h) (Or.inl ⟨by rfl, fun w0 hC => by simp [execOp, Act.eval, Act.put, go_sem]⟩) hHeld ?_
      try simp only [Act.put, List.setIfInBounds_toArray, List.set_cons_zero, List.set_cons_succ, List.getElem_toArray, List.getElem_cons_zero, List.getElem_cons_succ]
      refine wpAnyH_take (i := 5) (v := .agg #[.slice A9 n9 c9, .slice A9' n9' c9', .int .i64 x3.1.fuse, .bool x3.1.down]) rfl (by kernel_rfl) (by kernel_rfl) (by kernel_rfl) (fun _ _ _ h => h) (Or.inl ⟨by rfl, fun w0 hC => by simp [execOp, Act.eval, Act.put, go_sem]⟩) hHeld ?_
      try simp only [Act.put, List.setIfInBounds_toArray, List.set_cons_zero, List.set_cons_succ, List.getElem_toArray, List.getElem_cons_zero, List.getElem_cons_succ]
      refine wpAnyH_take (i := 6) (v := .agg #[.int .i64 1, .int .i64 2, .int .i64 4, .int .i64 2]) rfl (by kernel_rfl) (by kernel_rfl) (by kernel_rfl) (fun _ _ _ h => h) (Or.inl ⟨by rfl, fun w0 hC => by simp [execOp, Act.eval, Act.put, go_sem]⟩) hHeld ?_
      try simp only [Act.put, List.setIfInBounds_toArray, List.set_cons_zero, List.set_cons_succ, List.getElem_toArray, List.getElem_cons_zero, List.getElem_cons_succ]
      refine wpAnyH_take (i := 7) (v := .int .i64 8) rfl (by kernel_rfl) (by kernel_rfl) (by kernel_rfl) (fun _ _ _ h => h) (Or.inl ⟨by rfl, fun w0 hC => by simp [execOp, Act.eval, Act.put, go_sem]⟩) hHeld ?_
      try simp only [Act.put, List.setIfInBounds_toArray, List.set_cons_zero, List.set_cons_succ, List.getElem_toArray, List.getElem_cons_zero, List.getElem_cons_succ]
      have hf8 := stored4_facts hk8 (.slice A9 n9 c9) (.slice A9' n9' c9') (.int .i64 x3.1.fuse) (.bool x3.1.down)
      have HS : Hid ((fun W' => Below W8.heap.size W8 W' ∧ Bk W' b9 35 #[.int .i64 0, .int .i64 0, .int .i64 0, .int .i64 0]) (stored4 V25 b8 (.slice A9 n9 c9) (.slice A9' n9' c9') (.int .i64 x3.1.fuse) (.bool x3.1.down))) := Lib.hid ⟨hf8.2.2.1 _ _ hHeld hl8, hf8.2.2.2 _ _ _ hne hk9⟩
      unfold stored4 at HS
      obtain ⟨⟨p0, p1, p2, p3⟩, q0, q1, q2, q3⟩ := hk8.four
      clear hf8 hk9
      refine wpAnyH_ready (rs := [10]) (by kernel_rfl) (by simp) (AllReadyH.cons rfl (fun K hK => ?_) AllReadyH.nil)
      rw [if_pos (by rfl)]
      go_wp2_with fail
      refine k_over (fun W' => Below W8.heap.size W8 W' ∧ Bk W' b9 35 #[.int .i64 0, .int .i64 0, .int .i64 0, .int .i64 0]) HS.out ?_
      clear HS hk8 p0 p1 p2 p3 q0 q1 q2 q3 hHeld
      rintro U1 ⟨hSa, hk9⟩
      refine hK.out _ _ hSa (fun hHeld => ?_)
      clear hK K
      try simp only [Act.put, List.setIfInBounds_toArray, List.set_cons_zero, List.set_cons_succ, List.getElem_toArray, List.getElem_cons_zero, List.getElem_cons_succ]
      clear hSa
      have hf9 := stored4_facts hk9 (.int .i64 1) (.int .i64 2) (.int .i64 4) (.int .i64 2)
      have HS : Hid ((fun W' => Below W8.heap.size W8 W') (stored4 U1 b9 (.int .i64 1) (.int .i64 2) (.int .i64 4) (.int .i64 2))) := Lib.hid (hf9.2.2.1 _ _ hHeld hl9)
      unfold stored4 at HS
      obtain ⟨⟨p0, p1, p2, p3⟩, q0, q1, q2, q3⟩ := hk9.four
      clear hf9
      refine wpAnyH_ready (rs := [11]) (by kernel_rfl) (by simp) (AllReadyH.cons rfl (fun K hK => ?_) AllReadyH.nil)
      rw [if_pos (by rfl)]
      go_wp2_with fail
      refine k_over (fun W' => Below W8.heap.size W8 W') HS.out ?_
      clear HS hk9 p0 p1 p2 p3 q0 q1 q2 q3 hHeld
      rintro U2 hSa
      refine hK.out _ _ hSa (fun hHeld => ?_)
      clear hK K
      try simp only [Act.put, List.setIfInBounds_toArray, List.set_cons_zero, List.set_cons_succ, List.getElem_toArray, List.getElem_cons_zero, List.getElem_cons_succ]
      clear hSa
      refine wpAnyH_ready (rs := [12]) (by kernel_rfl) (by simp) (AllReadyH.cons rfl (fun K hK => ?_) AllReadyH.nil)
      rw [if_pos (by rfl)]
      go_wp2_with fail
      have hSa := hHeld
      refine hK.out _ _ hSa (fun hHeld => ?_)
      clear hK K
      try simp only [Act.put, List.setIfInBounds_toArray, List.set_cons_zero, List.set_cons_succ, List.getElem_toArray, List.getElem_cons_zero, List.getElem_cons_succ]
      clear hSa
      refine wpAnyH_done (by kernel_rfl) ?_ _
      have k3 := HK3.out.below hHeld HK3.out.lt
      have kr := HKR.out.below hHeld (Nat.le_refl _)
      have kb := HKB.out.trans (hHeld.mono HKB.out.size)
      obtain ⟨bl, ol, Al, nl, cl, hAL, hbl, hcl, -, -, -, hby⟩ := kr.at_ (k := 1) (by omega)
      obtain rfl := hAL
      have hnl : nl = 3 := hby.1.symm
      subst hnl
      have hstr := run_str_of_bytes (P := Tryd.prog) (n := 3) (c := cl) hby (src := 32) (dst := 9) (e := 5) Tryd.underlying32 Tryd.underlying5 Tryd.underlying9
      rw [show strOf (textAt [[1], [116, 119, 111]] 1) = ⟨#[116, 119, 111]⟩ from by decide] at hstr
      obtain ⟨⟨r0, r1, r2, r3⟩, s0, s1, s2, s3⟩ := k3.four
      have KB := Lib.hid kb
      clear kr kb hby k3 hHeld HK1 HK3 HKD HKR HKB hap
      go_wp2_with fail
      go_ret
      exact ⟨rfl, KB.out⟩
  · rw [if_pos (by rfl)]
    go_wp2_with fail
    have hl9 : W8.heap.size ≤ W9.heap.size := hHeld.size
    refine k_over (fun W' => Below W9.heap.size W9 W' ∧ Bk W' W9.heap.size 35 #[.int .i64 0, .int .i64 0, .int .i64 0, .int .i64 0]) ⟨(Below.refl _ _).alloc (Nat.le_refl _) _, Bk.new W9 _ _⟩ ?_
    rintro V26 ⟨hba, hk9⟩
    obtain ⟨b9, hz⟩ : ∃ b, b = W9.heap.size := ⟨_, rfl⟩
    rw [← hz] at hk9 hl9 ⊢
    clear hz
    have hSa := hHeld.trans (hba.mono hHeld.size)
    clear hba hHeld
    refine hK.out _ _ hSa (fun hHeld => ?_)
    clear hK K
    try simp only [Act.put, List.setIfInBounds_toArray, List.set_cons_zero, List.set_cons_succ, List.getElem_toArray, List.getElem_cons_zero, List.getElem_cons_succ]
    clear hSa
    refine wpAnyH_ready (rs := [2, 8]) (by kernel_rfl) (by simp) (AllReadyH.cons rfl (fun K hK => ?_) (AllReadyH.cons rfl (fun K hK => ?_) AllReadyH.nil))
    · rw [if_pos (by rfl)]
      go_wp2_with fail
      refine k_over (fun W' => Below V26.heap.size V26 W') ((Below.refl _ _).alloc (Nat.le_refl _) _) ?_
      intro V27 hba
      generalize hz42 : V26.heap.size = b42 at hba ⊢
      rw [← hz42] at hba
      clear hz42
      have hSa := hHeld.trans (hba.mono hHeld.size)
      replace hk9 := hk9.below hba hk9.lt
      clear hba hHeld
      refine hK.out _ _ hSa (fun hHeld => ?_)
      clear hK K
      try simp only [Act.put, List.setIfInBounds_toArray, List.set_cons_zero, List.set_cons_succ, List.getElem_toArray, List.getElem_cons_zero, List.getElem_cons_succ]
      clear hSa
      refine wpAnyH_ready (rs := [3, 8]) (by kernel_rfl) (by simp) (AllReadyH.cons rfl (fun K hK => ?_) (AllReadyH.cons rfl (fun K hK => ?_) AllReadyH.nil))
      · rw [if_pos (by rfl)]
        go_wp2_with fail
        refine (hap V27 _ hHeld).mono ?_
        rintro e V28 ⟨v9, rfl, hd9, hba⟩
        obtain ⟨A9, n9, c9, A9', n9', c9', rfl, -⟩ := hd9
        have hSa := hHeld.trans (hba.mono hHeld.size)
        replace hk9 := hk9.below hba hk9.lt
        clear hba hHeld
        refine hK.out _ _ hSa (fun hHeld => ?_)
        clear hK K
        try simp only [Act.put, List.setIfInBounds_toArray, List.set_cons_zero, List.set_cons_succ, List.getElem_toArray, List.getElem_cons_zero, List.getElem_cons_succ]
        clear hSa
        refine wpAnyH_take (i := 4) (v := .tuple #[.agg #[.slice A9 n9 c9, .slice A9' n9' c9', .int .i64 x3.1.fuse, .bool x3.1.down], .agg #[.int .i64 1, .int .i64 2, .int .i64 4, .int .i64 2], .int .i64 8]) rfl (by kernel_rfl) (by kernel_rfl) (by kernel_rfl) (fun _ _ _ h => h) (Or.inl ⟨by rfl, fun w0 hC => by simp [execOp, Act.eval, Act.put, go_sem]⟩) hHeld ?_
        try simp only [Act.put, List.setIfInBounds_toArray, List.set_cons_zero, List.set_cons_succ, List.getElem_toArray, List.getElem_cons_zero, List.getElem_cons_succ]
        refine wpAnyH_take (i := 5) (v := .agg #[.slice A9 n9 c9, .slice A9' n9' c9', .int .i64 x3.1.fuse, .bool x3.1.down]) rfl (by kernel_rfl) (by kernel_rfl) (by kernel_rfl) (fun _ _ _ h => h) (Or.inl ⟨by rfl, fun w0 hC => by simp [execOp, Act.eval, Act.put, go_sem]⟩) hHeld ?_
        try simp only [Act.put, List.setIfInBounds_toArray, List.set_cons_zero, List.set_cons_succ, List.getElem_toArray, List.getElem_cons_zero, List.getElem_cons_succ]
        refine wpAnyH_take (i := 6) (v := .agg #[.int .i64 1, .int .i64 2, .int .i64 4, .int .i64 2]) rfl (by kernel_rfl) (by kernel_rfl) (by kernel_rfl) (fun _ _ _ h => h) (Or.inl ⟨by rfl, fun w0 hC => by simp [execOp, Act.eval, Act.put, go_sem]⟩) hHeld ?_
        try simp only [Act.put, List.setIfInBounds_toArray, List.set_cons_zero, List.set_cons_succ, List.getElem_toArray, List.getElem_cons_zero, List.getElem_cons_succ]
        refine wpAnyH_take (i := 7) (v := .int .i64 8) rfl (by kernel_rfl) (by kernel_rfl) (by kernel_rfl) (fun _ _ _ h => h) (Or.inl ⟨by rfl, fun w0 hC => by simp [execOp, Act.eval, Act.put, go_sem]⟩) hHeld ?_
        try simp only [Act.put, List.setIfInBounds_toArray, List.set_cons_zero, List.set_cons_succ, List.getElem_toArray, List.getElem_cons_zero, List.getElem_cons_succ]
        refine wpAnyH_ready (rs := [8]) (by kernel_rfl) (by simp) (AllReadyH.cons rfl (fun K hK => ?_) AllReadyH.nil)
        rw [if_pos (by rfl)]
        go_wp2_with fail
        have hl8 : W8.heap.size ≤ V28.heap.size := hHeld.size
        have hne : b9 ≠ V28.heap.size := by have := hk9.lt; omega
        refine k_over (fun W' => Below V28.heap.size V28 W' ∧ Bk W' V28.heap.size 28 #[.slice none 0 0, .slice none 0 0, .int .i64 0, .bool false]) ⟨(Below.refl _ _).alloc (Nat.le_refl _) _, Bk.new V28 _ _⟩ ?_
        rintro V29 ⟨hba, hk8⟩
        obtain ⟨b8, hz⟩ : ∃ b, b = V28.heap.size := ⟨_, rfl⟩
        rw [← hz] at hk8 hl8 ⊢
        rw [← hz] at hne
        clear hz
        have hSa := hHeld.trans (hba.mono hHeld.size)
        replace hk9 := hk9.below hba hk9.lt
        clear hba hHeld
        refine hK.out _ _ hSa (fun hHeld => ?_)
        clear hK K
        try simp only [Act.put, List.setIfInBounds_toArray, List.set_cons_zero, List.set_cons_succ, List.getElem_toArray, List.getElem_cons_zero, List.getElem_cons_succ]
        clear hSa
        have hf8 := stored4_facts hk8 (.slice A9 n9 c9) (.slice A9' n9' c9') (.int .i64 x3.1.fuse) (.bool x3.1.down)
        have HS : Hid ((fun W' => Below W8.heap.size W8 W' ∧ Bk W' b9 35 #[.int .i64 0, .int .i64 0, .int .i64 0, .int .i64 0]) (stored4 V29 b8 (.slice A9 n9 c9) (.slice A9' n9' c9') (.int .i64 x3.1.fuse) (.bool x3.1.down))) := Lib.hid ⟨hf8.2.2.1 _ _ hHeld hl8, hf8.2.2.2 _ _ _ hne hk9⟩
        unfold stored4 at HS
        obtain ⟨⟨p0, p1, p2, p3⟩, q0, q1, q2, q3⟩ := hk8.four
        clear hf8 hk9
        refine wpAnyH_ready (rs := [10]) (by kernel_rfl) (by simp) (AllReadyH.cons rfl (fun K hK => ?_) AllReadyH.nil)
        rw [if_pos (by rfl)]
        go_wp2_with fail
        refine k_over (fun W' => Below W8.heap.size W8 W' ∧ Bk W' b9 35 #[.int .i64 0, .int .i64 0, .int .i64 0, .int .i64 0]) HS.out ?_
        clear HS hk8 p0 p1 p2 p3 q0 q1 q2 q3 hHeld
        rintro U1 ⟨hSa, hk9⟩
        refine hK.out _ _ hSa (fun hHeld => ?_)
        clear hK K
        try simp only [Act.put, List.setIfInBounds_toArray, List.set_cons_zero, List.set_cons_succ, List.getElem_toArray, List.getElem_cons_zero, List.getElem_cons_succ]
        clear hSa
        have hf9 := stored4_facts hk9 (.int .i64 1) (.int .i64 2) (.int .i64 4) (.int .i64 2)
        have HS : Hid ((fun W' => Below W8.heap.size W8 W') (stored4 U1 b9 (.int .i64 1) (.int .i64 2) (.int .i64 4) (.int .i64 2))) := Lib.hid (hf9.2.2.1 _ _ hHeld hl9)
        unfold stored4 at HS
        obtain ⟨⟨p0, p1, p2, p3⟩, q0, q1, q2, q3⟩ := hk9.four
        clear hf9
        refine wpAnyH_ready (rs := [11]) (by kernel_rfl) (by simp) (AllReadyH.cons rfl (fun K hK => ?_) AllReadyH.nil)
        rw [if_pos (by rfl)]
        go_wp2_with fail
        refine k_over (fun W' => Below W8.heap.size W8 W') HS.out ?_
        clear HS hk9 p0 p1 p2 p3 q0 q1 q2 q3 hHeld
        rintro U2 hSa
        refine hK.out _ _ hSa (fun hHeld => ?_)
        clear hK K
        try simp only [Act.put, List.setIfInBounds_toArray, List.set_cons_zero, List.set_cons_succ, List.getElem_toArray, List.getElem_cons_zero, List.getElem_cons_succ]
        clear hSa
        refine wpAnyH_ready (rs := [12]) (by kernel_rfl) (by simp) (AllReadyH.cons rfl (fun K hK => ?_) AllReadyH.nil)
        rw [if_pos (by rfl)]
        go_wp2_with fail
        have hSa := hHeld
        refine hK.out _ _ hSa (fun hHeld => ?_)
        clear hK K
        try simp only [Act.put, List.setIfInBounds_toArray, List.set_cons_zero, List.set_cons_succ, List.getElem_toArray, List.getElem_cons_zero, List.getElem_cons_succ]
        clear hSa
        refine wpAnyH_done (by kernel_rfl) ?_ _
        have k3 := HK3.out.below hHeld HK3.out.lt
        have kr := HKR.out.below hHeld (Nat.le_refl _)
        have kb := HKB.out.trans (hHeld.mono HKB.out.size)
        obtain ⟨bl, ol, Al, nl, cl, hAL, hbl, hcl, -, -, -, hby⟩ := kr.at_ (k := 1) (by omega)
        obtain rfl := hAL
        have hnl : nl = 3 := hby.1.symm
        subst hnl
        have hstr := run_str_of_bytes (P := Tryd.prog) (n := 3) (c := cl) hby (src := 32) (dst := 9) (e := 5) Tryd.underlying32 Tryd.underlying5 Tryd.underlying9
        rw [show strOf (textAt [[1], [116, 119, 111]] 1) = ⟨#[116, 119, 111]⟩ from by decide] at hstr
        obtain ⟨⟨r0, r1, r2, r3⟩, s0, s1, s2, s3⟩ := k3.four
        have KB := Lib.hid kb
        clear kr kb hby k3 hHeld HK1 HK3 HKD HKR HKB hap
        go_wp2_with fail
        go_ret
        exact ⟨rfl, KB.out⟩
      · rw [if_pos (by rfl)]
        go_wp2_with fail
        have hl8 : W8.heap.size ≤ V27.heap.size := hHeld.size
        have hne : b9 ≠ V27.heap.size := by have := hk9.lt; omega
        refine k_over (fun W' => Below V27.heap.size V27 W' ∧ Bk W' V27.heap.size 28 #[.slice none 0 0, .slice none 0 0, .int .i64 0, .bool false]) ⟨(Below.refl _ _).alloc (Nat.le_refl _) _, Bk.new V27 _ _⟩ ?_
        rintro V30 ⟨hba, hk8⟩
        obtain ⟨b8, hz⟩ : ∃ b, b = V27.heap.size := ⟨_, rfl⟩
        rw [← hz] at hk8 hl8 ⊢
        rw [← hz] at hne
        clear hz
        have hSa := hHeld.trans (hba.mono hHeld.size)
        replace hk9 := hk9.below hba hk9.lt
        clear hba hHeld
        refine hK.out _ _ hSa (fun hHeld => ?_)
        clear hK K
        try simp only [Act.put, List.setIfInBounds_toArray, List.set_cons_zero, List.set_cons_succ, List.getElem_toArray, List.getElem_cons_zero, List.getElem_cons_succ]
        clear hSa
        refine wpAnyH_ready (rs := [3]) (by kernel_rfl) (by simp) (AllReadyH.cons rfl (fun K hK => ?_) AllReadyH.nil)
        rw [if_pos (by rfl)]
        go_wp2_with fail
        refine (hap V30 _ hHeld).mono ?_
        rintro e V31 ⟨v9, rfl, hd9, hba⟩
        obtain ⟨A9, n9, c9, A9', n9', c9', rfl, -⟩ := hd9
        have hSa := hHeld.trans (hba.mono hHeld.size)
        replace hk8 := hk8.below hba hk8.lt
        replace hk9 := hk9.below hba hk9.lt
        clear hba hHeld
        refine hK.out _ _ hSa (fun hHeld => ?_)
        clear hK K
        try simp only [Act.put, List.setIfInBounds_toArray, List.set_cons_zero, List.set_cons_succ, List.getElem_toArray, List.getElem_cons_zero, List.getElem_cons_succ]
        clear hSa
        refine wpAnyH_take (i := 4) (v := .tuple #[.agg #[.slice A9 n9 c9, .slice A9' n9' c9', .int .i64 x3.1.fuse, .bool x3.1.down], .agg #[.int .i64 1, .int .i64 2, .int .i64 4, .int .i64 2], .int .i64 8]) rfl (by kernel_rfl) (by kernel_rfl) (by kernel_rfl) (fun _ _ _ h => h) (Or.inl ⟨by rfl, fun w0 hC => by simp [execOp, Act.eval, Act.put, go_sem]⟩) hHeld ?_
        try simp only [Act.put, List.setIfInBounds_toArray, List.set_cons_zero, List.set_cons_succ, List.getElem_toArray, List.getElem_cons_zero, List.getElem_cons_succ]
        refine wpAnyH_take (i := 5) (v := .agg #[.slice A9 n9 c9, .slice A9' n9' c9', .int .i64 x3.1.fuse, .bool x3.1.down]) rfl (by kernel_rfl) (by kernel_rfl) (by kernel_rfl) (fun _ _ _ h => h) (Or.inl ⟨by rfl, fun w0 hC => by simp [execOp, Act.eval, Act.put, go_sem]⟩) hHeld ?_
        try simp only [Act.put, List.setIfInBounds_toArray, List.set_cons_zero, List.set_cons_succ, List.getElem_toArray, List.getElem_cons_zero, List.getElem_cons_succ]
        refine wpAnyH_take (i := 6) (v := .agg #[.int .i64 1, .int .i64 2, .int .i64 4, .int .i64 2]) rfl (by kernel_rfl) (by kernel_rfl) (by kernel_rfl) (fun _ _ _ h => h) (Or.inl ⟨by rfl, fun w0 hC => by simp [execOp, Act.eval, Act.put, go_sem]⟩) hHeld ?_
        try simp only [Act.put, List.setIfInBounds_toArray, List.set_cons_zero, List.set_cons_succ, List.getElem_toArray, List.getElem_cons_zero, List.getElem_cons_succ]
        refine wpAnyH_take (i := 7) (v := .int .i64 8) rfl (by kernel_rfl) (by kernel_rfl) (by kernel_rfl) (fun _ _ _ h => h) (Or.inl ⟨by rfl, fun w0 hC => by simp [execOp, Act.eval, Act.put, go_sem]⟩) hHeld ?_
        try simp only [Act.put, List.setIfInBounds_toArray, List.set_cons_zero, List.set_cons_succ, List.getElem_toArray, List.getElem_cons_zero, List.getElem_cons_succ]
        have hf8 := stored4_facts hk8 (.slice A9 n9 c9) (.slice A9' n9' c9') (.int .i64 x3.1.fuse) (.bool x3.1.down)
        have HS : Hid ((fun W' => Below W8.heap.size W8 W' ∧ Bk W' b9 35 #[.int .i64 0, .int .i64 0, .int .i64 0, .int .i64 0]) (stored4 V31 b8 (.slice A9 n9 c9) (.slice A9' n9' c9') (.int .i64 x3.1.fuse) (.bool x3.1.down))) := Lib.hid ⟨hf8.2.2.1 _ _ hHeld hl8, hf8.2.2.2 _ _ _ hne hk9⟩
        unfold stored4 at HS
        obtain ⟨⟨p0, p1, p2, p3⟩, q0, q1, q2, q3⟩ := hk8.four
        clear hf8 hk9
        refine wpAnyH_ready (rs := [10]) (by kernel_rfl) (by simp) (AllReadyH.cons rfl (fun K hK => ?_) AllReadyH.nil)
        rw [if_pos (by rfl)]
        go_wp2_with fail
        refine k_over (fun W' => Below W8.heap.size W8 W' ∧ Bk W' b9 35 #[.int .i64 0, .int .i64 0, .int .i64 0, .int .i64 0]) HS.out ?_
        clear HS hk8 p0 p1 p2 p3 q0 q1 q2 q3 hHeld
        rintro U1 ⟨hSa, hk9⟩
        refine hK.out _ _ hSa (fun hHeld => ?_)
        clear hK K
        try simp only [Act.put, List.setIfInBounds_toArray, List.set_cons_zero, List.set_cons_succ, List.getElem_toArray, List.getElem_cons_zero, List.getElem_cons_succ]
        clear hSa
        have hf9 := stored4_facts hk9 (.int .i64 1) (.int .i64 2) (.int .i64 4) (.int .i64 2)
        have HS : Hid ((fun W' => Below W8.heap.size W8 W') (stored4 U1 b9 (.int .i64 1) (.int .i64 2) (.int .i64 4) (.int .i64 2))) := Lib.hid (hf9.2.2.1 _ _ hHeld hl9)
        unfold stored4 at HS
        obtain ⟨⟨p0, p1, p2, p3⟩, q0, q1, q2, q3⟩ := hk9.four
        clear hf9
        refine wpAnyH_ready (rs := [11]) (by kernel_rfl) (by simp) (AllReadyH.cons rfl (fun K hK => ?_) AllReadyH.nil)
        rw [if_pos (by rfl)]
        go_wp2_with fail
        refine k_over (fun W' => Below W8.heap.size W8 W') HS.out ?_
        clear HS hk9 p0 p1 p2 p3 q0 q1 q2 q3 hHeld
        rintro U2 hSa
        refine hK.out _ _ hSa (fun hHeld => ?_)
        clear hK K
        try simp only [Act.put, List.setIfInBounds_toArray, List.set_cons_zero, List.set_cons_succ, List.getElem_toArray, List.getElem_cons_zero, List.getElem_cons_succ]
        clear hSa
        refine wpAnyH_ready (rs := [12]) (by kernel_rfl) (by simp) (AllReadyH.cons rfl (fun K hK => ?_) AllReadyH.nil)
        rw [if_pos (by rfl)]
        go_wp2_with fail
        have hSa := hHeld
        refine hK.out _ _ hSa (fun hHeld => ?_)
        clear hK K
        try simp only [Act.put, List.setIfInBounds_toArray, List.set_cons_zero, List.set_cons_succ, List.getElem_toArray, List.getElem_cons_zero, List.getElem_cons_succ]
        clear hSa
        refine wpAnyH_done (by kernel_rfl) ?_ _
        have k3 := HK3.out.below hHeld HK3.out.lt
        have kr := HKR.out.below hHeld (Nat.le_refl _)
        have kb := HKB.out.trans (hHeld.mono HKB.out.size)
        obtain ⟨bl, ol, Al, nl, cl, hAL, hbl, hcl, -, -, -, hby⟩ := kr.at_ (k := 1) (by omega)
        obtain rfl := hAL
        have hnl : nl = 3 := hby.1.symm
        subst hnl
        have hstr := run_str_of_bytes (P := Tryd.prog) (n := 3) (c := cl) hby (src := 32) (dst := 9) (e := 5) Tryd.underlying32 Tryd.underlying5 Tryd.underlying9
        rw [show strOf (textAt [[1], [116, 119, 111]] 1) = ⟨#[116, 119, 111]⟩ from by decide] at hstr
        obtain ⟨⟨r0, r1, r2, r3⟩, s0, s1, s2, s3⟩ := k3.four
        have KB := Lib.hid kb
        clear kr kb hby k3 hHeld HK1 HK3 HKD HKR HKB hap
        go_wp2_with fail
        go_ret
        exact ⟨rfl, KB.out⟩
    · rw [if_pos (by rfl)]
      go_wp2_with fail
      have hl8 : W8.heap.size ≤ V26.heap.size := hHeld.size
      have hne : b9 ≠ V26.heap.size := by have := hk9.lt; omega
      refine k_over (fun W' => Below V26.heap.size V26 W' ∧ Bk W' V26.heap.size 28 #[.slice none 0 0, .slice none 0 0, .int .i64 0, .bool false]) ⟨(Below.refl _ _).alloc (Nat.le_refl _) _, Bk.new V26 _ _⟩ ?_
      rintro V32 ⟨hba, hk8⟩
      obtain ⟨b8, hz⟩ : ∃ b, b = V26.heap.size := ⟨_, rfl⟩
      rw [← hz] at hk8 hl8 ⊢
      rw [← hz] at hne
      clear hz
      have hSa := hHeld.trans (hba.mono hHeld.size)
      replace hk9 := hk9.below hba hk9.lt
      clear hba hHeld
      refine hK.out _ _ hSa (fun hHeld => ?_)
      clear hK K
      try simp only [Act.put, List.setIfInBounds_toArray, List.set_cons_zero, List.set_cons_succ, List.getElem_toArray, List.getElem_cons_zero, List.getElem_cons_succ]
      clear hSa
      refine wpAnyH_ready (rs := [2]) (by kernel_rfl) (by simp) (AllReadyH.cons rfl (fun K hK => ?_) AllReadyH.nil)
      rw [if_pos (by rfl)]
      go_wp2_with fail
      refine k_over (fun W' => Below V32.heap.size V32 W') ((Below.refl _ _).alloc (Nat.le_refl _) _) ?_
      intro V33 hba
      generalize hz42 : V32.heap.size = b42 at hba ⊢
      rw [← hz42] at hba
      clear hz42
      have hSa := hHeld.trans (hba.mono hHeld.size)
      replace hk8 := hk8.below hba hk8.lt
      replace hk9 := hk9.below hba hk9.lt
      clear hba hHeld
      refine hK.out _ _ hSa (fun hHeld => ?_)
      clear hK K
      try simp only [Act.put, List.setIfInBounds_toArray, List.set_cons_zero, List.set_cons_succ, List.getElem_toArray, List.getElem_cons_zero, List.getElem_cons_succ]
      clear hSa
      refine wpAnyH_ready (rs := [3]) (by kernel_rfl) (by simp) (AllReadyH.cons rfl (fun K hK => ?_) AllReadyH.nil)
      rw [if_pos (by rfl)]
      go_wp2_with fail
      refine (hap V33 _ hHeld).mono ?_
      rintro e V34 ⟨v9, rfl, hd9, hba⟩
      obtain ⟨A9, n9, c9, A9', n9', c9', rfl, -⟩ := hd9
      have hSa := hHeld.trans (hba.mono hHeld.size)
      replace hk8 := hk8.below hba hk8.lt
      replace hk9 := hk9.below hba hk9.lt
      clear hba hHeld
      refine hK.out _ _ hSa (fun hHeld => ?_)
      clear hK K
      try simp only [Act.put, List.setIfInBounds_toArray, List.set_cons_zero, List.set_cons_succ, List.getElem_toArray, List.getElem_cons_zero, List.getElem_cons_succ]
      clear hSa
      refine wpAnyH_take (i := 4) (v := .tuple #[.agg #[.slice A9 n9 c9, .slice A9' n9' c9', .int .i64 x3.1.fuse, .bool x3.1.down], .agg #[.int .i64 1, .int .i64 2, .int .i64 4, .int .i64 2], .int .i64 8]) rfl (by kernel_rfl) (by kernel_rfl) (by kernel_rfl) (fun _ _ _ h => h) (Or.inl ⟨by rfl, fun w0 hC => by simp [execOp, Act.eval, Act.put, go_sem]⟩) hHeld ?_
      try simp only [Act.put, List.setIfInBounds_toArray, List.set_cons_zero, List.set_cons_succ, List.getElem_toArray, List.getElem_cons_zero, List.getElem_cons_succ]
      refine wpAnyH_take (i := 5) (v := .agg #[.slice A9 n9 c9, .slice A9' n9' c9', .int .i64 x3.1.fuse, .bool x3.1.down]) rfl (by kernel_rfl) (by kernel_rfl) (by kernel_rfl) (fun _ _ _ h => h) (Or.inl ⟨by rfl, fun w0 hC => by simp [execOp, Act.eval, Act.put, go_sem]⟩) hHeld ?_
      try simp only [Act.put, List.setIfInBounds_toArray, List.set_cons_zero, List.set_cons_succ, List.getElem_toArray, List.getElem_cons_zero, List.getElem_cons_succ]
      refine wpAnyH_take (i := 6) (v := .agg #[.int .i64 1, .int .i64 2, .int .i64 4, .int .i64 2]) rfl (by kernel_rfl) (by kernel_rfl) (by kernel_rfl) (fun _ _ _ h => h) (Or.inl ⟨by rfl, fun w0 hC => by simp [execOp, Act.eval, Act.put, go_sem]⟩) hHeld ?_
      try simp only [Act.put, List.setIfInBounds_toArray, List.set_cons_zero, List.set_cons_succ, List.getElem_toArray, List.getElem_cons_zero, List.getElem_cons_succ]
      refine wpAnyH_take (i := 7) (v := .int .i64 8) rfl (by kernel_rfl) (by kernel_rfl) (by kernel_rfl) (fun _ _ _ h => h) (Or.inl ⟨by rfl, fun w0 hC => by simp [execOp, Act.eval, Act.put, go_sem]⟩) hHeld ?_
      try simp only [Act.put, List.setIfInBounds_toArray, List.set_cons_zero, List.set_cons_succ, List.getElem_toArray, List.getElem_cons_zero, List.getElem_cons_succ]
      have hf8 := stored4_facts hk8 (.slice A9 n9 c9) (.slice A9' n9' c9') (.int .i64 x3.1.fuse) (.bool x3.1.down)
      have HS : Hid ((fun W' => Below W8.heap.size W8 W' ∧ Bk W' b9 35 #[.int .i64 0, .int .i64 0, .int .i64 0, .int .i64 0]) (stored4 V34 b8 (.slice A9 n9 c9) (.slice A9' n9' c9') (.int .i64 x3.1.fuse) (.bool x3.1.down))) := Lib.hid ⟨hf8.2.2.1 _ _ hHeld hl8, hf8.2.2.2 _ _ _ hne hk9⟩
      unfold stored4 at HS
      obtain ⟨⟨p0, p1, p2, p3⟩, q0, q1, q2, q3⟩ := hk8.four
      clear hf8 hk9
      refine wpAnyH_ready (rs := [10]) (by kernel_rfl) (by simp) (AllReadyH.cons rfl (fun K hK => ?_) AllReadyH.nil)
      rw [if_pos (by rfl)]
      go_wp2_with fail
      refine k_over (fun W' => Below W8.heap.size W8 W' ∧ Bk W' b9 35 #[.int .i64 0, .int .i64 0, .int .i64 0, .int .i64 0]) HS.out ?_
      clear HS hk8 p0 p1 p2 p3 q0 q1 q2 q3 hHeld
      rintro U1 ⟨hSa, hk9⟩
      refine hK.out _ _ hSa (fun hHeld => ?_)
      clear hK K
      try simp only [Act.put, List.setIfInBounds_toArray, List.set_cons_zero, List.set_cons_succ, List.getElem_toArray, List.getElem_cons_zero, List.getElem_cons_succ]
      clear hSa
      have hf9 := stored4_facts hk9 (.int .i64 1) (.int .i64 2) (.int .i64 4) (.int .i64 2)
      have HS : Hid ((fun W' => Below W8.heap.size W8 W') (stored4 U1 b9 (.int .i64 1) (.int .i64 2) (.int .i64 4) (.int .i64 2))) := Lib.hid (hf9.2.2.1 _ _ hHeld hl9)
      unfold stored4 at HS
      obtain ⟨⟨p0, p1, p2, p3⟩, q0, q1, q2, q3⟩ := hk9.four
      clear hf9
      refine wpAnyH_ready (rs := [11]) (by kernel_rfl) (by simp) (AllReadyH.cons rfl (fun K hK => ?_) AllReadyH.nil)
      rw [if_pos (by rfl)]
      go_wp2_with fail
      refine k_over (fun W' => Below W8.heap.size W8 W') HS.out ?_
      clear HS hk9 p0 p1 p2 p3 q0 q1 q2 q3 hHeld
      rintro U2 hSa
      refine hK.out _ _ hSa (fun hHeld => ?_)
      clear hK K
      try simp only [Act.put, List.setIfInBounds_toArray, List.set_cons_zero, List.set_cons_succ, List.getElem_toArray, List.getElem_cons_zero, List.getElem_cons_succ]
      clear hSa
      refine wpAnyH_ready (rs := [12]) (by kernel_rfl) (by simp) (AllReadyH.cons rfl (fun K hK => ?_) AllReadyH.nil)
      rw [if_pos (by rfl)]
      go_wp2_with fail
      have hSa := hHeld
      refine hK.out _ _ hSa (fun hHeld => ?_)
      clear hK K
      try simp only [Act.put, List.setIfInBounds_toArray, List.set_cons_zero, List.set_cons_succ, List.getElem_toArray, List.getElem_cons_zero, List.getElem_cons_succ]
      clear hSa
      refine wpAnyH_done (by kernel_rfl) ?_ _
      have k3 := HK3.out.below hHeld HK3.out.lt
      have kr := HKR.out.below hHeld (Nat.le_refl _)
      have kb := HKB.out.trans (hHeld.mono HKB.out.size)
      obtain ⟨bl, ol, Al, nl, cl, hAL, hbl, hcl, -, -, -, hby⟩ := kr.at_ (k := 1) (by omega)
      obtain rfl := hAL
      have hnl : nl = 3 := hby.1.symm
      subst hnl
      have hstr := run_str_of_bytes (P := Tryd.prog) (n := 3) (c := cl) hby (src := 32) (dst := 9) (e := 5) Tryd.underlying32 Tryd.underlying5 Tryd.underlying9
      rw [show strOf (textAt [[1], [116, 119, 111]] 1) = ⟨#[116, 119, 111]⟩ from by decide] at hstr
      obtain ⟨⟨r0, r1, r2, r3⟩, s0, s1, s2, s3⟩ := k3.four
      have KB := Lib.hid kb
      clear kr kb hby k3 hHeld HK1 HK3 HKD HKR HKB hap
      go_wp2_with fail
      go_ret
      exact ⟨rfl, KB.out⟩
end Go.Proofs.YtofbpkaebngnlaaDoor
