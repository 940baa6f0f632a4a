/-
 A part of the proof: see the last text.
-/
import Derived.Test.YtcdehejgnnnimaaGreatDoorSKvSmall
import Derived.Test.YtcdehejgnnnimaaGreatDoorSWalAppend
import Derived.Test.YtcdehejgnnnimaaGreatDoorSKvSnap
namespace Go.Proofs.YtcdehejgnnnimaaGreatDoor
set_option linter.unusedVariables false
set_option linter.unusedSimpArgs false
open Go.RowKit
set_option linter.unusedVariables false
set_option linter.unusedSimpArgs false
set_option maxRecDepth 20000 in
set_option maxHeartbeats 2000000 in
theorem kright_any (v : Value) (d : Dk) (h g u k : Nat) (A : Option Addr) (n c : Nat) (l : List Pr) (w : World) (hd : DkAt w w.heap.size v d) (hr : rightB d = true) (hf : LogFits d h g u k) (hl : ColK 2 pairC w w.heap.size A n l) (hn : n ≤ 140737488355328) :
 Calls Tryz.prog 19 #[v, .agg #[.int .i64 (h : Int), .int .i64 (g : Int), .int .i64 (u : Int), .int .i64 (k : Int), .slice A n c]] w fun e w' => Says (PairsOk l) e ∧ Below w.heap.size w w' := by
 obtain ⟨A1, n1, c1, A1', n1', c1', rfl, hx⟩ := hd
 have HD := Lib.hid (show DkAt w w.heap.size (.agg #[.slice A1 n1 c1, .slice A1' n1' c1', .int .i64 d.fuse, .bool d.down]) d from ⟨A1, n1, c1, A1', n1', c1', rfl, hx⟩)
 have HL := Lib.hid hl
 have HR := Lib.hid hr
 have HF := Lib.hid hf
 clear hl hr hf hx
 go_enter Tryz.func19, Tryz.ntmps19
 go_wp2_with fail
 refine calls_over (fun W => Below w.heap.size w W ∧ Bk W (w.heap.size + 1) 35 #[.int .i64 (h : Int), .int .i64 (g : Int), .int .i64 (u : Int), .int .i64 (k : Int), .slice A n c]) ⟨((Below.refl _ _).alloc (Nat.le_refl _) _).alloc (by simp) _, Bk.new2 w _ 35 #[.int .i64 (h : Int), .int .i64 (g : Int), .int .i64 (u : Int), .int .i64 (k : Int), .slice A n c]⟩ ?_
 rintro W ⟨hb, hk⟩
 have hw := wright_any _ d h g u k W (HD.out.later hb) HR.out HF.out
 unfold logN at hw
 refine hw.mono ?_
 clear hw
 rintro e W2 ⟨rfl, hb2⟩
 replace hk := hk.below hb2 hk.lt
 have HB := Lib.hid (hb.trans (hb2.mono hb.size))
 clear hb hb2
 have k4 := hk.cell 4
 have HK := Lib.hid hk
 clear hk
 go_wp2_with fail
 refine (pairsMayBe_any A n c l W2 (HL.out.later HB.out) hn).mono ?_
 rintro e W3 ⟨⟨b, rfl, hs⟩, hb3⟩
 have HS := Lib.hid hs
 have HB3 := Lib.hid (HB.out.trans (hb3.mono HB.out.size))
 clear hs hb3
 go_wp2_with fail
 go_ret
 exact ⟨⟨b, rfl, HS.out⟩, HB3.out⟩
end Go.Proofs.YtcdehejgnnnimaaGreatDoor
namespace Go.Proofs.YtcdehejgnnnimaaGreatDoor
set_option linter.unusedVariables false
set_option linter.unusedSimpArgs false
open Go.RowKit
set_option linter.unusedVariables false
set_option linter.unusedSimpArgs false
theorem Bk.five {w : World} {b : Nat} {t : TypeId} {v0 v1 v2 v3 v4 : Value} (h : Bk w b t #[v0, v1, v2, v3, v4]) :
 (w.cell? ⟨b, 0, none⟩ = some v0 ∧ w.cell? ⟨b, 1, none⟩ = some v1 ∧ w.cell? ⟨b, 2, none⟩ = some v2 ∧ w.cell? ⟨b, 3, none⟩ = some v3 ∧ w.cell? ⟨b, 4, none⟩ = some v4) ∧
 w.frozen? ⟨b, 0, none⟩ = false ∧ w.frozen? ⟨b, 1, none⟩ = false ∧ w.frozen? ⟨b, 2, none⟩ = false ∧ w.frozen? ⟨b, 3, none⟩ = false ∧ w.frozen? ⟨b, 4, none⟩ = false :=
 ⟨⟨h.cell 0, h.cell 1, h.cell 2, h.cell 3, h.cell 4⟩, h.frozen 0, h.frozen 1, h.frozen 2, h.frozen 3, h.frozen 4⟩
def stored5 (w : World) (b : Nat) (a0 a1 a2 a3 a4 : Value) : World := (stored4 w b a0 a1 a2 a3).setCell ⟨b, 4, none⟩ a4
theorem stored5_facts {w : World} {b : Nat} {t : TypeId} {u0 u1 u2 u3 u4 : Value} (h : Bk w b t #[u0, u1, u2, u3, u4]) (a0 a1 a2 a3 a4 : Value) :
 Bk (stored5 w b a0 a1 a2 a3 a4) b t #[a0, a1, a2, a3, a4] ∧ (∀ v d, DkAt w w.heap.size v d → DkAt (stored5 w b a0 a1 a2 a3 a4) (stored5 w b a0 a1 a2 a3 a4).heap.size v d) ∧
 (∀ B w0, Below B w0 w → B ≤ b → Below B w0 (stored5 w b a0 a1 a2 a3 a4)) ∧ (∀ g t' cs, g ≠ b → Bk w g t' cs → Bk (stored5 w b a0 a1 a2 a3 a4) g t' cs) := by
 unfold stored5 stored4
 have h1 := h.put 0 a0
 have h2 := h1.put 1 a1
 have h3 := h2.put 2 a2
 have h4 := h3.put 3 a3
 have h5 := h4.put 4 a4
 refine ⟨by simpa using h5, fun v d hd => ?_, fun B w0 hb hB => ((((hb.setCell hB a0).setCell hB a1).setCell hB a2).setCell hB a3).setCell hB a4, fun g t' cs hg hB => ((((hB.far hg a0).far hg a1).far hg a2).far hg a3).far hg a4⟩
 have := ((((hd.box h (by simp) 0 a0).box h1 (by simp) 1 a1).box h2 (by simp) 2 a2).box h3 (by simp) 3 a3).box h4 (by simp) 4 a4
 simpa using this
theorem load_store5 {w : World} {b : Nat} {z0 z1 z2 z3 : Int} {A : Option Addr} {n c : Nat} (h : Bk w b 35 #[.int .i64 z0, .int .i64 z1, .int .i64 z2, .int .i64 z3, .slice A n c]) :
 (loadVar 35 ⟨b, 0, none⟩).run Tryz.prog w = .ok (.agg #[.int .i64 z0, .int .i64 z1, .int .i64 z2, .int .i64 z3, .slice A n c]) w := by
 obtain ⟨⟨g0, g1, g2, g3, g4⟩, _⟩ := h.five
 simp [go_sem, g0, g1, g2, g3, g4]
def LiesS (w : World) (b6 b7 : Nat) (A A' : Option Addr) (n c n' c' : Nat) (x : Dk) (z0 z1 z2 z3 : Int) (A5 : Option Addr) (n5 c5 : Nat) (W : World) : Prop :=
 Bk W b6 27 #[.slice A n c, .slice A' n' c', .int .i64 x.fuse, .bool x.down] ∧ Bk W b7 35 #[.int .i64 z0, .int .i64 z1, .int .i64 z2, .int .i64 z3, .slice A5 n5 c5] ∧ DkAt W W.heap.size (.agg #[.slice A n c, .slice A' n' c', .int .i64 x.fuse, .bool x.down]) x ∧ Below w.heap.size w W
theorem LiesS.drew {w : World} {b6 b7 : Nat} {A A' : Option Addr} {n c n' c' : Nat} {x : Dk} {z0 z1 z2 z3 : Int} {A5 : Option Addr} {n5 c5 : Nat} {W : World} (h : LiesS w b6 b7 A A' n c n' c' x z0 z1 z2 z3 A5 n5 c5 W) : LiesS w b6 b7 A A' n c n' c' x z0 z1 z2 z3 A5 n5 c5 W.drew := ⟨h.1.drew, h.2.1.drew, h.2.2.1.drew, h.2.2.2.drew⟩
theorem two_boxesS {w W : World} {b6 b7 : Nat} {A A' : Option Addr} {n c n' c' : Nat} {x : Dk} {a0 a1 a2 a3 e0 e1 e2 e3 e4 : Value} (z0 z1 z2 z3 : Int) (A5 : Option Addr) (n5 c5 : Nat) (h6 : Bk W b6 27 #[a0, a1, a2, a3]) (h7 : Bk W b7 35 #[e0, e1, e2, e3, e4]) (hne : b7 ≠ b6)
 (hd : DkAt W W.heap.size (.agg #[.slice A n c, .slice A' n' c', .int .i64 x.fuse, .bool x.down]) x) (hb : Below w.heap.size w W) (hw6 : w.heap.size ≤ b6) (hw7 : w.heap.size ≤ b7) :
 Hid (LiesS w b6 b7 A A' n c n' c' x z0 z1 z2 z3 A5 n5 c5 (stored5 (stored4 W b6 (.slice A n c) (.slice A' n' c') (.int .i64 x.fuse) (.bool x.down)) b7 (.int .i64 z0) (.int .i64 z1) (.int .i64 z2) (.int .i64 z3) (.slice A5 n5 c5))) := by
 have hf6 := stored4_facts h6 (.slice A n c) (.slice A' n' c') (.int .i64 x.fuse) (.bool x.down)
 have hf7 := stored5_facts (hf6.2.2.2 _ _ _ hne h7) (.int .i64 z0) (.int .i64 z1) (.int .i64 z2) (.int .i64 z3) (.slice A5 n5 c5)
 exact Lib.hid ⟨hf7.2.2.2 _ _ _ (Ne.symm hne) hf6.1, hf7.1, hf7.2.1 _ _ (hf6.2.1 _ _ hd), hf7.2.2.1 _ _ (hf6.2.2.1 _ _ hb hw6) hw7⟩
def StoRes (w : World) (x : Dk × Int) (z0 z1 z2 z3 : Int) (A5 : Option Addr) (n5 c5 : Nat) (e : Ending) (w' : World) : Prop :=
 ∃ v, e = .returned (.tuple #[v, .agg #[.int .i64 z0, .int .i64 z1, .int .i64 z2, .int .i64 z3, .slice A5 n5 c5], .int .i64 x.2]) ∧ DkAt w' w'.heap.size v x.1 ∧ Below w.heap.size w w'
end Go.Proofs.YtcdehejgnnnimaaGreatDoor
