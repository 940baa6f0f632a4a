/-
  What Same answers of two disks, and what the document's own Same and Arm answer. Each leaves all older memory as it was.
-/
import Derived.Test.YtfejnfohbagnkaaSecEqW
import Derived.Test.YtfejnfohbagnkaaRefRight
namespace Go.Proofs.Ytfejnfohbagnkaa
open Go.RowKit

def sameB (a b : Dk) : Bool := decide (a.fuse = b.fuse) && (a.down == b.down) && decide (a.secs = b.secs) && decide (a.loose = b.loose)
theorem sameB_iff {a b : Dk} : sameB a b = true ↔ a = b := by
  unfold sameB
  cases a; cases b
  simp only [Bool.and_eq_true, decide_eq_true_eq, beq_iff_eq, Dk.mk.injEq]
  exact ⟨fun h => ⟨h.1.2, h.2, h.1.1.1, h.1.1.2⟩, fun h => ⟨⟨⟨h.2.2.1, h.2.2.2⟩, h.1⟩, h.2.1⟩⟩
theorem sameB_self (a : Dk) : sameB a a = true := sameB_iff.2 rfl

set_option maxHeartbeats 1000000 in
theorem same_any (u v : Value) (a b : Dk) (w : World) (ha : DkAt w w.heap.size u a) (hb : DkAt w w.heap.size v b) :
    Calls Try.prog 18 #[u, v] w fun e w' => e = .returned (.bool (sameB a b)) ∧ Below w.heap.size w w' := by
  obtain ⟨A, n, c, A', n', c', rfl, hnc, hnc', hc, hc', hS, hL⟩ := ha
  obtain ⟨B, m, e, B', m', e', rfl, hme, hme', he, he', hT, hM⟩ := hb
  have HS := Lib.hid hS; have HL := Lib.hid hL; have HT := Lib.hid hT; have HM := Lib.hid hM
  have hn : n ≤ maxLen := by omega
  have hn' : n' ≤ maxLen := by omega
  have hm : m ≤ maxLen := by omega
  have hm' : m' ≤ maxLen := by omega
  clear hS hL hT hM hnc hnc' hme hme' hc hc' he he'
  have hbw : Below w.heap.size w ((w.alloc (.cells #[.slice A n c, .slice A' n' c', .int .i64 a.fuse, .bool a.down] 25)).alloc (.cells #[.slice B m e, .slice B' m' e', .int .i64 b.fuse, .bool b.down] 25)) := ((Below.refl _ _).alloc (Nat.le_refl _) _).alloc (by simp) _
  by_cases h1 : a.fuse = b.fuse
  · have g1 : (a.fuse == b.fuse) = true := by simpa using h1
    by_cases h2 : a.down = b.down
    · have g2 : (a.down == b.down) = true := by simpa using h2
      have H1 := Lib.hid h1; have H2 := Lib.hid h2
      have hd1 : decide (a.fuse = b.fuse) = true := by simpa using h1
      have Hd1 := Lib.hid hd1; have Hg2 := Lib.hid g2
      clear h1 h2 hd1
      by_cases h3 : a.secs = b.secs
      · have g3 : decide (a.secs = b.secs) = true := by simpa using h3
        have Hg3 := Lib.hid g3
        clear h3
        go_enter Try.func18, Try.ntmps18
        go_wp2_with fail
        refine (equalS_any A B n c m e a.secs b.secs _ hn hm ((HS.out.below hbw (Nat.le_refl _)).more hbw.size) ((HT.out.below hbw (Nat.le_refl _)).more hbw.size)).mono ?_
        rintro e1 w1 ⟨rfl, hb1⟩
        have B0 : Bk w1 w.heap.size 25 _ := Bk.below ((Bk.new w 25 _).alloc _) hb1 (by simp only [World.size_alloc]; omega)
        have B1 : Bk w1 (w.heap.size + 1) 25 _ := Bk.below (Bk.new2 _ _ 25 _) hb1 (by simp only [World.size_alloc]; omega)
        obtain ⟨⟨p0, p1, p2, p3⟩, -⟩ := B0.four
        obtain ⟨⟨r0, r1, r2, r3⟩, -⟩ := B1.four
        have hb2 : Below w.heap.size w w1 := hbw.trans (hb1.mono (by simp only [World.size_alloc]; omega))
        have HW := Lib.hid hb2
        clear B0 B1 hb1 hb2
        go_wp2_with fail
        refine (equalW_any A' B' n' c' m' e' a.loose b.loose _ hn' hm' ((HL.out.below HW.out (Nat.le_refl _)).more HW.out.size) ((HM.out.below HW.out (Nat.le_refl _)).more HW.out.size)).mono ?_
        rintro e2 w2 ⟨rfl, hb3⟩
        have HW2 := Lib.hid (HW.out.trans (hb3.mono HW.out.size))
        clear hb3
        go_wp2
        go_ret
        exact ⟨ret_b (by unfold sameB; rw [Hd1.out, Hg2.out, Hg3.out]; simp) rfl, HW2.out⟩
      · have g3 : decide (a.secs = b.secs) = false := by simpa using h3
        have Hg3 := Lib.hid g3
        clear h3
        go_enter Try.func18, Try.ntmps18
        go_wp2_with fail
        refine (equalS_any A B n c m e a.secs b.secs _ hn hm ((HS.out.below hbw (Nat.le_refl _)).more hbw.size) ((HT.out.below hbw (Nat.le_refl _)).more hbw.size)).mono ?_
        rintro e1 w1 ⟨rfl, hb1⟩
        have B0 : Bk w1 w.heap.size 25 _ := Bk.below ((Bk.new w 25 _).alloc _) hb1 (by simp only [World.size_alloc]; omega)
        have B1 : Bk w1 (w.heap.size + 1) 25 _ := Bk.below (Bk.new2 _ _ 25 _) hb1 (by simp only [World.size_alloc]; omega)
        obtain ⟨⟨p0, p1, p2, p3⟩, -⟩ := B0.four
        obtain ⟨⟨r0, r1, r2, r3⟩, -⟩ := B1.four
        have hb2 : Below w.heap.size w w1 := hbw.trans (hb1.mono (by simp only [World.size_alloc]; omega))
        have HW := Lib.hid hb2
        clear B0 B1 hb1 hb2
        go_wp2
        go_ret
        exact ⟨ret_b (by unfold sameB; rw [Hg3.out]; simp) rfl, HW.out⟩
    · have g2 : (a.down == b.down) = false := by simpa using h2
      have Hg2 := Lib.hid g2
      have hx : sameB a b = false := by unfold sameB; rw [g2]; simp
      have Hx := Lib.hid hx
      clear h2 hx
      go_enter Try.func18, Try.ntmps18
      go_wp2
      go_ret
      exact ⟨ret_b Hx.out rfl, ((Below.refl _ _).alloc (Nat.le_refl _) _).alloc (by simp) _⟩
  · have g1 : (a.fuse == b.fuse) = false := by simpa using h1
    have hx : sameB a b = false := by unfold sameB; simp [h1]
    have Hx := Lib.hid hx
    clear h1 hx
    go_enter Try.func18, Try.ntmps18
    go_wp2
    go_ret
    exact ⟨ret_b Hx.out rfl, ((Below.refl _ _).alloc (Nat.le_refl _) _).alloc (by simp) _⟩
end Go.Proofs.Ytfejnfohbagnkaa
