/-
  Walks over package sector, second part: what Arm answers, of any disk and any number. Each leaves all older memory as it was.
-/
import Derived.Test.YtfejnfohbagnkaaSecWalksA
namespace Go.Proofs.Ytfejnfohbagnkaa
open Go.RowKit

set_option maxHeartbeats 1000000 in
/-- Arm: refused, or done -/
theorem arm_any (v : Value) (d : Dk) (f : Int) (w : World) (hd : DkAt w w.heap.size v d) :
    Calls Try.prog 26 #[v, .int .i64 f] w (DkRes w (armM d f)) := by
  have hdW := fun W => hd.later (W := W)
  obtain ⟨A, n, c, A', n', c', rfl, hnc, hnc', hc, hc', hS, hL⟩ := hd
  by_cases hr : rightB d = true
  · by_cases hf : fuseB f = true
    · have hM : armM d f = ({ d with fuse := f }, 0) := by unfold armM; simp [hr, hf]
      rw [hM]
      clear hM
      have HS := Lib.hid hS; have HL := Lib.hid hL; clear hS hL
      have Hd := Lib.hid hdW; clear hdW
      go_enter Try.func26, Try.ntmps26
      go_wp2_with fail
      refine (right_any _ d _ ?hd).mono ?_
      case hd => exact Hd.out _ (by repeat (first | with_reducible exact Below.refl _ _ | (refine Below.alloc ?_ (by simp <;> omega) _)))
      rintro e w1 ⟨rfl, hb1⟩
      obtain ⟨⟨p0, p1, p2, p3⟩, q0, q1, q2, q3⟩ := (Bk.below (b := w.heap.size) (t := 25) (cs := #[.slice A n c, .slice A' n' c', .int .i64 d.fuse, .bool d.down]) (by exact (Bk.new _ _ _).alloc _) hb1 (by simp only [World.size_alloc]; omega)).four
      obtain ⟨⟨r0, r1, r2, r3⟩, s0, s1, s2, s3⟩ := (Bk.below (b := w.heap.size + 1) (t := 25) (cs := #[.slice none 0 0, .slice none 0 0, .int .i64 0, .bool false]) (by exact Bk.new2 _ _ _ _) hb1 (by simp only [World.size_alloc]; omega)).four
      have hz : w.heap.size + 2 ≤ w1.heap.size := by have := hb1.size; simpa using this
      have hb : Below w.heap.size w w1 := (((Below.refl _ _).alloc (Nat.le_refl _) _).alloc (by simp) _).trans (hb1.mono (by simp; omega))
      go_wp2_with (go_at_call 31; refine (fuseMayBe_any _ _).mono ?_; rintro e w' ⟨rfl, rfl⟩)
      refine bodyPost_ret (v := .tuple #[.agg #[.slice A n c, .slice A' n' c', .int .i64 f, .bool d.down], .int .i64 0]) (by simp [results, Try.results26, go_sem, *]) rfl ?_
      refine DkRes.same rfl HS.out HL.out hnc hnc' hc hc' ?_
      repeat (first | with_reducible exact hb | (refine Below.setCell ?_ (by simp <;> omega) _))
    · have hf' : fuseB f = false := by simpa using hf
      clear hf
      have hM : armM d f = (d, 1) := by unfold armM; simp [hf']
      rw [hM]
      clear hM
      have HS := Lib.hid hS; have HL := Lib.hid hL; clear hS hL
      have Hd := Lib.hid hdW; clear hdW
      go_enter Try.func26, Try.ntmps26
      go_wp2_with fail
      refine (right_any _ d _ ?hd).mono ?_
      case hd => exact Hd.out _ (by repeat (first | with_reducible exact Below.refl _ _ | (refine Below.alloc ?_ (by simp <;> omega) _)))
      rintro e w1 ⟨rfl, hb1⟩
      obtain ⟨⟨p0, p1, p2, p3⟩, q0, q1, q2, q3⟩ := (Bk.below (b := w.heap.size) (t := 25) (cs := #[.slice A n c, .slice A' n' c', .int .i64 d.fuse, .bool d.down]) (by exact (Bk.new _ _ _).alloc _) hb1 (by simp only [World.size_alloc]; omega)).four
      obtain ⟨⟨r0, r1, r2, r3⟩, s0, s1, s2, s3⟩ := (Bk.below (b := w.heap.size + 1) (t := 25) (cs := #[.slice none 0 0, .slice none 0 0, .int .i64 0, .bool false]) (by exact Bk.new2 _ _ _ _) hb1 (by simp only [World.size_alloc]; omega)).four
      have hz : w.heap.size + 2 ≤ w1.heap.size := by have := hb1.size; simpa using this
      have hb : Below w.heap.size w w1 := (((Below.refl _ _).alloc (Nat.le_refl _) _).alloc (by simp) _).trans (hb1.mono (by simp; omega))
      go_wp2_with (go_at_call 31; refine (fuseMayBe_any _ _).mono ?_; rintro e w' ⟨rfl, rfl⟩)
      refine bodyPost_ret (v := .tuple #[.agg #[.slice A n c, .slice A' n' c', .int .i64 d.fuse, .bool d.down], .int .i64 1]) (by simp [results, Try.results26, go_sem, *]) rfl ?_
      refine DkRes.same rfl HS.out HL.out hnc hnc' hc hc' ?_
      repeat (first | with_reducible exact hb | (refine Below.setCell ?_ (by simp <;> omega) _))
  · have hr' : rightB d = false := by simpa using hr
    clear hr
    have hM : armM d f = (d, 1) := by unfold armM; simp [hr']
    rw [hM]
    clear hM
    have HS := Lib.hid hS; have HL := Lib.hid hL; clear hS hL
    have Hd := Lib.hid hdW; clear hdW
    go_enter Try.func26, Try.ntmps26
    go_wp2_with fail
    refine (right_any _ d _ ?hd).mono ?_
    case hd => exact Hd.out _ (by repeat (first | with_reducible exact Below.refl _ _ | (refine Below.alloc ?_ (by simp <;> omega) _)))
    rintro e w1 ⟨rfl, hb1⟩
    obtain ⟨⟨p0, p1, p2, p3⟩, q0, q1, q2, q3⟩ := (Bk.below (b := w.heap.size) (t := 25) (cs := #[.slice A n c, .slice A' n' c', .int .i64 d.fuse, .bool d.down]) (by exact (Bk.new _ _ _).alloc _) hb1 (by simp only [World.size_alloc]; omega)).four
    obtain ⟨⟨r0, r1, r2, r3⟩, s0, s1, s2, s3⟩ := (Bk.below (b := w.heap.size + 1) (t := 25) (cs := #[.slice none 0 0, .slice none 0 0, .int .i64 0, .bool false]) (by exact Bk.new2 _ _ _ _) hb1 (by simp only [World.size_alloc]; omega)).four
    have hz : w.heap.size + 2 ≤ w1.heap.size := by have := hb1.size; simpa using this
    have hb : Below w.heap.size w w1 := (((Below.refl _ _).alloc (Nat.le_refl _) _).alloc (by simp) _).trans (hb1.mono (by simp; omega))
    go_wp2
    refine bodyPost_ret (v := .tuple #[.agg #[.slice A n c, .slice A' n' c', .int .i64 d.fuse, .bool d.down], .int .i64 1]) (by simp [results, Try.results26, go_sem, *]) rfl ?_
    refine DkRes.same rfl HS.out HL.out hnc hnc' hc hc' ?_
    repeat (first | with_reducible exact hb | (refine Below.setCell ?_ (by simp <;> omega) _))
end Go.Proofs.Ytfejnfohbagnkaa
