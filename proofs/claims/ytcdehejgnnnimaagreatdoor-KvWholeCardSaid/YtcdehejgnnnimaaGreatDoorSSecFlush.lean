/-
 A part of the proof: see the last text.
-/
import Derived.Test.YtcdehejgnnnimaaGreatDoorSSecSettled
import Derived.Test.YtcdehejgnnnimaaGreatDoorSSecDone
namespace Go.Proofs.YtcdehejgnnnimaaGreatDoor
set_option linter.unusedVariables false
set_option linter.unusedSimpArgs false
open Go.RowKit
theorem calls_over {P : Program} {f : FuncId} {args : Array Value} {W : World} {R : Ending → World → Prop} (G : World → Prop) (hG : G W) (h : ∀ W', G W' → Calls P f args W' R) : Calls P f args W R := h W hG
set_option maxRecDepth 20000 in
set_option maxHeartbeats 1000000 in
theorem flush_no (v : Value) (d : Dk) (w : World) (hd : DkAt w w.heap.size v d) (hr : rightB d = false) :
 Calls Tryz.prog 70 #[v] w (DkRes w (d, 1)) := by
 have hdW := fun W => hd.later (W := W)
 have hd0 := hd
 obtain ⟨A, n, c, A', n', c', rfl, hnc, hnc', hc, hc', hS, hL⟩ := hd
 have HS := Lib.hid hS; have HL := Lib.hid hL; clear hS hL
 have Hd := Lib.hid hdW; clear hdW
 go_enter Tryz.func70, Tryz.ntmps70
 go_wp2_with fail
 refine (right_any _ d _ ?hd).mono ?_
 case hd => exact Hd.out _ (by repeat (first | with_reducible exact Below.refl _ _ | (refine Below.alloc ?_ (by first | omega | (simp; done) | (simp; omega)) _)))
 rintro e w1 ⟨rfl, hb1⟩
 have B0 : Bk w1 w.heap.size 27 #[.slice A n c, .slice A' n' c', .int .i64 d.fuse, .bool d.down] := Bk.below (by exact (Bk.new _ _ _).alloc _) hb1 (by simp only [World.size_alloc]; omega)
 have B2 : Bk w1 (w.heap.size + 1) 27 #[.slice none 0 0, .slice none 0 0, .int .i64 0, .bool false] := Bk.below (by exact Bk.new2 _ _ _ _) hb1 (by simp only [World.size_alloc]; omega)
 have hb : Below w.heap.size w w1 := (((Below.refl _ _).alloc (Nat.le_refl _) _).alloc (by simp) _).trans (hb1.mono (by simp only [World.size_alloc]; omega))
 clear hb1
 obtain ⟨⟨p0, p1, p2, p3⟩, q0, q1, q2, q3⟩ := B0.four
 obtain ⟨⟨r0, r1, r2, r3⟩, s0, s1, s2, s3⟩ := B2.four
 have hz : w.heap.size + 1 < w1.heap.size := B2.lt
 have HB0 := Lib.hid B0; have HB2 := Lib.hid B2; clear B0 B2
 go_wp2
 refine bodyPost_ret (v := .tuple #[.agg #[.slice A n c, .slice A' n' c', .int .i64 d.fuse, .bool d.down], .int .i64 1]) (by simp [results, Tryz.results70, go_sem, *]) rfl ?_
 refine DkRes.same rfl HS.out HL.out hnc hnc' hc hc' ?_
 repeat (first | with_reducible exact hb | (refine Below.setCell ?_ (by first | omega | (simp; done) | (simp; omega)) _))
set_option maxRecDepth 20000 in
set_option maxHeartbeats 1000000 in
theorem flush_fall (v : Value) (d : Dk) (w : World) (hd : DkAt w w.heap.size v d) (hr : rightB d = true) (hde : deedD d.fuse d.down = true) :
 Calls Tryz.prog 70 #[v] w (DkRes w ({ d with fuse := deedF d.fuse d.down, down := true }, 9)) := by
 have hdW := fun W => hd.later (W := W)
 have hd0 := hd
 obtain ⟨A, n, c, A', n', c', rfl, hnc, hnc', hc, hc', hS, hL⟩ := hd
 have HS := Lib.hid hS; have HL := Lib.hid hL; clear hS hL
 have Hd := Lib.hid hdW; clear hdW
 go_enter Tryz.func70, Tryz.ntmps70
 go_wp2_with fail
 refine (right_any _ d _ ?hd).mono ?_
 case hd => exact Hd.out _ (by repeat (first | with_reducible exact Below.refl _ _ | (refine Below.alloc ?_ (by first | omega | (simp; done) | (simp; omega)) _)))
 rintro e w1 ⟨rfl, hb1⟩
 have B0 : Bk w1 w.heap.size 27 #[.slice A n c, .slice A' n' c', .int .i64 d.fuse, .bool d.down] := Bk.below (by exact (Bk.new _ _ _).alloc _) hb1 (by simp only [World.size_alloc]; omega)
 have B2 : Bk w1 (w.heap.size + 1) 27 #[.slice none 0 0, .slice none 0 0, .int .i64 0, .bool false] := Bk.below (by exact Bk.new2 _ _ _ _) hb1 (by simp only [World.size_alloc]; omega)
 have hb : Below w.heap.size w w1 := (((Below.refl _ _).alloc (Nat.le_refl _) _).alloc (by simp) _).trans (hb1.mono (by simp only [World.size_alloc]; omega))
 clear hb1
 obtain ⟨⟨p0, p1, p2, p3⟩, q0, q1, q2, q3⟩ := B0.four
 obtain ⟨⟨r0, r1, r2, r3⟩, s0, s1, s2, s3⟩ := B2.four
 have hz : w.heap.size + 1 < w1.heap.size := B2.lt
 have HB0 := Lib.hid B0; have HB2 := Lib.hid B2; clear B0 B2
 go_wp2_with fail
 refine (deed_no _ _ _ _ _ _ _ _ hde _).mono ?_
 rintro e w3 ⟨rfl, hb3⟩
 clear p0 p1 p2 p3 q0 q1 q2 q3 r0 r1 r2 r3 s0 s1 s2 s3
 have B0 := HB0.out.below hb3 HB0.out.lt
 have B2 := HB2.out.below hb3 HB2.out.lt
 replace hb := hb.trans (hb3.mono (by omega))
 clear hb3 HB0 HB2
 obtain ⟨⟨p0, p1, p2, p3⟩, q0, q1, q2, q3⟩ := B0.four
 obtain ⟨⟨r0, r1, r2, r3⟩, s0, s1, s2, s3⟩ := B2.four
 have hz3 : w.heap.size + 1 < w3.heap.size := B2.lt
 have HB0 := Lib.hid B0; have HB2 := Lib.hid B2; clear B0 B2
 go_wp2
 refine bodyPost_ret (v := .tuple #[.agg #[.slice A n c, .slice A' n' c', .int .i64 (deedF d.fuse d.down), .bool true], .int .i64 9]) (by simp [results, Tryz.results70, go_sem, *]) rfl ?_
 refine DkRes.same rfl HS.out HL.out hnc hnc' hc hc' ?_
 repeat (first | with_reducible exact hb | (refine Below.setCell ?_ (by first | omega | (simp; done) | (simp; omega)) _))
set_option maxRecDepth 20000 in
set_option maxHeartbeats 1000000 in
theorem flush_ok (v : Value) (d : Dk) (w : World) (hd : DkAt w w.heap.size v d) (hr : rightB d = true) (hde : deedD d.fuse d.down = false) :
 Calls Tryz.prog 70 #[v] w (DkRes w (⟨viewM d, [], deedF d.fuse d.down, d.down⟩, 0)) := by
 have hdW := fun W => hd.later (W := W)
 have hd0 := hd
 obtain ⟨A, n, c, A', n', c', rfl, hnc, hnc', hc, hc', hS, hL⟩ := hd
 have HS := Lib.hid hS; have HL := Lib.hid hL; clear hS hL
 have Hd := Lib.hid hdW; clear hdW
 go_enter Tryz.func70, Tryz.ntmps70
 go_wp2_with fail
 refine (right_any _ d _ ?hd).mono ?_
 case hd => exact Hd.out _ (by repeat (first | with_reducible exact Below.refl _ _ | (refine Below.alloc ?_ (by first | omega | (simp; done) | (simp; omega)) _)))
 rintro e w1 ⟨rfl, hb1⟩
 have B0 : Bk w1 w.heap.size 27 #[.slice A n c, .slice A' n' c', .int .i64 d.fuse, .bool d.down] := Bk.below (by exact (Bk.new _ _ _).alloc _) hb1 (by simp only [World.size_alloc]; omega)
 have B2 : Bk w1 (w.heap.size + 1) 27 #[.slice none 0 0, .slice none 0 0, .int .i64 0, .bool false] := Bk.below (by exact Bk.new2 _ _ _ _) hb1 (by simp only [World.size_alloc]; omega)
 have hb : Below w.heap.size w w1 := (((Below.refl _ _).alloc (Nat.le_refl _) _).alloc (by simp) _).trans (hb1.mono (by simp only [World.size_alloc]; omega))
 clear hb1
 obtain ⟨⟨p0, p1, p2, p3⟩, q0, q1, q2, q3⟩ := B0.four
 obtain ⟨⟨r0, r1, r2, r3⟩, s0, s1, s2, s3⟩ := B2.four
 have hz : w.heap.size + 1 < w1.heap.size := B2.lt
 have HB0 := Lib.hid B0; have HB2 := Lib.hid B2; clear B0 B2
 go_wp2_with fail
 refine (deed_ok _ _ _ _ _ _ _ _ hde (by have := hr; simp [rightB, fuseB] at this; omega) _).mono ?_
 rintro e w3 ⟨rfl, hb3⟩
 clear p0 p1 p2 p3 q0 q1 q2 q3 r0 r1 r2 r3 s0 s1 s2 s3
 have B0 := HB0.out.below hb3 HB0.out.lt
 have B2 := HB2.out.below hb3 HB2.out.lt
 replace hb := hb.trans (hb3.mono (by omega))
 clear hb3 HB0 HB2
 obtain ⟨⟨p0, p1, p2, p3⟩, q0, q1, q2, q3⟩ := B0.four
 obtain ⟨⟨r0, r1, r2, r3⟩, s0, s1, s2, s3⟩ := B2.four
 have hz3 : w.heap.size + 1 < w3.heap.size := B2.lt
 have HB0 := Lib.hid B0; have HB2 := Lib.hid B2; clear B0 B2
 have hdn : d.down = false := by have := hde; simp [deedD] at this; exact this.1
 have hrr : rightB ⟨d.secs, d.loose, deedF d.fuse false, false⟩ = true := by
  have hf := deedF_right d hr
  rw [hdn] at hf
  unfold rightB at hr ⊢
  simp only [Bool.and_eq_true] at hr ⊢
  exact ⟨⟨hr.1.1, hf⟩, hr.2⟩
 have Hrr := Lib.hid hrr
 have Hde := Lib.hid hde
 clear hrr hde hr
 go_wp2_with fail
 refine calls_over (fun W => Bk W w.heap.size 27 #[.slice A n c, .slice A' n' c', .int .i64 (deedF d.fuse false), .bool false] ∧ Bk W (w.heap.size + 1) 27 #[.slice none 0 0, .slice none 0 0, .int .i64 0, .bool false] ∧ Below w.heap.size w W) ⟨?_, ?_, ?_⟩ ?_
 ·have := ((((HB0.out.put 0 (.slice A n c)).put 1 (.slice A' n' c')).put 2 (.int .i64 (deedF d.fuse false))).put 3 (.bool false))
  simpa using this
 ·exact ((((HB2.out.far (by simp) _).far (by simp) _).far (by simp) _).far (by simp) _)
 ·repeat (first | with_reducible exact hb | (refine Below.setCell ?_ (by first | omega | (simp; done) | (simp; omega)) _))
 rintro W ⟨B0, B2, hb'⟩
 clear p0 p1 p2 p3 q0 q1 q2 q3 r0 r1 r2 r3 s0 s1 s2 s3 HB0 HB2 hb
 refine (settled_any _ ⟨d.secs, d.loose, deedF d.fuse false, false⟩ 86 #[] (fun _ => true) _ ⟨A, n, c, A', n', c', rfl, hnc, hnc', hc, hc', (HS.out.below hb' (Nat.le_refl _)).more hb'.size, (HL.out.below hb' (Nat.le_refl _)).more hb'.size⟩ Hrr.out (fun S m W _ _ => every_stays m S W)).mono ?_
 rintro e w4 ⟨v4, rfl, hR4, hb4⟩
 rw [doneM_come _ _ _ (looseB_right Hrr.out)] at hR4
 obtain ⟨A4, c4, hv4, hnc4, hc4, -⟩ := hR4.arr
 rw [hv4] at hR4 ⊢
 clear hv4
 have hWs : w.heap.size + 1 < W.heap.size := B2.lt
 have C0 := B0.below hb4 B0.lt
 have C2 := B2.below hb4 B2.lt
 have hb5 := hb'.trans (hb4.mono hb'.size)
 clear B0 B2 hb' hb4
 obtain ⟨⟨p0, p1, p2, p3⟩, q0, q1, q2, q3⟩ := C0.four
 obtain ⟨⟨r0, r1, r2, r3⟩, s0, s1, s2, s3⟩ := C2.four
 have HR4 := Lib.hid hR4
 clear hR4 C0 C2
 go_wp2
 refine bodyPost_ret (v := .tuple #[.agg #[.slice A4 d.secs.length c4, .slice none 0 0, .int .i64 (deedF d.fuse false), .bool false], .int .i64 0]) (by simp [results, Tryz.results70, go_sem, *]) rfl ?_
 obtain ⟨A5, c5, e5, h51, h52, h53⟩ := ((((((HR4.out.box (p := ⟨w.heap.size, 0, none⟩) (by show w.heap.size < _; omega) (.slice A4 d.secs.length c4)).box (p := ⟨w.heap.size, 1, none⟩) (by show w.heap.size < _; omega) (.slice none 0 0)).box (p := ⟨w.heap.size + 1, 0, none⟩) hWs (.slice A4 d.secs.length c4)).box (p := ⟨w.heap.size + 1, 1, none⟩) hWs (.slice none 0 0)).box (p := ⟨w.heap.size + 1, 2, none⟩) hWs (.int .i64 (deedF d.fuse false))).box (p := ⟨w.heap.size + 1, 3, none⟩) hWs (.bool false)).arr
 injection e5 with e51 _ e53
 subst e51 e53
 refine ⟨_, rfl, ⟨A4, _, c4, none, 0, 0, by rw [hdn], h51, Nat.le_refl _, h52, by simp, h53, Arr.nil⟩, ?_⟩
 repeat (first | with_reducible exact hb5 | (refine Below.setCell ?_ (by first | omega | (simp; done) | (simp; omega)) _))
end Go.Proofs.YtcdehejgnnnimaaGreatDoor
