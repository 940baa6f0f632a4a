/-
 A part of the proof: see the last text.
-/
import Derived.Test.YtcdehejgnnnimaaGreatDoorSSecWalksA
import Derived.Test.YtcdehejgnnnimaaGreatDoorSSecWords
namespace Go.Proofs.YtcdehejgnnnimaaGreatDoor
set_option linter.unusedVariables false
set_option linter.unusedSimpArgs false
open Go.RowKit
theorem info_wr : (Tryz.prog.info? 90).map (fun i => (i.zero, i.size, i.bytes)) = some (some (.agg (wrv (0, zsec)).toArray), 65, 72) := by kernel_rfl
theorem size_sec : (Tryz.prog.info? 84).map (·.size) = some 64 := by kernel_rfl
theorem size_wr : (Tryz.prog.info? 90).map (·.size) = some 65 := by kernel_rfl
theorem built_write (a : Int) (s : List Int) (hs : s.length = 64) : Tryz.prog.built 90 [(0, .int .i64 a), (1, .agg (secv s).toArray)] = some (wrv (a, s)).toArray := by
 have h : ∀ parts, Tryz.prog.built 90 parts = Instr.fill (#[(0, 1), (1, 64)][·]?) (wrv (0, zsec)).toArray parts := fun _ => by kernel_rfl
 rw [h]
 have hl : (secv s).toArray.size = 64 := by simp [secv_length, hs]
 have hz : (wrv (0, zsec)).toArray.size = 65 := by simp [wrv_length, zsec]
 have h1 := fold_set 0 [Value.int .i64 a] 0 (wrv (0, zsec)).toArray (by rw [hz]; simp)
 have h2 := fold_set 1 (secv s) 0 (((wrv (0, zsec)).toArray).setIfInBounds 0 (.int .i64 a)) (by rw [Array.size_setIfInBounds, hz]; simp [secv_length, hs])
 have e2 : ((secv s).toArray.zipIdx.foldl (fun (cs : Array Value) (x : Value × Nat) => cs.setIfInBounds (1 + x.2) x.1) (((wrv (0, zsec)).toArray).setIfInBounds 0 (.int .i64 a))) = (wrv (a, s)).toArray := by
  apply Array.ext'
  rw [← Array.foldl_toList, Array.toList_zipIdx]
  rw [h2]
  simp [splice, wrv, secv, zsec, hs]
 have hf0 : Instr.fill (#[((0 : Nat), (1 : Nat)), (1, 64)][·]?) (wrv (0, zsec)).toArray [(0, .int .i64 a), (1, .agg (secv s).toArray)] = Instr.fill (#[((0 : Nat), (1 : Nat)), (1, 64)][·]?) (((wrv (0, zsec)).toArray).setIfInBounds 0 (.int .i64 a)) [(1, .agg (secv s).toArray)] := by
  simp [Instr.fill, Value.cells, wrv_length, zsec]
 rw [hf0]
 unfold Instr.fill
 have hc : (Value.agg (secv s).toArray).cells = (secv s).toArray := rfl
 have hsz : (((wrv (0, zsec)).toArray).setIfInBounds 0 (Value.int .i64 a)).size = 65 := by rw [Array.size_setIfInBounds, hz]
 simp only [hc, hl, hsz]
 show (if (64 ≠ 64 || 1 + 64 > 65) = true then none else Instr.fill _ _ []) = _
 simp only [Instr.fill]
 exact congrArg some e2
set_option maxRecDepth 20000 in
set_option maxHeartbeats 1000000 in
theorem put_no (v : Value) (d : Dk) (a : Int) (s : List Int) (w : World) (hd : DkAt w w.heap.size v d) (h : (rightB d && thereB d.secs.length a) = false) :
 Calls Tryz.prog 64 #[v, .int .i64 a, .agg (secv s).toArray] w (DkRes w (d, 1)) := by
 have hdW := fun W => hd.later (W := W)
 obtain ⟨A, n, c, A', n', c', rfl, hnc, hnc', hc, hc', hS, hL⟩ := hd
 have hn : n = d.secs.length := by have := hS.1; simpa using this.symm
 have hcc : n ≤ maxLen := by omega
 rw [← hn] at h
 have HS := Lib.hid hS; have HL := Lib.hid hL; clear hS hL
 have Hd := Lib.hid hdW; clear hdW hn
 by_cases hr : rightB d = true
 ·have ht : thereB n a = false := by simpa [hr] using h
  clear h
  go_enter Tryz.func64, Tryz.ntmps64
  go_wp2_with fail
  refine (right_any _ d _ ?hd).mono ?_
  case hd => exact Hd.out _ (by repeat (first | with_reducible exact Below.refl _ _ | (refine Below.alloc ?_ (by simp <;> omega) _)))
  rintro e w1 ⟨rfl, hb1⟩
  have B0 : Bk w1 w.heap.size 27 #[.slice A n c, .slice A' n' c', .int .i64 d.fuse, .bool d.down] := Bk.below (by exact ((Bk.new _ _ _).alloc _).alloc _) hb1 (by simp only [World.size_alloc]; omega)
  have B1 : Bk w1 (w.heap.size + 1) 84 (secv s).toArray := Bk.below (by exact (Bk.new2 _ _ _ _).alloc _) hb1 (by simp only [World.size_alloc]; omega)
  have B2 : Bk w1 (w.heap.size + 1 + 1) 27 #[.slice none 0 0, .slice none 0 0, .int .i64 0, .bool false] := Bk.below (by exact Bk.new3 _ _ _ _ _) hb1 (by simp only [World.size_alloc]; omega)
  have hb : Below w.heap.size w w1 := ((((Below.refl _ _).alloc (Nat.le_refl _) _).alloc (by simp) _).alloc (by simp only [World.size_alloc]; omega) _).trans (hb1.mono (by simp only [World.size_alloc]; omega))
  clear hb1
  obtain ⟨⟨p0, p1, p2, p3⟩, q0, q1, q2, q3⟩ := B0.four
  obtain ⟨⟨r0, r1, r2, r3⟩, s0, s1, s2, s3⟩ := B2.four
  have hz : w.heap.size + 2 < w1.heap.size := B2.lt
  have HB0 := Lib.hid B0; have HB1 := Lib.hid B1; have HB2 := Lib.hid B2; clear B0 B1 B2
  go_wp2_with fail
  refine (isThere_any _ _ _ _ _ _ _ _ _ _ (by omega)).mono ?_
  rintro e w2 ⟨rfl, hb2⟩
  clear p0 p1 p2 p3 q0 q1 q2 q3 r0 r1 r2 r3 s0 s1 s2 s3
  have B0 := HB0.out.below hb2 HB0.out.lt
  have B1 := HB1.out.below hb2 HB1.out.lt
  have B2 := HB2.out.below hb2 HB2.out.lt
  replace hb := hb.trans (hb2.mono (by omega))
  clear hb2 HB0 HB1 HB2
  obtain ⟨⟨p0, p1, p2, p3⟩, q0, q1, q2, q3⟩ := B0.four
  obtain ⟨⟨r0, r1, r2, r3⟩, s0, s1, s2, s3⟩ := B2.four
  have hz2 : w.heap.size + 2 < w2.heap.size := B2.lt
  have HB0 := Lib.hid B0; have HB1 := Lib.hid B1; have HB2 := Lib.hid B2; clear B0 B1 B2
  go_wp2
  refine bodyPost_ret (v := .tuple #[.agg #[.slice A n c, .slice A' n' c', .int .i64 d.fuse, .bool d.down], .int .i64 1]) (by simp [results, Tryz.results64, go_sem, *]) rfl ?_
  refine DkRes.same rfl HS.out HL.out hnc hnc' hc hc' ?_
  repeat (first | with_reducible exact hb | (refine Below.setCell ?_ (by simp <;> omega) _))
 ·have hr' : rightB d = false := by simpa using hr
  clear h hr
  go_enter Tryz.func64, Tryz.ntmps64
  go_wp2_with fail
  refine (right_any _ d _ ?hd).mono ?_
  case hd => exact Hd.out _ (by repeat (first | with_reducible exact Below.refl _ _ | (refine Below.alloc ?_ (by simp <;> omega) _)))
  rintro e w1 ⟨rfl, hb1⟩
  have B0 : Bk w1 w.heap.size 27 #[.slice A n c, .slice A' n' c', .int .i64 d.fuse, .bool d.down] := Bk.below (by exact ((Bk.new _ _ _).alloc _).alloc _) hb1 (by simp only [World.size_alloc]; omega)
  have B1 : Bk w1 (w.heap.size + 1) 84 (secv s).toArray := Bk.below (by exact (Bk.new2 _ _ _ _).alloc _) hb1 (by simp only [World.size_alloc]; omega)
  have B2 : Bk w1 (w.heap.size + 1 + 1) 27 #[.slice none 0 0, .slice none 0 0, .int .i64 0, .bool false] := Bk.below (by exact Bk.new3 _ _ _ _ _) hb1 (by simp only [World.size_alloc]; omega)
  have hb : Below w.heap.size w w1 := ((((Below.refl _ _).alloc (Nat.le_refl _) _).alloc (by simp) _).alloc (by simp only [World.size_alloc]; omega) _).trans (hb1.mono (by simp only [World.size_alloc]; omega))
  clear hb1
  obtain ⟨⟨p0, p1, p2, p3⟩, q0, q1, q2, q3⟩ := B0.four
  obtain ⟨⟨r0, r1, r2, r3⟩, s0, s1, s2, s3⟩ := B2.four
  have hz : w.heap.size + 2 < w1.heap.size := B2.lt
  have HB0 := Lib.hid B0; have HB1 := Lib.hid B1; have HB2 := Lib.hid B2; clear B0 B1 B2
  go_wp2
  refine bodyPost_ret (v := .tuple #[.agg #[.slice A n c, .slice A' n' c', .int .i64 d.fuse, .bool d.down], .int .i64 1]) (by simp [results, Tryz.results64, go_sem, *]) rfl ?_
  refine DkRes.same rfl HS.out HL.out hnc hnc' hc hc' ?_
  repeat (first | with_reducible exact hb | (refine Below.setCell ?_ (by simp <;> omega) _))
set_option maxRecDepth 20000 in
set_option maxHeartbeats 1000000 in
theorem put_fall (v : Value) (d : Dk) (a : Int) (s : List Int) (w : World) (hd : DkAt w w.heap.size v d) (h : (rightB d && thereB d.secs.length a) = true) (hde : deedD d.fuse d.down = true) :
 Calls Tryz.prog 64 #[v, .int .i64 a, .agg (secv s).toArray] w (DkRes w ({ d with fuse := deedF d.fuse d.down, down := true }, 9)) := by
 have hdW := fun W => hd.later (W := W)
 obtain ⟨A, n, c, A', n', c', rfl, hnc, hnc', hc, hc', hS, hL⟩ := hd
 have hn : n = d.secs.length := by have := hS.1; simpa using this.symm
 have hcc : n ≤ maxLen := by omega
 rw [← hn] at h
 have HS := Lib.hid hS; have HL := Lib.hid hL; clear hS hL
 have Hd := Lib.hid hdW; clear hdW hn
 obtain ⟨hr, ht⟩ : rightB d = true ∧ thereB n a = true := by simpa using h
 clear h
 go_enter Tryz.func64, Tryz.ntmps64
 go_wp2_with fail
 refine (right_any _ d _ ?hd).mono ?_
 case hd => exact Hd.out _ (by repeat (first | with_reducible exact Below.refl _ _ | (refine Below.alloc ?_ (by simp <;> omega) _)))
 rintro e w1 ⟨rfl, hb1⟩
 have B0 : Bk w1 w.heap.size 27 #[.slice A n c, .slice A' n' c', .int .i64 d.fuse, .bool d.down] := Bk.below (by exact ((Bk.new _ _ _).alloc _).alloc _) hb1 (by simp only [World.size_alloc]; omega)
 have B1 : Bk w1 (w.heap.size + 1) 84 (secv s).toArray := Bk.below (by exact (Bk.new2 _ _ _ _).alloc _) hb1 (by simp only [World.size_alloc]; omega)
 have B2 : Bk w1 (w.heap.size + 1 + 1) 27 #[.slice none 0 0, .slice none 0 0, .int .i64 0, .bool false] := Bk.below (by exact Bk.new3 _ _ _ _ _) hb1 (by simp only [World.size_alloc]; omega)
 have hb : Below w.heap.size w w1 := ((((Below.refl _ _).alloc (Nat.le_refl _) _).alloc (by simp) _).alloc (by simp only [World.size_alloc]; omega) _).trans (hb1.mono (by simp only [World.size_alloc]; omega))
 clear hb1
 obtain ⟨⟨p0, p1, p2, p3⟩, q0, q1, q2, q3⟩ := B0.four
 obtain ⟨⟨r0, r1, r2, r3⟩, s0, s1, s2, s3⟩ := B2.four
 have hz : w.heap.size + 2 < w1.heap.size := B2.lt
 have HB0 := Lib.hid B0; have HB1 := Lib.hid B1; have HB2 := Lib.hid B2; clear B0 B1 B2
 go_wp2_with fail
 refine (isThere_any _ _ _ _ _ _ _ _ _ _ (by omega)).mono ?_
 rintro e w2 ⟨rfl, hb2⟩
 clear p0 p1 p2 p3 q0 q1 q2 q3 r0 r1 r2 r3 s0 s1 s2 s3
 have B0 := HB0.out.below hb2 HB0.out.lt
 have B1 := HB1.out.below hb2 HB1.out.lt
 have B2 := HB2.out.below hb2 HB2.out.lt
 replace hb := hb.trans (hb2.mono (by omega))
 clear hb2 HB0 HB1 HB2
 obtain ⟨⟨p0, p1, p2, p3⟩, q0, q1, q2, q3⟩ := B0.four
 obtain ⟨⟨r0, r1, r2, r3⟩, s0, s1, s2, s3⟩ := B2.four
 have hz2 : w.heap.size + 2 < w2.heap.size := B2.lt
 have HB0 := Lib.hid B0; have HB1 := Lib.hid B1; have HB2 := Lib.hid B2; clear B0 B1 B2
 go_wp2_with fail
 refine (deed_no _ _ _ _ _ _ _ _ hde _).mono ?_
 rintro e w3 ⟨rfl, hb3⟩
 clear p0 p1 p2 p3 q0 q1 q2 q3 r0 r1 r2 r3 s0 s1 s2 s3
 have B0 := HB0.out.below hb3 HB0.out.lt
 have B1 := HB1.out.below hb3 HB1.out.lt
 have B2 := HB2.out.below hb3 HB2.out.lt
 replace hb := hb.trans (hb3.mono (by omega))
 clear hb3 HB0 HB1 HB2
 obtain ⟨⟨p0, p1, p2, p3⟩, q0, q1, q2, q3⟩ := B0.four
 obtain ⟨⟨r0, r1, r2, r3⟩, s0, s1, s2, s3⟩ := B2.four
 have hz3 : w.heap.size + 2 < w3.heap.size := B2.lt
 have HB0 := Lib.hid B0; have HB1 := Lib.hid B1; have HB2 := Lib.hid B2; clear B0 B1 B2
 go_wp2
 refine bodyPost_ret (v := .tuple #[.agg #[.slice A n c, .slice A' n' c', .int .i64 (deedF d.fuse d.down), .bool true], .int .i64 9]) (by simp [results, Tryz.results64, go_sem, *]) rfl ?_
 refine DkRes.same rfl HS.out HL.out hnc hnc' hc hc' ?_
 repeat (first | with_reducible exact hb | (refine Below.setCell ?_ (by simp <;> omega) _))
set_option maxRecDepth 100000 in
set_option maxHeartbeats 1000000 in
theorem put_ok (v : Value) (d : Dk) (a : Int) (s : List Int) (w : World) (hd : DkAt w w.heap.size v d) (h : (rightB d && thereB d.secs.length a) = true) (hde : deedD d.fuse d.down = false) (hs : s.length = 64) :
 Calls Tryz.prog 64 #[v, .int .i64 a, .agg (secv s).toArray] w (DkRes w ({ d with loose := d.loose ++ [(a, s)], fuse := deedF d.fuse d.down }, 0)) := by
 have hdW := fun W => hd.later (W := W)
 obtain ⟨A, n, c, A', n', c', rfl, hnc, hnc', hc, hc', hS, hL⟩ := hd
 have hn : n = d.secs.length := by have := hS.1; simpa using this.symm
 have hcc : n ≤ maxLen := by omega
 rw [← hn] at h
 have HS := Lib.hid hS; have HL := Lib.hid hL; clear hS hL
 have Hd := Lib.hid hdW; clear hdW hn
 obtain ⟨hr, ht⟩ : rightB d = true ∧ thereB n a = true := by simpa using h
 clear h
 go_enter Tryz.func64, Tryz.ntmps64
 go_wp2_with fail
 refine (right_any _ d _ ?hd).mono ?_
 case hd => exact Hd.out _ (by repeat (first | with_reducible exact Below.refl _ _ | (refine Below.alloc ?_ (by simp <;> omega) _)))
 rintro e w1 ⟨rfl, hb1⟩
 have B0 : Bk w1 w.heap.size 27 #[.slice A n c, .slice A' n' c', .int .i64 d.fuse, .bool d.down] := Bk.below (by exact ((Bk.new _ _ _).alloc _).alloc _) hb1 (by simp only [World.size_alloc]; omega)
 have B1 : Bk w1 (w.heap.size + 1) 84 (secv s).toArray := Bk.below (by exact (Bk.new2 _ _ _ _).alloc _) hb1 (by simp only [World.size_alloc]; omega)
 have B2 : Bk w1 (w.heap.size + 1 + 1) 27 #[.slice none 0 0, .slice none 0 0, .int .i64 0, .bool false] := Bk.below (by exact Bk.new3 _ _ _ _ _) hb1 (by simp only [World.size_alloc]; omega)
 have hb : Below w.heap.size w w1 := ((((Below.refl _ _).alloc (Nat.le_refl _) _).alloc (by simp) _).alloc (by simp only [World.size_alloc]; omega) _).trans (hb1.mono (by simp only [World.size_alloc]; omega))
 clear hb1
 obtain ⟨⟨p0, p1, p2, p3⟩, q0, q1, q2, q3⟩ := B0.four
 obtain ⟨⟨r0, r1, r2, r3⟩, s0, s1, s2, s3⟩ := B2.four
 have hz : w.heap.size + 2 < w1.heap.size := B2.lt
 have HB0 := Lib.hid B0; have HB1 := Lib.hid B1; have HB2 := Lib.hid B2; clear B0 B1 B2
 go_wp2_with fail
 refine (isThere_any _ _ _ _ _ _ _ _ _ _ (by omega)).mono ?_
 rintro e w2 ⟨rfl, hb2⟩
 clear p0 p1 p2 p3 q0 q1 q2 q3 r0 r1 r2 r3 s0 s1 s2 s3
 have B0 := HB0.out.below hb2 HB0.out.lt
 have B1 := HB1.out.below hb2 HB1.out.lt
 have B2 := HB2.out.below hb2 HB2.out.lt
 replace hb := hb.trans (hb2.mono (by omega))
 clear hb2 HB0 HB1 HB2
 obtain ⟨⟨p0, p1, p2, p3⟩, q0, q1, q2, q3⟩ := B0.four
 obtain ⟨⟨r0, r1, r2, r3⟩, s0, s1, s2, s3⟩ := B2.four
 have hz2 : w.heap.size + 2 < w2.heap.size := B2.lt
 have HB0 := Lib.hid B0; have HB1 := Lib.hid B1; have HB2 := Lib.hid B2; clear B0 B1 B2
 go_wp2_with fail
 refine (deed_ok _ _ _ _ _ _ _ _ hde (by have := hr; simp [rightB, fuseB] at this; omega) _).mono ?_
 rintro e w3 ⟨rfl, hb3⟩
 clear p0 p1 p2 p3 q0 q1 q2 q3 r0 r1 r2 r3 s0 s1 s2 s3
 have B0 := HB0.out.below hb3 HB0.out.lt
 have B1 := HB1.out.below hb3 HB1.out.lt
 have B2 := HB2.out.below hb3 HB2.out.lt
 replace hb := hb.trans (hb3.mono (by omega))
 clear hb3 HB0 HB1 HB2
 obtain ⟨⟨p0, p1, p2, p3⟩, q0, q1, q2, q3⟩ := B0.four
 obtain ⟨⟨r0, r1, r2, r3⟩, s0, s1, s2, s3⟩ := B2.four
 have hz3 : w.heap.size + 2 < w3.heap.size := B2.lt
 have HB0 := Lib.hid B0; have HB1 := Lib.hid B1; have HB2 := Lib.hid B2; clear B0 B1 B2
 have hdn : d.down = false := by have := hde; simp [deedD] at this; exact this.1
 have hmax : n' ≤ 100000 := by
  have hlen : d.loose.length = n' := by simpa using HL.out.1
  have := hr; simp [rightB] at this; omega
 have hmk := fun W => run_make_writes (P := Tryz.prog) (t := 25) (e := 90) Tryz.underlying25 info_wr n' (by omega) W
 clear hde hr
 have hn1 : (n' : Int) ≤ 100000 := by omega
 clear hmax
 have hl0 : w.heap.size < w3.heap.size := by omega
 have hl1 : w.heap.size + 1 < w3.heap.size := by omega
 have hl2 : w.heap.size + 1 + 1 < w3.heap.size := by omega
 go_wp2_with ((with_reducible show wpList _ _ _ (⟨some 37, _, _, _, _, _⟩ :: _) _ _); refine hold ?_)
 refine wpList_over (fun W => Bk W w.heap.size 27 #[.slice A n c, .slice A' n' c', .int .i64 (deedF d.fuse d.down), .bool d.down] ∧ Bk W (w.heap.size + 1) 84 (secv s).toArray ∧
  Bk W (w.heap.size + 1 + 1) 27 #[.slice none 0 0, .slice none 0 0, .int .i64 0, .bool false] ∧ Bk W w3.heap.size 90 (zwrs (n' + 1)) ∧ Below w.heap.size w W) ?hF ?hw
 case hF =>
  refine ⟨?_, ?_, ?_, ?_, ?_⟩
  ·have := ((((HB0.out.put 0 (.slice A n c)).put 1 (.slice A' n' c')).put 2 (.int .i64 (deedF d.fuse d.down))).put 3 (.bool d.down)).alloc (Obj.cells (zwrs (n' + 1)) 90)
   simpa [hdn] using this
  ·exact ((((HB1.out.far (by simp) _).far (by simp) _).far (by simp) _).far (by simp) _).alloc _
  ·exact ((((HB2.out.far (by simp <;> omega) _).far (by simp <;> omega) _).far (by simp <;> omega) _).far (by simp <;> omega) _).alloc _
  ·exact Bk.new' _ _ _ _ (by simp)
  ·have hle := hb.size
   repeat (first | with_reducible exact hb | (refine Below.setCell ?_ (by simp <;> omega) _) | (refine Below.alloc ?_ (by simp <;> omega) _))
 case hw =>
 clear HB0 HB1 HB2 hb p0 p1 p2 p3 q0 q1 q2 q3 r0 r1 r2 r3 s0 s1 s2 s3
 rintro W ⟨B0, B1, B2, B3, hb⟩
 refine wpList_copy_wide rfl (.tmp 34) (.tmp 36) 25 25 rfl 90 65 Tryz.underlying25 size_wr w3.heap.size (n' + 1) (n' + 1) n' c' A' rfl rfl (Nat.le_succ _) 90 (zwrs (n' + 1)) B3 w.heap.size (d.loose.map wrv) (HL.out.below hb (Nat.le_refl _)) (by rw [zwrs_size]; omega) ?h1 ?h
 case h1 => intro x hx; obtain ⟨y, _, rfl⟩ := List.mem_map.1 hx; exact wrv_one y
 case h =>
  intro w4 hw4
  have hw4' := hw4.out
  clear hw4
  have C0 : Bk w4 w.heap.size 27 _ := hw4' ▸ B0.setRow_other (by omega) _
  have C1 : Bk w4 (w.heap.size + 1) 84 _ := hw4' ▸ B1.setRow_other (by omega) _
  have C2 : Bk w4 (w.heap.size + 1 + 1) 27 _ := hw4' ▸ B2.setRow_other (by omega) _
  have C3 : Bk w4 w3.heap.size 90 _ := hw4' ▸ B3.setRow_same _
  have hb4 : Below w.heap.size w w4 := hw4' ▸ below_setRow hb (by omega) _
  clear hw4' B0 B1 B2 B3 hb
  obtain ⟨⟨p0, p1, p2, p3⟩, q0, q1, q2, q3⟩ := C0.four
  obtain ⟨⟨r0, r1, r2, r3⟩, s0, s1, s2, s3⟩ := C2.four
  have HC0 := Lib.hid C0; have HC1 := Lib.hid C1; have HC2 := Lib.hid C2; have HC3 := Lib.hid C3; clear C0 C1 C2 C3
  have Hhn := Lib.hid hn1; clear hn1
  have hnn : (n' : Int) < (n' : Int) + 1 := by omega
  go_wp2_with ((with_reducible show wpList _ _ _ (⟨some 43, _, _, _, _, _⟩ :: _) _ _); refine hold ?_)
  refine held (wpList_load_mid rfl 84 (.tmp 5) rfl (w.heap.size + 1) 0 rfl (secv s) (.array 64 5) ?_ Tryz.underlying84 rfl (by rw [secv_length, hs]; exact size_sec) ?_)
  ·intro j v hv
   rw [HC1.out.cell]; simpa using hv
  go_wp2_with ((with_reducible show wpList _ _ _ (⟨some 44, _, _, _, _, _⟩ :: _) _ _); refine hold ?_)
  refine held (wpList_build_to rfl 90 #[(0, .tmp 42), (1, .tmp 43)] rfl [(0, .int .i64 a), (1, .agg (secv s).toArray)] rfl (wrv (a, s)).toArray (built_write a s hs) ?_)
  go_wp2_with ((with_reducible show wpList _ _ _ (⟨none, .store 90 _ _, _, _, _, _⟩ :: _) _ _); refine hold ?_)
  refine held (wpList_store_wide rfl 90 (.tmp 45) (.tmp 44) rfl w3.heap.size (n' * 65) (wrv (a, s)).toArray rfl rfl 90 _ HC3.out ?_ ?_ (by simpa using wrv_one (a, s)) ?_)
  ·have hx : (d.loose.map wrv).flatten.length = n' * 65 := Arr.flat_length HL.out
   simp [splice, zwrs_size, hx, wrv_length, hs]
   omega
  ·rw [size_wr]; simp [wrv_length, hs]
  intro w5 hw5
  have hw5' := hw5.out
  clear hw5 p0 p1 p2 p3 q0 q1 q2 q3 r0 r1 r2 r3 s0 s1 s2 s3
  have D0 : Bk w5 w.heap.size 27 _ := hw5' ▸ HC0.out.setRow_other (by omega) _
  have D2 : Bk w5 (w.heap.size + 1 + 1) 27 _ := hw5' ▸ HC2.out.setRow_other (by omega) _
  have D3 : Bk w5 w3.heap.size 90 _ := hw5' ▸ HC3.out.setRow_same _
  have hb5 : Below w.heap.size w w5 := hw5' ▸ below_setRow hb4 (by omega) _
  clear hw5' HC0 HC1 HC2 HC3 hb4
  obtain ⟨⟨p0, p1, p2, p3⟩, q0, q1, q2, q3⟩ := D0.four
  obtain ⟨⟨r0, r1, r2, r3⟩, s0, s1, s2, s3⟩ := D2.four
  have HD3 := Lib.hid D3; clear D0 D2 D3
  go_wp2
  refine bodyPost_ret (v := .tuple #[.agg #[.slice A n c, .slice (some ⟨w3.heap.size, 0, none⟩) (n' + 1) (n' + 1), .int .i64 (deedF d.fuse false), .bool false], .int .i64 0]) (by simp [results, Tryz.results64, go_sem, *]) rfl ?_
  refine DkRes.of (w2 := w5) rfl hnc (Nat.le_refl _) hc (by have := Hhn.out; unfold maxLen; omega) (HS.out.below hb5 (Nat.le_refl _)) hb5 ?_ ?_
  ·exact (((((Below.refl _ _).setCell (p := ⟨w.heap.size, 1, none⟩) (Nat.le_refl _) _).setCell (p := ⟨w.heap.size + 1 + 1, 0, none⟩) (by simp <;> omega) _).setCell (p := ⟨w.heap.size + 1 + 1, 1, none⟩) (by simp <;> omega) _).setCell (p := ⟨w.heap.size + 1 + 1, 2, none⟩) (by simp <;> omega) _).setCell (p := ⟨w.heap.size + 1 + 1, 3, none⟩) (by simp <;> omega) _
  ·refine Arr.of_bk (t := 90) ((((((HD3.out.far (by simp <;> omega) _).far (by simp <;> omega) _).far (by simp <;> omega) _).far (by simp <;> omega) _).far (by simp <;> omega) _)) (by simpa using HL.out.1) ?_ ?_ _ (by have := HD3.out.lt; simp <;> omega)
   ·intro x hx
    rw [List.map_append, List.mem_append] at hx
    rcases hx with hx | hx
    ·exact HL.out.2.1 x hx
    ·simp only [List.map_cons, List.map_nil, List.mem_singleton] at hx
     subst hx
     simp [wrv_length, hs]
   ·intro j v hv
    have hx : (d.loose.map wrv).flatten.length = n' * 65 := Arr.flat_length HL.out
    have hy : (wrv (a, s)).length = 65 := by simp [wrv_length, hs]
    have e := splice_two (zwrs (n' + 1)).toList (d.loose.map wrv).flatten (wrv (a, s)) (by simp [zwrs_size, hx, hy]; omega)
    rw [hx] at e
    show ((splice (splice (zwrs (n' + 1)).toList 0 (d.loose.map wrv).flatten) (n' * 65) (wrv (a, s))).toArray)[j]? = some v
    rw [e]
    simpa using hv
end Go.Proofs.YtcdehejgnnnimaaGreatDoor
