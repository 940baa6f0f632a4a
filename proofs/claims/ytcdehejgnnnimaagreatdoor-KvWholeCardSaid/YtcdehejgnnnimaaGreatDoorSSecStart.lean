/-
 A part of the proof: see the last text.
-/
import Derived.Test.YtcdehejgnnnimaaGreatDoorSSecFlush
import Derived.Test.YtcdehejgnnnimaaGreatDoorSSecPut
import Derived.Deep.WholeRow
import Derived.Test.YtcdehejgnnnimaaGreatDoorSSecNew
import Derived.Test.YtcdehejgnnnimaaGreatDoorSSecWords
namespace Go.Proofs.YtcdehejgnnnimaaGreatDoor
set_option linter.unusedVariables false
set_option linter.unusedSimpArgs false
open Go.RowKit
theorem put_any (v : Value) (d : Dk) (a : Int) (s : List Int) (w : World) (hd : DkAt w w.heap.size v d) (hs : s.length = 64) :
 Calls Tryz.prog 64 #[v, .int .i64 a, .agg (secv s).toArray] w (DkRes w (putM d a s)) := by
 unfold putM
 by_cases h : (rightB d && thereB d.secs.length a) = true
 ·rw [if_pos h]
  by_cases hde : deedD d.fuse d.down = true
  ·rw [if_pos hde]; exact put_fall v d a s w hd h hde
  ·rw [if_neg hde]; exact put_ok v d a s w hd h (by simpa using hde) hs
 ·rw [if_neg h]; exact put_no v d a s w hd (by simpa using h)
theorem flush_any (v : Value) (d : Dk) (w : World) (hd : DkAt w w.heap.size v d) : Calls Tryz.prog 70 #[v] w (DkRes w (flushM d)) := by
 unfold flushM
 by_cases h : rightB d = true
 ·rw [if_pos h]
  by_cases hde : deedD d.fuse d.down = true
  ·rw [if_pos hde]; exact flush_fall v d w hd h hde
  ·rw [if_neg hde]; exact flush_ok v d w hd h (by simpa using hde)
 ·rw [if_neg h]; exact flush_no v d w hd (by simpa using h)
end Go.Proofs.YtcdehejgnnnimaaGreatDoor
namespace Go.Proofs.YtcdehejgnnnimaaGreatDoor
set_option linter.unusedVariables false
set_option linter.unusedSimpArgs false
open Go.RowKit Go.Shelf
attribute [local go_sem] Oper.semAt_some
theorem results_cells2 {P : Program} {fn : Func} {p q : Tmp} {t1 t2 : TypeId} (h : fn.results = #[.cell p t1, .cell q t2]) (tmps : Array Value) (w : World) (a1 a2 : Addr) (v1 v2 : Value)
 (hp : tmps.getD p undef = .pointer (some a1)) (hq : tmps.getD q undef = .pointer (some a2)) (h1 : (loadVar t1 a1).run P w = .ok v1 w) (h2 : (loadVar t2 a2).run P w = .ok v2 w) :
 (results fn tmps).run P w = .ok (.tuple #[v1, v2]) w := by
 have hp' : tmps[p]?.getD undef = .pointer (some a1) := by simpa using hp
 have hq' : tmps[q]?.getD undef = .pointer (some a2) := by simpa using hq
 simp [results, h, hp', hq', asAddr, h1, h2]
def SecRes (w : World) (x : List Int × Int) (e : Ending) (w' : World) : Prop :=
 e = .returned (.tuple #[.agg (secv x.1).toArray, .int .i64 x.2]) ∧ Below w.heap.size w w'
theorem load_sec {w : World} {b : Nat} {s : List Int} (h : Bk w b 84 (secv s).toArray) (hs : s.length = 64) : (loadVar 84 ⟨b, 0, none⟩).run Tryz.prog w = .ok (.agg (secv s).toArray) w :=
 run_loadVar_mid w b 0 84 (secv s) (.array 64 5) (fun j v hv => by rw [h.cell, Nat.zero_add]; simpa using hv) Tryz.underlying84 rfl (by rw [secv_length, hs]; exact size_sec)
theorem load_err {w : World} {b : Nat} {z : Int} (h : Bk w b 28 #[.int .i64 z]) : (loadVar 28 ⟨b, 0, none⟩).run Tryz.prog w = .ok (.int .i64 z) w := by
 have := h.cell 0
 simp [go_sem, this]
theorem built_zsec : Tryz.prog.built 84 [] = some (secv zsec).toArray := by kernel_rfl
theorem splice_whole {x y : List Value} (h : y.length = x.length) : splice x 0 y = y := by
 simp only [splice, List.take_zero, List.nil_append, Nat.zero_add]
 rw [List.drop_eq_nil_of_le (by omega), List.append_nil]
set_option maxRecDepth 100000 in
set_option maxHeartbeats 1000000 in
theorem read_no (v : Value) (d : Dk) (a : Int) (w : World) (hd : DkAt w w.heap.size v d) (h : (rightB d && thereB d.secs.length a) = false) :
 Calls Tryz.prog 106 #[v, .int .i64 a] w (SecRes w (zsec, 1)) := by
 have hdW := fun W => hd.later (W := W)
 obtain ⟨A, n, c, A', n', c', rfl, hnc, hnc', hc, hc', hS, hL⟩ := hd
 have hn : n = d.secs.length := by have := hS.1; simpa using this.symm
 rw [← hn] at h
 have HS := Lib.hid hS; have HL := Lib.hid hL; clear hS hL
 have Hd := Lib.hid hdW; clear hdW
 have HN := Lib.hid hn; clear hn
 have hcc : n ≤ maxLen := by omega
 by_cases hr : rightB d = true
 ·have ht : thereB n a = false := by simpa [hr] using h
  clear h
  go_enter Tryz.func106, Tryz.ntmps106
  go_wp2_with ((with_reducible show wpList _ _ _ (⟨_, .alloc 84, _, _, _, _⟩ :: _) _ _); refine hold ?_)
  refine held (wpList_alloc_to rfl 84 rfl (secv zsec).toArray (by kernel_rfl) ?_)
  go_wp2_with fail
  refine (right_any _ d _ ?hd).mono ?_
  case hd => exact Hd.out _ (by repeat (first | with_reducible exact Below.refl _ _ | (refine Below.alloc ?_ (by first | omega | (simp; done) | (simp; omega)) _)))
  rintro e w1 ⟨rfl, hb1⟩
  have B0 : Bk w1 w.heap.size 27 #[.slice A n c, .slice A' n' c', .int .i64 d.fuse, .bool d.down] := Bk.below (by exact (((Bk.new _ _ _).alloc _).alloc _).alloc _) hb1 (by simp only [World.size_alloc]; omega)
  have B1 : Bk w1 (w.heap.size + 1) 3 #[.int .i64 a] := Bk.below (by exact ((Bk.new2 _ _ _ _).alloc _).alloc _) hb1 (by simp only [World.size_alloc]; omega)
  have B2 : Bk w1 (w.heap.size + 1 + 1) 84 (secv zsec).toArray := Bk.below (by exact (Bk.new3 _ _ _ _ _).alloc _) hb1 (by simp only [World.size_alloc]; omega)
  have B3 : Bk w1 (w.heap.size + 1 + 1 + 1) 28 #[.int .i64 0] := Bk.below (by exact Bk.new4 _ _ _ _ _ _) hb1 (by simp only [World.size_alloc]; omega)
  have hb : Below w.heap.size w w1 := (((((Below.refl _ _).alloc (Nat.le_refl _) _).alloc (by simp) _).alloc (by simp only [World.size_alloc]; omega) _).alloc (by simp only [World.size_alloc]; omega) _).trans (hb1.mono (by simp only [World.size_alloc]; omega))
  clear hb1
  obtain ⟨⟨p0, p1, p2, p3⟩, q0, q1, q2, q3⟩ := B0.four
  have r0 := B1.cell 0
  have s0 := B3.cell 0
  have s1 := B3.frozen 0
  simp only [List.getElem?_toArray, List.getElem?_cons_zero] at r0 s0
  have HB0 := Lib.hid B0; have HB1 := Lib.hid B1; have HB2 := Lib.hid B2; have HB3 := Lib.hid B3; clear B0 B1 B2 B3
  go_wp2_with fail
  refine (isThere_any _ _ _ _ _ _ _ _ _ _ (by omega)).mono ?_
  rintro e w2 ⟨rfl, hb2⟩
  clear p0 p1 p2 p3 q0 q1 q2 q3 r0 s0 s1
  have B0 := HB0.out.below hb2 HB0.out.lt
  have B1 := HB1.out.below hb2 HB1.out.lt
  have B2 := HB2.out.below hb2 HB2.out.lt
  have B3 := HB3.out.below hb2 HB3.out.lt
  replace hb := hb.trans (hb2.mono hb.size)
  clear hb2 HB0 HB1 HB2 HB3
  obtain ⟨⟨p0, p1, p2, p3⟩, q0, q1, q2, q3⟩ := B0.four
  have r0 := B1.cell 0
  have s0 := B3.cell 0
  have s1 := B3.frozen 0
  simp only [List.getElem?_toArray, List.getElem?_cons_zero] at r0 s0
  have HB0 := Lib.hid B0; have HB1 := Lib.hid B1; have HB2 := Lib.hid B2; have HB3 := Lib.hid B3; clear B0 B1 B2 B3
  go_wp2_with ((with_reducible show wpList _ _ _ (⟨some 16, _, _, _, _, _⟩ :: _) _ _); refine hold ?_)
  refine held (wpList_build_to rfl 84 #[] rfl [] rfl (secv zsec).toArray built_zsec ?_)
  go_wp2_with ((with_reducible show wpList _ _ _ (⟨none, .store 84 _ _, _, _, _, _⟩ :: _) _ _); refine hold ?_)
  refine held (wpList_store_wide rfl 84 (.tmp 4) (.tmp 16) rfl (w.heap.size + 1 + 1) 0 (secv zsec).toArray rfl rfl 84 _ HB2.out (by simp) (by kernel_rfl) (by simpa using secv_one zsec) ?_)
  intro w5 hw5
  rw [splice_whole rfl] at hw5
  have e5 := hw5.out
  clear hw5
  have C2 : Bk w5 (w.heap.size + 1 + 1) 84 (secv zsec).toArray := by rw [e5]; exact HB2.out.setRow_same _
  have C3 : Bk w5 (w.heap.size + 1 + 1 + 1) 28 #[.int .i64 0] := by rw [e5]; exact HB3.out.setRow_other (by omega) _
  have hb5 : Below w.heap.size w w5 := by rw [e5]; exact below_setRow hb (by omega) _
  clear e5 p0 p1 p2 p3 q0 q1 q2 q3 r0 s0 s1 HB0 HB1 HB2 HB3 hb
  have s0 := C3.cell 0
  have s1 := C3.frozen 0
  simp only [List.getElem?_toArray, List.getElem?_cons_zero] at s0
  have HC2 := Lib.hid C2; have HC3 := Lib.hid C3; clear C2 C3
  go_wp2
  refine bodyPost_ret (v := .tuple #[.agg (secv zsec).toArray, .int .i64 1]) ?_ rfl ⟨rfl, hb5.setCell (by show _ ≤ w.heap.size + 1 + 1 + 1; omega) _⟩
  exact results_cells2 rfl _ _ ⟨w.heap.size + 1 + 1, 0, none⟩ ⟨w.heap.size + 1 + 1 + 1, 0, none⟩ _ _ rfl rfl (load_sec (HC2.out.far (by simp) _) rfl) (load_err (HC3.out.put 0 _))
 ·have hr' : rightB d = false := by simpa using hr
  clear h hr
  go_enter Tryz.func106, Tryz.ntmps106
  go_wp2_with ((with_reducible show wpList _ _ _ (⟨_, .alloc 84, _, _, _, _⟩ :: _) _ _); refine hold ?_)
  refine held (wpList_alloc_to rfl 84 rfl (secv zsec).toArray (by kernel_rfl) ?_)
  go_wp2_with fail
  refine (right_any _ d _ ?hd).mono ?_
  case hd => exact Hd.out _ (by repeat (first | with_reducible exact Below.refl _ _ | (refine Below.alloc ?_ (by first | omega | (simp; done) | (simp; omega)) _)))
  rintro e w1 ⟨rfl, hb1⟩
  have B0 : Bk w1 w.heap.size 27 #[.slice A n c, .slice A' n' c', .int .i64 d.fuse, .bool d.down] := Bk.below (by exact (((Bk.new _ _ _).alloc _).alloc _).alloc _) hb1 (by simp only [World.size_alloc]; omega)
  have B1 : Bk w1 (w.heap.size + 1) 3 #[.int .i64 a] := Bk.below (by exact ((Bk.new2 _ _ _ _).alloc _).alloc _) hb1 (by simp only [World.size_alloc]; omega)
  have B2 : Bk w1 (w.heap.size + 1 + 1) 84 (secv zsec).toArray := Bk.below (by exact (Bk.new3 _ _ _ _ _).alloc _) hb1 (by simp only [World.size_alloc]; omega)
  have B3 : Bk w1 (w.heap.size + 1 + 1 + 1) 28 #[.int .i64 0] := Bk.below (by exact Bk.new4 _ _ _ _ _ _) hb1 (by simp only [World.size_alloc]; omega)
  have hb : Below w.heap.size w w1 := (((((Below.refl _ _).alloc (Nat.le_refl _) _).alloc (by simp) _).alloc (by simp only [World.size_alloc]; omega) _).alloc (by simp only [World.size_alloc]; omega) _).trans (hb1.mono (by simp only [World.size_alloc]; omega))
  clear hb1
  obtain ⟨⟨p0, p1, p2, p3⟩, q0, q1, q2, q3⟩ := B0.four
  have r0 := B1.cell 0
  have s0 := B3.cell 0
  have s1 := B3.frozen 0
  simp only [List.getElem?_toArray, List.getElem?_cons_zero] at r0 s0
  have HB0 := Lib.hid B0; have HB1 := Lib.hid B1; have HB2 := Lib.hid B2; have HB3 := Lib.hid B3; clear B0 B1 B2 B3
  go_wp2_with ((with_reducible show wpList _ _ _ (⟨some 16, _, _, _, _, _⟩ :: _) _ _); refine hold ?_)
  refine held (wpList_build_to rfl 84 #[] rfl [] rfl (secv zsec).toArray built_zsec ?_)
  go_wp2_with ((with_reducible show wpList _ _ _ (⟨none, .store 84 _ _, _, _, _, _⟩ :: _) _ _); refine hold ?_)
  refine held (wpList_store_wide rfl 84 (.tmp 4) (.tmp 16) rfl (w.heap.size + 1 + 1) 0 (secv zsec).toArray rfl rfl 84 _ HB2.out (by simp) (by kernel_rfl) (by simpa using secv_one zsec) ?_)
  intro w5 hw5
  rw [splice_whole rfl] at hw5
  have e5 := hw5.out
  clear hw5
  have C2 : Bk w5 (w.heap.size + 1 + 1) 84 (secv zsec).toArray := by rw [e5]; exact HB2.out.setRow_same _
  have C3 : Bk w5 (w.heap.size + 1 + 1 + 1) 28 #[.int .i64 0] := by rw [e5]; exact HB3.out.setRow_other (by omega) _
  have hb5 : Below w.heap.size w w5 := by rw [e5]; exact below_setRow hb (by omega) _
  clear e5 p0 p1 p2 p3 q0 q1 q2 q3 r0 s0 s1 HB0 HB1 HB2 HB3 hb
  have s0 := C3.cell 0
  have s1 := C3.frozen 0
  simp only [List.getElem?_toArray, List.getElem?_cons_zero] at s0
  have HC2 := Lib.hid C2; have HC3 := Lib.hid C3; clear C2 C3
  go_wp2
  refine bodyPost_ret (v := .tuple #[.agg (secv zsec).toArray, .int .i64 1]) ?_ rfl ⟨rfl, hb5.setCell (by show _ ≤ w.heap.size + 1 + 1 + 1; omega) _⟩
  exact results_cells2 rfl _ _ ⟨w.heap.size + 1 + 1, 0, none⟩ ⟨w.heap.size + 1 + 1 + 1, 0, none⟩ _ _ rfl rfl (load_sec (HC2.out.far (by simp) _) rfl) (load_err (HC3.out.put 0 _))
set_option maxRecDepth 100000 in
set_option maxHeartbeats 1000000 in
theorem read_down (v : Value) (d : Dk) (a : Int) (w : World) (hd : DkAt w w.heap.size v d) (h : (rightB d && thereB d.secs.length a) = true) (hdn : d.down = true) :
 Calls Tryz.prog 106 #[v, .int .i64 a] w (SecRes w (zsec, 9)) := by
 have hdW := fun W => hd.later (W := W)
 obtain ⟨A, n, c, A', n', c', rfl, hnc, hnc', hc, hc', hS, hL⟩ := hd
 have hn : n = d.secs.length := by have := hS.1; simpa using this.symm
 rw [← hn] at h
 have HS := Lib.hid hS; have HL := Lib.hid hL; clear hS hL
 have Hd := Lib.hid hdW; clear hdW
 have HN := Lib.hid hn; clear hn
 have hcc : n ≤ maxLen := by omega
 have Hdn := Lib.hid hdn; clear hdn
 obtain ⟨hr, ht⟩ : rightB d = true ∧ thereB n a = true := by simpa using h
 clear h
 go_enter Tryz.func106, Tryz.ntmps106
 go_wp2_with ((with_reducible show wpList _ _ _ (⟨_, .alloc 84, _, _, _, _⟩ :: _) _ _); refine hold ?_)
 refine held (wpList_alloc_to rfl 84 rfl (secv zsec).toArray (by kernel_rfl) ?_)
 go_wp2_with fail
 refine (right_any _ d _ ?hd).mono ?_
 case hd => exact Hd.out _ (by repeat (first | with_reducible exact Below.refl _ _ | (refine Below.alloc ?_ (by first | omega | (simp; done) | (simp; omega)) _)))
 rintro e w1 ⟨rfl, hb1⟩
 have B0 : Bk w1 w.heap.size 27 #[.slice A n c, .slice A' n' c', .int .i64 d.fuse, .bool d.down] := Bk.below (by exact (((Bk.new _ _ _).alloc _).alloc _).alloc _) hb1 (by simp only [World.size_alloc]; omega)
 have B1 : Bk w1 (w.heap.size + 1) 3 #[.int .i64 a] := Bk.below (by exact ((Bk.new2 _ _ _ _).alloc _).alloc _) hb1 (by simp only [World.size_alloc]; omega)
 have B2 : Bk w1 (w.heap.size + 1 + 1) 84 (secv zsec).toArray := Bk.below (by exact (Bk.new3 _ _ _ _ _).alloc _) hb1 (by simp only [World.size_alloc]; omega)
 have B3 : Bk w1 (w.heap.size + 1 + 1 + 1) 28 #[.int .i64 0] := Bk.below (by exact Bk.new4 _ _ _ _ _ _) hb1 (by simp only [World.size_alloc]; omega)
 have hb : Below w.heap.size w w1 := (((((Below.refl _ _).alloc (Nat.le_refl _) _).alloc (by simp) _).alloc (by simp only [World.size_alloc]; omega) _).alloc (by simp only [World.size_alloc]; omega) _).trans (hb1.mono (by simp only [World.size_alloc]; omega))
 clear hb1
 obtain ⟨⟨p0, p1, p2, p3⟩, q0, q1, q2, q3⟩ := B0.four
 have r0 := B1.cell 0
 have s0 := B3.cell 0
 have s1 := B3.frozen 0
 simp only [List.getElem?_toArray, List.getElem?_cons_zero] at r0 s0
 have HB0 := Lib.hid B0; have HB1 := Lib.hid B1; have HB2 := Lib.hid B2; have HB3 := Lib.hid B3; clear B0 B1 B2 B3
 go_wp2_with fail
 refine (isThere_any _ _ _ _ _ _ _ _ _ _ (by omega)).mono ?_
 rintro e w2 ⟨rfl, hb2⟩
 clear p0 p1 p2 p3 q0 q1 q2 q3 r0 s0 s1
 have B0 := HB0.out.below hb2 HB0.out.lt
 have B1 := HB1.out.below hb2 HB1.out.lt
 have B2 := HB2.out.below hb2 HB2.out.lt
 have B3 := HB3.out.below hb2 HB3.out.lt
 replace hb := hb.trans (hb2.mono hb.size)
 clear hb2 HB0 HB1 HB2 HB3
 obtain ⟨⟨p0, p1, p2, p3⟩, q0, q1, q2, q3⟩ := B0.four
 have r0 := B1.cell 0
 have s0 := B3.cell 0
 have s1 := B3.frozen 0
 simp only [List.getElem?_toArray, List.getElem?_cons_zero] at r0 s0
 have HB0 := Lib.hid B0; have HB1 := Lib.hid B1; have HB2 := Lib.hid B2; have HB3 := Lib.hid B3; clear B0 B1 B2 B3
 rw [Hdn.out] at p3
 go_wp2_with ((with_reducible show wpList _ _ _ (⟨some 19, _, _, _, _, _⟩ :: _) _ _); refine hold ?_)
 refine held (wpList_build_to rfl 84 #[] rfl [] rfl (secv zsec).toArray built_zsec ?_)
 go_wp2_with ((with_reducible show wpList _ _ _ (⟨none, .store 84 _ _, _, _, _, _⟩ :: _) _ _); refine hold ?_)
 refine held (wpList_store_wide rfl 84 (.tmp 4) (.tmp 19) rfl (w.heap.size + 1 + 1) 0 (secv zsec).toArray rfl rfl 84 _ HB2.out (by simp) (by kernel_rfl) (by simpa using secv_one zsec) ?_)
 intro w5 hw5
 rw [splice_whole rfl] at hw5
 have e5 := hw5.out
 clear hw5
 have C2 : Bk w5 (w.heap.size + 1 + 1) 84 (secv zsec).toArray := by rw [e5]; exact HB2.out.setRow_same _
 have C3 : Bk w5 (w.heap.size + 1 + 1 + 1) 28 #[.int .i64 0] := by rw [e5]; exact HB3.out.setRow_other (by omega) _
 have hb5 : Below w.heap.size w w5 := by rw [e5]; exact below_setRow hb (by omega) _
 clear e5 p0 p1 p2 p3 q0 q1 q2 q3 r0 s0 s1 HB0 HB1 HB2 HB3 hb
 have s0 := C3.cell 0
 have s1 := C3.frozen 0
 simp only [List.getElem?_toArray, List.getElem?_cons_zero] at s0
 have HC2 := Lib.hid C2; have HC3 := Lib.hid C3; clear C2 C3
 go_wp2
 refine bodyPost_ret (v := .tuple #[.agg (secv zsec).toArray, .int .i64 9]) ?_ rfl ⟨rfl, hb5.setCell (by show _ ≤ w.heap.size + 1 + 1 + 1; omega) _⟩
 exact results_cells2 rfl _ _ ⟨w.heap.size + 1 + 1, 0, none⟩ ⟨w.heap.size + 1 + 1 + 1, 0, none⟩ _ _ rfl rfl (load_sec (HC2.out.far (by simp) _) rfl) (load_err (HC3.out.put 0 _))
end Go.Proofs.YtcdehejgnnnimaaGreatDoor
namespace Go.Proofs.YtcdehejgnnnimaaGreatDoor
set_option linter.unusedVariables false
set_option linter.unusedSimpArgs false
open Go.RowKit Go.Shelf
attribute [local go_sem] Oper.semAt_some
theorem read_view (ss : List (List Int)) (l : List (Int × List Int)) (h : looseB ss.length l = true) (k : Nat) (hk : k < ss.length) :
 (doneM (fun _ => true) 0 ss l).getD k [] = rowM ss (comeM (fun _ => true) l 0) k := by
 rw [← doneM_come _ _ _ h]
 simp [rowsM, hk]
theorem rowM_hit (ss : List (List Int)) (all pre : List (Int × List Int)) (x : Int × List Int) (k : Nat) (hp : pre ++ [x] <+: all) (hn : ∀ y ∈ pre, y.1 ≠ (k : Int)) (hx : x.1 = (k : Int)) : rowM ss all k = x.2 := by
 obtain ⟨r, rfl⟩ := hp
 unfold rowM
 rw [List.append_assoc, List.find?_append]
 have h1 : pre.find? (fun x => x.1 == (k : Int)) = none := by
  rw [List.find?_eq_none]
  intro y hy
  simpa using hn y hy
 rw [h1]
 simp [hx]
theorem rowM_none (ss : List (List Int)) (all : List (Int × List Int)) (k : Nat) (hn : ∀ y ∈ all, y.1 ≠ (k : Int)) : rowM ss all k = ss.getD k [] := by
 unfold rowM
 have h1 : all.find? (fun x => x.1 == (k : Int)) = none := by
  rw [List.find?_eq_none]
  intro y hy
  simpa using hn y hy
 rw [h1]
set_option maxRecDepth 100000 in
set_option maxHeartbeats 2000000 in
theorem read_ok (v : Value) (d : Dk) (k : Nat) (w : World) (hd : DkAt w w.heap.size v d) (h : (rightB d && thereB d.secs.length (k : Int)) = true) (hdn : d.down = false) :
 Calls Tryz.prog 106 #[v, .int .i64 (k : Int)] w (SecRes w ((viewM d).getD k [], 0)) := by
 have hdW := fun W => hd.later (W := W)
 obtain ⟨A, n, c, A', n', c', rfl, hnc, hnc', hc, hc', hS, hL⟩ := hd
 have hn : d.secs.length = n := by have := hS.1; simpa using this
 have hn' : d.loose.length = n' := by have := hL.1; simpa using this
 rw [hn] at h
 obtain ⟨hr, ht⟩ : rightB d = true ∧ thereB n (k : Int) = true := by simpa using h
 clear h
 have hkn : k < n := by simp [thereB] at ht; exact ht
 have hR : n ≤ 4096 ∧ n' ≤ 100000 ∧ looseB n d.loose = true := by
  unfold rightB at hr
  simp only [Bool.and_eq_true, decide_eq_true_eq, hn, hn'] at hr
  exact ⟨hr.1.1.1, hr.1.1.2, hr.2⟩
 obtain ⟨h4096, h100, hlo⟩ := hR
 obtain ⟨xs, hxs⟩ := wr_of (n := n) hlo (fun x hx => by have := hL.2.1 (wrv x) (List.mem_map.2 ⟨x, hx, rfl⟩); simpa [wrv_length] using this)
 have hcc : n ≤ maxLen := by omega
 have HDN := Lib.hid hdn
 have HN := Lib.hid hn; have HN' := Lib.hid hn'; have HX := Lib.hid hxs; have HLO := Lib.hid hlo; clear hn hn' hxs hlo hdn
 have HS := Lib.hid hS; have HL := Lib.hid hL; clear hS hL
 have Hd := Lib.hid hdW; clear hdW
 refine (callsIn_wide (n := 3)).1 ?_
 refine callsIn_of_wp_marks Tryz.func106 rfl trivial ?_ rfl
 simp only [Tryz.ntmps106, List.size_toArray, List.length_cons, List.length_nil, Nat.reduceAdd, Nat.reduceSub, Array.replicate_succ, Array.replicate_zero, List.push_toArray, List.append_toArray, List.nil_append, List.cons_append]
 gi_wp2_with ((with_reducible show wpListIn _ _ _ _ _ (⟨_, .alloc 84, _, _, _, _⟩ :: _) _ _); refine hold ?_)
 refine held (wpListIn_alloc_to (by simp [Region.wanted]) 84 rfl (secv zsec).toArray (by kernel_rfl) ?_)
 gi_wp2_with fail
 refine ⟨trivial, (callsIn_wide.2 (right_any _ d _ ?hd)).mono ?_⟩
 case hd => exact Hd.out _ (by repeat (first | with_reducible exact Below.refl _ _ | (refine Below.alloc ?_ (by first | omega | (simp; done) | (simp; omega)) _)))
 rintro e w1 ⟨rfl, hb1⟩
 have B0 : Bk w1 w.heap.size 27 #[.slice A n c, .slice A' n' c', .int .i64 d.fuse, .bool d.down] := Bk.below (by exact (((Bk.new _ _ _).alloc _).alloc _).alloc _) hb1 (by simp only [World.size_alloc]; omega)
 have B1 : Bk w1 (w.heap.size + 1) 3 #[.int .i64 (k : Int)] := Bk.below (by exact ((Bk.new2 _ _ _ _).alloc _).alloc _) hb1 (by simp only [World.size_alloc]; omega)
 have B2 : Bk w1 (w.heap.size + 1 + 1) 84 (secv zsec).toArray := Bk.below (by exact (Bk.new3 _ _ _ _ _).alloc _) hb1 (by simp only [World.size_alloc]; omega)
 have B3 : Bk w1 (w.heap.size + 1 + 1 + 1) 28 #[.int .i64 0] := Bk.below (by exact Bk.new4 _ _ _ _ _ _) hb1 (by simp only [World.size_alloc]; omega)
 have hb : Below w.heap.size w w1 := (((((Below.refl _ _).alloc (Nat.le_refl _) _).alloc (by simp) _).alloc (by simp only [World.size_alloc]; omega) _).alloc (by simp only [World.size_alloc]; omega) _).trans (hb1.mono (by simp only [World.size_alloc]; omega))
 clear hb1
 obtain ⟨⟨p0, p1, p2, p3⟩, q0, q1, q2, q3⟩ := B0.four
 have r0 := B1.cell 0
 have s0 := B3.cell 0
 have s1 := B3.frozen 0
 simp only [List.getElem?_toArray, List.getElem?_cons_zero] at r0 s0
 have HB0 := Lib.hid B0; have HB1 := Lib.hid B1; have HB2 := Lib.hid B2; have HB3 := Lib.hid B3; clear B0 B1 B2 B3
 gi_wp2_with fail
 refine ⟨trivial, (callsIn_wide.2 (isThere_any _ _ _ _ _ _ _ _ _ _ (by omega))).mono ?_⟩
 rintro e w2 ⟨rfl, hb2⟩
 clear p0 p1 p2 p3 q0 q1 q2 q3 r0 s0 s1
 have B0 := HB0.out.below hb2 HB0.out.lt
 have B1 := HB1.out.below hb2 HB1.out.lt
 have B2 := HB2.out.below hb2 HB2.out.lt
 have B3 := HB3.out.below hb2 HB3.out.lt
 replace hb := hb.trans (hb2.mono hb.size)
 clear hb2 HB0 HB1 HB2 HB3
 obtain ⟨⟨p0, p1, p2, p3⟩, q0, q1, q2, q3⟩ := B0.four
 have r0 := B1.cell 0
 have s0 := B3.cell 0
 have s1 := B3.frozen 0
 simp only [List.getElem?_toArray, List.getElem?_cons_zero] at r0 s0
 have HB0 := Lib.hid B0; have HB1 := Lib.hid B1; have HB2 := Lib.hid B2; have HB3 := Lib.hid B3; clear B0 B1 B2 B3
 rw [HDN.out] at p3
 gi_wp2_with fail
 refine ⟨trivial, (fromLast_in Fence.wide 2 trivial rfl A' n' c' 86 #[] _).mono ?_⟩
 rintro e w' ⟨rfl, rfl⟩
 gi_wp2_with fail
 refine wpIn_over (fun W => (Bk W w.heap.size 27 #[.slice A n c, .slice A' n' c', .int .i64 d.fuse, .bool d.down] ∧ Bk W (w.heap.size + 1) 3 #[.int .i64 (k : Int)] ∧ Bk W (w.heap.size + 1 + 1) 84 (secv zsec).toArray ∧ Bk W (w.heap.size + 1 + 1 + 1) 28 #[.int .i64 0]) ∧
  (Bk W w2.heap.size 25 #[.slice A' n' c'] ∧ Bk W (w2.heap.size + 1) 113 #[.func (.func 86) #[] #[]]) ∧ W.heap.size = w2.heap.size + 2 ∧ Below w.heap.size w W) ?hF ?hw
 case hF =>
  refine ⟨⟨(HB0.out.alloc _).alloc _, (HB1.out.alloc _).alloc _, (HB2.out.alloc _).alloc _, (HB3.out.alloc _).alloc _⟩, ⟨(Bk.new _ _ _).alloc _, Bk.new2 _ _ _ _⟩, by simp, ?_⟩
  have := hb.size
  repeat (first | with_reducible exact hb | (refine Below.alloc ?_ (by first | omega | (simp; done) | (simp; omega)) _))
 case hw =>
  have hlt3 : w.heap.size + 1 + 1 + 1 < w2.heap.size := HB3.out.lt
  clear p0 p1 p2 p3 q0 q1 q2 q3 r0 s0 s1 HB0 HB1 HB2 HB3 hb
  rintro W0 ⟨⟨B0, B1, B2, B3⟩, ⟨K3, K4⟩, hsz, hbw⟩
  obtain ⟨S, hSd⟩ : ∃ S : Nat → Prop, S = fun b => b < W0.heap.size := ⟨_, rfl⟩
  have hS0 : S w2.heap.size := by rw [hSd]; omega
  have hS1 : S (w2.heap.size + 1) := by rw [hSd]; omega
  have hSn : ∀ b, b < w.heap.size → S b := fun b h => by rw [hSd]; show b < W0.heap.size; omega
  have hSw : ∀ b, S b → b < W0.heap.size := fun b h => by rw [hSd] at h; exact h
  have hsb : ∀ b, b < W0.heap.size → S b := fun b h => by rw [hSd]; exact h
  clear hSd
  refine wpIn_rangeFunc_ownH (α := Wr n) rfl (by omega) (gf := 112) (lb := #[.pointer (some ⟨w2.heap.size, 0, none⟩), .pointer (some ⟨w2.heap.size + 1, 0, none⟩)]) rfl trivial
   (enters_of Tryz.func112 (by kernel_rfl) rfl)
   (fromLast_stops (α := Wr n) Subtype.val Fence.wide 2 trivial rfl (by omega) w2.heap.size (w2.heap.size + 1) w.heap.size S A' n' c' 86 #[] xs (fun _ => true) (by omega) W0 (K3.cell 0) (K4.cell 0) hS0 hS1 hSn hSw ?hA (every_stays _ S W0))
   Keeps.trans (keeps_putObj hSw) (Below.refl _ _) (fun _ => rfl)
   (fun pre W => (∀ y ∈ pre.map Subtype.val, y.1 ≠ (k : Int)) ∧ Keeps S W0 W)
   (fun c pre W => c = .ret ∧ ∃ (pre0 : List (Wr n)) (x : Wr n), pre = pre0 ++ [x] ∧ (∀ y ∈ pre0.map Subtype.val, y.1 ≠ (k : Int)) ∧ x.val.1 = (k : Int) ∧ Bk W (w.heap.size + 1 + 1) 84 (secv x.val.2).toArray ∧ Bk W (w.heap.size + 1 + 1 + 1) 28 #[.int .i64 0] ∧ Below w.heap.size w W)
   ?hI ?hIx ?h0
   (fun x a' W => ∃ Bx, W0.heap.size ≤ Bx ∧ Bk W Bx 90 (wrv x.val).toArray ∧ a' = { tmps := #[.agg #[.slice A n c, .slice A' n' c', .int .i64 d.fuse, .bool d.down], .int .i64 (k : Int), .pointer (some ⟨w.heap.size, 0, none⟩), .pointer (some ⟨w.heap.size + 1, 0, none⟩), .pointer (some ⟨w.heap.size + 1 + 1, 0, none⟩), .pointer (some ⟨w.heap.size + 1 + 1 + 1, 0, none⟩), .pointer (some ⟨Bx, 0, none⟩), .agg #[.slice A n c, .slice A' n' c', .int .i64 d.fuse, .bool d.down], .bool true, .bool false, .bool false, .agg #[.slice A n c, .slice A' n' c', .int .i64 d.fuse, .bool d.down], .int .i64 (k : Int), .bool true, .bool false, .bool false, undef, .pointer (some ⟨w.heap.size, 3, none⟩), .bool false, undef, .pointer (some ⟨w.heap.size, 1, none⟩), .slice A' n' c', .func (.func 112) #[] #[.pointer (some ⟨w2.heap.size, 0, none⟩), .pointer (some ⟨w2.heap.size + 1, 0, none⟩)], .agg (wrv x.val).toArray, undef, undef, undef, undef, undef, undef, undef, undef, undef, undef, undef], defers := [] })
   (fun x a' _ A B row h hg hr => by obtain ⟨Bx, h1, h2, h3⟩ := h; exact ⟨Bx, h1, h2.kept hg (fun r e => (hr r e).2), h3⟩) ?assign ?body ?done ?stop
  case hA =>
   have := HL.out.below hbw (Nat.le_refl _)
   rw [← HX.out, List.map_map] at this
   exact this
  case hI =>
   intro s A B row ⟨h1, h3⟩ hg hr
   exact ⟨h1, keeps_from hSw (Nat.le_refl _) s A B row h3 hg hr⟩
  case hIx =>
   rintro c s A B row ⟨h1, pre0, x, h2, h3, h4, h5, h6, h7⟩ hg hr
   refine ⟨h1, pre0, x, h2, h3, h4, h5.kept hg (fun r e => (hr r e).2), h6.kept hg (fun r e => (hr r e).2), ?_⟩
   exact h7.grown hg h7.size (fun k e => by have := (hr k e).1; omega)
  case h0 => exact ⟨by simp, Keeps.refl _ _⟩
  case assign =>
   intro l pre x W K hI hK
   gi_wp2_with ((with_reducible show wpListIn _ _ _ _ _ (⟨_, .alloc _, _, _, _, _⟩ :: _) _ _); refine hold ?_)
   refine held (wpListIn_alloc_to (by simp [Region.wanted]) 90 rfl (wrv (0, zsec)).toArray (by kernel_rfl) ?_)
   gi_wp2_with ((with_reducible show wpListIn _ _ _ _ _ (⟨_, .store 90 _ _, _, _, _, _⟩ :: _) _ _); refine hold ?_)
   have hwl : (wrv x.val).length = 65 := by rw [wrv_length, x.2.2]
   refine held (wpListIn_store_wide (by simp [Region.wanted]) 90 (.tmp 6) (.tmp 23) rfl W.heap.size 0 (wrv x.val).toArray rfl rfl 90 _ (Bk.new _ _ _) (by simp [hwl, wrv_length, zsec]) (by simp only [List.size_toArray, hwl]; kernel_rfl) (by simpa using wrv_one x.val) ?_)
   intro w' hw'
   have e1 : w' = W.alloc (.cells (wrv x.val).toArray 90) := by
    rw [hw'.out, World.setRow_alloc_new]
    have e2 : splice (wrv (0, zsec)).toArray.toList 0 (wrv x.val).toArray.toList = wrv x.val := splice_whole (by simp [hwl, wrv_length, zsec])
    rw [e2]
   clear hw'
   subst e1
   obtain ⟨h1, h3⟩ := hI
   gi_wp2
   exact hK _ _ ((KeepsOthers.alloc W _).from _) ((Keeps.refl S W).alloc (fun b hb => Nat.lt_of_lt_of_le (hSw b hb) h3.size) _)
    ⟨h1, h3.alloc (fun b hb => Nat.lt_of_lt_of_le (hSw b hb) h3.size) _⟩
    ⟨W.heap.size, h3.size, Bk.new _ _ _, rfl⟩
  case body =>
   rintro l pre x a' W hl ⟨r, hr⟩ ⟨hI1, hI3⟩ ⟨Bx, hBx, bX, rfl⟩ hlt
   have hx64 : x.val.2.length = 64 := x.2.2
   have C1 : Bk W (w.heap.size + 1) 3 _ := (hI3.block _ (hsb _ (by omega))).trans B1
   have C2 : Bk W (w.heap.size + 1 + 1) 84 _ := (hI3.block _ (hsb _ (by omega))).trans B2
   have C3 : Bk W (w.heap.size + 1 + 1 + 1) 28 _ := (hI3.block _ (hsb _ (by omega))).trans B3
   have cx : W.cell? ⟨Bx, 0, none⟩ = some (.int .i64 x.val.1) := by rw [bX.cell]; rfl
   have r0 : W.cell? ⟨w.heap.size + 1, 0, none⟩ = some (.int .i64 (k : Int)) := C1.cell 0
   have s0 : W.cell? ⟨w.heap.size + 1 + 1 + 1, 0, none⟩ = some (.int .i64 0) := C3.cell 0
   have s1 := C3.frozen 0
   have HI1 := Lib.hid hI1; have HKP := Lib.hid hI3; have HBX := Lib.hid bX; have HC2 := Lib.hid C2; have HC3 := Lib.hid C3
   clear hI1 hI3 bX C1 C2 C3 hr
   by_cases hx : x.val.1 = (k : Int)
   ·have hxb : (x.val.1 == (k : Int)) = true := by simpa using hx
    have Hx := Lib.hid hx
    clear hx
    have hxl : (secv x.val.2).length = 64 := by rw [secv_length, hx64]
    gi_wp2_with ((with_reducible show wpListIn _ _ _ _ _ (⟨some 29, _, _, _, _, _⟩ :: _) _ _); refine hold ?_)
    refine held (wpListIn_load_mid (by simp [Region.wanted]) 84 (.tmp 28) rfl Bx 1 rfl (secv x.val.2) (.array 64 5) ?_ Tryz.underlying84 rfl (by rw [hxl]; kernel_rfl) ?_)
    ·intro j u hu
     rw [HBX.out.cell, Nat.add_comm]
     simpa [wrv] using hu
    gi_wp2_with ((with_reducible show wpListIn _ _ _ _ _ (⟨none, .store 84 _ _, _, _, _, _⟩ :: _) _ _); refine hold ?_)
    refine held (wpListIn_store_wide (by simp [Region.wanted]) 84 (.tmp 4) (.tmp 29) rfl (w.heap.size + 1 + 1) 0 (secv x.val.2).toArray rfl rfl 84 _ HC2.out (by simp only [List.size_toArray, secv_length, hx64]; simp [zsec]) (by simp only [List.size_toArray, hxl]; kernel_rfl) (by simpa using secv_one x.val.2) ?_)
    intro w' hw2
    rw [splice_whole (by simp [secv_length, hx64, zsec])] at hw2
    have e2 := hw2.out
    have D2 : Bk w' (w.heap.size + 1 + 1) 84 (secv x.val.2).toArray := by rw [e2]; exact HC2.out.setRow_same _
    have D3 : Bk w' (w.heap.size + 1 + 1 + 1) 28 #[.int .i64 0] := by rw [e2]; exact HC3.out.setRow_other (by omega) _
    have hko : KeepsOthers W w' := by rw [e2]; exact keepsOthers_setRow _ _ 84 _ _ HC2.out
    have hbb : Below w.heap.size w w' := by rw [e2]; exact below_setRow (hbw.trans (HKP.out.below hSn)) (by omega) _
    clear e2 hw2 s0 s1 r0 cx
    have s0 : w'.cell? ⟨w.heap.size + 1 + 1 + 1, 0, none⟩ = some (.int .i64 0) := D3.cell 0
    have s1 := D3.frozen 0
    have HD2 := Lib.hid D2; have HD3 := Lib.hid D3; clear D2 D3
    gi_wp2
    refine ⟨(hko.trans (KeepsOthers.setCell _ _ _)).from _, rfl, pre, x, rfl, HI1.out, Hx.out, HD2.out.far (by simp) _, HD3.out.put 0 _, hbb.setCell (by show w.heap.size ≤ w.heap.size + 1 + 1 + 1; omega) _⟩
   ·have hxb : (x.val.1 == (k : Int)) = false := by simpa using hx
    have Hx := Lib.hid hx
    clear hx
    gi_wp2
    refine ⟨KeepsFrom.refl _ _, Keeps.refl _ _, ?_, HKP.out⟩
    intro y hy
    rw [List.map_append, List.mem_append] at hy
    rcases hy with hy | hy
    ·exact HI1.out y hy
    ·simp only [List.map_cons, List.map_nil, List.mem_singleton] at hy
     rw [hy]
     exact Hx.out
  case done =>
   rintro D ys W hD rfl ⟨h1, h3⟩ hK
   obtain ⟨bS, oS, hA0, hbS, hrS⟩ := HS.out.at_ hkn
   subst hA0
   have hrow : (d.secs.map secv).getD k [] = secv (d.secs.getD k []) := by
    have hk : k < d.secs.length := by rw [HN.out]; exact hkn
    simp [hk]
   rw [hrow] at hrS
   have hs64 : (d.secs.getD k []).length = 64 := by
    have hk : k < d.secs.length := by rw [HN.out]; exact hkn
    have := HS.out.2.1 (secv (d.secs.getD k [])) (List.mem_map.2 ⟨d.secs.getD k [], by simp [hk], rfl⟩)
    simpa [secv_length] using this
   have hview : (viewM d).getD k [] = d.secs.getD k [] := by
    unfold viewM
    rw [read_view _ _ (by rw [HN.out]; exact HLO.out) k (by rw [HN.out]; exact hkn), rowM_none]
    intro y hy
    rw [← HX.out, ← comeM_map] at hy
    exact h1 y hy
   have C0 : Bk W w.heap.size 27 _ := (h3.block _ (hsb _ (by omega))).trans B0
   have C1 : Bk W (w.heap.size + 1) 3 _ := (h3.block _ (hsb _ (by omega))).trans B1
   have C2 : Bk W (w.heap.size + 1 + 1) 84 _ := (h3.block _ (hsb _ (by omega))).trans B2
   have C3 : Bk W (w.heap.size + 1 + 1 + 1) 28 _ := (h3.block _ (hsb _ (by omega))).trans B3
   have hbW : Below w.heap.size w W := hbw.trans (h3.below hSn)
   have HrS := Lib.hid (rangeAt_keep hrS (w' := W) (fun p hp => hbW.cell (by omega)))
   have Hview := Lib.hid hview
   have p0 : W.cell? ⟨w.heap.size, 0, none⟩ = some (.slice (some ⟨bS, oS, none⟩) n c) := C0.cell 0
   have r0 : W.cell? ⟨w.heap.size + 1, 0, none⟩ = some (.int .i64 (k : Int)) := C1.cell 0
   have s0 : W.cell? ⟨w.heap.size + 1 + 1 + 1, 0, none⟩ = some (.int .i64 0) := C3.cell 0
   have s1 := C3.frozen 0
   have HC2 := Lib.hid C2; have HC3 := Lib.hid C3; have HK := Lib.hid hK; have Hs := Lib.hid hs64
   have hkn' : (k : Int) < (n : Int) := by omega
   clear h1 h3 C0 C1 C2 C3 hK hs64 hview hrS hrow
   gi_wp2_with ((with_reducible show wpListIn _ _ _ _ _ (⟨some 34, _, _, _, _, _⟩ :: _) _ _); refine hold ?_)
   refine held (wpListIn_load_mid (by simp [Region.wanted]) 84 (.tmp 33) rfl bS (oS + k * 64) rfl (secv (d.secs.getD k [])) (.array 64 5) HrS.out Tryz.underlying84 rfl (by rw [secv_length, Hs.out]; kernel_rfl) ?_)
   gi_wp2_with ((with_reducible show wpListIn _ _ _ _ _ (⟨none, .store 84 _ _, _, _, _, _⟩ :: _) _ _); refine hold ?_)
   refine held (wpListIn_store_wide (by simp [Region.wanted]) 84 (.tmp 4) (.tmp 34) rfl (w.heap.size + 1 + 1) 0 (secv (d.secs.getD k [])).toArray rfl rfl 84 _ HC2.out (by simp only [List.size_toArray, secv_length, Hs.out]; simp [zsec]) (by simp only [List.size_toArray, secv_length, Hs.out]; kernel_rfl) (by simpa using secv_one _) ?_)
   intro w' hw2
   rw [splice_whole (by simp only [secv_length, Hs.out]; simp [zsec])] at hw2
   have e2 := hw2.out
   have D2 : Bk w' (w.heap.size + 1 + 1) 84 (secv (d.secs.getD k [])).toArray := by rw [e2]; exact HC2.out.setRow_same _
   have D3 : Bk w' (w.heap.size + 1 + 1 + 1) 28 #[.int .i64 0] := by rw [e2]; exact HC3.out.setRow_other (by omega) _
   have hK5 : w'.heap[D]? = some (.deferred (some [])) := (by rw [e2]; exact (keepsOthers_setRow _ _ 84 _ _ HC2.out).same D _ HK.out rfl)
   have hbb : Below w.heap.size w w' := by rw [e2]; exact below_setRow hbW (by omega) _
   clear e2 hw2 s0 s1 r0 p0
   have s0 : w'.cell? ⟨w.heap.size + 1 + 1 + 1, 0, none⟩ = some (.int .i64 0) := D3.cell 0
   have s1 := D3.frozen 0
   have HD2 := Lib.hid D2; have HD3 := Lib.hid D3; have HK5 := Lib.hid hK5; clear D2 D3 hK5
   gi_wp2
   have hKf := (KeepsOthers.setCell w' ⟨w.heap.size + 1 + 1 + 1, 0, none⟩ (.int .i64 0)).same D _ HK5.out rfl
   have hkp : ∀ r, some D = some r → ∃ o : Obj, (w'.setCell ⟨w.heap.size + 1 + 1 + 1, 0, none⟩ (.int .i64 0)).heap[r]? = some o ∧ o.isCells = false := fun r e => by cases e; exact ⟨_, hKf, rfl⟩
   have hgb := grownBy_putObj' (w'.setCell ⟨w.heap.size + 1 + 1 + 1, 0, none⟩ (.int .i64 0)) D (.deferred none)
   refine ⟨by simp, .inl ⟨_, _, rfl, run_takeDeferred hKf, ?_⟩⟩
   have hbf : Below w.heap.size w (w'.setCell ⟨w.heap.size + 1 + 1 + 1, 0, none⟩ (.int .i64 0)) := hbb.setCell (by show w.heap.size ≤ w.heap.size + 1 + 1 + 1; omega) _
   refine ⟨_, results_cells2 rfl _ _ ⟨w.heap.size + 1 + 1, 0, none⟩ ⟨w.heap.size + 1 + 1 + 1, 0, none⟩ _ _ rfl rfl (load_sec ((HD2.out.far (by simp) _).kept hgb hkp) Hs.out) (load_err ((HD3.out.put 0 _).kept hgb hkp)), ?_⟩
   refine ⟨?_, hbf.grown hgb hbf.size (fun k e => by cases e; have := hbw.size; omega)⟩
   show _ = Ending.returned (.tuple #[.agg (secv ((viewM d).getD k [])).toArray, .int .i64 0])
   rw [Hview.out]
  case stop =>
   rintro D c' pre W hD hpre ⟨rfl, pre0, x, hpe, h1, hx, h5, h6, h7⟩ hK
   have hview : (viewM d).getD k [] = x.val.2 := by
    unfold viewM
    rw [read_view _ _ (by rw [HN.out]; exact HLO.out) k (by rw [HN.out]; exact hkn)]
    refine rowM_hit _ _ (pre0.map Subtype.val) x.val k ?_ h1 hx
    rw [hpe] at hpre
    obtain ⟨r, hr⟩ := hpre
    refine ⟨r.map Subtype.val, ?_⟩
    rw [← HX.out, ← comeM_map, ← hr]
    simp
   have Hview := Lib.hid hview
   have H5 := Lib.hid h5; have H6 := Lib.hid h6; have H7 := Lib.hid h7; have HK := Lib.hid hK
   clear hview h5 h6 h7 hK hx h1 hpe hpre
   gi_wp2
   have hkp : ∀ r, some D = some r → ∃ o : Obj, W.heap[r]? = some o ∧ o.isCells = false := fun r e => by cases e; exact ⟨_, HK.out, rfl⟩
   have hgb := grownBy_putObj' W D (.deferred none)
   refine ⟨by simp, .inl ⟨_, _, rfl, run_takeDeferred HK.out, ?_⟩⟩
   refine ⟨_, results_cells2 rfl _ _ ⟨w.heap.size + 1 + 1, 0, none⟩ ⟨w.heap.size + 1 + 1 + 1, 0, none⟩ _ _ rfl rfl (load_sec (H5.out.kept hgb hkp) x.2.2) (load_err (H6.out.kept hgb hkp)), ?_⟩
   refine ⟨?_, H7.out.grown hgb H7.out.size (fun k e => by cases e; have := hbw.size; omega)⟩
   show _ = Ending.returned (.tuple #[.agg (secv ((viewM d).getD k [])).toArray, .int .i64 0])
   rw [Hview.out]
end Go.Proofs.YtcdehejgnnnimaaGreatDoor
namespace Go.Proofs.YtcdehejgnnnimaaGreatDoor
set_option linter.unusedVariables false
set_option linter.unusedSimpArgs false
open Go.RowKit
theorem DkRes.zero {w w' : World} {x : Dk × Int} {e : Ending} (h : DkRes w x e w') : ∃ A n c A' n' c', e = .returned (.tuple #[.agg #[.slice A n c, .slice A' n' c', .int .i64 x.1.fuse, .bool x.1.down], .int .i64 x.2]) ∧
 DkAt w' w'.heap.size (.agg #[.slice A n c, .slice A' n' c', .int .i64 x.1.fuse, .bool x.1.down]) x.1 ∧ Below w.heap.size w w' := by
 obtain ⟨v, he, hd, hb⟩ := h
 obtain ⟨A, n, c, A', n', c', rfl, h1⟩ := hd
 exact ⟨A, n, c, A', n', c', he, ⟨A, n, c, A', n', c', rfl, h1⟩, hb⟩
theorem Arr.box {w : World} {B k n : Nat} {A : Option Addr} {xs : List (List Value)} {b : Nat} {t : TypeId} {cs : Array Value} (h : Arr w B k A n xs) (hb : Bk w b t cs) (hs : cs.size < k) (i : Nat) (u : Value) : Arr (w.setCell ⟨b, i, none⟩ u) B k A n xs := by
 refine ⟨h.1, h.2.1, fun hn => ?_⟩
 obtain ⟨g, o, e, hg, hc⟩ := h.2.2 hn
 refine ⟨g, o, e, hg, fun j x hx => ?_⟩
 have hne : g ≠ b := by
  intro he
  subst he
  have hx0 : xs[0]? = some (xs[0]'(by rw [h.1]; exact hn)) := List.getElem?_eq_getElem _
  have hl := h.2.1 _ (List.getElem_mem (by rw [h.1]; exact hn : 0 < xs.length))
  have := hc 0 _ hx0 cs.size _ (List.getElem?_eq_getElem (by rw [hl]; exact hs))
  rw [hb.cell] at this
  have hlt : o + 0 * k + cs.size < cs.size := by
   rcases Nat.lt_or_ge (o + 0 * k + cs.size) cs.size with h1 | h1
   ·exact h1
   ·rw [Array.getElem?_eq_none h1] at this; cases this
  omega
 exact rangeAt_keep (hc j x hx) (fun p hp => World.cell?_setCell_other w ⟨b, i, none⟩ p u (fun e => hne (by rw [← hp, ← e])))
theorem DkAt.box {w : World} {B : Nat} {v : Value} {d : Dk} {b : Nat} {t : TypeId} {cs : Array Value} (h : DkAt w B v d) (hb : Bk w b t cs) (hs : cs.size < 64) (i : Nat) (u : Value) : DkAt (w.setCell ⟨b, i, none⟩ u) B v d := by
 obtain ⟨A, n, c, A', n', c', e, h1, h2, h3, h4, h5, h6⟩ := h
 exact ⟨A, n, c, A', n', c', e, h1, h2, h3, h4, h5.box hb hs i u, h6.box hb (by omega) i u⟩
def stored4 (w : World) (b : Nat) (a0 a1 a2 a3 : Value) : World := (((w.setCell ⟨b, 0, none⟩ a0).setCell ⟨b, 1, none⟩ a1).setCell ⟨b, 2, none⟩ a2).setCell ⟨b, 3, none⟩ a3
theorem stored4_facts {w : World} {b : Nat} {t : TypeId} {u0 u1 u2 u3 : Value} (h : Bk w b t #[u0, u1, u2, u3]) (a0 a1 a2 a3 : Value) :
 Bk (stored4 w b a0 a1 a2 a3) b t #[a0, a1, a2, a3] ∧ (∀ v d, DkAt w w.heap.size v d → DkAt (stored4 w b a0 a1 a2 a3) (stored4 w b a0 a1 a2 a3).heap.size v d) ∧
 (∀ B w0, Below B w0 w → B ≤ b → Below B w0 (stored4 w b a0 a1 a2 a3)) ∧ (∀ g t' cs, g ≠ b → Bk w g t' cs → Bk (stored4 w b a0 a1 a2 a3) g t' cs) := by
 unfold stored4
 have h1 := h.put 0 a0
 have h2 := h1.put 1 a1
 have h3 := h2.put 2 a2
 have h4 := h3.put 3 a3
 refine ⟨by simpa using h4, fun v d hd => ?_, fun B w0 hb hB => (((hb.setCell hB a0).setCell hB a1).setCell hB a2).setCell hB a3, fun g t' cs hg hB => (((hB.far hg a0).far hg a1).far hg a2).far hg a3⟩
 have := (((hd.box h (by simp) 0 a0).box h1 (by simp) 1 a1).box h2 (by simp) 2 a2).box h3 (by simp) 3 a3
 simpa using this
theorem read_any (v : Value) (d : Dk) (a : Int) (w : World) (hd : DkAt w w.heap.size v d) : Calls Tryz.prog 106 #[v, .int .i64 a] w (SecRes w (readM d a)) := by
 unfold readM
 by_cases h : (rightB d && thereB d.secs.length a) = true
 ·rw [if_pos h]
  by_cases hdn : d.down = true
  ·rw [if_pos hdn]; exact read_down v d a w hd h hdn
  ·rw [if_neg hdn]
   have h2 : thereB d.secs.length a = true := by simp at h; exact h.2
   obtain ⟨k, rfl⟩ : ∃ k : Nat, a = (k : Int) := Int.eq_ofNat_of_zero_le (by simp [thereB] at h2; exact h2.1)
   rw [Int.toNat_natCast]
   exact read_ok v d k w hd h (by simpa using hdn)
 ·rw [if_neg h]; exact read_no v d a w hd (by simpa using h)
end Go.Proofs.YtcdehejgnnnimaaGreatDoor
namespace Go.Proofs.YtcdehejgnnnimaaGreatDoor
set_option linter.unusedVariables false
set_option linter.unusedSimpArgs false
open Go.RowKit
theorem doneM_snoc (st : Nat → Bool) (x : Int × List Int) : ∀ (l : List (Int × List Int)) (i : Nat) (ss : List (List Int)), doneM st i ss (l ++ [x]) = if st (i + l.length) then (doneM st i ss l).set x.1.toNat x.2 else doneM st i ss l
 | [], i, ss => by simp [doneM]
 | y :: r, i, ss => by
   simp only [List.cons_append, doneM]
   rw [doneM_snoc st x r (i + 1)]
   have e : i + 1 + r.length = i + (y :: r).length := by simp; omega
   rw [e]
theorem readM_up {d : Dk} {a : Int} (h1 : rightB d = true) (h2 : thereB d.secs.length a = true) (h3 : d.down = false) : readM d a = ((viewM d).getD a.toNat [], 0) := by
 unfold readM
 rw [if_pos (by rw [h1, h2]; rfl), if_neg (by rw [h3]; simp)]
theorem DkAt.lens {w : World} {B : Nat} {v : Value} {d : Dk} (h : DkAt w B v d) : (∀ s ∈ d.secs, s.length = 64) ∧ ∀ x ∈ d.loose, x.2.length = 64 := by
 obtain ⟨A, n, c, A', n', c', _, _, _, _, _, h5, h6⟩ := h
 exact ⟨fun s hs => by simpa [secv_length] using h5.2.1 _ (List.mem_map.2 ⟨s, hs, rfl⟩), fun x hx => by simpa [wrv_length] using h6.2.1 _ (List.mem_map.2 ⟨x, hx, rfl⟩)⟩
theorem doneM_lens (st : Nat → Bool) : ∀ (l : List (Int × List Int)) (i : Nat) (ss : List (List Int)), (∀ s ∈ ss, s.length = 64) → (∀ x ∈ l, x.2.length = 64) → ∀ s ∈ doneM st i ss l, s.length = 64
 | [], _, _, hs, _ => hs
 | x :: r, i, ss, hs, hl => by
   unfold doneM
   refine doneM_lens st r (i + 1) _ ?_ (fun y hy => hl y (by simp [hy]))
   split
   ·intro s h
    rcases List.mem_or_eq_of_mem_set h with h | h
    ·exact hs s h
    ·rw [h]; exact hl x (by simp)
   ·exact hs
theorem readM_len {d : Dk} (a : Int) (hs : ∀ s ∈ d.secs, s.length = 64) (hl : ∀ x ∈ d.loose, x.2.length = 64) : (readM d a).1.length = 64 := by
 unfold readM
 split
 ·split
  ·simp
  ·rename_i h _
   obtain ⟨_, h2⟩ : rightB d = true ∧ thereB d.secs.length a = true := by simpa using h
   obtain ⟨k, rfl⟩ : ∃ k : Nat, a = (k : Int) := Int.eq_ofNat_of_zero_le (by simp [thereB] at h2; exact h2.1)
   have hk : k < (viewM d).length := by unfold viewM; rw [doneM_length]; simp [thereB] at h2; exact h2
   have := doneM_lens (fun _ => true) d.loose 0 d.secs hs hl ((viewM d).getD k []) (by rw [List.getD_eq_getElem?_getD, List.getElem?_eq_getElem hk]; exact List.getElem_mem hk)
   simpa using this
 ·simp
end Go.Proofs.YtcdehejgnnnimaaGreatDoor
