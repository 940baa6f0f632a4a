/-
  A walk over package sector: what Read answers, of any disk and any place. It leaves all older memory as it was.
-/
import Derived.Test.YtfejnfohbagnkaaSecStart
namespace Go.Proofs.Ytfejnfohbagnkaa
open Go.RowKit Go.Shelf

attribute [local go_sem] Oper.semAt_some

theorem results_cells2 {P : Program} {fn : Func} {p q : Tmp} {t1 t2 : TypeId} (h : fn.results = #[.cell p t1, .cell q t2]) (tmps : Array Value) (w : World) (a1 a2 : Addr) (v1 v2 : Value)
    (hp : tmps.getD p undef = .pointer (some a1)) (hq : tmps.getD q undef = .pointer (some a2)) (h1 : (loadVar t1 a1).run P w = .ok v1 w) (h2 : (loadVar t2 a2).run P w = .ok v2 w) :
    (results fn tmps).run P w = .ok (.tuple #[v1, v2]) w := by
  have hp' : tmps[p]?.getD undef = .pointer (some a1) := by simpa using hp
  have hq' : tmps[q]?.getD undef = .pointer (some a2) := by simpa using hq
  simp [results, h, hp', hq', asAddr, h1, h2]

/-- what a call that answers a sector says -/
def SecRes (w : World) (x : List Int × Int) (e : Ending) (w' : World) : Prop :=
  e = .returned (.tuple #[.agg (secv x.1).toArray, .int .i64 x.2]) ∧ Below w.heap.size w w'

theorem load_sec {w : World} {b : Nat} {s : List Int} (h : Bk w b 28 (secv s).toArray) (hs : s.length = 64) : (loadVar 28 ⟨b, 0, none⟩).run Try.prog w = .ok (.agg (secv s).toArray) w :=
  run_loadVar_mid w b 0 28 (secv s) (.array 64 5) (fun j v hv => by rw [h.cell, Nat.zero_add]; simpa using hv) Try.underlying28 rfl (by rw [secv_length, hs]; exact size_sec)
theorem load_err {w : World} {b : Nat} {z : Int} (h : Bk w b 29 #[.int .i64 z]) : (loadVar 29 ⟨b, 0, none⟩).run Try.prog w = .ok (.int .i64 z) w := by
  have := h.cell 0
  simp [go_sem, this]

theorem built_zsec : Try.prog.built 28 [] = some (secv zsec).toArray := by kernel_rfl
theorem splice_whole {x y : List Value} (h : y.length = x.length) : splice x 0 y = y := by
  simp only [splice, List.take_zero, List.nil_append, Nat.zero_add]
  rw [List.drop_eq_nil_of_le (by omega), List.append_nil]

set_option maxRecDepth 100000 in
set_option maxHeartbeats 1000000 in
/-- Read, the disk or the place being none -/
theorem read_no (v : Value) (d : Dk) (a : Int) (w : World) (hd : DkAt w w.heap.size v d) (h : (rightB d && thereB d.secs.length a) = false) :
    Calls Try.prog 11 #[v, .int .i64 a] w (SecRes w (zsec, 1)) := by
  have hdW := fun W => hd.later (W := W)
  obtain ⟨A, n, c, A', n', c', rfl, hnc, hnc', hc, hc', hS, hL⟩ := hd
  have hn : n = d.secs.length := by have := hS.1; simpa using this.symm
  rw [← hn] at h
  have HS := Lib.hid hS; have HL := Lib.hid hL; clear hS hL
  have Hd := Lib.hid hdW; clear hdW
  have HN := Lib.hid hn; clear hn
  have hcc : n ≤ maxLen := by omega
  by_cases hr : rightB d = true
  · have ht : thereB n a = false := by simpa [hr] using h
    clear h
    go_enter Try.func11, Try.ntmps11
    go_wp2_with ((with_reducible show wpList _ _ _ (⟨_, .alloc 28, _, _, _, _⟩ :: _) _ _); refine hold ?_)
    refine held (wpList_alloc_to rfl 28 rfl (secv zsec).toArray (by kernel_rfl) ?_)
    go_wp2_with fail
    refine (right_any _ d _ ?hd).mono ?_
    case hd => exact Hd.out _ (by repeat (first | with_reducible exact Below.refl _ _ | (refine Below.alloc ?_ (by first | omega | (simp; done) | (simp; omega)) _)))
    rintro e w1 ⟨rfl, hb1⟩
    have B0 : Bk w1 w.heap.size 25 #[.slice A n c, .slice A' n' c', .int .i64 d.fuse, .bool d.down] := Bk.below (by exact (((Bk.new _ _ _).alloc _).alloc _).alloc _) hb1 (by simp only [World.size_alloc]; omega)
    have B1 : Bk w1 (w.heap.size + 1) 3 #[.int .i64 a] := Bk.below (by exact ((Bk.new2 _ _ _ _).alloc _).alloc _) hb1 (by simp only [World.size_alloc]; omega)
    have B2 : Bk w1 (w.heap.size + 1 + 1) 28 (secv zsec).toArray := Bk.below (by exact (Bk.new3 _ _ _ _ _).alloc _) hb1 (by simp only [World.size_alloc]; omega)
    have B3 : Bk w1 (w.heap.size + 1 + 1 + 1) 29 #[.int .i64 0] := Bk.below (by exact Bk.new4 _ _ _ _ _ _) hb1 (by simp only [World.size_alloc]; omega)
    have hb : Below w.heap.size w w1 := (((((Below.refl _ _).alloc (Nat.le_refl _) _).alloc (by simp) _).alloc (by simp only [World.size_alloc]; omega) _).alloc (by simp only [World.size_alloc]; omega) _).trans (hb1.mono (by simp only [World.size_alloc]; omega))
    clear hb1
    obtain ⟨⟨p0, p1, p2, p3⟩, q0, q1, q2, q3⟩ := B0.four
    have r0 := B1.cell 0
    have s0 := B3.cell 0
    have s1 := B3.frozen 0
    simp only [List.getElem?_toArray, List.getElem?_cons_zero] at r0 s0
    have HB0 := Lib.hid B0; have HB1 := Lib.hid B1; have HB2 := Lib.hid B2; have HB3 := Lib.hid B3; clear B0 B1 B2 B3
    go_wp2_with fail
    refine (isThere_any _ _ _ _ _ _ _ _ _ _ (by omega)).mono ?_
    rintro e w2 ⟨rfl, hb2⟩
    clear p0 p1 p2 p3 q0 q1 q2 q3 r0 s0 s1
    have B0 := HB0.out.below hb2 HB0.out.lt
    have B1 := HB1.out.below hb2 HB1.out.lt
    have B2 := HB2.out.below hb2 HB2.out.lt
    have B3 := HB3.out.below hb2 HB3.out.lt
    replace hb := hb.trans (hb2.mono hb.size)
    clear hb2 HB0 HB1 HB2 HB3
    obtain ⟨⟨p0, p1, p2, p3⟩, q0, q1, q2, q3⟩ := B0.four
    have r0 := B1.cell 0
    have s0 := B3.cell 0
    have s1 := B3.frozen 0
    simp only [List.getElem?_toArray, List.getElem?_cons_zero] at r0 s0
    have HB0 := Lib.hid B0; have HB1 := Lib.hid B1; have HB2 := Lib.hid B2; have HB3 := Lib.hid B3; clear B0 B1 B2 B3
    go_wp2_with ((with_reducible show wpList _ _ _ (⟨some 16, _, _, _, _, _⟩ :: _) _ _); refine hold ?_)
    refine held (wpList_build_to rfl 28 #[] rfl [] rfl (secv zsec).toArray built_zsec ?_)
    go_wp2_with ((with_reducible show wpList _ _ _ (⟨none, .store 28 _ _, _, _, _, _⟩ :: _) _ _); refine hold ?_)
    refine held (wpList_store_wide rfl 28 (.tmp 4) (.tmp 16) rfl (w.heap.size + 1 + 1) 0 (secv zsec).toArray rfl rfl 28 _ HB2.out (by simp) (by kernel_rfl) (by simpa using secv_one zsec) ?_)
    intro w5 hw5
    rw [splice_whole rfl] at hw5
    have e5 := hw5.out
    clear hw5
    have C2 : Bk w5 (w.heap.size + 1 + 1) 28 (secv zsec).toArray := by rw [e5]; exact HB2.out.setRow_same _
    have C3 : Bk w5 (w.heap.size + 1 + 1 + 1) 29 #[.int .i64 0] := by rw [e5]; exact HB3.out.setRow_other (by omega) _
    have hb5 : Below w.heap.size w w5 := by rw [e5]; exact below_setRow hb (by omega) _
    clear e5 p0 p1 p2 p3 q0 q1 q2 q3 r0 s0 s1 HB0 HB1 HB2 HB3 hb
    have s0 := C3.cell 0
    have s1 := C3.frozen 0
    simp only [List.getElem?_toArray, List.getElem?_cons_zero] at s0
    have HC2 := Lib.hid C2; have HC3 := Lib.hid C3; clear C2 C3
    go_wp2
    refine bodyPost_ret (v := .tuple #[.agg (secv zsec).toArray, .int .i64 1]) ?_ rfl ⟨rfl, hb5.setCell (by show _ ≤ w.heap.size + 1 + 1 + 1; omega) _⟩
    exact results_cells2 rfl _ _ ⟨w.heap.size + 1 + 1, 0, none⟩ ⟨w.heap.size + 1 + 1 + 1, 0, none⟩ _ _ rfl rfl (load_sec (HC2.out.far (by simp) _) rfl) (load_err (HC3.out.put 0 _))
  · have hr' : rightB d = false := by simpa using hr
    clear h hr
    go_enter Try.func11, Try.ntmps11
    go_wp2_with ((with_reducible show wpList _ _ _ (⟨_, .alloc 28, _, _, _, _⟩ :: _) _ _); refine hold ?_)
    refine held (wpList_alloc_to rfl 28 rfl (secv zsec).toArray (by kernel_rfl) ?_)
    go_wp2_with fail
    refine (right_any _ d _ ?hd).mono ?_
    case hd => exact Hd.out _ (by repeat (first | with_reducible exact Below.refl _ _ | (refine Below.alloc ?_ (by first | omega | (simp; done) | (simp; omega)) _)))
    rintro e w1 ⟨rfl, hb1⟩
    have B0 : Bk w1 w.heap.size 25 #[.slice A n c, .slice A' n' c', .int .i64 d.fuse, .bool d.down] := Bk.below (by exact (((Bk.new _ _ _).alloc _).alloc _).alloc _) hb1 (by simp only [World.size_alloc]; omega)
    have B1 : Bk w1 (w.heap.size + 1) 3 #[.int .i64 a] := Bk.below (by exact ((Bk.new2 _ _ _ _).alloc _).alloc _) hb1 (by simp only [World.size_alloc]; omega)
    have B2 : Bk w1 (w.heap.size + 1 + 1) 28 (secv zsec).toArray := Bk.below (by exact (Bk.new3 _ _ _ _ _).alloc _) hb1 (by simp only [World.size_alloc]; omega)
    have B3 : Bk w1 (w.heap.size + 1 + 1 + 1) 29 #[.int .i64 0] := Bk.below (by exact Bk.new4 _ _ _ _ _ _) hb1 (by simp only [World.size_alloc]; omega)
    have hb : Below w.heap.size w w1 := (((((Below.refl _ _).alloc (Nat.le_refl _) _).alloc (by simp) _).alloc (by simp only [World.size_alloc]; omega) _).alloc (by simp only [World.size_alloc]; omega) _).trans (hb1.mono (by simp only [World.size_alloc]; omega))
    clear hb1
    obtain ⟨⟨p0, p1, p2, p3⟩, q0, q1, q2, q3⟩ := B0.four
    have r0 := B1.cell 0
    have s0 := B3.cell 0
    have s1 := B3.frozen 0
    simp only [List.getElem?_toArray, List.getElem?_cons_zero] at r0 s0
    have HB0 := Lib.hid B0; have HB1 := Lib.hid B1; have HB2 := Lib.hid B2; have HB3 := Lib.hid B3; clear B0 B1 B2 B3
    go_wp2_with ((with_reducible show wpList _ _ _ (⟨some 16, _, _, _, _, _⟩ :: _) _ _); refine hold ?_)
    refine held (wpList_build_to rfl 28 #[] rfl [] rfl (secv zsec).toArray built_zsec ?_)
    go_wp2_with ((with_reducible show wpList _ _ _ (⟨none, .store 28 _ _, _, _, _, _⟩ :: _) _ _); refine hold ?_)
    refine held (wpList_store_wide rfl 28 (.tmp 4) (.tmp 16) rfl (w.heap.size + 1 + 1) 0 (secv zsec).toArray rfl rfl 28 _ HB2.out (by simp) (by kernel_rfl) (by simpa using secv_one zsec) ?_)
    intro w5 hw5
    rw [splice_whole rfl] at hw5
    have e5 := hw5.out
    clear hw5
    have C2 : Bk w5 (w.heap.size + 1 + 1) 28 (secv zsec).toArray := by rw [e5]; exact HB2.out.setRow_same _
    have C3 : Bk w5 (w.heap.size + 1 + 1 + 1) 29 #[.int .i64 0] := by rw [e5]; exact HB3.out.setRow_other (by omega) _
    have hb5 : Below w.heap.size w w5 := by rw [e5]; exact below_setRow hb (by omega) _
    clear e5 p0 p1 p2 p3 q0 q1 q2 q3 r0 s0 s1 HB0 HB1 HB2 HB3 hb
    have s0 := C3.cell 0
    have s1 := C3.frozen 0
    simp only [List.getElem?_toArray, List.getElem?_cons_zero] at s0
    have HC2 := Lib.hid C2; have HC3 := Lib.hid C3; clear C2 C3
    go_wp2
    refine bodyPost_ret (v := .tuple #[.agg (secv zsec).toArray, .int .i64 1]) ?_ rfl ⟨rfl, hb5.setCell (by show _ ≤ w.heap.size + 1 + 1 + 1; omega) _⟩
    exact results_cells2 rfl _ _ ⟨w.heap.size + 1 + 1, 0, none⟩ ⟨w.heap.size + 1 + 1 + 1, 0, none⟩ _ _ rfl rfl (load_sec (HC2.out.far (by simp) _) rfl) (load_err (HC3.out.put 0 _))

set_option maxRecDepth 100000 in
set_option maxHeartbeats 1000000 in
/-- Read, the disk being down -/
theorem read_down (v : Value) (d : Dk) (a : Int) (w : World) (hd : DkAt w w.heap.size v d) (h : (rightB d && thereB d.secs.length a) = true) (hdn : d.down = true) :
    Calls Try.prog 11 #[v, .int .i64 a] w (SecRes w (zsec, 9)) := by
  have hdW := fun W => hd.later (W := W)
  obtain ⟨A, n, c, A', n', c', rfl, hnc, hnc', hc, hc', hS, hL⟩ := hd
  have hn : n = d.secs.length := by have := hS.1; simpa using this.symm
  rw [← hn] at h
  have HS := Lib.hid hS; have HL := Lib.hid hL; clear hS hL
  have Hd := Lib.hid hdW; clear hdW
  have HN := Lib.hid hn; clear hn
  have hcc : n ≤ maxLen := by omega
  have Hdn := Lib.hid hdn; clear hdn
  obtain ⟨hr, ht⟩ : rightB d = true ∧ thereB n a = true := by simpa using h
  clear h
  go_enter Try.func11, Try.ntmps11
  go_wp2_with ((with_reducible show wpList _ _ _ (⟨_, .alloc 28, _, _, _, _⟩ :: _) _ _); refine hold ?_)
  refine held (wpList_alloc_to rfl 28 rfl (secv zsec).toArray (by kernel_rfl) ?_)
  go_wp2_with fail
  refine (right_any _ d _ ?hd).mono ?_
  case hd => exact Hd.out _ (by repeat (first | with_reducible exact Below.refl _ _ | (refine Below.alloc ?_ (by first | omega | (simp; done) | (simp; omega)) _)))
  rintro e w1 ⟨rfl, hb1⟩
  have B0 : Bk w1 w.heap.size 25 #[.slice A n c, .slice A' n' c', .int .i64 d.fuse, .bool d.down] := Bk.below (by exact (((Bk.new _ _ _).alloc _).alloc _).alloc _) hb1 (by simp only [World.size_alloc]; omega)
  have B1 : Bk w1 (w.heap.size + 1) 3 #[.int .i64 a] := Bk.below (by exact ((Bk.new2 _ _ _ _).alloc _).alloc _) hb1 (by simp only [World.size_alloc]; omega)
  have B2 : Bk w1 (w.heap.size + 1 + 1) 28 (secv zsec).toArray := Bk.below (by exact (Bk.new3 _ _ _ _ _).alloc _) hb1 (by simp only [World.size_alloc]; omega)
  have B3 : Bk w1 (w.heap.size + 1 + 1 + 1) 29 #[.int .i64 0] := Bk.below (by exact Bk.new4 _ _ _ _ _ _) hb1 (by simp only [World.size_alloc]; omega)
  have hb : Below w.heap.size w w1 := (((((Below.refl _ _).alloc (Nat.le_refl _) _).alloc (by simp) _).alloc (by simp only [World.size_alloc]; omega) _).alloc (by simp only [World.size_alloc]; omega) _).trans (hb1.mono (by simp only [World.size_alloc]; omega))
  clear hb1
  obtain ⟨⟨p0, p1, p2, p3⟩, q0, q1, q2, q3⟩ := B0.four
  have r0 := B1.cell 0
  have s0 := B3.cell 0
  have s1 := B3.frozen 0
  simp only [List.getElem?_toArray, List.getElem?_cons_zero] at r0 s0
  have HB0 := Lib.hid B0; have HB1 := Lib.hid B1; have HB2 := Lib.hid B2; have HB3 := Lib.hid B3; clear B0 B1 B2 B3
  go_wp2_with fail
  refine (isThere_any _ _ _ _ _ _ _ _ _ _ (by omega)).mono ?_
  rintro e w2 ⟨rfl, hb2⟩
  clear p0 p1 p2 p3 q0 q1 q2 q3 r0 s0 s1
  have B0 := HB0.out.below hb2 HB0.out.lt
  have B1 := HB1.out.below hb2 HB1.out.lt
  have B2 := HB2.out.below hb2 HB2.out.lt
  have B3 := HB3.out.below hb2 HB3.out.lt
  replace hb := hb.trans (hb2.mono hb.size)
  clear hb2 HB0 HB1 HB2 HB3
  obtain ⟨⟨p0, p1, p2, p3⟩, q0, q1, q2, q3⟩ := B0.four
  have r0 := B1.cell 0
  have s0 := B3.cell 0
  have s1 := B3.frozen 0
  simp only [List.getElem?_toArray, List.getElem?_cons_zero] at r0 s0
  have HB0 := Lib.hid B0; have HB1 := Lib.hid B1; have HB2 := Lib.hid B2; have HB3 := Lib.hid B3; clear B0 B1 B2 B3
  rw [Hdn.out] at p3
  go_wp2_with ((with_reducible show wpList _ _ _ (⟨some 19, _, _, _, _, _⟩ :: _) _ _); refine hold ?_)
  refine held (wpList_build_to rfl 28 #[] rfl [] rfl (secv zsec).toArray built_zsec ?_)
  go_wp2_with ((with_reducible show wpList _ _ _ (⟨none, .store 28 _ _, _, _, _, _⟩ :: _) _ _); refine hold ?_)
  refine held (wpList_store_wide rfl 28 (.tmp 4) (.tmp 19) rfl (w.heap.size + 1 + 1) 0 (secv zsec).toArray rfl rfl 28 _ HB2.out (by simp) (by kernel_rfl) (by simpa using secv_one zsec) ?_)
  intro w5 hw5
  rw [splice_whole rfl] at hw5
  have e5 := hw5.out
  clear hw5
  have C2 : Bk w5 (w.heap.size + 1 + 1) 28 (secv zsec).toArray := by rw [e5]; exact HB2.out.setRow_same _
  have C3 : Bk w5 (w.heap.size + 1 + 1 + 1) 29 #[.int .i64 0] := by rw [e5]; exact HB3.out.setRow_other (by omega) _
  have hb5 : Below w.heap.size w w5 := by rw [e5]; exact below_setRow hb (by omega) _
  clear e5 p0 p1 p2 p3 q0 q1 q2 q3 r0 s0 s1 HB0 HB1 HB2 HB3 hb
  have s0 := C3.cell 0
  have s1 := C3.frozen 0
  simp only [List.getElem?_toArray, List.getElem?_cons_zero] at s0
  have HC2 := Lib.hid C2; have HC3 := Lib.hid C3; clear C2 C3
  go_wp2
  refine bodyPost_ret (v := .tuple #[.agg (secv zsec).toArray, .int .i64 9]) ?_ rfl ⟨rfl, hb5.setCell (by show _ ≤ w.heap.size + 1 + 1 + 1; omega) _⟩
  exact results_cells2 rfl _ _ ⟨w.heap.size + 1 + 1, 0, none⟩ ⟨w.heap.size + 1 + 1 + 1, 0, none⟩ _ _ rfl rfl (load_sec (HC2.out.far (by simp) _) rfl) (load_err (HC3.out.put 0 _))
end Go.Proofs.Ytfejnfohbagnkaa
