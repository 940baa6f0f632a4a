/-
  A walk over package sector: what Read answers, of any disk and any place. It leaves all older memory as it was.
-/
import Derived.Test.YtofbpkaebngnlaaDoorQSecFlush
import Derived.Deep.WholeRow
namespace Go.Proofs.YtofbpkaebngnlaaDoor
set_option linter.unusedVariables false
set_option linter.unusedSimpArgs false
open Go.RowKit Go.Shelf

attribute [local go_sem] Oper.semAt_some

theorem results_cells2 {P : Program} {fn : Func} {p q : Tmp} {t1 t2 : TypeId} (h : fn.results = #[.cell p t1, .cell q t2]) (tmps : Array Value) (w : World) (a1 a2 : Addr) (v1 v2 : Value)
    (hp : tmps.getD p undef = .pointer (some a1)) (hq : tmps.getD q undef = .pointer (some a2)) (h1 : (loadVar t1 a1).run P w = .ok v1 w) (h2 : (loadVar t2 a2).run P w = .ok v2 w) :
    (results fn tmps).run P w = .ok (.tuple #[v1, v2]) w := by
  have hp' : tmps[p]?.getD undef = .pointer (some a1) := by simpa using hp
  have hq' : tmps[q]?.getD undef = .pointer (some a2) := by simpa using hq
  simp [results, h, hp', hq', asAddr, h1, h2]

/-- what a call that answers a sector says -/
def SecRes (w : World) (x : List Int × Int) (e : Ending) (w' : World) : Prop :=
  e = .returned (.tuple #[.agg (secv x.1).toArray, .int .i64 x.2]) ∧ Below w.heap.size w w'

theorem load_sec {w : World} {b : Nat} {s : List Int} (h : Bk w b 58 (secv s).toArray) (hs : s.length = 64) : (loadVar 58 ⟨b, 0, none⟩).run Tryd.prog w = .ok (.agg (secv s).toArray) w :=
  run_loadVar_mid w b 0 58 (secv s) (.array 64 5) (fun j v hv => by rw [h.cell, Nat.zero_add]; simpa using hv) Tryd.underlying58 rfl (by rw [secv_length, hs]; exact size_sec)
theorem load_err {w : World} {b : Nat} {z : Int} (h : Bk w b 29 #[.int .i64 z]) : (loadVar 29 ⟨b, 0, none⟩).run Tryd.prog w = .ok (.int .i64 z) w := by
  have := h.cell 0
  simp [go_sem, this]

theorem built_zsec : Tryd.prog.built 58 [] = some (secv zsec).toArray := by kernel_rfl
theorem splice_whole {x y : List Value} (h : y.length = x.length) : splice x 0 y = y := by
  simp only [splice, List.take_zero, List.nil_append, Nat.zero_add]
  rw [List.drop_eq_nil_of_le (by omega), List.append_nil]

set_option maxRecDepth 100000 in
set_option maxHeartbeats 1000000 in
/-- Read, the disk or the place being none -/
theorem read_no (v : Value) (d : Dk) (a : Int) (w : World) (hd : DkAt w w.heap.size v d) (h : (rightB d && thereB d.secs.length a) = false) :
    Calls Tryd.prog 59 #[v, .int .i64 a] w (SecRes w (zsec, 1)) := by
  have hdW := fun W => hd.later (W := W)
  obtain ⟨A, n, c, A', n', c', rfl, hnc, hnc', hc, hc', hS, hL⟩ := hd
  have hn : n = d.secs.length := by have := hS.1; simpa using this.symm
  rw [← hn] at h
  have HS := Lib.hid hS; have HL := Lib.hid hL; clear hS hL
  have Hd := Lib.hid hdW; clear hdW
  have HN := Lib.hid hn; clear hn
  have hcc : n ≤ maxLen := by omega
  by_cases hr : rightB d = true
  · have ht : thereB n a = false := by simpa [hr] using h
    clear h
    go_enter Tryd.func59, Tryd.ntmps59
    go_wp2_with ((with_reducible show wpList _ _ _ (⟨_, .alloc 58, _, _, _, _⟩ :: _) _ _); refine hold ?_)
    refine held (wpList_alloc_to rfl 58 rfl (secv zsec).toArray (by kernel_rfl) ?_)
    go_wp2_with fail
    refine (right_any _ d _ ?hd).mono ?_
    case hd => exact Hd.out _ (by repeat (first | with_reducible exact Below.refl _ _ | (refine Below.alloc ?_ (by first | omega | (simp; done) | (simp; omega)) _)))
    rintro e w1 ⟨rfl, hb1⟩
    have B0 : Bk w1 w.heap.size 28 #[.slice A n c, .slice A' n' c', .int .i64 d.fuse, .bool d.down] := Bk.below (by exact (((Bk.new _ _ _).alloc _).alloc _).alloc _) hb1 (by simp only [World.size_alloc]; omega)
    have B1 : Bk w1 (w.heap.size + 1) 3 #[.int .i64 a] := Bk.below (by exact ((Bk.new2 _ _ _ _).alloc _).alloc _) hb1 (by simp only [World.size_alloc]; omega)
    have B2 : Bk w1 (w.heap.size + 1 + 1) 58 (secv zsec).toArray := Bk.below (by exact (Bk.new3 _ _ _ _ _).alloc _) hb1 (by simp only [World.size_alloc]; omega)
    have B3 : Bk w1 (w.heap.size + 1 + 1 + 1) 29 #[.int .i64 0] := Bk.below (by exact Bk.new4 _ _ _ _ _ _) hb1 (by simp only [World.size_alloc]; omega)
    have hb : Below w.heap.size w w1 := (((((Below.refl _ _).alloc (Nat.le_refl _) _).alloc (by simp) _).alloc (by simp only [World.size_alloc]; omega) _).alloc (by simp only [World.size_alloc]; omega) _).trans (hb1.mono (by simp only [World.size_alloc]; omega))
    clear hb1
    obtain ⟨⟨p0, p1, p2, p3⟩, q0, q1, q2, q3⟩ := B0.four
    have r0 := B1.cell 0
    have s0 := B3.cell 0
    have s1 := B3.frozen 0
    simp only [List.getElem?_toArray, List.getElem?_cons_zero] at r0 s0
    have HB0 := Lib.hid B0; have HB1 := Lib.hid B1; have HB2 := Lib.hid B2; have HB3 := Lib.hid B3; clear B0 B1 B2 B3
    go_wp2_with fail
    refine (isThere_any _ _ _ _ _ _ _ _ _ _ (by omega)).mono ?_
    rintro e w2 ⟨rfl, hb2⟩
    clear p0 p1 p2 p3 q0 q1 q2 q3 r0 s0 s1
    have B0 := HB0.out.below hb2 HB0.out.lt
    have B1 := HB1.out.below hb2 HB1.out.lt
    have B2 := HB2.out.below hb2 HB2.out.lt
    have B3 := HB3.out.below hb2 HB3.out.lt
    replace hb := hb.trans (hb2.mono hb.size)
    clear hb2 HB0 HB1 HB2 HB3
    obtain ⟨⟨p0, p1, p2, p3⟩, q0, q1, q2, q3⟩ := B0.four
    have r0 := B1.cell 0
    have s0 := B3.cell 0
    have s1 := B3.frozen 0
    simp only [List.getElem?_toArray, List.getElem?_cons_zero] at r0 s0
    have HB0 := Lib.hid B0; have HB1 := Lib.hid B1; have HB2 := Lib.hid B2; have HB3 := Lib.hid B3; clear B0 B1 B2 B3
    go_wp2_with ((with_reducible show wpList _ _ _ (⟨some 16, _, _, _, _, _⟩ :: _) _ _); refine hold ?_)
    refine held (wpList_build_to rfl 58 #[] rfl [] rfl (secv zsec).toArray built_zsec ?_)
    go_wp2_with ((with_reducible show wpList _ _ _ (⟨none, .store 58 _ _, _, _, _, _⟩ :: _) _ _); refine hold ?_)
    refine held (wpList_store_wide rfl 58 (.tmp 4) (.tmp 16) rfl (w.heap.size + 1 + 1) 0 (secv zsec).toArray rfl rfl 58 _ HB2.out (by simp) (by kernel_rfl) (by simpa using secv_one zsec) ?_)
    intro w5 hw5
    rw [splice_whole rfl] at hw5
    have e5 := hw5.out
    clear hw5
    have C2 : Bk w5 (w.heap.size + 1 + 1) 58 (secv zsec).toArray := by rw [e5]; exact HB2.out.setRow_same _
    have C3 : Bk w5 (w.heap.size + 1 + 1 + 1) 29 #[.int .i64 0] := by rw [e5]; exact HB3.out.setRow_other (by omega) _
    have hb5 : Below w.heap.size w w5 := by rw [e5]; exact below_setRow hb (by omega) _
    clear e5 p0 p1 p2 p3 q0 q1 q2 q3 r0 s0 s1 HB0 HB1 HB2 HB3 hb
    have s0 := C3.cell 0
    have s1 := C3.frozen 0
    simp only [List.getElem?_toArray, List.getElem?_cons_zero] at s0
    have HC2 := Lib.hid C2; have HC3 := Lib.hid C3; clear C2 C3
    go_wp2
    refine bodyPost_ret (v := .tuple #[.agg (secv zsec).toArray, .int .i64 1]) ?_ rfl ⟨rfl, hb5.setCell (by show _ ≤ w.heap.size + 1 + 1 + 1; omega) _⟩
    exact results_cells2 rfl _ _ ⟨w.heap.size + 1 + 1, 0, none⟩ ⟨w.heap.size + 1 + 1 + 1, 0, none⟩ _ _ rfl rfl (load_sec (HC2.out.far (by simp) _) rfl) (load_err (HC3.out.put 0 _))
  · have hr' : rightB d = false := by simpa using hr
    clear h hr
    go_enter Tryd.func59, Tryd.ntmps59
    go_wp2_with ((with_reducible show wpList _ _ _ (⟨_, .alloc 58, _, _, _, _⟩ :: _) _ _); refine hold ?_)
    refine held (wpList_alloc_to rfl 58 rfl (secv zsec).toArray (by kernel_rfl) ?_)
    go_wp2_with fail
    refine (right_any _ d _ ?hd).mono ?_
    case hd => exact Hd.out _ (by repeat (first | with_reducible exact Below.refl _ _ | (refine Below.alloc ?_ (by first | omega | (simp; done) | (simp; omega)) _)))
    rintro e w1 ⟨rfl, hb1⟩
    have B0 : Bk w1 w.heap.size 28 #[.slice A n c, .slice A' n' c', .int .i64 d.fuse, .bool d.down] := Bk.below (by exact (((Bk.new _ _ _).alloc _).alloc _).alloc _) hb1 (by simp only [World.size_alloc]; omega)
    have B1 : Bk w1 (w.heap.size + 1) 3 #[.int .i64 a] := Bk.below (by exact ((Bk.new2 _ _ _ _).alloc _).alloc _) hb1 (by simp only [World.size_alloc]; omega)
    have B2 : Bk w1 (w.heap.size + 1 + 1) 58 (secv zsec).toArray := Bk.below (by exact (Bk.new3 _ _ _ _ _).alloc _) hb1 (by simp only [World.size_alloc]; omega)
    have B3 : Bk w1 (w.heap.size + 1 + 1 + 1) 29 #[.int .i64 0] := Bk.below (by exact Bk.new4 _ _ _ _ _ _) hb1 (by simp only [World.size_alloc]; omega)
    have hb : Below w.heap.size w w1 := (((((Below.refl _ _).alloc (Nat.le_refl _) _).alloc (by simp) _).alloc (by simp only [World.size_alloc]; omega) _).alloc (by simp only [World.size_alloc]; omega) _).trans (hb1.mono (by simp only [World.size_alloc]; omega))
    clear hb1
    obtain ⟨⟨p0, p1, p2, p3⟩, q0, q1, q2, q3⟩ := B0.four
    have r0 := B1.cell 0
    have s0 := B3.cell 0
    have s1 := B3.frozen 0
    simp only [List.getElem?_toArray, List.getElem?_cons_zero] at r0 s0
    have HB0 := Lib.hid B0; have HB1 := Lib.hid B1; have HB2 := Lib.hid B2; have HB3 := Lib.hid B3; clear B0 B1 B2 B3
    go_wp2_with ((with_reducible show wpList _ _ _ (⟨some 16, _, _, _, _, _⟩ :: _) _ _); refine hold ?_)
    refine held (wpList_build_to rfl 58 #[] rfl [] rfl (secv zsec).toArray built_zsec ?_)
    go_wp2_with ((with_reducible show wpList _ _ _ (⟨none, .store 58 _ _, _, _, _, _⟩ :: _) _ _); refine hold ?_)
    refine held (wpList_store_wide rfl 58 (.tmp 4) (.tmp 16) rfl (w.heap.size + 1 + 1) 0 (secv zsec).toArray rfl rfl 58 _ HB2.out (by simp) (by kernel_rfl) (by simpa using secv_one zsec) ?_)
    intro w5 hw5
    rw [splice_whole rfl] at hw5
    have e5 := hw5.out
    clear hw5
    have C2 : Bk w5 (w.heap.size + 1 + 1) 58 (secv zsec).toArray := by rw [e5]; exact HB2.out.setRow_same _
    have C3 : Bk w5 (w.heap.size + 1 + 1 + 1) 29 #[.int .i64 0] := by rw [e5]; exact HB3.out.setRow_other (by omega) _
    have hb5 : Below w.heap.size w w5 := by rw [e5]; exact below_setRow hb (by omega) _
    clear e5 p0 p1 p2 p3 q0 q1 q2 q3 r0 s0 s1 HB0 HB1 HB2 HB3 hb
    have s0 := C3.cell 0
    have s1 := C3.frozen 0
    simp only [List.getElem?_toArray, List.getElem?_cons_zero] at s0
    have HC2 := Lib.hid C2; have HC3 := Lib.hid C3; clear C2 C3
    go_wp2
    refine bodyPost_ret (v := .tuple #[.agg (secv zsec).toArray, .int .i64 1]) ?_ rfl ⟨rfl, hb5.setCell (by show _ ≤ w.heap.size + 1 + 1 + 1; omega) _⟩
    exact results_cells2 rfl _ _ ⟨w.heap.size + 1 + 1, 0, none⟩ ⟨w.heap.size + 1 + 1 + 1, 0, none⟩ _ _ rfl rfl (load_sec (HC2.out.far (by simp) _) rfl) (load_err (HC3.out.put 0 _))

set_option maxRecDepth 100000 in
set_option maxHeartbeats 1000000 in
/-- Read, the disk being down -/
theorem read_down (v : Value) (d : Dk) (a : Int) (w : World) (hd : DkAt w w.heap.size v d) (h : (rightB d && thereB d.secs.length a) = true) (hdn : d.down = true) :
    Calls Tryd.prog 59 #[v, .int .i64 a] w (SecRes w (zsec, 9)) := by
  have hdW := fun W => hd.later (W := W)
  obtain ⟨A, n, c, A', n', c', rfl, hnc, hnc', hc, hc', hS, hL⟩ := hd
  have hn : n = d.secs.length := by have := hS.1; simpa using this.symm
  rw [← hn] at h
  have HS := Lib.hid hS; have HL := Lib.hid hL; clear hS hL
  have Hd := Lib.hid hdW; clear hdW
  have HN := Lib.hid hn; clear hn
  have hcc : n ≤ maxLen := by omega
  have Hdn := Lib.hid hdn; clear hdn
  obtain ⟨hr, ht⟩ : rightB d = true ∧ thereB n a = true := by simpa using h
  clear h
  go_enter Tryd.func59, Tryd.ntmps59
  go_wp2_with ((with_reducible show wpList _ _ _ (⟨_, .alloc 58, _, _, _, _⟩ :: _) _ _); refine hold ?_)
  refine held (wpList_alloc_to rfl 58 rfl (secv zsec).toArray (by kernel_rfl) ?_)
  go_wp2_with fail
  refine (right_any _ d _ ?hd).mono ?_
  case hd => exact Hd.out _ (by repeat (first | with_reducible exact Below.refl _ _ | (refine Below.alloc ?_ (by first | omega | (simp; done) | (simp; omega)) _)))
  rintro e w1 ⟨rfl, hb1⟩
  have B0 : Bk w1 w.heap.size 28 #[.slice A n c, .slice A' n' c', .int .i64 d.fuse, .bool d.down] := Bk.below (by exact (((Bk.new _ _ _).alloc _).alloc _).alloc _) hb1 (by simp only [World.size_alloc]; omega)
  have B1 : Bk w1 (w.heap.size + 1) 3 #[.int .i64 a] := Bk.below (by exact ((Bk.new2 _ _ _ _).alloc _).alloc _) hb1 (by simp only [World.size_alloc]; omega)
  have B2 : Bk w1 (w.heap.size + 1 + 1) 58 (secv zsec).toArray := Bk.below (by exact (Bk.new3 _ _ _ _ _).alloc _) hb1 (by simp only [World.size_alloc]; omega)
  have B3 : Bk w1 (w.heap.size + 1 + 1 + 1) 29 #[.int .i64 0] := Bk.below (by exact Bk.new4 _ _ _ _ _ _) hb1 (by simp only [World.size_alloc]; omega)
  have hb : Below w.heap.size w w1 := (((((Below.refl _ _).alloc (Nat.le_refl _) _).alloc (by simp) _).alloc (by simp only [World.size_alloc]; omega) _).alloc (by simp only [World.size_alloc]; omega) _).trans (hb1.mono (by simp only [World.size_alloc]; omega))
  clear hb1
  obtain ⟨⟨p0, p1, p2, p3⟩, q0, q1, q2, q3⟩ := B0.four
  have r0 := B1.cell 0
  have s0 := B3.cell 0
  have s1 := B3.frozen 0
  simp only [List.getElem?_toArray, List.getElem?_cons_zero] at r0 s0
  have HB0 := Lib.hid B0; have HB1 := Lib.hid B1; have HB2 := Lib.hid B2; have HB3 := Lib.hid B3; clear B0 B1 B2 B3
  go_wp2_with fail
  refine (isThere_any _ _ _ _ _ _ _ _ _ _ (by omega)).mono ?_
  rintro e w2 ⟨rfl, hb2⟩
  clear p0 p1 p2 p3 q0 q1 q2 q3 r0 s0 s1
  have B0 := HB0.out.below hb2 HB0.out.lt
  have B1 := HB1.out.below hb2 HB1.out.lt
  have B2 := HB2.out.below hb2 HB2.out.lt
  have B3 := HB3.out.below hb2 HB3.out.lt
  replace hb := hb.trans (hb2.mono hb.size)
  clear hb2 HB0 HB1 HB2 HB3
  obtain ⟨⟨p0, p1, p2, p3⟩, q0, q1, q2, q3⟩ := B0.four
  have r0 := B1.cell 0
  have s0 := B3.cell 0
  have s1 := B3.frozen 0
  simp only [List.getElem?_toArray, List.getElem?_cons_zero] at r0 s0
  have HB0 := Lib.hid B0; have HB1 := Lib.hid B1; have HB2 := Lib.hid B2; have HB3 := Lib.hid B3; clear B0 B1 B2 B3
  rw [Hdn.out] at p3
  go_wp2_with ((with_reducible show wpList _ _ _ (⟨some 19, _, _, _, _, _⟩ :: _) _ _); refine hold ?_)
  refine held (wpList_build_to rfl 58 #[] rfl [] rfl (secv zsec).toArray built_zsec ?_)
  go_wp2_with ((with_reducible show wpList _ _ _ (⟨none, .store 58 _ _, _, _, _, _⟩ :: _) _ _); refine hold ?_)
  refine held (wpList_store_wide rfl 58 (.tmp 4) (.tmp 19) rfl (w.heap.size + 1 + 1) 0 (secv zsec).toArray rfl rfl 58 _ HB2.out (by simp) (by kernel_rfl) (by simpa using secv_one zsec) ?_)
  intro w5 hw5
  rw [splice_whole rfl] at hw5
  have e5 := hw5.out
  clear hw5
  have C2 : Bk w5 (w.heap.size + 1 + 1) 58 (secv zsec).toArray := by rw [e5]; exact HB2.out.setRow_same _
  have C3 : Bk w5 (w.heap.size + 1 + 1 + 1) 29 #[.int .i64 0] := by rw [e5]; exact HB3.out.setRow_other (by omega) _
  have hb5 : Below w.heap.size w w5 := by rw [e5]; exact below_setRow hb (by omega) _
  clear e5 p0 p1 p2 p3 q0 q1 q2 q3 r0 s0 s1 HB0 HB1 HB2 HB3 hb
  have s0 := C3.cell 0
  have s1 := C3.frozen 0
  simp only [List.getElem?_toArray, List.getElem?_cons_zero] at s0
  have HC2 := Lib.hid C2; have HC3 := Lib.hid C3; clear C2 C3
  go_wp2
  refine bodyPost_ret (v := .tuple #[.agg (secv zsec).toArray, .int .i64 9]) ?_ rfl ⟨rfl, hb5.setCell (by show _ ≤ w.heap.size + 1 + 1 + 1; omega) _⟩
  exact results_cells2 rfl _ _ ⟨w.heap.size + 1 + 1, 0, none⟩ ⟨w.heap.size + 1 + 1 + 1, 0, none⟩ _ _ rfl rfl (load_sec (HC2.out.far (by simp) _) rfl) (load_err (HC3.out.put 0 _))
end Go.Proofs.YtofbpkaebngnlaaDoor

/-
  A walk over package sector: what Read answers of a disk that is up: the last loose write of the sector, or what is sure. It leaves all older memory as it was.
-/
namespace Go.Proofs.YtofbpkaebngnlaaDoor
set_option linter.unusedVariables false
set_option linter.unusedSimpArgs false
open Go.RowKit Go.Shelf

attribute [local go_sem] Oper.semAt_some

theorem read_view (ss : List (List Int)) (l : List (Int × List Int)) (h : looseB ss.length l = true) (k : Nat) (hk : k < ss.length) :
    (doneM (fun _ => true) 0 ss l).getD k [] = rowM ss (comeM (fun _ => true) l 0) k := by
  rw [← doneM_come _ _ _ h]
  simp [rowsM, hk]
theorem rowM_hit (ss : List (List Int)) (all pre : List (Int × List Int)) (x : Int × List Int) (k : Nat) (hp : pre ++ [x] <+: all) (hn : ∀ y ∈ pre, y.1 ≠ (k : Int)) (hx : x.1 = (k : Int)) : rowM ss all k = x.2 := by
  obtain ⟨r, rfl⟩ := hp
  unfold rowM
  rw [List.append_assoc, List.find?_append]
  have h1 : pre.find? (fun x => x.1 == (k : Int)) = none := by
    rw [List.find?_eq_none]
    intro y hy
    simpa using hn y hy
  rw [h1]
  simp [hx]
theorem rowM_none (ss : List (List Int)) (all : List (Int × List Int)) (k : Nat) (hn : ∀ y ∈ all, y.1 ≠ (k : Int)) : rowM ss all k = ss.getD k [] := by
  unfold rowM
  have h1 : all.find? (fun x => x.1 == (k : Int)) = none := by
    rw [List.find?_eq_none]
    intro y hy
    simpa using hn y hy
  rw [h1]

set_option maxRecDepth 100000 in
set_option maxHeartbeats 2000000 in
/-- Read, done -/
theorem read_ok (v : Value) (d : Dk) (k : Nat) (w : World) (hd : DkAt w w.heap.size v d) (h : (rightB d && thereB d.secs.length (k : Int)) = true) (hdn : d.down = false) :
    Calls Tryd.prog 59 #[v, .int .i64 (k : Int)] w (SecRes w ((viewM d).getD k [], 0)) := by
  have hdW := fun W => hd.later (W := W)
  obtain ⟨A, n, c, A', n', c', rfl, hnc, hnc', hc, hc', hS, hL⟩ := hd
  have hn : d.secs.length = n := by have := hS.1; simpa using this
  have hn' : d.loose.length = n' := by have := hL.1; simpa using this
  rw [hn] at h
  obtain ⟨hr, ht⟩ : rightB d = true ∧ thereB n (k : Int) = true := by simpa using h
  clear h
  have hkn : k < n := by simp [thereB] at ht; exact ht
  have hR : n ≤ 4096 ∧ n' ≤ 100000 ∧ looseB n d.loose = true := by
    unfold rightB at hr
    simp only [Bool.and_eq_true, decide_eq_true_eq, hn, hn'] at hr
    exact ⟨hr.1.1.1, hr.1.1.2, hr.2⟩
  obtain ⟨h4096, h100, hlo⟩ := hR
  obtain ⟨xs, hxs⟩ := wr_of (n := n) hlo (fun x hx => by have := hL.2.1 (wrv x) (List.mem_map.2 ⟨x, hx, rfl⟩); simpa [wrv_length] using this)
  have hcc : n ≤ maxLen := by omega
  have HDN := Lib.hid hdn
  have HN := Lib.hid hn; have HN' := Lib.hid hn'; have HX := Lib.hid hxs; have HLO := Lib.hid hlo; clear hn hn' hxs hlo hdn
  have HS := Lib.hid hS; have HL := Lib.hid hL; clear hS hL
  have Hd := Lib.hid hdW; clear hdW
  refine (callsIn_wide (n := 3)).1 ?_
  refine callsIn_of_wp_marks Tryd.func59 rfl trivial ?_ rfl
  simp only [Tryd.ntmps59, List.size_toArray, List.length_cons, List.length_nil, Nat.reduceAdd, Nat.reduceSub, Array.replicate_succ, Array.replicate_zero, List.push_toArray, List.append_toArray, List.nil_append, List.cons_append]
  gi_wp2_with ((with_reducible show wpListIn _ _ _ _ _ (⟨_, .alloc 58, _, _, _, _⟩ :: _) _ _); refine hold ?_)
  refine held (wpListIn_alloc_to (by simp [Region.wanted]) 58 rfl (secv zsec).toArray (by kernel_rfl) ?_)
  gi_wp2_with fail
  refine ⟨trivial, (callsIn_wide.2 (right_any _ d _ ?hd)).mono ?_⟩
  case hd => exact Hd.out _ (by repeat (first | with_reducible exact Below.refl _ _ | (refine Below.alloc ?_ (by first | omega | (simp; done) | (simp; omega)) _)))
  rintro e w1 ⟨rfl, hb1⟩
  have B0 : Bk w1 w.heap.size 28 #[.slice A n c, .slice A' n' c', .int .i64 d.fuse, .bool d.down] := Bk.below (by exact (((Bk.new _ _ _).alloc _).alloc _).alloc _) hb1 (by simp only [World.size_alloc]; omega)
  have B1 : Bk w1 (w.heap.size + 1) 3 #[.int .i64 (k : Int)] := Bk.below (by exact ((Bk.new2 _ _ _ _).alloc _).alloc _) hb1 (by simp only [World.size_alloc]; omega)
  have B2 : Bk w1 (w.heap.size + 1 + 1) 58 (secv zsec).toArray := Bk.below (by exact (Bk.new3 _ _ _ _ _).alloc _) hb1 (by simp only [World.size_alloc]; omega)
  have B3 : Bk w1 (w.heap.size + 1 + 1 + 1) 29 #[.int .i64 0] := Bk.below (by exact Bk.new4 _ _ _ _ _ _) hb1 (by simp only [World.size_alloc]; omega)
  have hb : Below w.heap.size w w1 := (((((Below.refl _ _).alloc (Nat.le_refl _) _).alloc (by simp) _).alloc (by simp only [World.size_alloc]; omega) _).alloc (by simp only [World.size_alloc]; omega) _).trans (hb1.mono (by simp only [World.size_alloc]; omega))
  clear hb1
  obtain ⟨⟨p0, p1, p2, p3⟩, q0, q1, q2, q3⟩ := B0.four
  have r0 := B1.cell 0
  have s0 := B3.cell 0
  have s1 := B3.frozen 0
  simp only [List.getElem?_toArray, List.getElem?_cons_zero] at r0 s0
  have HB0 := Lib.hid B0; have HB1 := Lib.hid B1; have HB2 := Lib.hid B2; have HB3 := Lib.hid B3; clear B0 B1 B2 B3
  gi_wp2_with fail
  refine ⟨trivial, (callsIn_wide.2 (isThere_any _ _ _ _ _ _ _ _ _ _ (by omega))).mono ?_⟩
  rintro e w2 ⟨rfl, hb2⟩
  clear p0 p1 p2 p3 q0 q1 q2 q3 r0 s0 s1
  have B0 := HB0.out.below hb2 HB0.out.lt
  have B1 := HB1.out.below hb2 HB1.out.lt
  have B2 := HB2.out.below hb2 HB2.out.lt
  have B3 := HB3.out.below hb2 HB3.out.lt
  replace hb := hb.trans (hb2.mono hb.size)
  clear hb2 HB0 HB1 HB2 HB3
  obtain ⟨⟨p0, p1, p2, p3⟩, q0, q1, q2, q3⟩ := B0.four
  have r0 := B1.cell 0
  have s0 := B3.cell 0
  have s1 := B3.frozen 0
  simp only [List.getElem?_toArray, List.getElem?_cons_zero] at r0 s0
  have HB0 := Lib.hid B0; have HB1 := Lib.hid B1; have HB2 := Lib.hid B2; have HB3 := Lib.hid B3; clear B0 B1 B2 B3
  rw [HDN.out] at p3
  gi_wp2_with fail
  refine ⟨trivial, (fromLast_in Fence.wide 2 trivial rfl A' n' c' 48 #[] _).mono ?_⟩
  rintro e w' ⟨rfl, rfl⟩
  gi_wp2_with fail
  refine wpIn_over (fun W => (Bk W w.heap.size 28 #[.slice A n c, .slice A' n' c', .int .i64 d.fuse, .bool d.down] ∧ Bk W (w.heap.size + 1) 3 #[.int .i64 (k : Int)] ∧ Bk W (w.heap.size + 1 + 1) 58 (secv zsec).toArray ∧ Bk W (w.heap.size + 1 + 1 + 1) 29 #[.int .i64 0]) ∧
      (Bk W w2.heap.size 26 #[.slice A' n' c'] ∧ Bk W (w2.heap.size + 1) 74 #[.func (.func 48) #[] #[]]) ∧ W.heap.size = w2.heap.size + 2 ∧ Below w.heap.size w W) ?hF ?hw
  case hF =>
    refine ⟨⟨(HB0.out.alloc _).alloc _, (HB1.out.alloc _).alloc _, (HB2.out.alloc _).alloc _, (HB3.out.alloc _).alloc _⟩, ⟨(Bk.new _ _ _).alloc _, Bk.new2 _ _ _ _⟩, by simp, ?_⟩
    have := hb.size
    repeat (first | with_reducible exact hb | (refine Below.alloc ?_ (by first | omega | (simp; done) | (simp; omega)) _))
  case hw =>
    have hlt3 : w.heap.size + 1 + 1 + 1 < w2.heap.size := HB3.out.lt
    clear p0 p1 p2 p3 q0 q1 q2 q3 r0 s0 s1 HB0 HB1 HB2 HB3 hb
    rintro W0 ⟨⟨B0, B1, B2, B3⟩, ⟨K3, K4⟩, hsz, hbw⟩
    obtain ⟨S, hSd⟩ : ∃ S : Nat → Prop, S = fun b => b < W0.heap.size := ⟨_, rfl⟩
    have hS0 : S w2.heap.size := by rw [hSd]; omega
    have hS1 : S (w2.heap.size + 1) := by rw [hSd]; omega
    have hSn : ∀ b, b < w.heap.size → S b := fun b h => by rw [hSd]; show b < W0.heap.size; omega
    have hSw : ∀ b, S b → b < W0.heap.size := fun b h => by rw [hSd] at h; exact h
    have hsb : ∀ b, b < W0.heap.size → S b := fun b h => by rw [hSd]; exact h
    clear hSd
    refine wpIn_rangeFunc_ownH (α := Wr n) rfl (by omega) (gf := 60) (lb := #[.pointer (some ⟨w2.heap.size, 0, none⟩), .pointer (some ⟨w2.heap.size + 1, 0, none⟩)]) rfl trivial
      (enters_of Tryd.func60 (by kernel_rfl) rfl)
      (fromLast_stops (α := Wr n) Subtype.val Fence.wide 2 trivial rfl (by omega) w2.heap.size (w2.heap.size + 1) w.heap.size S A' n' c' 48 #[] xs (fun _ => true) (by omega) W0 (K3.cell 0) (K4.cell 0) hS0 hS1 hSn hSw ?hA (every_stays _ S W0))
      Keeps.trans (keeps_putObj hSw) (Below.refl _ _) (fun _ => rfl)
      (fun pre W => (∀ y ∈ pre.map Subtype.val, y.1 ≠ (k : Int)) ∧ Keeps S W0 W)
      (fun c pre W => c = .ret ∧ ∃ (pre0 : List (Wr n)) (x : Wr n), pre = pre0 ++ [x] ∧ (∀ y ∈ pre0.map Subtype.val, y.1 ≠ (k : Int)) ∧ x.val.1 = (k : Int) ∧ Bk W (w.heap.size + 1 + 1) 58 (secv x.val.2).toArray ∧ Bk W (w.heap.size + 1 + 1 + 1) 29 #[.int .i64 0] ∧ Below w.heap.size w W)
      ?hI ?hIx ?h0
      (fun x a' W => ∃ Bx, W0.heap.size ≤ Bx ∧ Bk W Bx 77 (wrv x.val).toArray ∧ a' = { tmps := #[.agg #[.slice A n c, .slice A' n' c', .int .i64 d.fuse, .bool d.down], .int .i64 (k : Int), .pointer (some ⟨w.heap.size, 0, none⟩), .pointer (some ⟨w.heap.size + 1, 0, none⟩), .pointer (some ⟨w.heap.size + 1 + 1, 0, none⟩), .pointer (some ⟨w.heap.size + 1 + 1 + 1, 0, none⟩), .pointer (some ⟨Bx, 0, none⟩), .agg #[.slice A n c, .slice A' n' c', .int .i64 d.fuse, .bool d.down], .bool true, .bool false, .bool false, .agg #[.slice A n c, .slice A' n' c', .int .i64 d.fuse, .bool d.down], .int .i64 (k : Int), .bool true, .bool false, .bool false, undef, .pointer (some ⟨w.heap.size, 3, none⟩), .bool false, undef, .pointer (some ⟨w.heap.size, 1, none⟩), .slice A' n' c', .func (.func 60) #[] #[.pointer (some ⟨w2.heap.size, 0, none⟩), .pointer (some ⟨w2.heap.size + 1, 0, none⟩)], .agg (wrv x.val).toArray, undef, undef, undef, undef, undef, undef, undef, undef, undef, undef, undef], defers := [] })
      (fun x a' _ A B row h hg hr => by obtain ⟨Bx, h1, h2, h3⟩ := h; exact ⟨Bx, h1, h2.kept hg (fun r e => (hr r e).2), h3⟩) ?assign ?body ?done ?stop
    case hA =>
      have := HL.out.below hbw (Nat.le_refl _)
      rw [← HX.out, List.map_map] at this
      exact this
    case hI =>
      intro s A B row ⟨h1, h3⟩ hg hr
      exact ⟨h1, keeps_from hSw (Nat.le_refl _) s A B row h3 hg hr⟩
    case hIx =>
      rintro c s A B row ⟨h1, pre0, x, h2, h3, h4, h5, h6, h7⟩ hg hr
      refine ⟨h1, pre0, x, h2, h3, h4, h5.kept hg (fun r e => (hr r e).2), h6.kept hg (fun r e => (hr r e).2), ?_⟩
      exact h7.grown hg h7.size (fun k e => by have := (hr k e).1; omega)
    case h0 => exact ⟨by simp, Keeps.refl _ _⟩
    case assign =>
      intro l pre x W K hI hK
      gi_wp2_with ((with_reducible show wpListIn _ _ _ _ _ (⟨_, .alloc _, _, _, _, _⟩ :: _) _ _); refine hold ?_)
      refine held (wpListIn_alloc_to (by simp [Region.wanted]) 77 rfl (wrv (0, zsec)).toArray (by kernel_rfl) ?_)
      gi_wp2_with ((with_reducible show wpListIn _ _ _ _ _ (⟨_, .store 77 _ _, _, _, _, _⟩ :: _) _ _); refine hold ?_)
      have hwl : (wrv x.val).length = 65 := by rw [wrv_length, x.2.2]
      refine held (wpListIn_store_wide (by simp [Region.wanted]) 77 (.tmp 6) (.tmp 23) rfl W.heap.size 0 (wrv x.val).toArray rfl rfl 77 _ (Bk.new _ _ _) (by simp [hwl, wrv_length, zsec]) (by simp only [List.size_toArray, hwl]; kernel_rfl) (by simpa using wrv_one x.val) ?_)
      intro w' hw'
      have e1 : w' = W.alloc (.cells (wrv x.val).toArray 77) := by
        rw [hw'.out, World.setRow_alloc_new]
        have e2 : splice (wrv (0, zsec)).toArray.toList 0 (wrv x.val).toArray.toList = wrv x.val := splice_whole (by simp [hwl, wrv_length, zsec])
        rw [e2]
      clear hw'
      subst e1
      obtain ⟨h1, h3⟩ := hI
      gi_wp2
      exact hK _ _ ((KeepsOthers.alloc W _).from _) ((Keeps.refl S W).alloc (fun b hb => Nat.lt_of_lt_of_le (hSw b hb) h3.size) _)
        ⟨h1, h3.alloc (fun b hb => Nat.lt_of_lt_of_le (hSw b hb) h3.size) _⟩
        ⟨W.heap.size, h3.size, Bk.new _ _ _, rfl⟩
    case body =>
      rintro l pre x a' W hl ⟨r, hr⟩ ⟨hI1, hI3⟩ ⟨Bx, hBx, bX, rfl⟩ hlt
      have hx64 : x.val.2.length = 64 := x.2.2
      have C1 : Bk W (w.heap.size + 1) 3 _ := (hI3.block _ (hsb _ (by omega))).trans B1
      have C2 : Bk W (w.heap.size + 1 + 1) 58 _ := (hI3.block _ (hsb _ (by omega))).trans B2
      have C3 : Bk W (w.heap.size + 1 + 1 + 1) 29 _ := (hI3.block _ (hsb _ (by omega))).trans B3
      have cx : W.cell? ⟨Bx, 0, none⟩ = some (.int .i64 x.val.1) := by rw [bX.cell]; rfl
      have r0 : W.cell? ⟨w.heap.size + 1, 0, none⟩ = some (.int .i64 (k : Int)) := C1.cell 0
      have s0 : W.cell? ⟨w.heap.size + 1 + 1 + 1, 0, none⟩ = some (.int .i64 0) := C3.cell 0
      have s1 := C3.frozen 0
      have HI1 := Lib.hid hI1; have HKP := Lib.hid hI3; have HBX := Lib.hid bX; have HC2 := Lib.hid C2; have HC3 := Lib.hid C3
      clear hI1 hI3 bX C1 C2 C3 hr
      by_cases hx : x.val.1 = (k : Int)
      · have hxb : (x.val.1 == (k : Int)) = true := by simpa using hx
        have Hx := Lib.hid hx
        clear hx
        have hxl : (secv x.val.2).length = 64 := by rw [secv_length, hx64]
        gi_wp2_with ((with_reducible show wpListIn _ _ _ _ _ (⟨some 29, _, _, _, _, _⟩ :: _) _ _); refine hold ?_)
        refine held (wpListIn_load_mid (by simp [Region.wanted]) 58 (.tmp 28) rfl Bx 1 rfl (secv x.val.2) (.array 64 5) ?_ Tryd.underlying58 rfl (by rw [hxl]; kernel_rfl) ?_)
        · intro j u hu
          rw [HBX.out.cell, Nat.add_comm]
          simpa [wrv] using hu
        gi_wp2_with ((with_reducible show wpListIn _ _ _ _ _ (⟨none, .store 58 _ _, _, _, _, _⟩ :: _) _ _); refine hold ?_)
        refine held (wpListIn_store_wide (by simp [Region.wanted]) 58 (.tmp 4) (.tmp 29) rfl (w.heap.size + 1 + 1) 0 (secv x.val.2).toArray rfl rfl 58 _ HC2.out (by simp only [List.size_toArray, secv_length, hx64]; simp [zsec]) (by simp only [List.size_toArray, hxl]; kernel_rfl) (by simpa using secv_one x.val.2) ?_)
        intro w' hw2
        rw [splice_whole (by simp [secv_length, hx64, zsec])] at hw2
        have e2 := hw2.out
        have D2 : Bk w' (w.heap.size + 1 + 1) 58 (secv x.val.2).toArray := by rw [e2]; exact HC2.out.setRow_same _
        have D3 : Bk w' (w.heap.size + 1 + 1 + 1) 29 #[.int .i64 0] := by rw [e2]; exact HC3.out.setRow_other (by omega) _
        have hko : KeepsOthers W w' := by rw [e2]; exact keepsOthers_setRow _ _ 58 _ _ HC2.out
        have hbb : Below w.heap.size w w' := by rw [e2]; exact below_setRow (hbw.trans (HKP.out.below hSn)) (by omega) _
        clear e2 hw2 s0 s1 r0 cx
        have s0 : w'.cell? ⟨w.heap.size + 1 + 1 + 1, 0, none⟩ = some (.int .i64 0) := D3.cell 0
        have s1 := D3.frozen 0
        have HD2 := Lib.hid D2; have HD3 := Lib.hid D3; clear D2 D3
        gi_wp2
        refine ⟨(hko.trans (KeepsOthers.setCell _ _ _)).from _, rfl, pre, x, rfl, HI1.out, Hx.out, HD2.out.far (by simp) _, HD3.out.put 0 _, hbb.setCell (by show w.heap.size ≤ w.heap.size + 1 + 1 + 1; omega) _⟩
      · have hxb : (x.val.1 == (k : Int)) = false := by simpa using hx
        have Hx := Lib.hid hx
        clear hx
        gi_wp2
        refine ⟨KeepsFrom.refl _ _, Keeps.refl _ _, ?_, HKP.out⟩
        intro y hy
        rw [List.map_append, List.mem_append] at hy
        rcases hy with hy | hy
        · exact HI1.out y hy
        · simp only [List.map_cons, List.map_nil, List.mem_singleton] at hy
          rw [hy]
          exact Hx.out
    case done =>
      rintro D ys W hD rfl ⟨h1, h3⟩ hK
      obtain ⟨bS, oS, hA0, hbS, hrS⟩ := HS.out.at_ hkn
      subst hA0
      have hrow : (d.secs.map secv).getD k [] = secv (d.secs.getD k []) := by
        have hk : k < d.secs.length := by rw [HN.out]; exact hkn
        simp [hk]
      rw [hrow] at hrS
      have hs64 : (d.secs.getD k []).length = 64 := by
        have hk : k < d.secs.length := by rw [HN.out]; exact hkn
        have := HS.out.2.1 (secv (d.secs.getD k [])) (List.mem_map.2 ⟨d.secs.getD k [], by simp [hk], rfl⟩)
        simpa [secv_length] using this
      have hview : (viewM d).getD k [] = d.secs.getD k [] := by
        unfold viewM
        rw [read_view _ _ (by rw [HN.out]; exact HLO.out) k (by rw [HN.out]; exact hkn), rowM_none]
        intro y hy
        rw [← HX.out, ← comeM_map] at hy
        exact h1 y hy
      have C0 : Bk W w.heap.size 28 _ := (h3.block _ (hsb _ (by omega))).trans B0
      have C1 : Bk W (w.heap.size + 1) 3 _ := (h3.block _ (hsb _ (by omega))).trans B1
      have C2 : Bk W (w.heap.size + 1 + 1) 58 _ := (h3.block _ (hsb _ (by omega))).trans B2
      have C3 : Bk W (w.heap.size + 1 + 1 + 1) 29 _ := (h3.block _ (hsb _ (by omega))).trans B3
      have hbW : Below w.heap.size w W := hbw.trans (h3.below hSn)
      have HrS := Lib.hid (rangeAt_keep hrS (w' := W) (fun p hp => hbW.cell (by omega)))
      have Hview := Lib.hid hview
      have p0 : W.cell? ⟨w.heap.size, 0, none⟩ = some (.slice (some ⟨bS, oS, none⟩) n c) := C0.cell 0
      have r0 : W.cell? ⟨w.heap.size + 1, 0, none⟩ = some (.int .i64 (k : Int)) := C1.cell 0
      have s0 : W.cell? ⟨w.heap.size + 1 + 1 + 1, 0, none⟩ = some (.int .i64 0) := C3.cell 0
      have s1 := C3.frozen 0
      have HC2 := Lib.hid C2; have HC3 := Lib.hid C3; have HK := Lib.hid hK; have Hs := Lib.hid hs64
      have hkn' : (k : Int) < (n : Int) := by omega
      clear h1 h3 C0 C1 C2 C3 hK hs64 hview hrS hrow
      gi_wp2_with ((with_reducible show wpListIn _ _ _ _ _ (⟨some 34, _, _, _, _, _⟩ :: _) _ _); refine hold ?_)
      refine held (wpListIn_load_mid (by simp [Region.wanted]) 58 (.tmp 33) rfl bS (oS + k * 64) rfl (secv (d.secs.getD k [])) (.array 64 5) HrS.out Tryd.underlying58 rfl (by rw [secv_length, Hs.out]; kernel_rfl) ?_)
      gi_wp2_with ((with_reducible show wpListIn _ _ _ _ _ (⟨none, .store 58 _ _, _, _, _, _⟩ :: _) _ _); refine hold ?_)
      refine held (wpListIn_store_wide (by simp [Region.wanted]) 58 (.tmp 4) (.tmp 34) rfl (w.heap.size + 1 + 1) 0 (secv (d.secs.getD k [])).toArray rfl rfl 58 _ HC2.out (by simp only [List.size_toArray, secv_length, Hs.out]; simp [zsec]) (by simp only [List.size_toArray, secv_length, Hs.out]; kernel_rfl) (by simpa using secv_one _) ?_)
      intro w' hw2
      rw [splice_whole (by simp only [secv_length, Hs.out]; simp [zsec])] at hw2
      have e2 := hw2.out
      have D2 : Bk w' (w.heap.size + 1 + 1) 58 (secv (d.secs.getD k [])).toArray := by rw [e2]; exact HC2.out.setRow_same _
      have D3 : Bk w' (w.heap.size + 1 + 1 + 1) 29 #[.int .i64 0] := by rw [e2]; exact HC3.out.setRow_other (by omega) _
      have hK5 : w'.heap[D]? = some (.deferred (some [])) := (by rw [e2]; exact (keepsOthers_setRow _ _ 58 _ _ HC2.out).same D _ HK.out rfl)
      have hbb : Below w.heap.size w w' := by rw [e2]; exact below_setRow hbW (by omega) _
      clear e2 hw2 s0 s1 r0 p0
      have s0 : w'.cell? ⟨w.heap.size + 1 + 1 + 1, 0, none⟩ = some (.int .i64 0) := D3.cell 0
      have s1 := D3.frozen 0
      have HD2 := Lib.hid D2; have HD3 := Lib.hid D3; have HK5 := Lib.hid hK5; clear D2 D3 hK5
      gi_wp2
      have hKf := (KeepsOthers.setCell w' ⟨w.heap.size + 1 + 1 + 1, 0, none⟩ (.int .i64 0)).same D _ HK5.out rfl
      have hkp : ∀ r, some D = some r → ∃ o : Obj, (w'.setCell ⟨w.heap.size + 1 + 1 + 1, 0, none⟩ (.int .i64 0)).heap[r]? = some o ∧ o.isCells = false := fun r e => by cases e; exact ⟨_, hKf, rfl⟩
      have hgb := grownBy_putObj' (w'.setCell ⟨w.heap.size + 1 + 1 + 1, 0, none⟩ (.int .i64 0)) D (.deferred none)
      refine ⟨by simp, .inl ⟨_, _, rfl, run_takeDeferred hKf, ?_⟩⟩
      have hbf : Below w.heap.size w (w'.setCell ⟨w.heap.size + 1 + 1 + 1, 0, none⟩ (.int .i64 0)) := hbb.setCell (by show w.heap.size ≤ w.heap.size + 1 + 1 + 1; omega) _
      refine ⟨_, results_cells2 rfl _ _ ⟨w.heap.size + 1 + 1, 0, none⟩ ⟨w.heap.size + 1 + 1 + 1, 0, none⟩ _ _ rfl rfl (load_sec ((HD2.out.far (by simp) _).kept hgb hkp) Hs.out) (load_err ((HD3.out.put 0 _).kept hgb hkp)), ?_⟩
      refine ⟨?_, hbf.grown hgb hbf.size (fun k e => by cases e; have := hbw.size; omega)⟩
      show _ = Ending.returned (.tuple #[.agg (secv ((viewM d).getD k [])).toArray, .int .i64 0])
      rw [Hview.out]
    case stop =>
      rintro D c' pre W hD hpre ⟨rfl, pre0, x, hpe, h1, hx, h5, h6, h7⟩ hK
      have hview : (viewM d).getD k [] = x.val.2 := by
        unfold viewM
        rw [read_view _ _ (by rw [HN.out]; exact HLO.out) k (by rw [HN.out]; exact hkn)]
        refine rowM_hit _ _ (pre0.map Subtype.val) x.val k ?_ h1 hx
        rw [hpe] at hpre
        obtain ⟨r, hr⟩ := hpre
        refine ⟨r.map Subtype.val, ?_⟩
        rw [← HX.out, ← comeM_map, ← hr]
        simp
      have Hview := Lib.hid hview
      have H5 := Lib.hid h5; have H6 := Lib.hid h6; have H7 := Lib.hid h7; have HK := Lib.hid hK
      clear hview h5 h6 h7 hK hx h1 hpe hpre
      gi_wp2
      have hkp : ∀ r, some D = some r → ∃ o : Obj, W.heap[r]? = some o ∧ o.isCells = false := fun r e => by cases e; exact ⟨_, HK.out, rfl⟩
      have hgb := grownBy_putObj' W D (.deferred none)
      refine ⟨by simp, .inl ⟨_, _, rfl, run_takeDeferred HK.out, ?_⟩⟩
      refine ⟨_, results_cells2 rfl _ _ ⟨w.heap.size + 1 + 1, 0, none⟩ ⟨w.heap.size + 1 + 1 + 1, 0, none⟩ _ _ rfl rfl (load_sec (H5.out.kept hgb hkp) x.2.2) (load_err (H6.out.kept hgb hkp)), ?_⟩
      refine ⟨?_, H7.out.grown hgb H7.out.size (fun k e => by cases e; have := hbw.size; omega)⟩
      show _ = Ending.returned (.tuple #[.agg (secv ((viewM d).getD k [])).toArray, .int .i64 0])
      rw [Hview.out]
end Go.Proofs.YtofbpkaebngnlaaDoor
